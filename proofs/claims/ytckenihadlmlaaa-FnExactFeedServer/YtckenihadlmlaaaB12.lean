/- Spb, Spc, Open, OpenL, OpenM, OpenB, OpenS, OpenK, OpenN. -/
import Derived.Test.YtckenihadlmlaaaB11
namespace Go.Proofs.Ytckenihadlmlaaa
open Go.RowKit Go.ChangeMaps
set_option maxHeartbeats 1600000 in
set_option maxRecDepth 100000 in
theorem implFeed_any (lo hi : Nat) (i o : ByteArray) (n v : Bool) (b : Int) (ga : Option Addr) (gn gc : Nat) (G : List Int) (t : ByteArray) (w : World) (hi1 : i.size ≤ 1048576) (ho1 : o.size ≤ 1048576) (ht1 : t.size ≤ 1048576) (hgl : G.length = gn) (hgn : gn ≤ 1048576) (hs : Is lo hi w ga G) (hg0 : ga = none → gc = 0) :
    Calls Try.prog 34 #[snv i o n v b (.slice ga gn gc), .string t] w fun e w' => ∃ ag cg, e = .returned (.tuple #[snv (fsi i t v) o n v b (.slice ag gn cg), .bool (fso i t v)]) ∧ OwI w' w.heap.size (.slice ag gn cg) G ∧ Below w.heap.size w w' := by
  obtain ⟨W0, hW0⟩ : ∃ W0, (w.alloc (.cells #[.string i, .string o, .bool n, .bool v, .int .i64 b, .slice ga gn gc] 29)).alloc (.cells sn0 29) = W0 := ⟨_, rfl⟩
  have b0 : Below w.heap.size w W0 := by subst hW0; exact bpush (bpush (bre _) _) _
  have x0 : Sn W0 w.heap.size 29 i o n v b (.slice ga gn gc) := by subst hW0; exact (Sn.new w _ _ _ _ _ _ _).later (bpush (bre _) _)
  have x1 : Sn W0 (w.heap.size + 1) 29 ⟨#[]⟩ ⟨#[]⟩ false false 0 (.slice none 0 0) := by
    subst hW0
    have h := Sn.new (w.alloc (.cells #[.string i, .string o, .bool n, .bool v, .int .i64 b, .slice ga gn gc] 29)) 29 ⟨#[]⟩ ⟨#[]⟩ false false 0 (.slice none 0 0)
    simpa using h
  have HC := hid (copyOfSession_any lo hi i o n v b ga gn gc G W0 hi1 ho1 hgl hgn (hs.later b0) hg0)
  have X0 := hid x0
  have X1 := hid x1
  have B0 := hid b0
  have HW := hid hW0
  have c0 := x0.cells
  clear x0 x1 b0 hW0 hs hgl hgn hg0
  have hw1 : wrap64 ((i.size : Int) + (t.size : Int)) = (i.size : Int) + (t.size : Int) := by unfold wrap64; omega
  obtain ⟨I, k, e1, e2, hways⟩ := fso_ways i t v
  rw [e1, e2]
  have HY := hid hways
  have HI := hid hi1
  have HT := hid ht1
  clear e1 e2 hways hi1 ho1 ht1
  go_enter Try.func34, Try.ntmps34
  go_wp2_with fail
  rw [HW.out]
  clear HW
  refine HC.out.mono ?_; rintro e w1 ⟨ag, cg, rfl, ho, hb⟩
  have hlt : Hid (w.heap.size + 1 < W0.heap.size) := hid X1.out.lt
  have hle : Hid (W0.heap.size ≤ w1.heap.size) := hid hb.size
  have HLT : Hid (∀ j, Value.ownBlock (.slice ag gn cg) = some j → j < w1.heap.size) := fun j hj => (World.ownsRow.lt ho j hj).2
  obtain ⟨w2, hw2⟩ : ∃ W, w1.alloc (.cells #[.string i, .string o, .bool n, .bool v, .int .i64 b, .slice ag gn cg] 29) = W := ⟨_, rfl⟩
  have b2 : Below w1.heap.size w1 w2 := by subst hw2; exact bpush (bre _) _
  have x2 : Sn w2 w1.heap.size 29 i o n v b (.slice ag gn cg) := by subst hw2; exact Sn.new w1 _ _ _ _ _ _ _
  have O2 := hid (show OwI w2 W0.heap.size (.slice ag gn cg) G from own_later ho b2)
  have Y0 := hid ((X0.out.later hb).later b2)
  have Y1 := hid ((X1.out.later hb).later b2)
  have Y2 := hid x2
  have B2 := hid (btr (btr B0.out hb) b2)
  have c1 := Y0.out.cells
  have c2 := x2.cells
  have f2 := x2.loose
  have c3 := Y1.out.cells
  have f3 := Y1.out.loose
  clear ho hb b2 x2 X0 X1 B0 c0 HC
  rcases HY.out with ⟨rfl, rfl, rfl, h3, h4⟩ | ⟨rfl, rfl, rfl | ⟨rfl, h3⟩ | ⟨rfl, h3, h4⟩⟩
  · clear HY
    have HL : Hid ((i ++ t).size ≤ 1048576) := hid (by rw [ByteArray.size_append]; omega)
    have hl : w.heap.size + 1 < w1.heap.size := by have h1 := hlt.out; have h2 := hle.out; omega
    clear h3
    go_wp2_with fail
    clear c1 c2 c3 f2 f3 hw2
    refine (clone_any (i ++ t) _ HL.out).mono ?_; rintro e w3 ⟨rfl, hb⟩
    have Y1 := hid (Y1.out.later hb)
    have Y2 := hid (Y2.out.later hb)
    have O2 := hid (own_later O2.out hb)
    have B2 := hid (btr B2.out hb)
    have c2 := Y2.out.cells
    have f2 := Y2.out.loose
    have c3 := Y1.out.cells
    have f3 := Y1.out.loose
    clear hb
    go_wp2
    have g2 := wst (wre w3 (some w1.heap.size)) 0 (.string (i ++ t))
    have g3 := put6_grown (w3.setCell ⟨w1.heap.size, 0, none⟩ (.string (i ++ t))) (w.heap.size + 1) (i ++ t) o n false b (.slice ag gn cg)
    have d := ((Y1.out.grown g2 (by simp; omega)).put (i ++ t) o n false b (.slice ag gn cg)).cells
    unfold put6 at d g3
    have ho2 := OwI.grown (own_apart15 O2.out g2 HLT.out) g3 (by have := hlt.out; omega)
    refine bodyPost_ret (v := .tuple #[snv (i ++ t) o n false b (.slice ag gn cg), .bool true]) (by simp [results, Try.results34, go_sem, d]) rfl ⟨_, _, rfl, own_base ho2 (by have := hlt.out; omega), ?_⟩
    exact B2.out.trans ((below_of_grown g2 (by omega) B2.out.size).trans (below_of_grown g3 (by omega) (Nat.le_trans B2.out.size g2.size)))
  · clear HY
    go_wp2
    have g3 := put6_grown w2 (w.heap.size + 1) I o n true b (.slice ag gn cg)
    have d := (Y1.out.put I o n true b (.slice ag gn cg)).cells
    unfold put6 at d g3
    have ho2 := OwI.grown O2.out g3 (by have := hlt.out; omega)
    refine bodyPost_ret (v := .tuple #[snv I o n true b (.slice ag gn cg), .bool false]) (by simp [results, Try.results34, go_sem, d]) rfl ⟨_, _, rfl, own_base ho2 (by have := hlt.out; omega), ?_⟩
    exact B2.out.trans (below_of_grown g3 (by omega) B2.out.size)
  · clear HY
    have h4 : (400 : Int) < (I.size : Int) + (t.size : Int) := by omega
    clear h3
    go_wp2
    have g3 := put6_grown w2 (w.heap.size + 1) I o n false b (.slice ag gn cg)
    have d := (Y1.out.put I o n false b (.slice ag gn cg)).cells
    unfold put6 at d g3
    have ho2 := OwI.grown O2.out g3 (by have := hlt.out; omega)
    refine bodyPost_ret (v := .tuple #[snv I o n false b (.slice ag gn cg), .bool false]) (by simp [results, Try.results34, go_sem, d]) rfl ⟨_, _, rfl, own_base ho2 (by have := hlt.out; omega), ?_⟩
    exact B2.out.trans (below_of_grown g3 (by omega) B2.out.size)
  · clear HY h3
    go_wp2
    have g3 := put6_grown w2 (w.heap.size + 1) I o n false b (.slice ag gn cg)
    have d := (Y1.out.put I o n false b (.slice ag gn cg)).cells
    unfold put6 at d g3
    have ho2 := OwI.grown O2.out g3 (by have := hlt.out; omega)
    refine bodyPost_ret (v := .tuple #[snv I o n false b (.slice ag gn cg), .bool false]) (by simp [results, Try.results34, go_sem, d]) rfl ⟨_, _, rfl, own_base ho2 (by have := hlt.out; omega), ?_⟩
    exact B2.out.trans (below_of_grown g3 (by omega) B2.out.size)
/-- What comes of FeedSession, in letters. -/
theorem pairFeed (i o : ByteArray) (n v : Bool) (b : Int) (gn : Nat) (G : List Int) (t : ByteArray) (hi1 : i.size ≤ 1048576) (ho1 : o.size ≤ 1048576) (ht1 : t.size ≤ 1048576) (hgl : G.length = gn) (hgn : gn ≤ 1048576) :
    ∃ (I : ByteArray) (ok : Bool), Hid (∀ (lo hi kg : Nat) (w : World), Is lo hi w (some ⟨kg, 0, none⟩) G → Calls Try.prog 30 #[snv i o n v b (.slice (some ⟨kg, 0, none⟩) gn gn), .string t] w fun e w' => ∃ ag cg, e = .returned (.tuple #[snv I o n v b (.slice ag gn cg), .bool ok]) ∧ OwI w' w.heap.size (.slice ag gn cg) G ∧ Below w.heap.size w w') ∧
      Hid (∀ (lo hi kg : Nat) (w : World), Is lo hi w (some ⟨kg, 0, none⟩) G → Calls Try.prog 34 #[snv i o n v b (.slice (some ⟨kg, 0, none⟩) gn gn), .string t] w fun e w' => ∃ ag cg, e = .returned (.tuple #[snv I o n v b (.slice ag gn cg), .bool ok]) ∧ OwI w' w.heap.size (.slice ag gn cg) G ∧ Below w.heap.size w w') :=
  ⟨_, _, fun lo hi kg w h => specFeed_any lo hi i o n v b _ gn gn G t w hi1 ht1 hgl hgn h (by intro h; cases h), fun lo hi kg w h => implFeed_any lo hi i o n v b _ gn gn G t w hi1 ho1 ht1 hgl hgn h (by intro h; cases h)⟩
set_option maxHeartbeats 1600000 in
set_option maxRecDepth 100000 in
theorem joinOne_any (k c : Nat) (p s : ByteArray) (w : World) (hc : w.cell? ⟨k, 0, none⟩ = some (.string p)) : Calls Try.prog 53 #[.slice (some ⟨k, 0, none⟩) 1 c, .string s] w fun e w' => e = .returned (.string p) ∧ Below w.heap.size w w' := by
  go_enter Try.func53, Try.ntmps53
  go_wp2
  go_ret
  exact ⟨rfl, bre _⟩
set_option maxHeartbeats 1600000 in
set_option maxRecDepth 100000 in
theorem saidOne_any (k c : Nat) (t p : ByteArray) (w : World) (hc : w.cell? ⟨k, 0, none⟩ = some (.string p)) (ht : t.size ≤ 1048576) (hp : p.size ≤ 1048576) : Calls Try.prog 37 #[.string t, .slice (some ⟨k, 0, none⟩) 1 c] w fun e w' => e = .returned (.string (t ++ ⟨#[32]⟩ ++ p ++ ⟨#[13, 10]⟩)) ∧ Below w.heap.size w w' := by
  have HJ := hid (joinOne_any k c p ⟨#[32]⟩ w hc)
  clear hc
  have h1 : (t ++ (⟨#[32]⟩ : ByteArray)).size = t.size + 1 := ByteArray.size_append
  have h2 : (t ++ (⟨#[32]⟩ : ByteArray) ++ p).size = t.size + 1 + p.size := by rw [ByteArray.size_append, h1]
  go_enter Try.func37, Try.ntmps37
  go_wp2_with fail
  refine HJ.out.mono ?_; rintro e w1 ⟨rfl, hb⟩
  have HB := hid hb
  clear hb
  go_wp2
  go_ret
  exact ⟨rfl, HB.out⟩
set_option maxHeartbeats 1600000 in
set_option maxRecDepth 100000 in
theorem implSnNew_any (w : World) : Calls Try.prog 20 #[] w fun e w' => e = .returned (snv ⟨#[]⟩ ⟨#[42, 32, 79, 75, 13, 10]⟩ false false 0 (.slice none 0 0)) ∧ Below w.heap.size w w' := by
  obtain ⟨W0, hW0⟩ : ∃ W0, (w.alloc (.cells sn0 29)).alloc (.cells #[.string ⟨#[79, 75]⟩] 9) = W0 := ⟨_, rfl⟩
  have b0 : Below w.heap.size w W0 := by subst hW0; exact bpush (bpush (bre _) _) _
  have x0 : Sn W0 w.heap.size 29 ⟨#[]⟩ ⟨#[]⟩ false false 0 (.slice none 0 0) := by subst hW0; exact (Sn.new w _ _ _ _ _ _ _).later (bpush (bre _) _)
  have hc : W0.cell? ⟨w.heap.size + 1, 0, none⟩ = some (.string ⟨#[79, 75]⟩) := by
    subst hW0
    have h := heap_alloc_new (w.alloc (.cells sn0 29)) (.cells #[.string ⟨#[79, 75]⟩] 9)
    rw [World.size_alloc] at h
    exact cell_of_row _ _ 0 _ _ _ h
  have HC := saidOne_any (w.heap.size + 1) 1 ⟨#[42]⟩ ⟨#[79, 75]⟩ W0 hc (by decide) (by decide)
  rw [show ((⟨#[42]⟩ : ByteArray) ++ ⟨#[32]⟩ ++ ⟨#[79, 75]⟩ ++ ⟨#[13, 10]⟩) = ⟨#[42, 32, 79, 75, 13, 10]⟩ from rfl] at HC
  have HC := hid HC
  have X0 := hid x0
  have B0 := hid b0
  have HW := hid hW0
  clear x0 b0 hW0 hc
  go_enter Try.func20, Try.ntmps20
  go_wp2_with fail
  rw [HW.out]
  clear HW
  refine HC.out.mono ?_; rintro e w1 ⟨rfl, hb⟩
  have X0 := hid (X0.out.later hb)
  have B0 := hid (btr B0.out hb)
  have c0 := X0.out.cells
  have f0 := X0.out.loose
  clear hb HC
  go_wp2
  have g3 := put6_grown w1 w.heap.size ⟨#[]⟩ ⟨#[42, 32, 79, 75, 13, 10]⟩ false false 0 (.slice none 0 0)
  have d := (X0.out.put ⟨#[]⟩ ⟨#[42, 32, 79, 75, 13, 10]⟩ false false 0 (.slice none 0 0)).cells
  unfold put6 at d g3
  refine bodyPost_ret (v := snv ⟨#[]⟩ ⟨#[42, 32, 79, 75, 13, 10]⟩ false false 0 (.slice none 0 0)) (by simp [results, Try.results20, go_sem, d]) rfl ⟨rfl, ?_⟩
  exact B0.out.trans (below_of_grown g3 (by omega) B0.out.size)
end Go.Proofs.Ytckenihadlmlaaa
namespace Go.Proofs.Ytckenihadlmlaaa
open Go.ChangeShapes Go.WideShapes Go.ChangeAt Go.RowKit Go.Joins
theorem cellsInt : Try.prog.cellsOf 3 = 1 := by kernel_rfl
theorem cellsSt : Try.prog.cellsOf 103 = 2 := by kernel_rfl
theorem cellsRg : Try.prog.cellsOf 140 = 3 := by kernel_rfl
section
variable {H : Type} {enc : TypeId × Value → H} {w : World} {sp : Nat → Bool} {held : Bool}
set_option maxRecDepth 100000 in
theorem trodSt {fuel : Nat} {cs : List Value} {x : DataW H × List MemPlace} (hc : cs.length = 2) (h : DataW.trod enc Try.prog w 0 sp held fuel 103 cs = some x) :
    ∃ t b : Int, cs = [.int .i64 t, .int .i64 b] ∧ x = (.agg [.lit (.int .i64 t), .lit (.int .i64 b)], []) ∧ (Lit.int .i64 t).wf = true ∧ (Lit.int .i64 b).wf = true := by
  obtain ⟨y0, y1, n, hx, hl, h0, h1⟩ := trod_struct2 Try.underlying103 h
  match cs, hc with
  | [c0, c1], _ =>
    have k0 : DataW.trod enc Try.prog w 0 sp held n 3 [c0] = some y0 := by simpa [cellsInt] using h0
    have k1 : DataW.trod enc Try.prog w 0 sp held n 3 [c1] = some y1 := by simpa [cellsInt] using h1
    obtain ⟨t, e0, rfl, w0⟩ := DataW.trod_int Try.underlying3 k0
    obtain ⟨b, e1, rfl, w1⟩ := DataW.trod_int Try.underlying3 k1
    simp at e0 e1
    subst e0 e1
    exact ⟨t, b, rfl, hx, w0, w1⟩
end
section
variable {H : Type} {enc : TypeId × Value → H} {w : World} {spr : Nat → Bool} {held : Bool}
set_option maxRecDepth 100000 in
theorem trodRg {fuel : Nat} {cs : List Value} {y : DataW H × List MemPlace} (hc : cs.length = 3) (hf : DataW.trod enc Try.prog w 0 spr held fuel 140 cs = some y) :
    ∃ x t b : Int, cs = [.int .i64 x, .int .i64 t, .int .i64 b] := by
  match cs, hc with
  | [c0, c1, c2], _ =>
    obtain ⟨y0, y1, n, hx, hl, h0, h1⟩ := trod_struct2 Try.underlying140 hf
    have k0 : DataW.trod enc Try.prog w 0 spr held n 3 [c0] = some y0 := by simpa [cellsInt] using h0
    have k1 : DataW.trod enc Try.prog w 0 spr held n 103 [c1, c2] = some y1 := by simpa [cellsSt] using h1
    obtain ⟨x, e0, rfl, _⟩ := DataW.trod_int Try.underlying3 k0
    obtain ⟨t, b, e, rfl, _, _⟩ := trodSt rfl k1
    simp at e0 e
    obtain ⟨rfl, rfl⟩ := e
    subst e0
    exact ⟨x, t, b, rfl⟩
set_option maxRecDepth 100000 in
theorem addr_at {a : Addr} {u : Value} (h : w.cell? (a.add 0) = some u) : ∃ k o, a = ⟨k, o, none⟩ := by
  obtain ⟨k, o, s⟩ := a
  have hs : s = none := by simpa [Addr.add] using World.cell?_spot h
  exact ⟨k, o, by rw [hs]⟩
end
theorem cellsMl : Try.prog.cellsOf 131 = 4 := by kernel_rfl
theorem cellsRs : Try.prog.cellsOf 129 = 1 := by kernel_rfl
theorem cellsTx : Try.prog.cellsOf 9 = 1 := by kernel_rfl
section
variable {H : Type} {enc : TypeId × Value → H} {w : World} {spr : Nat → Bool} {held : Bool}
set_option maxRecDepth 100000 in
theorem trodRgS {fuel : Nat} {cs : List Value} {y : DataW H × List MemPlace} (hf : DataW.trod enc Try.prog w 0 spr held fuel 129 cs = some y) :
    ∃ (ao : Option Addr) (n cap : Nat) (l : List R3), cs = [.slice ao n cap] ∧ l.length = n ∧ (n : Int) ≤ 9223372036854775807 ∧ Rs w ao l := by
  rcases Go.Deep.open_slice Try.underlying129 hf with ⟨hcs, _⟩ | ⟨a, n, cap, m, nf, D, Pl, hcs, _, hl, hm, hmm, _, hx⟩
  · exact ⟨none, 0, 0, [], hcs, rfl, by decide, Rs.empty _ _⟩
  · have hlm : n ≤ m := by rw [hmm]; split <;> omega
    have hx' : ∀ i, i < n → ∃ r : R3, w.cell? (a.add (i * 3)) = some (.int .i64 r.1) ∧ w.cell? (a.add (i * 3 + 1)) = some (.int .i64 r.2.1) ∧ w.cell? (a.add (i * 3 + 2)) = some (.int .i64 r.2.2) := by
      intro i hi
      obtain ⟨cs, h1, h2⟩ := hx i (by omega)
      rw [cellsRg] at h1
      obtain ⟨_, hlen, hcell⟩ := World.cells?_some h1
      obtain ⟨x, t, b, rfl⟩ := trodRg hlen h2
      have e0 := hcell 0 (by omega)
      have e1 := hcell 1 (by omega)
      have e2 := hcell 2 (by omega)
      simp only [Go.Deep.add_add, Nat.add_zero] at e0 e1 e2
      exact ⟨(x, t, b), by simpa using e0, by simpa using e1, by simpa using e2⟩
    obtain ⟨r, hr⟩ := Go.Deep.choose_lt hx'
    refine ⟨some a, n, cap, (List.range n).map r, hcs, by simp, by unfold maxLen at hm; omega, ?_⟩
    intro hn
    simp at hn
    obtain ⟨k, o, rfl⟩ := addr_at (u := .int .i64 (r 0).1) (by simpa using (hr 0 hn).1)
    refine ⟨k, o, rfl, World.block_lt_of_cell? w (Addr.add ⟨k, o, none⟩ (0 * 3)) (hr 0 hn).1, fun i hi => ?_⟩
    have hi' : i < n := by simpa using hi
    have e := hr i hi'
    simp only [addr_add] at e
    simp only [List.getElem_map, List.getElem_range, Nat.add_assoc]
    exact e
end
theorem cellsBx : Try.prog.cellsOf 106 = 7 := by kernel_rfl
theorem cellsMls : Try.prog.cellsOf 104 = 1 := by kernel_rfl
theorem cellsIs : Try.prog.cellsOf 23 = 1 := by kernel_rfl
section
variable {H : Type} {enc : TypeId × Value → H} {w : World} {spr : Nat → Bool} {held : Bool}
theorem trod_struct6 {P : Program} {base : Nat} {spare : Nat → Bool} {t : TypeId} {f0 f1 f2 f3 f4 f5 : Field} {fuel : Nat} {cs : List Value} {x : DataW H × List MemPlace} (ht : P.underlying t = some (.struct #[f0, f1, f2, f3, f4, f5])) (h : DataW.trod enc P w base spare held fuel t cs = some x) :
    ∃ y0 y1 y2 y3 y4 y5 n, cs.length = P.cellsOf t ∧ DataW.trod enc P w base spare held n f0.type ((cs.drop f0.offset).take (P.cellsOf f0.type)) = some y0 ∧
      DataW.trod enc P w base spare held n f1.type ((cs.drop f1.offset).take (P.cellsOf f1.type)) = some y1 ∧ DataW.trod enc P w base spare held n f2.type ((cs.drop f2.offset).take (P.cellsOf f2.type)) = some y2 ∧
      DataW.trod enc P w base spare held n f3.type ((cs.drop f3.offset).take (P.cellsOf f3.type)) = some y3 ∧ DataW.trod enc P w base spare held n f4.type ((cs.drop f4.offset).take (P.cellsOf f4.type)) = some y4 ∧
      DataW.trod enc P w base spare held n f5.type ((cs.drop f5.offset).take (P.cellsOf f5.type)) = some y5 := by
  obtain ⟨xs, n, _, rfl, hl, hlen, hf⟩ := DataW.trod_struct ht h
  match xs, hlen with
  | [y0, y1, y2, y3, y4, y5], _ => exact ⟨y0, y1, y2, y3, y4, y5, n, hl, by simpa using hf 0 f0 rfl, by simpa using hf 1 f1 rfl, by simpa using hf 2 f2 rfl, by simpa using hf 3 f3 rfl, by simpa using hf 4 f4 rfl, by simpa using hf 5 f5 rfl⟩
/-- A list of registers in a field: a nil one has no room. -/
theorem trodRgZ {fuel : Nat} {cs : List Value} {y : DataW H × List MemPlace} (hf : DataW.trod enc Try.prog w 0 spr held fuel 129 cs = some y) :
    ∃ (ao : Option Addr) (n cap : Nat) (l : List R3), cs = [.slice ao n cap] ∧ l.length = n ∧ (n : Int) ≤ 9223372036854775807 ∧ Rs w ao l ∧ (ao = none → cap = 0) := by
  obtain ⟨ao, n, cap, l, h1, h2, h3, h4⟩ := trodRgS hf
  refine ⟨ao, n, cap, l, h1, h2, h3, h4, fun h0 => ?_⟩
  subst h0
  rcases Go.Deep.open_slice Try.underlying129 hf with ⟨hcs, _⟩ | ⟨a, n', cap', m, nf, D, Pl, hcs, _⟩
  · rw [h1] at hcs
    simp only [List.cons.injEq, Value.slice.injEq, and_true, true_and] at hcs
    exact hcs.2
  · rw [h1] at hcs
    simp at hcs
set_option maxRecDepth 100000 in
theorem trodMl {fuel : Nat} {cs : List Value} {y : DataW H × List MemPlace} (hc : cs.length = 4) (hf : DataW.trod enc Try.prog w 0 spr held fuel 131 cs = some y) :
    ∃ (r : M4) (fa : Option Addr) (fc : Nat), cs = [.int .i64 r.1, .int .i64 r.2.1, .slice fa r.2.2.1.length fc, .string r.2.2.2] ∧ ((r.2.2.1.length : Int) ≤ 9223372036854775807 ∧ (r.2.2.2.size : Int) ≤ 9223372036854775807) ∧ Rs w fa r.2.2.1 ∧ (fa = none → fc = 0) := by
  match cs, hc with
  | [c0, c1, c2, c3], _ =>
    obtain ⟨y0, y1, y2, y3, n, hx, hl, h0, h1, h2, h3⟩ := trod_struct4 Try.underlying131 hf
    have k0 : DataW.trod enc Try.prog w 0 spr held n 3 [c0] = some y0 := by simpa [cellsInt] using h0
    have k1 : DataW.trod enc Try.prog w 0 spr held n 3 [c1] = some y1 := by simpa [cellsInt] using h1
    have k2 : DataW.trod enc Try.prog w 0 spr held n 129 [c2] = some y2 := by simpa [cellsRs] using h2
    have k3 : DataW.trod enc Try.prog w 0 spr held n 9 [c3] = some y3 := by simpa [cellsTx] using h3
    obtain ⟨g, e0, _, _⟩ := DataW.trod_int Try.underlying3 k0
    obtain ⟨u, e1, _, _⟩ := DataW.trod_int Try.underlying3 k1
    obtain ⟨ao, m, cap, l, e2, hl2, hm, hr, hz⟩ := trodRgZ k2
    obtain ⟨t, e3, _, ht⟩ := DataW.trod_string Try.underlying9 k3
    simp only [List.cons.injEq, and_true] at e0 e1 e2 e3
    subst e0 e1 e2 e3 hl2
    exact ⟨(g, u, l, t), ao, cap, rfl, ⟨hm, by unfold maxLen at ht; dsimp only; omega⟩, hr, hz⟩
set_option maxRecDepth 100000 in
theorem trodMlS {fuel : Nat} {cs : List Value} {y : DataW H × List MemPlace} (hf : DataW.trod enc Try.prog w 0 spr held fuel 104 cs = some y) :
    ∃ (ao : Option Addr) (n cap : Nat) (L : List M4), cs = [.slice ao n cap] ∧ L.length = n ∧ (n : Int) ≤ 9223372036854775807 ∧ Fit L ∧ Ms 0 w.heap.size w ao L := by
  rcases Go.Deep.open_slice Try.underlying104 hf with ⟨hcs, _⟩ | ⟨a, n, cap, m, nf, D, Pl, hcs, _, hl, hm, hmm, _, hx⟩
  · exact ⟨none, 0, 0, [], hcs, rfl, by decide, (fun m hm => by cases hm), Nat.le_refl _, fun i hi => absurd hi (by simp)⟩
  · have hlm : n ≤ m := by rw [hmm]; split <;> omega
    have hx' : ∀ i, i < n → ∃ z : M4 × Option Addr × Nat, (w.cell? (a.add (i * 4)) = some (.int .i64 z.1.1) ∧ w.cell? (a.add (i * 4 + 1)) = some (.int .i64 z.1.2.1) ∧ w.cell? (a.add (i * 4 + 2)) = some (.slice z.2.1 z.1.2.2.1.length z.2.2) ∧ w.cell? (a.add (i * 4 + 3)) = some (.string z.1.2.2.2)) ∧ ((z.1.2.2.1.length : Int) ≤ 9223372036854775807 ∧ (z.1.2.2.2.size : Int) ≤ 9223372036854775807) ∧ Rs w z.2.1 z.1.2.2.1 ∧ (z.2.1 = none → z.2.2 = 0) := by
      intro i hi
      obtain ⟨cs, h1, h2⟩ := hx i (by omega)
      rw [cellsMl] at h1
      obtain ⟨_, hlen, hcell⟩ := World.cells?_some h1
      obtain ⟨r, fa, fc, rfl, hf1, hf2, hf3⟩ := trodMl hlen h2
      have e0 := hcell 0 (by omega)
      have e1 := hcell 1 (by omega)
      have e2 := hcell 2 (by omega)
      have e3 := hcell 3 (by omega)
      simp only [Go.Deep.add_add, Nat.add_zero] at e0 e1 e2 e3
      exact ⟨(r, fa, fc), ⟨by simpa using e0, by simpa using e1, by simpa using e2, by simpa using e3⟩, hf1, hf2, hf3⟩
    obtain ⟨r, hr⟩ := Go.Deep.choose_lt hx'
    refine ⟨some a, n, cap, (List.range n).map (fun i => (r i).1), hcs, by simp, by unfold maxLen at hm; omega, ?_, Nat.le_refl _, ?_⟩
    · intro x hx
      obtain ⟨i, hi, rfl⟩ := List.mem_map.1 hx
      exact (hr i (List.mem_range.1 hi)).2.1
    · intro i hi
      have hi' : i < n := by simpa using hi
      obtain ⟨e, _, e2, e3⟩ := hr i hi'
      obtain ⟨k, o, rfl⟩ := addr_at (a := a) (u := .int .i64 (r 0).1.1) (by simpa using (hr 0 (by omega)).1.1)
      have hb := World.block_lt_of_cell? w (Addr.add ⟨k, o, none⟩ (i * 4)) e.1
      simp only [addr_add] at e hb
      refine ⟨k, o, (r i).2.1, (r i).2.2, rfl, Nat.zero_le _, hb, ?_, ?_, e3⟩
      · simp only [List.getElem_map, List.getElem_range, Nat.add_assoc]
        exact e
      · simp only [List.getElem_map, List.getElem_range]
        intro hn
        obtain ⟨k', o', h1, h2, h3⟩ := e2 hn
        exact ⟨k', o', h1, Nat.zero_le _, h2, h3⟩
set_option maxRecDepth 100000 in
theorem trodIS {fuel : Nat} {cs : List Value} {y : DataW H × List MemPlace} (hf : DataW.trod enc Try.prog w 0 spr held fuel 23 cs = some y) :
    ∃ (ao : Option Addr) (n cap : Nat) (G : List Int), cs = [.slice ao n cap] ∧ G.length = n ∧ (n : Int) ≤ 9223372036854775807 ∧ Is 0 w.heap.size w ao G := by
  rcases Go.Deep.open_slice Try.underlying23 hf with ⟨hcs, _⟩ | ⟨a, n, cap, m, nf, D, Pl, hcs, _, hl, hm, hmm, _, hx⟩
  · exact ⟨none, 0, 0, [], hcs, rfl, by decide, Nat.le_refl _, fun i hi => absurd hi (by simp)⟩
  · have hlm : n ≤ m := by rw [hmm]; split <;> omega
    have hx' : ∀ i, i < n → ∃ z : Int, w.cell? (a.add i) = some (.int .i64 z) := by
      intro i hi
      obtain ⟨cs, h1, h2⟩ := hx i (by omega)
      rw [cellsInt] at h1
      obtain ⟨_, hlen, hcell⟩ := World.cells?_some h1
      match cs, hlen with
      | [c0], _ =>
        obtain ⟨z, e0, _, _⟩ := DataW.trod_int Try.underlying3 h2
        simp only [List.cons.injEq, and_true] at e0
        subst e0
        have e := hcell 0 (by omega)
        exact ⟨z, by simpa [Go.Deep.add_add] using e⟩
    obtain ⟨r, hr⟩ := Go.Deep.choose_lt hx'
    refine ⟨some a, n, cap, (List.range n).map r, hcs, by simp, by unfold maxLen at hm; omega, Nat.le_refl _, ?_⟩
    intro i hi
    have hi' : i < n := by simpa using hi
    have e := hr i hi'
    obtain ⟨k, o, rfl⟩ := addr_at (a := a) (u := .int .i64 (r 0)) (hr 0 (by omega))
    have hb := World.block_lt_of_cell? w (Addr.add ⟨k, o, none⟩ i) e
    simp only [addr_add] at e hb
    refine ⟨k, o, rfl, Nat.zero_le _, hb, ?_⟩
    simp only [List.getElem_map, List.getElem_range]
    exact e
end
theorem cellsSo : Try.prog.cellsOf 38 = 4 := by kernel_rfl
theorem cellsBxs : Try.prog.cellsOf 36 = 1 := by kernel_rfl
section
variable {H : Type} {enc : TypeId × Value → H} {w : World} {spr : Nat → Bool} {held : Bool}
theorem trodMlZ {fuel : Nat} {cs : List Value} {y : DataW H × List MemPlace} (hf : DataW.trod enc Try.prog w 0 spr held fuel 104 cs = some y) :
    ∃ (ao : Option Addr) (n cap : Nat) (L : List M4), cs = [.slice ao n cap] ∧ L.length = n ∧ (n : Int) ≤ 9223372036854775807 ∧ Fit L ∧ Ms 0 w.heap.size w ao L ∧ (ao = none → cap = 0) := by
  obtain ⟨ao, n, cap, l, h1, h2, h3, h4, h5⟩ := trodMlS hf
  refine ⟨ao, n, cap, l, h1, h2, h3, h4, h5, fun h0 => ?_⟩
  subst h0
  rcases Go.Deep.open_slice Try.underlying104 hf with ⟨hcs, _⟩ | ⟨a, n', cap', m, nf, D, Pl, hcs, _⟩
  · rw [h1] at hcs
    simp only [List.cons.injEq, Value.slice.injEq, and_true, true_and] at hcs
    exact hcs.2
  · rw [h1] at hcs
    simp at hcs
theorem trodIZ {fuel : Nat} {cs : List Value} {y : DataW H × List MemPlace} (hf : DataW.trod enc Try.prog w 0 spr held fuel 23 cs = some y) :
    ∃ (ao : Option Addr) (n cap : Nat) (G : List Int), cs = [.slice ao n cap] ∧ G.length = n ∧ (n : Int) ≤ 9223372036854775807 ∧ Is 0 w.heap.size w ao G ∧ (ao = none → cap = 0) := by
  obtain ⟨ao, n, cap, l, h1, h2, h3, h4⟩ := trodIS hf
  refine ⟨ao, n, cap, l, h1, h2, h3, h4, fun h0 => ?_⟩
  subst h0
  rcases Go.Deep.open_slice Try.underlying23 hf with ⟨hcs, _⟩ | ⟨a, n', cap', m, nf, D, Pl, hcs, _⟩
  · rw [h1] at hcs
    simp only [List.cons.injEq, Value.slice.injEq, and_true, true_and] at hcs
    exact hcs.2
  · rw [h1] at hcs
    simp at hcs
set_option maxRecDepth 100000 in
theorem trodBx {fuel : Nat} {cs : List Value} {y : DataW H × List MemPlace} (hc : cs.length = 7) (hf : DataW.trod enc Try.prog w 0 spr held fuel 106 cs = some y) :
    ∃ (x : X7) (ma : Option Addr) (mc : Nat) (ga : Option Addr) (gc : Nat), cs = [.int .i64 x.1, .string x.2.1, .int .i64 x.2.2.1, .int .i64 x.2.2.2.1, .int .i64 x.2.2.2.2.1, .slice ma x.2.2.2.2.2.1.length mc, .slice ga x.2.2.2.2.2.2.length gc] ∧ ((x.2.1.size : Int) ≤ 9223372036854775807 ∧ (x.2.2.2.2.2.1.length : Int) ≤ 9223372036854775807 ∧ Fit x.2.2.2.2.2.1 ∧ (x.2.2.2.2.2.2.length : Int) ≤ 9223372036854775807) ∧ Ms 0 w.heap.size w ma x.2.2.2.2.2.1 ∧ Is 0 w.heap.size w ga x.2.2.2.2.2.2 ∧ (ma = none → mc = 0) ∧ (ga = none → gc = 0) := by
  match cs, hc with
  | [c0, c1, c2, c3, c4, c5, c6], _ =>
    obtain ⟨y0, y1, y2, y3, y4, y5, n, hl, h0, h1, h2, h3, h4, h5⟩ := trod_struct6 Try.underlying106 hf
    have k0 : DataW.trod enc Try.prog w 0 spr held n 3 [c0] = some y0 := by simpa [cellsInt] using h0
    have k1 : DataW.trod enc Try.prog w 0 spr held n 9 [c1] = some y1 := by simpa [cellsTx] using h1
    have k2 : DataW.trod enc Try.prog w 0 spr held n 103 [c2, c3] = some y2 := by simpa [cellsSt] using h2
    have k3 : DataW.trod enc Try.prog w 0 spr held n 3 [c4] = some y3 := by simpa [cellsInt] using h3
    have k4 : DataW.trod enc Try.prog w 0 spr held n 104 [c5] = some y4 := by simpa [cellsMls] using h4
    have k5 : DataW.trod enc Try.prog w 0 spr held n 23 [c6] = some y5 := by simpa [cellsIs] using h5
    obtain ⟨g, e0, _, _⟩ := DataW.trod_int Try.underlying3 k0
    obtain ⟨nm, e1, _, hnm⟩ := DataW.trod_string Try.underlying9 k1
    obtain ⟨t, b, e2, _, _, _⟩ := trodSt rfl k2
    obtain ⟨nx, e3, _, _⟩ := DataW.trod_int Try.underlying3 k3
    obtain ⟨ma, mn, mc, L, e4, i1, i2, i3, i4, i5⟩ := trodMlZ k4
    obtain ⟨ga, gn, gc, G, e5, j1, j2, j3, j4⟩ := trodIZ k5
    simp only [List.cons.injEq, and_true] at e0 e1 e2 e3 e4 e5
    obtain ⟨rfl, rfl⟩ := e2
    subst e0 e1 e3 e4 e5 i1 j1
    exact ⟨(g, nm, t, b, nx, L, G), ma, mc, ga, gc, rfl, ⟨by unfold maxLen at hnm; dsimp only; omega, i2, i3, j2⟩, i4, j3, i5, j4⟩
set_option maxRecDepth 100000 in
theorem trodBxS {fuel : Nat} {cs : List Value} {y : DataW H × List MemPlace} (hf : DataW.trod enc Try.prog w 0 spr held fuel 36 cs = some y) :
    ∃ (ao : Option Addr) (n cap : Nat) (S : List X7), cs = [.slice ao n cap] ∧ S.length = n ∧ (n : Int) ≤ 9223372036854775807 ∧ FitB S ∧ Bs 0 w.heap.size w ao S := by
  rcases Go.Deep.open_slice Try.underlying36 hf with ⟨hcs, _⟩ | ⟨a, n, cap, m, nf, D, Pl, hcs, _, hl, hm, hmm, _, hx⟩
  · exact ⟨none, 0, 0, [], hcs, rfl, by decide, (fun m hm => by cases hm), Nat.le_refl _, fun i hi => absurd hi (by simp)⟩
  · have hlm : n ≤ m := by rw [hmm]; split <;> omega
    have hx' : ∀ i, i < n → ∃ z : X7 × Option Addr × Nat × Option Addr × Nat, (w.cell? (a.add (i * 7)) = some (.int .i64 z.1.1) ∧ w.cell? (a.add (i * 7 + 1)) = some (.string z.1.2.1) ∧ w.cell? (a.add (i * 7 + 2)) = some (.int .i64 z.1.2.2.1) ∧ w.cell? (a.add (i * 7 + 3)) = some (.int .i64 z.1.2.2.2.1) ∧ w.cell? (a.add (i * 7 + 4)) = some (.int .i64 z.1.2.2.2.2.1) ∧ w.cell? (a.add (i * 7 + 5)) = some (.slice z.2.1 z.1.2.2.2.2.2.1.length z.2.2.1) ∧ w.cell? (a.add (i * 7 + 6)) = some (.slice z.2.2.2.1 z.1.2.2.2.2.2.2.length z.2.2.2.2)) ∧ ((z.1.2.1.size : Int) ≤ 9223372036854775807 ∧ (z.1.2.2.2.2.2.1.length : Int) ≤ 9223372036854775807 ∧ Fit z.1.2.2.2.2.2.1 ∧ (z.1.2.2.2.2.2.2.length : Int) ≤ 9223372036854775807) ∧ Ms 0 w.heap.size w z.2.1 z.1.2.2.2.2.2.1 ∧ Is 0 w.heap.size w z.2.2.2.1 z.1.2.2.2.2.2.2 ∧ (z.2.1 = none → z.2.2.1 = 0) ∧ (z.2.2.2.1 = none → z.2.2.2.2 = 0) := by
      intro i hi
      obtain ⟨cs, h1, h2⟩ := hx i (by omega)
      rw [cellsBx] at h1
      obtain ⟨_, hlen, hcell⟩ := World.cells?_some h1
      obtain ⟨x, ma, mc, ga, gc, rfl, hf1, hf2, hf3, hf4, hf5⟩ := trodBx hlen h2
      have e0 := hcell 0 (by omega)
      have e1 := hcell 1 (by omega)
      have e2 := hcell 2 (by omega)
      have e3 := hcell 3 (by omega)
      have e4 := hcell 4 (by omega)
      have e5 := hcell 5 (by omega)
      have e6 := hcell 6 (by omega)
      simp only [Go.Deep.add_add, Nat.add_zero] at e0 e1 e2 e3 e4 e5 e6
      exact ⟨(x, ma, mc, ga, gc), ⟨by simpa using e0, by simpa using e1, by simpa using e2, by simpa using e3, by simpa using e4, by simpa using e5, by simpa using e6⟩, hf1, hf2, hf3, hf4, hf5⟩
    obtain ⟨r, hr⟩ := Go.Deep.choose_lt hx'
    refine ⟨some a, n, cap, (List.range n).map (fun i => (r i).1), hcs, by simp, by unfold maxLen at hm; omega, ?_, Nat.le_refl _, ?_⟩
    · intro x hx
      obtain ⟨i, hi, rfl⟩ := List.mem_map.1 hx
      exact (hr i (List.mem_range.1 hi)).2.1
    · intro i hi
      have hi' : i < n := by simpa using hi
      obtain ⟨e, _, e2, e3, e4, e5⟩ := hr i hi'
      obtain ⟨k, o, rfl⟩ := addr_at (a := a) (u := .int .i64 (r 0).1.1) (by simpa using (hr 0 (by omega)).1.1)
      have hb := World.block_lt_of_cell? w (Addr.add ⟨k, o, none⟩ (i * 7)) e.1
      simp only [addr_add] at e hb
      refine ⟨k, o, (r i).2.1, (r i).2.2.1, (r i).2.2.2.1, (r i).2.2.2.2, rfl, Nat.zero_le _, hb, ?_, ?_, ?_, e4, e5⟩
      · simp only [List.getElem_map, List.getElem_range]
        unfold C7
        simp only [Nat.add_assoc]
        exact e
      · simp only [List.getElem_map, List.getElem_range]
        exact e2
      · simp only [List.getElem_map, List.getElem_range]
        exact e3
end
theorem cellsKp : Try.prog.cellsOf 40 = 6 := by kernel_rfl
theorem array6 {α : Type} {cs : Array α} (h : cs.size = 6) : ∃ c0 c1 c2 c3 c4 c5, cs = #[c0, c1, c2, c3, c4, c5] := by
  obtain ⟨l, rfl⟩ : ∃ l : List α, cs = l.toArray := ⟨cs.toList, by simp⟩
  have hl : l.length = 6 := by simpa using h
  match l, hl with
  | [c0, c1, c2, c3, c4, c5], _ => exact ⟨c0, c1, c2, c3, c4, c5, rfl⟩
section
variable {H : Type} {enc : TypeId × Value → H} {w : World} {spr : Nat → Bool} {held : Bool}
set_option maxRecDepth 100000 in
theorem trodSo {fuel : Nat} {c0 c1 c2 c3 : Value} {y : DataW H × List MemPlace} (hf : DataW.trod enc Try.prog w 0 spr held fuel 38 [c0, c1, c2, c3] = some y) :
    ∃ (y tm : Int) (ba : Option Addr) (bn bc : Nat) (ga : Option Addr) (gn gc : Nat) (S : List X7) (G : List Int), (c0 = .int .i64 y ∧ c1 = .int .i64 tm ∧ c2 = .slice ba bn bc ∧ c3 = .slice ga gn gc) ∧ S.length = bn ∧ (bn : Int) ≤ 9223372036854775807 ∧ FitB S ∧ Bs 0 w.heap.size w ba S ∧ G.length = gn ∧ (gn : Int) ≤ 9223372036854775807 ∧ Is 0 w.heap.size w ga G := by
  obtain ⟨y0, y1, y2, y3, n, hx, hl, h0, h1, h2, h3⟩ := trod_struct4 Try.underlying38 hf
  have k0 : DataW.trod enc Try.prog w 0 spr held n 3 [c0] = some y0 := by simpa [cellsInt] using h0
  have k1 : DataW.trod enc Try.prog w 0 spr held n 3 [c1] = some y1 := by simpa [cellsInt] using h1
  have k2 : DataW.trod enc Try.prog w 0 spr held n 36 [c2] = some y2 := by simpa [cellsBxs] using h2
  have k3 : DataW.trod enc Try.prog w 0 spr held n 23 [c3] = some y3 := by simpa [cellsIs] using h3
  obtain ⟨g, e0, _, _⟩ := DataW.trod_int Try.underlying3 k0
  obtain ⟨u, e1, _, _⟩ := DataW.trod_int Try.underlying3 k1
  obtain ⟨ba, bn, bc, S, e2, i1, i2, i3, i4⟩ := trodBxS k2
  obtain ⟨ga, gn, gc, G, e3, j1, j2, j3⟩ := trodIS k3
  simp only [List.cons.injEq, and_true] at e0 e1 e2 e3
  exact ⟨g, u, ba, bn, bc, ga, gn, gc, S, G, ⟨e0, e1, e2, e3⟩, i1, i2, i3, i4, j1, j2, j3⟩
set_option maxRecDepth 100000 in
theorem openKp {base : Nat} {v : Value} {d : DataW H} {p : List MemPlace} (hv : Value.okWide Try.prog w .any base 40 v) (h : DataW.Trod enc Try.prog w 0 spr held 40 v d p) :
    ∃ (y tm : Int) (ba : Option Addr) (bn bc : Nat) (ga : Option Addr) (gn gc : Nat) (S : List X7) (G : List Int) (jr : ByteArray) (sv : Int), v = .agg #[.int .i64 y, .int .i64 tm, .slice ba bn bc, .slice ga gn gc, .string jr, .int .i64 sv] ∧ S.length = bn ∧ (bn : Int) ≤ 9223372036854775807 ∧ FitB S ∧ Bs 0 w.heap.size w ba S ∧ G.length = gn ∧ (gn : Int) ≤ 9223372036854775807 ∧ Is 0 w.heap.size w ga G ∧ jr.size ≤ maxLen := by
  obtain ⟨cs, rfl, hsz⟩ := okWide_struct Try.underlying40 hv
  obtain ⟨fuel, hf⟩ := h
  rw [cellsKp] at hsz
  obtain ⟨c0, c1, c2, c3, c4, c5, rfl⟩ := array6 hsz
  obtain ⟨xs, n, _, _, _, hlen, hx⟩ := DataW.trod_struct Try.underlying40 hf
  match xs, hlen with
  | [y0, y1, y2], _ =>
    have k0 : DataW.trod enc Try.prog w 0 spr held n 38 [c0, c1, c2, c3] = some y0 := by simpa [cellsSo, Value.cells] using hx 0 _ rfl
    have k1 : DataW.trod enc Try.prog w 0 spr held n 9 [c4] = some y1 := by simpa [cellsTx, Value.cells] using hx 1 _ rfl
    have k2 : DataW.trod enc Try.prog w 0 spr held n 3 [c5] = some y2 := by simpa [cellsInt, Value.cells] using hx 2 _ rfl
    obtain ⟨y, tm, ba, bn, bc, ga, gn, gc, S, G, ⟨rfl, rfl, rfl, rfl⟩, i1, i2, i3, i4, i5, i6, i7⟩ := trodSo k0
    obtain ⟨jr, e4, _, ht⟩ := DataW.trod_string Try.underlying9 k1
    obtain ⟨sv, e5, _, _⟩ := DataW.trod_int Try.underlying3 k2
    simp only [List.cons.injEq, and_true] at e4 e5
    subst e4 e5
    exact ⟨y, tm, ba, bn, bc, ga, gn, gc, S, G, jr, sv, rfl, i1, i2, i3, i4, i5, i6, i7, ht⟩
end
theorem cellsSn15 : Try.prog.cellsOf 41 = 6 := by kernel_rfl
theorem cellsIs15 : Try.prog.cellsOf 23 = 1 := by kernel_rfl
theorem cellsTx15 : Try.prog.cellsOf 9 = 1 := by kernel_rfl
theorem cellsIn15 : Try.prog.cellsOf 3 = 1 := by kernel_rfl
theorem cellsBl15 : Try.prog.cellsOf 4 = 1 := by kernel_rfl
section
variable {H : Type} {enc : TypeId × Value → H} {w : World} {spr : Nat → Bool} {held : Bool}
theorem addr_at15 {a : Addr} {u : Value} (h : w.cell? (a.add 0) = some u) : ∃ k o, a = ⟨k, o, none⟩ := by
  obtain ⟨k, o, s⟩ := a
  have hs : s = none := by simpa [Addr.add] using World.cell?_spot h
  exact ⟨k, o, by rw [hs]⟩
theorem trod_struct6n {P : Program} {base : Nat} {spare : Nat → Bool} {t : TypeId} {f0 f1 f2 f3 f4 f5 : Field} {fuel : Nat} {cs : List Value} {x : DataW H × List MemPlace} (ht : P.underlying t = some (.struct #[f0, f1, f2, f3, f4, f5])) (h : DataW.trod enc P w base spare held fuel t cs = some x) :
    ∃ y0 y1 y2 y3 y4 y5 n, cs.length = P.cellsOf t ∧ DataW.trod enc P w base spare held n f0.type ((cs.drop f0.offset).take (P.cellsOf f0.type)) = some y0 ∧
      DataW.trod enc P w base spare held n f1.type ((cs.drop f1.offset).take (P.cellsOf f1.type)) = some y1 ∧ DataW.trod enc P w base spare held n f2.type ((cs.drop f2.offset).take (P.cellsOf f2.type)) = some y2 ∧
      DataW.trod enc P w base spare held n f3.type ((cs.drop f3.offset).take (P.cellsOf f3.type)) = some y3 ∧ DataW.trod enc P w base spare held n f4.type ((cs.drop f4.offset).take (P.cellsOf f4.type)) = some y4 ∧
      DataW.trod enc P w base spare held n f5.type ((cs.drop f5.offset).take (P.cellsOf f5.type)) = some y5 := by
  obtain ⟨xs, n, _, rfl, hl, hlen, hf⟩ := DataW.trod_struct ht h
  match xs, hlen with
  | [y0, y1, y2, y3, y4, y5], _ => exact ⟨y0, y1, y2, y3, y4, y5, n, hl, by simpa using hf 0 f0 rfl, by simpa using hf 1 f1 rfl, by simpa using hf 2 f2 rfl, by simpa using hf 3 f3 rfl, by simpa using hf 4 f4 rfl, by simpa using hf 5 f5 rfl⟩
set_option maxRecDepth 100000 in
theorem trodIS15 {fuel : Nat} {cs : List Value} {y : DataW H × List MemPlace} (hf : DataW.trod enc Try.prog w 0 spr held fuel 23 cs = some y) :
    ∃ (ao : Option Addr) (n cap : Nat) (G : List Int), cs = [.slice ao n cap] ∧ G.length = n ∧ (n : Int) ≤ 9223372036854775807 ∧ Is 0 w.heap.size w ao G := by
  rcases Go.Deep.open_slice Try.underlying23 hf with ⟨hcs, _⟩ | ⟨a, n, cap, m, nf, D, Pl, hcs, _, hl, hm, hmm, _, hx⟩
  · exact ⟨none, 0, 0, [], hcs, rfl, by decide, Nat.le_refl _, fun i hi => absurd hi (by simp)⟩
  · have hlm : n ≤ m := by rw [hmm]; split <;> omega
    have hx' : ∀ i, i < n → ∃ z : Int, w.cell? (a.add i) = some (.int .i64 z) := by
      intro i hi
      obtain ⟨cs, h1, h2⟩ := hx i (by omega)
      rw [cellsIn15] at h1
      obtain ⟨_, hlen, hcell⟩ := World.cells?_some h1
      match cs, hlen with
      | [c0], _ =>
        obtain ⟨z, e0, _, _⟩ := DataW.trod_int Try.underlying3 h2
        simp only [List.cons.injEq, and_true] at e0
        subst e0
        have e := hcell 0 (by omega)
        exact ⟨z, by simpa [Go.Deep.add_add] using e⟩
    obtain ⟨r, hr⟩ := Go.Deep.choose_lt hx'
    refine ⟨some a, n, cap, (List.range n).map r, hcs, by simp, by unfold maxLen at hm; omega, Nat.le_refl _, ?_⟩
    intro i hi
    have hi' : i < n := by simpa using hi
    have e := hr i hi'
    obtain ⟨k, o, rfl⟩ := addr_at15 (a := a) (u := .int .i64 (r 0)) (hr 0 (by omega))
    have hb := World.block_lt_of_cell? w (Addr.add ⟨k, o, none⟩ i) e
    simp only [addr_add] at e hb
    refine ⟨k, o, rfl, Nat.zero_le _, hb, ?_⟩
    simp only [List.getElem_map, List.getElem_range]
    exact e
set_option maxRecDepth 100000 in
theorem openSn {base : Nat} {v : Value} {d : DataW H} {p : List MemPlace} (hv : Value.okWide Try.prog w .any base 41 v) (h : DataW.Trod enc Try.prog w 0 spr held 41 v d p) :
    ∃ (i o : ByteArray) (n r : Bool) (b : Int) (ga : Option Addr) (gn gc : Nat) (G : List Int), v = snv i o n r b (.slice ga gn gc) ∧ (i.size : Int) ≤ 9223372036854775807 ∧ (o.size : Int) ≤ 9223372036854775807 ∧ G.length = gn ∧ (gn : Int) ≤ 9223372036854775807 ∧ Is 0 w.heap.size w ga G := by
  obtain ⟨cs, rfl, hsz⟩ := okWide_struct Try.underlying41 hv
  obtain ⟨fuel, hf⟩ := h
  rw [cellsSn15] at hsz
  obtain ⟨l, rfl⟩ : ∃ l : List Value, cs = l.toArray := ⟨cs.toList, by simp⟩
  have hlen : l.length = 6 := by simpa using hsz
  match l, hlen with
  | [c0, c1, c2, c3, c4, c5], _ =>
    obtain ⟨y0, y1, y2, y3, y4, y5, n, hl, h0, h1, h2, h3, h4, h5⟩ := trod_struct6n Try.underlying41 hf
    have k0 : DataW.trod enc Try.prog w 0 spr held n 9 [c0] = some y0 := by simpa [cellsTx15, Value.cells] using h0
    have k1 : DataW.trod enc Try.prog w 0 spr held n 9 [c1] = some y1 := by simpa [cellsTx15, Value.cells] using h1
    have k2 : DataW.trod enc Try.prog w 0 spr held n 4 [c2] = some y2 := by simpa [cellsBl15, Value.cells] using h2
    have k3 : DataW.trod enc Try.prog w 0 spr held n 4 [c3] = some y3 := by simpa [cellsBl15, Value.cells] using h3
    have k4 : DataW.trod enc Try.prog w 0 spr held n 3 [c4] = some y4 := by simpa [cellsIn15, Value.cells] using h4
    have k5 : DataW.trod enc Try.prog w 0 spr held n 23 [c5] = some y5 := by simpa [cellsIs15, Value.cells] using h5
    obtain ⟨i, e0, _, t0⟩ := DataW.trod_string Try.underlying9 k0
    obtain ⟨o, e1, _, t1⟩ := DataW.trod_string Try.underlying9 k1
    obtain ⟨n', e2, _⟩ := DataW.trod_bool Try.underlying4 k2
    obtain ⟨r, e3, _⟩ := DataW.trod_bool Try.underlying4 k3
    obtain ⟨b, e4, _, _⟩ := DataW.trod_int Try.underlying3 k4
    obtain ⟨ga, gn, gc, G, e5, j1, j2, j3⟩ := trodIS15 k5
    simp only [List.cons.injEq, and_true] at e0 e1 e2 e3 e4 e5
    subst e0 e1 e2 e3 e4 e5
    exact ⟨i, o, n', r, b, ga, gn, gc, G, rfl, by unfold maxLen at t0; omega, by unfold maxLen at t1; omega, j1, j2, j3⟩
end
end Go.Proofs.Ytckenihadlmlaaa
