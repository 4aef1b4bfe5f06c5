/- K7e, K7p, K7f. -/
import Derived.Test.YtnbobidpmiieiaaDoorV3
namespace Go.Proofs.YtnbobidpmiieiaaDoor
open Go.RowKit Go.ChangeMaps
theorem specLinkNew_any (ep : Int) (w : World) : Calls Tryd.prog 60 #[.int .i64 ep] w fun e w' => e = .returned (lkv ep (.slice none 0 0) 1 1) ∧ Below w.heap.size w w' := by
  have d := (Lk.new w 34 ep (.slice none 0 0) 1 1).cells
  have Z0 := hid (Lk.new w 34 0 (.slice none 0 0) 0 0)
  have c := Z0.out.cells
  have f := Z0.out.loose
  go_enter Tryd.func60, Tryd.ntmps60
  go_wp2
  exact bodyPost_ret (v := lkv ep (.slice none 0 0) 1 1) (by simp [results, Tryd.results60, go_sem, d]) rfl ⟨rfl, bpush (bre _) _⟩
/-- Whether a text is put on the way. -/
def lpo (gn : Nat) (t : ByteArray) : Bool := decide (gn < 60) && (decide (1 ≤ t.size) && decide (t.size ≤ 400))
def lpw (G : List ByteArray) (t : ByteArray) : List ByteArray := if lpo G.length t = true then G ++ [t] else G
theorem lpw_len (G : List ByteArray) (t : ByteArray) : (lpw G t).length ≤ G.length + 1 := by unfold lpw; split <;> simp
theorem in17_any (x a b : Int) (w : World) : Calls Tryd.prog 26 #[.int .i64 x, .int .i64 a, .int .i64 b] w fun e w' => e = .returned (.bool (decide (a ≤ x) && decide (x ≤ b))) ∧ w' = w := by
  by_cases h1 : a ≤ x
  · by_cases h2 : x ≤ b
    · have e1 : (decide (a ≤ x) && decide (x ≤ b)) = true := by simp [h1, h2]
      rw [e1]
      go_enter Tryd.func26, Tryd.ntmps26
      go_wp2
      go_ret
      exact ⟨rfl, rfl⟩
    · have e1 : (decide (a ≤ x) && decide (x ≤ b)) = false := by simp [h2]
      rw [e1]
      go_enter Tryd.func26, Tryd.ntmps26
      go_wp2
      go_ret
      exact ⟨rfl, rfl⟩
  · have e1 : (decide (a ≤ x) && decide (x ≤ b)) = false := by simp [h1]
    rw [e1]
    go_enter Tryd.func26, Tryd.ntmps26
    go_wp2
    go_ret
    exact ⟨rfl, rfl⟩
set_option maxHeartbeats 1600000 in
set_option maxRecDepth 100000 in
theorem specLinkPut_any (lo hi : Nat) (ep nx wt : Int) (ga : Option Addr) (gn gc : Nat) (G : List ByteArray) (t : ByteArray) (w : World) (hgl : G.length = gn) (hgn : gn ≤ 1048576) (ht : t.size ≤ 1048576) (hs : Ss lo hi w ga G) (hg0 : ga = none → gc = 0) :
    Calls Tryd.prog 16 #[lkv ep (.slice ga gn gc) nx wt, .string t] w fun e w' => ∃ ag cg, e = .returned (.tuple #[lkv ep (.slice ag (lpw G t).length cg) nx wt, .bool (lpo gn t)]) ∧ OwV w' w.heap.size (.slice ag (lpw G t).length cg) (lpw G t) ∧ Below w.heap.size w w' := by
  obtain ⟨W0, hW0⟩ : ∃ W0, (w.alloc (.cells #[.int .i64 ep, .slice ga gn gc, .int .i64 nx, .int .i64 wt] 34)).alloc (.cells lk0 34) = W0 := ⟨_, rfl⟩
  have b0 : Below w.heap.size w W0 := by subst hW0; exact bpush (bpush (bre _) _) _
  have x0 : Lk W0 w.heap.size 34 ep (.slice ga gn gc) nx wt := by subst hW0; exact (Lk.new w _ _ _ _ _).later (bpush (bre _) _)
  have x1 : Lk W0 (w.heap.size + 1) 34 0 (.slice none 0 0) 0 0 := by
    subst hW0
    have h := Lk.new (w.alloc (.cells #[.int .i64 ep, .slice ga gn gc, .int .i64 nx, .int .i64 wt] 34)) 34 0 (.slice none 0 0) 0 0
    simpa using h
  have HC := hid (copy17_any lo hi ep nx wt ga gn gc G W0 hgl (by omega) (hs.later b0) hg0)
  have A0 := hid x0
  have A1 := hid x1
  have B0 := hid b0
  have HW := hid hW0
  have HGL := hid hgl
  have HT := hid ht
  have HGN := hid hgn
  have CIN := hid (fun (W : World) => in17_any (t.size : Int) 1 400 W)
  have c0 := x0.cells
  obtain ⟨L, hL⟩ : ∃ L, lpw G t = L := ⟨_, rfl⟩
  obtain ⟨k, hk⟩ : ∃ k, lpo gn t = k := ⟨_, rfl⟩
  rw [hL, hk]
  have HL := hid hL
  have HK := hid hk
  clear x0 x1 b0 hW0 hs hg0 ht hgn hL hk hgl
  go_enter Tryd.func16, Tryd.ntmps16
  go_wp2_with fail
  rw [HW.out]
  clear HW
  refine HC.out.mono ?_; rintro e w1 ⟨ag, cg, rfl, ho, hb⟩
  have LW : Hid (w.heap.size + 1 < W0.heap.size) := hid A1.out.lt
  have L1 : Hid (W0.heap.size ≤ w1.heap.size) := hid hb.size
  have HLT : Hid (∀ j, Value.ownBlock (.slice ag gn cg) = some j → j < w1.heap.size) := fun j hj => (World.ownsRow.lt ho j hj).2
  obtain ⟨w2, hw2⟩ : ∃ W, w1.alloc (.cells #[.int .i64 ep, .slice ag gn cg, .int .i64 nx, .int .i64 wt] 34) = W := ⟨_, rfl⟩
  have b2 : Below w1.heap.size w1 w2 := by subst hw2; exact bpush (bre _) _
  have x2 : Lk w2 w1.heap.size 34 ep (.slice ag gn cg) nx wt := by subst hw2; exact Lk.new w1 _ _ _ _ _
  have O2 := hid (show OwV w2 W0.heap.size (.slice ag gn cg) G from OwV.later ho b2)
  have A0 := hid ((A0.out.later hb).later b2)
  have A1 := hid ((A1.out.later hb).later b2)
  have A2 := hid x2
  have L2 : Hid (w1.heap.size < w2.heap.size) := hid x2.lt
  have B0 := hid (btr (btr B0.out hb) b2)
  clear ho hb b2 x2 HC c0
  go_upto_region 2 with fail
  clear hw2
  have c0 := A0.out.cells
  have c2 := A2.out.cells
  have c1 := A1.out.cells
  have f1 := A1.out.loose
  by_cases h60 : (60 : Int) ≤ (gn : Int)
  · go_wp2
    have hl := LW.out
    have g3 := putL_grown w2 (w.heap.size + 1) ep (.slice ag gn cg) nx wt
    have d := (A1.out.put ep (.slice ag gn cg) nx wt).cells
    unfold putL at g3 d
    obtain rfl : false = k := by rw [← HK.out]; unfold lpo; simp; omega
    obtain rfl : G = L := by rw [← HL.out]; unfold lpw lpo; rw [HGL.out, if_neg (by simp; omega)]
    obtain rfl := HGL.out
    refine bodyPost_ret (v := .tuple #[lkv ep (.slice ag G.length cg) nx wt, .bool false]) (by simp [results, Tryd.results16, go_sem, d]) rfl ⟨_, _, rfl, own_base (OwV.grown O2.out g3 (by omega)) (by omega), B0.out.trans (below_of_grown g3 (by omega) B0.out.size)⟩
  go_wp2_with fail
  refine (CIN.out _).mono ?_; rintro e w3 ⟨rfl, hw3⟩
  rw [hw3]
  clear hw3 w3
  by_cases hin : (1 : Int) ≤ (t.size : Int) ∧ (t.size : Int) ≤ 400
  rotate_left
  · have e1 : (decide ((1 : Int) ≤ (t.size : Int)) && decide ((t.size : Int) ≤ 400)) = false := by
      rw [Bool.and_eq_false_iff, decide_eq_false_iff_not, decide_eq_false_iff_not]; omega
    rw [e1]
    go_wp2
    have hl := LW.out
    have g3 := putL_grown w2 (w.heap.size + 1) ep (.slice ag gn cg) nx wt
    have d := (A1.out.put ep (.slice ag gn cg) nx wt).cells
    unfold putL at g3 d
    obtain rfl : false = k := by rw [← HK.out]; unfold lpo; simp; omega
    obtain rfl : G = L := by rw [← HL.out]; unfold lpw lpo; rw [HGL.out, if_neg (by simp; omega)]
    obtain rfl := HGL.out
    refine bodyPost_ret (v := .tuple #[lkv ep (.slice ag G.length cg) nx wt, .bool false]) (by simp [results, Tryd.results16, go_sem, d]) rfl ⟨_, _, rfl, own_base (OwV.grown O2.out g3 (by omega)) (by omega), B0.out.trans (below_of_grown g3 (by omega) B0.out.size)⟩
  · have e1 : (decide ((1 : Int) ≤ (t.size : Int)) && decide ((t.size : Int) ≤ 400)) = true := by
      rw [Bool.and_eq_true, decide_eq_true_eq, decide_eq_true_eq]; exact hin
    rw [e1]
    obtain rfl : true = k := by rw [← HK.out]; unfold lpo; simp; omega
    obtain rfl : G ++ [t] = L := by rw [← HL.out]; unfold lpw lpo; rw [HGL.out, if_pos (by simp; omega)]
    clear c0 c1 f1 hin e1
    obtain ⟨i0, hi0, hz0, hz1, hz2⟩ := info_parts17 info_str17
    have HTX : Hid (∀ (W : World) j u, ([Value.string t] : List Value)[j]? = some u → (W.alloc (.cells #[.string t] 9)).cell? ((⟨W.heap.size, 0, none⟩ : Addr).add j) = some u) := by
      intro W j u hu
      cases j with
      | zero =>
        simp at hu; subst hu
        have h := heap_alloc_new W (.cells #[.string t] 9)
        exact cell_of_row _ _ 0 _ _ _ h
      | succ j => simp at hu
    go_wp2_with (at_builtin; refine wpList_append_own_at _ rfl (.tmp 21) (.tmp 23) 32 rfl W0.heap.size 9 i0 _ 1 16 Tryd.underlying32 hi0 hz0 hz1 hz2 rfl (by decide) _ _ _ (by rfl) (OwV.later O2.out (bpush (bre _) _)) ⟨w2.heap.size, 0, none⟩ 1 1 [.string t] (by rfl) rfl (HTX.out w2) (by intro u hu; simp at hu; subst hu; rfl) (by have := HGL.out; unfold maxLen; omega) (by have := HGL.out; omega) (by have h1 := L1.out; have h2 := L2.out; simp; omega) ?_; intro v3 w4 hown4 hg4 _ h5; have ownq4 : OwV w4 W0.heap.size v3 (G ++ [t]) := (by simpa [OwV, HGL.out] using hown4); obtain ⟨a3, c3, hv3, _⟩ := ownq4.shape; subst hv3; have l1 := L1.out; have l2 := L2.out; have lw := LW.out; have nb := HLT.out; have b4 : Below W0.heap.size w2 w4 := (Below.refl W0.heap.size w2 |>.alloc (by omega) _).grown hg4 (by simp; omega) (fun j hj => (World.ownsRow.lt O2.out j hj).1); have bx : Below w2.heap.size w2 (w2.alloc (.cells #[.string t] 9)) := bpush (bre _) _; have hA1 := (A1.out.later bx).grown hg4 (fun e => by have := (World.ownsRow.lt O2.out _ e.symm).1; omega); have hA2 := (A2.out.later bx).grown hg4 (fun e => by have := nb _ e.symm; omega); have A1 := hid hA1; have A2 := hid hA2; have B0 := hid (B0.out.trans (b4.mono (by omega))); have O4 := hid ownq4; have L4 : Hid (w1.heap.size < w4.heap.size) := hid hA2.lt; have NB : Hid (∀ j, Value.ownBlock (.slice a3 (G ++ [t]).length c3) = some j → j ≠ w1.heap.size) := hid (fun j hj e => h5.elim (fun h5 => by have := nb j (h5 ▸ hj); omega) (fun h5 => by rw [h5] at hj; simp at hj; omega)); have c1 := hA1.cells; have f1 := hA1.loose; have c2 := hA2.cells; have f2 := hA2.loose; have hl : w.heap.size + 1 < w1.heap.size := (by omega); clear hown4 hg4 ownq4 h5 l1 l2 lw nb b4 bx hA1 hA2)
    have h1 := L1.out
    have h0 := LW.out
    have h4 := L4.out
    have g2 := wst (wre w4 (some w1.heap.size)) 1 (.slice a3 (G.length + 1) c3)
    have g3 := putL_grown (w4.setCell ⟨w1.heap.size, 1, none⟩ (.slice a3 (G.length + 1) c3)) (w.heap.size + 1) ep (.slice a3 (G.length + 1) c3) nx wt
    have d := ((A1.out.grown g2 (by simp; omega)).put ep (.slice a3 (G.length + 1) c3) nx wt).cells
    unfold putL at g3 d
    have hlen : (G ++ [t]).length = G.length + 1 := by rw [List.length_append]; rfl
    have O5 := own_base (OwV.grown (own_off17 O4.out g2 (fun j hj e => NB.out j hj (by simpa using e.symm))) g3 (show w.heap.size + 1 < W0.heap.size by omega)) (show w.heap.size ≤ W0.heap.size by omega)
    refine bodyPost_ret (v := .tuple #[lkv ep (.slice a3 (G.length + 1) c3) nx wt, .bool true]) (by simp [results, Tryd.results16, go_sem, d]) rfl ⟨a3, c3, by rw [hlen], O5, ?_⟩
    exact B0.out.trans ((below_of_grown g2 (by omega) B0.out.size).trans (below_of_grown g3 (by omega) (Nat.le_trans B0.out.size g2.size)))
abbrev pkv (e s a : Int) (t : ByteArray) : Value := .agg #[.int .i64 e, .int .i64 s, .int .i64 a, .string t]
/-- Block k holds a packet. -/
def Pk (W : World) (k ty : Nat) (e s a : Int) (t : ByteArray) : Prop := W.heap[k]? = some (.cells #[.int .i64 e, .int .i64 s, .int .i64 a, .string t] ty (0, 0))
section
variable {W W' : World} {k ty : Nat} {e s a : Int} {t : ByteArray}
theorem Pk.new (w : World) (ty : Nat) (e s a : Int) (t : ByteArray) : Pk (w.alloc (.cells #[.int .i64 e, .int .i64 s, .int .i64 a, .string t] ty)) w.heap.size ty e s a t := heap_alloc_new w _
theorem Pk.lt (h : Pk W k ty e s a t) : k < W.heap.size := (Array.getElem?_eq_some_iff.1 h).1
theorem Pk.later (h : Pk W k ty e s a t) (hb : Below W.heap.size W W') : Pk W' k ty e s a t := (hb.block k h.lt).trans h
theorem Pk.grown {r : Option Nat} (h : Pk W k ty e s a t) (hg : W.grownBy W' r) (hk : some k ≠ r) : Pk W' k ty e s a t := (hg.block k h.lt hk).trans h
theorem Pk.cells (h : Pk W k ty e s a t) : W.cell? ⟨k, 0, none⟩ = some (.int .i64 e) ∧ W.cell? ⟨k, 1, none⟩ = some (.int .i64 s) ∧ W.cell? ⟨k, 2, none⟩ = some (.int .i64 a) ∧ W.cell? ⟨k, 3, none⟩ = some (.string t) :=
  ⟨cell_of_row W k 0 _ _ _ h, cell_of_row W k 1 _ _ _ h, cell_of_row W k 2 _ _ _ h, cell_of_row W k 3 _ _ _ h⟩
theorem Pk.loose (h : Pk W k ty e s a t) : W.frozen? ⟨k, 0, none⟩ = false ∧ W.frozen? ⟨k, 1, none⟩ = false ∧ W.frozen? ⟨k, 2, none⟩ = false ∧ W.frozen? ⟨k, 3, none⟩ = false :=
  ⟨frozen_of_row W k 0 _ _ h, frozen_of_row W k 1 _ _ h, frozen_of_row W k 2 _ _ h, frozen_of_row W k 3 _ _ h⟩
theorem Pk.s0 (h : Pk W k ty e s a t) (x : Int) : Pk (W.setCell ⟨k, 0, none⟩ (.int .i64 x)) k ty x s a t := heap_setCell_same W k 0 _ _ _ h
theorem Pk.s1 (h : Pk W k ty e s a t) (x : Int) : Pk (W.setCell ⟨k, 1, none⟩ (.int .i64 x)) k ty e x a t := heap_setCell_same W k 1 _ _ _ h
theorem Pk.s2 (h : Pk W k ty e s a t) (x : Int) : Pk (W.setCell ⟨k, 2, none⟩ (.int .i64 x)) k ty e s x t := heap_setCell_same W k 2 _ _ _ h
theorem Pk.s3 (h : Pk W k ty e s a t) (x : ByteArray) : Pk (W.setCell ⟨k, 3, none⟩ (.string x)) k ty e s a x := heap_setCell_same W k 3 _ _ _ h
end
def putP (W : World) (k : Nat) (e s a : Int) (t : ByteArray) : World := (((W.setCell ⟨k, 0, none⟩ (.int .i64 e)).setCell ⟨k, 1, none⟩ (.int .i64 s)).setCell ⟨k, 2, none⟩ (.int .i64 a)).setCell ⟨k, 3, none⟩ (.string t)
theorem Pk.put {W : World} {k ty : Nat} {e0 s0 a0 : Int} {t0 : ByteArray} (h : Pk W k ty e0 s0 a0 t0) (e s a : Int) (t : ByteArray) : Pk (putP W k e s a t) k ty e s a t := (((h.s0 e).s1 s).s2 a).s3 t
theorem putP_grown (W : World) (k : Nat) (e s a : Int) (t : ByteArray) : W.grownBy (putP W k e s a t) (some k) := wst (wst (wst (wst (wre W (some k)) 0 _) 1 _) 2 _) 3 _
abbrev pk0 : Array Value := #[.int .i64 0, .int .i64 0, .int .i64 0, .string ⟨#[]⟩]
/-- What a link says: the number and the text of the first that is on its way. -/
def sayN (G : List ByteArray) (nx : Int) : Int := if G = [] then 0 else nx
def sayT (G : List ByteArray) : ByteArray := G.headD ⟨#[]⟩
set_option maxHeartbeats 1600000 in
set_option maxRecDepth 100000 in
theorem specSays_any (lo hi : Nat) (ep nx wt : Int) (ga : Option Addr) (gn gc : Nat) (G : List ByteArray) (w : World) (hgl : G.length = gn) (hs : Ss lo hi w ga G) :
    Calls Tryd.prog 19 #[lkv ep (.slice ga gn gc) nx wt] w fun e w' => e = .returned (pkv ep (sayN G nx) wt (sayT G)) ∧ Below w.heap.size w w' := by
  obtain ⟨W0, hW0⟩ : ∃ W0, (w.alloc (.cells #[.int .i64 ep, .slice ga gn gc, .int .i64 nx, .int .i64 wt] 34)).alloc (.cells pk0 25) = W0 := ⟨_, rfl⟩
  have b0 : Below w.heap.size w W0 := by subst hW0; exact bpush (bpush (bre _) _) _
  have hw : W0.heap.size = w.heap.size + 1 + 1 := by subst hW0; simp
  have x0 : Lk W0 w.heap.size 34 ep (.slice ga gn gc) nx wt := by subst hW0; exact (Lk.new w _ _ _ _ _).later (bpush (bre _) _)
  have x1 : Pk W0 (w.heap.size + 1) 25 0 0 0 ⟨#[]⟩ := by
    subst hW0
    have h := Pk.new (w.alloc (.cells #[.int .i64 ep, .slice ga gn gc, .int .i64 nx, .int .i64 wt] 34)) 25 0 0 0 ⟨#[]⟩
    simpa using h
  obtain ⟨W1, hW1⟩ : ∃ W1, W0.alloc (.cells #[.int .i64 ep, .int .i64 0, .int .i64 wt, .string ⟨#[]⟩] 25) = W1 := ⟨_, rfl⟩
  have b1 : Below W0.heap.size W0 W1 := by subst hW1; exact bpush (bre _) _
  have x2 : Pk W1 (w.heap.size + 1 + 1) 25 ep 0 wt ⟨#[]⟩ := by rw [← hw]; subst hW1; exact Pk.new _ _ _ _ _ _
  have A1 := hid (x1.later b1)
  have A2 := hid x2
  have B0 := hid (btr b0 b1)
  have HW := hid hw
  have HS := hid (hs.later (btr b0 b1))
  have HW0 := hid hW0
  have HW1 := hid hW1
  obtain ⟨P, hP⟩ : ∃ P, sayN G nx = P := ⟨_, rfl⟩
  obtain ⟨T, hT⟩ : ∃ T, sayT G = T := ⟨_, rfl⟩
  rw [hP, hT]
  have HP := hid hP
  have HT := hid hT
  have d0 := hid (x0.later b1)
  have c0 := x0.cells
  clear x0 x1 x2 b0 b1 hP hT hW0 hW1 hw
  have HAT : Hid (∀ g L, G = g :: L → ∃ k o, ga = some ⟨k, o, none⟩ ∧ k < w.heap.size ∧ W1.cell? ⟨k, o, none⟩ = some (.string g)) := hid (by
    rintro g L rfl
    obtain ⟨k, o, h1, h2, _⟩ := hs.at (i := 0) (by simp)
    obtain ⟨k', o', h1', _, h3⟩ := HS.out.at (i := 0) (by simp)
    rw [h1] at h1'
    simp only [Option.some.injEq, Addr.mk.injEq, and_true] at h1'
    obtain ⟨rfl, rfl⟩ := h1'
    exact ⟨k, o, h1, h2, by simpa using h3⟩)
  clear hs HS
  go_enter Tryd.func19, Tryd.ntmps19
  go_upto_region 2 with fail
  rw [HW0.out, HW1.out]
  clear HW0 HW1
  have c0 := d0.out.cells
  have c1 := A1.out.cells
  have f1 := A1.out.loose
  have c2 := A2.out.cells
  have f2 := A2.out.loose
  cases G with
  | nil =>
    obtain rfl : 0 = gn := by simpa using hgl
    go_wp2
    have g3 := putP_grown W1 (w.heap.size + 1) ep 0 wt ⟨#[]⟩
    have d := (A1.out.put ep 0 wt ⟨#[]⟩).cells
    unfold putP at g3 d
    obtain rfl : 0 = P := HP.out
    obtain rfl : ⟨#[]⟩ = T := HT.out
    exact bodyPost_ret (v := pkv ep 0 wt ⟨#[]⟩) (by simp [results, Tryd.results19, go_sem, d]) rfl ⟨rfl, B0.out.trans (below_of_grown g3 (by omega) B0.out.size)⟩
  | cons g G =>
    obtain ⟨k, o, rfl, hk, hc⟩ := HAT.out g G rfl
    have hn : 0 < gn := by rw [← hgl]; simp
    have hn2 : (0 : Int) < (gn : Int) := by omega
    clear hgl HAT
    go_wp2
    have g2 := wst (wst (wre W1 (some (w.heap.size + 1 + 1))) 1 (.int .i64 nx)) 3 (.string g)
    have g3 := putP_grown ((W1.setCell ⟨w.heap.size + 1 + 1, 1, none⟩ (.int .i64 nx)).setCell ⟨w.heap.size + 1 + 1, 3, none⟩ (.string g)) (w.heap.size + 1) ep nx wt g
    have d := ((A1.out.grown g2 (by simp)).put ep nx wt g).cells
    unfold putP at g3 d
    obtain rfl : nx = P := HP.out
    obtain rfl : g = T := HT.out
    exact bodyPost_ret (v := pkv ep nx wt g) (by simp [results, Tryd.results19, go_sem, d]) rfl ⟨rfl, B0.out.trans ((below_of_grown g2 (by omega) B0.out.size).trans (below_of_grown g3 (by omega) (Nat.le_trans B0.out.size g2.size)))⟩
end Go.Proofs.YtnbobidpmiieiaaDoor
