/- K7d, K7e, K7p, K7f, K7u, K7v, K7w. -/
import Derived.Test.YthcgpjicfcgfiaaV1
namespace Go.Proofs.Ythcgpjicfcgfiaa
open Go.RowKit Go.ChangeMaps
theorem ss_all17 {lo hi : Nat} {W : World} {ad : Addr} {G : List ByteArray} (h : Ss lo hi W (some ad) G) : ∀ j u, (G.map Value.string)[j]? = some u → W.cell? (ad.add j) = some u := by
  intro j u hu
  have hj : j < G.length := by have := (List.getElem?_eq_some_iff.1 hu).1; simpa using this
  obtain ⟨k, o, h1, _, hc⟩ := h.at hj
  simp only [Option.some.injEq] at h1
  subst h1
  rw [addr_add, hc]
  rw [List.getElem?_map, List.getElem?_eq_getElem hj] at hu
  simpa using hu
theorem str_one17 (G : List ByteArray) : ∀ u ∈ G.map Value.string, u.oneCell' = true := by
  intro u hu
  obtain ⟨x, _, rfl⟩ := List.mem_map.1 hu
  rfl
theorem ownV_empty17 (W : World) (B : Nat) (hB : B ≤ W.heap.size) : OwV (W.alloc (.cells #[] 9)) B (.slice (some ⟨W.heap.size, 0, none⟩) 0 0) [] :=
  World.ownsRow_lit (base := B) (e := 9) (size := 1) W #[] 0 hB (by unfold maxLen; omega) rfl
theorem info_parts17 {x : Option TypeInfo} {a : Option Value} {b c : Nat} (h : x.map (fun i => (i.zero, i.size, i.bytes)) = some (a, b, c)) : ∃ i, x = some i ∧ i.zero = a ∧ i.size = b ∧ i.bytes = c := by
  cases x with
  | none => cases h
  | some i => simp only [Option.map_some, Option.some.injEq, Prod.mk.injEq] at h; exact ⟨i, rfl, h⟩
/-- A row of texts appended to a row of one's own, as one step of a region that draws its order. -/
theorem step_append_strs17 {ops : Array Oper} {o : Oper} {a : Act} {w : World} {K : Act → World → Prop} {Q : Exit → Act → World → Prop} {E : Prop}
    (hg : o.guard = none) (s x : Operand) (hop : o.op = Op.call { callee := Callee.builtin Builtin.append, args := #[s, x], argTypes := #[22, 22] })
    (B : Nat) (v : Value) (L : List ByteArray) (hs : a.eval s = v) (hown : OwV w B v L) (ad : Addr) (n c : Nat) (G : List ByteArray)
    (hx : a.eval x = .slice (some ad) n c) (hl : G.length = n) (hG : ∀ j u, (G.map Value.string)[j]? = some u → w.cell? (ad.add j) = some u) (hlen : L.length ≤ 2000000) (hlen2 : n ≤ 2000000) (hB : B ≤ w.heap.size)
    (hK : ∀ v' w', OwV w' B v' (L ++ G) → w.grownBy w' v.ownBlock → K (a.put o.dst v') w') :
    if Region.wanted o (yielded ops a.tmps) = true then Oper.wp Try.prog o a w K Q else E := by
  have hw : Region.wanted o (yielded ops a.tmps) = true := by simp [Region.wanted, hg]
  rw [if_pos hw]
  obtain ⟨i0, hi, hz0, hz1, hz2⟩ := info_parts17 info_str17
  obtain ⟨v', w', hr, h2, h3, h4, h5⟩ := run_append_own_at (P := Try.prog) w B 22 o.type 9 i0 (.string ⟨#[]⟩) 1 16 Try.underlying22 hi hz0 hz1 hz2 rfl (by decide) v _ _ hown ad n c (G.map Value.string) (by rw [List.length_map, hl, Nat.mul_one]) hG (str_one17 G) (by unfold maxLen; omega) (by omega) hB
  unfold Oper.wp execOp
  simp only [hop, resolve, invoke, builtin, Sem.run_bind, Sem.run_pure, Result.andThen_ok, List.map_toArray, List.map_cons, List.map_nil, hs, hx, hr]
  exact hK v' w' (by unfold OwV; rw [List.length_append, List.map_append, hl]; exact h2) h3
set_option maxHeartbeats 1600000 in
set_option maxRecDepth 100000 in
theorem copy17_any (lo hi : Nat) (ep nx wt : Int) (ga : Option Addr) (gn gc : Nat) (G : List ByteArray) (w : World) (hgl : G.length = gn) (hgn : gn ≤ 1048577) (hs : Ss lo hi w ga G) (hg0 : ga = none → gc = 0) :
    Calls Try.prog 22 #[lkv ep (.slice ga gn gc) nx wt] w fun e w' => ∃ ag cg, e = .returned (lkv ep (.slice ag gn cg) nx wt) ∧ OwV w' w.heap.size (.slice ag gn cg) G ∧ Below w.heap.size w w' := by
  obtain ⟨W0, hW0⟩ : ∃ W0, (w.alloc (.cells #[.int .i64 ep, .slice ga gn gc, .int .i64 nx, .int .i64 wt] 24)).alloc (.cells lk0 24) = W0 := ⟨_, rfl⟩
  have b0 : Below w.heap.size w W0 := by subst hW0; exact bpush (bpush (bre _) _) _
  have x0 : Lk W0 w.heap.size 24 ep (.slice ga gn gc) nx wt := by subst hW0; exact (Lk.new w _ _ _ _ _).later (bpush (bre _) _)
  have x1 : Lk W0 (w.heap.size + 1) 24 0 (.slice none 0 0) 0 0 := by
    subst hW0
    have h := Lk.new (w.alloc (.cells #[.int .i64 ep, .slice ga gn gc, .int .i64 nx, .int .i64 wt] 24)) 24 0 (.slice none 0 0) 0 0
    simpa using h
  have HIS := hid (hs.later b0)
  have HGL := hid hgl
  have HGN := hid hgn
  have HG0 := hid hg0
  have A0 := hid x0
  have A1 := hid x1
  have B0 := hid b0
  have HW := hid hW0
  have HSS : Hid (∀ W, Lk W w.heap.size 24 ep (.slice ga gn gc) nx wt → (W.cell? ⟨w.heap.size, 0, none⟩ = some (.int .i64 ep) ∧ W.cell? ⟨w.heap.size, 1, none⟩ = some (.slice ga gn gc) ∧ W.cell? ⟨w.heap.size, 2, none⟩ = some (.int .i64 nx) ∧ W.cell? ⟨w.heap.size, 3, none⟩ = some (.int .i64 wt))) := hid (fun W h => h.cells)
  clear x0 x1 b0 hW0 hs hgl hgn hg0
  go_enter Try.func22, Try.ntmps22
  go_upto_region 1 with fail
  rw [HW.out]
  clear HW
  refine wp_region_noPanic ?_
  refine wp_region_held_drew (S := (fun W => (W.cell? ⟨w.heap.size, 0, none⟩ = some (.int .i64 ep) ∧ W.cell? ⟨w.heap.size, 1, none⟩ = some (.slice ga gn gc) ∧ W.cell? ⟨w.heap.size, 2, none⟩ = some (.int .i64 nx) ∧ W.cell? ⟨w.heap.size, 3, none⟩ = some (.int .i64 wt)))) (by kernel_rfl) (HSS.out _ A0.out) (fun hHeld => ?_)
  obtain ⟨v0, hv0⟩ : ∃ x, W0.drew = x := ⟨_, rfl⟩
  replace A0 := hid (A0.out.later (bdr (bre _)))
  replace A1 := hid (A1.out.later (bdr (bre _)))
  replace B0 := hid (btr B0.out (bdr (bre _)))
  replace HIS := hid (HIS.out.later (bdr (bre _)))
  rw [hv0] at A0 A1 B0 hHeld HIS
  rw [hv0]
  clear hv0
  refine tk 0 ?_
  refine tk 1 ?_
  refine tk 3 ?_
  refine tk 4 ?_
  refine tk 6 ?_
  refine tk 7 ?_
  refine tk 8 ?_
  refine tk 9 ?_
  clear hHeld
  refine ry 2 (fun K hK => ?_)
  go_simp
  have LW : Hid (w.heap.size + 1 < v0.heap.size) := hid A1.out.lt
  have b1 := bpush (bre v0) (.cells #[] 9)
  refine hK.out _ _ (HSS.out _ (A0.out.later b1)) (fun hHeld => ?_)
  clear hK K hHeld
  try simp only [Act.put, List.setIfInBounds_toArray, List.set_cons_zero, List.set_cons_succ]
  replace A0 := hid (A0.out.later b1)
  replace A1 := hid (A1.out.later b1)
  replace HIS := hid (HIS.out.later b1)
  have O0 := hid (ownV_empty17 v0 v0.heap.size (Nat.le_refl _))
  replace B0 := hid (btr B0.out b1)
  have HL : Hid (v0.heap.size ≤ (v0.alloc (.cells #[] 9)).heap.size) := b1.size
  have HLT : Hid (v0.heap.size < (v0.alloc (.cells #[] 9)).heap.size) := hid (by simp)
  clear b1
  cases ga with
  | none =>
    obtain rfl := HG0.out rfl
    have hz : gn = 0 := by
      rcases Nat.eq_zero_or_pos gn with h | h
      · exact h
      · obtain ⟨k, o, h1, _⟩ := HIS.out.at (i := 0) (by rw [HGL.out]; exact h)
        cases h1
    subst hz
    have hge : G = [] := List.eq_nil_of_length_eq_zero HGL.out
    subst hge
    refine ry 5 (fun K hK => ?_)
    go_simp
    refine hK.out _ _ (HSS.out _ A0.out) (fun hHeld => ?_)
    clear hK K
    try simp only [Act.put, List.setIfInBounds_toArray, List.set_cons_zero, List.set_cons_succ]
    obtain ⟨w1, hw1⟩ : ∃ W, v0.alloc (.cells #[] 9) = W := ⟨_, rfl⟩
    rw [hw1] at A0 A1 B0 O0 hHeld ⊢
    clear hw1 HL HIS HLT
    refine tk 10 ?_
    clear hHeld
    have c1 := A1.out.cells
    have f1 := A1.out.loose
    refine ry 11 (fun K hK => ?_)
    go_simp
    obtain ⟨V1, hV1⟩ : ∃ W, putL w1 (w.heap.size + 1) ep (.slice (some ⟨v0.heap.size, 0, none⟩) 0 0) nx wt = W := ⟨_, rfl⟩
    have g1 := putL_grown w1 (w.heap.size + 1) ep (.slice (some ⟨v0.heap.size, 0, none⟩) 0 0) nx wt
    have x1 := A1.out.put ep (.slice (some ⟨v0.heap.size, 0, none⟩) 0 0) nx wt
    rw [hV1] at g1 x1
    unfold putL at hV1
    rw [hV1]
    clear hV1 c1 f1
    have x0 := A0.out.grown g1 (by simp)
    have O1 := hid (O0.out.grown g1 LW.out)
    have B1 := hid (B0.out.trans (below_of_grown g1 (by omega) B0.out.size))
    refine hK.out _ _ (HSS.out _ x0) (fun hHeld => ?_)
    clear hK K hHeld
    refine wpAnyH_done (by kernel_rfl) ?_ _
    refine NoPanic.normal ?_
    go_wp2
    have d := x1.cells
    refine bodyPost_ret (v := lkv ep (.slice (some ⟨v0.heap.size, 0, none⟩) 0 0) nx wt) (by simp [results, Try.results22, go_sem, d]) rfl ⟨_, _, rfl, own_base O1.out (by have := LW.out; omega), B1.out⟩
  | some ad =>
    refine ry 5 (fun K hK => ?_)
    refine step_append_strs17 rfl (.tmp 5) (.tmp 7) rfl v0.heap.size _ [] (by rfl) O0.out ad gn gc G (by rfl) HGL.out (ss_all17 HIS.out) (by simp) (by have := HGN.out; omega) HL.out ?_
    intro v1 w1 ho1 hg1
    have own1 : OwV w1 v0.heap.size v1 G := by simpa [OwV] using ho1
    obtain ⟨ag, cg, hvg, _⟩ := own1.shape
    rw [HGL.out] at hvg
    subst hvg
    have b1 : Below v0.heap.size (v0.alloc (.cells #[] 9)) w1 := below_grownR hg1 (by intro j hj; simp [Value.ownBlock] at hj; omega) HL.out
    have lw := LW.out
    have hA0 : Lk w1 w.heap.size 24 ep (.slice (some ad) gn gc) nx wt := A0.out.grown hg1 (by simp [Value.ownBlock]; omega)
    have hA1 : Lk w1 (w.heap.size + 1) 24 0 (.slice none 0 0) 0 0 := A1.out.grown hg1 (by simp [Value.ownBlock]; omega)
    replace A0 := hid hA0
    replace A1 := hid hA1
    replace B0 := hid (B0.out.trans (b1.mono (by omega)))
    have O1 := hid own1
    clear hA0 hA1 b1 ho1 hg1 own1 lw O0 HIS
    refine hK.out _ _ (HSS.out _ A0.out) (fun hHeld => ?_)
    clear hK K
    try simp only [Act.put, List.setIfInBounds_toArray, List.set_cons_zero, List.set_cons_succ]
    refine tk 10 ?_
    clear hHeld
    have c1 := A1.out.cells
    have f1 := A1.out.loose
    refine ry 11 (fun K hK => ?_)
    go_simp
    obtain ⟨V1, hV1⟩ : ∃ W, putL w1 (w.heap.size + 1) ep (.slice ag gn cg) nx wt = W := ⟨_, rfl⟩
    have g1 := putL_grown w1 (w.heap.size + 1) ep (.slice ag gn cg) nx wt
    have x1 := A1.out.put ep (.slice ag gn cg) nx wt
    rw [hV1] at g1 x1
    unfold putL at hV1
    rw [hV1]
    clear hV1 c1 f1
    have x0 := A0.out.grown g1 (by simp)
    have O1 := hid (O1.out.grown g1 LW.out)
    have B1 := hid (B0.out.trans (below_of_grown g1 (by omega) B0.out.size))
    refine hK.out _ _ (HSS.out _ x0) (fun hHeld => ?_)
    clear hK K hHeld
    refine wpAnyH_done (by kernel_rfl) ?_ _
    refine NoPanic.normal ?_
    go_wp2
    have d := x1.cells
    refine bodyPost_ret (v := lkv ep (.slice ag gn cg) nx wt) (by simp [results, Try.results22, go_sem, d]) rfl ⟨_, _, rfl, own_base O1.out (by have := LW.out; omega), B1.out⟩
theorem specLinkNew_any (ep : Int) (w : World) : Calls Try.prog 6 #[.int .i64 ep] w fun e w' => e = .returned (lkv ep (.slice none 0 0) 1 1) ∧ Below w.heap.size w w' := by
  have d := (Lk.new w 24 ep (.slice none 0 0) 1 1).cells
  have Z0 := hid (Lk.new w 24 0 (.slice none 0 0) 0 0)
  have c := Z0.out.cells
  have f := Z0.out.loose
  go_enter Try.func6, Try.ntmps6
  go_wp2
  exact bodyPost_ret (v := lkv ep (.slice none 0 0) 1 1) (by simp [results, Try.results6, go_sem, d]) rfl ⟨rfl, bpush (bre _) _⟩
/-- Whether a text is put on the way. -/
def lpo (gn : Nat) (t : ByteArray) : Bool := decide (gn < 60) && (decide (1 ≤ t.size) && decide (t.size ≤ 400))
def lpw (G : List ByteArray) (t : ByteArray) : List ByteArray := if lpo G.length t = true then G ++ [t] else G
theorem lpw_len (G : List ByteArray) (t : ByteArray) : (lpw G t).length ≤ G.length + 1 := by unfold lpw; split <;> simp
theorem in17_any (x a b : Int) (w : World) : Calls Try.prog 23 #[.int .i64 x, .int .i64 a, .int .i64 b] w fun e w' => e = .returned (.bool (decide (a ≤ x) && decide (x ≤ b))) ∧ w' = w := by
  by_cases h1 : a ≤ x
  · by_cases h2 : x ≤ b
    · have e1 : (decide (a ≤ x) && decide (x ≤ b)) = true := by simp [h1, h2]
      rw [e1]
      go_enter Try.func23, Try.ntmps23
      go_wp2
      go_ret
      exact ⟨rfl, rfl⟩
    · have e1 : (decide (a ≤ x) && decide (x ≤ b)) = false := by simp [h2]
      rw [e1]
      go_enter Try.func23, Try.ntmps23
      go_wp2
      go_ret
      exact ⟨rfl, rfl⟩
  · have e1 : (decide (a ≤ x) && decide (x ≤ b)) = false := by simp [h1]
    rw [e1]
    go_enter Try.func23, Try.ntmps23
    go_wp2
    go_ret
    exact ⟨rfl, rfl⟩
set_option maxHeartbeats 1600000 in
set_option maxRecDepth 100000 in
theorem specLinkPut_any (lo hi : Nat) (ep nx wt : Int) (ga : Option Addr) (gn gc : Nat) (G : List ByteArray) (t : ByteArray) (w : World) (hgl : G.length = gn) (hgn : gn ≤ 1048576) (ht : t.size ≤ 1048576) (hs : Ss lo hi w ga G) (hg0 : ga = none → gc = 0) :
    Calls Try.prog 12 #[lkv ep (.slice ga gn gc) nx wt, .string t] w fun e w' => ∃ ag cg, e = .returned (.tuple #[lkv ep (.slice ag (lpw G t).length cg) nx wt, .bool (lpo gn t)]) ∧ OwV w' w.heap.size (.slice ag (lpw G t).length cg) (lpw G t) ∧ Below w.heap.size w w' := by
  obtain ⟨W0, hW0⟩ : ∃ W0, (w.alloc (.cells #[.int .i64 ep, .slice ga gn gc, .int .i64 nx, .int .i64 wt] 24)).alloc (.cells lk0 24) = W0 := ⟨_, rfl⟩
  have b0 : Below w.heap.size w W0 := by subst hW0; exact bpush (bpush (bre _) _) _
  have x0 : Lk W0 w.heap.size 24 ep (.slice ga gn gc) nx wt := by subst hW0; exact (Lk.new w _ _ _ _ _).later (bpush (bre _) _)
  have x1 : Lk W0 (w.heap.size + 1) 24 0 (.slice none 0 0) 0 0 := by
    subst hW0
    have h := Lk.new (w.alloc (.cells #[.int .i64 ep, .slice ga gn gc, .int .i64 nx, .int .i64 wt] 24)) 24 0 (.slice none 0 0) 0 0
    simpa using h
  have HC := hid (copy17_any lo hi ep nx wt ga gn gc G W0 hgl (by omega) (hs.later b0) hg0)
  have A0 := hid x0
  have A1 := hid x1
  have B0 := hid b0
  have HW := hid hW0
  have HGL := hid hgl
  have HT := hid ht
  have HGN := hid hgn
  have CIN := hid (fun (W : World) => in17_any (t.size : Int) 1 400 W)
  have c0 := x0.cells
  obtain ⟨L, hL⟩ : ∃ L, lpw G t = L := ⟨_, rfl⟩
  obtain ⟨k, hk⟩ : ∃ k, lpo gn t = k := ⟨_, rfl⟩
  rw [hL, hk]
  have HL := hid hL
  have HK := hid hk
  clear x0 x1 b0 hW0 hs hg0 ht hgn hL hk hgl
  go_enter Try.func12, Try.ntmps12
  go_wp2_with fail
  rw [HW.out]
  clear HW
  refine HC.out.mono ?_; rintro e w1 ⟨ag, cg, rfl, ho, hb⟩
  have LW : Hid (w.heap.size + 1 < W0.heap.size) := hid A1.out.lt
  have L1 : Hid (W0.heap.size ≤ w1.heap.size) := hid hb.size
  have HLT : Hid (∀ j, Value.ownBlock (.slice ag gn cg) = some j → j < w1.heap.size) := fun j hj => (World.ownsRow.lt ho j hj).2
  obtain ⟨w2, hw2⟩ : ∃ W, w1.alloc (.cells #[.int .i64 ep, .slice ag gn cg, .int .i64 nx, .int .i64 wt] 24) = W := ⟨_, rfl⟩
  have b2 : Below w1.heap.size w1 w2 := by subst hw2; exact bpush (bre _) _
  have x2 : Lk w2 w1.heap.size 24 ep (.slice ag gn cg) nx wt := by subst hw2; exact Lk.new w1 _ _ _ _ _
  have O2 := hid (show OwV w2 W0.heap.size (.slice ag gn cg) G from OwV.later ho b2)
  have A0 := hid ((A0.out.later hb).later b2)
  have A1 := hid ((A1.out.later hb).later b2)
  have A2 := hid x2
  have L2 : Hid (w1.heap.size < w2.heap.size) := hid x2.lt
  have B0 := hid (btr (btr B0.out hb) b2)
  clear ho hb b2 x2 HC c0
  go_upto_region 2 with fail
  clear hw2
  have c0 := A0.out.cells
  have c2 := A2.out.cells
  have c1 := A1.out.cells
  have f1 := A1.out.loose
  by_cases h60 : (60 : Int) ≤ (gn : Int)
  · go_wp2
    have hl := LW.out
    have g3 := putL_grown w2 (w.heap.size + 1) ep (.slice ag gn cg) nx wt
    have d := (A1.out.put ep (.slice ag gn cg) nx wt).cells
    unfold putL at g3 d
    obtain rfl : false = k := by rw [← HK.out]; unfold lpo; simp; omega
    obtain rfl : G = L := by rw [← HL.out]; unfold lpw lpo; rw [HGL.out, if_neg (by simp; omega)]
    obtain rfl := HGL.out
    refine bodyPost_ret (v := .tuple #[lkv ep (.slice ag G.length cg) nx wt, .bool false]) (by simp [results, Try.results12, go_sem, d]) rfl ⟨_, _, rfl, own_base (OwV.grown O2.out g3 (by omega)) (by omega), B0.out.trans (below_of_grown g3 (by omega) B0.out.size)⟩
  go_wp2_with fail
  refine (CIN.out _).mono ?_; rintro e w3 ⟨rfl, hw3⟩
  rw [hw3]
  clear hw3 w3
  by_cases hin : (1 : Int) ≤ (t.size : Int) ∧ (t.size : Int) ≤ 400
  rotate_left
  · have e1 : (decide ((1 : Int) ≤ (t.size : Int)) && decide ((t.size : Int) ≤ 400)) = false := by
      rw [Bool.and_eq_false_iff, decide_eq_false_iff_not, decide_eq_false_iff_not]; omega
    rw [e1]
    go_wp2
    have hl := LW.out
    have g3 := putL_grown w2 (w.heap.size + 1) ep (.slice ag gn cg) nx wt
    have d := (A1.out.put ep (.slice ag gn cg) nx wt).cells
    unfold putL at g3 d
    obtain rfl : false = k := by rw [← HK.out]; unfold lpo; simp; omega
    obtain rfl : G = L := by rw [← HL.out]; unfold lpw lpo; rw [HGL.out, if_neg (by simp; omega)]
    obtain rfl := HGL.out
    refine bodyPost_ret (v := .tuple #[lkv ep (.slice ag G.length cg) nx wt, .bool false]) (by simp [results, Try.results12, go_sem, d]) rfl ⟨_, _, rfl, own_base (OwV.grown O2.out g3 (by omega)) (by omega), B0.out.trans (below_of_grown g3 (by omega) B0.out.size)⟩
  · have e1 : (decide ((1 : Int) ≤ (t.size : Int)) && decide ((t.size : Int) ≤ 400)) = true := by
      rw [Bool.and_eq_true, decide_eq_true_eq, decide_eq_true_eq]; exact hin
    rw [e1]
    obtain rfl : true = k := by rw [← HK.out]; unfold lpo; simp; omega
    obtain rfl : G ++ [t] = L := by rw [← HL.out]; unfold lpw lpo; rw [HGL.out, if_pos (by simp; omega)]
    clear c0 c1 f1 hin e1
    obtain ⟨i0, hi0, hz0, hz1, hz2⟩ := info_parts17 info_str17
    have HTX : Hid (∀ (W : World) j u, ([Value.string t] : List Value)[j]? = some u → (W.alloc (.cells #[.string t] 9)).cell? ((⟨W.heap.size, 0, none⟩ : Addr).add j) = some u) := by
      intro W j u hu
      cases j with
      | zero =>
        simp at hu; subst hu
        have h := heap_alloc_new W (.cells #[.string t] 9)
        exact cell_of_row _ _ 0 _ _ _ h
      | succ j => simp at hu
    go_wp2_with (at_builtin; refine wpList_append_own_at _ rfl (.tmp 21) (.tmp 23) 22 rfl W0.heap.size 9 i0 _ 1 16 Try.underlying22 hi0 hz0 hz1 hz2 rfl (by decide) _ _ _ (by rfl) (OwV.later O2.out (bpush (bre _) _)) ⟨w2.heap.size, 0, none⟩ 1 1 [.string t] (by rfl) rfl (HTX.out w2) (by intro u hu; simp at hu; subst hu; rfl) (by have := HGL.out; unfold maxLen; omega) (by have := HGL.out; omega) (by have h1 := L1.out; have h2 := L2.out; simp; omega) ?_; intro v3 w4 hown4 hg4 _ h5; have ownq4 : OwV w4 W0.heap.size v3 (G ++ [t]) := (by simpa [OwV, HGL.out] using hown4); obtain ⟨a3, c3, hv3, _⟩ := ownq4.shape; subst hv3; have l1 := L1.out; have l2 := L2.out; have lw := LW.out; have nb := HLT.out; have b4 : Below W0.heap.size w2 w4 := (Below.refl W0.heap.size w2 |>.alloc (by omega) _).grown hg4 (by simp; omega) (fun j hj => (World.ownsRow.lt O2.out j hj).1); have bx : Below w2.heap.size w2 (w2.alloc (.cells #[.string t] 9)) := bpush (bre _) _; have hA1 := (A1.out.later bx).grown hg4 (fun e => by have := (World.ownsRow.lt O2.out _ e.symm).1; omega); have hA2 := (A2.out.later bx).grown hg4 (fun e => by have := nb _ e.symm; omega); have A1 := hid hA1; have A2 := hid hA2; have B0 := hid (B0.out.trans (b4.mono (by omega))); have O4 := hid ownq4; have L4 : Hid (w1.heap.size < w4.heap.size) := hid hA2.lt; have NB : Hid (∀ j, Value.ownBlock (.slice a3 (G ++ [t]).length c3) = some j → j ≠ w1.heap.size) := hid (fun j hj e => h5.elim (fun h5 => by have := nb j (h5 ▸ hj); omega) (fun h5 => by rw [h5] at hj; simp at hj; omega)); have c1 := hA1.cells; have f1 := hA1.loose; have c2 := hA2.cells; have f2 := hA2.loose; have hl : w.heap.size + 1 < w1.heap.size := (by omega); clear hown4 hg4 ownq4 h5 l1 l2 lw nb b4 bx hA1 hA2)
    have h1 := L1.out
    have h0 := LW.out
    have h4 := L4.out
    have g2 := wst (wre w4 (some w1.heap.size)) 1 (.slice a3 (G.length + 1) c3)
    have g3 := putL_grown (w4.setCell ⟨w1.heap.size, 1, none⟩ (.slice a3 (G.length + 1) c3)) (w.heap.size + 1) ep (.slice a3 (G.length + 1) c3) nx wt
    have d := ((A1.out.grown g2 (by simp; omega)).put ep (.slice a3 (G.length + 1) c3) nx wt).cells
    unfold putL at g3 d
    have hlen : (G ++ [t]).length = G.length + 1 := by rw [List.length_append]; rfl
    have O5 := own_base (OwV.grown (own_off17 O4.out g2 (fun j hj e => NB.out j hj (by simpa using e.symm))) g3 (show w.heap.size + 1 < W0.heap.size by omega)) (show w.heap.size ≤ W0.heap.size by omega)
    refine bodyPost_ret (v := .tuple #[lkv ep (.slice a3 (G.length + 1) c3) nx wt, .bool true]) (by simp [results, Try.results12, go_sem, d]) rfl ⟨a3, c3, by rw [hlen], O5, ?_⟩
    exact B0.out.trans ((below_of_grown g2 (by omega) B0.out.size).trans (below_of_grown g3 (by omega) (Nat.le_trans B0.out.size g2.size)))
abbrev pkv (e s a : Int) (t : ByteArray) : Value := .agg #[.int .i64 e, .int .i64 s, .int .i64 a, .string t]
/-- Block k holds a packet. -/
def Pk (W : World) (k ty : Nat) (e s a : Int) (t : ByteArray) : Prop := W.heap[k]? = some (.cells #[.int .i64 e, .int .i64 s, .int .i64 a, .string t] ty (0, 0))
section
variable {W W' : World} {k ty : Nat} {e s a : Int} {t : ByteArray}
theorem Pk.new (w : World) (ty : Nat) (e s a : Int) (t : ByteArray) : Pk (w.alloc (.cells #[.int .i64 e, .int .i64 s, .int .i64 a, .string t] ty)) w.heap.size ty e s a t := heap_alloc_new w _
theorem Pk.lt (h : Pk W k ty e s a t) : k < W.heap.size := (Array.getElem?_eq_some_iff.1 h).1
theorem Pk.later (h : Pk W k ty e s a t) (hb : Below W.heap.size W W') : Pk W' k ty e s a t := (hb.block k h.lt).trans h
theorem Pk.grown {r : Option Nat} (h : Pk W k ty e s a t) (hg : W.grownBy W' r) (hk : some k ≠ r) : Pk W' k ty e s a t := (hg.block k h.lt hk).trans h
theorem Pk.cells (h : Pk W k ty e s a t) : W.cell? ⟨k, 0, none⟩ = some (.int .i64 e) ∧ W.cell? ⟨k, 1, none⟩ = some (.int .i64 s) ∧ W.cell? ⟨k, 2, none⟩ = some (.int .i64 a) ∧ W.cell? ⟨k, 3, none⟩ = some (.string t) :=
  ⟨cell_of_row W k 0 _ _ _ h, cell_of_row W k 1 _ _ _ h, cell_of_row W k 2 _ _ _ h, cell_of_row W k 3 _ _ _ h⟩
theorem Pk.loose (h : Pk W k ty e s a t) : W.frozen? ⟨k, 0, none⟩ = false ∧ W.frozen? ⟨k, 1, none⟩ = false ∧ W.frozen? ⟨k, 2, none⟩ = false ∧ W.frozen? ⟨k, 3, none⟩ = false :=
  ⟨frozen_of_row W k 0 _ _ h, frozen_of_row W k 1 _ _ h, frozen_of_row W k 2 _ _ h, frozen_of_row W k 3 _ _ h⟩
theorem Pk.s0 (h : Pk W k ty e s a t) (x : Int) : Pk (W.setCell ⟨k, 0, none⟩ (.int .i64 x)) k ty x s a t := heap_setCell_same W k 0 _ _ _ h
theorem Pk.s1 (h : Pk W k ty e s a t) (x : Int) : Pk (W.setCell ⟨k, 1, none⟩ (.int .i64 x)) k ty e x a t := heap_setCell_same W k 1 _ _ _ h
theorem Pk.s2 (h : Pk W k ty e s a t) (x : Int) : Pk (W.setCell ⟨k, 2, none⟩ (.int .i64 x)) k ty e s x t := heap_setCell_same W k 2 _ _ _ h
theorem Pk.s3 (h : Pk W k ty e s a t) (x : ByteArray) : Pk (W.setCell ⟨k, 3, none⟩ (.string x)) k ty e s a x := heap_setCell_same W k 3 _ _ _ h
end
def putP (W : World) (k : Nat) (e s a : Int) (t : ByteArray) : World := (((W.setCell ⟨k, 0, none⟩ (.int .i64 e)).setCell ⟨k, 1, none⟩ (.int .i64 s)).setCell ⟨k, 2, none⟩ (.int .i64 a)).setCell ⟨k, 3, none⟩ (.string t)
theorem Pk.put {W : World} {k ty : Nat} {e0 s0 a0 : Int} {t0 : ByteArray} (h : Pk W k ty e0 s0 a0 t0) (e s a : Int) (t : ByteArray) : Pk (putP W k e s a t) k ty e s a t := (((h.s0 e).s1 s).s2 a).s3 t
theorem putP_grown (W : World) (k : Nat) (e s a : Int) (t : ByteArray) : W.grownBy (putP W k e s a t) (some k) := wst (wst (wst (wst (wre W (some k)) 0 _) 1 _) 2 _) 3 _
abbrev pk0 : Array Value := #[.int .i64 0, .int .i64 0, .int .i64 0, .string ⟨#[]⟩]
set_option maxHeartbeats 800000 in
theorem eqPk_any (e s a : Int) (t : ByteArray) (w : World) : Calls Try.prog 17 #[pkv e s a t, pkv e s a t] w fun x w' => x = .returned (.bool true) ∧ Below w.heap.size w w' := by
  obtain ⟨W0, hW0⟩ : ∃ W0, (w.alloc (.cells #[.int .i64 e, .int .i64 s, .int .i64 a, .string t] 36)).alloc (.cells #[.int .i64 e, .int .i64 s, .int .i64 a, .string t] 36) = W0 := ⟨_, rfl⟩
  have b0 : Below w.heap.size w W0 := by subst hW0; exact bpush (bpush (bre _) _) _
  have x0 : Pk W0 w.heap.size 36 e s a t := by subst hW0; exact (Pk.new w _ _ _ _ _).later (bpush (bre _) _)
  have x1 : Pk W0 (w.heap.size + 1) 36 e s a t := by
    subst hW0
    have h := Pk.new (w.alloc (.cells #[.int .i64 e, .int .i64 s, .int .i64 a, .string t] 36)) 36 e s a t
    simpa using h
  have B0 := hid b0
  have c0 := x0.cells
  have c1 := x1.cells
  clear x0 x1 b0
  have e1 : (e != e) = false := by simp
  have e2 : (s != s) = false := by simp
  have e3 : (a != a) = false := by simp
  have e4 : (!t.toList == t.toList) = false := by simp
  go_enter Try.func17, Try.ntmps17
  go_wp2
  go_ret
  exact ⟨rfl, B0.out⟩
/-- What a link says: the number and the text of the first that is on its way. -/
def sayN (G : List ByteArray) (nx : Int) : Int := if G = [] then 0 else nx
def sayT (G : List ByteArray) : ByteArray := G.headD ⟨#[]⟩
set_option maxHeartbeats 1600000 in
set_option maxRecDepth 100000 in
theorem specSays_any (lo hi : Nat) (ep nx wt : Int) (ga : Option Addr) (gn gc : Nat) (G : List ByteArray) (w : World) (hgl : G.length = gn) (hs : Ss lo hi w ga G) :
    Calls Try.prog 15 #[lkv ep (.slice ga gn gc) nx wt] w fun e w' => e = .returned (pkv ep (sayN G nx) wt (sayT G)) ∧ Below w.heap.size w w' := by
  obtain ⟨W0, hW0⟩ : ∃ W0, (w.alloc (.cells #[.int .i64 ep, .slice ga gn gc, .int .i64 nx, .int .i64 wt] 24)).alloc (.cells pk0 36) = W0 := ⟨_, rfl⟩
  have b0 : Below w.heap.size w W0 := by subst hW0; exact bpush (bpush (bre _) _) _
  have hw : W0.heap.size = w.heap.size + 1 + 1 := by subst hW0; simp
  have x0 : Lk W0 w.heap.size 24 ep (.slice ga gn gc) nx wt := by subst hW0; exact (Lk.new w _ _ _ _ _).later (bpush (bre _) _)
  have x1 : Pk W0 (w.heap.size + 1) 36 0 0 0 ⟨#[]⟩ := by
    subst hW0
    have h := Pk.new (w.alloc (.cells #[.int .i64 ep, .slice ga gn gc, .int .i64 nx, .int .i64 wt] 24)) 36 0 0 0 ⟨#[]⟩
    simpa using h
  obtain ⟨W1, hW1⟩ : ∃ W1, W0.alloc (.cells #[.int .i64 ep, .int .i64 0, .int .i64 wt, .string ⟨#[]⟩] 36) = W1 := ⟨_, rfl⟩
  have b1 : Below W0.heap.size W0 W1 := by subst hW1; exact bpush (bre _) _
  have x2 : Pk W1 (w.heap.size + 1 + 1) 36 ep 0 wt ⟨#[]⟩ := by rw [← hw]; subst hW1; exact Pk.new _ _ _ _ _ _
  have A1 := hid (x1.later b1)
  have A2 := hid x2
  have B0 := hid (btr b0 b1)
  have HW := hid hw
  have HS := hid (hs.later (btr b0 b1))
  have HW0 := hid hW0
  have HW1 := hid hW1
  obtain ⟨P, hP⟩ : ∃ P, sayN G nx = P := ⟨_, rfl⟩
  obtain ⟨T, hT⟩ : ∃ T, sayT G = T := ⟨_, rfl⟩
  rw [hP, hT]
  have HP := hid hP
  have HT := hid hT
  have d0 := hid (x0.later b1)
  have c0 := x0.cells
  clear x0 x1 x2 b0 b1 hP hT hW0 hW1 hw
  have HAT : Hid (∀ g L, G = g :: L → ∃ k o, ga = some ⟨k, o, none⟩ ∧ k < w.heap.size ∧ W1.cell? ⟨k, o, none⟩ = some (.string g)) := hid (by
    rintro g L rfl
    obtain ⟨k, o, h1, h2, _⟩ := hs.at (i := 0) (by simp)
    obtain ⟨k', o', h1', _, h3⟩ := HS.out.at (i := 0) (by simp)
    rw [h1] at h1'
    simp only [Option.some.injEq, Addr.mk.injEq, and_true] at h1'
    obtain ⟨rfl, rfl⟩ := h1'
    exact ⟨k, o, h1, h2, by simpa using h3⟩)
  clear hs HS
  go_enter Try.func15, Try.ntmps15
  go_upto_region 2 with fail
  rw [HW0.out, HW1.out]
  clear HW0 HW1
  have c0 := d0.out.cells
  have c1 := A1.out.cells
  have f1 := A1.out.loose
  have c2 := A2.out.cells
  have f2 := A2.out.loose
  cases G with
  | nil =>
    obtain rfl : 0 = gn := by simpa using hgl
    go_wp2
    have g3 := putP_grown W1 (w.heap.size + 1) ep 0 wt ⟨#[]⟩
    have d := (A1.out.put ep 0 wt ⟨#[]⟩).cells
    unfold putP at g3 d
    obtain rfl : 0 = P := HP.out
    obtain rfl : ⟨#[]⟩ = T := HT.out
    exact bodyPost_ret (v := pkv ep 0 wt ⟨#[]⟩) (by simp [results, Try.results15, go_sem, d]) rfl ⟨rfl, B0.out.trans (below_of_grown g3 (by omega) B0.out.size)⟩
  | cons g G =>
    obtain ⟨k, o, rfl, hk, hc⟩ := HAT.out g G rfl
    have hn : 0 < gn := by rw [← hgl]; simp
    have hn2 : (0 : Int) < (gn : Int) := by omega
    clear hgl HAT
    go_wp2
    have g2 := wst (wst (wre W1 (some (w.heap.size + 1 + 1))) 1 (.int .i64 nx)) 3 (.string g)
    have g3 := putP_grown ((W1.setCell ⟨w.heap.size + 1 + 1, 1, none⟩ (.int .i64 nx)).setCell ⟨w.heap.size + 1 + 1, 3, none⟩ (.string g)) (w.heap.size + 1) ep nx wt g
    have d := ((A1.out.grown g2 (by simp)).put ep nx wt g).cells
    unfold putP at g3 d
    obtain rfl : nx = P := HP.out
    obtain rfl : g = T := HT.out
    exact bodyPost_ret (v := pkv ep nx wt g) (by simp [results, Try.results15, go_sem, d]) rfl ⟨rfl, B0.out.trans ((below_of_grown g2 (by omega) B0.out.size).trans (below_of_grown g3 (by omega) (Nat.le_trans B0.out.size g2.size)))⟩
set_option maxHeartbeats 800000 in
set_option maxRecDepth 100000 in
theorem cloneS17_any (lo hi : Nat) (ao : Option Addr) (n cap : Nat) (G : List ByteArray) (w : World) (hl : G.length = n) (hn : n ≤ 1048576) (hr : Ss lo hi w ao G) (h0 : ao = none → cap = 0) :
    Calls Try.prog 34 #[.slice ao n cap] w fun e w' => ∃ a c, e = .returned (.slice a n c) ∧ OwV w' w.heap.size (.slice a n c) G ∧ Below w.heap.size w w' := by
  have HR := hid hr
  have HL := hid hl
  have HN := hid hn
  clear hr hl hn
  cases ao with
  | none =>
    have hn0 : n = 0 := by
      by_cases h : 0 < n
      · obtain ⟨_, _, h1, _⟩ := HR.out.2 0 (by rw [HL.out]; exact h)
        cases h1
      · omega
    subst hn0
    obtain rfl := h0 rfl
    have hle : G = [] := List.eq_nil_of_length_eq_zero HL.out
    subst hle
    clear h0
    have hnil : ∀ W, (binOp .eql 22 (.slice none 0 0) (.slice none 0 0)).run Try.prog W = .ok (.bool true) W := fun W => Lib.run_eql_slice_nil_nil W 0 0 Try.underlying22
    go_enter Try.func34, Try.ntmps34
    go_wp2
    go_ret
    exact ⟨_, _, rfl, ⟨rfl, .inl ⟨rfl, rfl⟩⟩, bre _⟩
  | some ad =>
    clear h0
    obtain ⟨i0, hi, hz0, hz1, hz2⟩ := info_parts17 info_str17
    have HSRC : Hid (∀ j u, (G.map Value.string)[j]? = some u → (w.alloc (.cells #[] 9)).cell? (ad.add j) = some u) := ss_all17 (HR.out.later (bpush (bre _) _))
    have hnil : ∀ W, (binOp .eql 22 (.slice (some ad) n cap) (.slice none 0 0)).run Try.prog W = .ok (.bool false) W := fun W => Lib.run_eql_slice_some_nil W ad n cap Try.underlying22
    go_enter Try.func34, Try.ntmps34
    go_wp2_with (at_builtin; refine wpList_append_own _ rfl (.tmp 5) (.tmp 6) 22 rfl w.heap.size 9 i0 _ 1 16 Try.underlying22 hi hz0 hz1 hz2 rfl (by decide) _ 0 [] (by rfl) (ownV_empty17 w _ (Nat.le_refl _)) ad n cap (G.map Value.string) (by rfl) (by rw [List.length_map, HL.out, Nat.mul_one]) HSRC.out (str_one17 G) (by have := HN.out; unfold maxLen; omega) (by have := HN.out; omega) (by simp) ?_; intro v1 w1 hown1 hg1 _; have own1 : OwV w1 w.heap.size v1 G := (by simpa [OwV, HL.out] using hown1); obtain ⟨a1, c1, hv1, _⟩ := own1.shape; rw [HL.out] at hv1; subst hv1; have O1 := hid own1; clear hown1 own1)
    go_ret
    exact ⟨_, _, rfl, O1.out, (bpush (bre _) _).grown hg1 (by simp) (by intro k hk; simp [Value.ownBlock] at hk; omega)⟩
theorem own_zero17 {W : World} {B g o n c : Nat} {G : List ByteArray} (h : OwV W B (.slice (some ⟨g, o, none⟩) n c) G) : o = 0 := by
  rcases h.2 with ⟨h1, _⟩ | ⟨g', cap, cur, h1, _⟩
  · simp at h1
  · simp at h1; exact h1.1.2
theorem own_froz17 {W : World} {B g n c : Nat} {G : List ByteArray} (h : OwV W B (.slice (some ⟨g, 0, none⟩) n c) G) (i : Nat) : W.frozen? ⟨g, i, none⟩ = false := by
  obtain rfl := (OwV.is h).1
  exact World.ownsRow.frozenAt h i
theorem set_self17 {G : List ByteArray} {i : Nat} (h : i < G.length) : G.set i G[i] = G := by simp
set_option maxHeartbeats 1600000 in
set_option maxRecDepth 100000 in
theorem copyLk_any (lo hi : Nat) (ep nx wt : Int) (ga : Option Addr) (gn gc : Nat) (G : List ByteArray) (w : World) (hgl : G.length = gn) (hgn : gn ≤ 1048576) (hz : ∀ x ∈ G, x.size ≤ 1048576) (hs : Ss lo hi w ga G) (hg0 : ga = none → gc = 0) :
    Calls Try.prog 27 #[lkv ep (.slice ga gn gc) nx wt] w fun e w' => ∃ ag cg, e = .returned (lkv ep (.slice ag gn cg) nx wt) ∧ OwV w' w.heap.size (.slice ag gn cg) G ∧ Below w.heap.size w w' := by
  obtain ⟨W0, hW0⟩ : ∃ W0, (w.alloc (.cells #[.int .i64 ep, .slice ga gn gc, .int .i64 nx, .int .i64 wt] 24)).alloc (.cells lk0 24) = W0 := ⟨_, rfl⟩
  have b0 : Below w.heap.size w W0 := by subst hW0; exact bpush (bpush (bre _) _) _
  have x0 : Lk W0 w.heap.size 24 ep (.slice ga gn gc) nx wt := by subst hW0; exact (Lk.new w _ _ _ _ _).later (bpush (bre _) _)
  have x1 : Lk W0 (w.heap.size + 1) 24 0 (.slice none 0 0) 0 0 := by
    subst hW0
    have h := Lk.new (w.alloc (.cells #[.int .i64 ep, .slice ga gn gc, .int .i64 nx, .int .i64 wt] 24)) 24 0 (.slice none 0 0) 0 0
    simpa using h
  have HC := hid (cloneS17_any lo hi ga gn gc G W0 hgl hgn (hs.later b0) hg0)
  have A0 := hid x0
  have A1 := hid x1
  have B0 := hid b0
  have HW := hid hW0
  have HGL := hid hgl
  have HGN := hid hgn
  have HZ := hid hz
  have c0 := x0.cells
  have f0 := x0.loose
  clear x0 x1 b0 hW0 hs hg0 hgn hgl hz
  go_enter Try.func27, Try.ntmps27
  go_wp2_with fail
  rw [HW.out]
  clear HW
  refine HC.out.mono ?_; rintro e w1 ⟨ag, cg, rfl, ho, hb⟩
  have LW : Hid (w.heap.size + 1 < W0.heap.size) := hid A1.out.lt
  have hx1 := A0.out.later hb
  have c0 := hx1.cells
  have f0 := hx1.loose
  go_upto_region 2 with fail
  obtain ⟨w2, hw2⟩ : ∃ W, w1.setCell ⟨w.heap.size, 1, none⟩ (.slice ag gn cg) = W := ⟨_, rfl⟩
  have g2 : w1.grownBy w2 (some w.heap.size) := by subst hw2; exact wst (wre w1 _) 1 _
  have x0 : Lk w2 w.heap.size 24 ep (.slice ag gn cg) nx wt := by subst hw2; exact hx1.s1 _
  have x1 : Lk w2 (w.heap.size + 1) 24 0 (.slice none 0 0) 0 0 := (A1.out.later hb).grown g2 (by simp)
  have O2 : Hid (OwV w2 W0.heap.size (.slice ag gn cg) G) := hid (OwV.grown ho g2 (by have := LW.out; omega))
  have B2 : Hid (Below w.heap.size w w2) := hid (B0.out.trans ((hb.mono B0.out.size).trans (below_of_grown g2 (Nat.le_refl _) (Nat.le_trans B0.out.size hb.size))))
  have L2 : Hid (W0.heap.size ≤ w2.heap.size) := hid (Nat.le_trans hb.size g2.size)
  rw [hw2]
  clear hw2 g2 hx1 c0 f0 ho hb HC
  have X0 := hid x0
  have X1 := hid x1
  have c0 := x0.cells
  clear x0 x1 A0 A1 B0
  go_wp2
  go_loopw [12] (fun iv wr => ∃ i : Nat, i ≤ gn ∧ iv = .int .i64 (i : Int) ∧ Lk wr w.heap.size 24 ep (.slice ag gn cg) nx wt ∧ Lk wr (w.heap.size + 1) 24 0 (.slice none 0 0) 0 0 ∧ OwV wr W0.heap.size (.slice ag gn cg) G ∧ Below w.heap.size w wr ∧ W0.heap.size ≤ wr.heap.size) (fun iv _ => gn - (intOf iv).toNat)
  case atStart => exact ⟨0, Nat.zero_le _, rfl, X0.out, X1.out, O2.out, B2.out, L2.out⟩
  case round =>
    obtain ⟨i, hi, rfl, y0, y1, o1, b1, s1⟩ := hrel
    clear c0
    by_cases hlt : i < gn
    · have HLT := hid hlt
      have hil : i < G.length := by rw [HGL.out]; exact hlt
      obtain ⟨k, o, rfl, hk, c⟩ := (OwV.is o1).2.at hil
      obtain rfl := own_zero17 o1
      simp only [Nat.zero_add] at c
      obtain ⟨x, hx⟩ : ∃ x, G[i] = x := ⟨_, rfl⟩
      rw [hx] at c
      have HX := hid hx
      have HZX := hid (HZ.out G[i] (List.getElem_mem hil))
      rw [hx] at HZX
      have hI : (0 : Int) ≤ (i : Int) ∧ (i : Int) < (gn : Int) := by omega
      have hkB := (World.ownsRow.lt o1 k rfl).1
      have HKB := hid hkB
      have Y0 := hid y0
      have Y1 := hid y1
      have O1 := hid o1
      have B1 := hid b1
      have S1 := hid s1
      have HIL := hid hil
      clear hx y0 y1 o1 b1 s1 hkB
      go_wp2_with fail
      have hcell := Y0.out.cells.2.1
      have f1 := own_froz17 O1.out i
      have HCL : Hid (∀ W, Below wr.heap.size wr W → W.cell? ⟨w.heap.size, 1, none⟩ = some (.slice (some ⟨k, 0, none⟩) gn cg)) := hid (fun W h => (Y0.out.later h).cells.2.1)
      have HCX : Hid (∀ W, Below wr.heap.size wr W → W.cell? ⟨k, i, none⟩ = some (.string x)) := hid (fun W h => (cell_sameT (p := ⟨k, i, none⟩) (h.block k hk)).trans c)
      clear hcell c
      go_region_held3 (fun W => W.cell? ⟨w.heap.size, 1, none⟩ = some (.slice (some ⟨k, 0, none⟩) gn cg))
        ((first | exact HCL.out _ (bdr (bre _)) | exact HCL.out _ (btr (bdr (bre _)) hb2) | exact S5.out))
        ((go_at_call 29; refine (clone_any x _ HZX.out).mono ?_; rintro e w2 ⟨rfl, hb2⟩;
          have C2 := hid (show Below wr.heap.size wr w2 from btr (bdr (bre _)) hb2);
          have O2 := hid (OwV.later O1.out C2.out);
          have f2 := own_froz17 O2.out i;
          have d2 := HCX.out w2 C2.out;
          have hkB2 := HKB.out;
          have LW2 := LW.out;
          have g5 : w2.grownBy (w2.setCell ⟨k, i, none⟩ (.string x)) (some k) := wst (wre _ _) _ _;
          have x5 := (Y0.out.later C2.out).grown g5 (by simp; omega);
          have y5 := (Y1.out.later C2.out).grown g5 (by simp; omega);
          have o5 := OwV.stored O2.out i x;
          rw [← HX.out, set_self17 HIL.out, HX.out] at o5;
          have X5 := hid x5; have Y5 := hid y5; have O5 := hid o5;
          have B5 := hid ((B1.out.trans (C2.out.mono B1.out.size)).trans (below_of_grown g5 (by omega) (Nat.le_trans B1.out.size C2.out.size)));
          have S5 : Hid ((w2.setCell ⟨k, i, none⟩ (.string x)).cell? ⟨w.heap.size, 1, none⟩ = some (.slice (some ⟨k, 0, none⟩) gn cg)) := hid x5.cells.2.1;
          have N5 : Hid (W0.heap.size ≤ (w2.setCell ⟨k, i, none⟩ (.string x)).heap.size) := hid (Nat.le_trans S1.out (Nat.le_trans C2.out.size g5.size));
          clear hkB2 LW2 g5 x5 y5 o5))
      all_goals (obtain ⟨w5, hw5⟩ : ∃ W, w2.setCell ⟨k, i, none⟩ (.string x) = W := ⟨_, rfl⟩; rw [hw5] at X5 Y5 O5 B5 S5 N5 ⊢; clear hw5)
      all_goals (have x3 := X5.out; have y3 := Y5.out; have o3 := O5.out; have b3 := B5.out; have s3 := N5.out; have hgn9 := HGN.out; have hw4 : wrap64 ((i : Int) + 1) = (i : Int) + 1 := (by unfold wrap64; omega); go_wp2; go_roundw)
      all_goals
        first
        | exact ⟨i + 1, by omega, by simp, x3, y3, o3, b3, s3⟩
        | (simp [intOf]; omega)
    · have HLT : Hid (i = gn) := (show i = gn by omega)
      have O1 := hid o1
      have B1 := hid b1
      have S1 := hid s1
      have c0 := y0.cells
      have c1 := y1.cells
      have f1 := y1.loose
      have Y1 := hid y1
      clear o1 b1 s1
      go_wp2
      have lw := LW.out
      have g3 := putL_grown wr (w.heap.size + 1) ep (.slice ag gn cg) nx wt
      have d := (Y1.out.put ep (.slice ag gn cg) nx wt).cells
      unfold putL at g3 d
      refine bodyPost_ret (v := lkv ep (.slice ag gn cg) nx wt) (by simp [results, Try.results27, go_sem, d]) rfl ⟨_, _, rfl, own_base (OwV.grown O1.out g3 (by omega)) (by omega), B1.out.trans (below_of_grown g3 (by omega) B1.out.size)⟩
abbrev lkP (b : Nat) : Value := .pointer (some ⟨b, 0, none⟩)
abbrev lkF1 (b : Nat) : Value := .func (.func 28) #[] #[lkP b]
abbrev lkF2 (b : Nat) : Value := .func (.func 30) #[] #[lkP b]
abbrev lkF3 (b : Nat) : Value := .func (.func 31) #[] #[lkP b]
abbrev lkF4 (b : Nat) : Value := .func (.func 33) #[] #[lkP b]
/-- A link at work over the block b. -/
abbrev lkF (b : Nat) : Value := .agg #[lkF1 b, lkF2 b, lkF3 b, lkF4 b]
/-- A block of four functions. -/
def Lf (W : World) (k ty : Nat) (a b c d : Value) : Prop := W.heap[k]? = some (.cells #[a, b, c, d] ty (0, 0))
section
variable {W W' : World} {k ty : Nat} {a b c d : Value}
theorem Lf.new (w : World) (ty : Nat) (a b c d : Value) : Lf (w.alloc (.cells #[a, b, c, d] ty)) w.heap.size ty a b c d := heap_alloc_new w _
theorem Lf.lt (h : Lf W k ty a b c d) : k < W.heap.size := (Array.getElem?_eq_some_iff.1 h).1
theorem Lf.later (h : Lf W k ty a b c d) (hb : Below W.heap.size W W') : Lf W' k ty a b c d := (hb.block k h.lt).trans h
theorem Lf.grown {r : Option Nat} (h : Lf W k ty a b c d) (hg : W.grownBy W' r) (hk : some k ≠ r) : Lf W' k ty a b c d := (hg.block k h.lt hk).trans h
theorem Lf.cells (h : Lf W k ty a b c d) : W.cell? ⟨k, 0, none⟩ = some a ∧ W.cell? ⟨k, 1, none⟩ = some b ∧ W.cell? ⟨k, 2, none⟩ = some c ∧ W.cell? ⟨k, 3, none⟩ = some d :=
  ⟨cell_of_row W k 0 _ _ _ h, cell_of_row W k 1 _ _ _ h, cell_of_row W k 2 _ _ _ h, cell_of_row W k 3 _ _ _ h⟩
theorem Lf.loose (h : Lf W k ty a b c d) : W.frozen? ⟨k, 0, none⟩ = false ∧ W.frozen? ⟨k, 1, none⟩ = false ∧ W.frozen? ⟨k, 2, none⟩ = false ∧ W.frozen? ⟨k, 3, none⟩ = false :=
  ⟨frozen_of_row W k 0 _ _ h, frozen_of_row W k 1 _ _ h, frozen_of_row W k 2 _ _ h, frozen_of_row W k 3 _ _ h⟩
end
def putF (W : World) (k : Nat) (a b c d : Value) : World := (((W.setCell ⟨k, 0, none⟩ a).setCell ⟨k, 1, none⟩ b).setCell ⟨k, 2, none⟩ c).setCell ⟨k, 3, none⟩ d
theorem Lf.put {W : World} {k ty : Nat} {a0 b0 c0 d0 : Value} (h : Lf W k ty a0 b0 c0 d0) (a b c d : Value) : Lf (putF W k a b c d) k ty a b c d := by
  have h1 : Lf (W.setCell ⟨k, 0, none⟩ a) k ty a b0 c0 d0 := heap_setCell_same W k 0 _ _ _ h
  have h2 : Lf ((W.setCell ⟨k, 0, none⟩ a).setCell ⟨k, 1, none⟩ b) k ty a b c0 d0 := heap_setCell_same _ k 1 _ _ _ h1
  have h3 : Lf (((W.setCell ⟨k, 0, none⟩ a).setCell ⟨k, 1, none⟩ b).setCell ⟨k, 2, none⟩ c) k ty a b c d0 := heap_setCell_same _ k 2 _ _ _ h2
  exact heap_setCell_same _ k 3 _ _ _ h3
theorem putF_grown (W : World) (k : Nat) (a b c d : Value) : W.grownBy (putF W k a b c d) (some k) := wst (wst (wst (wst (wre W (some k)) 0 _) 1 _) 2 _) 3 _
set_option maxHeartbeats 1600000 in
set_option maxRecDepth 100000 in
theorem linkOf_any (lo hi : Nat) (ep nx wt : Int) (ga : Option Addr) (gn gc : Nat) (G : List ByteArray) (w : World) (hgl : G.length = gn) (hgn : gn ≤ 1048576) (hz : ∀ x ∈ G, x.size ≤ 1048576) (hs : Ss lo hi w ga G) (hg0 : ga = none → gc = 0) :
    Calls Try.prog 25 #[lkv ep (.slice ga gn gc) nx wt] w fun e w' => ∃ ag cg, e = .returned (lkF w.heap.size) ∧ Lk w' w.heap.size 24 ep (.slice ag gn cg) nx wt ∧ OwV w' (w.heap.size + 1) (.slice ag gn cg) G ∧ Below w.heap.size w w' := by
  have hmf : ∀ (fn : Fn) (first cap : Array Value) (w : World), (Instr.makeFunc fn first cap).run Try.prog w = .ok (.func fn first cap) w := fun _ _ _ _ => rfl
  have hsf : ∀ (a : Addr) (fn : Fn) (first cap : Array Value) (m : Mode) (w : World), (store a (.func fn first cap) m).run Try.prog w = stored Try.prog w a (.func fn first cap) m := fun a fn first cap m w => run_store Try.prog w a _ m rfl
  obtain ⟨W0, hW0⟩ : ∃ W0, (w.alloc (.cells #[.int .i64 ep, .slice ga gn gc, .int .i64 nx, .int .i64 wt] 24)).alloc (.cells #[.nilFunc, .nilFunc, .nilFunc, .nilFunc] 50) = W0 := ⟨_, rfl⟩
  have b0 : Below w.heap.size w W0 := by subst hW0; exact bpush (bpush (bre _) _) _
  have x0 : Lk W0 w.heap.size 24 ep (.slice ga gn gc) nx wt := by subst hW0; exact (Lk.new w _ _ _ _ _).later (bpush (bre _) _)
  have x1 : Lf W0 (w.heap.size + 1) 50 .nilFunc .nilFunc .nilFunc .nilFunc := by
    subst hW0
    have h := Lf.new (w.alloc (.cells #[.int .i64 ep, .slice ga gn gc, .int .i64 nx, .int .i64 wt] 24)) 50 .nilFunc .nilFunc .nilFunc .nilFunc
    simpa using h
  have HC := hid (copyLk_any lo hi ep nx wt ga gn gc G W0 hgl hgn hz (hs.later b0) hg0)
  have A0 := hid x0
  have A1 := hid x1
  have B0 := hid b0
  have HW := hid hW0
  have c0 := x0.cells
  have f0 := x0.loose
  clear x0 x1 b0 hW0 hs hg0 hgn hgl hz
  go_enter Try.func25, Try.ntmps25
  go_wp2_with fail
  rw [HW.out]
  clear HW
  refine HC.out.mono ?_; rintro e w1 ⟨ag, cg, rfl, ho, hb⟩
  have LW : Hid (w.heap.size + 1 < W0.heap.size) := hid A1.out.lt
  have hx0 := A0.out.later hb
  have hx1 := A1.out.later hb
  have c0 := hx0.cells
  have f0 := hx0.loose
  have c1 := hx1.cells
  have f1 := hx1.loose
  have HO := hid ho
  have B1 := hid (btr B0.out hb)
  have X0 := hid hx0
  have X1 := hid hx1
  have HBS := hid hb.size
  clear A0 A1 B0 hx0 hx1 ho hb HC
  go_upto_region 2 with fail
  have lw := LW.out
  have hbs := HBS.out
  have b1s := B1.out.size
  have hput := putL_grown w1 w.heap.size ep (.slice ag gn cg) nx wt
  have x2 := X0.out.put ep (.slice ag gn cg) nx wt
  have y2 := X1.out.grown hput (by simp)
  have o2 := OwV.grown HO.out hput (by omega)
  have b2 : Below w.heap.size w (putL w1 w.heap.size ep (.slice ag gn cg) nx wt) := B1.out.trans (below_of_grown hput (Nat.le_refl _) B1.out.size)
  obtain ⟨w2, hw2⟩ : ∃ W, putL w1 w.heap.size ep (.slice ag gn cg) nx wt = W := ⟨_, rfl⟩
  rw [hw2] at x2 y2 o2 b2 hput
  unfold putL at hw2
  rw [hw2]
  have hs2 := hput.size
  have c1 := y2.cells
  have f1 := y2.loose
  have X2 := hid x2
  have Y2 := hid y2
  have O2 := hid o2
  have B2 := hid b2
  have LX : Hid (w.heap.size + 1 < W0.heap.size ∧ W0.heap.size ≤ w2.heap.size) := hid ⟨lw, by omega⟩
  clear hw2 hput x2 y2 o2 b2 c0 f0 X0 X1 HO B1 HBS lw hbs b1s hs2
  go_wp2
  have g3 := putF_grown w2 (w.heap.size + 1) (lkF1 w.heap.size) (lkF2 w.heap.size) (lkF3 w.heap.size) (lkF4 w.heap.size)
  have d := (Y2.out.put (lkF1 w.heap.size) (lkF2 w.heap.size) (lkF3 w.heap.size) (lkF4 w.heap.size)).cells
  unfold putF at g3 d
  have lx := LX.out

  refine bodyPost_ret (v := lkF w.heap.size) (by simp [results, Try.results25, go_sem, d]) rfl ⟨_, _, rfl, X2.out.grown g3 (by simp), own_base (OwV.grown O2.out g3 (by omega)) (by omega), B2.out.trans (below_of_grown g3 (by omega) B2.out.size)⟩
theorem now17_any (b : Nat) (ep nx wt : Int) (ga : Option Addr) (gn gc : Nat) (w : World) (hx : Lk w b 24 ep (.slice ga gn gc) nx wt) :
    Calls Try.prog 33 #[lkP b] w fun e w' => e = .returned (lkv ep (.slice ga gn gc) nx wt) ∧ Below w.heap.size w w' := by
  obtain ⟨W0, hW0⟩ : ∃ W0, w.alloc (.cells lk0 24) = W0 := ⟨_, rfl⟩
  have b0 : Below w.heap.size w W0 := by subst hW0; exact bpush (bre _) _
  have x0 := hx.later b0
  have x1 : Lk W0 w.heap.size 24 0 (.slice none 0 0) 0 0 := by subst hW0; exact Lk.new _ _ _ _ _ _
  have A1 := hid x1
  have B0 := hid b0
  have c0 := x0.cells
  have c1 := x1.cells
  have f1 := x1.loose
  have HW := hid hW0
  clear hx x0 x1 b0 hW0
  go_enter Try.func33, Try.ntmps33
  go_upto_region 1 with fail
  rw [HW.out]
  go_wp2
  have g3 := putL_grown W0 w.heap.size ep (.slice ga gn gc) nx wt
  have d := (A1.out.put ep (.slice ga gn gc) nx wt).cells
  unfold putL at g3 d
  exact bodyPost_ret (v := lkv ep (.slice ga gn gc) nx wt) (by simp [results, Try.results33, go_sem, d]) rfl ⟨rfl, B0.out.trans (below_of_grown g3 (by omega) B0.out.size)⟩
set_option maxHeartbeats 1600000 in
set_option maxRecDepth 100000 in
theorem says17_any (lo hi b : Nat) (ep nx wt : Int) (ga : Option Addr) (gn gc : Nat) (G : List ByteArray) (w : World) (hgl : G.length = gn) (hx : Lk w b 24 ep (.slice ga gn gc) nx wt) (hs : Ss lo hi w ga G) :
    Calls Try.prog 30 #[lkP b] w fun e w' => e = .returned (pkv ep (sayN G nx) wt (sayT G)) ∧ Below w.heap.size w w' := by
  obtain ⟨W0, hW0⟩ : ∃ W0, w.alloc (.cells pk0 36) = W0 := ⟨_, rfl⟩
  have b0 : Below w.heap.size w W0 := by subst hW0; exact bpush (bre _) _
  have hw : W0.heap.size = w.heap.size + 1 := by subst hW0; simp
  have x1 : Pk W0 w.heap.size 36 0 0 0 ⟨#[]⟩ := by subst hW0; exact Pk.new _ _ _ _ _ _
  obtain ⟨W1, hW1⟩ : ∃ W1, W0.alloc (.cells #[.int .i64 ep, .int .i64 0, .int .i64 wt, .string ⟨#[]⟩] 36) = W1 := ⟨_, rfl⟩
  have b1 : Below W0.heap.size W0 W1 := by subst hW1; exact bpush (bre _) _
  have x2 : Pk W1 (w.heap.size + 1) 36 ep 0 wt ⟨#[]⟩ := by rw [← hw]; subst hW1; exact Pk.new _ _ _ _ _ _
  have A1 := hid (x1.later b1)
  have A2 := hid x2
  have B0 := hid (btr b0 b1)
  have HW0 := hid hW0
  have HW1 := hid hW1
  have X0 := hid ((hx.later b0).later b1)
  have XW := hid hx
  have HB := hid hx.lt
  obtain ⟨P, hP⟩ : ∃ P, sayN G nx = P := ⟨_, rfl⟩
  obtain ⟨T, hT⟩ : ∃ T, sayT G = T := ⟨_, rfl⟩
  rw [hP, hT]
  have HP := hid hP
  have HT := hid hT
  have HS := hs.later (btr b0 b1)
  have HAT : Hid (∀ g L, G = g :: L → ∃ k o, ga = some ⟨k, o, none⟩ ∧ k < w.heap.size ∧ W1.cell? ⟨k, o, none⟩ = some (.string g)) := hid (by
    rintro g L rfl
    obtain ⟨k, o, h1, h2, _⟩ := hs.at (i := 0) (by simp)
    obtain ⟨k', o', h1', _, h3⟩ := HS.at (i := 0) (by simp)
    rw [h1] at h1'
    simp only [Option.some.injEq, Addr.mk.injEq, and_true] at h1'
    obtain ⟨rfl, rfl⟩ := h1'
    exact ⟨k, o, h1, h2, by simpa using h3⟩)
  have c0 := hid (hx.later b0).cells
  have HW := hid hw
  clear hx x1 x2 b0 b1 hP hT hW0 hW1 hw hs HS
  go_enter Try.func30, Try.ntmps30
  go_upto_region 1 with fail
  rw [HW0.out]
  replace c0 := c0.out
  go_upto_region 2 with fail
  rw [HW1.out, HW.out]
  have hb := HB.out
  clear HW0 HW1 HW HB c0
  have c0 := X0.out.cells
  have c1 := A1.out.cells
  have f1 := A1.out.loose
  have c2 := A2.out.cells
  have f2 := A2.out.loose
  cases G with
  | nil =>
    obtain rfl : 0 = gn := by simpa using hgl
    go_wp2
    have g3 := putP_grown W1 w.heap.size ep 0 wt ⟨#[]⟩
    have d := (A1.out.put ep 0 wt ⟨#[]⟩).cells
    unfold putP at g3 d
    obtain rfl : 0 = P := HP.out
    obtain rfl : ⟨#[]⟩ = T := HT.out
    exact bodyPost_ret (v := pkv ep 0 wt ⟨#[]⟩) (by simp [results, Try.results30, go_sem, d]) rfl ⟨rfl, B0.out.trans (below_of_grown g3 (by omega) B0.out.size)⟩
  | cons g G =>
    obtain ⟨k, o, rfl, hk, hc⟩ := HAT.out g G rfl
    have hn : 0 < gn := by rw [← hgl]; simp
    have hn2 : (0 : Int) < (gn : Int) := by omega
    clear hgl HAT
    have S0 : Hid (W1.cell? ⟨b, 1, none⟩ = some (.slice (some ⟨k, o, none⟩) gn gc) ∧ W1.cell? ⟨b, 2, none⟩ = some (.int .i64 nx) ∧ W1.cell? ⟨k, o, none⟩ = some (.string g)) := hid ⟨c0.2.1, c0.2.2.1, hc⟩
    go_wp2_with fail
    clear c0 c1 hc
    have HS : Hid (∀ W, Below w.heap.size w W → (W.cell? ⟨b, 1, none⟩ = some (.slice (some ⟨k, o, none⟩) gn gc) ∧ W.cell? ⟨b, 2, none⟩ = some (.int .i64 nx) ∧ W.cell? ⟨k, o, none⟩ = some (.string g))) := hid (fun W h => ⟨(XW.out.later h).cells.2.1, (XW.out.later h).cells.2.2.1, ((cell_sameT (p := ⟨k, o, none⟩) (h.block k hk)).trans (cell_sameT (p := ⟨k, o, none⟩) (B0.out.block k hk)).symm).trans S0.out.2.2⟩)
    go_region_held3 (fun W => W.cell? ⟨b, 1, none⟩ = some (.slice (some ⟨k, o, none⟩) gn gc) ∧ W.cell? ⟨b, 2, none⟩ = some (.int .i64 nx) ∧ W.cell? ⟨k, o, none⟩ = some (.string g))
      ((first | exact S0.out | exact HS.out _ (bdr (bset B0.out (by simp) _)) | exact HS.out _ (bset (bdr (bset B0.out (by simp) _)) (by simp) _) | exact HS.out _ (bset (bset (bdr B0.out) (by simp) _) (by simp) _) | exact HS.out _ (bset (bdr B0.out) (by simp) _) | exact HS.out _ (bdr B0.out) | trace_state))
      (fail)
    have g2 := wst (wst (wre W1 (some (w.heap.size + 1))) 1 (.int .i64 nx)) 3 (.string g)
    have y1 := (A1.out.grown g2 (by simp)).later (bdr (bre _))
    have y2 := ((A2.out.s1 nx).s3 g).later (bdr (bre _))
    have b2 := bdr (B0.out.trans (below_of_grown g2 (by omega) B0.out.size))
    obtain ⟨w2, hw2⟩ : ∃ W, ((W1.setCell ⟨w.heap.size + 1, 1, none⟩ (.int .i64 nx)).setCell ⟨w.heap.size + 1, 3, none⟩ (.string g)).drew = W := ⟨_, rfl⟩
    rw [hw2] at y1 y2 b2
    rw [hw2]
    have Y1 := hid y1
    have B2 := hid b2
    clear hw2 g2 A1 A2 B0 f2 c2
    have c1 := y1.cells
    have f1 := y1.loose
    have c2 := y2.cells
    clear y1 y2 b2
    go_wp2
    have g3 := putP_grown w2 w.heap.size ep nx wt g
    have d := (Y1.out.put ep nx wt g).cells
    unfold putP at g3 d
    obtain rfl : nx = P := HP.out
    obtain rfl : g = T := HT.out
    exact bodyPost_ret (v := pkv ep nx wt g) (by simp [results, Try.results30, go_sem, d]) rfl ⟨rfl, B2.out.trans (below_of_grown g3 (by omega) B2.out.size)⟩
end Go.Proofs.Ythcgpjicfcgfiaa
