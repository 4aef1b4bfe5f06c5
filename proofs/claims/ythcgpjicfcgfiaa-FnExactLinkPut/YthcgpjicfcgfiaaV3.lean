/- K7x, K7y, K7z, K7i, K7j, K7l, K7m, OpenV. -/
import Derived.Test.YthcgpjicfcgfiaaV2
namespace Go.Proofs.Ythcgpjicfcgfiaa
open Go.RowKit Go.ChangeMaps
set_option maxHeartbeats 1600000 in
set_option maxRecDepth 100000 in
theorem put17_any (B b : Nat) (ep nx wt : Int) (ga : Option Addr) (gn gc : Nat) (G : List ByteArray) (t : ByteArray) (w : World) (hgl : G.length = gn) (hgn : gn ≤ 1048576) (ht : t.size ≤ 1048576) (hx : Lk w b 24 ep (.slice ga gn gc) nx wt) (ho : OwV w B (.slice ga gn gc) G) (hb : b < B) (hBw : B ≤ w.heap.size) :
    Calls Try.prog 28 #[.string t, lkP b] w fun e w' => ∃ ag cg, e = .returned (.bool (lpo gn t)) ∧ Lk w' b 24 ep (.slice ag (lpw G t).length cg) nx wt ∧ OwV w' B (.slice ag (lpw G t).length cg) (lpw G t) ∧ ∃ wm, w.grownBy wm (Value.ownBlock (.slice ga gn gc)) ∧ wm.grownBy w' (some b) := by
  have X0 := hid hx
  have O0 := hid ho
  have HB := hid hb
  have HBW := hid hBw
  have HT := hid ht
  have HGN := hid hgn
  have HGL := hid hgl
  have c0 := hx.cells
  obtain ⟨L, hL⟩ : ∃ L, lpw G t = L := ⟨_, rfl⟩
  obtain ⟨k, hk⟩ : ∃ k, lpo gn t = k := ⟨_, rfl⟩
  rw [hL, hk]
  have HL := hid hL
  have HK := hid hk
  clear hx ho hb hBw hgl hgn ht hL hk
  have hno : (lpo gn t = false) → k = false ∧ L = G := fun h => ⟨by rw [← HK.out]; exact h, by rw [← HL.out]; unfold lpw; rw [HGL.out, if_neg (by simp [h])]⟩
  have HNO := hid hno
  clear hno
  by_cases h60 : (60 : Int) ≤ (gn : Int)
  · go_enter Try.func28, Try.ntmps28
    go_wp2
    go_ret
    obtain ⟨hk0, hl0⟩ := HNO.out (by unfold lpo; simp; omega)
    rw [hk0, hl0, HGL.out]
    exact ⟨ga, gc, rfl, X0.out, O0.out, w, wre _ _, wre _ _⟩
  by_cases h0 : t.size = 0
  · have hte : t.toList = [] := List.eq_nil_of_length_eq_zero (by rw [ByteArray.toList_eq, data_len]; exact h0)
    have hti : t.toList.isEmpty = true := by rw [hte]; rfl
    go_enter Try.func28, Try.ntmps28
    go_wp2
    go_ret
    obtain ⟨hk0, hl0⟩ := HNO.out (by unfold lpo; simp; omega)
    rw [hk0, hl0, HGL.out]
    exact ⟨rfl, ga, gc, X0.out, O0.out, w, wre _ _, wre _ _⟩
  have hte : ¬ t.toList = [] := fun e => h0 (by rw [← data_len, ← ByteArray.toList_eq, e]; rfl)
  have hti : t.toList.isEmpty = false := by cases h : t.toList with | nil => exact absurd h hte | cons _ _ => rfl
  by_cases h4 : (400 : Int) < (t.size : Int)
  · go_enter Try.func28, Try.ntmps28
    go_wp2
    go_ret
    obtain ⟨hk0, hl0⟩ := HNO.out (by unfold lpo; simp; omega)
    rw [hk0, hl0, HGL.out]
    exact ⟨rfl, ga, gc, X0.out, O0.out, w, wre _ _, wre _ _⟩
  · have hyes : lpo gn t = true := by unfold lpo; simp; omega
    obtain rfl : true = k := by rw [← HK.out]; exact hyes.symm
    obtain rfl : G ++ [t] = L := by rw [← HL.out]; unfold lpw; rw [HGL.out, if_pos hyes]
    clear hyes HNO HL HK
    obtain ⟨m, hm⟩ : ∃ m, (G ++ [t]).length = m := ⟨_, rfl⟩
    rw [hm]
    have HM := hid hm
    clear hm
    go_enter Try.func28, Try.ntmps28
    go_upto_region 3 with fail
    clear c0
    refine wp_region_noPanic ?_
    refine wp_region_held_drew (S := (fun W => True)) (by kernel_rfl) trivial (fun hHeld => ?_)
    obtain ⟨v0, hv0⟩ : ∃ x, w.drew = x := ⟨_, rfl⟩
    have B0 : Hid (Below w.heap.size w v0) := hid (by rw [← hv0]; exact bdr (bre _))
    rw [hv0]
    clear hv0
    refine tk 0 ?_
    refine tk 2 ?_
    refine wpAnyH_ready (rs := [1, 3]) (by kernel_rfl) (by simp) ?_
    refine rc (fun K hK => ?_) (rl (fun K hK => ?_))
    · have cl := (X0.out.later B0.out).cells.2.1
      go_simp
      clear cl
      refine hK.out _ _ trivial (fun hHeld => ?_)
      clear hK K
      try simp only [Act.put, List.setIfInBounds_toArray, List.set_cons_zero, List.set_cons_succ]
      refine ry 3 (fun K hK => ?_)
      go_simp
      refine (clone_any t _ HT.out).mono ?_; rintro e v1 ⟨rfl, hb1⟩
      replace B0 := hid (btr B0.out hb1)
      clear hb1
      refine hK.out _ _ trivial (fun hHeld => ?_)
      clear hK K
      try simp only [Act.put, List.setIfInBounds_toArray, List.set_cons_zero, List.set_cons_succ]
      refine ry 4 (fun K hK => ?_)
      go_simp
      have HTX : Hid (∀ j u, (([t] : List ByteArray).map Value.string)[j]? = some u → (v1.alloc (.cells #[.string t] 9)).cell? ((⟨v1.heap.size, 0, none⟩ : Addr).add j) = some u) := by
        intro j u hu
        cases j with
        | zero =>
          simp at hu; subst hu
          have h := heap_alloc_new v1 (.cells #[.string t] 9)
          exact cell_of_row _ _ 0 _ _ _ h
        | succ j => simp at hu
      replace B0 := hid (btr B0.out (bpush (bre v1) (.cells #[.string t] 9)))
      obtain ⟨v2, hv2⟩ : ∃ x, v1.alloc (.cells #[.string t] 9) = x := ⟨_, rfl⟩
      obtain ⟨k2, hk2⟩ : ∃ x, v1.heap.size = x := ⟨_, rfl⟩
      rw [hv2] at B0 HTX
      rw [hk2] at HTX
      rw [hv2, hk2]
      clear hv2 hk2
      refine hK.out _ _ trivial (fun hHeld => ?_)
      clear hK K
      try simp only [Act.put, List.setIfInBounds_toArray, List.set_cons_zero, List.set_cons_succ]
      refine ry 5 (fun K hK => ?_)
      refine step_append_strs17 rfl (.tmp 18) (.tmp 21) rfl B _ G (by rfl) (OwV.later O0.out B0.out) ⟨k2, 0, none⟩ 1 1 [t] (by rfl) rfl HTX.out (by have h1 := HGL.out; have h2 := HGN.out; omega) (by omega) (Nat.le_trans HBW.out B0.out.size) ?_
      intro v3 w3 ho3 hg3
      obtain ⟨a3, c3, hv3, _⟩ := OwV.shape ho3
      rw [HM.out] at hv3
      subst hv3
      have hkb : ∀ j, Value.ownBlock (.slice a3 m c3) = some j → j ≠ b := fun j hj => by have h1 := (World.ownsRow.lt ho3 j hj).1; have h2 := HB.out; omega
      have O3 := hid ho3
      have X3 := hid ((X0.out.later B0.out).grown hg3 (fun e => by have h1 := (World.ownsRow.lt O0.out _ e.symm).1; have h2 := HB.out; omega))
      have G3 := hid (wtr (gof (Value.ownBlock (.slice ga gn gc)) B0.out) hg3)
      have HKB := hid hkb
      clear ho3 hg3 hkb
      refine hK.out _ _ trivial (fun hHeld => ?_)
      clear hK K
      try simp only [Act.put, List.setIfInBounds_toArray, List.set_cons_zero, List.set_cons_succ]
      refine tk 6 ?_
      refine ry 7 (fun K hK => ?_)
      have c3 := X3.out.cells
      have f3 := X3.out.loose
      go_simp
      clear c3 f3
      have g4 := wst (wre w3 (some b)) 1 (.slice a3 m c3)
      have x4 := hid (X3.out.s1 (.slice a3 m c3))
      have o4 := hid (own_off17 O3.out g4 (fun j hj e => HKB.out j hj (by simpa using e.symm)))
      have G4 := hid g4
      clear g4
      refine hK.out _ _ trivial (fun hHeld => ?_)
      clear hK K
      try simp only [Act.put, List.setIfInBounds_toArray, List.set_cons_zero, List.set_cons_succ]
      refine wpAnyH_done (by kernel_rfl) ?_ _
      refine NoPanic.normal ?_
      go_wp2
      go_ret
      exact ⟨rfl, _, _, x4.out, o4.out, w3, G3.out, G4.out⟩
    · go_simp
      refine (clone_any t _ HT.out).mono ?_; rintro e v1 ⟨rfl, hb1⟩
      replace B0 := hid (btr B0.out hb1)
      clear hb1
      refine hK.out _ _ trivial (fun hHeld => ?_)
      clear hK K
      try simp only [Act.put, List.setIfInBounds_toArray, List.set_cons_zero, List.set_cons_succ]
      refine wpAnyH_ready (rs := [1, 4]) (by kernel_rfl) (by simp) ?_
      refine rc (fun K hK => ?_) (rl (fun K hK => ?_))
      · have cl := (X0.out.later B0.out).cells.2.1
        go_simp
        clear cl
        refine hK.out _ _ trivial (fun hHeld => ?_)
        clear hK K
        try simp only [Act.put, List.setIfInBounds_toArray, List.set_cons_zero, List.set_cons_succ]
        refine ry 4 (fun K hK => ?_)
        go_simp
        have HTX : Hid (∀ j u, (([t] : List ByteArray).map Value.string)[j]? = some u → (v1.alloc (.cells #[.string t] 9)).cell? ((⟨v1.heap.size, 0, none⟩ : Addr).add j) = some u) := by
          intro j u hu
          cases j with
          | zero =>
            simp at hu; subst hu
            have h := heap_alloc_new v1 (.cells #[.string t] 9)
            exact cell_of_row _ _ 0 _ _ _ h
          | succ j => simp at hu
        replace B0 := hid (btr B0.out (bpush (bre v1) (.cells #[.string t] 9)))
        obtain ⟨v2, hv2⟩ : ∃ x, v1.alloc (.cells #[.string t] 9) = x := ⟨_, rfl⟩
        obtain ⟨k2, hk2⟩ : ∃ x, v1.heap.size = x := ⟨_, rfl⟩
        rw [hv2] at B0 HTX
        rw [hk2] at HTX
        rw [hv2, hk2]
        clear hv2 hk2
        refine hK.out _ _ trivial (fun hHeld => ?_)
        clear hK K
        try simp only [Act.put, List.setIfInBounds_toArray, List.set_cons_zero, List.set_cons_succ]
        refine ry 5 (fun K hK => ?_)
        refine step_append_strs17 rfl (.tmp 18) (.tmp 21) rfl B _ G (by rfl) (OwV.later O0.out B0.out) ⟨k2, 0, none⟩ 1 1 [t] (by rfl) rfl HTX.out (by have h1 := HGL.out; have h2 := HGN.out; omega) (by omega) (Nat.le_trans HBW.out B0.out.size) ?_
        intro v3 w3 ho3 hg3
        obtain ⟨a3, c3, hv3, _⟩ := OwV.shape ho3
        rw [HM.out] at hv3
        subst hv3
        have hkb : ∀ j, Value.ownBlock (.slice a3 m c3) = some j → j ≠ b := fun j hj => by have h1 := (World.ownsRow.lt ho3 j hj).1; have h2 := HB.out; omega
        have O3 := hid ho3
        have X3 := hid ((X0.out.later B0.out).grown hg3 (fun e => by have h1 := (World.ownsRow.lt O0.out _ e.symm).1; have h2 := HB.out; omega))
        have G3 := hid (wtr (gof (Value.ownBlock (.slice ga gn gc)) B0.out) hg3)
        have HKB := hid hkb
        clear ho3 hg3 hkb
        refine hK.out _ _ trivial (fun hHeld => ?_)
        clear hK K
        try simp only [Act.put, List.setIfInBounds_toArray, List.set_cons_zero, List.set_cons_succ]
        refine tk 6 ?_
        refine ry 7 (fun K hK => ?_)
        have c3 := X3.out.cells
        have f3 := X3.out.loose
        go_simp
        clear c3 f3
        have g4 := wst (wre w3 (some b)) 1 (.slice a3 m c3)
        have x4 := hid (X3.out.s1 (.slice a3 m c3))
        have o4 := hid (own_off17 O3.out g4 (fun j hj e => HKB.out j hj (by simpa using e.symm)))
        have G4 := hid g4
        clear g4
        refine hK.out _ _ trivial (fun hHeld => ?_)
        clear hK K
        try simp only [Act.put, List.setIfInBounds_toArray, List.set_cons_zero, List.set_cons_succ]
        refine wpAnyH_done (by kernel_rfl) ?_ _
        refine NoPanic.normal ?_
        go_wp2
        go_ret
        exact ⟨rfl, _, _, x4.out, o4.out, w3, G3.out, G4.out⟩
      · go_simp
        have HTX : Hid (∀ j u, (([t] : List ByteArray).map Value.string)[j]? = some u → (v1.alloc (.cells #[.string t] 9)).cell? ((⟨v1.heap.size, 0, none⟩ : Addr).add j) = some u) := by
          intro j u hu
          cases j with
          | zero =>
            simp at hu; subst hu
            have h := heap_alloc_new v1 (.cells #[.string t] 9)
            exact cell_of_row _ _ 0 _ _ _ h
          | succ j => simp at hu
        replace B0 := hid (btr B0.out (bpush (bre v1) (.cells #[.string t] 9)))
        obtain ⟨v2, hv2⟩ : ∃ x, v1.alloc (.cells #[.string t] 9) = x := ⟨_, rfl⟩
        obtain ⟨k2, hk2⟩ : ∃ x, v1.heap.size = x := ⟨_, rfl⟩
        rw [hv2] at B0 HTX
        rw [hk2] at HTX
        rw [hv2, hk2]
        clear hv2 hk2
        refine hK.out _ _ trivial (fun hHeld => ?_)
        clear hK K
        try simp only [Act.put, List.setIfInBounds_toArray, List.set_cons_zero, List.set_cons_succ]
        refine ry 1 (fun K hK => ?_)
        have cl := (X0.out.later B0.out).cells.2.1
        go_simp
        clear cl
        refine hK.out _ _ trivial (fun hHeld => ?_)
        clear hK K
        try simp only [Act.put, List.setIfInBounds_toArray, List.set_cons_zero, List.set_cons_succ]
        refine ry 5 (fun K hK => ?_)
        refine step_append_strs17 rfl (.tmp 18) (.tmp 21) rfl B _ G (by rfl) (OwV.later O0.out B0.out) ⟨k2, 0, none⟩ 1 1 [t] (by rfl) rfl HTX.out (by have h1 := HGL.out; have h2 := HGN.out; omega) (by omega) (Nat.le_trans HBW.out B0.out.size) ?_
        intro v3 w3 ho3 hg3
        obtain ⟨a3, c3, hv3, _⟩ := OwV.shape ho3
        rw [HM.out] at hv3
        subst hv3
        have hkb : ∀ j, Value.ownBlock (.slice a3 m c3) = some j → j ≠ b := fun j hj => by have h1 := (World.ownsRow.lt ho3 j hj).1; have h2 := HB.out; omega
        have O3 := hid ho3
        have X3 := hid ((X0.out.later B0.out).grown hg3 (fun e => by have h1 := (World.ownsRow.lt O0.out _ e.symm).1; have h2 := HB.out; omega))
        have G3 := hid (wtr (gof (Value.ownBlock (.slice ga gn gc)) B0.out) hg3)
        have HKB := hid hkb
        clear ho3 hg3 hkb
        refine hK.out _ _ trivial (fun hHeld => ?_)
        clear hK K
        try simp only [Act.put, List.setIfInBounds_toArray, List.set_cons_zero, List.set_cons_succ]
        refine tk 6 ?_
        refine ry 7 (fun K hK => ?_)
        have c3 := X3.out.cells
        have f3 := X3.out.loose
        go_simp
        clear c3 f3
        have g4 := wst (wre w3 (some b)) 1 (.slice a3 m c3)
        have x4 := hid (X3.out.s1 (.slice a3 m c3))
        have o4 := hid (own_off17 O3.out g4 (fun j hj e => HKB.out j hj (by simpa using e.symm)))
        have G4 := hid g4
        clear g4
        refine hK.out _ _ trivial (fun hHeld => ?_)
        clear hK K
        try simp only [Act.put, List.setIfInBounds_toArray, List.set_cons_zero, List.set_cons_succ]
        refine wpAnyH_done (by kernel_rfl) ?_ _
        refine NoPanic.normal ?_
        go_wp2
        go_ret
        exact ⟨rfl, _, _, x4.out, o4.out, w3, G3.out, G4.out⟩
theorem implLinkNew_any (ep : Int) (w : World) : Calls Try.prog 7 #[.int .i64 ep] w fun e w' => ∃ a c, e = .returned (lkv ep (.slice a 0 c) 1 1) ∧ OwV w' w.heap.size (.slice a 0 c) [] ∧ Below w.heap.size w w' := by
  obtain ⟨W0, hW0⟩ : ∃ W0, w.alloc (.cells lk0 24) = W0 := ⟨_, rfl⟩
  have b0 : Below w.heap.size w W0 := by subst hW0; exact bpush (bre _) _
  have x0 : Lk W0 w.heap.size 24 0 (.slice none 0 0) 0 0 := by subst hW0; exact Lk.new _ _ _ _ _ _
  have A0 := hid x0
  have B0 := hid b0
  have c0 := x0.cells
  have f0 := x0.loose
  have HW := hid hW0
  clear x0 b0 hW0
  go_enter Try.func7, Try.ntmps7
  go_upto_region 1 with fail
  rw [HW.out]
  go_wp2
  have g3 := putL_grown W0 w.heap.size ep (.slice none 0 0) 1 1
  have d := (A0.out.put ep (.slice none 0 0) 1 1).cells
  have b3 := B0.out.trans (below_of_grown g3 (by omega) B0.out.size)
  unfold putL at g3 d b3
  exact bodyPost_ret (v := lkv ep (.slice none 0 0) 1 1) (by simp [results, Try.results7, go_sem, d]) rfl ⟨_, _, rfl, ⟨rfl, .inl ⟨rfl, rfl⟩⟩, b3⟩
set_option maxHeartbeats 1600000 in
set_option maxRecDepth 100000 in
theorem implSays_any (lo hi : Nat) (ep nx wt : Int) (ga : Option Addr) (gn gc : Nat) (G : List ByteArray) (w : World) (hgl : G.length = gn) (hgn : gn ≤ 1048576) (hz : ∀ x ∈ G, x.size ≤ 1048576) (hs : Ss lo hi w ga G) (hg0 : ga = none → gc = 0) :
    Calls Try.prog 16 #[lkv ep (.slice ga gn gc) nx wt] w fun e w' => e = .returned (pkv ep (sayN G nx) wt (sayT G)) ∧ Below w.heap.size w w' := by
  obtain ⟨W0, hW0⟩ : ∃ W0, (w.alloc (.cells #[.int .i64 ep, .slice ga gn gc, .int .i64 nx, .int .i64 wt] 24)).alloc (.cells pk0 36) = W0 := ⟨_, rfl⟩
  have b0 : Below w.heap.size w W0 := by subst hW0; exact bpush (bpush (bre _) _) _
  have x0 : Lk W0 w.heap.size 24 ep (.slice ga gn gc) nx wt := by subst hW0; exact (Lk.new w _ _ _ _ _).later (bpush (bre _) _)
  have x1 : Pk W0 (w.heap.size + 1) 36 0 0 0 ⟨#[]⟩ := by
    subst hW0
    have h := Pk.new (w.alloc (.cells #[.int .i64 ep, .slice ga gn gc, .int .i64 nx, .int .i64 wt] 24)) 36 0 0 0 ⟨#[]⟩
    simpa using h
  have HC := hid (linkOf_any lo hi ep nx wt ga gn gc G W0 hgl hgn hz (hs.later b0) hg0)
  have A1 := hid x1
  have B0 := hid b0
  have HW := hid hW0
  have HGL := hid hgl
  have c0 := x0.cells
  obtain ⟨P, hP⟩ : ∃ P, pkv ep (sayN G nx) wt (sayT G) = P := ⟨_, rfl⟩
  obtain ⟨p1, hp1⟩ : ∃ P, sayN G nx = P := ⟨_, rfl⟩
  obtain ⟨p2, hp2⟩ : ∃ P, sayT G = P := ⟨_, rfl⟩
  rw [hp1, hp2] at hP
  have HP1 := hid hp1
  have HP2 := hid hp2
  rw [hp1, hp2]
  clear hP P hp1 hp2 x0 x1 b0 hW0 hs hg0 hgn hgl hz
  go_enter Try.func16, Try.ntmps16
  go_wp2_with fail
  rw [HW.out]
  clear HW
  refine HC.out.mono ?_; rintro e w1 ⟨ag, cg, rfl, hx, ho, hb⟩
  have A2 := hid (A1.out.later hb)
  have B1 := hid (btr B0.out hb)
  have HS := hid (says17_any _ _ _ ep nx wt ag gn cg G w1 HGL.out hx (OwV.is ho).2)
  clear hx ho hb A1 B0 HC c0
  have hfl : ∀ W : World, (Instr.field 50 (lkF W0.heap.size) 1).run Try.prog W = .ok (lkF2 W0.heap.size) W := fun _ => rfl
  go_wp2_with fail
  refine HS.out.mono ?_; rintro e w2 ⟨rfl, hb2⟩
  rw [HP1.out, HP2.out]
  have hA := A2.out.later hb2
  have c1 := hA.cells
  have f1 := hA.loose
  have A3 := hid hA
  have B2 := hid (btr B1.out hb2)
  clear hA hb2 A2 B1 HS
  go_wp2
  have g3 := putP_grown w2 (w.heap.size + 1) ep p1 wt p2
  have d := (A3.out.put ep p1 wt p2).cells
  unfold putP at g3 d
  exact bodyPost_ret (v := pkv ep p1 wt p2) (by simp [results, Try.results16, go_sem, d]) rfl ⟨rfl, B2.out.trans (below_of_grown g3 (by omega) B2.out.size)⟩
set_option maxHeartbeats 1600000 in
set_option maxRecDepth 100000 in
theorem implLinkPut_any (lo hi : Nat) (ep nx wt : Int) (ga : Option Addr) (gn gc : Nat) (G : List ByteArray) (t : ByteArray) (w : World) (hgl : G.length = gn) (hgn : gn ≤ 1048576) (hz : ∀ x ∈ G, x.size ≤ 1048576) (hs : Ss lo hi w ga G) (hg0 : ga = none → gc = 0) (ht : t.size ≤ 1048576) :
    Calls Try.prog 14 #[lkv ep (.slice ga gn gc) nx wt, .string t] w fun e w' => ∃ ag cg, e = .returned (.tuple #[lkv ep (.slice ag (lpw G t).length cg) nx wt, .bool (lpo gn t)]) ∧ OwV w' w.heap.size (.slice ag (lpw G t).length cg) (lpw G t) ∧ Below w.heap.size w w' := by
  obtain ⟨W0, hW0⟩ : ∃ W0, (w.alloc (.cells #[.int .i64 ep, .slice ga gn gc, .int .i64 nx, .int .i64 wt] 24)).alloc (.cells lk0 24) = W0 := ⟨_, rfl⟩
  have b0 : Below w.heap.size w W0 := by subst hW0; exact bpush (bpush (bre _) _) _
  have x0 : Lk W0 w.heap.size 24 ep (.slice ga gn gc) nx wt := by subst hW0; exact (Lk.new w _ _ _ _ _).later (bpush (bre _) _)
  have x1 : Lk W0 (w.heap.size + 1) 24 0 (.slice none 0 0) 0 0 := by
    subst hW0
    have h := Lk.new (w.alloc (.cells #[.int .i64 ep, .slice ga gn gc, .int .i64 nx, .int .i64 wt] 24)) 24 0 (.slice none 0 0) 0 0
    simpa using h
  have HC := hid (linkOf_any lo hi ep nx wt ga gn gc G W0 hgl hgn hz (hs.later b0) hg0)
  have HP := hid (fun (w1 : World) (ag : Option Addr) (cg : Nat) h1 h2 h3 => put17_any (W0.heap.size + 1) W0.heap.size ep nx wt ag gn cg G t w1 hgl hgn ht h1 h2 (by omega) h3)
  have A1 := hid x1
  have B0 := hid b0
  have HW := hid hW0
  have HGL := hid hgl
  have c0 := x0.cells
  obtain ⟨L, hL⟩ : ∃ L, lpw G t = L := ⟨_, rfl⟩
  obtain ⟨k, hk⟩ : ∃ k, lpo gn t = k := ⟨_, rfl⟩
  rw [hL, hk]
  have HL := hid hL
  have HK := hid hk
  obtain ⟨m, hm⟩ : ∃ m, L.length = m := ⟨_, rfl⟩
  rw [hm]
  have HM := hid hm
  clear hL hk hm x0 x1 b0 hW0 hs hg0 hgn hgl hz ht
  go_enter Try.func14, Try.ntmps14
  go_wp2_with fail
  rw [HW.out]
  clear HW
  refine HC.out.mono ?_; rintro e w1 ⟨ag, cg, rfl, hx, ho, hb⟩
  have LW : Hid (w.heap.size + 1 < W0.heap.size ∧ W0.heap.size < w1.heap.size) := hid ⟨A1.out.lt, hx.lt⟩
  obtain ⟨w2, hw2⟩ : ∃ x, w1.alloc (.cells #[lkF1 W0.heap.size, lkF2 W0.heap.size, lkF3 W0.heap.size, lkF4 W0.heap.size] 50) = x := ⟨_, rfl⟩
  have b2 : Below w1.heap.size w1 w2 := by subst hw2; exact bpush (bre _) _
  have e2 : Lf w2 w1.heap.size 50 (lkF1 W0.heap.size) (lkF2 W0.heap.size) (lkF3 W0.heap.size) (lkF4 W0.heap.size) := by subst hw2; exact Lf.new _ _ _ _ _ _
  have A2 := hid ((A1.out.later hb).later b2)
  have B2 := hid (btr (btr B0.out hb) b2)
  have HPP := hid (HP.out w2 ag cg (hx.later b2) (OwV.later ho b2) (Nat.le_trans hx.lt b2.size))
  have NB : Hid (∀ j, Value.ownBlock (.slice ag gn cg) = some j → W0.heap.size < j ∧ j < w1.heap.size) := hid (fun j hj => World.ownsRow.lt ho j hj)
  have E2 := hid e2
  clear hx ho hb A1 B0 HC c0 HP b2 e2
  have hsf : ∀ (a : Addr) (fn : Fn) (first cap : Array Value) (m : Mode) (w : World), (store a (.func fn first cap) m).run Try.prog w = stored Try.prog w a (.func fn first cap) m := fun a fn first cap m w => run_store Try.prog w a _ m rfl
  go_upto_region 2 with fail
  clear hw2
  have ce := E2.out.cells
  go_wp2_with fail
  refine HPP.out.mono ?_; rintro e w3 ⟨ap, cp, hpe, hpx, hpo, wm, hg1, hg2⟩
  rw [HL.out, HM.out] at hpx hpo
  rw [HK.out] at hpe
  subst hpe
  have lw := LW.out
  have hA := (A2.out.grown hg1 (fun e => by have := NB.out _ e.symm; omega)).grown hg2 (by simp; omega)
  have hE := (E2.out.grown hg1 (fun e => by have := NB.out _ e.symm; omega)).grown hg2 (by simp; omega)
  have hB : Below w.heap.size w w3 := (B2.out.trans (below_grownR hg1 (fun j hj => by have := NB.out j hj; omega) B2.out.size)).trans (below_of_grown hg2 (by omega) (Nat.le_trans B2.out.size hg1.size))
  have HN := hid (now17_any W0.heap.size ep nx wt ap m cp w3 hpx)
  have A3 := hid hA
  have O3 := hid hpo
  have B3 := hid hB
  have c1 := hA.cells
  clear ce
  have ce := hE.cells
  clear hA hE hB hpx hpo hg1 hg2 A2 B2 E2 NB HPP c1 lw
  go_wp2_with fail
  refine HN.out.mono ?_; rintro e w4 ⟨rfl, hb4⟩
  have A4 := A3.out.later hb4
  have O4 := hid (OwV.later O3.out hb4)
  have B4 := hid (btr B3.out hb4)
  have c1 := A4.cells
  have f1 := A4.loose
  have A5 := hid A4
  clear A4 hb4 A3 O3 B3 ce
  go_wp2
  have lw := LW.out
  have g3 := putL_grown w4 (w.heap.size + 1) ep (.slice ap m cp) nx wt
  have d := (A5.out.put ep (.slice ap m cp) nx wt).cells
  have o5 := own_base (OwV.grown O4.out g3 (by omega)) (show w.heap.size ≤ W0.heap.size + 1 by omega)
  have b5 := B4.out.trans (below_of_grown g3 (by omega) B4.out.size)
  unfold putL at g3 d o5 b5
  exact bodyPost_ret (v := .tuple #[lkv ep (.slice ap m cp) nx wt, .bool k]) (by simp [results, Try.results14, go_sem, d]) rfl ⟨_, _, rfl, o5, b5⟩
theorem Lk.newest {W : World} {ep nx wt : Int} {gv : Value} {v : World} {ty : Nat} (h : v.alloc (.cells #[.int .i64 ep, gv, .int .i64 nx, .int .i64 wt] ty) = W) : Lk W v.heap.size ty ep gv nx wt := by subst h; exact Lk.new _ _ _ _ _ _
theorem wpush {W v : World} {o : Obj} (h : v.alloc o = W) : Below v.heap.size v W := by subst h; exact bpush (bre _) _
theorem ss_zero17 {W : World} {B n c : Nat} {a : Option Addr} {G : List ByteArray} (h : OwV W B (.slice a n c) G) : Ss B W.heap.size W a G := (OwV.is h).2
set_option maxHeartbeats 16000000 in
set_option maxRecDepth 100000 in
theorem lawLinkPut_any (ep nx wt : Int) (ga : Option Addr) (gn gc : Nat) (G : List ByteArray) (t : ByteArray) (w : World) (hgl : G.length = gn) (hgn : (gn : Int) ≤ 9223372036854775807) (hz : ∀ x ∈ G, (x.size : Int) ≤ 9223372036854775807) (hs : Ss 0 w.heap.size w ga G) (ht1 : (t.size : Int) ≤ 9223372036854775807) :
    Calls Try.prog 4 #[lkv ep (.slice ga gn gc) nx wt, .string t] w fun e w' => e = .returned (.bool true) ∧ Below w.heap.size w w' := by
  obtain ⟨W0, hW0⟩ : ∃ W0, w.alloc (.cells #[.int .i64 ep, .slice ga gn gc, .int .i64 nx, .int .i64 wt] 29) = W0 := ⟨_, rfl⟩
  have a0 : Lk W0 w.heap.size 29 ep (.slice ga gn gc) nx wt := by subst hW0; exact Lk.new w _ _ _ _ _
  have b0 : Below w.heap.size w W0 := by subst hW0; exact bpush (bre _) _
  have c0 := a0.cells
  have A0 := hid a0
  have BE := hid b0
  have HGL := hid hgl
  have HG1 := hid hgn
  have HZ1 := hid hz
  have HS := hid hs
  have IA : Hid (∀ W, Below w.heap.size w W → Ss 0 w.heap.size W ga G) := hid (fun W h => hs.later h)
  clear a0 b0 hgl hgn hz hs
  by_cases ht : t.size ≤ 1048576
  rotate_left
  · have h2 : (1048576 : Int) < (t.size : Int) := by omega
    go_enter Try.func4, Try.ntmps4
    go_wp2
    clear hW0
    go_ret
    exact ⟨rfl, BE.out⟩
  have h2 : ¬ (1048576 : Int) < (t.size : Int) := by omega
  have HT := hid ht
  clear ht ht1
  go_enter Try.func4, Try.ntmps4
  go_wp2_with fail
  clear hW0 h2
  refine (szLk_any 0 w.heap.size ep nx wt ga gn gc G _ HGL.out HG1.out HZ1.out (IA.out _ BE.out)).mono ?_; rintro ex w1 ⟨⟨r, rfl, r1, r2, r3⟩, hb⟩
  have A0 := hid (A0.out.later hb)
  have BE := hid (btr BE.out hb)
  clear hb c0
  by_cases h0 : r < 0
  · go_wp2
    go_ret
    exact ⟨rfl, BE.out⟩
  obtain ⟨z1, z2⟩ := r3 (by omega)
  have HGN : Hid (gn ≤ 1048576) := hid (by omega)
  have HZ : Hid (∀ x ∈ G, x.size ≤ 1048576) := hid (fun x hx => by have := z2 x hx; omega)
  have HR := hid (And.intro r1 r2)
  clear z1 z2 r3 r1 r2
  have W1L : Hid (w.heap.size < w1.heap.size) := hid A0.out.lt
  obtain ⟨L, hL⟩ : ∃ L, lpw G t = L := ⟨_, rfl⟩
  obtain ⟨N, hN⟩ : ∃ N, L.length = N := ⟨_, rfl⟩
  obtain ⟨k, hk⟩ : ∃ k, lpo gn t = k := ⟨_, rfl⟩
  have HN : Hid (N ≤ 1048576) := hid (by
    rw [← hN, ← hL]
    have h1 := HGL.out
    have h2 := HGN.out
    by_cases h : lpo G.length t = true
    · have h3 : G.length < 60 := by unfold lpo at h; simp only [Bool.and_eq_true, decide_eq_true_eq] at h; exact h.1
      have := lpw_len G t; omega
    · unfold lpw; rw [if_neg h]; omega)
  have HNL := hid hN
  have CSP : Hid (∀ (lo hi kg : Nat) (W : World), Ss lo hi W (some ⟨kg, 0, none⟩) G → Calls Try.prog 12 #[lkv ep (.slice (some ⟨kg, 0, none⟩) gn gn) nx wt, .string t] W fun e w' => ∃ ag cg, e = .returned (.tuple #[lkv ep (.slice ag N cg) nx wt, .bool k]) ∧ OwV w' W.heap.size (.slice ag N cg) L ∧ Below W.heap.size W w') := by
    intro lo hi kg W h
    rw [← hN, ← hL, ← hk]
    exact specLinkPut_any lo hi ep nx wt _ gn gn G t W HGL.out HGN.out HT.out h (by intro h; cases h)
  have CIM : Hid (∀ (lo hi kg : Nat) (W : World), Ss lo hi W (some ⟨kg, 0, none⟩) G → Calls Try.prog 14 #[lkv ep (.slice (some ⟨kg, 0, none⟩) gn gn) nx wt, .string t] W fun e w' => ∃ ag cg, e = .returned (.tuple #[lkv ep (.slice ag N cg) nx wt, .bool k]) ∧ OwV w' W.heap.size (.slice ag N cg) L ∧ Below W.heap.size W w') := by
    intro lo hi kg W h
    rw [← hN, ← hL, ← hk]
    exact implLinkPut_any lo hi ep nx wt _ gn gn G t W HGL.out HGN.out HZ.out h (by intro h; cases h) HT.out
  clear hL hN hk
  have q0 := A0.out.cells
  go_wp2_with fail
  clear q0
  refine (toLk_any 0 w.heap.size ep nx wt ga gn gc G _ HGL.out HGN.out (IA.out _ BE.out) BE.out.size).mono ?_; rintro ex v1 ⟨kg, rfl, ho, hb⟩
  have A0 := hid (A0.out.later hb)
  have BE := hid (btr BE.out hb)
  have P1 := hid (ss_zero17 ho)
  have LB : Hid (w1.heap.size ≤ v1.heap.size) := hid hb.size
  clear ho hb
  go_wp2_with fail
  refine (CSP.out _ _ _ _ P1.out).mono ?_; rintro ex v3 ⟨av, cv, rfl, ho, hb⟩
  obtain ⟨w2, hw2⟩ : ∃ W, v3.alloc (.cells #[.int .i64 ep, .slice av N cv, .int .i64 nx, .int .i64 wt] 24) = W := ⟨_, rfl⟩
  have SB := hid (Lk.newest hw2)
  have b2 := wpush hw2
  have KV : Hid (∀ j, Value.ownBlock (.slice av N cv) = some j → w1.heap.size ≤ j ∧ j < v3.heap.size) := hid (fun j hj => by have := World.ownsRow.lt ho j hj; have := LB.out; omega)
  have K2 : Hid (w1.heap.size ≤ v3.heap.size ∧ v3.heap.size < w2.heap.size) := hid ⟨Nat.le_trans LB.out hb.size, SB.out.lt⟩
  have K0 : Hid (w.heap.size < w1.heap.size) := hid W1L.out
  have OV := hid (OwV.later ho b2)
  have A0 := hid (A0.out.later hb)
  have BE := hid (btr BE.out hb)
  have A0 := hid (A0.out.later b2)
  have BE := hid (btr BE.out b2)
  clear ho hb b2 P1 LB
  have q0 := A0.out.cells
  go_wp2_with fail
  clear q0 hw2
  refine (toLk_any 0 w.heap.size ep nx wt ga gn gc G _ HGL.out HGN.out (IA.out _ BE.out) BE.out.size).mono ?_; rintro ex w4 ⟨kx, rfl, ho, hb⟩
  obtain ⟨w5, hw5⟩ : ∃ W, w4.alloc (.cells #[.int .i64 ep, .slice (some ⟨kx, 0, none⟩) gn gn, .int .i64 nx, .int .i64 wt] 24) = W := ⟨_, rfl⟩
  have XB := hid (Lk.newest hw5)
  have b5 := wpush hw5
  have KX : Hid (w2.heap.size ≤ kx ∧ kx < w4.heap.size) := World.ownsRow.lt ho kx rfl
  have K5 : Hid (w4.heap.size < w5.heap.size) := hid XB.out.lt
  have OX := hid (OwV.later ho b5)
  have A0 := hid (A0.out.later hb)
  have SB := hid (SB.out.later hb)
  have OV := hid (OwV.later OV.out hb)
  have BE := hid (btr BE.out hb)
  have A0 := hid (A0.out.later b5)
  have SB := hid (SB.out.later b5)
  have OV := hid (OwV.later OV.out b5)
  have BE := hid (btr BE.out b5)
  clear ho hb b5
  have q0 := XB.out.cells
  go_wp2_with fail
  clear q0 hw5
  refine (CIM.out _ _ _ _ (ss_zero17 OX.out)).mono ?_; rintro ex v6 ⟨ag, cg, rfl, ho, hb⟩
  obtain ⟨w6, hw6⟩ : ∃ W, v6.alloc (.cells #[.int .i64 ep, .slice ag N cg, .int .i64 nx, .int .i64 wt] 24) = W := ⟨_, rfl⟩
  have GB := hid (Lk.newest hw6)
  have b6 := wpush hw6
  have KG : Hid (∀ j, Value.ownBlock (.slice ag N cg) = some j → w5.heap.size ≤ j ∧ j < v6.heap.size) := hid (fun j hj => by have := World.ownsRow.lt ho j hj; omega)
  have K6 : Hid (w5.heap.size ≤ v6.heap.size) := hid (hb.size)
  have OG := hid (OwV.later ho b6)
  have A0 := hid (A0.out.later hb)
  have SB := hid (SB.out.later hb)
  have XB := hid (XB.out.later hb)
  have OV := hid (OwV.later OV.out hb)
  have OX := hid (OwV.later OX.out hb)
  have BE := hid (btr BE.out hb)
  have A0 := hid (A0.out.later b6)
  have SB := hid (SB.out.later b6)
  have XB := hid (XB.out.later b6)
  have OV := hid (OwV.later OV.out b6)
  have OX := hid (OwV.later OX.out b6)
  have BE := hid (btr BE.out b6)
  clear ho hb b6
  have e4 : (k != k) = false := by simp
  have q0 := GB.out.cells
  have q1 := SB.out.cells
  go_wp2_with fail
  clear q0 q1
  clear hw6
  refine (eqLk_any _ _ _ _ ep nx wt ag av N cg cv L _ HNL.out HN.out (ss_zero17 OG.out) (ss_zero17 OV.out)).mono ?_; rintro ex w7 ⟨rfl, hb⟩
  have A0 := hid (A0.out.later hb)
  have SB := hid (SB.out.later hb)
  have XB := hid (XB.out.later hb)
  have GB := hid (GB.out.later hb)
  have OV := hid (OwV.later OV.out hb)
  have OX := hid (OwV.later OX.out hb)
  have OG := hid (OwV.later OG.out hb)
  have BE := hid (btr BE.out hb)
  clear hb
  have HSX : Hid (∀ W, Below w7.heap.size w7 W → (W.cell? ⟨w4.heap.size, 0, none⟩ = some (.int .i64 ep) ∧ W.cell? ⟨w4.heap.size, 1, none⟩ = some (.slice (some ⟨kx, 0, none⟩) gn gn) ∧ W.cell? ⟨w4.heap.size, 2, none⟩ = some (.int .i64 nx) ∧ W.cell? ⟨w4.heap.size, 3, none⟩ = some (.int .i64 wt)) ∧ (W.cell? ⟨w.heap.size, 0, none⟩ = some (.int .i64 ep) ∧ W.cell? ⟨w.heap.size, 1, none⟩ = some (.slice ga gn gc) ∧ W.cell? ⟨w.heap.size, 2, none⟩ = some (.int .i64 nx) ∧ W.cell? ⟨w.heap.size, 3, none⟩ = some (.int .i64 wt))) := fun W h => ⟨(XB.out.later h).cells, (A0.out.later h).cells⟩
  have PX := hid (ss_zero17 OX.out)
  go_wp2_with fail
  go_region_held3 (fun W => (W.cell? ⟨w4.heap.size, 0, none⟩ = some (.int .i64 ep) ∧ W.cell? ⟨w4.heap.size, 1, none⟩ = some (.slice (some ⟨kx, 0, none⟩) gn gn) ∧ W.cell? ⟨w4.heap.size, 2, none⟩ = some (.int .i64 nx) ∧ W.cell? ⟨w4.heap.size, 3, none⟩ = some (.int .i64 wt)) ∧ (W.cell? ⟨w.heap.size, 0, none⟩ = some (.int .i64 ep) ∧ W.cell? ⟨w.heap.size, 1, none⟩ = some (.slice ga gn gc) ∧ W.cell? ⟨w.heap.size, 2, none⟩ = some (.int .i64 nx) ∧ W.cell? ⟨w.heap.size, 3, none⟩ = some (.int .i64 wt)))
    ((refine HSX.out _ ?_; repeat (first | exact bdr (bre _) | exact C8.out | exact D8.out | refine btr ?_ (by assumption))))
    ((first
      | (go_at_call 13; refine (toLk_any 0 w.heap.size ep nx wt ga gn gc G _ HGL.out HGN.out (IA.out _ (btr BE.out (bdr (bre _)))) (btr BE.out (bdr (bre _))).size).mono ?_; rintro ex w8 ⟨k8, rfl, how8, hb8⟩; have R8 := hid (ss_zero17 how8); have C8 : Hid (Below w7.heap.size w7 w8) := btr (bdr (bre _)) hb8; clear how8 hb8)
      | (go_at_call 8; refine (eqLk_any _ _ _ _ ep nx wt _ _ gn _ _ G w8 HGL.out HGN.out (PX.out.later C8.out) R8.out).mono ?_; rintro ex w9 ⟨rfl, hb9⟩; have D8 : Hid (Below w7.heap.size w7 w9) := btr C8.out hb9; clear hb9)))
  have hb := D8.out
  clear PX HSX C8 D8 R8
  have A0 := hid (A0.out.later hb)
  have SB := hid (SB.out.later hb)
  have XB := hid (XB.out.later hb)
  have GB := hid (GB.out.later hb)
  have OV := hid (OwV.later OV.out hb)
  have OX := hid (OwV.later OX.out hb)
  have OG := hid (OwV.later OG.out hb)
  have BE := hid (btr BE.out hb)
  clear hb
  have q0 := XB.out.cells
  go_wp2_with fail
  clear q0
  refine (markLk1 _ ep nx wt _ gn gn G _ OX.out HGL.out (by have := HGN.out; omega)).mono ?_; rintro ex w10 ⟨rfl, -, hg⟩
  have hg1 : w9.grownBy w10 (some kx) := hg
  have k0 := K0.out; have k2 := K2.out; have kxx := KX.out; have k5 := K5.out; have k6 := K6.out
  have A0 := hid (A0.out.grown hg1 (by simp; omega))
  have SB := hid (SB.out.grown hg1 (by simp; omega))
  have GB := hid (GB.out.grown hg1 (by simp; omega))
  have OV := hid (own_off17 OV.out hg1 (fun j hj => by have := KV.out j hj; simp; omega))
  have OG := hid (own_off17 OG.out hg1 (fun j hj => by have := KG.out j hj; simp; omega))
  
  have BE := hid (BE.out.trans (below_of_grown hg1 (by omega) BE.out.size))
  clear hg hg1 k0 k2 kxx k5 k6 XB OX
  have hk0 : ¬ ((1 + gn : Nat) : Int) < 0 := by omega
  have q0 := GB.out.cells
  have q1 := SB.out.cells
  go_wp2_with fail
  clear q0 q1
  refine (eqLk_any _ _ _ _ ep nx wt ag av N cg cv L _ HNL.out HN.out (ss_zero17 OG.out) (ss_zero17 OV.out)).mono ?_; rintro ex w11 ⟨rfl, hb⟩
  have A0 := hid (A0.out.later hb)
  have SB := hid (SB.out.later hb)
  have GB := hid (GB.out.later hb)
  have OV := hid (OwV.later OV.out hb)
  have OG := hid (OwV.later OG.out hb)
  have BE := hid (btr BE.out hb)
  clear hb hk0
  have q0 := GB.out.cells
  go_wp2_with fail
  clear q0
  refine (markLk1 _ ep nx wt ag N cg L _ OG.out HNL.out (by have := HN.out; omega)).mono ?_; rintro ex w12 ⟨rfl, ho, hg⟩
  have k0 := K0.out; have k2 := K2.out; have kxx := KX.out; have k5 := K5.out; have k6 := K6.out
  have hfar : ∀ i, i < w5.heap.size ∨ v6.heap.size ≤ i → some i ≠ Value.ownBlock (.slice ag N cg) := fun i hi e => by have := KG.out i e.symm; omega
  have A0 := hid (A0.out.grown hg (hfar _ (by omega)))
  have SB := hid (SB.out.grown hg (hfar _ (by omega)))
  have GB := hid (GB.out.grown hg (hfar _ (by omega)))
  have OV := hid (own_off17 OV.out hg (fun j hj e => by have h1 := KV.out j hj; have h2 := KG.out j e; omega))
  
  have OG := hid ho
  have BE := hid (BE.out.trans (below_grownR hg (fun j hj => by have := KG.out j hj; omega) BE.out.size))
  clear ho hg hfar k0 k2 kxx k5 k6
  have hqm : (((1 + N : Nat) : Int) != ((1 + N : Nat) : Int)) = false := by simp
  have hqn : ¬ ((1 + N : Nat) : Int) < 0 := by omega
  have q0 := GB.out.cells
  go_wp2_with fail
  clear q0
  refine (heldLk1 _ ep nx wt ag N cg _ OG.out (by have := HN.out; omega)).mono ?_; rintro ex w13 ⟨rfl, hb⟩
  have A0 := hid (A0.out.later hb)
  have SB := hid (SB.out.later hb)
  have GB := hid (GB.out.later hb)
  have OV := hid (OwV.later OV.out hb)
  have OG := hid (OwV.later OG.out hb)
  have BE := hid (btr BE.out hb)
  clear hb
  have q0 := A0.out.cells
  go_wp2_with fail
  clear q0
  refine (toLk_any 0 w.heap.size ep nx wt ga gn gc G _ HGL.out HGN.out (IA.out _ BE.out) BE.out.size).mono ?_; rintro ex v13 ⟨kz, rfl, ho, hb⟩
  have A0 := hid (A0.out.later hb)
  have SB := hid (SB.out.later hb)
  have GB := hid (GB.out.later hb)
  have OV := hid (OwV.later OV.out hb)
  have OG := hid (OwV.later OG.out hb)
  have BE := hid (btr BE.out hb)
  have P1 := hid (ss_zero17 ho)
  clear ho hb
  go_wp2_with fail
  refine (CIM.out _ _ _ _ P1.out).mono ?_; rintro ex v15 ⟨ah, ch, rfl, ho, hb⟩
  obtain ⟨w16, hw16⟩ : ∃ W, v15.alloc (.cells #[.int .i64 ep, .slice ah N ch, .int .i64 nx, .int .i64 wt] 24) = W := ⟨_, rfl⟩
  have HB := hid (Lk.newest hw16)
  have b6 := wpush hw16
  have OH := hid (OwV.later ho b6)
  have A0 := hid (A0.out.later hb)
  have SB := hid (SB.out.later hb)
  have GB := hid (GB.out.later hb)
  have OV := hid (OwV.later OV.out hb)
  have OG := hid (OwV.later OG.out hb)
  have BE := hid (btr BE.out hb)
  have A0 := hid (A0.out.later b6)
  have SB := hid (SB.out.later b6)
  have GB := hid (GB.out.later b6)
  have OV := hid (OwV.later OV.out b6)
  have OG := hid (OwV.later OG.out b6)
  have BE := hid (btr BE.out b6)
  clear ho hb b6 P1
  have q0 := HB.out.cells
  have q1 := SB.out.cells
  go_wp2_with fail
  clear q0 q1 hw16
  refine (eqLk_any _ _ _ _ ep nx wt ah av N ch cv L _ HNL.out HN.out (ss_zero17 OH.out) (ss_zero17 OV.out)).mono ?_; rintro ex w17 ⟨rfl, hb⟩
  have GB := hid (GB.out.later hb)
  have OG := hid (OwV.later OG.out hb)
  have BE := hid (btr BE.out hb)
  clear hb
  have q0 := GB.out.cells
  go_wp2_with fail
  clear q0
  refine (heldLk1 _ ep nx wt ag N cg _ OG.out (by have := HN.out; omega)).mono ?_; rintro ex w18 ⟨rfl, hb⟩
  have BE := hid (btr BE.out hb)
  go_wp2
  go_ret
  exact ⟨rfl, BE.out⟩
theorem Pk.newest {W v : World} {e s a : Int} {t : ByteArray} {ty : Nat} (h : v.alloc (.cells #[.int .i64 e, .int .i64 s, .int .i64 a, .string t] ty) = W) : Pk W v.heap.size ty e s a t := by subst h; exact Pk.new _ _ _ _ _ _
set_option maxHeartbeats 16000000 in
set_option maxRecDepth 100000 in
theorem lawLinkSays_any (ep nx wt : Int) (ga : Option Addr) (gn gc : Nat) (G : List ByteArray) (w : World) (hgl : G.length = gn) (hgn : (gn : Int) ≤ 9223372036854775807) (hz : ∀ x ∈ G, (x.size : Int) ≤ 9223372036854775807) (hs : Ss 0 w.heap.size w ga G) :
    Calls Try.prog 5 #[lkv ep (.slice ga gn gc) nx wt] w fun e w' => e = .returned (.bool true) ∧ Below w.heap.size w w' := by
  obtain ⟨W0, hW0⟩ : ∃ W0, w.alloc (.cells #[.int .i64 ep, .slice ga gn gc, .int .i64 nx, .int .i64 wt] 29) = W0 := ⟨_, rfl⟩
  have a0 : Lk W0 w.heap.size 29 ep (.slice ga gn gc) nx wt := by subst hW0; exact Lk.new w _ _ _ _ _
  have b0 : Below w.heap.size w W0 := by subst hW0; exact bpush (bre _) _
  have c0 := a0.cells
  have A0 := hid a0
  have BE := hid b0
  have HGL := hid hgl
  have HG1 := hid hgn
  have HZ1 := hid hz
  have IA : Hid (∀ W, Below w.heap.size w W → Ss 0 w.heap.size W ga G) := hid (fun W h => hs.later h)
  clear a0 b0 hgl hgn hz hs
  go_enter Try.func5, Try.ntmps5
  go_wp2_with fail
  clear hW0
  refine (szLk_any 0 w.heap.size ep nx wt ga gn gc G _ HGL.out HG1.out HZ1.out (IA.out _ BE.out)).mono ?_; rintro ex w1 ⟨⟨r, rfl, r1, r2, r3⟩, hb⟩
  have A0 := hid (A0.out.later hb)
  have BE := hid (btr BE.out hb)
  clear hb c0
  by_cases h0 : r < 0
  · go_wp2
    go_ret
    exact ⟨rfl, BE.out⟩
  obtain ⟨z1, z2⟩ := r3 (by omega)
  have HGN : Hid (gn ≤ 1048576) := hid (by omega)
  have HZ : Hid (∀ x ∈ G, x.size ≤ 1048576) := hid (fun x hx => by have := z2 x hx; omega)
  clear z1 z2 r3 r1 r2
  obtain ⟨P, hP⟩ : ∃ P, sayN G nx = P := ⟨_, rfl⟩
  obtain ⟨T, hT⟩ : ∃ T, sayT G = T := ⟨_, rfl⟩
  have CSP := hid (fun (lo hi kg : Nat) (W : World) (h : Ss lo hi W (some ⟨kg, 0, none⟩) G) => specSays_any lo hi ep nx wt (some ⟨kg, 0, none⟩) gn gn G W HGL.out h)
  have CIM := hid (fun (lo hi kg : Nat) (W : World) (h : Ss lo hi W (some ⟨kg, 0, none⟩) G) => implSays_any lo hi ep nx wt (some ⟨kg, 0, none⟩) gn gn G W HGL.out HGN.out HZ.out h (by intro h; cases h))
  rw [hP, hT] at CSP CIM
  clear hP hT
  have q0 := A0.out.cells
  go_wp2_with fail
  clear q0
  refine (toLk_any 0 w.heap.size ep nx wt ga gn gc G _ HGL.out HGN.out (IA.out _ BE.out) BE.out.size).mono ?_; rintro ex v1 ⟨kg, rfl, ho, hb⟩
  have A0 := hid (A0.out.later hb)
  have BE := hid (btr BE.out hb)
  have P1 := hid (ss_zero17 ho)
  clear ho hb
  go_wp2_with fail
  refine (CSP.out _ _ _ _ P1.out).mono ?_; rintro ex v3 ⟨rfl, hb⟩
  obtain ⟨w2, hw2⟩ : ∃ W, v3.alloc (.cells #[.int .i64 ep, .int .i64 P, .int .i64 wt, .string T] 36) = W := ⟨_, rfl⟩
  have SB := hid (Pk.newest hw2)
  have b2 := wpush hw2
  have A0 := hid ((A0.out.later hb).later b2)
  have BE := hid (btr (btr BE.out hb) b2)
  clear hb b2 P1
  have q0 := A0.out.cells
  go_wp2_with fail
  clear q0 hw2
  refine (toLk_any 0 w.heap.size ep nx wt ga gn gc G _ HGL.out HGN.out (IA.out _ BE.out) BE.out.size).mono ?_; rintro ex w4 ⟨kx, rfl, ho, hb⟩
  obtain ⟨w5, hw5⟩ : ∃ W, w4.alloc (.cells #[.int .i64 ep, .slice (some ⟨kx, 0, none⟩) gn gn, .int .i64 nx, .int .i64 wt] 24) = W := ⟨_, rfl⟩
  have XB := hid (Lk.newest hw5)
  have b5 := wpush hw5
  have OX := hid (OwV.later ho b5)
  have A0 := hid ((A0.out.later hb).later b5)
  have SB := hid ((SB.out.later hb).later b5)
  have BE := hid (btr (btr BE.out hb) b5)
  clear ho hb b5
  have q0 := XB.out.cells
  go_wp2_with fail
  clear q0 hw5
  refine (CIM.out _ _ _ _ (ss_zero17 OX.out)).mono ?_; rintro ex v6 ⟨rfl, hb⟩
  obtain ⟨w6, hw6⟩ : ∃ W, v6.alloc (.cells #[.int .i64 ep, .int .i64 P, .int .i64 wt, .string T] 36) = W := ⟨_, rfl⟩
  have GB := hid (Pk.newest hw6)
  have b6 := wpush hw6
  have A0 := hid ((A0.out.later hb).later b6)
  have SB := hid ((SB.out.later hb).later b6)
  have XB := hid ((XB.out.later hb).later b6)
  have OX := hid (OwV.later (OwV.later OX.out hb) b6)
  have BE := hid (btr (btr BE.out hb) b6)
  clear hb b6
  have q0 := GB.out.cells
  have q1 := SB.out.cells
  go_wp2_with fail
  clear q0 q1 hw6
  refine (eqPk_any ep P wt T _).mono ?_; rintro ex w7 ⟨rfl, hb⟩
  have A0 := hid (A0.out.later hb)
  have XB := hid (XB.out.later hb)
  have OX := hid (OwV.later OX.out hb)
  have BE := hid (btr BE.out hb)
  clear hb
  have HSX : Hid (∀ W, Below w7.heap.size w7 W → (W.cell? ⟨w4.heap.size, 0, none⟩ = some (.int .i64 ep) ∧ W.cell? ⟨w4.heap.size, 1, none⟩ = some (.slice (some ⟨kx, 0, none⟩) gn gn) ∧ W.cell? ⟨w4.heap.size, 2, none⟩ = some (.int .i64 nx) ∧ W.cell? ⟨w4.heap.size, 3, none⟩ = some (.int .i64 wt)) ∧ (W.cell? ⟨w.heap.size, 0, none⟩ = some (.int .i64 ep) ∧ W.cell? ⟨w.heap.size, 1, none⟩ = some (.slice ga gn gc) ∧ W.cell? ⟨w.heap.size, 2, none⟩ = some (.int .i64 nx) ∧ W.cell? ⟨w.heap.size, 3, none⟩ = some (.int .i64 wt))) := fun W h => ⟨(XB.out.later h).cells, (A0.out.later h).cells⟩
  have PX := hid (ss_zero17 OX.out)
  go_wp2_with fail
  go_region_held3 (fun W => (W.cell? ⟨w4.heap.size, 0, none⟩ = some (.int .i64 ep) ∧ W.cell? ⟨w4.heap.size, 1, none⟩ = some (.slice (some ⟨kx, 0, none⟩) gn gn) ∧ W.cell? ⟨w4.heap.size, 2, none⟩ = some (.int .i64 nx) ∧ W.cell? ⟨w4.heap.size, 3, none⟩ = some (.int .i64 wt)) ∧ (W.cell? ⟨w.heap.size, 0, none⟩ = some (.int .i64 ep) ∧ W.cell? ⟨w.heap.size, 1, none⟩ = some (.slice ga gn gc) ∧ W.cell? ⟨w.heap.size, 2, none⟩ = some (.int .i64 nx) ∧ W.cell? ⟨w.heap.size, 3, none⟩ = some (.int .i64 wt)))
    ((refine HSX.out _ ?_; repeat (first | exact bdr (bre _) | exact C8.out | exact D8.out | refine btr ?_ (by assumption))))
    ((first
      | (go_at_call 13; refine (toLk_any 0 w.heap.size ep nx wt ga gn gc G _ HGL.out HGN.out (IA.out _ (btr BE.out (bdr (bre _)))) (btr BE.out (bdr (bre _))).size).mono ?_; rintro ex w8 ⟨k8, rfl, how8, hb8⟩; have R8 := hid (ss_zero17 how8); have C8 : Hid (Below w7.heap.size w7 w8) := btr (bdr (bre _)) hb8; clear how8 hb8)
      | (go_at_call 8; refine (eqLk_any _ _ _ _ ep nx wt _ _ gn _ _ G w8 HGL.out HGN.out (PX.out.later C8.out) R8.out).mono ?_; rintro ex w9 ⟨rfl, hb9⟩; have D8 : Hid (Below w7.heap.size w7 w9) := btr C8.out hb9; clear hb9)))
  have BE := hid (btr BE.out D8.out)
  clear PX HSX C8 D8 R8
  go_wp2
  go_ret
  exact ⟨rfl, BE.out⟩
theorem ss_nil17 (W : World) : Ss 0 W.heap.size W none [] := ⟨Nat.le_refl _, fun _ h => absurd h (Nat.not_lt_zero _)⟩
set_option maxHeartbeats 6400000 in
set_option maxRecDepth 100000 in
theorem lawLinkNew_any (ep : Int) (w : World) : Calls Try.prog 3 #[.int .i64 ep] w fun e w' => e = .returned (.bool true) ∧ Below w.heap.size w w' := by
  have CS := hid (fun (W : World) => specLinkNew_any ep W)
  have CI := hid (fun (W : World) => implLinkNew_any ep W)
  have BE := hid (bre w)
  have e1 : (((1 + 0 : Nat) : Int) != ((1 + 0 : Nat) : Int)) = false := by simp
  have e2 : ¬ ((1 + 0 : Nat) : Int) < 0 := by decide
  go_enter Try.func3, Try.ntmps3
  go_wp2_with fail
  refine (CS.out _).mono ?_; rintro ex w1 ⟨rfl, hb⟩
  obtain ⟨w2, hw2⟩ : ∃ W, w1.alloc (.cells #[.int .i64 ep, .slice none 0 0, .int .i64 1, .int .i64 1] 24) = W := ⟨_, rfl⟩
  have SB := hid (Lk.newest hw2)
  have b2 := wpush hw2
  have BE := hid (btr (btr BE.out hb) b2)
  clear hb b2
  go_wp2_with fail
  clear hw2
  refine (CI.out _).mono ?_; rintro ex w3 ⟨ag, cg, rfl, ho, hb⟩
  obtain ⟨w4, hw4⟩ : ∃ W, w3.alloc (.cells #[.int .i64 ep, .slice ag 0 cg, .int .i64 1, .int .i64 1] 24) = W := ⟨_, rfl⟩
  have GB := hid (Lk.newest hw4)
  have b4 := wpush hw4
  have OG := hid (OwV.later ho b4)
  have KG : Hid (∀ j, Value.ownBlock (.slice ag 0 cg) = some j → w2.heap.size ≤ j ∧ j < w3.heap.size) := hid (fun j hj => World.ownsRow.lt ho j hj)
  have KS : Hid (w1.heap.size < w2.heap.size) := hid SB.out.lt
  have KW : Hid (w.heap.size ≤ w2.heap.size) := hid BE.out.size
  have SB := hid ((SB.out.later hb).later b4)
  have BE := hid (btr (btr BE.out hb) b4)
  clear ho hb b4
  have q0 := GB.out.cells
  have q1 := SB.out.cells
  go_wp2_with fail
  clear q0 q1 hw4
  refine (eqLk_any _ _ _ _ ep 1 1 ag none 0 cg 0 [] _ rfl (by decide) (ss_zero17 OG.out) (ss_nil17 _)).mono ?_; rintro ex w5 ⟨rfl, hb⟩
  have SB := hid (SB.out.later hb)
  have GB := hid (GB.out.later hb)
  have OG := hid (OwV.later OG.out hb)
  have BE := hid (btr BE.out hb)
  clear hb
  have q0 := GB.out.cells
  go_wp2_with fail
  clear q0
  refine (markLk1 _ ep 1 1 ag 0 cg [] _ OG.out rfl (by decide)).mono ?_; rintro ex w6 ⟨rfl, ho, hg⟩
  have ks := KS.out; have kw := KW.out
  have SB := hid (SB.out.grown hg (fun e => by have := KG.out _ e.symm; omega))
  have GB := hid (GB.out.grown hg (fun e => by have := KG.out _ e.symm; omega))
  have OG := hid ho
  have BE := hid (BE.out.trans (below_grownR hg (fun j hj => by have := KG.out j hj; omega) BE.out.size))
  clear ho hg ks kw
  have q0 := GB.out.cells
  go_wp2_with fail
  clear q0
  refine (heldLk1 _ ep 1 1 ag 0 cg _ OG.out (by decide)).mono ?_; rintro ex w7 ⟨rfl, hb⟩
  have SB := hid (SB.out.later hb)
  have GB := hid (GB.out.later hb)
  have OG := hid (OwV.later OG.out hb)
  have BE := hid (btr BE.out hb)
  clear hb
  go_wp2_with fail
  refine (CI.out _).mono ?_; rintro ex w8 ⟨ah, ch, rfl, ho, hb⟩
  obtain ⟨w9, hw9⟩ : ∃ W, w8.alloc (.cells #[.int .i64 ep, .slice ah 0 ch, .int .i64 1, .int .i64 1] 24) = W := ⟨_, rfl⟩
  have HB := hid (Lk.newest hw9)
  have b9 := wpush hw9
  have OH := hid (OwV.later ho b9)
  have SB := hid (SB.out.later hb)
  have GB := hid (GB.out.later hb)
  have OG := hid (OwV.later OG.out hb)
  have BE := hid (btr BE.out hb)
  have SB := hid (SB.out.later b9)
  have GB := hid (GB.out.later b9)
  have OG := hid (OwV.later OG.out b9)
  have BE := hid (btr BE.out b9)
  clear ho hb b9
  have q0 := HB.out.cells
  have q1 := SB.out.cells
  go_wp2_with fail
  clear q0 q1 hw9
  refine (eqLk_any _ _ _ _ ep 1 1 ah none 0 ch 0 [] _ rfl (by decide) (ss_zero17 OH.out) (ss_nil17 _)).mono ?_; rintro ex w10 ⟨rfl, hb⟩
  have GB := hid (GB.out.later hb)
  have OG := hid (OwV.later OG.out hb)
  have BE := hid (btr BE.out hb)
  clear hb
  have q0 := GB.out.cells
  go_wp2_with fail
  clear q0
  refine (heldLk1 _ ep 1 1 ag 0 cg _ OG.out (by decide)).mono ?_; rintro ex w11 ⟨rfl, hb⟩
  have BE := hid (btr BE.out hb)
  go_wp2
  go_ret
  exact ⟨rfl, BE.out⟩
end Go.Proofs.Ythcgpjicfcgfiaa
namespace Go.Proofs.Ythcgpjicfcgfiaa
open Go.ChangeShapes Go.WideShapes Go.ChangeAt Go.RowKit Go.Joins
theorem wf_in17 {a : Int} (h : (Lit.int .i64 a).wf = true) : 0 - 9223372036854775808 ≤ a ∧ a ≤ 9223372036854775807 := by
  have h2 : IntKind.i64.min ≤ a ∧ a ≤ 9223372036854775807 := by simpa [Lit.wf] using h
  exact ⟨Int.le_trans (by decide) h2.1, h2.2⟩
theorem cellsLk17 : Try.prog.cellsOf 29 = 4 := by kernel_rfl
theorem cellsSs17 : Try.prog.cellsOf 22 = 1 := by kernel_rfl
theorem cellsTx17 : Try.prog.cellsOf 9 = 1 := by kernel_rfl
theorem cellsIn17 : Try.prog.cellsOf 3 = 1 := by kernel_rfl
theorem array4_17 {α : Type} {cs : Array α} (h : cs.size = 4) : ∃ c0 c1 c2 c3, cs = #[c0, c1, c2, c3] := by
  obtain ⟨l, rfl⟩ : ∃ l : List α, cs = l.toArray := ⟨cs.toList, by simp⟩
  have hl : l.length = 4 := by simpa using h
  match l, hl with
  | [c0, c1, c2, c3], _ => exact ⟨c0, c1, c2, c3, rfl⟩
section
variable {H : Type} {enc : TypeId × Value → H} {w : World} {spr : Nat → Bool} {held : Bool}
theorem addr_at17 {a : Addr} {u : Value} (h : w.cell? (a.add 0) = some u) : ∃ k o, a = ⟨k, o, none⟩ := by
  obtain ⟨k, o, s⟩ := a
  have hs : s = none := by simpa [Addr.add] using World.cell?_spot h
  exact ⟨k, o, by rw [hs]⟩
theorem trod_struct4_17 {P : Program} {base : Nat} {spare : Nat → Bool} {t : TypeId} {f0 f1 f2 f3 : Field} {fuel : Nat} {cs : List Value} {x : DataW H × List MemPlace} (ht : P.underlying t = some (.struct #[f0, f1, f2, f3])) (h : DataW.trod enc P w base spare held fuel t cs = some x) :
    ∃ y0 y1 y2 y3 n, cs.length = P.cellsOf t ∧ DataW.trod enc P w base spare held n f0.type ((cs.drop f0.offset).take (P.cellsOf f0.type)) = some y0 ∧
      DataW.trod enc P w base spare held n f1.type ((cs.drop f1.offset).take (P.cellsOf f1.type)) = some y1 ∧ DataW.trod enc P w base spare held n f2.type ((cs.drop f2.offset).take (P.cellsOf f2.type)) = some y2 ∧
      DataW.trod enc P w base spare held n f3.type ((cs.drop f3.offset).take (P.cellsOf f3.type)) = some y3 := by
  obtain ⟨xs, n, _, rfl, hl, hlen, hf⟩ := DataW.trod_struct ht h
  match xs, hlen with
  | [y0, y1, y2, y3], _ => exact ⟨y0, y1, y2, y3, n, hl, by simpa using hf 0 f0 rfl, by simpa using hf 1 f1 rfl, by simpa using hf 2 f2 rfl, by simpa using hf 3 f3 rfl⟩
set_option maxRecDepth 100000 in
theorem trodSS17 {fuel : Nat} {cs : List Value} {y : DataW H × List MemPlace} (hf : DataW.trod enc Try.prog w 0 spr held fuel 22 cs = some y) :
    ∃ (ao : Option Addr) (n cap : Nat) (G : List ByteArray), cs = [.slice ao n cap] ∧ G.length = n ∧ (n : Int) ≤ 9223372036854775807 ∧ (∀ x ∈ G, (x.size : Int) ≤ 9223372036854775807) ∧ Ss 0 w.heap.size w ao G := by
  rcases Go.Deep.open_slice Try.underlying22 hf with ⟨hcs, _⟩ | ⟨a, n, cap, m, nf, D, Pl, hcs, _, hl, hm, hmm, _, hx⟩
  · exact ⟨none, 0, 0, [], hcs, rfl, by decide, (by intro x h; cases h), Nat.le_refl _, fun i hi => absurd hi (by simp)⟩
  · have hlm : n ≤ m := by rw [hmm]; split <;> omega
    have hx' : ∀ i, i < n → ∃ z : ByteArray, w.cell? (a.add i) = some (.string z) ∧ (z.size : Int) ≤ 9223372036854775807 := by
      intro i hi
      obtain ⟨cs, h1, h2⟩ := hx i (by omega)
      rw [cellsTx17] at h1
      obtain ⟨_, hlen, hcell⟩ := World.cells?_some h1
      match cs, hlen with
      | [c0], _ =>
        obtain ⟨z, e0, _, t0⟩ := DataW.trod_string Try.underlying9 h2
        simp only [List.cons.injEq, and_true] at e0
        subst e0
        have e := hcell 0 (by omega)
        exact ⟨z, by simpa [Go.Deep.add_add] using e, by unfold maxLen at t0; omega⟩
    obtain ⟨r, hr⟩ := Go.Deep.choose_lt hx'
    refine ⟨some a, n, cap, (List.range n).map r, hcs, by simp, by unfold maxLen at hm; omega, ?_, Nat.le_refl _, ?_⟩
    · intro x hx
      obtain ⟨i, hi, rfl⟩ := List.mem_map.1 hx
      exact (hr i (List.mem_range.1 hi)).2
    · intro i hi
      have hi' : i < n := by simpa using hi
      have e := (hr i hi').1
      obtain ⟨k, o, rfl⟩ := addr_at17 (a := a) (u := .string (r 0)) (hr 0 (by omega)).1
      have hb := World.block_lt_of_cell? w (Addr.add ⟨k, o, none⟩ i) e
      simp only [addr_add] at e hb
      refine ⟨k, o, rfl, Nat.zero_le _, hb, ?_⟩
      simp only [List.getElem_map, List.getElem_range]
      exact e
set_option maxRecDepth 100000 in
theorem openLk {base : Nat} {v : Value} {d : DataW H} {p : List MemPlace} (hv : Value.okWide Try.prog w .any base 29 v) (h : DataW.Trod enc Try.prog w 0 spr held 29 v d p) :
    ∃ (ep nx wt : Int) (ga : Option Addr) (gn gc : Nat) (G : List ByteArray), v = lkv ep (.slice ga gn gc) nx wt ∧ G.length = gn ∧ (gn : Int) ≤ 9223372036854775807 ∧ (∀ x ∈ G, (x.size : Int) ≤ 9223372036854775807) ∧ Ss 0 w.heap.size w ga G := by
  obtain ⟨cs, rfl, hsz⟩ := okWide_struct Try.underlying29 hv
  obtain ⟨fuel, hf⟩ := h
  rw [cellsLk17] at hsz
  obtain ⟨c0, c1, c2, c3, rfl⟩ := array4_17 hsz
  obtain ⟨y0, y1, y2, y3, n, hl, h0, h1, h2, h3⟩ := trod_struct4_17 Try.underlying29 hf
  have k0 : DataW.trod enc Try.prog w 0 spr held n 3 [c0] = some y0 := by simpa [cellsIn17, Value.cells] using h0
  have k1 : DataW.trod enc Try.prog w 0 spr held n 22 [c1] = some y1 := by simpa [cellsSs17, Value.cells] using h1
  have k2 : DataW.trod enc Try.prog w 0 spr held n 3 [c2] = some y2 := by simpa [cellsIn17, Value.cells] using h2
  have k3 : DataW.trod enc Try.prog w 0 spr held n 3 [c3] = some y3 := by simpa [cellsIn17, Value.cells] using h3
  obtain ⟨ep, e0, _, _⟩ := DataW.trod_int Try.underlying3 k0
  obtain ⟨ga, gn, gc, G, e1, j1, j2, j3, j4⟩ := trodSS17 k1
  obtain ⟨nx, e2, _, _⟩ := DataW.trod_int Try.underlying3 k2
  obtain ⟨wt, e3, _, _⟩ := DataW.trod_int Try.underlying3 k3
  simp only [List.cons.injEq, and_true] at e0 e1 e2 e3
  subst e0 e1 e2 e3
  exact ⟨ep, nx, wt, ga, gn, gc, G, rfl, j1, j2, j3, j4⟩
end
end Go.Proofs.Ythcgpjicfcgfiaa
