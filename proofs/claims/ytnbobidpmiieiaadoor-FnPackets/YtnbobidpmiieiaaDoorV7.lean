/- K7x, K7y, K7z, K8a, K8b, K8c, K8d. -/
import Derived.Test.YtnbobidpmiieiaaDoorV6
namespace Go.Proofs.YtnbobidpmiieiaaDoor
open Go.RowKit Go.ChangeMaps
set_option maxHeartbeats 1600000 in
set_option maxRecDepth 100000 in
theorem put17_any (B b : Nat) (ep nx wt : Int) (ga : Option Addr) (gn gc : Nat) (G : List ByteArray) (t : ByteArray) (w : World) (hgl : G.length = gn) (hgn : gn ≤ 1048576) (ht : t.size ≤ 1048576) (hx : Lk w b 34 ep (.slice ga gn gc) nx wt) (ho : OwV w B (.slice ga gn gc) G) (hb : b < B) (hBw : B ≤ w.heap.size) :
    Calls Tryd.prog 62 #[.string t, lkP b] w fun e w' => ∃ ag cg, e = .returned (.bool (lpo gn t)) ∧ Lk w' b 34 ep (.slice ag (lpw G t).length cg) nx wt ∧ OwV w' B (.slice ag (lpw G t).length cg) (lpw G t) ∧ ∃ wm, w.grownBy wm (Value.ownBlock (.slice ga gn gc)) ∧ wm.grownBy w' (some b) := by
  have X0 := hid hx
  have O0 := hid ho
  have HB := hid hb
  have HBW := hid hBw
  have HT := hid ht
  have HGN := hid hgn
  have HGL := hid hgl
  have c0 := hx.cells
  obtain ⟨L, hL⟩ : ∃ L, lpw G t = L := ⟨_, rfl⟩
  obtain ⟨k, hk⟩ : ∃ k, lpo gn t = k := ⟨_, rfl⟩
  rw [hL, hk]
  have HL := hid hL
  have HK := hid hk
  clear hx ho hb hBw hgl hgn ht hL hk
  have hno : (lpo gn t = false) → k = false ∧ L = G := fun h => ⟨by rw [← HK.out]; exact h, by rw [← HL.out]; unfold lpw; rw [HGL.out, if_neg (by simp [h])]⟩
  have HNO := hid hno
  clear hno
  by_cases h60 : (60 : Int) ≤ (gn : Int)
  · go_enter Tryd.func62, Tryd.ntmps62
    go_wp2
    go_ret
    obtain ⟨hk0, hl0⟩ := HNO.out (by unfold lpo; simp; omega)
    rw [hk0, hl0, HGL.out]
    exact ⟨ga, gc, rfl, X0.out, O0.out, w, wre _ _, wre _ _⟩
  by_cases h0 : t.size = 0
  · have hte : t.toList = [] := List.eq_nil_of_length_eq_zero (by rw [ByteArray.toList_eq, data_len]; exact h0)
    have hti : t.toList.isEmpty = true := by rw [hte]; rfl
    go_enter Tryd.func62, Tryd.ntmps62
    go_wp2
    go_ret
    obtain ⟨hk0, hl0⟩ := HNO.out (by unfold lpo; simp; omega)
    rw [hk0, hl0, HGL.out]
    exact ⟨rfl, ga, gc, X0.out, O0.out, w, wre _ _, wre _ _⟩
  have hte : ¬ t.toList = [] := fun e => h0 (by rw [← data_len, ← ByteArray.toList_eq, e]; rfl)
  have hti : t.toList.isEmpty = false := by cases h : t.toList with | nil => exact absurd h hte | cons _ _ => rfl
  by_cases h4 : (400 : Int) < (t.size : Int)
  · go_enter Tryd.func62, Tryd.ntmps62
    go_wp2
    go_ret
    obtain ⟨hk0, hl0⟩ := HNO.out (by unfold lpo; simp; omega)
    rw [hk0, hl0, HGL.out]
    exact ⟨rfl, ga, gc, X0.out, O0.out, w, wre _ _, wre _ _⟩
  · have hyes : lpo gn t = true := by unfold lpo; simp; omega
    obtain rfl : true = k := by rw [← HK.out]; exact hyes.symm
    obtain rfl : G ++ [t] = L := by rw [← HL.out]; unfold lpw; rw [HGL.out, if_pos hyes]
    clear hyes HNO HL HK
    obtain ⟨m, hm⟩ : ∃ m, (G ++ [t]).length = m := ⟨_, rfl⟩
    rw [hm]
    have HM := hid hm
    clear hm
    go_enter Tryd.func62, Tryd.ntmps62
    go_upto_region 3 with fail
    clear c0
    refine wp_region_noPanic ?_
    refine wp_region_held_drew (S := (fun W => True)) (by kernel_rfl) trivial (fun hHeld => ?_)
    obtain ⟨v0, hv0⟩ : ∃ x, w.drew = x := ⟨_, rfl⟩
    have B0 : Hid (Below w.heap.size w v0) := hid (by rw [← hv0]; exact bdr (bre _))
    rw [hv0]
    clear hv0
    refine tk 0 ?_
    refine tk 2 ?_
    refine wpAnyH_ready (rs := [1, 3]) (by kernel_rfl) (by simp) ?_
    refine rc (fun K hK => ?_) (rl (fun K hK => ?_))
    · have cl := (X0.out.later B0.out).cells.2.1
      go_simp
      clear cl
      refine hK.out _ _ trivial (fun hHeld => ?_)
      clear hK K
      try simp only [Act.put, List.setIfInBounds_toArray, List.set_cons_zero, List.set_cons_succ]
      refine ry 3 (fun K hK => ?_)
      go_simp
      refine (clone_any t _ HT.out).mono ?_; rintro e v1 ⟨rfl, hb1⟩
      replace B0 := hid (btr B0.out hb1)
      clear hb1
      refine hK.out _ _ trivial (fun hHeld => ?_)
      clear hK K
      try simp only [Act.put, List.setIfInBounds_toArray, List.set_cons_zero, List.set_cons_succ]
      refine ry 4 (fun K hK => ?_)
      go_simp
      have HTX : Hid (∀ j u, (([t] : List ByteArray).map Value.string)[j]? = some u → (v1.alloc (.cells #[.string t] 9)).cell? ((⟨v1.heap.size, 0, none⟩ : Addr).add j) = some u) := by
        intro j u hu
        cases j with
        | zero =>
          simp at hu; subst hu
          have h := heap_alloc_new v1 (.cells #[.string t] 9)
          exact cell_of_row _ _ 0 _ _ _ h
        | succ j => simp at hu
      replace B0 := hid (btr B0.out (bpush (bre v1) (.cells #[.string t] 9)))
      obtain ⟨v2, hv2⟩ : ∃ x, v1.alloc (.cells #[.string t] 9) = x := ⟨_, rfl⟩
      obtain ⟨k2, hk2⟩ : ∃ x, v1.heap.size = x := ⟨_, rfl⟩
      rw [hv2] at B0 HTX
      rw [hk2] at HTX
      rw [hv2, hk2]
      clear hv2 hk2
      refine hK.out _ _ trivial (fun hHeld => ?_)
      clear hK K
      try simp only [Act.put, List.setIfInBounds_toArray, List.set_cons_zero, List.set_cons_succ]
      refine ry 5 (fun K hK => ?_)
      refine step_append_strs17 rfl (.tmp 18) (.tmp 21) rfl B _ G (by rfl) (OwV.later O0.out B0.out) ⟨k2, 0, none⟩ 1 1 [t] (by rfl) rfl HTX.out (by have h1 := HGL.out; have h2 := HGN.out; omega) (by omega) (Nat.le_trans HBW.out B0.out.size) ?_
      intro v3 w3 ho3 hg3
      obtain ⟨a3, c3, hv3, _⟩ := OwV.shape ho3
      rw [HM.out] at hv3
      subst hv3
      have hkb : ∀ j, Value.ownBlock (.slice a3 m c3) = some j → j ≠ b := fun j hj => by have h1 := (World.ownsRow.lt ho3 j hj).1; have h2 := HB.out; omega
      have O3 := hid ho3
      have X3 := hid ((X0.out.later B0.out).grown hg3 (fun e => by have h1 := (World.ownsRow.lt O0.out _ e.symm).1; have h2 := HB.out; omega))
      have G3 := hid (wtr (gof (Value.ownBlock (.slice ga gn gc)) B0.out) hg3)
      have HKB := hid hkb
      clear ho3 hg3 hkb
      refine hK.out _ _ trivial (fun hHeld => ?_)
      clear hK K
      try simp only [Act.put, List.setIfInBounds_toArray, List.set_cons_zero, List.set_cons_succ]
      refine tk 6 ?_
      refine ry 7 (fun K hK => ?_)
      have c3 := X3.out.cells
      have f3 := X3.out.loose
      go_simp
      clear c3 f3
      have g4 := wst (wre w3 (some b)) 1 (.slice a3 m c3)
      have x4 := hid (X3.out.s1 (.slice a3 m c3))
      have o4 := hid (own_off17 O3.out g4 (fun j hj e => HKB.out j hj (by simpa using e.symm)))
      have G4 := hid g4
      clear g4
      refine hK.out _ _ trivial (fun hHeld => ?_)
      clear hK K
      try simp only [Act.put, List.setIfInBounds_toArray, List.set_cons_zero, List.set_cons_succ]
      refine wpAnyH_done (by kernel_rfl) ?_ _
      refine NoPanic.normal ?_
      go_wp2
      go_ret
      exact ⟨rfl, _, _, x4.out, o4.out, w3, G3.out, G4.out⟩
    · go_simp
      refine (clone_any t _ HT.out).mono ?_; rintro e v1 ⟨rfl, hb1⟩
      replace B0 := hid (btr B0.out hb1)
      clear hb1
      refine hK.out _ _ trivial (fun hHeld => ?_)
      clear hK K
      try simp only [Act.put, List.setIfInBounds_toArray, List.set_cons_zero, List.set_cons_succ]
      refine wpAnyH_ready (rs := [1, 4]) (by kernel_rfl) (by simp) ?_
      refine rc (fun K hK => ?_) (rl (fun K hK => ?_))
      · have cl := (X0.out.later B0.out).cells.2.1
        go_simp
        clear cl
        refine hK.out _ _ trivial (fun hHeld => ?_)
        clear hK K
        try simp only [Act.put, List.setIfInBounds_toArray, List.set_cons_zero, List.set_cons_succ]
        refine ry 4 (fun K hK => ?_)
        go_simp
        have HTX : Hid (∀ j u, (([t] : List ByteArray).map Value.string)[j]? = some u → (v1.alloc (.cells #[.string t] 9)).cell? ((⟨v1.heap.size, 0, none⟩ : Addr).add j) = some u) := by
          intro j u hu
          cases j with
          | zero =>
            simp at hu; subst hu
            have h := heap_alloc_new v1 (.cells #[.string t] 9)
            exact cell_of_row _ _ 0 _ _ _ h
          | succ j => simp at hu
        replace B0 := hid (btr B0.out (bpush (bre v1) (.cells #[.string t] 9)))
        obtain ⟨v2, hv2⟩ : ∃ x, v1.alloc (.cells #[.string t] 9) = x := ⟨_, rfl⟩
        obtain ⟨k2, hk2⟩ : ∃ x, v1.heap.size = x := ⟨_, rfl⟩
        rw [hv2] at B0 HTX
        rw [hk2] at HTX
        rw [hv2, hk2]
        clear hv2 hk2
        refine hK.out _ _ trivial (fun hHeld => ?_)
        clear hK K
        try simp only [Act.put, List.setIfInBounds_toArray, List.set_cons_zero, List.set_cons_succ]
        refine ry 5 (fun K hK => ?_)
        refine step_append_strs17 rfl (.tmp 18) (.tmp 21) rfl B _ G (by rfl) (OwV.later O0.out B0.out) ⟨k2, 0, none⟩ 1 1 [t] (by rfl) rfl HTX.out (by have h1 := HGL.out; have h2 := HGN.out; omega) (by omega) (Nat.le_trans HBW.out B0.out.size) ?_
        intro v3 w3 ho3 hg3
        obtain ⟨a3, c3, hv3, _⟩ := OwV.shape ho3
        rw [HM.out] at hv3
        subst hv3
        have hkb : ∀ j, Value.ownBlock (.slice a3 m c3) = some j → j ≠ b := fun j hj => by have h1 := (World.ownsRow.lt ho3 j hj).1; have h2 := HB.out; omega
        have O3 := hid ho3
        have X3 := hid ((X0.out.later B0.out).grown hg3 (fun e => by have h1 := (World.ownsRow.lt O0.out _ e.symm).1; have h2 := HB.out; omega))
        have G3 := hid (wtr (gof (Value.ownBlock (.slice ga gn gc)) B0.out) hg3)
        have HKB := hid hkb
        clear ho3 hg3 hkb
        refine hK.out _ _ trivial (fun hHeld => ?_)
        clear hK K
        try simp only [Act.put, List.setIfInBounds_toArray, List.set_cons_zero, List.set_cons_succ]
        refine tk 6 ?_
        refine ry 7 (fun K hK => ?_)
        have c3 := X3.out.cells
        have f3 := X3.out.loose
        go_simp
        clear c3 f3
        have g4 := wst (wre w3 (some b)) 1 (.slice a3 m c3)
        have x4 := hid (X3.out.s1 (.slice a3 m c3))
        have o4 := hid (own_off17 O3.out g4 (fun j hj e => HKB.out j hj (by simpa using e.symm)))
        have G4 := hid g4
        clear g4
        refine hK.out _ _ trivial (fun hHeld => ?_)
        clear hK K
        try simp only [Act.put, List.setIfInBounds_toArray, List.set_cons_zero, List.set_cons_succ]
        refine wpAnyH_done (by kernel_rfl) ?_ _
        refine NoPanic.normal ?_
        go_wp2
        go_ret
        exact ⟨rfl, _, _, x4.out, o4.out, w3, G3.out, G4.out⟩
      · go_simp
        have HTX : Hid (∀ j u, (([t] : List ByteArray).map Value.string)[j]? = some u → (v1.alloc (.cells #[.string t] 9)).cell? ((⟨v1.heap.size, 0, none⟩ : Addr).add j) = some u) := by
          intro j u hu
          cases j with
          | zero =>
            simp at hu; subst hu
            have h := heap_alloc_new v1 (.cells #[.string t] 9)
            exact cell_of_row _ _ 0 _ _ _ h
          | succ j => simp at hu
        replace B0 := hid (btr B0.out (bpush (bre v1) (.cells #[.string t] 9)))
        obtain ⟨v2, hv2⟩ : ∃ x, v1.alloc (.cells #[.string t] 9) = x := ⟨_, rfl⟩
        obtain ⟨k2, hk2⟩ : ∃ x, v1.heap.size = x := ⟨_, rfl⟩
        rw [hv2] at B0 HTX
        rw [hk2] at HTX
        rw [hv2, hk2]
        clear hv2 hk2
        refine hK.out _ _ trivial (fun hHeld => ?_)
        clear hK K
        try simp only [Act.put, List.setIfInBounds_toArray, List.set_cons_zero, List.set_cons_succ]
        refine ry 1 (fun K hK => ?_)
        have cl := (X0.out.later B0.out).cells.2.1
        go_simp
        clear cl
        refine hK.out _ _ trivial (fun hHeld => ?_)
        clear hK K
        try simp only [Act.put, List.setIfInBounds_toArray, List.set_cons_zero, List.set_cons_succ]
        refine ry 5 (fun K hK => ?_)
        refine step_append_strs17 rfl (.tmp 18) (.tmp 21) rfl B _ G (by rfl) (OwV.later O0.out B0.out) ⟨k2, 0, none⟩ 1 1 [t] (by rfl) rfl HTX.out (by have h1 := HGL.out; have h2 := HGN.out; omega) (by omega) (Nat.le_trans HBW.out B0.out.size) ?_
        intro v3 w3 ho3 hg3
        obtain ⟨a3, c3, hv3, _⟩ := OwV.shape ho3
        rw [HM.out] at hv3
        subst hv3
        have hkb : ∀ j, Value.ownBlock (.slice a3 m c3) = some j → j ≠ b := fun j hj => by have h1 := (World.ownsRow.lt ho3 j hj).1; have h2 := HB.out; omega
        have O3 := hid ho3
        have X3 := hid ((X0.out.later B0.out).grown hg3 (fun e => by have h1 := (World.ownsRow.lt O0.out _ e.symm).1; have h2 := HB.out; omega))
        have G3 := hid (wtr (gof (Value.ownBlock (.slice ga gn gc)) B0.out) hg3)
        have HKB := hid hkb
        clear ho3 hg3 hkb
        refine hK.out _ _ trivial (fun hHeld => ?_)
        clear hK K
        try simp only [Act.put, List.setIfInBounds_toArray, List.set_cons_zero, List.set_cons_succ]
        refine tk 6 ?_
        refine ry 7 (fun K hK => ?_)
        have c3 := X3.out.cells
        have f3 := X3.out.loose
        go_simp
        clear c3 f3
        have g4 := wst (wre w3 (some b)) 1 (.slice a3 m c3)
        have x4 := hid (X3.out.s1 (.slice a3 m c3))
        have o4 := hid (own_off17 O3.out g4 (fun j hj e => HKB.out j hj (by simpa using e.symm)))
        have G4 := hid g4
        clear g4
        refine hK.out _ _ trivial (fun hHeld => ?_)
        clear hK K
        try simp only [Act.put, List.setIfInBounds_toArray, List.set_cons_zero, List.set_cons_succ]
        refine wpAnyH_done (by kernel_rfl) ?_ _
        refine NoPanic.normal ?_
        go_wp2
        go_ret
        exact ⟨rfl, _, _, x4.out, o4.out, w3, G3.out, G4.out⟩
set_option maxHeartbeats 1600000 in
set_option maxRecDepth 100000 in
theorem implSays_any (lo hi : Nat) (ep nx wt : Int) (ga : Option Addr) (gn gc : Nat) (G : List ByteArray) (w : World) (hgl : G.length = gn) (hgn : gn ≤ 1048576) (hz : ∀ x ∈ G, x.size ≤ 1048576) (hs : Ss lo hi w ga G) (hg0 : ga = none → gc = 0) :
    Calls Tryd.prog 18 #[lkv ep (.slice ga gn gc) nx wt] w fun e w' => e = .returned (pkv ep (sayN G nx) wt (sayT G)) ∧ Below w.heap.size w w' := by
  obtain ⟨W0, hW0⟩ : ∃ W0, (w.alloc (.cells #[.int .i64 ep, .slice ga gn gc, .int .i64 nx, .int .i64 wt] 34)).alloc (.cells pk0 25) = W0 := ⟨_, rfl⟩
  have b0 : Below w.heap.size w W0 := by subst hW0; exact bpush (bpush (bre _) _) _
  have x0 : Lk W0 w.heap.size 34 ep (.slice ga gn gc) nx wt := by subst hW0; exact (Lk.new w _ _ _ _ _).later (bpush (bre _) _)
  have x1 : Pk W0 (w.heap.size + 1) 25 0 0 0 ⟨#[]⟩ := by
    subst hW0
    have h := Pk.new (w.alloc (.cells #[.int .i64 ep, .slice ga gn gc, .int .i64 nx, .int .i64 wt] 34)) 25 0 0 0 ⟨#[]⟩
    simpa using h
  have HC := hid (linkOf_any lo hi ep nx wt ga gn gc G W0 hgl hgn hz (hs.later b0) hg0)
  have A1 := hid x1
  have B0 := hid b0
  have HW := hid hW0
  have HGL := hid hgl
  have c0 := x0.cells
  obtain ⟨P, hP⟩ : ∃ P, pkv ep (sayN G nx) wt (sayT G) = P := ⟨_, rfl⟩
  obtain ⟨p1, hp1⟩ : ∃ P, sayN G nx = P := ⟨_, rfl⟩
  obtain ⟨p2, hp2⟩ : ∃ P, sayT G = P := ⟨_, rfl⟩
  rw [hp1, hp2] at hP
  have HP1 := hid hp1
  have HP2 := hid hp2
  rw [hp1, hp2]
  clear hP P hp1 hp2 x0 x1 b0 hW0 hs hg0 hgn hgl hz
  go_enter Tryd.func18, Tryd.ntmps18
  go_wp2_with fail
  rw [HW.out]
  clear HW
  refine HC.out.mono ?_; rintro e w1 ⟨ag, cg, rfl, hx, ho, hb⟩
  have A2 := hid (A1.out.later hb)
  have B1 := hid (btr B0.out hb)
  have HS := hid (says17_any _ _ _ ep nx wt ag gn cg G w1 HGL.out hx (OwV.is ho).2)
  clear hx ho hb A1 B0 HC c0
  have hfl : ∀ W : World, (Instr.field 68 (lkF W0.heap.size) 1).run Tryd.prog W = .ok (lkF2 W0.heap.size) W := fun _ => rfl
  go_wp2_with fail
  refine HS.out.mono ?_; rintro e w2 ⟨rfl, hb2⟩
  rw [HP1.out, HP2.out]
  have hA := A2.out.later hb2
  have c1 := hA.cells
  have f1 := hA.loose
  have A3 := hid hA
  have B2 := hid (btr B1.out hb2)
  clear hA hb2 A2 B1 HS
  go_wp2
  have g3 := putP_grown w2 (w.heap.size + 1) ep p1 wt p2
  have d := (A3.out.put ep p1 wt p2).cells
  unfold putP at g3 d
  exact bodyPost_ret (v := pkv ep p1 wt p2) (by simp [results, Tryd.results18, go_sem, d]) rfl ⟨rfl, B2.out.trans (below_of_grown g3 (by omega) B2.out.size)⟩
set_option maxHeartbeats 1600000 in
set_option maxRecDepth 100000 in
theorem implLinkPut_any (lo hi : Nat) (ep nx wt : Int) (ga : Option Addr) (gn gc : Nat) (G : List ByteArray) (t : ByteArray) (w : World) (hgl : G.length = gn) (hgn : gn ≤ 1048576) (hz : ∀ x ∈ G, x.size ≤ 1048576) (hs : Ss lo hi w ga G) (hg0 : ga = none → gc = 0) (ht : t.size ≤ 1048576) :
    Calls Tryd.prog 15 #[lkv ep (.slice ga gn gc) nx wt, .string t] w fun e w' => ∃ ag cg, e = .returned (.tuple #[lkv ep (.slice ag (lpw G t).length cg) nx wt, .bool (lpo gn t)]) ∧ OwV w' w.heap.size (.slice ag (lpw G t).length cg) (lpw G t) ∧ Below w.heap.size w w' := by
  obtain ⟨W0, hW0⟩ : ∃ W0, (w.alloc (.cells #[.int .i64 ep, .slice ga gn gc, .int .i64 nx, .int .i64 wt] 34)).alloc (.cells lk0 34) = W0 := ⟨_, rfl⟩
  have b0 : Below w.heap.size w W0 := by subst hW0; exact bpush (bpush (bre _) _) _
  have x0 : Lk W0 w.heap.size 34 ep (.slice ga gn gc) nx wt := by subst hW0; exact (Lk.new w _ _ _ _ _).later (bpush (bre _) _)
  have x1 : Lk W0 (w.heap.size + 1) 34 0 (.slice none 0 0) 0 0 := by
    subst hW0
    have h := Lk.new (w.alloc (.cells #[.int .i64 ep, .slice ga gn gc, .int .i64 nx, .int .i64 wt] 34)) 34 0 (.slice none 0 0) 0 0
    simpa using h
  have HC := hid (linkOf_any lo hi ep nx wt ga gn gc G W0 hgl hgn hz (hs.later b0) hg0)
  have HP := hid (fun (w1 : World) (ag : Option Addr) (cg : Nat) h1 h2 h3 => put17_any (W0.heap.size + 1) W0.heap.size ep nx wt ag gn cg G t w1 hgl hgn ht h1 h2 (by omega) h3)
  have A1 := hid x1
  have B0 := hid b0
  have HW := hid hW0
  have HGL := hid hgl
  have c0 := x0.cells
  obtain ⟨L, hL⟩ : ∃ L, lpw G t = L := ⟨_, rfl⟩
  obtain ⟨k, hk⟩ : ∃ k, lpo gn t = k := ⟨_, rfl⟩
  rw [hL, hk]
  have HL := hid hL
  have HK := hid hk
  obtain ⟨m, hm⟩ : ∃ m, L.length = m := ⟨_, rfl⟩
  rw [hm]
  have HM := hid hm
  clear hL hk hm x0 x1 b0 hW0 hs hg0 hgn hgl hz ht
  go_enter Tryd.func15, Tryd.ntmps15
  go_wp2_with fail
  rw [HW.out]
  clear HW
  refine HC.out.mono ?_; rintro e w1 ⟨ag, cg, rfl, hx, ho, hb⟩
  have LW : Hid (w.heap.size + 1 < W0.heap.size ∧ W0.heap.size < w1.heap.size) := hid ⟨A1.out.lt, hx.lt⟩
  obtain ⟨w2, hw2⟩ : ∃ x, w1.alloc (.cells #[lkF1 W0.heap.size, lkF2 W0.heap.size, lkF3 W0.heap.size, lkF4 W0.heap.size] 68) = x := ⟨_, rfl⟩
  have b2 : Below w1.heap.size w1 w2 := by subst hw2; exact bpush (bre _) _
  have e2 : Lf w2 w1.heap.size 68 (lkF1 W0.heap.size) (lkF2 W0.heap.size) (lkF3 W0.heap.size) (lkF4 W0.heap.size) := by subst hw2; exact Lf.new _ _ _ _ _ _
  have A2 := hid ((A1.out.later hb).later b2)
  have B2 := hid (btr (btr B0.out hb) b2)
  have HPP := hid (HP.out w2 ag cg (hx.later b2) (OwV.later ho b2) (Nat.le_trans hx.lt b2.size))
  have NB : Hid (∀ j, Value.ownBlock (.slice ag gn cg) = some j → W0.heap.size < j ∧ j < w1.heap.size) := hid (fun j hj => World.ownsRow.lt ho j hj)
  have E2 := hid e2
  clear hx ho hb A1 B0 HC c0 HP b2 e2
  have hsf : ∀ (a : Addr) (fn : Fn) (first cap : Array Value) (m : Mode) (w : World), (store a (.func fn first cap) m).run Tryd.prog w = stored Tryd.prog w a (.func fn first cap) m := fun a fn first cap m w => run_store Tryd.prog w a _ m rfl
  go_upto_region 2 with fail
  clear hw2
  have ce := E2.out.cells
  go_wp2_with fail
  refine HPP.out.mono ?_; rintro e w3 ⟨ap, cp, hpe, hpx, hpo, wm, hg1, hg2⟩
  rw [HL.out, HM.out] at hpx hpo
  rw [HK.out] at hpe
  subst hpe
  have lw := LW.out
  have hA := (A2.out.grown hg1 (fun e => by have := NB.out _ e.symm; omega)).grown hg2 (by simp; omega)
  have hE := (E2.out.grown hg1 (fun e => by have := NB.out _ e.symm; omega)).grown hg2 (by simp; omega)
  have hB : Below w.heap.size w w3 := (B2.out.trans (below_grownR hg1 (fun j hj => by have := NB.out j hj; omega) B2.out.size)).trans (below_of_grown hg2 (by omega) (Nat.le_trans B2.out.size hg1.size))
  have HN := hid (now17_any W0.heap.size ep nx wt ap m cp w3 hpx)
  have A3 := hid hA
  have O3 := hid hpo
  have B3 := hid hB
  have c1 := hA.cells
  clear ce
  have ce := hE.cells
  clear hA hE hB hpx hpo hg1 hg2 A2 B2 E2 NB HPP c1 lw
  go_wp2_with fail
  refine HN.out.mono ?_; rintro e w4 ⟨rfl, hb4⟩
  have A4 := A3.out.later hb4
  have O4 := hid (OwV.later O3.out hb4)
  have B4 := hid (btr B3.out hb4)
  have c1 := A4.cells
  have f1 := A4.loose
  have A5 := hid A4
  clear A4 hb4 A3 O3 B3 ce
  go_wp2
  have lw := LW.out
  have g3 := putL_grown w4 (w.heap.size + 1) ep (.slice ap m cp) nx wt
  have d := (A5.out.put ep (.slice ap m cp) nx wt).cells
  have o5 := own_base (OwV.grown O4.out g3 (by omega)) (show w.heap.size ≤ W0.heap.size + 1 by omega)
  have b5 := B4.out.trans (below_of_grown g3 (by omega) B4.out.size)
  unfold putL at g3 d o5 b5
  exact bodyPost_ret (v := .tuple #[lkv ep (.slice ap m cp) nx wt, .bool k]) (by simp [results, Tryd.results15, go_sem, d]) rfl ⟨_, _, rfl, o5, b5⟩
def pn (x : Int) : Prop := 0 ≤ x ∧ x ≤ 1000000000
set_option maxHeartbeats 1600000 in
set_option maxRecDepth 100000 in
theorem packetOk_any (e s a : Int) (t : ByteArray) (w : World) :
    Calls Tryd.prog 22 #[pkv e s a t] w fun x w' => x = .returned (.bool (pkOk e s a t)) ∧ Below w.heap.size w w' := by
  obtain ⟨W0, hW0⟩ : ∃ W0, w.alloc (.cells #[.int .i64 e, .int .i64 s, .int .i64 a, .string t] 25) = W0 := ⟨_, rfl⟩
  have b0 : Below w.heap.size w W0 := by subst hW0; exact bpush (bre _) _
  have x0 : Pk W0 w.heap.size 25 e s a t := by subst hW0; exact Pk.new _ _ _ _ _ _
  have X0 := hid x0
  have c0 := x0.cells
  have B0 := hid b0
  obtain ⟨W1, hW1⟩ : ∃ W1, W0.alloc (.cells #[.int .i64 e, .int .i64 s, .int .i64 a] 3) = W1 := ⟨_, rfl⟩
  have b1 : Below W0.heap.size W0 W1 := by subst hW1; exact bpush (bre _) _
  have HC : Hid (∀ i (h : i < [e, s, a].length), W1.cell? ⟨W0.heap.size, i, none⟩ = some (.int .i64 [e, s, a][i])) := hid (by subst hW1; exact three_ints W0 e s a 3)
  have HK : Hid (W0.heap.size < W1.heap.size) := hid (by subst hW1; simp)
  have B1 := hid (btr b0 b1)
  have X1 := hid (x0.later b1)
  have HW1 := hid hW1
  have HW0 := hid hW0
  obtain ⟨k, hk⟩ : ∃ k, pkOk e s a t = k := ⟨_, rfl⟩
  rw [hk]
  have HP := hid hk
  clear x0 b0 b1 hW0 hW1 hk
  go_enter Tryd.func22, Tryd.ntmps22
  go_upto_region 1 with fail
  rw [HW0.out]
  go_wp2
  rw [HW1.out]
  clear HW0 HW1 c0
  go_loopw [13] (fun iv wr => ∃ i : Nat, i ≤ 3 ∧ iv = .int .i64 (i : Int) ∧ Hid (∀ j (h : j < [e, s, a].length), j < i → pn [e, s, a][j]) ∧ Below W1.heap.size W1 wr) (fun iv _ => 3 - (intOf iv).toNat)
  case atStart => exact ⟨0, by omega, rfl, hid (fun j h h0 => by omega), bre _⟩
  case round =>
    obtain ⟨i, hi, rfl, HA, hb⟩ := hrel
    have HB := hid hb
    clear hb
    by_cases hlt : i < 3
    · have hil : i < [e, s, a].length := hlt
      have hc : wr.cell? ⟨W0.heap.size, i, none⟩ = some (.int .i64 [e, s, a][i]) := (HB.out.cell (p := ⟨W0.heap.size, i, none⟩) HK.out).trans (HC.out i hil)
      obtain ⟨x, hx⟩ : ∃ x, [e, s, a][i] = x := ⟨_, rfl⟩
      have HX := hid hx
      rw [hx] at hc
      clear hx
      by_cases hp : pn x
      · have hp1 : ¬ x < 0 := by have := hp.1; omega
        have hp2 : ¬ 1000000000 < x := by have := hp.2; omega
        have HA2 : Hid (∀ j (h : j < [e, s, a].length), j < i + 1 → pn [e, s, a][j]) := hid (fun j h hj => by
          rcases Nat.lt_or_eq_of_le (Nat.le_of_lt_succ hj) with h1 | h1
          · exact HA.out j h h1
          · subst h1
            rw [HX.out]
            exact hp)
        go_wp2
        go_roundw
        case rel => exact ⟨i + 1, by omega, by go_num, HA2, HB.out⟩
        case measure => simp [intOf]; omega
      · have HN : Hid (k = false) := hid (by
          rw [← HP.out]
          cases hq : pkOk e s a t with
          | false => rfl
          | true =>
            simp only [pkOk, Bool.and_eq_true, decide_eq_true_eq] at hq
            refine absurd ?_ hp
            rw [← HX.out]
            have h3 : i = 0 ∨ i = 1 ∨ i = 2 := by omega
            rcases h3 with rfl | rfl | rfl
            · exact hq.1
            · exact hq.2.1
            · exact hq.2.2.1)
        by_cases hp1 : x < 0
        · go_wp2
          go_ret
          exact ⟨by rw [HN.out]; rfl, B1.out.trans (HB.out.mono B1.out.size)⟩
        · have hp2 : 1000000000 < x := by unfold pn at hp; omega
          go_wp2
          go_ret
          exact ⟨by rw [HN.out]; rfl, B1.out.trans (HB.out.mono B1.out.size)⟩
    · have HA3 : Hid (k = decide (t.size ≤ 400)) := hid (by
        rw [← HP.out]
        have h0 := HA.out 0 (by simp) (by omega)
        have h1 := HA.out 1 (by simp) (by omega)
        have h2 := HA.out 2 (by simp) (by omega)
        unfold pn at h0 h1 h2
        simp only [List.getElem_cons_zero, List.getElem_cons_succ] at h0 h1 h2
        unfold pkOk
        simp [h0, h1, h2])
      have c1 := (X1.out.later HB.out).cells
      go_wp2
      go_ret
      refine ⟨?_, B1.out.trans (HB.out.mono B1.out.size)⟩
      rw [HA3.out]
      congr 2
      simp
      omega
theorem short_i17 (t : ByteArray) (ht : t.size ≤ 400) : ∃ s : ByteArray, Hid (s = vi t.size ++ t) ∧ s.size ≤ 500 ∧ Hid (∀ w, Calls Tryd.prog 23 #[.string t] w fun e w' => e = .returned (.tuple #[.string s, .bool true]) ∧ Below w.heap.size w w') := by
  refine ⟨vi t.size ++ t, rfl, ?_, fun w => implShort_yes t w (by omega)⟩
  have := vi_5 t.size (by omega)
  rw [ByteArray.size_append]
  omega
theorem Nib.on17 {w w' : World} (h : Nib w) (hb : Below w.heap.size w w') : Nib w' := h.later hb (World.block_lt_of_cell? _ _ (h 0 (by omega)))
set_option maxHeartbeats 1600000 in
set_option maxRecDepth 100000 in
theorem implPacketText_any (e s a : Int) (t : ByteArray) (w : World) (hn : Nib w) :
    Calls Tryd.prog 6 #[pkv e s a t] w fun x w' => x = .returned (pkR e s a t) ∧ Below w.heap.size w w' := by
  obtain ⟨W0, hW0⟩ : ∃ W0, w.alloc (.cells #[.int .i64 e, .int .i64 s, .int .i64 a, .string t] 25) = W0 := ⟨_, rfl⟩
  have b0 : Below w.heap.size w W0 := by subst hW0; exact bpush (bre _) _
  have x0 : Pk W0 w.heap.size 25 e s a t := by subst hW0; exact Pk.new _ _ _ _ _ _
  have X0 := hid x0
  have c0 := x0.cells
  have B0 := hid b0
  have HN := hid hn
  have HW0 := hid hW0
  have HOK := hid (packetOk_any e s a t W0)
  clear x0 b0 hW0 hn
  cases hk : pkOk e s a t with
  | false =>
    have hr : pkR e s a t = .tuple #[.string ⟨#[]⟩, .bool false] := by unfold pkR; rw [hk]; rfl
    rw [hk] at HOK
    rw [hr]
    clear hr hk
    go_enter Tryd.func6, Tryd.ntmps6
    go_wp2_with fail
    rw [HW0.out]
    refine HOK.out.mono ?_; rintro y w1 ⟨rfl, hb1⟩
    go_wp2
    go_ret2
    exact ⟨rfl, btr B0.out hb1⟩
  | true =>
    have hr : pkR e s a t = .tuple #[.string (pkS e s a t), .bool true] := by unfold pkR; rw [if_pos hk]
    have hsz := pkt_size hk
    rw [hk] at HOK
    rw [hr]
    clear hr
    simp only [pkOk, Bool.and_eq_true, decide_eq_true_eq] at hk
    obtain ⟨⟨he, he2⟩, ⟨hs, hs2⟩, ⟨ha, ha2⟩, h4⟩ := hk
    obtain ⟨u, hu, zu, cu⟩ := short_i17 t h4
    obtain ⟨v, hv, zv, cv⟩ := texts3 e s a ⟨he, he2⟩ ⟨hs, hs2⟩ ⟨ha, ha2⟩
    obtain ⟨P, hP⟩ : ∃ P, pkS e s a t = P := ⟨_, rfl⟩
    have HP : Hid ((v ++ u) ++ tail4 (v ++ u) = P ∧ (v ++ u).size ≤ 20000) := hid (by
      have h1 : v ++ u = pkt e s a t := by rw [hu.out, hv.out]; simp only [rt, pkt, ByteArray.append_assoc]
      rw [h1]
      exact ⟨hP, Nat.le_trans hsz (by decide)⟩)
    rw [hP]
    have m1 : ¬ 9223372036854775807 < v.size + u.size := by omega
    clear hP hsz he he2 hs hs2 ha ha2 h4 hu hv zu zv
    go_enter Tryd.func6, Tryd.ntmps6
    go_wp2_with fail
    rw [HW0.out]
    refine HOK.out.mono ?_; rintro y w1 ⟨rfl, hb1⟩
    have X1 := hid (X0.out.later hb1)
    have B1 := hid (btr B0.out hb1)
    clear hb1 c0 X0 B0 HOK
    have c0 := X1.out.cells
    go_wp2_with fail
    refine (cu.out _).mono ?_; rintro y w2 ⟨rfl, hb2⟩
    have X2 := hid (X1.out.later hb2)
    have B2 := hid (btr B1.out hb2)
    clear hb2 c0 X1 B1
    have c0 := X2.out.cells
    go_wp2_with fail
    refine (cv.out _ _ rfl).mono ?_; rintro y w3 ⟨rfl, hb3⟩
    have B3 := hid (btr B2.out hb3)
    clear hb3 c0 X2 B2
    have N3 := hid (HN.out.on17 B3.out)
    have CS := hid (implSealed_yes (v ++ u) w3 HP.out.2 N3.out)
    go_wp2_with fail
    refine CS.out.mono ?_; rintro y w4 ⟨rfl, hb4⟩
    have B4 := hid (btr B3.out hb4)
    clear hb4
    rw [HP.out.1]
    go_wp2
    go_ret2
    exact ⟨rfl, B4.out⟩
/-- The packet that is read at a place, as the program reads it. -/
def ipk (s : ByteArray) (a : Int) : Option ((Int × Int × Int × ByteArray) × Int) :=
  (rd s a).bind fun p => (rd s p.2).bind fun q => (rd s q.2).bind fun r => (rsh s r.2).bind fun t =>
    if pkOk p.1 q.1 r.1 t.1 = true then some ((p.1, q.1, r.1, t.1), t.2) else none
section
variable {s : ByteArray} {a e c1 x c2 y c3 : Int} {t : ByteArray} {c4 : Int}
theorem ipk_n1 (h1 : rd s a = none) : ipk s a = none := by unfold ipk; rw [h1]; rfl
theorem ipk_n2 (h1 : rd s a = some (e, c1)) (h2 : rd s c1 = none) : ipk s a = none := by unfold ipk; rw [h1]; simp only [Option.bind_some]; rw [h2]; rfl
theorem ipk_n3 (h1 : rd s a = some (e, c1)) (h2 : rd s c1 = some (x, c2)) (h3 : rd s c2 = none) : ipk s a = none := by unfold ipk; rw [h1]; simp only [Option.bind_some]; rw [h2]; simp only [Option.bind_some]; rw [h3]; rfl
theorem ipk_n4 (h1 : rd s a = some (e, c1)) (h2 : rd s c1 = some (x, c2)) (h3 : rd s c2 = some (y, c3)) (h4 : rsh s c3 = none) : ipk s a = none := by unfold ipk; rw [h1]; simp only [Option.bind_some]; rw [h2]; simp only [Option.bind_some]; rw [h3]; simp only [Option.bind_some]; rw [h4]; rfl
theorem ipk_y (h1 : rd s a = some (e, c1)) (h2 : rd s c1 = some (x, c2)) (h3 : rd s c2 = some (y, c3)) (h4 : rsh s c3 = some (t, c4)) : ipk s a = if pkOk e x y t = true then some ((e, x, y, t), c4) else none := by unfold ipk; rw [h1]; simp only [Option.bind_some]; rw [h2]; simp only [Option.bind_some]; rw [h3]; simp only [Option.bind_some]; rw [h4]; rfl
end
/-- The memory of a call that reads a packet. -/
structure Rpk (w W : World) (k : Nat) (s : ByteArray) (e x y : Int) (t : ByteArray) (c : Int) : Prop where
  zero : Pk W w.heap.size 25 0 0 0 ⟨#[]⟩
  box : Pk W (w.heap.size + 1) 25 e x y t
  cur : Dg W k s c
  far : k < w.heap.size
  gr : w.grownBy W (some k)
section
variable {w W W' : World} {k : Nat} {s : ByteArray} {e x y : Int} {t : ByteArray} {c : Int}
theorem Rpk.later (h : Rpk w W k s e x y t c) (hb : Below W.heap.size W W') : Rpk w W' k s e x y t c :=
  ⟨h.zero.later hb, h.box.later hb, h.cur.later hb, h.far, wtr h.gr (grown_below hb _)⟩
theorem Rpk.read {c' : Int} (h : Rpk w W k s e x y t c) (hg : W.grownBy W' (some k)) (hc : Dg W' k s c') : Rpk w W' k s e x y t c' :=
  have hf := h.far
  ⟨h.zero.grown hg (by simp; omega), h.box.grown hg (by simp; omega), hc, h.far, wtr h.gr hg⟩
theorem Rpk.put {i : Nat} {v : Value} {e' x' y' : Int} {t' : ByteArray} (h : Rpk w W k s e x y t c) (hx : Pk (W.setCell ⟨w.heap.size + 1, i, none⟩ v) (w.heap.size + 1) 25 e' x' y' t') : Rpk w (W.setCell ⟨w.heap.size + 1, i, none⟩ v) k s e' x' y' t' c :=
  have hf := h.far
  ⟨heap_setCell_far v h.zero (by omega), hx, h.cur.far v (by omega), h.far, wst_new h.gr (by omega) i v⟩
end
def Pal1 (w : World) (k : Nat) (s : ByteArray) (a : Int) (z : Ending) (w' : World) : Prop :=
  (∃ e x y t c, ipk s a = some ((e, x, y, t), c) ∧ z = .returned (.agg #[.int .i64 e, .int .i64 x, .int .i64 y, .string t]) ∧ Dg w' k s c ∧ True ∧ w.grownBy w' (some k)) ∨ (ipk s a = none ∧ z = .panicked notHere ∧ w.grownBy w' (some k))
theorem Pal1.no {w : World} {k : Nat} {s : ByteArray} {a : Int} {w' : World} (h : ipk s a = none) (hg : w.grownBy w' (some k)) : Pal1 w k s a (.panicked notHere) w' := Or.inr ⟨h, rfl, hg⟩
set_option maxHeartbeats 8000000 in
set_option maxRecDepth 100000 in
theorem rpacket_any (k : Nat) (s : ByteArray) (a : Int) (w : World) (hs : s.size ≤ 1048576) (hc : Dg w k s a) :
    Calls Tryd.prog 31 #[.pointer (some ⟨k, 0, none⟩)] w fun z w' => Pal1 w k s a z w' := by
  have HSZ := hid hs
  have R0 : Hid (Rpk w ((w.alloc (.cells #[.int .i64 0, .int .i64 0, .int .i64 0, .string ⟨#[]⟩] 25)).alloc (.cells #[.int .i64 0, .int .i64 0, .int .i64 0, .string ⟨#[]⟩] 25)) k s 0 0 0 ⟨#[]⟩ a) := hid (by
    have h2 := Pk.new (w.alloc (.cells #[.int .i64 0, .int .i64 0, .int .i64 0, .string ⟨#[]⟩] 25)) 25 0 0 0 ⟨#[]⟩
    rw [show (w.alloc (.cells #[.int .i64 0, .int .i64 0, .int .i64 0, .string ⟨#[]⟩] 25)).heap.size = w.heap.size + 1 by simp] at h2
    exact ⟨(Pk.new w _ _ _ _ _).later (bpush (bre _) _), h2, hc.later (bpush (bpush (bre _) _) _), hc.lt, grown_below (bpush (bpush (bre _) _) _) _⟩)
  obtain ⟨W0, hW0⟩ : ∃ W, ((w.alloc (.cells #[.int .i64 0, .int .i64 0, .int .i64 0, .string ⟨#[]⟩] 25)).alloc (.cells #[.int .i64 0, .int .i64 0, .int .i64 0, .string ⟨#[]⟩] 25)) = W := ⟨_, rfl⟩
  rw [hW0] at R0
  have HW0 := hid hW0
  clear hs hc hW0
  go_enter Tryd.func31, Tryd.ntmps31
  go_wp2_with fail
  rw [HW0.out]
  clear HW0
  refine (numr_any k s a _ HSZ.out R0.out.cur).mono ?_; rintro z w1 (⟨e, c1, hr, rfl, hd, hg⟩ | ⟨hr, rfl, hg⟩)
  case inr =>
    have P := hid (Pal1.no (ipk_n1  hr) (wtr R0.out.gr hg))
    clear hr hg
    go_wp2_with fail
    exact ⟨rfl, P.out⟩
  have H1 := hid hr
  have R1 := hid (R0.out.read hg hd)
  have d8 := R1.out.box.cells
  have f8 := R1.out.box.loose
  have Q1 := hid (R1.out.put (R1.out.box.s0 e))
  clear hr hd hg R0
  go_wp2_with fail
  clear d8 f8 R1
  refine (numr_any k s c1 _ HSZ.out Q1.out.cur).mono ?_; rintro z w2 (⟨x, c2, hr, rfl, hd, hg⟩ | ⟨hr, rfl, hg⟩)
  case inr =>
    have P := hid (Pal1.no (ipk_n2  H1.out hr) (wtr Q1.out.gr hg))
    clear hr hg
    go_wp2_with fail
    exact ⟨rfl, P.out⟩
  have H2 := hid hr
  have R2 := hid (Q1.out.read hg hd)
  have d8 := R2.out.box.cells
  have f8 := R2.out.box.loose
  have Q2 := hid (R2.out.put (R2.out.box.s1 x))
  clear hr hd hg Q1
  go_wp2_with fail
  clear d8 f8 R2
  refine (numr_any k s c2 _ HSZ.out Q2.out.cur).mono ?_; rintro z w3 (⟨y, c3, hr, rfl, hd, hg⟩ | ⟨hr, rfl, hg⟩)
  case inr =>
    have P := hid (Pal1.no (ipk_n3  H1.out H2.out hr) (wtr Q2.out.gr hg))
    clear hr hg
    go_wp2_with fail
    exact ⟨rfl, P.out⟩
  have H3 := hid hr
  have R3 := hid (Q2.out.read hg hd)
  have d8 := R3.out.box.cells
  have f8 := R3.out.box.loose
  have Q3 := hid (R3.out.put (R3.out.box.s2 y))
  clear hr hd hg Q2
  go_wp2_with fail
  clear d8 f8 R3
  refine (short_any k s c3 _ HSZ.out Q3.out.cur).mono ?_; rintro z w4 (⟨t, c4, hr, rfl, hd, hg⟩ | ⟨hr, rfl, hg⟩)
  case inr =>
    have P := hid (Pal1.no (ipk_n4 H1.out H2.out H3.out hr) (wtr Q3.out.gr hg))
    clear hr hg
    go_wp2_with fail
    exact ⟨rfl, P.out⟩
  have H4 := hid hr
  have R4 := hid (Q3.out.read hg hd)
  have d8 := R4.out.box.cells
  have f8 := R4.out.box.loose
  have Q4 := hid (R4.out.put (R4.out.box.s3 t))
  clear hr hd hg Q3
  go_upto_region 6 with fail
  clear d8 f8 R4
  obtain ⟨W5, hW5⟩ : ∃ W, w4.setCell ⟨w.heap.size + 1, 3, none⟩ (.string t) = W := ⟨_, rfl⟩
  rw [hW5] at Q4
  rw [hW5]
  clear hW5
  have d8 := Q4.out.box.cells
  have CB := packetOk_any e x y t W5
  obtain ⟨q, hq⟩ : ∃ q, pkOk e x y t = q := ⟨_, rfl⟩
  rw [hq] at CB
  have HRB : Hid (ipk s a = if q = true then some ((e, x, y, t), c4) else none) := hid (by rw [ipk_y H1.out H2.out H3.out H4.out, hq])
  clear hq
  go_wp2_with fail
  refine CB.mono ?_; rintro z w6 ⟨rfl, hb6⟩
  have R6 := hid (Q4.out.later hb6)
  clear hb6 CB d8 Q4
  have d8 := R6.out.box.cells
  have d4 := R6.out.zero.cells
  have f4 := R6.out.zero.loose
  cases q
  · have P := hid (Pal1.no (by rw [HRB.out]; rfl) R6.out.gr)
    go_wp2_with fail
    refine (must_no _).mono ?_; rintro z w8 ⟨rfl, rfl⟩
    go_wp2_with fail
    exact ⟨rfl, P.out⟩
  · go_wp2_with fail
    refine (must_yes _).mono ?_; rintro z w8 ⟨rfl, rfl⟩
    go_wp2
    have hX := Pk.put R6.out.zero e x y t
    have hg7 := putP_grown w8 w.heap.size e x y t
    have hgr := wst_new (wst_new (wst_new (wst_new R6.out.gr (Nat.le_refl _) 0 (.int .i64 e)) (Nat.le_refl _) 1 (.int .i64 x)) (Nat.le_refl _) 2 (.int .i64 y)) (Nat.le_refl _) 3 (.string t)
    unfold putP at hX hg7
    have d := hX.cells
    refine bodyPost_ret (v := .agg #[.int .i64 e, .int .i64 x, .int .i64 y, .string t]) (by simp [results, Tryd.results31, go_sem, d]) rfl ?_
    have l1 := R6.out.far
    refine Or.inl ⟨e, x, y, t, c4, by rw [HRB.out]; rfl, rfl, ?_, trivial, hgr⟩
    exact (hg7.block k (by have := R6.out.gr.size; omega) (by simp; omega)).trans R6.out.cur
theorem drewPacket (h : True) : True := h
def CloPacket (w : World) (kr km : Nat) (s : ByteArray) (a : Int) (w' : World) : Prop :=
  ∃ ep sq ak tx c, ipk s a = some ((ep, sq, ak, tx), c) ∧ Dg w' kr s c ∧ Pk w' km 25 ep sq ak tx ∧ True ∧ Kept2 w w' kr km
set_option maxHeartbeats 400000 in
set_option maxRecDepth 100000 in
theorem closPacket_any (kf kr km ft : Nat) (s : ByteArray) (a : Int) (w : World) (hs : s.size ≤ 1048576) (hf : Fg w kf ft 31) (hd : Dg w kr s a) (hm : Pk w km 25 0 0 0 ⟨#[]⟩) (hne : kr ≠ km) :
    Calls Tryd.prog 71 #[.pointer (some ⟨kf, 0, none⟩), .pointer (some ⟨kr, 0, none⟩), .pointer (some ⟨km, 0, none⟩)] w fun e w' => (e = .returned (.tuple #[]) ∧ CloPacket w kr km s a w') ∨ (e = .panicked notHere ∧ ipk s a = none ∧ w.grownBy w' (some kr)) := by
  have HD := hid hd
  have HM := hid hm
  have HS := hid hs
  have HNE := hid hne
  have cf := hf.cell
  clear hd hm hs hne hf
  go_enter Tryd.func71, Tryd.ntmps71
  go_wp2_with fail
  refine (rpacket_any kr s a _ HS.out HD.out).mono ?_; rintro e w1 (⟨ep, sq, ak, tx, c, hr, rfl, hd, ho, hg⟩ | ⟨hr, rfl, hg⟩)
  case inr =>
    have H := hid hr
    have G := hid hg
    clear hr hg
    go_wp2_with fail
    exact ⟨rfl, Or.inr ⟨rfl, H.out, G.out⟩⟩
  have H := hid hr
  have M1 := hid (HM.out.grown hg (by have := HNE.out; simp; omega))
  have D1 := hid hd
  have O1 := hid ho
  have K1 : Hid (Kept2 w w1 kr km) := Kept2.of_grown hg
  have LM : Hid (km < w.heap.size) := HM.out.lt
  have c := M1.out.cells
  have f := M1.out.loose
  clear hr hd ho hg cf
  go_wp2
  go_end0
  have hne := HNE.out
  have hX := Pk.put M1.out ep sq ak tx
  unfold putP at hX
  refine Or.inl ⟨rfl, ep, sq, ak, tx, _, H.out, ?_, hX, ?_, ?_⟩
  · exact ((wst (wst (wst (wst (wre w1 (some km)) _ _) _ _) _ _) _ _).block kr D1.out.lt (by simp; omega)).trans D1.out
  · exact trivial
  · exact ((((K1.out.set _ _).set _ _).set _ _).set _ _)
set_option maxHeartbeats 800000 in
set_option maxRecDepth 100000 in
/-- readWhole over this closure, whatever it is known to leave. -/
theorem wholePacket_any (p1 p2 p3 : Value) (w : World) (Y N : World → Prop) (hF : Calls Tryd.prog 71 #[p1, p2, p3] (w.alloc (.cells #[.bool false] 4)) fun e w1 => (e = .returned (.tuple #[]) ∧ Y w1) ∨ (e = .panicked notHere ∧ N w1)) (hY : ∀ w1, Y w1 → Bwd w1 w.heap.size false) (hN : ∀ w1, N w1 → Bwd w1 w.heap.size false) :
    Calls Tryd.prog 70 #[.func (.func 71) #[] #[p1, p2, p3]] w fun e w' => (e = .returned (.bool true) ∧ ∃ w1, Y w1 ∧ w' = (w1.setCell ⟨w.heap.size, 0, none⟩ (.bool true)).alloc (.cells #[] 106)) ∨ (e = .returned (.bool false) ∧ ∃ w1, N w1 ∧ w' = (w1.alloc (.cells #[] 106)).setCell ⟨w.heap.size, 0, none⟩ (.bool false)) := by
  have hmf : ∀ (fn : Fn) (first cap : Array Value) (w : World), (Instr.makeFunc fn first cap).run Tryd.prog w = .ok (.func fn first cap) w := fun _ _ _ _ => rfl
  have HF := hid hF
  have HY := hid hY
  have HN := hid hN
  have B0 := hid (Bwd.new w false)
  have c0 := B0.out.cell
  clear hF hY hN
  go_enter_defers Tryd.func70, Tryd.ntmps70
  go_wp2_with fail
  refine HF.out.mono ?_; rintro e w1 (⟨rfl, hy⟩ | ⟨rfl, hn⟩)
  case inr =>
    have B1 : Hid (Bwd w1 w.heap.size false) := HN.out w1 hn
    have HNN := hid hn
    clear hn c0
    go_wp2_with fail
    refine leaves_cons (f := 76) (args := #[.pointer (some ⟨w.heap.size, 0, none⟩)]) (by simp) (by simp [go_sem]) ?_
    refine (catch_panic w.heap.size false [] _ B1.out).mono ?_
    rintro e u' w'' ⟨rfl, rfl, rfl⟩
    have cc := ((B1.out.later (bpush (bre w1) (.cells #[] 106))).set false).cell
    simp [Leaves, settle, results, Tryd.results70, go_sem, cc]
    exact ⟨w1, HNN.out, rfl⟩
  have B1 : Hid (Bwd w1 w.heap.size false) := HY.out w1 hy
  have HYY := hid hy
  have c1 := B1.out.cell
  have f1 := B1.out.loose
  clear hy c0
  go_wp2
  have N2 := hid (bpush (bre (w1.setCell ⟨w.heap.size, 0, none⟩ (.bool true))) (.cells #[] 106))
  have cc := ((B1.out.set true).later N2.out).cell
  refine leaves_cons (f := 76) (args := #[.pointer (some ⟨w.heap.size, 0, none⟩)]) (by simp) (by simp [go_sem]) ?_
  refine (catch_idle w.heap.size _).mono ?_
  rintro e u' w'' ⟨rfl, rfl, rfl⟩
  simp [Leaves, settle, results, Tryd.results70, go_sem, cc]
  exact ⟨w1, HYY.out, rfl⟩
def RaPacket (s : ByteArray) (a : Int) (w : World) (e : Ending) (w' : World) : Prop :=
  (∃ ep sq ak tx c, ipk s a = some ((ep, sq, ak, tx), c) ∧ e = .returned (.tuple #[.agg #[.int .i64 ep, .int .i64 sq, .int .i64 ak, .string tx], .int .i64 c, .bool true]) ∧ True ∧ Below w.heap.size w w') ∨
  (ipk s a = none ∧ e = .returned (.tuple #[.agg #[.int .i64 0, .int .i64 0, .int .i64 0, .string ⟨#[]⟩], .int .i64 0, .bool false]) ∧ Below w.heap.size w w')
theorem blocksPacket (w : World) (ft : Nat) (s : ByteArray) (a : Int) (W0 : World) (h : ((w.alloc (.cells #[.func (.func 31) #[] #[]] ft)).alloc (.cells #[.int .i64 0, .int .i64 0, .int .i64 0, .string ⟨#[]⟩] 25)).alloc (.cells #[.string s, .int .i64 a] 103) = W0) :
    Fg W0 w.heap.size ft 31 ∧ Pk W0 (w.heap.size + 1) 25 0 0 0 ⟨#[]⟩ ∧ Dg W0 (w.heap.size + 1 + 1) s a ∧ Below w.heap.size w W0 := by
  subst h
  have h1 : Fg (w.alloc (.cells #[.func (.func 31) #[] #[]] ft)) w.heap.size ft 31 := heap_alloc_new w _
  have h2 := Pk.new (w.alloc (.cells #[.func (.func 31) #[] #[]] ft)) 25 0 0 0 ⟨#[]⟩
  have h3 := Dg.new ((w.alloc (.cells #[.func (.func 31) #[] #[]] ft)).alloc (.cells #[.int .i64 0, .int .i64 0, .int .i64 0, .string ⟨#[]⟩] 25)) s a
  rw [alloc_size w] at h2
  rw [alloc_size (w.alloc _), alloc_size w] at h3
  exact ⟨h1.later (bpush (bpush (bre _) _) _), h2.later (bpush (bre _) _), h3, bpush (bpush (bpush (bre _) _) _) _⟩
set_option maxHeartbeats 1600000 in
set_option maxRecDepth 100000 in
theorem readAtPacket_any (s : ByteArray) (a : Int) (w : World) (hs : s.size ≤ 1048576) :
    Calls Tryd.prog 52 #[.string s, .int .i64 a, .func (.func 31) #[] #[]] w fun e w' => RaPacket s a w e w' := by
  have hmf : ∀ (fn : Fn) (first cap : Array Value) (w : World), (Instr.makeFunc fn first cap).run Tryd.prog w = .ok (.func fn first cap) w := fun _ _ _ _ => rfl
  have HSZ := hid hs
  obtain ⟨W0, hW0⟩ : ∃ W0, ((w.alloc (.cells #[.func (.func 31) #[] #[]] 54)).alloc (.cells #[.int .i64 0, .int .i64 0, .int .i64 0, .string ⟨#[]⟩] 25)).alloc (.cells #[.string s, .int .i64 a] 103) = W0 := ⟨_, rfl⟩
  obtain ⟨f0, x0, d0, b0⟩ := blocksPacket w _ s a W0 hW0
  have N1 := hid (bpush (bre W0) (.cells #[.bool false] 4))
  have LW : Hid (w.heap.size + 1 + 1 < W0.heap.size) := d0.lt
  have L1 : Hid (W0.heap.size < (W0.alloc (.cells #[.bool false] 4)).heap.size) := hid (by show _ < _; simp)
  have HB := hid b0
  have BG := hid (Bwd.new W0 false)
  have CL := wholePacket_any (.pointer (some ⟨w.heap.size, 0, none⟩)) (.pointer (some ⟨w.heap.size + 1 + 1, 0, none⟩)) (.pointer (some ⟨w.heap.size + 1, 0, none⟩)) W0 _ _ (closPacket_any w.heap.size (w.heap.size + 1 + 1) (w.heap.size + 1) _ s a _ hs (f0.later N1.out) (d0.later N1.out) (x0.later N1.out) (by omega)) (by
    rintro w1 ⟨ep, sq, ak, tx, c, _, _, _, _, hk⟩
    have l1 := LW.out
    exact (hk.block W0.heap.size BG.out.lt (by omega) (by omega)).trans BG.out) (by
    rintro w1 ⟨_, hk⟩
    have l1 := LW.out
    exact BG.out.grown hk (by simp; omega))
  have HCL := hid CL
  have X0 := hid x0
  have HW0 := hid hW0
  clear hs hW0 f0 x0 d0 b0 CL
  go_enter Tryd.func52, Tryd.ntmps52
  go_wp2_with fail
  rw [HW0.out]
  refine HCL.out.mono ?_; rintro e w1 (⟨rfl, w2, hy, rfl⟩ | ⟨rfl, w2, ⟨hr, hk⟩, rfl⟩)
  case inr =>
    have H := hid hr
    have l1 := LW.out
    have l2 := L1.out
    have E2 : Hid (Below w.heap.size w ((w2.alloc (.cells #[] 106)).setCell ⟨W0.heap.size, 0, none⟩ (.bool false))) := hid (bsk (btr (HB.out.trans (N1.out.mono (by omega) |>.trans (below_grownR hk (by intro j hj; simp at hj; omega) (by omega)))) (bpush (bre w2) _)) (by omega) 0 _)
    have F2 : Hid (Pk ((w2.alloc (.cells #[] 106)).setCell ⟨W0.heap.size, 0, none⟩ (.bool false)) (w.heap.size + 1) 25 0 0 0 ⟨#[]⟩) := hid (heap_setCell_far _ (((X0.out.later N1.out).grown hk (by simp)).later (bpush (bre w2) _)) (by omega))
    obtain ⟨w3, hw3⟩ : ∃ x, (w2.alloc (.cells #[] 106)).setCell ⟨W0.heap.size, 0, none⟩ (.bool false) = x := ⟨_, rfl⟩
    rw [hw3] at E2 F2
    rw [hw3]
    have d := F2.out.cells
    have f := F2.out.loose
    clear hr hk hw3 l1 l2
    go_wp2
    have hX := Pk.put F2.out 0 0 0 ⟨#[]⟩
    unfold putP at hX
    have d := hX.cells
    exact bodyPost_ret (v := .tuple #[.agg #[.int .i64 0, .int .i64 0, .int .i64 0, .string ⟨#[]⟩], .int .i64 0, .bool false]) (by simp [results, Tryd.results52, go_sem, d]) rfl (Or.inr ⟨H.out, rfl, E2.out.trans (below_grownR (wst (wst (wst (wst (wre w3 (some (w.heap.size + 1))) 0 (.int .i64 0)) 1 (.int .i64 0)) 2 (.int .i64 0)) 3 (.string ⟨#[]⟩)) (by intro j hj; simp at hj; omega) E2.out.size)⟩)
  obtain ⟨ep, sq, ak, tx, c, hr, hd, hx, ho, hk⟩ := hy
  have H := hid hr
  have l1 := LW.out
  have l2 := L1.out
  have K2 : Hid (Kept2 W0 w2 (w.heap.size + 1 + 1) (w.heap.size + 1)) := hid hk.push
  have N3 := hid (bpush (bre (w2.setCell ⟨W0.heap.size, 0, none⟩ (.bool true))) (.cells #[] 106))
  have E2 : Hid (Below w.heap.size w ((w2.setCell ⟨W0.heap.size, 0, none⟩ (.bool true)).alloc (.cells #[] 106))) := hid (HB.out.trans (((K2.out.new (Nat.le_refl _) _ _).later N3.out).below (by omega) (by omega) (by omega)))
  have D2 := hid ((hd.far (j := W0.heap.size) (i := 0) (.bool true) (by omega)).later N3.out)
  have X2 : Hid (Pk ((w2.setCell ⟨W0.heap.size, 0, none⟩ (.bool true)).alloc (.cells #[] 106)) (w.heap.size + 1) 25 ep sq ak tx) := hid (((show Pk (w2.setCell ⟨W0.heap.size, 0, none⟩ (.bool true)) (w.heap.size + 1) 25 ep sq ak tx from heap_setCell_far _ hx (by omega))).later N3.out)
  have O2 := hid ((trivial : True))
  obtain ⟨w3, hw3⟩ : ∃ x, (w2.setCell ⟨W0.heap.size, 0, none⟩ (.bool true)).alloc (.cells #[] 106) = x := ⟨_, rfl⟩
  rw [hw3] at E2 D2 X2
  rw [hw3]
  have d := X2.out.cells
  have f := X2.out.loose
  have dd := D2.out.cells
  clear hr hd hx ho hk hw3 l1 l2 K2 N3
  go_wp2_with fail
  go_region
  all_goals go_wp2
  all_goals
    have hX := Pk.put X2.out ep sq ak tx
    unfold putP at hX
    have d3 := hX.cells
    have l1 := LW.out
    have l2 := L1.out
    refine bodyPost_ret (v := .tuple #[.agg #[.int .i64 ep, .int .i64 sq, .int .i64 ak, .string tx], .int .i64 c, .bool true]) (by simp [results, Tryd.results52, go_sem, d3]) rfl (Or.inl ⟨ep, sq, ak, tx, c, H.out, rfl, ?_, ?_⟩)
    · first | exact drewPacket (trivial) | exact trivial
    · first | exact bdr (E2.out.trans (below_grownR (wst (wst (wst (wst (wre w3 (some (w.heap.size + 1))) 0 (.int .i64 ep)) 1 (.int .i64 sq)) 2 (.int .i64 ak)) 3 (.string tx)) (by intro j hj; simp at hj; omega) E2.out.size)) | exact (bdr E2.out).trans (below_grownR (wst (wst (wst (wst (wre w3.drew (some (w.heap.size + 1))) 0 (.int .i64 ep)) 1 (.int .i64 sq)) 2 (.int .i64 ak)) 3 (.string tx)) (by intro j hj; simp at hj; omega) E2.out.size)
end Go.Proofs.YtnbobidpmiieiaaDoor
