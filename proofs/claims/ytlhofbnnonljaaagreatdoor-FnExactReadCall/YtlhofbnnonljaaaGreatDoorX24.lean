/- Cg. -/
import Derived.Test.YtlhofbnnonljaaaGreatDoorX23
namespace Go.Proofs.YtlhofbnnonljaaaGreatDoor
open Go.RowKit Go.ChangeMaps
/-- Block k holds one byte. -/
def By (W : World) (k : Nat) (b : UInt8) : Prop := W.heap[k]? = some (.cells #[.int .u8 (b.toNat : Int)] 5 (0, 0))
theorem By.later {W W' : World} {k : Nat} {b : UInt8} (h : By W k b) (hb : Below W.heap.size W W') : By W' k b := (hb.block k (Array.getElem?_eq_some_iff.1 h).1).trans h
theorem By.run {W : World} {k : Nat} {b : UInt8} (h : By W k b) : (convert 41 9 (.slice (some ⟨k, 0, none⟩) 1 1)).run Tryz.prog W = .ok (.string ⟨#[b]⟩) W :=
  run_string_own (P := Tryz.prog) (base := 0) (n := 1) W 41 9 5 Tryz.underlying41 Tryz.underlying5 Tryz.underlying9 [b] ⟨rfl, Or.inr ⟨k, 1, _, rfl, Nat.zero_le _, h, Nat.le_refl _, by decide, rfl, rfl⟩⟩
theorem kind_b (kd : Int) (h : 1 ≤ kd ∧ kd ≤ 7) : ∃ b : UInt8, IntKind.u8.wrap kd = (b.toNat : Int) ∧ (⟨#[b]⟩ : ByteArray) = vi kd := by
  have hv : ∀ n : Nat, n < 8 → (⟨#[UInt8.ofNat n]⟩ : ByteArray) = vi n := fun n hn => by
    unfold vi
    rw [vbs_small _ (by omega)]
    rfl
  obtain ⟨n, rfl⟩ : ∃ n : Nat, kd = n := ⟨kd.toNat, by omega⟩
  refine ⟨UInt8.ofNat n, ?_, hv n (by omega)⟩
  rw [u8_nat n (by omega)]
  have : n = 1 ∨ n = 2 ∨ n = 3 ∨ n = 4 ∨ n = 5 ∨ n = 6 ∨ n = 7 := by omega
  rcases this with rfl | rfl | rfl | rfl | rfl | rfl | rfl <;> rfl
set_option maxHeartbeats 16000000 in
set_option maxRecDepth 100000 in
theorem specCallText_any (kd bx gd fl : Int) (tx : ByteArray) (w : World) (ht : tx.size ≤ 1048576) :
    Calls Tryz.prog 10 #[.agg #[.int .i64 kd, .int .i64 bx, .int .i64 gd, .int .i64 fl, .string tx]] w fun e w' => e = .returned (ctR kd bx gd fl tx) ∧ Below w.heap.size w w' := by
  have X0 := hid (Cx.new w 26 kd bx gd fl tx)
  have c0 := X0.out.cells
  have B0 := hid (bpush (bre w) (.cells #[.int .i64 kd, .int .i64 bx, .int .i64 gd, .int .i64 fl, .string tx] 26))
  have CO := hid (specCallOk_any kd bx gd fl tx (w.alloc (.cells #[.int .i64 kd, .int .i64 bx, .int .i64 gd, .int .i64 fl, .string tx] 26)) ht)
  by_cases hc : ¬ cok kd bx gd fl tx = true
  · have HA : Hid (ctR kd bx gd fl tx = .tuple #[.string ⟨#[]⟩, .bool false]) := hid (if_neg hc)
    rw [show cok kd bx gd fl tx = false by simpa using hc] at CO
    clear hc ht
    rw [HA.out]
    go_enter Tryz.func10, Tryz.ntmps10
    go_wp2_with fail
    refine CO.out.mono ?_; rintro e w1 ⟨rfl, hb1⟩
    have B1 := hid (btr B0.out hb1)
    clear hb1 c0 X0 CO
    go_wp2
    go_ret2
    exact ⟨rfl, B1.out⟩
  replace hc := Decidable.not_not.1 hc
  obtain ⟨h1, h2, h3, h4, h5⟩ := cok_in hc
  have HA : Hid (ctR kd bx gd fl tx = .tuple #[.string (ctx kd bx gd fl tx), .bool true]) := hid (if_pos hc)
  obtain ⟨x1, e1, z1, C1⟩ := var_s bx (by omega) (by omega)
  obtain ⟨x2, e2, z2, C2⟩ := var_s gd (by omega) (by omega)
  obtain ⟨x3, e3, z3, C3⟩ := var_s fl (by omega) (by omega)
  obtain ⟨x4, e4, z4, C4⟩ := var_s tx.size (by omega) (by omega)
  obtain ⟨b, hwr, hvi⟩ := kind_b kd h1
  have HW := hid hwr
  have HV := hid hvi
  have hz5 : tx.size ≤ 20000 := h5
  obtain ⟨x0, hx0⟩ : ∃ x : ByteArray, (⟨#[b]⟩ : ByteArray) = x := ⟨_, rfl⟩
  have z0 : x0.size ≤ 1 := by rw [← hx0]; exact Nat.le_refl 1
  have H0 := hid hx0
  rw [hc] at CO
  clear hc h1 h2 h3 h4 h5 ht hwr hvi hx0
  rw [HA.out]
  have q1 : (9223372036854775807 < x0.size + x1.size) = False := eq_false (by omega)
  have q2 : (9223372036854775807 < x0.size + x1.size + x2.size) = False := eq_false (by omega)
  have q3 : (9223372036854775807 < x0.size + x1.size + x2.size + x3.size) = False := eq_false (by omega)
  have q4 : (9223372036854775807 < x0.size + x1.size + x2.size + x3.size + x4.size) = False := eq_false (by omega)
  have q5 : (9223372036854775807 < x0.size + x1.size + x2.size + x3.size + x4.size + tx.size) = False := eq_false (by omega)
  go_enter Tryz.func10, Tryz.ntmps10
  go_wp2_with fail
  refine CO.out.mono ?_; rintro e w1 ⟨rfl, hb1⟩
  have HB := hid (btr B0.out hb1)
  have XB := hid (X0.out.later hb1)
  clear hb1 c0 X0 CO
  have c1 := XB.out.cells
  go_wp2_with fail
  clear c1
  have HSS : Hid (∀ W, Cx W w.heap.size 26 kd bx gd fl tx → (fun W => (W.cell? ⟨w.heap.size, 0, none⟩ = some (.int .i64 kd) ∧ W.cell? ⟨w.heap.size, 1, none⟩ = some (.int .i64 bx) ∧ W.cell? ⟨w.heap.size, 2, none⟩ = some (.int .i64 gd) ∧ W.cell? ⟨w.heap.size, 3, none⟩ = some (.int .i64 fl) ∧ W.cell? ⟨w.heap.size, 4, none⟩ = some (.string tx))) W) := hid (fun W h => h.cells)
  refine wp_region_noPanic ?_
  refine wp_region_held_drew (S := (fun W => (W.cell? ⟨w.heap.size, 0, none⟩ = some (.int .i64 kd) ∧ W.cell? ⟨w.heap.size, 1, none⟩ = some (.int .i64 bx) ∧ W.cell? ⟨w.heap.size, 2, none⟩ = some (.int .i64 gd) ∧ W.cell? ⟨w.heap.size, 3, none⟩ = some (.int .i64 fl) ∧ W.cell? ⟨w.heap.size, 4, none⟩ = some (.string tx)))) (by kernel_rfl) (HSS.out _ XB.out) (fun hHeld => ?_)
  obtain ⟨v0, hv0⟩ : ∃ x, w1.drew = x := ⟨_, rfl⟩
  replace XB := hid (XB.out.later (bdr (bre _)))
  replace HB := hid (btr HB.out (bdr (bre _)))
  rw [hv0] at XB HB hHeld
  rw [hv0]
  clear hv0
  refine tk 0 ?_
  refine tk 1 ?_
  refine tk 2 ?_
  refine tk 5 ?_
  refine tk 6 ?_
  refine tk 9 ?_
  refine tk 10 ?_
  refine tk 13 ?_
  refine tk 14 ?_
  refine tk 17 ?_
  refine tk 18 ?_
  refine tk 19 ?_
  refine tk 22 ?_
  refine tk 23 ?_
  rw [HW.out]
  clear hHeld
  refine wpAnyH_ready (rs := [3, 7]) (by kernel_rfl) (by simp) (rc (fun K hK => ?_) (rl (fun K hK => ?_)))
  · skip
    go_simp
    have hbx := bpush (bre v0) (.cells #[.int .u8 (b.toNat : Int)] 5)
    have J1 : Hid (By (v0.alloc (.cells #[.int .u8 (b.toNat : Int)] 5)) v0.heap.size b) := hid (heap_alloc_new v0 _)
    replace XB := hid (XB.out.later hbx)
    replace HB := hid (btr HB.out hbx)
    obtain ⟨v1, hv1⟩ : ∃ x, v0.alloc (.cells #[.int .u8 (b.toNat : Int)] 5) = x := ⟨_, rfl⟩
    obtain ⟨k1, hk1⟩ : ∃ x, v0.heap.size = x := ⟨_, rfl⟩
    rw [hv1] at XB HB J1
    rw [hk1] at J1
    rw [hv1, hk1]
    clear hbx hv1 hk1
    refine hK.out _ _ (HSS.out _ XB.out) (fun hHeld => ?_)
    clear hK K
    try simp only [Act.put, List.setIfInBounds_toArray, List.set_cons_zero, List.set_cons_succ]
    clear hHeld
    refine wpAnyH_ready (rs := [4, 7]) (by kernel_rfl) (by simp) (rc (fun K hK => ?_) (rl (fun K hK => ?_)))
    · skip
      go_simp
      rw [J1.out.run]
      rw [H0.out]
      go_simp
      refine hK.out _ _ (HSS.out _ XB.out) (fun hHeld => ?_)
      clear hK K
      try simp only [Act.put, List.setIfInBounds_toArray, List.set_cons_zero, List.set_cons_succ]
      clear hHeld
      refine ry 7 (fun K hK => ?_)
      go_simp
      refine (C1.out _).mono ?_; rintro e v3 ⟨rfl, hbx⟩
      replace XB := hid (XB.out.later hbx)
      replace HB := hid (btr HB.out hbx)
      clear hbx
      go_wp2_with fail
      refine hK.out _ _ (HSS.out _ XB.out) (fun hHeld => ?_)
      clear hK K
      try simp only [Act.put, List.setIfInBounds_toArray, List.set_cons_zero, List.set_cons_succ]
      refine tk 8 ?_
      clear hHeld
      refine ry 11 (fun K hK => ?_)
      go_simp
      refine (C2.out _).mono ?_; rintro e v4 ⟨rfl, hbx⟩
      replace XB := hid (XB.out.later hbx)
      replace HB := hid (btr HB.out hbx)
      clear hbx
      go_wp2_with fail
      refine hK.out _ _ (HSS.out _ XB.out) (fun hHeld => ?_)
      clear hK K
      try simp only [Act.put, List.setIfInBounds_toArray, List.set_cons_zero, List.set_cons_succ]
      refine tk 12 ?_
      clear hHeld
      refine ry 15 (fun K hK => ?_)
      go_simp
      refine (C3.out _).mono ?_; rintro e v5 ⟨rfl, hbx⟩
      replace XB := hid (XB.out.later hbx)
      replace HB := hid (btr HB.out hbx)
      clear hbx
      go_wp2_with fail
      refine hK.out _ _ (HSS.out _ XB.out) (fun hHeld => ?_)
      clear hK K
      try simp only [Act.put, List.setIfInBounds_toArray, List.set_cons_zero, List.set_cons_succ]
      refine tk 16 ?_
      clear hHeld
      refine ry 20 (fun K hK => ?_)
      go_simp
      refine (C4.out _).mono ?_; rintro e v6 ⟨rfl, hbx⟩
      replace XB := hid (XB.out.later hbx)
      replace HB := hid (btr HB.out hbx)
      clear hbx
      go_wp2_with fail
      refine hK.out _ _ (HSS.out _ XB.out) (fun hHeld => ?_)
      clear hK K
      try simp only [Act.put, List.setIfInBounds_toArray, List.set_cons_zero, List.set_cons_succ]
      refine tk 21 ?_
      refine tk 24 ?_
      refine tk 25 ?_
      refine tk 26 ?_
      clear hHeld
      refine wpAnyH_done (by kernel_rfl) ?_ _
      refine NoPanic.normal ?_
      go_wp2
      go_ret2
      refine ⟨?_, HB.out⟩
      rw [e1.out, e2.out, e3.out, e4.out, ← H0.out, HV.out]
      rfl
    · skip
      go_simp
      refine (C1.out _).mono ?_; rintro e v7 ⟨rfl, hbx⟩
      replace XB := hid (XB.out.later hbx)
      replace HB := hid (btr HB.out hbx)
      replace J1 := hid (J1.out.later hbx)
      clear hbx
      go_wp2_with fail
      refine hK.out _ _ (HSS.out _ XB.out) (fun hHeld => ?_)
      clear hK K
      try simp only [Act.put, List.setIfInBounds_toArray, List.set_cons_zero, List.set_cons_succ]
      clear hHeld
      refine wpAnyH_ready (rs := [4, 11]) (by kernel_rfl) (by simp) (rc (fun K hK => ?_) (rl (fun K hK => ?_)))
      · skip
        go_simp
        rw [J1.out.run]
        rw [H0.out]
        go_simp
        refine hK.out _ _ (HSS.out _ XB.out) (fun hHeld => ?_)
        clear hK K
        try simp only [Act.put, List.setIfInBounds_toArray, List.set_cons_zero, List.set_cons_succ]
        refine tk 8 ?_
        clear hHeld
        refine ry 11 (fun K hK => ?_)
        go_simp
        refine (C2.out _).mono ?_; rintro e v9 ⟨rfl, hbx⟩
        replace XB := hid (XB.out.later hbx)
        replace HB := hid (btr HB.out hbx)
        clear hbx
        go_wp2_with fail
        refine hK.out _ _ (HSS.out _ XB.out) (fun hHeld => ?_)
        clear hK K
        try simp only [Act.put, List.setIfInBounds_toArray, List.set_cons_zero, List.set_cons_succ]
        refine tk 12 ?_
        clear hHeld
        refine ry 15 (fun K hK => ?_)
        go_simp
        refine (C3.out _).mono ?_; rintro e v10 ⟨rfl, hbx⟩
        replace XB := hid (XB.out.later hbx)
        replace HB := hid (btr HB.out hbx)
        clear hbx
        go_wp2_with fail
        refine hK.out _ _ (HSS.out _ XB.out) (fun hHeld => ?_)
        clear hK K
        try simp only [Act.put, List.setIfInBounds_toArray, List.set_cons_zero, List.set_cons_succ]
        refine tk 16 ?_
        clear hHeld
        refine ry 20 (fun K hK => ?_)
        go_simp
        refine (C4.out _).mono ?_; rintro e v11 ⟨rfl, hbx⟩
        replace XB := hid (XB.out.later hbx)
        replace HB := hid (btr HB.out hbx)
        clear hbx
        go_wp2_with fail
        refine hK.out _ _ (HSS.out _ XB.out) (fun hHeld => ?_)
        clear hK K
        try simp only [Act.put, List.setIfInBounds_toArray, List.set_cons_zero, List.set_cons_succ]
        refine tk 21 ?_
        refine tk 24 ?_
        refine tk 25 ?_
        refine tk 26 ?_
        clear hHeld
        refine wpAnyH_done (by kernel_rfl) ?_ _
        refine NoPanic.normal ?_
        go_wp2
        go_ret2
        refine ⟨?_, HB.out⟩
        rw [e1.out, e2.out, e3.out, e4.out, ← H0.out, HV.out]
        rfl
      · skip
        go_simp
        refine (C2.out _).mono ?_; rintro e v12 ⟨rfl, hbx⟩
        replace XB := hid (XB.out.later hbx)
        replace HB := hid (btr HB.out hbx)
        replace J1 := hid (J1.out.later hbx)
        clear hbx
        go_wp2_with fail
        refine hK.out _ _ (HSS.out _ XB.out) (fun hHeld => ?_)
        clear hK K
        try simp only [Act.put, List.setIfInBounds_toArray, List.set_cons_zero, List.set_cons_succ]
        clear hHeld
        refine wpAnyH_ready (rs := [4, 15]) (by kernel_rfl) (by simp) (rc (fun K hK => ?_) (rl (fun K hK => ?_)))
        · skip
          go_simp
          rw [J1.out.run]
          rw [H0.out]
          go_simp
          refine hK.out _ _ (HSS.out _ XB.out) (fun hHeld => ?_)
          clear hK K
          try simp only [Act.put, List.setIfInBounds_toArray, List.set_cons_zero, List.set_cons_succ]
          refine tk 8 ?_
          refine tk 12 ?_
          clear hHeld
          refine ry 15 (fun K hK => ?_)
          go_simp
          refine (C3.out _).mono ?_; rintro e v14 ⟨rfl, hbx⟩
          replace XB := hid (XB.out.later hbx)
          replace HB := hid (btr HB.out hbx)
          clear hbx
          go_wp2_with fail
          refine hK.out _ _ (HSS.out _ XB.out) (fun hHeld => ?_)
          clear hK K
          try simp only [Act.put, List.setIfInBounds_toArray, List.set_cons_zero, List.set_cons_succ]
          refine tk 16 ?_
          clear hHeld
          refine ry 20 (fun K hK => ?_)
          go_simp
          refine (C4.out _).mono ?_; rintro e v15 ⟨rfl, hbx⟩
          replace XB := hid (XB.out.later hbx)
          replace HB := hid (btr HB.out hbx)
          clear hbx
          go_wp2_with fail
          refine hK.out _ _ (HSS.out _ XB.out) (fun hHeld => ?_)
          clear hK K
          try simp only [Act.put, List.setIfInBounds_toArray, List.set_cons_zero, List.set_cons_succ]
          refine tk 21 ?_
          refine tk 24 ?_
          refine tk 25 ?_
          refine tk 26 ?_
          clear hHeld
          refine wpAnyH_done (by kernel_rfl) ?_ _
          refine NoPanic.normal ?_
          go_wp2
          go_ret2
          refine ⟨?_, HB.out⟩
          rw [e1.out, e2.out, e3.out, e4.out, ← H0.out, HV.out]
          rfl
        · skip
          go_simp
          refine (C3.out _).mono ?_; rintro e v16 ⟨rfl, hbx⟩
          replace XB := hid (XB.out.later hbx)
          replace HB := hid (btr HB.out hbx)
          replace J1 := hid (J1.out.later hbx)
          clear hbx
          go_wp2_with fail
          refine hK.out _ _ (HSS.out _ XB.out) (fun hHeld => ?_)
          clear hK K
          try simp only [Act.put, List.setIfInBounds_toArray, List.set_cons_zero, List.set_cons_succ]
          clear hHeld
          refine wpAnyH_ready (rs := [4, 20]) (by kernel_rfl) (by simp) (rc (fun K hK => ?_) (rl (fun K hK => ?_)))
          · skip
            go_simp
            rw [J1.out.run]
            rw [H0.out]
            go_simp
            refine hK.out _ _ (HSS.out _ XB.out) (fun hHeld => ?_)
            clear hK K
            try simp only [Act.put, List.setIfInBounds_toArray, List.set_cons_zero, List.set_cons_succ]
            refine tk 8 ?_
            refine tk 12 ?_
            refine tk 16 ?_
            clear hHeld
            refine ry 20 (fun K hK => ?_)
            go_simp
            refine (C4.out _).mono ?_; rintro e v18 ⟨rfl, hbx⟩
            replace XB := hid (XB.out.later hbx)
            replace HB := hid (btr HB.out hbx)
            clear hbx
            go_wp2_with fail
            refine hK.out _ _ (HSS.out _ XB.out) (fun hHeld => ?_)
            clear hK K
            try simp only [Act.put, List.setIfInBounds_toArray, List.set_cons_zero, List.set_cons_succ]
            refine tk 21 ?_
            refine tk 24 ?_
            refine tk 25 ?_
            refine tk 26 ?_
            clear hHeld
            refine wpAnyH_done (by kernel_rfl) ?_ _
            refine NoPanic.normal ?_
            go_wp2
            go_ret2
            refine ⟨?_, HB.out⟩
            rw [e1.out, e2.out, e3.out, e4.out, ← H0.out, HV.out]
            rfl
          · skip
            go_simp
            refine (C4.out _).mono ?_; rintro e v19 ⟨rfl, hbx⟩
            replace XB := hid (XB.out.later hbx)
            replace HB := hid (btr HB.out hbx)
            replace J1 := hid (J1.out.later hbx)
            clear hbx
            go_wp2_with fail
            refine hK.out _ _ (HSS.out _ XB.out) (fun hHeld => ?_)
            clear hK K
            try simp only [Act.put, List.setIfInBounds_toArray, List.set_cons_zero, List.set_cons_succ]
            clear hHeld
            refine ry 4 (fun K hK => ?_)
            go_simp
            rw [J1.out.run]
            rw [H0.out]
            go_simp
            refine hK.out _ _ (HSS.out _ XB.out) (fun hHeld => ?_)
            clear hK K
            try simp only [Act.put, List.setIfInBounds_toArray, List.set_cons_zero, List.set_cons_succ]
            refine tk 8 ?_
            refine tk 12 ?_
            refine tk 16 ?_
            refine tk 21 ?_
            refine tk 24 ?_
            refine tk 25 ?_
            refine tk 26 ?_
            clear hHeld
            refine wpAnyH_done (by kernel_rfl) ?_ _
            refine NoPanic.normal ?_
            go_wp2
            go_ret2
            refine ⟨?_, HB.out⟩
            rw [e1.out, e2.out, e3.out, e4.out, ← H0.out, HV.out]
            rfl
  · skip
    go_simp
    refine (C1.out _).mono ?_; rintro e v21 ⟨rfl, hbx⟩
    replace XB := hid (XB.out.later hbx)
    replace HB := hid (btr HB.out hbx)
    clear hbx
    go_wp2_with fail
    refine hK.out _ _ (HSS.out _ XB.out) (fun hHeld => ?_)
    clear hK K
    try simp only [Act.put, List.setIfInBounds_toArray, List.set_cons_zero, List.set_cons_succ]
    clear hHeld
    refine wpAnyH_ready (rs := [3, 11]) (by kernel_rfl) (by simp) (rc (fun K hK => ?_) (rl (fun K hK => ?_)))
    · skip
      go_simp
      have hbx := bpush (bre v21) (.cells #[.int .u8 (b.toNat : Int)] 5)
      have J1 : Hid (By (v21.alloc (.cells #[.int .u8 (b.toNat : Int)] 5)) v21.heap.size b) := hid (heap_alloc_new v21 _)
      replace XB := hid (XB.out.later hbx)
      replace HB := hid (btr HB.out hbx)
      obtain ⟨v22, hv22⟩ : ∃ x, v21.alloc (.cells #[.int .u8 (b.toNat : Int)] 5) = x := ⟨_, rfl⟩
      obtain ⟨k1, hk22⟩ : ∃ x, v21.heap.size = x := ⟨_, rfl⟩
      rw [hv22] at XB HB J1
      rw [hk22] at J1
      rw [hv22, hk22]
      clear hbx hv22 hk22
      refine hK.out _ _ (HSS.out _ XB.out) (fun hHeld => ?_)
      clear hK K
      try simp only [Act.put, List.setIfInBounds_toArray, List.set_cons_zero, List.set_cons_succ]
      clear hHeld
      refine wpAnyH_ready (rs := [4, 11]) (by kernel_rfl) (by simp) (rc (fun K hK => ?_) (rl (fun K hK => ?_)))
      · skip
        go_simp
        rw [J1.out.run]
        rw [H0.out]
        go_simp
        refine hK.out _ _ (HSS.out _ XB.out) (fun hHeld => ?_)
        clear hK K
        try simp only [Act.put, List.setIfInBounds_toArray, List.set_cons_zero, List.set_cons_succ]
        refine tk 8 ?_
        clear hHeld
        refine ry 11 (fun K hK => ?_)
        go_simp
        refine (C2.out _).mono ?_; rintro e v24 ⟨rfl, hbx⟩
        replace XB := hid (XB.out.later hbx)
        replace HB := hid (btr HB.out hbx)
        clear hbx
        go_wp2_with fail
        refine hK.out _ _ (HSS.out _ XB.out) (fun hHeld => ?_)
        clear hK K
        try simp only [Act.put, List.setIfInBounds_toArray, List.set_cons_zero, List.set_cons_succ]
        refine tk 12 ?_
        clear hHeld
        refine ry 15 (fun K hK => ?_)
        go_simp
        refine (C3.out _).mono ?_; rintro e v25 ⟨rfl, hbx⟩
        replace XB := hid (XB.out.later hbx)
        replace HB := hid (btr HB.out hbx)
        clear hbx
        go_wp2_with fail
        refine hK.out _ _ (HSS.out _ XB.out) (fun hHeld => ?_)
        clear hK K
        try simp only [Act.put, List.setIfInBounds_toArray, List.set_cons_zero, List.set_cons_succ]
        refine tk 16 ?_
        clear hHeld
        refine ry 20 (fun K hK => ?_)
        go_simp
        refine (C4.out _).mono ?_; rintro e v26 ⟨rfl, hbx⟩
        replace XB := hid (XB.out.later hbx)
        replace HB := hid (btr HB.out hbx)
        clear hbx
        go_wp2_with fail
        refine hK.out _ _ (HSS.out _ XB.out) (fun hHeld => ?_)
        clear hK K
        try simp only [Act.put, List.setIfInBounds_toArray, List.set_cons_zero, List.set_cons_succ]
        refine tk 21 ?_
        refine tk 24 ?_
        refine tk 25 ?_
        refine tk 26 ?_
        clear hHeld
        refine wpAnyH_done (by kernel_rfl) ?_ _
        refine NoPanic.normal ?_
        go_wp2
        go_ret2
        refine ⟨?_, HB.out⟩
        rw [e1.out, e2.out, e3.out, e4.out, ← H0.out, HV.out]
        rfl
      · skip
        go_simp
        refine (C2.out _).mono ?_; rintro e v27 ⟨rfl, hbx⟩
        replace XB := hid (XB.out.later hbx)
        replace HB := hid (btr HB.out hbx)
        replace J1 := hid (J1.out.later hbx)
        clear hbx
        go_wp2_with fail
        refine hK.out _ _ (HSS.out _ XB.out) (fun hHeld => ?_)
        clear hK K
        try simp only [Act.put, List.setIfInBounds_toArray, List.set_cons_zero, List.set_cons_succ]
        clear hHeld
        refine wpAnyH_ready (rs := [4, 15]) (by kernel_rfl) (by simp) (rc (fun K hK => ?_) (rl (fun K hK => ?_)))
        · skip
          go_simp
          rw [J1.out.run]
          rw [H0.out]
          go_simp
          refine hK.out _ _ (HSS.out _ XB.out) (fun hHeld => ?_)
          clear hK K
          try simp only [Act.put, List.setIfInBounds_toArray, List.set_cons_zero, List.set_cons_succ]
          refine tk 8 ?_
          refine tk 12 ?_
          clear hHeld
          refine ry 15 (fun K hK => ?_)
          go_simp
          refine (C3.out _).mono ?_; rintro e v29 ⟨rfl, hbx⟩
          replace XB := hid (XB.out.later hbx)
          replace HB := hid (btr HB.out hbx)
          clear hbx
          go_wp2_with fail
          refine hK.out _ _ (HSS.out _ XB.out) (fun hHeld => ?_)
          clear hK K
          try simp only [Act.put, List.setIfInBounds_toArray, List.set_cons_zero, List.set_cons_succ]
          refine tk 16 ?_
          clear hHeld
          refine ry 20 (fun K hK => ?_)
          go_simp
          refine (C4.out _).mono ?_; rintro e v30 ⟨rfl, hbx⟩
          replace XB := hid (XB.out.later hbx)
          replace HB := hid (btr HB.out hbx)
          clear hbx
          go_wp2_with fail
          refine hK.out _ _ (HSS.out _ XB.out) (fun hHeld => ?_)
          clear hK K
          try simp only [Act.put, List.setIfInBounds_toArray, List.set_cons_zero, List.set_cons_succ]
          refine tk 21 ?_
          refine tk 24 ?_
          refine tk 25 ?_
          refine tk 26 ?_
          clear hHeld
          refine wpAnyH_done (by kernel_rfl) ?_ _
          refine NoPanic.normal ?_
          go_wp2
          go_ret2
          refine ⟨?_, HB.out⟩
          rw [e1.out, e2.out, e3.out, e4.out, ← H0.out, HV.out]
          rfl
        · skip
          go_simp
          refine (C3.out _).mono ?_; rintro e v31 ⟨rfl, hbx⟩
          replace XB := hid (XB.out.later hbx)
          replace HB := hid (btr HB.out hbx)
          replace J1 := hid (J1.out.later hbx)
          clear hbx
          go_wp2_with fail
          refine hK.out _ _ (HSS.out _ XB.out) (fun hHeld => ?_)
          clear hK K
          try simp only [Act.put, List.setIfInBounds_toArray, List.set_cons_zero, List.set_cons_succ]
          clear hHeld
          refine wpAnyH_ready (rs := [4, 20]) (by kernel_rfl) (by simp) (rc (fun K hK => ?_) (rl (fun K hK => ?_)))
          · skip
            go_simp
            rw [J1.out.run]
            rw [H0.out]
            go_simp
            refine hK.out _ _ (HSS.out _ XB.out) (fun hHeld => ?_)
            clear hK K
            try simp only [Act.put, List.setIfInBounds_toArray, List.set_cons_zero, List.set_cons_succ]
            refine tk 8 ?_
            refine tk 12 ?_
            refine tk 16 ?_
            clear hHeld
            refine ry 20 (fun K hK => ?_)
            go_simp
            refine (C4.out _).mono ?_; rintro e v33 ⟨rfl, hbx⟩
            replace XB := hid (XB.out.later hbx)
            replace HB := hid (btr HB.out hbx)
            clear hbx
            go_wp2_with fail
            refine hK.out _ _ (HSS.out _ XB.out) (fun hHeld => ?_)
            clear hK K
            try simp only [Act.put, List.setIfInBounds_toArray, List.set_cons_zero, List.set_cons_succ]
            refine tk 21 ?_
            refine tk 24 ?_
            refine tk 25 ?_
            refine tk 26 ?_
            clear hHeld
            refine wpAnyH_done (by kernel_rfl) ?_ _
            refine NoPanic.normal ?_
            go_wp2
            go_ret2
            refine ⟨?_, HB.out⟩
            rw [e1.out, e2.out, e3.out, e4.out, ← H0.out, HV.out]
            rfl
          · skip
            go_simp
            refine (C4.out _).mono ?_; rintro e v34 ⟨rfl, hbx⟩
            replace XB := hid (XB.out.later hbx)
            replace HB := hid (btr HB.out hbx)
            replace J1 := hid (J1.out.later hbx)
            clear hbx
            go_wp2_with fail
            refine hK.out _ _ (HSS.out _ XB.out) (fun hHeld => ?_)
            clear hK K
            try simp only [Act.put, List.setIfInBounds_toArray, List.set_cons_zero, List.set_cons_succ]
            clear hHeld
            refine ry 4 (fun K hK => ?_)
            go_simp
            rw [J1.out.run]
            rw [H0.out]
            go_simp
            refine hK.out _ _ (HSS.out _ XB.out) (fun hHeld => ?_)
            clear hK K
            try simp only [Act.put, List.setIfInBounds_toArray, List.set_cons_zero, List.set_cons_succ]
            refine tk 8 ?_
            refine tk 12 ?_
            refine tk 16 ?_
            refine tk 21 ?_
            refine tk 24 ?_
            refine tk 25 ?_
            refine tk 26 ?_
            clear hHeld
            refine wpAnyH_done (by kernel_rfl) ?_ _
            refine NoPanic.normal ?_
            go_wp2
            go_ret2
            refine ⟨?_, HB.out⟩
            rw [e1.out, e2.out, e3.out, e4.out, ← H0.out, HV.out]
            rfl
    · skip
      go_simp
      refine (C2.out _).mono ?_; rintro e v36 ⟨rfl, hbx⟩
      replace XB := hid (XB.out.later hbx)
      replace HB := hid (btr HB.out hbx)
      clear hbx
      go_wp2_with fail
      refine hK.out _ _ (HSS.out _ XB.out) (fun hHeld => ?_)
      clear hK K
      try simp only [Act.put, List.setIfInBounds_toArray, List.set_cons_zero, List.set_cons_succ]
      clear hHeld
      refine wpAnyH_ready (rs := [3, 15]) (by kernel_rfl) (by simp) (rc (fun K hK => ?_) (rl (fun K hK => ?_)))
      · skip
        go_simp
        have hbx := bpush (bre v36) (.cells #[.int .u8 (b.toNat : Int)] 5)
        have J1 : Hid (By (v36.alloc (.cells #[.int .u8 (b.toNat : Int)] 5)) v36.heap.size b) := hid (heap_alloc_new v36 _)
        replace XB := hid (XB.out.later hbx)
        replace HB := hid (btr HB.out hbx)
        obtain ⟨v37, hv37⟩ : ∃ x, v36.alloc (.cells #[.int .u8 (b.toNat : Int)] 5) = x := ⟨_, rfl⟩
        obtain ⟨k1, hk37⟩ : ∃ x, v36.heap.size = x := ⟨_, rfl⟩
        rw [hv37] at XB HB J1
        rw [hk37] at J1
        rw [hv37, hk37]
        clear hbx hv37 hk37
        refine hK.out _ _ (HSS.out _ XB.out) (fun hHeld => ?_)
        clear hK K
        try simp only [Act.put, List.setIfInBounds_toArray, List.set_cons_zero, List.set_cons_succ]
        clear hHeld
        refine wpAnyH_ready (rs := [4, 15]) (by kernel_rfl) (by simp) (rc (fun K hK => ?_) (rl (fun K hK => ?_)))
        · skip
          go_simp
          rw [J1.out.run]
          rw [H0.out]
          go_simp
          refine hK.out _ _ (HSS.out _ XB.out) (fun hHeld => ?_)
          clear hK K
          try simp only [Act.put, List.setIfInBounds_toArray, List.set_cons_zero, List.set_cons_succ]
          refine tk 8 ?_
          refine tk 12 ?_
          clear hHeld
          refine ry 15 (fun K hK => ?_)
          go_simp
          refine (C3.out _).mono ?_; rintro e v39 ⟨rfl, hbx⟩
          replace XB := hid (XB.out.later hbx)
          replace HB := hid (btr HB.out hbx)
          clear hbx
          go_wp2_with fail
          refine hK.out _ _ (HSS.out _ XB.out) (fun hHeld => ?_)
          clear hK K
          try simp only [Act.put, List.setIfInBounds_toArray, List.set_cons_zero, List.set_cons_succ]
          refine tk 16 ?_
          clear hHeld
          refine ry 20 (fun K hK => ?_)
          go_simp
          refine (C4.out _).mono ?_; rintro e v40 ⟨rfl, hbx⟩
          replace XB := hid (XB.out.later hbx)
          replace HB := hid (btr HB.out hbx)
          clear hbx
          go_wp2_with fail
          refine hK.out _ _ (HSS.out _ XB.out) (fun hHeld => ?_)
          clear hK K
          try simp only [Act.put, List.setIfInBounds_toArray, List.set_cons_zero, List.set_cons_succ]
          refine tk 21 ?_
          refine tk 24 ?_
          refine tk 25 ?_
          refine tk 26 ?_
          clear hHeld
          refine wpAnyH_done (by kernel_rfl) ?_ _
          refine NoPanic.normal ?_
          go_wp2
          go_ret2
          refine ⟨?_, HB.out⟩
          rw [e1.out, e2.out, e3.out, e4.out, ← H0.out, HV.out]
          rfl
        · skip
          go_simp
          refine (C3.out _).mono ?_; rintro e v41 ⟨rfl, hbx⟩
          replace XB := hid (XB.out.later hbx)
          replace HB := hid (btr HB.out hbx)
          replace J1 := hid (J1.out.later hbx)
          clear hbx
          go_wp2_with fail
          refine hK.out _ _ (HSS.out _ XB.out) (fun hHeld => ?_)
          clear hK K
          try simp only [Act.put, List.setIfInBounds_toArray, List.set_cons_zero, List.set_cons_succ]
          clear hHeld
          refine wpAnyH_ready (rs := [4, 20]) (by kernel_rfl) (by simp) (rc (fun K hK => ?_) (rl (fun K hK => ?_)))
          · skip
            go_simp
            rw [J1.out.run]
            rw [H0.out]
            go_simp
            refine hK.out _ _ (HSS.out _ XB.out) (fun hHeld => ?_)
            clear hK K
            try simp only [Act.put, List.setIfInBounds_toArray, List.set_cons_zero, List.set_cons_succ]
            refine tk 8 ?_
            refine tk 12 ?_
            refine tk 16 ?_
            clear hHeld
            refine ry 20 (fun K hK => ?_)
            go_simp
            refine (C4.out _).mono ?_; rintro e v43 ⟨rfl, hbx⟩
            replace XB := hid (XB.out.later hbx)
            replace HB := hid (btr HB.out hbx)
            clear hbx
            go_wp2_with fail
            refine hK.out _ _ (HSS.out _ XB.out) (fun hHeld => ?_)
            clear hK K
            try simp only [Act.put, List.setIfInBounds_toArray, List.set_cons_zero, List.set_cons_succ]
            refine tk 21 ?_
            refine tk 24 ?_
            refine tk 25 ?_
            refine tk 26 ?_
            clear hHeld
            refine wpAnyH_done (by kernel_rfl) ?_ _
            refine NoPanic.normal ?_
            go_wp2
            go_ret2
            refine ⟨?_, HB.out⟩
            rw [e1.out, e2.out, e3.out, e4.out, ← H0.out, HV.out]
            rfl
          · skip
            go_simp
            refine (C4.out _).mono ?_; rintro e v44 ⟨rfl, hbx⟩
            replace XB := hid (XB.out.later hbx)
            replace HB := hid (btr HB.out hbx)
            replace J1 := hid (J1.out.later hbx)
            clear hbx
            go_wp2_with fail
            refine hK.out _ _ (HSS.out _ XB.out) (fun hHeld => ?_)
            clear hK K
            try simp only [Act.put, List.setIfInBounds_toArray, List.set_cons_zero, List.set_cons_succ]
            clear hHeld
            refine ry 4 (fun K hK => ?_)
            go_simp
            rw [J1.out.run]
            rw [H0.out]
            go_simp
            refine hK.out _ _ (HSS.out _ XB.out) (fun hHeld => ?_)
            clear hK K
            try simp only [Act.put, List.setIfInBounds_toArray, List.set_cons_zero, List.set_cons_succ]
            refine tk 8 ?_
            refine tk 12 ?_
            refine tk 16 ?_
            refine tk 21 ?_
            refine tk 24 ?_
            refine tk 25 ?_
            refine tk 26 ?_
            clear hHeld
            refine wpAnyH_done (by kernel_rfl) ?_ _
            refine NoPanic.normal ?_
            go_wp2
            go_ret2
            refine ⟨?_, HB.out⟩
            rw [e1.out, e2.out, e3.out, e4.out, ← H0.out, HV.out]
            rfl
      · skip
        go_simp
        refine (C3.out _).mono ?_; rintro e v46 ⟨rfl, hbx⟩
        replace XB := hid (XB.out.later hbx)
        replace HB := hid (btr HB.out hbx)
        clear hbx
        go_wp2_with fail
        refine hK.out _ _ (HSS.out _ XB.out) (fun hHeld => ?_)
        clear hK K
        try simp only [Act.put, List.setIfInBounds_toArray, List.set_cons_zero, List.set_cons_succ]
        clear hHeld
        refine wpAnyH_ready (rs := [3, 20]) (by kernel_rfl) (by simp) (rc (fun K hK => ?_) (rl (fun K hK => ?_)))
        · skip
          go_simp
          have hbx := bpush (bre v46) (.cells #[.int .u8 (b.toNat : Int)] 5)
          have J1 : Hid (By (v46.alloc (.cells #[.int .u8 (b.toNat : Int)] 5)) v46.heap.size b) := hid (heap_alloc_new v46 _)
          replace XB := hid (XB.out.later hbx)
          replace HB := hid (btr HB.out hbx)
          obtain ⟨v47, hv47⟩ : ∃ x, v46.alloc (.cells #[.int .u8 (b.toNat : Int)] 5) = x := ⟨_, rfl⟩
          obtain ⟨k1, hk47⟩ : ∃ x, v46.heap.size = x := ⟨_, rfl⟩
          rw [hv47] at XB HB J1
          rw [hk47] at J1
          rw [hv47, hk47]
          clear hbx hv47 hk47
          refine hK.out _ _ (HSS.out _ XB.out) (fun hHeld => ?_)
          clear hK K
          try simp only [Act.put, List.setIfInBounds_toArray, List.set_cons_zero, List.set_cons_succ]
          clear hHeld
          refine wpAnyH_ready (rs := [4, 20]) (by kernel_rfl) (by simp) (rc (fun K hK => ?_) (rl (fun K hK => ?_)))
          · skip
            go_simp
            rw [J1.out.run]
            rw [H0.out]
            go_simp
            refine hK.out _ _ (HSS.out _ XB.out) (fun hHeld => ?_)
            clear hK K
            try simp only [Act.put, List.setIfInBounds_toArray, List.set_cons_zero, List.set_cons_succ]
            refine tk 8 ?_
            refine tk 12 ?_
            refine tk 16 ?_
            clear hHeld
            refine ry 20 (fun K hK => ?_)
            go_simp
            refine (C4.out _).mono ?_; rintro e v49 ⟨rfl, hbx⟩
            replace XB := hid (XB.out.later hbx)
            replace HB := hid (btr HB.out hbx)
            clear hbx
            go_wp2_with fail
            refine hK.out _ _ (HSS.out _ XB.out) (fun hHeld => ?_)
            clear hK K
            try simp only [Act.put, List.setIfInBounds_toArray, List.set_cons_zero, List.set_cons_succ]
            refine tk 21 ?_
            refine tk 24 ?_
            refine tk 25 ?_
            refine tk 26 ?_
            clear hHeld
            refine wpAnyH_done (by kernel_rfl) ?_ _
            refine NoPanic.normal ?_
            go_wp2
            go_ret2
            refine ⟨?_, HB.out⟩
            rw [e1.out, e2.out, e3.out, e4.out, ← H0.out, HV.out]
            rfl
          · skip
            go_simp
            refine (C4.out _).mono ?_; rintro e v50 ⟨rfl, hbx⟩
            replace XB := hid (XB.out.later hbx)
            replace HB := hid (btr HB.out hbx)
            replace J1 := hid (J1.out.later hbx)
            clear hbx
            go_wp2_with fail
            refine hK.out _ _ (HSS.out _ XB.out) (fun hHeld => ?_)
            clear hK K
            try simp only [Act.put, List.setIfInBounds_toArray, List.set_cons_zero, List.set_cons_succ]
            clear hHeld
            refine ry 4 (fun K hK => ?_)
            go_simp
            rw [J1.out.run]
            rw [H0.out]
            go_simp
            refine hK.out _ _ (HSS.out _ XB.out) (fun hHeld => ?_)
            clear hK K
            try simp only [Act.put, List.setIfInBounds_toArray, List.set_cons_zero, List.set_cons_succ]
            refine tk 8 ?_
            refine tk 12 ?_
            refine tk 16 ?_
            refine tk 21 ?_
            refine tk 24 ?_
            refine tk 25 ?_
            refine tk 26 ?_
            clear hHeld
            refine wpAnyH_done (by kernel_rfl) ?_ _
            refine NoPanic.normal ?_
            go_wp2
            go_ret2
            refine ⟨?_, HB.out⟩
            rw [e1.out, e2.out, e3.out, e4.out, ← H0.out, HV.out]
            rfl
        · skip
          go_simp
          refine (C4.out _).mono ?_; rintro e v52 ⟨rfl, hbx⟩
          replace XB := hid (XB.out.later hbx)
          replace HB := hid (btr HB.out hbx)
          clear hbx
          go_wp2_with fail
          refine hK.out _ _ (HSS.out _ XB.out) (fun hHeld => ?_)
          clear hK K
          try simp only [Act.put, List.setIfInBounds_toArray, List.set_cons_zero, List.set_cons_succ]
          clear hHeld
          refine ry 3 (fun K hK => ?_)
          go_simp
          have hbx := bpush (bre v52) (.cells #[.int .u8 (b.toNat : Int)] 5)
          have J1 : Hid (By (v52.alloc (.cells #[.int .u8 (b.toNat : Int)] 5)) v52.heap.size b) := hid (heap_alloc_new v52 _)
          replace XB := hid (XB.out.later hbx)
          replace HB := hid (btr HB.out hbx)
          obtain ⟨v53, hv53⟩ : ∃ x, v52.alloc (.cells #[.int .u8 (b.toNat : Int)] 5) = x := ⟨_, rfl⟩
          obtain ⟨k1, hk53⟩ : ∃ x, v52.heap.size = x := ⟨_, rfl⟩
          rw [hv53] at XB HB J1
          rw [hk53] at J1
          rw [hv53, hk53]
          clear hbx hv53 hk53
          refine hK.out _ _ (HSS.out _ XB.out) (fun hHeld => ?_)
          clear hK K
          try simp only [Act.put, List.setIfInBounds_toArray, List.set_cons_zero, List.set_cons_succ]
          clear hHeld
          refine ry 4 (fun K hK => ?_)
          go_simp
          rw [J1.out.run]
          rw [H0.out]
          go_simp
          refine hK.out _ _ (HSS.out _ XB.out) (fun hHeld => ?_)
          clear hK K
          try simp only [Act.put, List.setIfInBounds_toArray, List.set_cons_zero, List.set_cons_succ]
          refine tk 8 ?_
          refine tk 12 ?_
          refine tk 16 ?_
          refine tk 21 ?_
          refine tk 24 ?_
          refine tk 25 ?_
          refine tk 26 ?_
          clear hHeld
          refine wpAnyH_done (by kernel_rfl) ?_ _
          refine NoPanic.normal ?_
          go_wp2
          go_ret2
          refine ⟨?_, HB.out⟩
          rw [e1.out, e2.out, e3.out, e4.out, ← H0.out, HV.out]
          rfl
end Go.Proofs.YtlhofbnnonljaaaGreatDoor
