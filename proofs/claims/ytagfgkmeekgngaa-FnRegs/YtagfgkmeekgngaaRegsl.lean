/- The walk of the law of registers. -/
import Derived.Test.YtagfgkmeekgngaaRjoin
namespace Go.Proofs.Ytagfgkmeekgngaa
open Go.RowKit

set_option maxHeartbeats 4000000 in
set_option maxRecDepth 100000 in
theorem lawRegs_any (ao : Option Addr) (n cap : Nat) (w : World) (hcode : Code w w.heap.size ao n) :
    Calls Try.prog 4 #[.slice ao n cap] w fun e w' => e = .returned (.bool true) ∧ Below w.heap.size w w' := by
  have HO : Hid (Code w w.heap.size ao n) := hcode
  clear hcode
  by_cases hbig : n ≤ 1048576
  · go_enter Try.func4, Try.ntmps4
    go_wp2_with fail
    refine (big_no ao n cap _ hbig).mono ?_; rintro e w' ⟨rfl, rfl⟩
    go_wp2_with fail
    refine (drawRegs_any ao n cap _ hbig HO.out).mono ?_; rintro e w1 ⟨v1, t1, b1, v2, t2, b2, v3, t3, b3, hr, rfl, hb1⟩
    have B0 : Hid (Below w.heap.size w w1) := hb1
    have cl := preg_is (put_later hr)
    have ce := preg_is (put_elder t1 b1)
    have ht : 0 ≤ t1 ∧ t1 < 12 := ⟨hr.2.1, hr.2.2.1⟩
    clear hb1 hr
    obtain ⟨v4, t4, b4, v5, t5, b5, v6, t6, b6, c12, c43, c23, c16, c21, c41, hp⟩ := join_letters v1 t1 b1 v2 t2 b2 v3 t3 b3
    have HP : Hid _ := hp
    clear hp
    obtain ⟨W2, hW2⟩ : ∃ W2, ((w1.alloc (.cells #[.int .i64 v1, .int .i64 t1, .int .i64 b1] 27)).alloc (.cells #[.int .i64 v2, .int .i64 t2, .int .i64 b2] 27)).alloc (.cells #[.int .i64 v3, .int .i64 t3, .int .i64 b3] 27) = W2 := ⟨_, rfl⟩
    have A1 : Hid (Rg W2 (w1.heap.size) 27 v1 t1 b1) := by subst hW2; exact (Rg.new w1 27 v1 t1 b1).later (bpush (bpush (bre _) _) _)
    have A2 : Hid (Rg W2 (w1.heap.size + 1) 27 v2 t2 b2) := by subst hW2; exact Rg.later (by simpa using Rg.new (w1.alloc (.cells #[.int .i64 v1, .int .i64 t1, .int .i64 b1] 27)) 27 v2 t2 b2) (bpush (bre _) _)
    have A3 : Hid (Rg W2 (w1.heap.size + 1 + 1) 27 v3 t3 b3) := by subst hW2; show Rg _ _ _ _ _ _; simpa using Rg.new ((w1.alloc (.cells #[.int .i64 v1, .int .i64 t1, .int .i64 b1] 27)).alloc (.cells #[.int .i64 v2, .int .i64 t2, .int .i64 b2] 27)) 27 v3 t3 b3
    have B2 : Hid (Below w1.heap.size w1 W2) := by subst hW2; exact bpush (bpush (bpush (bre _) _) _) _
    have d1 := A1.out.cells
    have d2 := A2.out.cells
    go_wp2_with fail
    clear hW2 d1 d2
    refine (c12.out _).mono ?_; rintro e w3 ⟨rfl, hb3⟩
    obtain ⟨W4, hW4⟩ : ∃ W4, w3.alloc (.cells #[.int .i64 v4, .int .i64 t4, .int .i64 b4] 27) = W4 := ⟨_, rfl⟩
    have A4 : Hid (Rg W4 w3.heap.size 27 v4 t4 b4) := by subst hW4; exact Rg.new w3 27 v4 t4 b4
    have B4 : Hid (Below W2.heap.size W2 W4) := by subst hW4; exact bpush hb3 _
    clear hb3
    have d3 := (A3.out.later B4.out).cells
    have d4 := A4.out.cells
    go_wp2_with fail
    clear hW4 d3 d4
    refine (c43.out _).mono ?_; rintro e w5 ⟨rfl, hb5⟩
    obtain ⟨W6, hW6⟩ : ∃ W6, w5.alloc (.cells #[.int .i64 v5, .int .i64 t5, .int .i64 b5] 27) = W6 := ⟨_, rfl⟩
    have A5 : Hid (Rg W6 w5.heap.size 27 v5 t5 b5) := by subst hW6; exact Rg.new w5 27 v5 t5 b5
    have B46 : Hid (Below W4.heap.size W4 W6) := by subst hW6; exact bpush hb5 _
    have B6 : Hid (Below W2.heap.size W2 W6) := btr B4.out B46.out
    clear hb5
    go_wp2_with fail
    clear hW6
    have HS6 : Hid (∀ W, Below W6.heap.size W6 W → (W.cell? ⟨w1.heap.size, 0, none⟩ = some (.int .i64 v1) ∧ W.cell? ⟨w1.heap.size, 1, none⟩ = some (.int .i64 t1) ∧ W.cell? ⟨w1.heap.size, 2, none⟩ = some (.int .i64 b1)) ∧ (W.cell? ⟨w1.heap.size + 1, 0, none⟩ = some (.int .i64 v2) ∧ W.cell? ⟨w1.heap.size + 1, 1, none⟩ = some (.int .i64 t2) ∧ W.cell? ⟨w1.heap.size + 1, 2, none⟩ = some (.int .i64 b2)) ∧ (W.cell? ⟨w1.heap.size + 1 + 1, 0, none⟩ = some (.int .i64 v3) ∧ W.cell? ⟨w1.heap.size + 1 + 1, 1, none⟩ = some (.int .i64 t3) ∧ W.cell? ⟨w1.heap.size + 1 + 1, 2, none⟩ = some (.int .i64 b3))) := fun W h => ⟨(A1.out.later (btr B6.out h)).cells, (A2.out.later (btr B6.out h)).cells, (A3.out.later (btr B6.out h)).cells⟩
    go_cut [8] from 14 (fun s8 wx => ∃ k : Nat, s8 = .pointer (some ⟨k, 0, none⟩) ∧ W6.heap.size ≤ k ∧ Rg wx k 27 v5 t5 b5 ∧ Below W6.heap.size W6 wx)
    case first =>
      go_region_held3 (fun W => (W.cell? ⟨w1.heap.size, 0, none⟩ = some (.int .i64 v1) ∧ W.cell? ⟨w1.heap.size, 1, none⟩ = some (.int .i64 t1) ∧ W.cell? ⟨w1.heap.size, 2, none⟩ = some (.int .i64 b1)) ∧ (W.cell? ⟨w1.heap.size + 1, 0, none⟩ = some (.int .i64 v2) ∧ W.cell? ⟨w1.heap.size + 1, 1, none⟩ = some (.int .i64 t2) ∧ W.cell? ⟨w1.heap.size + 1, 2, none⟩ = some (.int .i64 b2)) ∧ (W.cell? ⟨w1.heap.size + 1 + 1, 0, none⟩ = some (.int .i64 v3) ∧ W.cell? ⟨w1.heap.size + 1 + 1, 1, none⟩ = some (.int .i64 t3) ∧ W.cell? ⟨w1.heap.size + 1 + 1, 2, none⟩ = some (.int .i64 b3)))
        ((refine HS6.out _ ?_; repeat (first | exact bre _ | refine bdr ?_ | refine btr ?_ (by assumption) | refine bpush ?_ _ | refine bset' ?_ ?_ _ _)))
        ((first
          | (go_at_call 13; with_reducible refine (c23.out _).mono ?_; rintro e w7 ⟨rfl, hb7⟩; (first | (have R1 := (Rg.newd _ 27 0 0 0).later hb7; have d1 := R1.cells; have f1 := R1.loose) | (have R1 := (Rg.new _ 27 0 0 0).later hb7; have d1 := R1.cells; have f1 := R1.loose) | (have R1 := Rg.later (ty := 27) (v := 0) (t := 0) (b := 0) (by assumption) hb7; have d1 := R1.cells; have f1 := R1.loose) | skip))
          | (go_at_call 13; with_reducible refine (c16.out _).mono ?_; rintro e w7 ⟨rfl, hb7⟩; (first | (have R1 := (Rg.newd _ 27 0 0 0).later hb7; have d1 := R1.cells; have f1 := R1.loose) | (have R1 := (Rg.new _ 27 0 0 0).later hb7; have d1 := R1.cells; have f1 := R1.loose) | (have R1 := Rg.later (ty := 27) (v := 0) (t := 0) (b := 0) (by assumption) hb7; have d1 := R1.cells; have f1 := R1.loose) | skip))))
      all_goals (try go_wp2_with fail)
      all_goals go_meet
      all_goals
        refine ⟨_, rfl, ?_, ?_, ?_⟩
        · first | exact Nat.le_refl _ | (refine Below.size (B := W6.heap.size) ?_; repeat (first | exact bre _ | refine bdr ?_ | refine btr ?_ (by assumption) | refine bpush ?_ _ | refine bset' ?_ ?_ _ _))
        · first | with_reducible exact Rg.set' (by assumption) | with_reducible exact Rg.new _ 27 v5 t5 b5
        · repeat (first | exact bre _ | refine bdr ?_ | refine btr ?_ (by assumption) | refine bpush ?_ _ | refine bset' ?_ ?_ _ _)
    case rest =>
    obtain ⟨k7, rfl, hk7, R7, B7⟩ := hcut
    obtain ⟨V7, hV7⟩ : ∃ V, V = wc := ⟨_, rfl⟩
    subst hV7
    have A7 : Hid (Rg V7 k7 27 v5 t5 b5) := R7
    have B27 : Hid (Below W2.heap.size W2 V7) := btr B6.out B7
    have B67 : Hid (Below W6.heap.size W6 V7) := B7
    have HO7 : Hid (Code V7 V7.heap.size ao n) := HO.out.step (btr B0.out (btr B2.out B27.out))
    clear hk7 R7 B7 c12 c43 c23 c16 HS6 A3
    go_wp2_with fail
    refine (drawPut_any ao n cap _ hbig HO7.out).mono ?_; rintro e w8 ⟨v8, t8, b8, z, t9, b9, rfl, hb8⟩
    obtain ⟨v10, t10, b10, cp, cq⟩ := put_letters v8 t8 b8 z t9 b9
    obtain ⟨W9, hW9⟩ : ∃ W9, (w8.alloc (.cells #[.int .i64 v8, .int .i64 t8, .int .i64 b8] 27)).alloc (.cells #[.int .i64 t9, .int .i64 b9] 25) = W9 := ⟨_, rfl⟩
    have A8 : Hid (Rg W9 w8.heap.size 27 v8 t8 b8) := by subst hW9; exact (Rg.new w8 27 v8 t8 b8).later (bpush (bre _) _)
    have A9 : Hid (Sg W9 (w8.heap.size + 1) 25 t9 b9) := by subst hW9; show Sg _ _ _ _ _; simpa using Sg.new (w8.alloc (.cells #[.int .i64 v8, .int .i64 t8, .int .i64 b8] 27)) 25 t9 b9
    have B79 : Hid (Below V7.heap.size V7 W9) := by subst hW9; exact bpush (bpush hb8 _) _
    clear hb8
    have d8 := A8.out.cells
    have d9 := A9.out.cells
    go_wp2_with fail
    clear hW9 d8 d9
    refine (cp.out _).mono ?_; rintro e w10 ⟨rfl, hb10⟩
    obtain ⟨W11, hW11⟩ : ∃ W11, w10.alloc (.cells #[.int .i64 v10, .int .i64 t10, .int .i64 b10] 27) = W11 := ⟨_, rfl⟩
    have A10 : Hid (Rg W11 w10.heap.size 27 v10 t10 b10) := by subst hW11; exact Rg.new w10 27 v10 t10 b10
    have B911 : Hid (Below W9.heap.size W9 W11) := by subst hW11; exact bpush hb10 _
    clear hb10
    have B711 : Hid (Below V7.heap.size V7 W11) := btr B79.out B911.out
    have d1 := (A1.out.later (btr B27.out B711.out)).cells
    go_wp2_with fail
    clear hW11 d1
    refine (cl.out _).mono ?_; rintro e w12 ⟨rfl, hb12⟩
    obtain ⟨W13, hW13⟩ : ∃ W13, w12.alloc (.cells #[.int .i64 7, .int .i64 (t1 + 1), .int .i64 1] 27) = W13 := ⟨_, rfl⟩
    have A12 : Hid (Rg W13 w12.heap.size 27 7 (t1 + 1) 1) := by subst hW13; exact Rg.new w12 27 7 (t1 + 1) 1
    have B1113 : Hid (Below W11.heap.size W11 W13) := by subst hW13; exact bpush hb12 _
    clear hb12
    have B713 : Hid (Below V7.heap.size V7 W13) := btr B711.out B1113.out
    go_wp2_with fail
    clear hW13 cl cp
    have HS : Hid (∀ W, Below W13.heap.size W13 W → (W.cell? ⟨w1.heap.size, 0, none⟩ = some (.int .i64 v1) ∧ W.cell? ⟨w1.heap.size, 1, none⟩ = some (.int .i64 t1) ∧ W.cell? ⟨w1.heap.size, 2, none⟩ = some (.int .i64 b1)) ∧ (W.cell? ⟨w1.heap.size + 1, 0, none⟩ = some (.int .i64 v2) ∧ W.cell? ⟨w1.heap.size + 1, 1, none⟩ = some (.int .i64 t2) ∧ W.cell? ⟨w1.heap.size + 1, 2, none⟩ = some (.int .i64 b2)) ∧ (W.cell? ⟨w3.heap.size, 0, none⟩ = some (.int .i64 v4) ∧ W.cell? ⟨w3.heap.size, 1, none⟩ = some (.int .i64 t4) ∧ W.cell? ⟨w3.heap.size, 2, none⟩ = some (.int .i64 b4)) ∧ (W.cell? ⟨w5.heap.size, 0, none⟩ = some (.int .i64 v5) ∧ W.cell? ⟨w5.heap.size, 1, none⟩ = some (.int .i64 t5) ∧ W.cell? ⟨w5.heap.size, 2, none⟩ = some (.int .i64 b5)) ∧ (W.cell? ⟨k7, 0, none⟩ = some (.int .i64 v5) ∧ W.cell? ⟨k7, 1, none⟩ = some (.int .i64 t5) ∧ W.cell? ⟨k7, 2, none⟩ = some (.int .i64 b5)) ∧ (W.cell? ⟨w8.heap.size, 0, none⟩ = some (.int .i64 v8) ∧ W.cell? ⟨w8.heap.size, 1, none⟩ = some (.int .i64 t8) ∧ W.cell? ⟨w8.heap.size, 2, none⟩ = some (.int .i64 b8)) ∧ (W.cell? ⟨w10.heap.size, 0, none⟩ = some (.int .i64 v10) ∧ W.cell? ⟨w10.heap.size, 1, none⟩ = some (.int .i64 t10) ∧ W.cell? ⟨w10.heap.size, 2, none⟩ = some (.int .i64 b10)) ∧ (W.cell? ⟨w12.heap.size, 0, none⟩ = some (.int .i64 7) ∧ W.cell? ⟨w12.heap.size, 1, none⟩ = some (.int .i64 (t1 + 1)) ∧ W.cell? ⟨w12.heap.size, 2, none⟩ = some (.int .i64 1)) ∧ (W.cell? ⟨w8.heap.size + 1, 0, none⟩ = some (.int .i64 t9) ∧ W.cell? ⟨w8.heap.size + 1, 1, none⟩ = some (.int .i64 b9))) := fun W h =>
      ⟨(A1.out.later (btr B27.out (btr B713.out h))).cells, (A2.out.later (btr B27.out (btr B713.out h))).cells, (A4.out.later (btr B46.out (btr B67.out (btr B713.out h)))).cells, (A5.out.later (btr B67.out (btr B713.out h))).cells, (A7.out.later (btr B713.out h)).cells, (A8.out.later (btr B911.out (btr B1113.out h))).cells, (A10.out.later (btr B1113.out h)).cells, (A12.out.later h).cells, (A9.out.later (btr B911.out (btr B1113.out h))).cells⟩
    clear A1 A2 A4 A5 A7 A8 A9 A10 A12 B4 B46 B6 B67 B79 B911 B711 B1113 HO HO7 ht
    rcases HP.out with hE | ⟨e1, e2, e3, hN⟩
    · have HE : Hid (v4 = v1 ∧ t4 = t1 ∧ b4 = b1) := hE
      clear hE HP
      refine wp_region_noPanic ?_
      refine wp_region_held_drew (S := (fun W => (W.cell? ⟨w1.heap.size, 0, none⟩ = some (.int .i64 v1) ∧ W.cell? ⟨w1.heap.size, 1, none⟩ = some (.int .i64 t1) ∧ W.cell? ⟨w1.heap.size, 2, none⟩ = some (.int .i64 b1)) ∧ (W.cell? ⟨w1.heap.size + 1, 0, none⟩ = some (.int .i64 v2) ∧ W.cell? ⟨w1.heap.size + 1, 1, none⟩ = some (.int .i64 t2) ∧ W.cell? ⟨w1.heap.size + 1, 2, none⟩ = some (.int .i64 b2)) ∧ (W.cell? ⟨w3.heap.size, 0, none⟩ = some (.int .i64 v4) ∧ W.cell? ⟨w3.heap.size, 1, none⟩ = some (.int .i64 t4) ∧ W.cell? ⟨w3.heap.size, 2, none⟩ = some (.int .i64 b4)) ∧ (W.cell? ⟨w5.heap.size, 0, none⟩ = some (.int .i64 v5) ∧ W.cell? ⟨w5.heap.size, 1, none⟩ = some (.int .i64 t5) ∧ W.cell? ⟨w5.heap.size, 2, none⟩ = some (.int .i64 b5)) ∧ (W.cell? ⟨k7, 0, none⟩ = some (.int .i64 v5) ∧ W.cell? ⟨k7, 1, none⟩ = some (.int .i64 t5) ∧ W.cell? ⟨k7, 2, none⟩ = some (.int .i64 b5)) ∧ (W.cell? ⟨w8.heap.size, 0, none⟩ = some (.int .i64 v8) ∧ W.cell? ⟨w8.heap.size, 1, none⟩ = some (.int .i64 t8) ∧ W.cell? ⟨w8.heap.size, 2, none⟩ = some (.int .i64 b8)) ∧ (W.cell? ⟨w10.heap.size, 0, none⟩ = some (.int .i64 v10) ∧ W.cell? ⟨w10.heap.size, 1, none⟩ = some (.int .i64 t10) ∧ W.cell? ⟨w10.heap.size, 2, none⟩ = some (.int .i64 b10)) ∧ (W.cell? ⟨w12.heap.size, 0, none⟩ = some (.int .i64 7) ∧ W.cell? ⟨w12.heap.size, 1, none⟩ = some (.int .i64 (t1 + 1)) ∧ W.cell? ⟨w12.heap.size, 2, none⟩ = some (.int .i64 1)) ∧ (W.cell? ⟨w8.heap.size + 1, 0, none⟩ = some (.int .i64 t9) ∧ W.cell? ⟨w8.heap.size + 1, 1, none⟩ = some (.int .i64 b9)))) (by kernel_rfl) (HS.out _ (bdr (bre _))) (fun hHeld => ?_)
      refine wpAnyH_take (i := 0) (oi := { dst := some 50, op := Op.load 27 (Operand.tmp 6), type := 27, pos := "laws.go:240", after := #[], guard := none }) (v := ?vp0) rfl (by kernel_rfl) (by kernel_rfl) (by kernel_rfl) (fun _ _ _ h => h) (Or.inl ⟨by rfl, ?hyp0⟩) (by assumption) ?restp0
      case hyp0 => (intro w hSw; (try dsimp only at hSw); go_simp; try with_reducible rfl)
      try simp only [Act.put, List.setIfInBounds_toArray, List.set_cons_zero, List.set_cons_succ]
      refine wpAnyH_take (i := 1) (oi := { dst := some 51, op := Op.load 27 (Operand.tmp 4), type := 27, pos := "laws.go:240", after := #[], guard := none }) (v := ?vp1) rfl (by kernel_rfl) (by kernel_rfl) (by kernel_rfl) (fun _ _ _ h => h) (Or.inl ⟨by rfl, ?hyp1⟩) (by assumption) ?restp1
      case hyp1 => (intro w hSw; (try dsimp only at hSw); go_simp; try with_reducible rfl)
      try simp only [Act.put, List.setIfInBounds_toArray, List.set_cons_zero, List.set_cons_succ]
      refine wpAnyH_take (i := 2) (oi := { dst := some 52, op := Op.load 27 (Operand.tmp 3), type := 27, pos := "laws.go:240", after := #[], guard := none }) (v := ?vp2) rfl (by kernel_rfl) (by kernel_rfl) (by kernel_rfl) (fun _ _ _ h => h) (Or.inl ⟨by rfl, ?hyp2⟩) (by assumption) ?restp2
      case hyp2 => (intro w hSw; (try dsimp only at hSw); go_simp; try with_reducible rfl)
      try simp only [Act.put, List.setIfInBounds_toArray, List.set_cons_zero, List.set_cons_succ]
      clear hHeld
      refine wpAnyH_ready (rs := [3]) (by kernel_rfl) (by simp) ?_
      refine AllReadyH.cons (o := { dst := some 53, op := Op.call { callee := Callee.value (Operand.func 13), args := #[Operand.tmp 51, Operand.tmp 52], argTypes := #[27, 27] }, type := 27, pos := "laws.go:240", after := #[{ on := 1, ground := Ground.data }, { on := 2, ground := Ground.data }], guard := none }) rfl (fun K hK => ?_) AllReadyH.nil
      go_simp
      refine (c21.out _).mono ?_; rintro e w7 ⟨rfl, hb7⟩
      go_wp2_with fail
      refine hK.out _ _ (HS.out _ (by repeat (first | exact bre _ | refine bdr ?_ | refine btr ?_ (by assumption) | refine bpush ?_ _ | refine bset' ?_ ?_ _ _))) (fun hHeld => ?_)
      clear hK K
      try simp only [Act.put, List.setIfInBounds_toArray, List.set_cons_zero, List.set_cons_succ]
      refine wpAnyH_take (i := 4) (oi := { dst := some 54, op := Op.binOp BinOp.eql 27 (Operand.tmp 50) (Operand.tmp 53) 27, type := 4, pos := "laws.go:240", after := #[{ on := 0, ground := Ground.data }, { on := 3, ground := Ground.data }], guard := none }) (v := ?vp4) rfl (by kernel_rfl) (by kernel_rfl) (by kernel_rfl) (fun _ _ _ h => h) (Or.inl ⟨by rfl, ?hyp4⟩) (by assumption) ?restp4
      case hyp4 => (intro w hSw; (try dsimp only at hSw); go_simp; try with_reducible rfl)
      try simp only [Act.put, List.setIfInBounds_toArray, List.set_cons_zero, List.set_cons_succ]
      refine wpAnyH_take (i := 5) (oi := { dst := some 55, op := Op.move (Operand.tmp 54), type := 4, pos := "laws.go:240", after := #[{ on := 4, ground := Ground.data }, { on := 3, ground := Ground.chain }], guard := none }) (v := ?vp5) rfl (by kernel_rfl) (by kernel_rfl) (by kernel_rfl) (fun _ _ _ h => h) (Or.inl ⟨by rfl, ?hyp5⟩) (by assumption) ?restp5
      case hyp5 => (intro w hSw; (try dsimp only at hSw); go_simp; try with_reducible rfl)
      try simp only [Act.put, List.setIfInBounds_toArray, List.set_cons_zero, List.set_cons_succ]
      refine wpAnyH_take (i := 6) (oi := { dst := some 56, op := Op.load 27 (Operand.tmp 6), type := 27, pos := "laws.go:240", after := #[{ on := 5, ground := Ground.guard }], guard := some (5, true) }) (v := ?vp6) rfl (by kernel_rfl) (by kernel_rfl) (by kernel_rfl) (fun _ _ _ h => h) (Or.inl ⟨by rfl, ?hyp6⟩) (by assumption) ?restp6
      case hyp6 => (intro w hSw; (try dsimp only at hSw); go_simp; try with_reducible rfl)
      try simp only [Act.put, List.setIfInBounds_toArray, List.set_cons_zero, List.set_cons_succ]
      refine wpAnyH_take (i := 7) (oi := { dst := some 57, op := Op.load 27 (Operand.tmp 3), type := 27, pos := "laws.go:240", after := #[{ on := 5, ground := Ground.guard }], guard := some (5, true) }) (v := ?vp7) rfl (by kernel_rfl) (by kernel_rfl) (by kernel_rfl) (fun _ _ _ h => h) (Or.inl ⟨by rfl, ?hyp7⟩) (by assumption) ?restp7
      case hyp7 => (intro w hSw; (try dsimp only at hSw); go_simp; try with_reducible rfl)
      try simp only [Act.put, List.setIfInBounds_toArray, List.set_cons_zero, List.set_cons_succ]
      refine wpAnyH_take (i := 9) (oi := { dst := some 59, op := Op.load 27 (Operand.tmp 6), type := 27, pos := "laws.go:240", after := #[{ on := 5, ground := Ground.guard }], guard := some (5, true) }) (v := ?vp9) rfl (by kernel_rfl) (by kernel_rfl) (by kernel_rfl) (fun _ _ _ h => h) (Or.inl ⟨by rfl, ?hyp9⟩) (by assumption) ?restp9
      case hyp9 => (intro w hSw; (try dsimp only at hSw); go_simp; try with_reducible rfl)
      try simp only [Act.put, List.setIfInBounds_toArray, List.set_cons_zero, List.set_cons_succ]
      clear hHeld
      refine wpAnyH_ready (rs := [8]) (by kernel_rfl) (by simp) ?_
      refine AllReadyH.cons (o := { dst := some 58, op := Op.call { callee := Callee.value (Operand.func 13), args := #[Operand.tmp 56, Operand.tmp 57], argTypes := #[27, 27] }, type := 27, pos := "laws.go:240", after := #[{ on := 6, ground := Ground.data }, { on := 7, ground := Ground.data }, { on := 5, ground := Ground.chain }, { on := 5, ground := Ground.guard }], guard := some (5, true) }) rfl (fun K hK => ?_) AllReadyH.nil
      go_simp
      refine (c41.out _).mono ?_; rintro e w7 ⟨rfl, hb7⟩
      go_wp2_with fail
      refine hK.out _ _ (HS.out _ (by repeat (first | exact bre _ | refine bdr ?_ | refine btr ?_ (by assumption) | refine bpush ?_ _ | refine bset' ?_ ?_ _ _))) (fun hHeld => ?_)
      clear hK K
      try simp only [Act.put, List.setIfInBounds_toArray, List.set_cons_zero, List.set_cons_succ]
      refine wpAnyH_take (i := 10) (oi := { dst := some 60, op := Op.binOp BinOp.eql 27 (Operand.tmp 58) (Operand.tmp 59) 27, type := 4, pos := "laws.go:240", after := #[{ on := 8, ground := Ground.data }, { on := 9, ground := Ground.data }, { on := 5, ground := Ground.guard }], guard := some (5, true) }) (v := ?vp10) rfl (by kernel_rfl) (by kernel_rfl) (by kernel_rfl) (fun _ _ _ h => h) (Or.inl ⟨by rfl, ?hyp10⟩) (by assumption) ?restp10
      case hyp10 => (intro w hSw; (try dsimp only at hSw); go_simp; try with_reducible rfl)
      try simp only [Act.put, List.setIfInBounds_toArray, List.set_cons_zero, List.set_cons_succ]
      refine wpAnyH_take (i := 11) (oi := { dst := some 61, op := Op.pick (Operand.tmp 55) (Operand.tmp 60) (Operand.const (Value.bool false)), type := 4, pos := "laws.go:240", after := #[{ on := 5, ground := Ground.data }, { on := 10, ground := Ground.data }], guard := none }) (v := ?vp11) rfl (by kernel_rfl) (by kernel_rfl) (by kernel_rfl) (fun _ _ _ h => h) (Or.inl ⟨by rfl, ?hyp11⟩) (by assumption) ?restp11
      case hyp11 => (intro w hSw; (try dsimp only at hSw); go_simp; try with_reducible rfl)
      try simp only [Act.put, List.setIfInBounds_toArray, List.set_cons_zero, List.set_cons_succ]
      refine wpAnyH_take (i := 12) (oi := { dst := some 62, op := Op.move (Operand.tmp 61), type := 4, pos := "laws.go:240", after := #[{ on := 11, ground := Ground.data }, { on := 8, ground := Ground.chain }], guard := none }) (v := ?vp12) rfl (by kernel_rfl) (by kernel_rfl) (by kernel_rfl) (fun _ _ _ h => h) (Or.inl ⟨by rfl, ?hyp12⟩) (by assumption) ?restp12
      case hyp12 => (intro w hSw; (try dsimp only at hSw); go_simp; try with_reducible rfl)
      try simp only [Act.put, List.setIfInBounds_toArray, List.set_cons_zero, List.set_cons_succ]
      refine wpAnyH_take (i := 13) (oi := { dst := some 63, op := Op.load 27 (Operand.tmp 7), type := 27, pos := "laws.go:240", after := #[{ on := 12, ground := Ground.guard }], guard := some (12, true) }) (v := ?vp13) rfl (by kernel_rfl) (by kernel_rfl) (by kernel_rfl) (fun _ _ _ h => h) (Or.inl ⟨by rfl, ?hyp13⟩) (by assumption) ?restp13
      case hyp13 => (intro w hSw; (try dsimp only at hSw); go_simp; try with_reducible rfl)
      try simp only [Act.put, List.setIfInBounds_toArray, List.set_cons_zero, List.set_cons_succ]
      refine wpAnyH_take (i := 14) (oi := { dst := some 64, op := Op.load 27 (Operand.tmp 8), type := 27, pos := "laws.go:240", after := #[{ on := 12, ground := Ground.guard }], guard := some (12, true) }) (v := ?vp14) rfl (by kernel_rfl) (by kernel_rfl) (by kernel_rfl) (fun _ _ _ h => h) (Or.inl ⟨by rfl, ?hyp14⟩) (by assumption) ?restp14
      case hyp14 => (intro w hSw; (try dsimp only at hSw); go_simp; try with_reducible rfl)
      try simp only [Act.put, List.setIfInBounds_toArray, List.set_cons_zero, List.set_cons_succ]
      refine wpAnyH_take (i := 15) (oi := { dst := some 65, op := Op.binOp BinOp.eql 27 (Operand.tmp 63) (Operand.tmp 64) 27, type := 4, pos := "laws.go:240", after := #[{ on := 13, ground := Ground.data }, { on := 14, ground := Ground.data }, { on := 12, ground := Ground.guard }], guard := some (12, true) }) (v := ?vp15) rfl (by kernel_rfl) (by kernel_rfl) (by kernel_rfl) (fun _ _ _ h => h) (Or.inl ⟨by rfl, ?hyp15⟩) (by assumption) ?restp15
      case hyp15 => (intro w hSw; (try dsimp only at hSw); go_simp; try with_reducible rfl)
      try simp only [Act.put, List.setIfInBounds_toArray, List.set_cons_zero, List.set_cons_succ]
      refine wpAnyH_take (i := 16) (oi := { dst := some 66, op := Op.pick (Operand.tmp 62) (Operand.tmp 65) (Operand.const (Value.bool false)), type := 4, pos := "laws.go:240", after := #[{ on := 12, ground := Ground.data }, { on := 15, ground := Ground.data }], guard := none }) (v := ?vp16) rfl (by kernel_rfl) (by kernel_rfl) (by kernel_rfl) (fun _ _ _ h => h) (Or.inl ⟨by rfl, ?hyp16⟩) (by assumption) ?restp16
      case hyp16 => (intro w hSw; (try dsimp only at hSw); go_simp; try with_reducible rfl)
      try simp only [Act.put, List.setIfInBounds_toArray, List.set_cons_zero, List.set_cons_succ]
      refine wpAnyH_take (i := 17) (oi := { dst := some 67, op := Op.move (Operand.tmp 66), type := 4, pos := "laws.go:240", after := #[{ on := 16, ground := Ground.data }, { on := 12, ground := Ground.chain }], guard := none }) (v := ?vp17) rfl (by kernel_rfl) (by kernel_rfl) (by kernel_rfl) (fun _ _ _ h => h) (Or.inl ⟨by rfl, ?hyp17⟩) (by assumption) ?restp17
      case hyp17 => (intro w hSw; (try dsimp only at hSw); go_simp; try with_reducible rfl)
      try simp only [Act.put, List.setIfInBounds_toArray, List.set_cons_zero, List.set_cons_succ]
      refine wpAnyH_take (i := 18) (oi := { dst := some 68, op := Op.load 27 (Operand.tmp 6), type := 27, pos := "laws.go:240", after := #[{ on := 17, ground := Ground.guard }], guard := some (17, true) }) (v := ?vp18) rfl (by kernel_rfl) (by kernel_rfl) (by kernel_rfl) (fun _ _ _ h => h) (Or.inl ⟨by rfl, ?hyp18⟩) (by assumption) ?restp18
      case hyp18 => (intro w hSw; (try dsimp only at hSw); go_simp; try with_reducible rfl)
      try simp only [Act.put, List.setIfInBounds_toArray, List.set_cons_zero, List.set_cons_succ]
      refine wpAnyH_take (i := 19) (oi := { dst := some 69, op := Op.load 27 (Operand.tmp 3), type := 27, pos := "laws.go:240", after := #[{ on := 17, ground := Ground.guard }], guard := some (17, true) }) (v := ?vp19) rfl (by kernel_rfl) (by kernel_rfl) (by kernel_rfl) (fun _ _ _ h => h) (Or.inl ⟨by rfl, ?hyp19⟩) (by assumption) ?restp19
      case hyp19 => (intro w hSw; (try dsimp only at hSw); go_simp; try with_reducible rfl)
      try simp only [Act.put, List.setIfInBounds_toArray, List.set_cons_zero, List.set_cons_succ]
      refine wpAnyH_take (i := 20) (oi := { dst := some 70, op := Op.binOp BinOp.eql 27 (Operand.tmp 68) (Operand.tmp 69) 27, type := 4, pos := "laws.go:240", after := #[{ on := 18, ground := Ground.data }, { on := 19, ground := Ground.data }, { on := 17, ground := Ground.guard }], guard := some (17, true) }) (v := .bool true) rfl (by kernel_rfl) (by kernel_rfl) (by kernel_rfl) (fun _ _ _ h => h) (Or.inl ⟨by rfl, (by intro w hSw; go_simp; have h0 := HE.out;  first | omega | (obtain ⟨h1, h2, h3⟩ := h0; simp [h1, h2, h3]; done) | (obtain ⟨h1, h2, h3⟩ := h0; subst h1 h2 h3; simp; done) | (obtain ⟨rfl, rfl, rfl⟩ := h0; rfl))⟩) (by assumption) ?_
      try simp only [Act.put, List.setIfInBounds_toArray, List.set_cons_zero, List.set_cons_succ]
      refine wpAnyH_take (i := 21) (oi := { dst := some 71, op := Op.move (Operand.tmp 70), type := 4, pos := "laws.go:240", after := #[{ on := 20, ground := Ground.data }, { on := 17, ground := Ground.chain }, { on := 17, ground := Ground.guard }], guard := some (17, true) }) (v := ?vp21) rfl (by kernel_rfl) (by kernel_rfl) (by kernel_rfl) (fun _ _ _ h => h) (Or.inl ⟨by rfl, ?hyp21⟩) (by assumption) ?restp21
      case hyp21 => (intro w hSw; (try dsimp only at hSw); go_simp; try with_reducible rfl)
      try simp only [Act.put, List.setIfInBounds_toArray, List.set_cons_zero, List.set_cons_succ]
      refine wpAnyH_take (i := 22) (oi := { dst := some 72, op := Op.load 27 (Operand.tmp 6), type := 27, pos := "laws.go:240", after := #[{ on := 21, ground := Ground.guard }], guard := some (21, false) }) (v := undef) rfl (by kernel_rfl) (by kernel_rfl) (by kernel_rfl) (fun _ _ _ h => h) (Or.inr ⟨by rfl, rfl⟩) (by assumption) ?_
      try simp only [Act.put, List.setIfInBounds_toArray, List.set_cons_zero, List.set_cons_succ]
      refine wpAnyH_take (i := 23) (oi := { dst := some 73, op := Op.load 27 (Operand.tmp 4), type := 27, pos := "laws.go:240", after := #[{ on := 21, ground := Ground.guard }], guard := some (21, false) }) (v := undef) rfl (by kernel_rfl) (by kernel_rfl) (by kernel_rfl) (fun _ _ _ h => h) (Or.inr ⟨by rfl, rfl⟩) (by assumption) ?_
      try simp only [Act.put, List.setIfInBounds_toArray, List.set_cons_zero, List.set_cons_succ]
      refine wpAnyH_take (i := 24) (oi := { dst := some 74, op := Op.binOp BinOp.eql 27 (Operand.tmp 72) (Operand.tmp 73) 27, type := 4, pos := "laws.go:240", after := #[{ on := 22, ground := Ground.data }, { on := 23, ground := Ground.data }, { on := 21, ground := Ground.guard }], guard := some (21, false) }) (v := undef) rfl (by kernel_rfl) (by kernel_rfl) (by kernel_rfl) (fun _ _ _ h => h) (Or.inr ⟨by rfl, rfl⟩) (by assumption) ?_
      try simp only [Act.put, List.setIfInBounds_toArray, List.set_cons_zero, List.set_cons_succ]
      refine wpAnyH_take (i := 25) (oi := { dst := some 75, op := Op.pick (Operand.tmp 71) (Operand.const (Value.bool true)) (Operand.tmp 74), type := 4, pos := "laws.go:240", after := #[{ on := 21, ground := Ground.data }, { on := 24, ground := Ground.data }, { on := 17, ground := Ground.guard }], guard := some (17, true) }) (v := ?vp25) rfl (by kernel_rfl) (by kernel_rfl) (by kernel_rfl) (fun _ _ _ h => h) (Or.inl ⟨by rfl, ?hyp25⟩) (by assumption) ?restp25
      case hyp25 => (intro w hSw; (try dsimp only at hSw); go_simp; try with_reducible rfl)
      try simp only [Act.put, List.setIfInBounds_toArray, List.set_cons_zero, List.set_cons_succ]
      refine wpAnyH_take (i := 26) (oi := { dst := some 76, op := Op.pick (Operand.tmp 67) (Operand.tmp 75) (Operand.const (Value.bool false)), type := 4, pos := "laws.go:240", after := #[{ on := 17, ground := Ground.data }, { on := 25, ground := Ground.data }], guard := none }) (v := ?vp26) rfl (by kernel_rfl) (by kernel_rfl) (by kernel_rfl) (fun _ _ _ h => h) (Or.inl ⟨by rfl, ?hyp26⟩) (by assumption) ?restp26
      case hyp26 => (intro w hSw; (try dsimp only at hSw); go_simp; try with_reducible rfl)
      try simp only [Act.put, List.setIfInBounds_toArray, List.set_cons_zero, List.set_cons_succ]
      refine wpAnyH_take (i := 27) (oi := { dst := some 77, op := Op.move (Operand.tmp 76), type := 4, pos := "laws.go:240", after := #[{ on := 26, ground := Ground.data }, { on := 21, ground := Ground.chain }], guard := none }) (v := ?vp27) rfl (by kernel_rfl) (by kernel_rfl) (by kernel_rfl) (fun _ _ _ h => h) (Or.inl ⟨by rfl, ?hyp27⟩) (by assumption) ?restp27
      case hyp27 => (intro w hSw; (try dsimp only at hSw); go_simp; try with_reducible rfl)
      try simp only [Act.put, List.setIfInBounds_toArray, List.set_cons_zero, List.set_cons_succ]
      refine wpAnyH_take (i := 28) (oi := { dst := some 78, op := Op.load 27 (Operand.tmp 12), type := 27, pos := "laws.go:240", after := #[{ on := 27, ground := Ground.guard }], guard := some (27, true) }) (v := ?vp28) rfl (by kernel_rfl) (by kernel_rfl) (by kernel_rfl) (fun _ _ _ h => h) (Or.inl ⟨by rfl, ?hyp28⟩) (by assumption) ?restp28
      case hyp28 => (intro w hSw; (try dsimp only at hSw); go_simp; try with_reducible rfl)
      try simp only [Act.put, List.setIfInBounds_toArray, List.set_cons_zero, List.set_cons_succ]
      refine wpAnyH_take (i := 29) (oi := { dst := some 79, op := Op.load 27 (Operand.tmp 9), type := 27, pos := "laws.go:240", after := #[{ on := 27, ground := Ground.guard }], guard := some (27, true) }) (v := ?vp29) rfl (by kernel_rfl) (by kernel_rfl) (by kernel_rfl) (fun _ _ _ h => h) (Or.inl ⟨by rfl, ?hyp29⟩) (by assumption) ?restp29
      case hyp29 => (intro w hSw; (try dsimp only at hSw); go_simp; try with_reducible rfl)
      try simp only [Act.put, List.setIfInBounds_toArray, List.set_cons_zero, List.set_cons_succ]
      refine wpAnyH_take (i := 30) (oi := { dst := some 80, op := Op.move (Operand.tmp 10), type := 3, pos := "laws.go:240", after := #[{ on := 27, ground := Ground.guard }], guard := some (27, true) }) (v := ?vp30) rfl (by kernel_rfl) (by kernel_rfl) (by kernel_rfl) (fun _ _ _ h => h) (Or.inl ⟨by rfl, ?hyp30⟩) (by assumption) ?restp30
      case hyp30 => (intro w hSw; (try dsimp only at hSw); go_simp; try with_reducible rfl)
      try simp only [Act.put, List.setIfInBounds_toArray, List.set_cons_zero, List.set_cons_succ]
      refine wpAnyH_take (i := 31) (oi := { dst := some 81, op := Op.load 25 (Operand.tmp 11), type := 25, pos := "laws.go:240", after := #[{ on := 27, ground := Ground.guard }], guard := some (27, true) }) (v := ?vp31) rfl (by kernel_rfl) (by kernel_rfl) (by kernel_rfl) (fun _ _ _ h => h) (Or.inl ⟨by rfl, ?hyp31⟩) (by assumption) ?restp31
      case hyp31 => (intro w hSw; (try dsimp only at hSw); go_simp; try with_reducible rfl)
      try simp only [Act.put, List.setIfInBounds_toArray, List.set_cons_zero, List.set_cons_succ]
      clear hHeld
      refine wpAnyH_ready (rs := [32]) (by kernel_rfl) (by simp) ?_
      refine AllReadyH.cons (o := { dst := some 82, op := Op.call { callee := Callee.value (Operand.func 16), args := #[Operand.tmp 79, Operand.tmp 80, Operand.tmp 81], argTypes := #[27, 3, 25] }, type := 27, pos := "laws.go:240", after := #[{ on := 29, ground := Ground.data }, { on := 30, ground := Ground.data }, { on := 31, ground := Ground.data }, { on := 27, ground := Ground.chain }, { on := 27, ground := Ground.guard }], guard := some (27, true) }) rfl (fun K hK => ?_) AllReadyH.nil
      go_simp
      refine (cq.out _).mono ?_; rintro e w7 ⟨rfl, hb7⟩
      go_wp2_with fail
      refine hK.out _ _ (HS.out _ (by repeat (first | exact bre _ | refine bdr ?_ | refine btr ?_ (by assumption) | refine bpush ?_ _ | refine bset' ?_ ?_ _ _))) (fun hHeld => ?_)
      clear hK K
      try simp only [Act.put, List.setIfInBounds_toArray, List.set_cons_zero, List.set_cons_succ]
      refine wpAnyH_take (i := 33) (oi := { dst := some 83, op := Op.binOp BinOp.eql 27 (Operand.tmp 78) (Operand.tmp 82) 27, type := 4, pos := "laws.go:240", after := #[{ on := 28, ground := Ground.data }, { on := 32, ground := Ground.data }, { on := 27, ground := Ground.guard }], guard := some (27, true) }) (v := ?vp33) rfl (by kernel_rfl) (by kernel_rfl) (by kernel_rfl) (fun _ _ _ h => h) (Or.inl ⟨by rfl, ?hyp33⟩) (by assumption) ?restp33
      case hyp33 => (intro w hSw; (try dsimp only at hSw); go_simp; try with_reducible rfl)
      try simp only [Act.put, List.setIfInBounds_toArray, List.set_cons_zero, List.set_cons_succ]
      refine wpAnyH_take (i := 34) (oi := { dst := some 84, op := Op.pick (Operand.tmp 77) (Operand.tmp 83) (Operand.const (Value.bool false)), type := 4, pos := "laws.go:240", after := #[{ on := 27, ground := Ground.data }, { on := 33, ground := Ground.data }], guard := none }) (v := ?vp34) rfl (by kernel_rfl) (by kernel_rfl) (by kernel_rfl) (fun _ _ _ h => h) (Or.inl ⟨by rfl, ?hyp34⟩) (by assumption) ?restp34
      case hyp34 => (intro w hSw; (try dsimp only at hSw); go_simp; try with_reducible rfl)
      try simp only [Act.put, List.setIfInBounds_toArray, List.set_cons_zero, List.set_cons_succ]
      refine wpAnyH_take (i := 35) (oi := { dst := some 85, op := Op.move (Operand.tmp 84), type := 4, pos := "laws.go:240", after := #[{ on := 34, ground := Ground.data }, { on := 32, ground := Ground.chain }], guard := none }) (v := ?vp35) rfl (by kernel_rfl) (by kernel_rfl) (by kernel_rfl) (fun _ _ _ h => h) (Or.inl ⟨by rfl, ?hyp35⟩) (by assumption) ?restp35
      case hyp35 => (intro w hSw; (try dsimp only at hSw); go_simp; try with_reducible rfl)
      try simp only [Act.put, List.setIfInBounds_toArray, List.set_cons_zero, List.set_cons_succ]
      refine wpAnyH_take (i := 36) (oi := { dst := some 86, op := Op.fieldAddr 27 (Operand.tmp 13) 0, type := 0, pos := "laws.go:240", after := #[{ on := 35, ground := Ground.guard }], guard := some (35, true) }) (v := ?vp36) rfl (by kernel_rfl) (by kernel_rfl) (by kernel_rfl) (fun _ _ _ h => h) (Or.inl ⟨by rfl, ?hyp36⟩) (by assumption) ?restp36
      case hyp36 => (intro w hSw; (try dsimp only at hSw); go_simp; try with_reducible rfl)
      try simp only [Act.put, List.setIfInBounds_toArray, List.set_cons_zero, List.set_cons_succ]
      refine wpAnyH_take (i := 37) (oi := { dst := some 87, op := Op.load 3 (Operand.tmp 86), type := 3, pos := "laws.go:240", after := #[{ on := 36, ground := Ground.data }, { on := 35, ground := Ground.guard }], guard := some (35, true) }) (v := ?vp37) rfl (by kernel_rfl) (by kernel_rfl) (by kernel_rfl) (fun _ _ _ h => h) (Or.inl ⟨by rfl, ?hyp37⟩) (by assumption) ?restp37
      case hyp37 => (intro w hSw; (try dsimp only at hSw); go_simp; try with_reducible rfl)
      try simp only [Act.put, List.setIfInBounds_toArray, List.set_cons_zero, List.set_cons_succ]
      refine wpAnyH_take (i := 38) (oi := { dst := some 88, op := Op.binOp BinOp.eql 3 (Operand.tmp 87) (Operand.const (Value.int IntKind.i64 7)) 3, type := 4, pos := "laws.go:240", after := #[{ on := 37, ground := Ground.data }, { on := 35, ground := Ground.guard }], guard := some (35, true) }) (v := ?vp38) rfl (by kernel_rfl) (by kernel_rfl) (by kernel_rfl) (fun _ _ _ h => h) (Or.inl ⟨by rfl, ?hyp38⟩) (by assumption) ?restp38
      case hyp38 => (intro w hSw; (try dsimp only at hSw); go_simp; try with_reducible rfl)
      try simp only [Act.put, List.setIfInBounds_toArray, List.set_cons_zero, List.set_cons_succ]
      refine wpAnyH_take (i := 39) (oi := { dst := some 89, op := Op.pick (Operand.tmp 85) (Operand.tmp 88) (Operand.const (Value.bool false)), type := 4, pos := "laws.go:240", after := #[{ on := 35, ground := Ground.data }, { on := 38, ground := Ground.data }], guard := none }) (v := ?vp39) rfl (by kernel_rfl) (by kernel_rfl) (by kernel_rfl) (fun _ _ _ h => h) (Or.inl ⟨by rfl, ?hyp39⟩) (by assumption) ?restp39
      case hyp39 => (intro w hSw; (try dsimp only at hSw); go_simp; try with_reducible rfl)
      try simp only [Act.put, List.setIfInBounds_toArray, List.set_cons_zero, List.set_cons_succ]
      refine wpAnyH_take (i := 40) (oi := { dst := some 90, op := Op.move (Operand.tmp 89), type := 4, pos := "laws.go:240", after := #[{ on := 39, ground := Ground.data }, { on := 35, ground := Ground.chain }], guard := none }) (v := ?vp40) rfl (by kernel_rfl) (by kernel_rfl) (by kernel_rfl) (fun _ _ _ h => h) (Or.inl ⟨by rfl, ?hyp40⟩) (by assumption) ?restp40
      case hyp40 => (intro w hSw; (try dsimp only at hSw); go_simp; try with_reducible rfl)
      try simp only [Act.put, List.setIfInBounds_toArray, List.set_cons_zero, List.set_cons_succ]
      refine wpAnyH_take (i := 41) (oi := { dst := some 91, op := Op.load 27 (Operand.tmp 13), type := 27, pos := "laws.go:240", after := #[{ on := 40, ground := Ground.guard }], guard := some (40, true) }) (v := ?vp41) rfl (by kernel_rfl) (by kernel_rfl) (by kernel_rfl) (fun _ _ _ h => h) (Or.inl ⟨by rfl, ?hyp41⟩) (by assumption) ?restp41
      case hyp41 => (intro w hSw; (try dsimp only at hSw); go_simp; try with_reducible rfl)
      try simp only [Act.put, List.setIfInBounds_toArray, List.set_cons_zero, List.set_cons_succ]
      refine wpAnyH_take (i := 42) (oi := { dst := some 92, op := Op.fieldAddr 27 (Operand.tmp 3) 1, type := 0, pos := "laws.go:240", after := #[{ on := 40, ground := Ground.guard }], guard := some (40, true) }) (v := ?vp42) rfl (by kernel_rfl) (by kernel_rfl) (by kernel_rfl) (fun _ _ _ h => h) (Or.inl ⟨by rfl, ?hyp42⟩) (by assumption) ?restp42
      case hyp42 => (intro w hSw; (try dsimp only at hSw); go_simp; try with_reducible rfl)
      try simp only [Act.put, List.setIfInBounds_toArray, List.set_cons_zero, List.set_cons_succ]
      refine wpAnyH_take (i := 43) (oi := { dst := some 93, op := Op.load 25 (Operand.tmp 92), type := 25, pos := "laws.go:240", after := #[{ on := 42, ground := Ground.data }, { on := 40, ground := Ground.guard }], guard := some (40, true) }) (v := ?vp43) rfl (by kernel_rfl) (by kernel_rfl) (by kernel_rfl) (fun _ _ _ h => h) (Or.inl ⟨by rfl, ?hyp43⟩) (by assumption) ?restp43
      case hyp43 => (intro w hSw; (try dsimp only at hSw); go_simp; try with_reducible rfl)
      try simp only [Act.put, List.setIfInBounds_toArray, List.set_cons_zero, List.set_cons_succ]
      refine wpAnyH_take (i := 45) (oi := { dst := some 95, op := Op.load 27 (Operand.tmp 13), type := 27, pos := "laws.go:240", after := #[{ on := 40, ground := Ground.guard }], guard := some (40, true) }) (v := ?vp45) rfl (by kernel_rfl) (by kernel_rfl) (by kernel_rfl) (fun _ _ _ h => h) (Or.inl ⟨by rfl, ?hyp45⟩) (by assumption) ?restp45
      case hyp45 => (intro w hSw; (try dsimp only at hSw); go_simp; try with_reducible rfl)
      try simp only [Act.put, List.setIfInBounds_toArray, List.set_cons_zero, List.set_cons_succ]
      clear hHeld
      refine wpAnyH_ready (rs := [44]) (by kernel_rfl) (by simp) ?_
      refine AllReadyH.cons (o := { dst := some 94, op := Op.call { callee := Callee.value (Operand.func 15), args := #[Operand.tmp 91, Operand.const (Value.int IntKind.i64 3), Operand.tmp 93], argTypes := #[27, 3, 25] }, type := 27, pos := "laws.go:240", after := #[{ on := 41, ground := Ground.data }, { on := 43, ground := Ground.data }, { on := 40, ground := Ground.chain }, { on := 40, ground := Ground.guard }], guard := some (40, true) }) rfl (fun K hK => ?_) AllReadyH.nil
      go_simp
      refine (ce.out _).mono ?_; rintro e w7 ⟨rfl, hb7⟩
      go_wp2_with fail
      refine hK.out _ _ (HS.out _ (by repeat (first | exact bre _ | refine bdr ?_ | refine btr ?_ (by assumption) | refine bpush ?_ _ | refine bset' ?_ ?_ _ _))) (fun hHeld => ?_)
      clear hK K
      try simp only [Act.put, List.setIfInBounds_toArray, List.set_cons_zero, List.set_cons_succ]
      refine wpAnyH_take (i := 46) (oi := { dst := some 96, op := Op.binOp BinOp.eql 27 (Operand.tmp 94) (Operand.tmp 95) 27, type := 4, pos := "laws.go:240", after := #[{ on := 44, ground := Ground.data }, { on := 45, ground := Ground.data }, { on := 40, ground := Ground.guard }], guard := some (40, true) }) (v := ?vp46) rfl (by kernel_rfl) (by kernel_rfl) (by kernel_rfl) (fun _ _ _ h => h) (Or.inl ⟨by rfl, ?hyp46⟩) (by assumption) ?restp46
      case hyp46 => (intro w hSw; (try dsimp only at hSw); go_simp; try with_reducible rfl)
      try simp only [Act.put, List.setIfInBounds_toArray, List.set_cons_zero, List.set_cons_succ]
      refine wpAnyH_take (i := 47) (oi := { dst := some 97, op := Op.pick (Operand.tmp 90) (Operand.tmp 96) (Operand.const (Value.bool false)), type := 4, pos := "laws.go:240", after := #[{ on := 40, ground := Ground.data }, { on := 46, ground := Ground.data }], guard := none }) (v := ?vp47) rfl (by kernel_rfl) (by kernel_rfl) (by kernel_rfl) (fun _ _ _ h => h) (Or.inl ⟨by rfl, ?hyp47⟩) (by assumption) ?restp47
      case hyp47 => (intro w hSw; (try dsimp only at hSw); go_simp; try with_reducible rfl)
      try simp only [Act.put, List.setIfInBounds_toArray, List.set_cons_zero, List.set_cons_succ]
      refine wpAnyH_take (i := 48) (oi := { dst := some 2, op := Op.assign (Operand.tmp 97), type := 4, pos := "laws.go:240", after := #[{ on := 47, ground := Ground.data }, { on := 44, ground := Ground.chain }, { on := 0, ground := Ground.phase }, { on := 1, ground := Ground.phase }, { on := 2, ground := Ground.phase }, { on := 3, ground := Ground.phase }, { on := 4, ground := Ground.phase }, { on := 5, ground := Ground.phase }, { on := 6, ground := Ground.phase }, { on := 7, ground := Ground.phase }, { on := 8, ground := Ground.phase }, { on := 9, ground := Ground.phase }, { on := 10, ground := Ground.phase }, { on := 11, ground := Ground.phase }, { on := 12, ground := Ground.phase }, { on := 13, ground := Ground.phase }, { on := 14, ground := Ground.phase }, { on := 15, ground := Ground.phase }, { on := 16, ground := Ground.phase }, { on := 17, ground := Ground.phase }, { on := 18, ground := Ground.phase }, { on := 19, ground := Ground.phase }, { on := 20, ground := Ground.phase }, { on := 21, ground := Ground.phase }, { on := 22, ground := Ground.phase }, { on := 23, ground := Ground.phase }, { on := 24, ground := Ground.phase }, { on := 25, ground := Ground.phase }, { on := 26, ground := Ground.phase }, { on := 27, ground := Ground.phase }, { on := 28, ground := Ground.phase }, { on := 29, ground := Ground.phase }, { on := 30, ground := Ground.phase }, { on := 31, ground := Ground.phase }, { on := 32, ground := Ground.phase }, { on := 33, ground := Ground.phase }, { on := 34, ground := Ground.phase }, { on := 35, ground := Ground.phase }, { on := 36, ground := Ground.phase }, { on := 37, ground := Ground.phase }, { on := 38, ground := Ground.phase }, { on := 39, ground := Ground.phase }, { on := 40, ground := Ground.phase }, { on := 41, ground := Ground.phase }, { on := 42, ground := Ground.phase }, { on := 43, ground := Ground.phase }, { on := 44, ground := Ground.phase }, { on := 45, ground := Ground.phase }, { on := 46, ground := Ground.phase }, { on := 47, ground := Ground.phase }], guard := none }) (v := ?vp48) rfl (by kernel_rfl) (by kernel_rfl) (by kernel_rfl) (fun _ _ _ h => h) (Or.inl ⟨by rfl, ?hyp48⟩) (by assumption) ?restp48
      case hyp48 => (intro w hSw; (try dsimp only at hSw); go_simp; try with_reducible rfl)
      try simp only [Act.put, List.setIfInBounds_toArray, List.set_cons_zero, List.set_cons_succ]
      refine wpAnyH_done (by kernel_rfl) ?_ _
      refine NoPanic.normal ?_
      have B14 : Hid (Below W13.heap.size W13 w7) := by show Below _ _ _; repeat (first | exact bre _ | refine bdr ?_ | refine btr ?_ (by assumption) | refine bpush ?_ _ | refine bset' ?_ ?_ _ _)
      clear hHeld
      go_wp2_with fail
      go_ret
      exact ⟨rfl, btr B0.out (btr B2.out (btr B27.out (btr B713.out B14.out)))⟩
    · have HN : Hid (¬ (v4 = v1 ∧ t4 = t1 ∧ b4 = b1)) := hN
      have HB : Hid (v4 = v2 ∧ t4 = t2 ∧ b4 = b2) := ⟨e1, e2, e3⟩
      clear hN HP e1 e2 e3
      refine wp_region_noPanic ?_
      refine wp_region_held_drew (S := (fun W => (W.cell? ⟨w1.heap.size, 0, none⟩ = some (.int .i64 v1) ∧ W.cell? ⟨w1.heap.size, 1, none⟩ = some (.int .i64 t1) ∧ W.cell? ⟨w1.heap.size, 2, none⟩ = some (.int .i64 b1)) ∧ (W.cell? ⟨w1.heap.size + 1, 0, none⟩ = some (.int .i64 v2) ∧ W.cell? ⟨w1.heap.size + 1, 1, none⟩ = some (.int .i64 t2) ∧ W.cell? ⟨w1.heap.size + 1, 2, none⟩ = some (.int .i64 b2)) ∧ (W.cell? ⟨w3.heap.size, 0, none⟩ = some (.int .i64 v4) ∧ W.cell? ⟨w3.heap.size, 1, none⟩ = some (.int .i64 t4) ∧ W.cell? ⟨w3.heap.size, 2, none⟩ = some (.int .i64 b4)) ∧ (W.cell? ⟨w5.heap.size, 0, none⟩ = some (.int .i64 v5) ∧ W.cell? ⟨w5.heap.size, 1, none⟩ = some (.int .i64 t5) ∧ W.cell? ⟨w5.heap.size, 2, none⟩ = some (.int .i64 b5)) ∧ (W.cell? ⟨k7, 0, none⟩ = some (.int .i64 v5) ∧ W.cell? ⟨k7, 1, none⟩ = some (.int .i64 t5) ∧ W.cell? ⟨k7, 2, none⟩ = some (.int .i64 b5)) ∧ (W.cell? ⟨w8.heap.size, 0, none⟩ = some (.int .i64 v8) ∧ W.cell? ⟨w8.heap.size, 1, none⟩ = some (.int .i64 t8) ∧ W.cell? ⟨w8.heap.size, 2, none⟩ = some (.int .i64 b8)) ∧ (W.cell? ⟨w10.heap.size, 0, none⟩ = some (.int .i64 v10) ∧ W.cell? ⟨w10.heap.size, 1, none⟩ = some (.int .i64 t10) ∧ W.cell? ⟨w10.heap.size, 2, none⟩ = some (.int .i64 b10)) ∧ (W.cell? ⟨w12.heap.size, 0, none⟩ = some (.int .i64 7) ∧ W.cell? ⟨w12.heap.size, 1, none⟩ = some (.int .i64 (t1 + 1)) ∧ W.cell? ⟨w12.heap.size, 2, none⟩ = some (.int .i64 1)) ∧ (W.cell? ⟨w8.heap.size + 1, 0, none⟩ = some (.int .i64 t9) ∧ W.cell? ⟨w8.heap.size + 1, 1, none⟩ = some (.int .i64 b9)))) (by kernel_rfl) (HS.out _ (bdr (bre _))) (fun hHeld => ?_)
      refine wpAnyH_take (i := 0) (oi := { dst := some 50, op := Op.load 27 (Operand.tmp 6), type := 27, pos := "laws.go:240", after := #[], guard := none }) (v := ?vq0) rfl (by kernel_rfl) (by kernel_rfl) (by kernel_rfl) (fun _ _ _ h => h) (Or.inl ⟨by rfl, ?hyq0⟩) (by assumption) ?restq0
      case hyq0 => (intro w hSw; (try dsimp only at hSw); go_simp; try with_reducible rfl)
      try simp only [Act.put, List.setIfInBounds_toArray, List.set_cons_zero, List.set_cons_succ]
      refine wpAnyH_take (i := 1) (oi := { dst := some 51, op := Op.load 27 (Operand.tmp 4), type := 27, pos := "laws.go:240", after := #[], guard := none }) (v := ?vq1) rfl (by kernel_rfl) (by kernel_rfl) (by kernel_rfl) (fun _ _ _ h => h) (Or.inl ⟨by rfl, ?hyq1⟩) (by assumption) ?restq1
      case hyq1 => (intro w hSw; (try dsimp only at hSw); go_simp; try with_reducible rfl)
      try simp only [Act.put, List.setIfInBounds_toArray, List.set_cons_zero, List.set_cons_succ]
      refine wpAnyH_take (i := 2) (oi := { dst := some 52, op := Op.load 27 (Operand.tmp 3), type := 27, pos := "laws.go:240", after := #[], guard := none }) (v := ?vq2) rfl (by kernel_rfl) (by kernel_rfl) (by kernel_rfl) (fun _ _ _ h => h) (Or.inl ⟨by rfl, ?hyq2⟩) (by assumption) ?restq2
      case hyq2 => (intro w hSw; (try dsimp only at hSw); go_simp; try with_reducible rfl)
      try simp only [Act.put, List.setIfInBounds_toArray, List.set_cons_zero, List.set_cons_succ]
      clear hHeld
      refine wpAnyH_ready (rs := [3]) (by kernel_rfl) (by simp) ?_
      refine AllReadyH.cons (o := { dst := some 53, op := Op.call { callee := Callee.value (Operand.func 13), args := #[Operand.tmp 51, Operand.tmp 52], argTypes := #[27, 27] }, type := 27, pos := "laws.go:240", after := #[{ on := 1, ground := Ground.data }, { on := 2, ground := Ground.data }], guard := none }) rfl (fun K hK => ?_) AllReadyH.nil
      go_simp
      refine (c21.out _).mono ?_; rintro e w7 ⟨rfl, hb7⟩
      go_wp2_with fail
      refine hK.out _ _ (HS.out _ (by repeat (first | exact bre _ | refine bdr ?_ | refine btr ?_ (by assumption) | refine bpush ?_ _ | refine bset' ?_ ?_ _ _))) (fun hHeld => ?_)
      clear hK K
      try simp only [Act.put, List.setIfInBounds_toArray, List.set_cons_zero, List.set_cons_succ]
      refine wpAnyH_take (i := 4) (oi := { dst := some 54, op := Op.binOp BinOp.eql 27 (Operand.tmp 50) (Operand.tmp 53) 27, type := 4, pos := "laws.go:240", after := #[{ on := 0, ground := Ground.data }, { on := 3, ground := Ground.data }], guard := none }) (v := ?vq4) rfl (by kernel_rfl) (by kernel_rfl) (by kernel_rfl) (fun _ _ _ h => h) (Or.inl ⟨by rfl, ?hyq4⟩) (by assumption) ?restq4
      case hyq4 => (intro w hSw; (try dsimp only at hSw); go_simp; try with_reducible rfl)
      try simp only [Act.put, List.setIfInBounds_toArray, List.set_cons_zero, List.set_cons_succ]
      refine wpAnyH_take (i := 5) (oi := { dst := some 55, op := Op.move (Operand.tmp 54), type := 4, pos := "laws.go:240", after := #[{ on := 4, ground := Ground.data }, { on := 3, ground := Ground.chain }], guard := none }) (v := ?vq5) rfl (by kernel_rfl) (by kernel_rfl) (by kernel_rfl) (fun _ _ _ h => h) (Or.inl ⟨by rfl, ?hyq5⟩) (by assumption) ?restq5
      case hyq5 => (intro w hSw; (try dsimp only at hSw); go_simp; try with_reducible rfl)
      try simp only [Act.put, List.setIfInBounds_toArray, List.set_cons_zero, List.set_cons_succ]
      refine wpAnyH_take (i := 6) (oi := { dst := some 56, op := Op.load 27 (Operand.tmp 6), type := 27, pos := "laws.go:240", after := #[{ on := 5, ground := Ground.guard }], guard := some (5, true) }) (v := ?vq6) rfl (by kernel_rfl) (by kernel_rfl) (by kernel_rfl) (fun _ _ _ h => h) (Or.inl ⟨by rfl, ?hyq6⟩) (by assumption) ?restq6
      case hyq6 => (intro w hSw; (try dsimp only at hSw); go_simp; try with_reducible rfl)
      try simp only [Act.put, List.setIfInBounds_toArray, List.set_cons_zero, List.set_cons_succ]
      refine wpAnyH_take (i := 7) (oi := { dst := some 57, op := Op.load 27 (Operand.tmp 3), type := 27, pos := "laws.go:240", after := #[{ on := 5, ground := Ground.guard }], guard := some (5, true) }) (v := ?vq7) rfl (by kernel_rfl) (by kernel_rfl) (by kernel_rfl) (fun _ _ _ h => h) (Or.inl ⟨by rfl, ?hyq7⟩) (by assumption) ?restq7
      case hyq7 => (intro w hSw; (try dsimp only at hSw); go_simp; try with_reducible rfl)
      try simp only [Act.put, List.setIfInBounds_toArray, List.set_cons_zero, List.set_cons_succ]
      refine wpAnyH_take (i := 9) (oi := { dst := some 59, op := Op.load 27 (Operand.tmp 6), type := 27, pos := "laws.go:240", after := #[{ on := 5, ground := Ground.guard }], guard := some (5, true) }) (v := ?vq9) rfl (by kernel_rfl) (by kernel_rfl) (by kernel_rfl) (fun _ _ _ h => h) (Or.inl ⟨by rfl, ?hyq9⟩) (by assumption) ?restq9
      case hyq9 => (intro w hSw; (try dsimp only at hSw); go_simp; try with_reducible rfl)
      try simp only [Act.put, List.setIfInBounds_toArray, List.set_cons_zero, List.set_cons_succ]
      clear hHeld
      refine wpAnyH_ready (rs := [8]) (by kernel_rfl) (by simp) ?_
      refine AllReadyH.cons (o := { dst := some 58, op := Op.call { callee := Callee.value (Operand.func 13), args := #[Operand.tmp 56, Operand.tmp 57], argTypes := #[27, 27] }, type := 27, pos := "laws.go:240", after := #[{ on := 6, ground := Ground.data }, { on := 7, ground := Ground.data }, { on := 5, ground := Ground.chain }, { on := 5, ground := Ground.guard }], guard := some (5, true) }) rfl (fun K hK => ?_) AllReadyH.nil
      go_simp
      refine (c41.out _).mono ?_; rintro e w7 ⟨rfl, hb7⟩
      go_wp2_with fail
      refine hK.out _ _ (HS.out _ (by repeat (first | exact bre _ | refine bdr ?_ | refine btr ?_ (by assumption) | refine bpush ?_ _ | refine bset' ?_ ?_ _ _))) (fun hHeld => ?_)
      clear hK K
      try simp only [Act.put, List.setIfInBounds_toArray, List.set_cons_zero, List.set_cons_succ]
      refine wpAnyH_take (i := 10) (oi := { dst := some 60, op := Op.binOp BinOp.eql 27 (Operand.tmp 58) (Operand.tmp 59) 27, type := 4, pos := "laws.go:240", after := #[{ on := 8, ground := Ground.data }, { on := 9, ground := Ground.data }, { on := 5, ground := Ground.guard }], guard := some (5, true) }) (v := ?vq10) rfl (by kernel_rfl) (by kernel_rfl) (by kernel_rfl) (fun _ _ _ h => h) (Or.inl ⟨by rfl, ?hyq10⟩) (by assumption) ?restq10
      case hyq10 => (intro w hSw; (try dsimp only at hSw); go_simp; try with_reducible rfl)
      try simp only [Act.put, List.setIfInBounds_toArray, List.set_cons_zero, List.set_cons_succ]
      refine wpAnyH_take (i := 11) (oi := { dst := some 61, op := Op.pick (Operand.tmp 55) (Operand.tmp 60) (Operand.const (Value.bool false)), type := 4, pos := "laws.go:240", after := #[{ on := 5, ground := Ground.data }, { on := 10, ground := Ground.data }], guard := none }) (v := ?vq11) rfl (by kernel_rfl) (by kernel_rfl) (by kernel_rfl) (fun _ _ _ h => h) (Or.inl ⟨by rfl, ?hyq11⟩) (by assumption) ?restq11
      case hyq11 => (intro w hSw; (try dsimp only at hSw); go_simp; try with_reducible rfl)
      try simp only [Act.put, List.setIfInBounds_toArray, List.set_cons_zero, List.set_cons_succ]
      refine wpAnyH_take (i := 12) (oi := { dst := some 62, op := Op.move (Operand.tmp 61), type := 4, pos := "laws.go:240", after := #[{ on := 11, ground := Ground.data }, { on := 8, ground := Ground.chain }], guard := none }) (v := ?vq12) rfl (by kernel_rfl) (by kernel_rfl) (by kernel_rfl) (fun _ _ _ h => h) (Or.inl ⟨by rfl, ?hyq12⟩) (by assumption) ?restq12
      case hyq12 => (intro w hSw; (try dsimp only at hSw); go_simp; try with_reducible rfl)
      try simp only [Act.put, List.setIfInBounds_toArray, List.set_cons_zero, List.set_cons_succ]
      refine wpAnyH_take (i := 13) (oi := { dst := some 63, op := Op.load 27 (Operand.tmp 7), type := 27, pos := "laws.go:240", after := #[{ on := 12, ground := Ground.guard }], guard := some (12, true) }) (v := ?vq13) rfl (by kernel_rfl) (by kernel_rfl) (by kernel_rfl) (fun _ _ _ h => h) (Or.inl ⟨by rfl, ?hyq13⟩) (by assumption) ?restq13
      case hyq13 => (intro w hSw; (try dsimp only at hSw); go_simp; try with_reducible rfl)
      try simp only [Act.put, List.setIfInBounds_toArray, List.set_cons_zero, List.set_cons_succ]
      refine wpAnyH_take (i := 14) (oi := { dst := some 64, op := Op.load 27 (Operand.tmp 8), type := 27, pos := "laws.go:240", after := #[{ on := 12, ground := Ground.guard }], guard := some (12, true) }) (v := ?vq14) rfl (by kernel_rfl) (by kernel_rfl) (by kernel_rfl) (fun _ _ _ h => h) (Or.inl ⟨by rfl, ?hyq14⟩) (by assumption) ?restq14
      case hyq14 => (intro w hSw; (try dsimp only at hSw); go_simp; try with_reducible rfl)
      try simp only [Act.put, List.setIfInBounds_toArray, List.set_cons_zero, List.set_cons_succ]
      refine wpAnyH_take (i := 15) (oi := { dst := some 65, op := Op.binOp BinOp.eql 27 (Operand.tmp 63) (Operand.tmp 64) 27, type := 4, pos := "laws.go:240", after := #[{ on := 13, ground := Ground.data }, { on := 14, ground := Ground.data }, { on := 12, ground := Ground.guard }], guard := some (12, true) }) (v := ?vq15) rfl (by kernel_rfl) (by kernel_rfl) (by kernel_rfl) (fun _ _ _ h => h) (Or.inl ⟨by rfl, ?hyq15⟩) (by assumption) ?restq15
      case hyq15 => (intro w hSw; (try dsimp only at hSw); go_simp; try with_reducible rfl)
      try simp only [Act.put, List.setIfInBounds_toArray, List.set_cons_zero, List.set_cons_succ]
      refine wpAnyH_take (i := 16) (oi := { dst := some 66, op := Op.pick (Operand.tmp 62) (Operand.tmp 65) (Operand.const (Value.bool false)), type := 4, pos := "laws.go:240", after := #[{ on := 12, ground := Ground.data }, { on := 15, ground := Ground.data }], guard := none }) (v := ?vq16) rfl (by kernel_rfl) (by kernel_rfl) (by kernel_rfl) (fun _ _ _ h => h) (Or.inl ⟨by rfl, ?hyq16⟩) (by assumption) ?restq16
      case hyq16 => (intro w hSw; (try dsimp only at hSw); go_simp; try with_reducible rfl)
      try simp only [Act.put, List.setIfInBounds_toArray, List.set_cons_zero, List.set_cons_succ]
      refine wpAnyH_take (i := 17) (oi := { dst := some 67, op := Op.move (Operand.tmp 66), type := 4, pos := "laws.go:240", after := #[{ on := 16, ground := Ground.data }, { on := 12, ground := Ground.chain }], guard := none }) (v := ?vq17) rfl (by kernel_rfl) (by kernel_rfl) (by kernel_rfl) (fun _ _ _ h => h) (Or.inl ⟨by rfl, ?hyq17⟩) (by assumption) ?restq17
      case hyq17 => (intro w hSw; (try dsimp only at hSw); go_simp; try with_reducible rfl)
      try simp only [Act.put, List.setIfInBounds_toArray, List.set_cons_zero, List.set_cons_succ]
      refine wpAnyH_take (i := 18) (oi := { dst := some 68, op := Op.load 27 (Operand.tmp 6), type := 27, pos := "laws.go:240", after := #[{ on := 17, ground := Ground.guard }], guard := some (17, true) }) (v := ?vq18) rfl (by kernel_rfl) (by kernel_rfl) (by kernel_rfl) (fun _ _ _ h => h) (Or.inl ⟨by rfl, ?hyq18⟩) (by assumption) ?restq18
      case hyq18 => (intro w hSw; (try dsimp only at hSw); go_simp; try with_reducible rfl)
      try simp only [Act.put, List.setIfInBounds_toArray, List.set_cons_zero, List.set_cons_succ]
      refine wpAnyH_take (i := 19) (oi := { dst := some 69, op := Op.load 27 (Operand.tmp 3), type := 27, pos := "laws.go:240", after := #[{ on := 17, ground := Ground.guard }], guard := some (17, true) }) (v := ?vq19) rfl (by kernel_rfl) (by kernel_rfl) (by kernel_rfl) (fun _ _ _ h => h) (Or.inl ⟨by rfl, ?hyq19⟩) (by assumption) ?restq19
      case hyq19 => (intro w hSw; (try dsimp only at hSw); go_simp; try with_reducible rfl)
      try simp only [Act.put, List.setIfInBounds_toArray, List.set_cons_zero, List.set_cons_succ]
      refine wpAnyH_take (i := 20) (oi := { dst := some 70, op := Op.binOp BinOp.eql 27 (Operand.tmp 68) (Operand.tmp 69) 27, type := 4, pos := "laws.go:240", after := #[{ on := 18, ground := Ground.data }, { on := 19, ground := Ground.data }, { on := 17, ground := Ground.guard }], guard := some (17, true) }) (v := .bool false) rfl (by kernel_rfl) (by kernel_rfl) (by kernel_rfl) (fun _ _ _ h => h) (Or.inl ⟨by rfl, (by intro w hSw; go_simp; have h0 := HN.out;  first | omega | (obtain ⟨h1, h2, h3⟩ := h0; simp [h1, h2, h3]; done) | (obtain ⟨h1, h2, h3⟩ := h0; subst h1 h2 h3; simp; done) | (obtain ⟨rfl, rfl, rfl⟩ := h0; rfl))⟩) (by assumption) ?_
      try simp only [Act.put, List.setIfInBounds_toArray, List.set_cons_zero, List.set_cons_succ]
      refine wpAnyH_take (i := 21) (oi := { dst := some 71, op := Op.move (Operand.tmp 70), type := 4, pos := "laws.go:240", after := #[{ on := 20, ground := Ground.data }, { on := 17, ground := Ground.chain }, { on := 17, ground := Ground.guard }], guard := some (17, true) }) (v := ?vq21) rfl (by kernel_rfl) (by kernel_rfl) (by kernel_rfl) (fun _ _ _ h => h) (Or.inl ⟨by rfl, ?hyq21⟩) (by assumption) ?restq21
      case hyq21 => (intro w hSw; (try dsimp only at hSw); go_simp; try with_reducible rfl)
      try simp only [Act.put, List.setIfInBounds_toArray, List.set_cons_zero, List.set_cons_succ]
      refine wpAnyH_take (i := 22) (oi := { dst := some 72, op := Op.load 27 (Operand.tmp 6), type := 27, pos := "laws.go:240", after := #[{ on := 21, ground := Ground.guard }], guard := some (21, false) }) (v := ?vq22) rfl (by kernel_rfl) (by kernel_rfl) (by kernel_rfl) (fun _ _ _ h => h) (Or.inl ⟨by rfl, ?hyq22⟩) (by assumption) ?restq22
      case hyq22 => (intro w hSw; (try dsimp only at hSw); go_simp; try with_reducible rfl)
      try simp only [Act.put, List.setIfInBounds_toArray, List.set_cons_zero, List.set_cons_succ]
      refine wpAnyH_take (i := 23) (oi := { dst := some 73, op := Op.load 27 (Operand.tmp 4), type := 27, pos := "laws.go:240", after := #[{ on := 21, ground := Ground.guard }], guard := some (21, false) }) (v := ?vq23) rfl (by kernel_rfl) (by kernel_rfl) (by kernel_rfl) (fun _ _ _ h => h) (Or.inl ⟨by rfl, ?hyq23⟩) (by assumption) ?restq23
      case hyq23 => (intro w hSw; (try dsimp only at hSw); go_simp; try with_reducible rfl)
      try simp only [Act.put, List.setIfInBounds_toArray, List.set_cons_zero, List.set_cons_succ]
      refine wpAnyH_take (i := 24) (oi := { dst := some 74, op := Op.binOp BinOp.eql 27 (Operand.tmp 72) (Operand.tmp 73) 27, type := 4, pos := "laws.go:240", after := #[{ on := 22, ground := Ground.data }, { on := 23, ground := Ground.data }, { on := 21, ground := Ground.guard }], guard := some (21, false) }) (v := .bool true) rfl (by kernel_rfl) (by kernel_rfl) (by kernel_rfl) (fun _ _ _ h => h) (Or.inl ⟨by rfl, (by intro w hSw; go_simp; have h0 := HB.out;  first | omega | (obtain ⟨h1, h2, h3⟩ := h0; simp [h1, h2, h3]; done) | (obtain ⟨h1, h2, h3⟩ := h0; subst h1 h2 h3; simp; done) | (obtain ⟨rfl, rfl, rfl⟩ := h0; rfl))⟩) (by assumption) ?_
      try simp only [Act.put, List.setIfInBounds_toArray, List.set_cons_zero, List.set_cons_succ]
      refine wpAnyH_take (i := 25) (oi := { dst := some 75, op := Op.pick (Operand.tmp 71) (Operand.const (Value.bool true)) (Operand.tmp 74), type := 4, pos := "laws.go:240", after := #[{ on := 21, ground := Ground.data }, { on := 24, ground := Ground.data }, { on := 17, ground := Ground.guard }], guard := some (17, true) }) (v := ?vq25) rfl (by kernel_rfl) (by kernel_rfl) (by kernel_rfl) (fun _ _ _ h => h) (Or.inl ⟨by rfl, ?hyq25⟩) (by assumption) ?restq25
      case hyq25 => (intro w hSw; (try dsimp only at hSw); go_simp; try with_reducible rfl)
      try simp only [Act.put, List.setIfInBounds_toArray, List.set_cons_zero, List.set_cons_succ]
      refine wpAnyH_take (i := 26) (oi := { dst := some 76, op := Op.pick (Operand.tmp 67) (Operand.tmp 75) (Operand.const (Value.bool false)), type := 4, pos := "laws.go:240", after := #[{ on := 17, ground := Ground.data }, { on := 25, ground := Ground.data }], guard := none }) (v := ?vq26) rfl (by kernel_rfl) (by kernel_rfl) (by kernel_rfl) (fun _ _ _ h => h) (Or.inl ⟨by rfl, ?hyq26⟩) (by assumption) ?restq26
      case hyq26 => (intro w hSw; (try dsimp only at hSw); go_simp; try with_reducible rfl)
      try simp only [Act.put, List.setIfInBounds_toArray, List.set_cons_zero, List.set_cons_succ]
      refine wpAnyH_take (i := 27) (oi := { dst := some 77, op := Op.move (Operand.tmp 76), type := 4, pos := "laws.go:240", after := #[{ on := 26, ground := Ground.data }, { on := 21, ground := Ground.chain }], guard := none }) (v := ?vq27) rfl (by kernel_rfl) (by kernel_rfl) (by kernel_rfl) (fun _ _ _ h => h) (Or.inl ⟨by rfl, ?hyq27⟩) (by assumption) ?restq27
      case hyq27 => (intro w hSw; (try dsimp only at hSw); go_simp; try with_reducible rfl)
      try simp only [Act.put, List.setIfInBounds_toArray, List.set_cons_zero, List.set_cons_succ]
      refine wpAnyH_take (i := 28) (oi := { dst := some 78, op := Op.load 27 (Operand.tmp 12), type := 27, pos := "laws.go:240", after := #[{ on := 27, ground := Ground.guard }], guard := some (27, true) }) (v := ?vq28) rfl (by kernel_rfl) (by kernel_rfl) (by kernel_rfl) (fun _ _ _ h => h) (Or.inl ⟨by rfl, ?hyq28⟩) (by assumption) ?restq28
      case hyq28 => (intro w hSw; (try dsimp only at hSw); go_simp; try with_reducible rfl)
      try simp only [Act.put, List.setIfInBounds_toArray, List.set_cons_zero, List.set_cons_succ]
      refine wpAnyH_take (i := 29) (oi := { dst := some 79, op := Op.load 27 (Operand.tmp 9), type := 27, pos := "laws.go:240", after := #[{ on := 27, ground := Ground.guard }], guard := some (27, true) }) (v := ?vq29) rfl (by kernel_rfl) (by kernel_rfl) (by kernel_rfl) (fun _ _ _ h => h) (Or.inl ⟨by rfl, ?hyq29⟩) (by assumption) ?restq29
      case hyq29 => (intro w hSw; (try dsimp only at hSw); go_simp; try with_reducible rfl)
      try simp only [Act.put, List.setIfInBounds_toArray, List.set_cons_zero, List.set_cons_succ]
      refine wpAnyH_take (i := 30) (oi := { dst := some 80, op := Op.move (Operand.tmp 10), type := 3, pos := "laws.go:240", after := #[{ on := 27, ground := Ground.guard }], guard := some (27, true) }) (v := ?vq30) rfl (by kernel_rfl) (by kernel_rfl) (by kernel_rfl) (fun _ _ _ h => h) (Or.inl ⟨by rfl, ?hyq30⟩) (by assumption) ?restq30
      case hyq30 => (intro w hSw; (try dsimp only at hSw); go_simp; try with_reducible rfl)
      try simp only [Act.put, List.setIfInBounds_toArray, List.set_cons_zero, List.set_cons_succ]
      refine wpAnyH_take (i := 31) (oi := { dst := some 81, op := Op.load 25 (Operand.tmp 11), type := 25, pos := "laws.go:240", after := #[{ on := 27, ground := Ground.guard }], guard := some (27, true) }) (v := ?vq31) rfl (by kernel_rfl) (by kernel_rfl) (by kernel_rfl) (fun _ _ _ h => h) (Or.inl ⟨by rfl, ?hyq31⟩) (by assumption) ?restq31
      case hyq31 => (intro w hSw; (try dsimp only at hSw); go_simp; try with_reducible rfl)
      try simp only [Act.put, List.setIfInBounds_toArray, List.set_cons_zero, List.set_cons_succ]
      clear hHeld
      refine wpAnyH_ready (rs := [32]) (by kernel_rfl) (by simp) ?_
      refine AllReadyH.cons (o := { dst := some 82, op := Op.call { callee := Callee.value (Operand.func 16), args := #[Operand.tmp 79, Operand.tmp 80, Operand.tmp 81], argTypes := #[27, 3, 25] }, type := 27, pos := "laws.go:240", after := #[{ on := 29, ground := Ground.data }, { on := 30, ground := Ground.data }, { on := 31, ground := Ground.data }, { on := 27, ground := Ground.chain }, { on := 27, ground := Ground.guard }], guard := some (27, true) }) rfl (fun K hK => ?_) AllReadyH.nil
      go_simp
      refine (cq.out _).mono ?_; rintro e w7 ⟨rfl, hb7⟩
      go_wp2_with fail
      refine hK.out _ _ (HS.out _ (by repeat (first | exact bre _ | refine bdr ?_ | refine btr ?_ (by assumption) | refine bpush ?_ _ | refine bset' ?_ ?_ _ _))) (fun hHeld => ?_)
      clear hK K
      try simp only [Act.put, List.setIfInBounds_toArray, List.set_cons_zero, List.set_cons_succ]
      refine wpAnyH_take (i := 33) (oi := { dst := some 83, op := Op.binOp BinOp.eql 27 (Operand.tmp 78) (Operand.tmp 82) 27, type := 4, pos := "laws.go:240", after := #[{ on := 28, ground := Ground.data }, { on := 32, ground := Ground.data }, { on := 27, ground := Ground.guard }], guard := some (27, true) }) (v := ?vq33) rfl (by kernel_rfl) (by kernel_rfl) (by kernel_rfl) (fun _ _ _ h => h) (Or.inl ⟨by rfl, ?hyq33⟩) (by assumption) ?restq33
      case hyq33 => (intro w hSw; (try dsimp only at hSw); go_simp; try with_reducible rfl)
      try simp only [Act.put, List.setIfInBounds_toArray, List.set_cons_zero, List.set_cons_succ]
      refine wpAnyH_take (i := 34) (oi := { dst := some 84, op := Op.pick (Operand.tmp 77) (Operand.tmp 83) (Operand.const (Value.bool false)), type := 4, pos := "laws.go:240", after := #[{ on := 27, ground := Ground.data }, { on := 33, ground := Ground.data }], guard := none }) (v := ?vq34) rfl (by kernel_rfl) (by kernel_rfl) (by kernel_rfl) (fun _ _ _ h => h) (Or.inl ⟨by rfl, ?hyq34⟩) (by assumption) ?restq34
      case hyq34 => (intro w hSw; (try dsimp only at hSw); go_simp; try with_reducible rfl)
      try simp only [Act.put, List.setIfInBounds_toArray, List.set_cons_zero, List.set_cons_succ]
      refine wpAnyH_take (i := 35) (oi := { dst := some 85, op := Op.move (Operand.tmp 84), type := 4, pos := "laws.go:240", after := #[{ on := 34, ground := Ground.data }, { on := 32, ground := Ground.chain }], guard := none }) (v := ?vq35) rfl (by kernel_rfl) (by kernel_rfl) (by kernel_rfl) (fun _ _ _ h => h) (Or.inl ⟨by rfl, ?hyq35⟩) (by assumption) ?restq35
      case hyq35 => (intro w hSw; (try dsimp only at hSw); go_simp; try with_reducible rfl)
      try simp only [Act.put, List.setIfInBounds_toArray, List.set_cons_zero, List.set_cons_succ]
      refine wpAnyH_take (i := 36) (oi := { dst := some 86, op := Op.fieldAddr 27 (Operand.tmp 13) 0, type := 0, pos := "laws.go:240", after := #[{ on := 35, ground := Ground.guard }], guard := some (35, true) }) (v := ?vq36) rfl (by kernel_rfl) (by kernel_rfl) (by kernel_rfl) (fun _ _ _ h => h) (Or.inl ⟨by rfl, ?hyq36⟩) (by assumption) ?restq36
      case hyq36 => (intro w hSw; (try dsimp only at hSw); go_simp; try with_reducible rfl)
      try simp only [Act.put, List.setIfInBounds_toArray, List.set_cons_zero, List.set_cons_succ]
      refine wpAnyH_take (i := 37) (oi := { dst := some 87, op := Op.load 3 (Operand.tmp 86), type := 3, pos := "laws.go:240", after := #[{ on := 36, ground := Ground.data }, { on := 35, ground := Ground.guard }], guard := some (35, true) }) (v := ?vq37) rfl (by kernel_rfl) (by kernel_rfl) (by kernel_rfl) (fun _ _ _ h => h) (Or.inl ⟨by rfl, ?hyq37⟩) (by assumption) ?restq37
      case hyq37 => (intro w hSw; (try dsimp only at hSw); go_simp; try with_reducible rfl)
      try simp only [Act.put, List.setIfInBounds_toArray, List.set_cons_zero, List.set_cons_succ]
      refine wpAnyH_take (i := 38) (oi := { dst := some 88, op := Op.binOp BinOp.eql 3 (Operand.tmp 87) (Operand.const (Value.int IntKind.i64 7)) 3, type := 4, pos := "laws.go:240", after := #[{ on := 37, ground := Ground.data }, { on := 35, ground := Ground.guard }], guard := some (35, true) }) (v := ?vq38) rfl (by kernel_rfl) (by kernel_rfl) (by kernel_rfl) (fun _ _ _ h => h) (Or.inl ⟨by rfl, ?hyq38⟩) (by assumption) ?restq38
      case hyq38 => (intro w hSw; (try dsimp only at hSw); go_simp; try with_reducible rfl)
      try simp only [Act.put, List.setIfInBounds_toArray, List.set_cons_zero, List.set_cons_succ]
      refine wpAnyH_take (i := 39) (oi := { dst := some 89, op := Op.pick (Operand.tmp 85) (Operand.tmp 88) (Operand.const (Value.bool false)), type := 4, pos := "laws.go:240", after := #[{ on := 35, ground := Ground.data }, { on := 38, ground := Ground.data }], guard := none }) (v := ?vq39) rfl (by kernel_rfl) (by kernel_rfl) (by kernel_rfl) (fun _ _ _ h => h) (Or.inl ⟨by rfl, ?hyq39⟩) (by assumption) ?restq39
      case hyq39 => (intro w hSw; (try dsimp only at hSw); go_simp; try with_reducible rfl)
      try simp only [Act.put, List.setIfInBounds_toArray, List.set_cons_zero, List.set_cons_succ]
      refine wpAnyH_take (i := 40) (oi := { dst := some 90, op := Op.move (Operand.tmp 89), type := 4, pos := "laws.go:240", after := #[{ on := 39, ground := Ground.data }, { on := 35, ground := Ground.chain }], guard := none }) (v := ?vq40) rfl (by kernel_rfl) (by kernel_rfl) (by kernel_rfl) (fun _ _ _ h => h) (Or.inl ⟨by rfl, ?hyq40⟩) (by assumption) ?restq40
      case hyq40 => (intro w hSw; (try dsimp only at hSw); go_simp; try with_reducible rfl)
      try simp only [Act.put, List.setIfInBounds_toArray, List.set_cons_zero, List.set_cons_succ]
      refine wpAnyH_take (i := 41) (oi := { dst := some 91, op := Op.load 27 (Operand.tmp 13), type := 27, pos := "laws.go:240", after := #[{ on := 40, ground := Ground.guard }], guard := some (40, true) }) (v := ?vq41) rfl (by kernel_rfl) (by kernel_rfl) (by kernel_rfl) (fun _ _ _ h => h) (Or.inl ⟨by rfl, ?hyq41⟩) (by assumption) ?restq41
      case hyq41 => (intro w hSw; (try dsimp only at hSw); go_simp; try with_reducible rfl)
      try simp only [Act.put, List.setIfInBounds_toArray, List.set_cons_zero, List.set_cons_succ]
      refine wpAnyH_take (i := 42) (oi := { dst := some 92, op := Op.fieldAddr 27 (Operand.tmp 3) 1, type := 0, pos := "laws.go:240", after := #[{ on := 40, ground := Ground.guard }], guard := some (40, true) }) (v := ?vq42) rfl (by kernel_rfl) (by kernel_rfl) (by kernel_rfl) (fun _ _ _ h => h) (Or.inl ⟨by rfl, ?hyq42⟩) (by assumption) ?restq42
      case hyq42 => (intro w hSw; (try dsimp only at hSw); go_simp; try with_reducible rfl)
      try simp only [Act.put, List.setIfInBounds_toArray, List.set_cons_zero, List.set_cons_succ]
      refine wpAnyH_take (i := 43) (oi := { dst := some 93, op := Op.load 25 (Operand.tmp 92), type := 25, pos := "laws.go:240", after := #[{ on := 42, ground := Ground.data }, { on := 40, ground := Ground.guard }], guard := some (40, true) }) (v := ?vq43) rfl (by kernel_rfl) (by kernel_rfl) (by kernel_rfl) (fun _ _ _ h => h) (Or.inl ⟨by rfl, ?hyq43⟩) (by assumption) ?restq43
      case hyq43 => (intro w hSw; (try dsimp only at hSw); go_simp; try with_reducible rfl)
      try simp only [Act.put, List.setIfInBounds_toArray, List.set_cons_zero, List.set_cons_succ]
      refine wpAnyH_take (i := 45) (oi := { dst := some 95, op := Op.load 27 (Operand.tmp 13), type := 27, pos := "laws.go:240", after := #[{ on := 40, ground := Ground.guard }], guard := some (40, true) }) (v := ?vq45) rfl (by kernel_rfl) (by kernel_rfl) (by kernel_rfl) (fun _ _ _ h => h) (Or.inl ⟨by rfl, ?hyq45⟩) (by assumption) ?restq45
      case hyq45 => (intro w hSw; (try dsimp only at hSw); go_simp; try with_reducible rfl)
      try simp only [Act.put, List.setIfInBounds_toArray, List.set_cons_zero, List.set_cons_succ]
      clear hHeld
      refine wpAnyH_ready (rs := [44]) (by kernel_rfl) (by simp) ?_
      refine AllReadyH.cons (o := { dst := some 94, op := Op.call { callee := Callee.value (Operand.func 15), args := #[Operand.tmp 91, Operand.const (Value.int IntKind.i64 3), Operand.tmp 93], argTypes := #[27, 3, 25] }, type := 27, pos := "laws.go:240", after := #[{ on := 41, ground := Ground.data }, { on := 43, ground := Ground.data }, { on := 40, ground := Ground.chain }, { on := 40, ground := Ground.guard }], guard := some (40, true) }) rfl (fun K hK => ?_) AllReadyH.nil
      go_simp
      refine (ce.out _).mono ?_; rintro e w7 ⟨rfl, hb7⟩
      go_wp2_with fail
      refine hK.out _ _ (HS.out _ (by repeat (first | exact bre _ | refine bdr ?_ | refine btr ?_ (by assumption) | refine bpush ?_ _ | refine bset' ?_ ?_ _ _))) (fun hHeld => ?_)
      clear hK K
      try simp only [Act.put, List.setIfInBounds_toArray, List.set_cons_zero, List.set_cons_succ]
      refine wpAnyH_take (i := 46) (oi := { dst := some 96, op := Op.binOp BinOp.eql 27 (Operand.tmp 94) (Operand.tmp 95) 27, type := 4, pos := "laws.go:240", after := #[{ on := 44, ground := Ground.data }, { on := 45, ground := Ground.data }, { on := 40, ground := Ground.guard }], guard := some (40, true) }) (v := ?vq46) rfl (by kernel_rfl) (by kernel_rfl) (by kernel_rfl) (fun _ _ _ h => h) (Or.inl ⟨by rfl, ?hyq46⟩) (by assumption) ?restq46
      case hyq46 => (intro w hSw; (try dsimp only at hSw); go_simp; try with_reducible rfl)
      try simp only [Act.put, List.setIfInBounds_toArray, List.set_cons_zero, List.set_cons_succ]
      refine wpAnyH_take (i := 47) (oi := { dst := some 97, op := Op.pick (Operand.tmp 90) (Operand.tmp 96) (Operand.const (Value.bool false)), type := 4, pos := "laws.go:240", after := #[{ on := 40, ground := Ground.data }, { on := 46, ground := Ground.data }], guard := none }) (v := ?vq47) rfl (by kernel_rfl) (by kernel_rfl) (by kernel_rfl) (fun _ _ _ h => h) (Or.inl ⟨by rfl, ?hyq47⟩) (by assumption) ?restq47
      case hyq47 => (intro w hSw; (try dsimp only at hSw); go_simp; try with_reducible rfl)
      try simp only [Act.put, List.setIfInBounds_toArray, List.set_cons_zero, List.set_cons_succ]
      refine wpAnyH_take (i := 48) (oi := { dst := some 2, op := Op.assign (Operand.tmp 97), type := 4, pos := "laws.go:240", after := #[{ on := 47, ground := Ground.data }, { on := 44, ground := Ground.chain }, { on := 0, ground := Ground.phase }, { on := 1, ground := Ground.phase }, { on := 2, ground := Ground.phase }, { on := 3, ground := Ground.phase }, { on := 4, ground := Ground.phase }, { on := 5, ground := Ground.phase }, { on := 6, ground := Ground.phase }, { on := 7, ground := Ground.phase }, { on := 8, ground := Ground.phase }, { on := 9, ground := Ground.phase }, { on := 10, ground := Ground.phase }, { on := 11, ground := Ground.phase }, { on := 12, ground := Ground.phase }, { on := 13, ground := Ground.phase }, { on := 14, ground := Ground.phase }, { on := 15, ground := Ground.phase }, { on := 16, ground := Ground.phase }, { on := 17, ground := Ground.phase }, { on := 18, ground := Ground.phase }, { on := 19, ground := Ground.phase }, { on := 20, ground := Ground.phase }, { on := 21, ground := Ground.phase }, { on := 22, ground := Ground.phase }, { on := 23, ground := Ground.phase }, { on := 24, ground := Ground.phase }, { on := 25, ground := Ground.phase }, { on := 26, ground := Ground.phase }, { on := 27, ground := Ground.phase }, { on := 28, ground := Ground.phase }, { on := 29, ground := Ground.phase }, { on := 30, ground := Ground.phase }, { on := 31, ground := Ground.phase }, { on := 32, ground := Ground.phase }, { on := 33, ground := Ground.phase }, { on := 34, ground := Ground.phase }, { on := 35, ground := Ground.phase }, { on := 36, ground := Ground.phase }, { on := 37, ground := Ground.phase }, { on := 38, ground := Ground.phase }, { on := 39, ground := Ground.phase }, { on := 40, ground := Ground.phase }, { on := 41, ground := Ground.phase }, { on := 42, ground := Ground.phase }, { on := 43, ground := Ground.phase }, { on := 44, ground := Ground.phase }, { on := 45, ground := Ground.phase }, { on := 46, ground := Ground.phase }, { on := 47, ground := Ground.phase }], guard := none }) (v := ?vq48) rfl (by kernel_rfl) (by kernel_rfl) (by kernel_rfl) (fun _ _ _ h => h) (Or.inl ⟨by rfl, ?hyq48⟩) (by assumption) ?restq48
      case hyq48 => (intro w hSw; (try dsimp only at hSw); go_simp; try with_reducible rfl)
      try simp only [Act.put, List.setIfInBounds_toArray, List.set_cons_zero, List.set_cons_succ]
      refine wpAnyH_done (by kernel_rfl) ?_ _
      refine NoPanic.normal ?_
      have B14 : Hid (Below W13.heap.size W13 w7) := by show Below _ _ _; repeat (first | exact bre _ | refine bdr ?_ | refine btr ?_ (by assumption) | refine bpush ?_ _ | refine bset' ?_ ?_ _ _)
      clear hHeld
      go_wp2_with fail
      go_ret
      exact ⟨rfl, btr B0.out (btr B2.out (btr B27.out (btr B713.out B14.out)))⟩
  · go_enter Try.func4, Try.ntmps4
    go_wp2_with fail
    refine (big_yes ao n cap _ (by omega)).mono ?_; rintro e w' ⟨rfl, rfl⟩
    go_wp2
    go_ret
    exact ⟨rfl, Below.refl _ _⟩
end Go.Proofs.Ytagfgkmeekgngaa
