/- The walk of the law of what is told of boxes. -/
import Derived.Test.YtfmacodnjhegcabGreatMm
namespace Go.Proofs.YtfmacodnjhegcabGreat
open Go.RowKit Go.ChangeMaps

set_option maxHeartbeats 64000000 in
set_option maxRecDepth 100000 in
theorem lawBoxesTold_any (ao : Option Addr) (n cap : Nat) (w : World) (hcode : Code w w.heap.size ao n) :
    Calls Tryz.prog 5 #[.slice ao n cap] w fun e w' => e = .returned (.bool true) ∧ Below w.heap.size w w' := by
  have HO := hid hcode
  have BE := hid (bre w)
  clear hcode
  by_cases hbig : n ≤ 1048576
  · go_enter Tryz.func5, Tryz.ntmps5
    go_wp2_with fail
    refine (bigF_no ao n cap _ hbig).mono ?_; rintro e w' ⟨rfl, h'⟩
    rw [h']
    clear h'
    go_wp2_with fail
    refine (drawBoxOk_any ao n cap _ hbig HO.out).mono ?_; rintro e w1 ⟨g0, nm0, t0, b0, nx0, ma0, mn0, mc0, ga0, gn0, gc0, L0, G0, rfl, hq, hb⟩
    obtain ⟨hz0, hnz0⟩ := hq.bz
    have NZ0 : Hid (nm0.size ≤ 1048576) := Nat.le_trans hnz0 (by decide)
    obtain ⟨k0, hk0⟩ : ∃ k0, w1.heap.size = k0 := ⟨_, rfl⟩
    obtain ⟨W1, hW1⟩ : ∃ W1, (w1.alloc (.cells #[.int .i64 g0, .string nm0, .int .i64 t0, .int .i64 b0, .int .i64 nx0, .slice ma0 mn0 mc0, .slice ga0 gn0 gc0] 29)) = W1 := ⟨_, rfl⟩
    have HB1 : Below w.heap.size w W1 := by rw [← hW1]; exact bpush (hb) _
    have BE := hid (btr BE.out HB1)
    clear HB1
    have X0 : Hid (Bx W1 k0 29 g0 nm0 t0 b0 nx0 (.slice ma0 mn0 mc0) (.slice ga0 gn0 gc0)) := by rw [← hW1, ← hk0]; exact Bx.new _ _ _ _ _ _ _ _ _
    have Z0 : Hid (Bz W1 ma0 mn0 mc0 ga0 gn0 gc0 L0 G0) := by rw [← hW1]; exact hz0.later (bpush (bre _) _)
    clear hq hz0 hnz0 hb
    go_wp2_with fail
    try rw [hk0]
    try rw [hW1]
    clear hk0 hW1
    refine (drawAddMail_any ao n cap _ hbig (HO.out.over BE.out)).mono ?_; rintro e w2 ⟨g1, nm1, t1, b1, nx1, ma1, mn1, mc1, ga1, gn1, gc1, L1, G1, gid1, fl1, tx1, st1, sb1, rfl, htx, hq, hb⟩
    obtain ⟨hz1, hnz1⟩ := hq.bz
    have NZ1 : Hid (nm1.size ≤ 1048576) := Nat.le_trans hnz1 (by decide)
    have TZ1 : Hid (tx1.size ≤ 1048576) := Nat.le_trans htx (by decide)
    obtain ⟨k1, hk1⟩ : ∃ k1, w2.heap.size = k1 := ⟨_, rfl⟩
    obtain ⟨W2, hW2⟩ : ∃ W2, ((w2.alloc (.cells #[.int .i64 g1, .string nm1, .int .i64 t1, .int .i64 b1, .int .i64 nx1, .slice ma1 mn1 mc1, .slice ga1 gn1 gc1] 29)).alloc (.cells #[.int .i64 st1, .int .i64 sb1] 25)) = W2 := ⟨_, rfl⟩
    have HB2 : Below W1.heap.size W1 W2 := by rw [← hW2]; exact bpush (bpush (hb) _) _
    have X0 := hid (X0.out.later HB2)
    have Z0 := hid (Z0.out.later HB2)
    have BE := hid (btr BE.out HB2)
    clear HB2
    have X1 : Hid (Bx W2 k1 29 g1 nm1 t1 b1 nx1 (.slice ma1 mn1 mc1) (.slice ga1 gn1 gc1)) := by rw [← hW2, ← hk1]; exact (Bx.new _ _ _ _ _ _ _ _ _).later (bpush (bre _) _)
    have S1 : Hid (Sg W2 (k1 + 1) 25 st1 sb1) := by rw [← hW2, ← hk1]; exact sg_second _ _ _ _
    have Z1 : Hid (Bz W2 ma1 mn1 mc1 ga1 gn1 gc1 L1 G1) := by rw [← hW2]; exact hz1.later (bpush (bpush (bre _) _) _)
    clear hq hz1 hnz1 hb htx
    have q0 := X1.out.cells
    have q1 := S1.out.cells
    go_wp2_with fail
    clear q0
    clear q1
    try rw [hk1]
    try rw [hW2]
    clear hk1 hW2
    obtain ⟨p1, ny1, K1, H1, N1, M1, _, hlen1, cs1, ci1⟩ := add_two g1 nm1 t1 b1 nx1 mn1 gn1 L1 G1 gid1 fl1 tx1 st1 sb1 NZ1.out Z1.out.len Z1.out.most Z1.out.sm Z1.out.glen Z1.out.gmost TZ1.out
    refine (ci1.out ma1 mc1 ga1 gc1 _ Z1.out).mono ?_; rintro e w3 ⟨a3, c3, d3, e3, rfl, hz, hb⟩
    obtain ⟨k3, hk3⟩ : ∃ k3, w3.heap.size = k3 := ⟨_, rfl⟩
    obtain ⟨W3, hW3⟩ : ∃ W3, (w3.alloc (.cells #[.int .i64 g1, .string nm1, .int .i64 t1, .int .i64 b1, .int .i64 ny1, .slice a3 N1 c3, .slice d3 M1 e3] 29)) = W3 := ⟨_, rfl⟩
    have HB3 : Below W2.heap.size W2 W3 := by rw [← hW3]; exact bpush (hb) _
    have X0 := hid (X0.out.later HB3)
    have Z0 := hid (Z0.out.later HB3)
    have X1 := hid (X1.out.later HB3)
    have S1 := hid (S1.out.later HB3)
    have Z1 := hid (Z1.out.later HB3)
    have BE := hid (btr BE.out HB3)
    clear HB3
    have X3 : Hid (Bx W3 k3 29 g1 nm1 t1 b1 ny1 (.slice a3 N1 c3) (.slice d3 M1 e3)) := by rw [← hW3, ← hk3]; exact Bx.new _ _ _ _ _ _ _ _ _
    have Z3 : Hid (Bz W3 a3 N1 c3 d3 M1 e3 K1 H1) := by rw [← hW3]; exact hz.bz.later (bpush (bre _) _)
    clear hz hb
    have q0 := X1.out.cells
    have q1 := S1.out.cells
    go_wp2_with fail
    clear q0
    clear q1
    try rw [hk3]
    try rw [hW3]
    clear hk3 hW3
    refine (cs1.out ma1 mc1 ga1 gc1 _ Z1.out).mono ?_; rintro e w4 ⟨a4, c4, d4, e4, rfl, hz, hb⟩
    obtain ⟨k4, hk4⟩ : ∃ k4, w4.heap.size = k4 := ⟨_, rfl⟩
    obtain ⟨W4, hW4⟩ : ∃ W4, (w4.alloc (.cells #[.int .i64 g1, .string nm1, .int .i64 t1, .int .i64 b1, .int .i64 ny1, .slice a4 N1 c4, .slice d4 M1 e4] 29)) = W4 := ⟨_, rfl⟩
    have HB4 : Below W3.heap.size W3 W4 := by rw [← hW4]; exact bpush (hb) _
    have X0 := hid (X0.out.later HB4)
    have Z0 := hid (Z0.out.later HB4)
    have X1 := hid (X1.out.later HB4)
    have S1 := hid (S1.out.later HB4)
    have Z1 := hid (Z1.out.later HB4)
    have X3 := hid (X3.out.later HB4)
    have Z3 := hid (Z3.out.later HB4)
    have BE := hid (btr BE.out HB4)
    clear HB4
    have X4 : Hid (Bx W4 k4 29 g1 nm1 t1 b1 ny1 (.slice a4 N1 c4) (.slice d4 M1 e4)) := by rw [← hW4, ← hk4]; exact Bx.new _ _ _ _ _ _ _ _ _
    have Z4 : Hid (Bz W4 a4 N1 c4 d4 M1 e4 K1 H1) := by rw [← hW4]; exact hz.bz.later (bpush (bre _) _)
    clear hz hb
    go_wp2_with fail
    try rw [hk4]
    try rw [hW4]
    clear hk4 hW4
    refine (drawFlagMail_any ao n cap _ hbig (HO.out.over BE.out)).mono ?_; rintro e w5 ⟨g2, nm2, t2, b2, nx2, ma2, mn2, mc2, ga2, gn2, gc2, L2, G2, gid2, fl2, st2, sb2, rfl, hq, hb⟩
    obtain ⟨hz2, hnz2⟩ := hq.bz
    have NZ2 : Hid (nm2.size ≤ 1048576) := Nat.le_trans hnz2 (by decide)
    obtain ⟨k2, hk2⟩ : ∃ k2, w5.heap.size = k2 := ⟨_, rfl⟩
    obtain ⟨W5, hW5⟩ : ∃ W5, ((w5.alloc (.cells #[.int .i64 g2, .string nm2, .int .i64 t2, .int .i64 b2, .int .i64 nx2, .slice ma2 mn2 mc2, .slice ga2 gn2 gc2] 29)).alloc (.cells #[.int .i64 st2, .int .i64 sb2] 25)) = W5 := ⟨_, rfl⟩
    have HB5 : Below W4.heap.size W4 W5 := by rw [← hW5]; exact bpush (bpush (hb) _) _
    have X0 := hid (X0.out.later HB5)
    have Z0 := hid (Z0.out.later HB5)
    have X1 := hid (X1.out.later HB5)
    have S1 := hid (S1.out.later HB5)
    have Z1 := hid (Z1.out.later HB5)
    have X3 := hid (X3.out.later HB5)
    have Z3 := hid (Z3.out.later HB5)
    have X4 := hid (X4.out.later HB5)
    have Z4 := hid (Z4.out.later HB5)
    have BE := hid (btr BE.out HB5)
    clear HB5
    have X2 : Hid (Bx W5 k2 29 g2 nm2 t2 b2 nx2 (.slice ma2 mn2 mc2) (.slice ga2 gn2 gc2)) := by rw [← hW5, ← hk2]; exact (Bx.new _ _ _ _ _ _ _ _ _).later (bpush (bre _) _)
    have S2 : Hid (Sg W5 (k2 + 1) 25 st2 sb2) := by rw [← hW5, ← hk2]; exact sg_second _ _ _ _
    have Z2 : Hid (Bz W5 ma2 mn2 mc2 ga2 gn2 gc2 L2 G2) := by rw [← hW5]; exact hz2.later (bpush (bpush (bre _) _) _)
    clear hq hz2 hnz2 hb
    have q0 := X2.out.cells
    have q1 := S2.out.cells
    go_wp2_with fail
    clear q0
    clear q1
    try rw [hk2]
    try rw [hW5]
    clear hk2 hW5
    obtain ⟨p2, K2, H2, N2, M2, _, hlen2, cs2, ci2⟩ := flag_two g2 nm2 t2 b2 nx2 mn2 gn2 L2 G2 gid2 fl2 st2 sb2 NZ2.out Z2.out.len Z2.out.most Z2.out.sm Z2.out.glen Z2.out.gmost
    refine (ci2.out ma2 mc2 ga2 gc2 _ Z2.out).mono ?_; rintro e w6 ⟨a6, c6, d6, e6, rfl, hz, hb⟩
    obtain ⟨k6, hk6⟩ : ∃ k6, w6.heap.size = k6 := ⟨_, rfl⟩
    obtain ⟨W6, hW6⟩ : ∃ W6, (w6.alloc (.cells #[.int .i64 g2, .string nm2, .int .i64 t2, .int .i64 b2, .int .i64 nx2, .slice a6 N2 c6, .slice d6 M2 e6] 29)) = W6 := ⟨_, rfl⟩
    have HB6 : Below W5.heap.size W5 W6 := by rw [← hW6]; exact bpush (hb) _
    have X0 := hid (X0.out.later HB6)
    have Z0 := hid (Z0.out.later HB6)
    have X1 := hid (X1.out.later HB6)
    have S1 := hid (S1.out.later HB6)
    have Z1 := hid (Z1.out.later HB6)
    have X3 := hid (X3.out.later HB6)
    have Z3 := hid (Z3.out.later HB6)
    have X4 := hid (X4.out.later HB6)
    have Z4 := hid (Z4.out.later HB6)
    have X2 := hid (X2.out.later HB6)
    have S2 := hid (S2.out.later HB6)
    have Z2 := hid (Z2.out.later HB6)
    have BE := hid (btr BE.out HB6)
    clear HB6
    have X6 : Hid (Bx W6 k6 29 g2 nm2 t2 b2 nx2 (.slice a6 N2 c6) (.slice d6 M2 e6)) := by rw [← hW6, ← hk6]; exact Bx.new _ _ _ _ _ _ _ _ _
    have Z6 : Hid (Bz W6 a6 N2 c6 d6 M2 e6 K2 H2) := by rw [← hW6]; exact hz.bz.later (bpush (bre _) _)
    clear hz hb
    have q0 := X2.out.cells
    have q1 := S2.out.cells
    go_wp2_with fail
    clear q0
    clear q1
    try rw [hk6]
    try rw [hW6]
    clear hk6 hW6
    refine (cs2.out ma2 mc2 ga2 gc2 _ Z2.out).mono ?_; rintro e w7 ⟨a7, c7, d7, e7, rfl, hz, hb⟩
    obtain ⟨k7, hk7⟩ : ∃ k7, w7.heap.size = k7 := ⟨_, rfl⟩
    obtain ⟨W7, hW7⟩ : ∃ W7, (w7.alloc (.cells #[.int .i64 g2, .string nm2, .int .i64 t2, .int .i64 b2, .int .i64 nx2, .slice a7 N2 c7, .slice d7 M2 e7] 29)) = W7 := ⟨_, rfl⟩
    have HB7 : Below W6.heap.size W6 W7 := by rw [← hW7]; exact bpush (hb) _
    have X0 := hid (X0.out.later HB7)
    have Z0 := hid (Z0.out.later HB7)
    have X1 := hid (X1.out.later HB7)
    have S1 := hid (S1.out.later HB7)
    have Z1 := hid (Z1.out.later HB7)
    have X3 := hid (X3.out.later HB7)
    have Z3 := hid (Z3.out.later HB7)
    have X4 := hid (X4.out.later HB7)
    have Z4 := hid (Z4.out.later HB7)
    have X2 := hid (X2.out.later HB7)
    have S2 := hid (S2.out.later HB7)
    have Z2 := hid (Z2.out.later HB7)
    have X6 := hid (X6.out.later HB7)
    have Z6 := hid (Z6.out.later HB7)
    have BE := hid (btr BE.out HB7)
    clear HB7
    have X7 : Hid (Bx W7 k7 29 g2 nm2 t2 b2 nx2 (.slice a7 N2 c7) (.slice d7 M2 e7)) := by rw [← hW7, ← hk7]; exact Bx.new _ _ _ _ _ _ _ _ _
    have Z7 : Hid (Bz W7 a7 N2 c7 d7 M2 e7 K2 H2) := by rw [← hW7]; exact hz.bz.later (bpush (bre _) _)
    clear hz hb
    go_wp2_with fail
    try rw [hk7]
    try rw [hW7]
    clear hk7 hW7
    refine (drawTakeOut_any ao n cap _ hbig (HO.out.over BE.out)).mono ?_; rintro e w8 ⟨g8, nm8, t8, b8, nx8, ma8, mn8, mc8, ga8, gn8, gc8, L8, G8, gid8, rfl, hq, hb⟩
    obtain ⟨hz8, hnz8⟩ := hq.bz
    have NZ8 : Hid (nm8.size ≤ 1048576) := Nat.le_trans hnz8 (by decide)
    obtain ⟨k8, hk8⟩ : ∃ k8, w8.heap.size = k8 := ⟨_, rfl⟩
    obtain ⟨W8, hW8⟩ : ∃ W8, (w8.alloc (.cells #[.int .i64 g8, .string nm8, .int .i64 t8, .int .i64 b8, .int .i64 nx8, .slice ma8 mn8 mc8, .slice ga8 gn8 gc8] 29)) = W8 := ⟨_, rfl⟩
    have HB8 : Below W7.heap.size W7 W8 := by rw [← hW8]; exact bpush (hb) _
    have X0 := hid (X0.out.later HB8)
    have Z0 := hid (Z0.out.later HB8)
    have X1 := hid (X1.out.later HB8)
    have S1 := hid (S1.out.later HB8)
    have Z1 := hid (Z1.out.later HB8)
    have X3 := hid (X3.out.later HB8)
    have Z3 := hid (Z3.out.later HB8)
    have X4 := hid (X4.out.later HB8)
    have Z4 := hid (Z4.out.later HB8)
    have X2 := hid (X2.out.later HB8)
    have S2 := hid (S2.out.later HB8)
    have Z2 := hid (Z2.out.later HB8)
    have X6 := hid (X6.out.later HB8)
    have Z6 := hid (Z6.out.later HB8)
    have X7 := hid (X7.out.later HB8)
    have Z7 := hid (Z7.out.later HB8)
    have BE := hid (btr BE.out HB8)
    clear HB8
    have X8 : Hid (Bx W8 k8 29 g8 nm8 t8 b8 nx8 (.slice ma8 mn8 mc8) (.slice ga8 gn8 gc8)) := by rw [← hW8, ← hk8]; exact Bx.new _ _ _ _ _ _ _ _ _
    have Z8 : Hid (Bz W8 ma8 mn8 mc8 ga8 gn8 gc8 L8 G8) := by rw [← hW8]; exact hz8.later (bpush (bre _) _)
    clear hq hz8 hnz8 hb
    have q0 := X8.out.cells
    go_wp2_with fail
    clear q0
    try rw [hk8]
    try rw [hW8]
    clear hk8 hW8
    obtain ⟨p8, K8, H8, N8, M8, _, hlen8, cs8, ci8⟩ := take_two g8 nm8 t8 b8 nx8 mn8 gn8 L8 G8 gid8 NZ8.out Z8.out.len Z8.out.most Z8.out.sm Z8.out.glen Z8.out.gmost
    refine (ci8.out ma8 mc8 ga8 gc8 _ Z8.out).mono ?_; rintro e w9 ⟨a9, c9, d9, e9, rfl, hz, hb⟩
    obtain ⟨k9, hk9⟩ : ∃ k9, w9.heap.size = k9 := ⟨_, rfl⟩
    obtain ⟨W9, hW9⟩ : ∃ W9, (w9.alloc (.cells #[.int .i64 g8, .string nm8, .int .i64 t8, .int .i64 b8, .int .i64 nx8, .slice a9 N8 c9, .slice d9 M8 e9] 29)) = W9 := ⟨_, rfl⟩
    have HB9 : Below W8.heap.size W8 W9 := by rw [← hW9]; exact bpush (hb) _
    have X0 := hid (X0.out.later HB9)
    have Z0 := hid (Z0.out.later HB9)
    have X1 := hid (X1.out.later HB9)
    have S1 := hid (S1.out.later HB9)
    have Z1 := hid (Z1.out.later HB9)
    have X3 := hid (X3.out.later HB9)
    have Z3 := hid (Z3.out.later HB9)
    have X4 := hid (X4.out.later HB9)
    have Z4 := hid (Z4.out.later HB9)
    have X2 := hid (X2.out.later HB9)
    have S2 := hid (S2.out.later HB9)
    have Z2 := hid (Z2.out.later HB9)
    have X6 := hid (X6.out.later HB9)
    have Z6 := hid (Z6.out.later HB9)
    have X7 := hid (X7.out.later HB9)
    have Z7 := hid (Z7.out.later HB9)
    have X8 := hid (X8.out.later HB9)
    have Z8 := hid (Z8.out.later HB9)
    have BE := hid (btr BE.out HB9)
    clear HB9
    have X9 : Hid (Bx W9 k9 29 g8 nm8 t8 b8 nx8 (.slice a9 N8 c9) (.slice d9 M8 e9)) := by rw [← hW9, ← hk9]; exact Bx.new _ _ _ _ _ _ _ _ _
    have Z9 : Hid (Bz W9 a9 N8 c9 d9 M8 e9 K8 H8) := by rw [← hW9]; exact hz.bz.later (bpush (bre _) _)
    clear hz hb
    have q0 := X8.out.cells
    go_wp2_with fail
    clear q0
    try rw [hk9]
    try rw [hW9]
    clear hk9 hW9
    refine (cs8.out ma8 mc8 ga8 gc8 _ Z8.out).mono ?_; rintro e w10 ⟨a10, c10, d10, e10, rfl, hz, hb⟩
    obtain ⟨k10, hk10⟩ : ∃ k10, w10.heap.size = k10 := ⟨_, rfl⟩
    obtain ⟨W10, hW10⟩ : ∃ W10, (w10.alloc (.cells #[.int .i64 g8, .string nm8, .int .i64 t8, .int .i64 b8, .int .i64 nx8, .slice a10 N8 c10, .slice d10 M8 e10] 29)) = W10 := ⟨_, rfl⟩
    have HB10 : Below W9.heap.size W9 W10 := by rw [← hW10]; exact bpush (hb) _
    have X0 := hid (X0.out.later HB10)
    have Z0 := hid (Z0.out.later HB10)
    have X1 := hid (X1.out.later HB10)
    have S1 := hid (S1.out.later HB10)
    have Z1 := hid (Z1.out.later HB10)
    have X3 := hid (X3.out.later HB10)
    have Z3 := hid (Z3.out.later HB10)
    have X4 := hid (X4.out.later HB10)
    have Z4 := hid (Z4.out.later HB10)
    have X2 := hid (X2.out.later HB10)
    have S2 := hid (S2.out.later HB10)
    have Z2 := hid (Z2.out.later HB10)
    have X6 := hid (X6.out.later HB10)
    have Z6 := hid (Z6.out.later HB10)
    have X7 := hid (X7.out.later HB10)
    have Z7 := hid (Z7.out.later HB10)
    have X8 := hid (X8.out.later HB10)
    have Z8 := hid (Z8.out.later HB10)
    have X9 := hid (X9.out.later HB10)
    have Z9 := hid (Z9.out.later HB10)
    have BE := hid (btr BE.out HB10)
    clear HB10
    have X10 : Hid (Bx W10 k10 29 g8 nm8 t8 b8 nx8 (.slice a10 N8 c10) (.slice d10 M8 e10)) := by rw [← hW10, ← hk10]; exact Bx.new _ _ _ _ _ _ _ _ _
    have Z10 : Hid (Bz W10 a10 N8 c10 d10 M8 e10 K8 H8) := by rw [← hW10]; exact hz.bz.later (bpush (bre _) _)
    clear hz hb
    go_wp2_with fail
    try rw [hk10]
    try rw [hW10]
    clear hk10 hW10
    refine (drawNameOk_any ao n cap _ hbig (HO.out.over BE.out)).mono ?_; rintro e w11 ⟨nmx, hnmx, rfl, hb⟩
    have NX : Hid (nmx.size ≤ 1048576) := Nat.le_trans hnmx (by decide)
    have HB11 := hb
    have X0 := hid (X0.out.later HB11)
    have Z0 := hid (Z0.out.later HB11)
    have X1 := hid (X1.out.later HB11)
    have S1 := hid (S1.out.later HB11)
    have Z1 := hid (Z1.out.later HB11)
    have X3 := hid (X3.out.later HB11)
    have Z3 := hid (Z3.out.later HB11)
    have X4 := hid (X4.out.later HB11)
    have Z4 := hid (Z4.out.later HB11)
    have X2 := hid (X2.out.later HB11)
    have S2 := hid (S2.out.later HB11)
    have Z2 := hid (Z2.out.later HB11)
    have X6 := hid (X6.out.later HB11)
    have Z6 := hid (Z6.out.later HB11)
    have X7 := hid (X7.out.later HB11)
    have Z7 := hid (Z7.out.later HB11)
    have X8 := hid (X8.out.later HB11)
    have Z8 := hid (Z8.out.later HB11)
    have X9 := hid (X9.out.later HB11)
    have Z9 := hid (Z9.out.later HB11)
    have X10 := hid (X10.out.later HB11)
    have Z10 := hid (Z10.out.later HB11)
    have BE := hid (btr BE.out HB11)
    clear HB11
    clear hb hnmx
    obtain ⟨pb, _, cbs, cbi⟩ := box_two g0 nm0 t0 b0 nx0 mn0 gn0 L0 G0 NZ0.out Z0.out.len Z0.out.most Z0.out.sm Z0.out.glen Z0.out.gmost
    obtain ⟨pn, _, cns, cni⟩ := name_l nmx NX.out
    obtain ⟨ym, _, cms, cmi⟩ := at_two g0 nm0 t0 b0 nx0 mn0 gn0 L0 G0 gid1
    go_wp2_with fail
    have HS : Hid (∀ W, Below w11.heap.size w11 W → (W.cell? ⟨k0, 0, none⟩ = some (.int .i64 g0) ∧ W.cell? ⟨k0, 1, none⟩ = some (.string nm0) ∧ W.cell? ⟨k0, 2, none⟩ = some (.int .i64 t0) ∧ W.cell? ⟨k0, 3, none⟩ = some (.int .i64 b0) ∧ W.cell? ⟨k0, 4, none⟩ = some (.int .i64 nx0) ∧ W.cell? ⟨k0, 5, none⟩ = some (.slice ma0 mn0 mc0) ∧ W.cell? ⟨k0, 6, none⟩ = some (.slice ga0 gn0 gc0)) ∧ (W.cell? ⟨k3, 0, none⟩ = some (.int .i64 g1) ∧ W.cell? ⟨k3, 1, none⟩ = some (.string nm1) ∧ W.cell? ⟨k3, 2, none⟩ = some (.int .i64 t1) ∧ W.cell? ⟨k3, 3, none⟩ = some (.int .i64 b1) ∧ W.cell? ⟨k3, 4, none⟩ = some (.int .i64 ny1) ∧ W.cell? ⟨k3, 5, none⟩ = some (.slice a3 N1 c3) ∧ W.cell? ⟨k3, 6, none⟩ = some (.slice d3 M1 e3)) ∧ (W.cell? ⟨k4, 0, none⟩ = some (.int .i64 g1) ∧ W.cell? ⟨k4, 1, none⟩ = some (.string nm1) ∧ W.cell? ⟨k4, 2, none⟩ = some (.int .i64 t1) ∧ W.cell? ⟨k4, 3, none⟩ = some (.int .i64 b1) ∧ W.cell? ⟨k4, 4, none⟩ = some (.int .i64 ny1) ∧ W.cell? ⟨k4, 5, none⟩ = some (.slice a4 N1 c4) ∧ W.cell? ⟨k4, 6, none⟩ = some (.slice d4 M1 e4)) ∧ (W.cell? ⟨k6, 0, none⟩ = some (.int .i64 g2) ∧ W.cell? ⟨k6, 1, none⟩ = some (.string nm2) ∧ W.cell? ⟨k6, 2, none⟩ = some (.int .i64 t2) ∧ W.cell? ⟨k6, 3, none⟩ = some (.int .i64 b2) ∧ W.cell? ⟨k6, 4, none⟩ = some (.int .i64 nx2) ∧ W.cell? ⟨k6, 5, none⟩ = some (.slice a6 N2 c6) ∧ W.cell? ⟨k6, 6, none⟩ = some (.slice d6 M2 e6)) ∧ (W.cell? ⟨k7, 0, none⟩ = some (.int .i64 g2) ∧ W.cell? ⟨k7, 1, none⟩ = some (.string nm2) ∧ W.cell? ⟨k7, 2, none⟩ = some (.int .i64 t2) ∧ W.cell? ⟨k7, 3, none⟩ = some (.int .i64 b2) ∧ W.cell? ⟨k7, 4, none⟩ = some (.int .i64 nx2) ∧ W.cell? ⟨k7, 5, none⟩ = some (.slice a7 N2 c7) ∧ W.cell? ⟨k7, 6, none⟩ = some (.slice d7 M2 e7)) ∧ (W.cell? ⟨k9, 0, none⟩ = some (.int .i64 g8) ∧ W.cell? ⟨k9, 1, none⟩ = some (.string nm8) ∧ W.cell? ⟨k9, 2, none⟩ = some (.int .i64 t8) ∧ W.cell? ⟨k9, 3, none⟩ = some (.int .i64 b8) ∧ W.cell? ⟨k9, 4, none⟩ = some (.int .i64 nx8) ∧ W.cell? ⟨k9, 5, none⟩ = some (.slice a9 N8 c9) ∧ W.cell? ⟨k9, 6, none⟩ = some (.slice d9 M8 e9)) ∧ (W.cell? ⟨k10, 0, none⟩ = some (.int .i64 g8) ∧ W.cell? ⟨k10, 1, none⟩ = some (.string nm8) ∧ W.cell? ⟨k10, 2, none⟩ = some (.int .i64 t8) ∧ W.cell? ⟨k10, 3, none⟩ = some (.int .i64 b8) ∧ W.cell? ⟨k10, 4, none⟩ = some (.int .i64 nx8) ∧ W.cell? ⟨k10, 5, none⟩ = some (.slice a10 N8 c10) ∧ W.cell? ⟨k10, 6, none⟩ = some (.slice d10 M8 e10))) := fun W h => ⟨(X0.out.later h).cells, (X3.out.later h).cells, (X4.out.later h).cells, (X6.out.later h).cells, (X7.out.later h).cells, (X9.out.later h).cells, (X10.out.later h).cells⟩
    refine wp_region_noPanic ?_
    refine wp_region_held_drew (S := (fun W => (W.cell? ⟨k0, 0, none⟩ = some (.int .i64 g0) ∧ W.cell? ⟨k0, 1, none⟩ = some (.string nm0) ∧ W.cell? ⟨k0, 2, none⟩ = some (.int .i64 t0) ∧ W.cell? ⟨k0, 3, none⟩ = some (.int .i64 b0) ∧ W.cell? ⟨k0, 4, none⟩ = some (.int .i64 nx0) ∧ W.cell? ⟨k0, 5, none⟩ = some (.slice ma0 mn0 mc0) ∧ W.cell? ⟨k0, 6, none⟩ = some (.slice ga0 gn0 gc0)) ∧ (W.cell? ⟨k3, 0, none⟩ = some (.int .i64 g1) ∧ W.cell? ⟨k3, 1, none⟩ = some (.string nm1) ∧ W.cell? ⟨k3, 2, none⟩ = some (.int .i64 t1) ∧ W.cell? ⟨k3, 3, none⟩ = some (.int .i64 b1) ∧ W.cell? ⟨k3, 4, none⟩ = some (.int .i64 ny1) ∧ W.cell? ⟨k3, 5, none⟩ = some (.slice a3 N1 c3) ∧ W.cell? ⟨k3, 6, none⟩ = some (.slice d3 M1 e3)) ∧ (W.cell? ⟨k4, 0, none⟩ = some (.int .i64 g1) ∧ W.cell? ⟨k4, 1, none⟩ = some (.string nm1) ∧ W.cell? ⟨k4, 2, none⟩ = some (.int .i64 t1) ∧ W.cell? ⟨k4, 3, none⟩ = some (.int .i64 b1) ∧ W.cell? ⟨k4, 4, none⟩ = some (.int .i64 ny1) ∧ W.cell? ⟨k4, 5, none⟩ = some (.slice a4 N1 c4) ∧ W.cell? ⟨k4, 6, none⟩ = some (.slice d4 M1 e4)) ∧ (W.cell? ⟨k6, 0, none⟩ = some (.int .i64 g2) ∧ W.cell? ⟨k6, 1, none⟩ = some (.string nm2) ∧ W.cell? ⟨k6, 2, none⟩ = some (.int .i64 t2) ∧ W.cell? ⟨k6, 3, none⟩ = some (.int .i64 b2) ∧ W.cell? ⟨k6, 4, none⟩ = some (.int .i64 nx2) ∧ W.cell? ⟨k6, 5, none⟩ = some (.slice a6 N2 c6) ∧ W.cell? ⟨k6, 6, none⟩ = some (.slice d6 M2 e6)) ∧ (W.cell? ⟨k7, 0, none⟩ = some (.int .i64 g2) ∧ W.cell? ⟨k7, 1, none⟩ = some (.string nm2) ∧ W.cell? ⟨k7, 2, none⟩ = some (.int .i64 t2) ∧ W.cell? ⟨k7, 3, none⟩ = some (.int .i64 b2) ∧ W.cell? ⟨k7, 4, none⟩ = some (.int .i64 nx2) ∧ W.cell? ⟨k7, 5, none⟩ = some (.slice a7 N2 c7) ∧ W.cell? ⟨k7, 6, none⟩ = some (.slice d7 M2 e7)) ∧ (W.cell? ⟨k9, 0, none⟩ = some (.int .i64 g8) ∧ W.cell? ⟨k9, 1, none⟩ = some (.string nm8) ∧ W.cell? ⟨k9, 2, none⟩ = some (.int .i64 t8) ∧ W.cell? ⟨k9, 3, none⟩ = some (.int .i64 b8) ∧ W.cell? ⟨k9, 4, none⟩ = some (.int .i64 nx8) ∧ W.cell? ⟨k9, 5, none⟩ = some (.slice a9 N8 c9) ∧ W.cell? ⟨k9, 6, none⟩ = some (.slice d9 M8 e9)) ∧ (W.cell? ⟨k10, 0, none⟩ = some (.int .i64 g8) ∧ W.cell? ⟨k10, 1, none⟩ = some (.string nm8) ∧ W.cell? ⟨k10, 2, none⟩ = some (.int .i64 t8) ∧ W.cell? ⟨k10, 3, none⟩ = some (.int .i64 b8) ∧ W.cell? ⟨k10, 4, none⟩ = some (.int .i64 nx8) ∧ W.cell? ⟨k10, 5, none⟩ = some (.slice a10 N8 c10) ∧ W.cell? ⟨k10, 6, none⟩ = some (.slice d10 M8 e10)))) (by kernel_rfl) (HS.out _ (bdr (bre _))) (fun hHeld => ?_)
    refine wpAnyH_take (i := 0) (oi := { dst := some 100, op := Op.load 29 (Operand.tmp 3), type := 29, pos := "laws.go:344", after := #[], guard := none }) (v := ?vb1_0) rfl (by kernel_rfl) (by kernel_rfl) (by kernel_rfl) (fun _ _ _ h => h) (Or.inl ⟨by rfl, ?hyb1_0⟩) (by assumption) ?restb1_0
    case hyb1_0 => (intro w hSw; (try dsimp only at hSw); go_simp; try with_reducible rfl)
    try simp only [Act.put, List.setIfInBounds_toArray, List.set_cons_zero, List.set_cons_succ]
    refine wpAnyH_take (i := 2) (oi := { dst := some 102, op := Op.load 29 (Operand.tmp 3), type := 29, pos := "laws.go:344", after := #[], guard := none }) (v := ?vb2_2) rfl (by kernel_rfl) (by kernel_rfl) (by kernel_rfl) (fun _ _ _ h => h) (Or.inl ⟨by rfl, ?hyb2_2⟩) (by assumption) ?restb2_2
    case hyb2_2 => (intro w hSw; (try dsimp only at hSw); go_simp; try with_reducible rfl)
    try simp only [Act.put, List.setIfInBounds_toArray, List.set_cons_zero, List.set_cons_succ]
    clear hHeld
    refine wpAnyH_ready (rs := [1]) (by kernel_rfl) (by simp) ?_
    refine AllReadyH.cons (o := { dst := some 101, op := Op.call { callee := Callee.value (Operand.func 13), args := #[Operand.tmp 100], argTypes := #[29] }, type := 4, pos := "laws.go:344", after := #[{ on := 0, ground := Ground.data }], guard := none }) rfl (fun K hK => ?_) AllReadyH.nil
    go_simp
    refine (cbi.out ma0 mc0 ga0 gc0 _ (Z0.out.later (bdr (bre _)))).mono ?_
    rintro e v1 ⟨rfl, hb⟩
    have HV : Hid (Below w11.heap.size w11 v1) := btr (bdr (bre _)) hb
    clear hb
    go_wp2_with fail
    refine hK.out _ _ (HS.out _ HV.out) (fun hHeld => ?_)
    clear hK K
    try simp only [Act.put, List.setIfInBounds_toArray, List.set_cons_zero, List.set_cons_succ]
    clear hHeld
    refine wpAnyH_ready (rs := [3]) (by kernel_rfl) (by simp) ?_
    refine AllReadyH.cons (o := { dst := some 103, op := Op.call { callee := Callee.value (Operand.func 26), args := #[Operand.tmp 102], argTypes := #[29] }, type := 4, pos := "laws.go:344", after := #[{ on := 2, ground := Ground.data }, { on := 1, ground := Ground.chain }], guard := none }) rfl (fun K hK => ?_) AllReadyH.nil
    go_simp
    refine (cbs.out ma0 mc0 ga0 gc0 _ (Z0.out.later HV.out)).mono ?_
    rintro e v3 ⟨rfl, hb⟩
    have HV := hid (btr HV.out hb)
    clear hb
    go_wp2_with fail
    refine hK.out _ _ (HS.out _ HV.out) (fun hHeld => ?_)
    clear hK K
    try simp only [Act.put, List.setIfInBounds_toArray, List.set_cons_zero, List.set_cons_succ]
    refine wpAnyH_take (i := 4) (oi := { dst := some 104, op := Op.binOp BinOp.eql 4 (Operand.tmp 101) (Operand.tmp 103) 4, type := 4, pos := "laws.go:344", after := #[{ on := 1, ground := Ground.data }, { on := 3, ground := Ground.data }], guard := none }) (v := ?vb3_4) rfl (by kernel_rfl) (by kernel_rfl) (by kernel_rfl) (fun _ _ _ h => h) (Or.inl ⟨by rfl, ?hyb3_4⟩) (by assumption) ?restb3_4
    case hyb3_4 => (intro w hSw; (try dsimp only at hSw); go_simp; try with_reducible rfl)
    try simp only [Act.put, List.setIfInBounds_toArray, List.set_cons_zero, List.set_cons_succ]
    refine wpAnyH_take (i := 5) (oi := { dst := some 105, op := Op.move (Operand.tmp 104), type := 4, pos := "laws.go:344", after := #[{ on := 4, ground := Ground.data }, { on := 3, ground := Ground.chain }], guard := none }) (v := ?vb4_5) rfl (by kernel_rfl) (by kernel_rfl) (by kernel_rfl) (fun _ _ _ h => h) (Or.inl ⟨by rfl, ?hyb4_5⟩) (by assumption) ?restb4_5
    case hyb4_5 => (intro w hSw; (try dsimp only at hSw); go_simp; try with_reducible rfl)
    try simp only [Act.put, List.setIfInBounds_toArray, List.set_cons_zero, List.set_cons_succ]
    refine wpAnyH_take (i := 6) (oi := { dst := some 106, op := Op.move (Operand.tmp 10), type := 4, pos := "laws.go:344", after := #[{ on := 5, ground := Ground.guard }], guard := some (5, true) }) (v := ?vb5_6) rfl (by kernel_rfl) (by kernel_rfl) (by kernel_rfl) (fun _ _ _ h => h) (Or.inl ⟨by rfl, ?hyb5_6⟩) (by assumption) ?restb5_6
    case hyb5_6 => (intro w hSw; (try dsimp only at hSw); go_simp; try with_reducible rfl)
    try simp only [Act.put, List.setIfInBounds_toArray, List.set_cons_zero, List.set_cons_succ]
    refine wpAnyH_take (i := 7) (oi := { dst := some 107, op := Op.move (Operand.tmp 12), type := 4, pos := "laws.go:344", after := #[{ on := 5, ground := Ground.guard }], guard := some (5, true) }) (v := ?vb6_7) rfl (by kernel_rfl) (by kernel_rfl) (by kernel_rfl) (fun _ _ _ h => h) (Or.inl ⟨by rfl, ?hyb6_7⟩) (by assumption) ?restb6_7
    case hyb6_7 => (intro w hSw; (try dsimp only at hSw); go_simp; try with_reducible rfl)
    try simp only [Act.put, List.setIfInBounds_toArray, List.set_cons_zero, List.set_cons_succ]
    refine wpAnyH_take (i := 8) (oi := { dst := some 108, op := Op.binOp BinOp.eql 4 (Operand.tmp 106) (Operand.tmp 107) 4, type := 4, pos := "laws.go:344", after := #[{ on := 6, ground := Ground.data }, { on := 7, ground := Ground.data }, { on := 5, ground := Ground.guard }], guard := some (5, true) }) (v := ?vb7_8) rfl (by kernel_rfl) (by kernel_rfl) (by kernel_rfl) (fun _ _ _ h => h) (Or.inl ⟨by rfl, ?hyb7_8⟩) (by assumption) ?restb7_8
    case hyb7_8 => (intro w hSw; (try dsimp only at hSw); go_simp; try with_reducible rfl)
    try simp only [Act.put, List.setIfInBounds_toArray, List.set_cons_zero, List.set_cons_succ]
    refine wpAnyH_take (i := 9) (oi := { dst := some 109, op := Op.pick (Operand.tmp 105) (Operand.tmp 108) (Operand.const (Value.bool false)), type := 4, pos := "laws.go:344", after := #[{ on := 5, ground := Ground.data }, { on := 8, ground := Ground.data }], guard := none }) (v := ?vb8_9) rfl (by kernel_rfl) (by kernel_rfl) (by kernel_rfl) (fun _ _ _ h => h) (Or.inl ⟨by rfl, ?hyb8_9⟩) (by assumption) ?restb8_9
    case hyb8_9 => (intro w hSw; (try dsimp only at hSw); go_simp; try with_reducible rfl)
    try simp only [Act.put, List.setIfInBounds_toArray, List.set_cons_zero, List.set_cons_succ]
    refine wpAnyH_take (i := 10) (oi := { dst := some 110, op := Op.move (Operand.tmp 109), type := 4, pos := "laws.go:344", after := #[{ on := 9, ground := Ground.data }, { on := 5, ground := Ground.chain }], guard := none }) (v := ?vb9_10) rfl (by kernel_rfl) (by kernel_rfl) (by kernel_rfl) (fun _ _ _ h => h) (Or.inl ⟨by rfl, ?hyb9_10⟩) (by assumption) ?restb9_10
    case hyb9_10 => (intro w hSw; (try dsimp only at hSw); go_simp; try with_reducible rfl)
    try simp only [Act.put, List.setIfInBounds_toArray, List.set_cons_zero, List.set_cons_succ]
    refine wpAnyH_take (i := 11) (oi := { dst := some 111, op := Op.load 29 (Operand.tmp 9), type := 29, pos := "laws.go:344", after := #[{ on := 10, ground := Ground.guard }], guard := some (10, true) }) (v := ?vb10_11) rfl (by kernel_rfl) (by kernel_rfl) (by kernel_rfl) (fun _ _ _ h => h) (Or.inl ⟨by rfl, ?hyb10_11⟩) (by assumption) ?restb10_11
    case hyb10_11 => (intro w hSw; (try dsimp only at hSw); go_simp; try with_reducible rfl)
    try simp only [Act.put, List.setIfInBounds_toArray, List.set_cons_zero, List.set_cons_succ]
    refine wpAnyH_take (i := 12) (oi := { dst := some 112, op := Op.load 29 (Operand.tmp 11), type := 29, pos := "laws.go:344", after := #[{ on := 10, ground := Ground.guard }], guard := some (10, true) }) (v := ?vb11_12) rfl (by kernel_rfl) (by kernel_rfl) (by kernel_rfl) (fun _ _ _ h => h) (Or.inl ⟨by rfl, ?hyb11_12⟩) (by assumption) ?restb11_12
    case hyb11_12 => (intro w hSw; (try dsimp only at hSw); go_simp; try with_reducible rfl)
    try simp only [Act.put, List.setIfInBounds_toArray, List.set_cons_zero, List.set_cons_succ]
    clear hHeld
    refine wpAnyH_ready (rs := [13]) (by kernel_rfl) (by simp) ?_
    refine AllReadyH.cons (o := { dst := some 113, op := Op.call { callee := Callee.value (Operand.func 10), args := #[Operand.tmp 111, Operand.tmp 112], argTypes := #[29, 29] }, type := 4, pos := "laws.go:344", after := #[{ on := 11, ground := Ground.data }, { on := 12, ground := Ground.data }, { on := 10, ground := Ground.chain }, { on := 10, ground := Ground.guard }], guard := some (10, true) }) rfl (fun K hK => ?_) AllReadyH.nil
    go_simp
    refine (sameBox_bz g1 nm1 t1 b1 ny1 a3 N1 c3 d3 M1 e3 a4 c4 d4 e4 K1 H1 _ (Z3.out.later HV.out) (Z4.out.later HV.out)).mono ?_
    rintro e v13 ⟨rfl, hb⟩
    have HV := hid (btr HV.out hb)
    clear hb
    go_wp2_with fail
    refine hK.out _ _ (HS.out _ HV.out) (fun hHeld => ?_)
    clear hK K
    try simp only [Act.put, List.setIfInBounds_toArray, List.set_cons_zero, List.set_cons_succ]
    refine wpAnyH_take (i := 14) (oi := { dst := some 114, op := Op.pick (Operand.tmp 110) (Operand.tmp 113) (Operand.const (Value.bool false)), type := 4, pos := "laws.go:344", after := #[{ on := 10, ground := Ground.data }, { on := 13, ground := Ground.data }], guard := none }) (v := ?vb12_14) rfl (by kernel_rfl) (by kernel_rfl) (by kernel_rfl) (fun _ _ _ h => h) (Or.inl ⟨by rfl, ?hyb12_14⟩) (by assumption) ?restb12_14
    case hyb12_14 => (intro w hSw; (try dsimp only at hSw); go_simp; try with_reducible rfl)
    try simp only [Act.put, List.setIfInBounds_toArray, List.set_cons_zero, List.set_cons_succ]
    refine wpAnyH_take (i := 15) (oi := { dst := some 115, op := Op.move (Operand.tmp 114), type := 4, pos := "laws.go:344", after := #[{ on := 14, ground := Ground.data }, { on := 13, ground := Ground.chain }], guard := none }) (v := ?vb13_15) rfl (by kernel_rfl) (by kernel_rfl) (by kernel_rfl) (fun _ _ _ h => h) (Or.inl ⟨by rfl, ?hyb13_15⟩) (by assumption) ?restb13_15
    case hyb13_15 => (intro w hSw; (try dsimp only at hSw); go_simp; try with_reducible rfl)
    try simp only [Act.put, List.setIfInBounds_toArray, List.set_cons_zero, List.set_cons_succ]
    refine wpAnyH_take (i := 16) (oi := { dst := some 116, op := Op.move (Operand.tmp 18), type := 4, pos := "laws.go:344", after := #[{ on := 15, ground := Ground.guard }], guard := some (15, true) }) (v := ?vb14_16) rfl (by kernel_rfl) (by kernel_rfl) (by kernel_rfl) (fun _ _ _ h => h) (Or.inl ⟨by rfl, ?hyb14_16⟩) (by assumption) ?restb14_16
    case hyb14_16 => (intro w hSw; (try dsimp only at hSw); go_simp; try with_reducible rfl)
    try simp only [Act.put, List.setIfInBounds_toArray, List.set_cons_zero, List.set_cons_succ]
    refine wpAnyH_take (i := 17) (oi := { dst := some 117, op := Op.move (Operand.tmp 20), type := 4, pos := "laws.go:344", after := #[{ on := 15, ground := Ground.guard }], guard := some (15, true) }) (v := ?vb15_17) rfl (by kernel_rfl) (by kernel_rfl) (by kernel_rfl) (fun _ _ _ h => h) (Or.inl ⟨by rfl, ?hyb15_17⟩) (by assumption) ?restb15_17
    case hyb15_17 => (intro w hSw; (try dsimp only at hSw); go_simp; try with_reducible rfl)
    try simp only [Act.put, List.setIfInBounds_toArray, List.set_cons_zero, List.set_cons_succ]
    refine wpAnyH_take (i := 18) (oi := { dst := some 118, op := Op.binOp BinOp.eql 4 (Operand.tmp 116) (Operand.tmp 117) 4, type := 4, pos := "laws.go:344", after := #[{ on := 16, ground := Ground.data }, { on := 17, ground := Ground.data }, { on := 15, ground := Ground.guard }], guard := some (15, true) }) (v := ?vb16_18) rfl (by kernel_rfl) (by kernel_rfl) (by kernel_rfl) (fun _ _ _ h => h) (Or.inl ⟨by rfl, ?hyb16_18⟩) (by assumption) ?restb16_18
    case hyb16_18 => (intro w hSw; (try dsimp only at hSw); go_simp; try with_reducible rfl)
    try simp only [Act.put, List.setIfInBounds_toArray, List.set_cons_zero, List.set_cons_succ]
    refine wpAnyH_take (i := 19) (oi := { dst := some 119, op := Op.pick (Operand.tmp 115) (Operand.tmp 118) (Operand.const (Value.bool false)), type := 4, pos := "laws.go:344", after := #[{ on := 15, ground := Ground.data }, { on := 18, ground := Ground.data }], guard := none }) (v := ?vb17_19) rfl (by kernel_rfl) (by kernel_rfl) (by kernel_rfl) (fun _ _ _ h => h) (Or.inl ⟨by rfl, ?hyb17_19⟩) (by assumption) ?restb17_19
    case hyb17_19 => (intro w hSw; (try dsimp only at hSw); go_simp; try with_reducible rfl)
    try simp only [Act.put, List.setIfInBounds_toArray, List.set_cons_zero, List.set_cons_succ]
    refine wpAnyH_take (i := 20) (oi := { dst := some 120, op := Op.move (Operand.tmp 119), type := 4, pos := "laws.go:344", after := #[{ on := 19, ground := Ground.data }, { on := 15, ground := Ground.chain }], guard := none }) (v := ?vb18_20) rfl (by kernel_rfl) (by kernel_rfl) (by kernel_rfl) (fun _ _ _ h => h) (Or.inl ⟨by rfl, ?hyb18_20⟩) (by assumption) ?restb18_20
    case hyb18_20 => (intro w hSw; (try dsimp only at hSw); go_simp; try with_reducible rfl)
    try simp only [Act.put, List.setIfInBounds_toArray, List.set_cons_zero, List.set_cons_succ]
    refine wpAnyH_take (i := 21) (oi := { dst := some 121, op := Op.load 29 (Operand.tmp 17), type := 29, pos := "laws.go:344", after := #[{ on := 20, ground := Ground.guard }], guard := some (20, true) }) (v := ?vb19_21) rfl (by kernel_rfl) (by kernel_rfl) (by kernel_rfl) (fun _ _ _ h => h) (Or.inl ⟨by rfl, ?hyb19_21⟩) (by assumption) ?restb19_21
    case hyb19_21 => (intro w hSw; (try dsimp only at hSw); go_simp; try with_reducible rfl)
    try simp only [Act.put, List.setIfInBounds_toArray, List.set_cons_zero, List.set_cons_succ]
    refine wpAnyH_take (i := 22) (oi := { dst := some 122, op := Op.load 29 (Operand.tmp 19), type := 29, pos := "laws.go:344", after := #[{ on := 20, ground := Ground.guard }], guard := some (20, true) }) (v := ?vb20_22) rfl (by kernel_rfl) (by kernel_rfl) (by kernel_rfl) (fun _ _ _ h => h) (Or.inl ⟨by rfl, ?hyb20_22⟩) (by assumption) ?restb20_22
    case hyb20_22 => (intro w hSw; (try dsimp only at hSw); go_simp; try with_reducible rfl)
    try simp only [Act.put, List.setIfInBounds_toArray, List.set_cons_zero, List.set_cons_succ]
    clear hHeld
    refine wpAnyH_ready (rs := [23]) (by kernel_rfl) (by simp) ?_
    refine AllReadyH.cons (o := { dst := some 123, op := Op.call { callee := Callee.value (Operand.func 10), args := #[Operand.tmp 121, Operand.tmp 122], argTypes := #[29, 29] }, type := 4, pos := "laws.go:344", after := #[{ on := 21, ground := Ground.data }, { on := 22, ground := Ground.data }, { on := 20, ground := Ground.chain }, { on := 20, ground := Ground.guard }], guard := some (20, true) }) rfl (fun K hK => ?_) AllReadyH.nil
    go_simp
    refine (sameBox_bz g2 nm2 t2 b2 nx2 a6 N2 c6 d6 M2 e6 a7 c7 d7 e7 K2 H2 _ (Z6.out.later HV.out) (Z7.out.later HV.out)).mono ?_
    rintro e v23 ⟨rfl, hb⟩
    have HV := hid (btr HV.out hb)
    clear hb
    go_wp2_with fail
    refine hK.out _ _ (HS.out _ HV.out) (fun hHeld => ?_)
    clear hK K
    try simp only [Act.put, List.setIfInBounds_toArray, List.set_cons_zero, List.set_cons_succ]
    refine wpAnyH_take (i := 24) (oi := { dst := some 124, op := Op.pick (Operand.tmp 120) (Operand.tmp 123) (Operand.const (Value.bool false)), type := 4, pos := "laws.go:344", after := #[{ on := 20, ground := Ground.data }, { on := 23, ground := Ground.data }], guard := none }) (v := ?vb21_24) rfl (by kernel_rfl) (by kernel_rfl) (by kernel_rfl) (fun _ _ _ h => h) (Or.inl ⟨by rfl, ?hyb21_24⟩) (by assumption) ?restb21_24
    case hyb21_24 => (intro w hSw; (try dsimp only at hSw); go_simp; try with_reducible rfl)
    try simp only [Act.put, List.setIfInBounds_toArray, List.set_cons_zero, List.set_cons_succ]
    refine wpAnyH_take (i := 25) (oi := { dst := some 125, op := Op.move (Operand.tmp 124), type := 4, pos := "laws.go:344", after := #[{ on := 24, ground := Ground.data }, { on := 23, ground := Ground.chain }], guard := none }) (v := ?vb22_25) rfl (by kernel_rfl) (by kernel_rfl) (by kernel_rfl) (fun _ _ _ h => h) (Or.inl ⟨by rfl, ?hyb22_25⟩) (by assumption) ?restb22_25
    case hyb22_25 => (intro w hSw; (try dsimp only at hSw); go_simp; try with_reducible rfl)
    try simp only [Act.put, List.setIfInBounds_toArray, List.set_cons_zero, List.set_cons_succ]
    refine wpAnyH_take (i := 26) (oi := { dst := some 126, op := Op.move (Operand.tmp 24), type := 4, pos := "laws.go:344", after := #[{ on := 25, ground := Ground.guard }], guard := some (25, true) }) (v := ?vb23_26) rfl (by kernel_rfl) (by kernel_rfl) (by kernel_rfl) (fun _ _ _ h => h) (Or.inl ⟨by rfl, ?hyb23_26⟩) (by assumption) ?restb23_26
    case hyb23_26 => (intro w hSw; (try dsimp only at hSw); go_simp; try with_reducible rfl)
    try simp only [Act.put, List.setIfInBounds_toArray, List.set_cons_zero, List.set_cons_succ]
    refine wpAnyH_take (i := 27) (oi := { dst := some 127, op := Op.move (Operand.tmp 26), type := 4, pos := "laws.go:344", after := #[{ on := 25, ground := Ground.guard }], guard := some (25, true) }) (v := ?vb24_27) rfl (by kernel_rfl) (by kernel_rfl) (by kernel_rfl) (fun _ _ _ h => h) (Or.inl ⟨by rfl, ?hyb24_27⟩) (by assumption) ?restb24_27
    case hyb24_27 => (intro w hSw; (try dsimp only at hSw); go_simp; try with_reducible rfl)
    try simp only [Act.put, List.setIfInBounds_toArray, List.set_cons_zero, List.set_cons_succ]
    refine wpAnyH_take (i := 28) (oi := { dst := some 128, op := Op.binOp BinOp.eql 4 (Operand.tmp 126) (Operand.tmp 127) 4, type := 4, pos := "laws.go:344", after := #[{ on := 26, ground := Ground.data }, { on := 27, ground := Ground.data }, { on := 25, ground := Ground.guard }], guard := some (25, true) }) (v := ?vb25_28) rfl (by kernel_rfl) (by kernel_rfl) (by kernel_rfl) (fun _ _ _ h => h) (Or.inl ⟨by rfl, ?hyb25_28⟩) (by assumption) ?restb25_28
    case hyb25_28 => (intro w hSw; (try dsimp only at hSw); go_simp; try with_reducible rfl)
    try simp only [Act.put, List.setIfInBounds_toArray, List.set_cons_zero, List.set_cons_succ]
    refine wpAnyH_take (i := 29) (oi := { dst := some 129, op := Op.pick (Operand.tmp 125) (Operand.tmp 128) (Operand.const (Value.bool false)), type := 4, pos := "laws.go:344", after := #[{ on := 25, ground := Ground.data }, { on := 28, ground := Ground.data }], guard := none }) (v := ?vb26_29) rfl (by kernel_rfl) (by kernel_rfl) (by kernel_rfl) (fun _ _ _ h => h) (Or.inl ⟨by rfl, ?hyb26_29⟩) (by assumption) ?restb26_29
    case hyb26_29 => (intro w hSw; (try dsimp only at hSw); go_simp; try with_reducible rfl)
    try simp only [Act.put, List.setIfInBounds_toArray, List.set_cons_zero, List.set_cons_succ]
    refine wpAnyH_take (i := 30) (oi := { dst := some 130, op := Op.move (Operand.tmp 129), type := 4, pos := "laws.go:344", after := #[{ on := 29, ground := Ground.data }, { on := 25, ground := Ground.chain }], guard := none }) (v := ?vb27_30) rfl (by kernel_rfl) (by kernel_rfl) (by kernel_rfl) (fun _ _ _ h => h) (Or.inl ⟨by rfl, ?hyb27_30⟩) (by assumption) ?restb27_30
    case hyb27_30 => (intro w hSw; (try dsimp only at hSw); go_simp; try with_reducible rfl)
    try simp only [Act.put, List.setIfInBounds_toArray, List.set_cons_zero, List.set_cons_succ]
    refine wpAnyH_take (i := 31) (oi := { dst := some 131, op := Op.load 29 (Operand.tmp 23), type := 29, pos := "laws.go:344", after := #[{ on := 30, ground := Ground.guard }], guard := some (30, true) }) (v := ?vb28_31) rfl (by kernel_rfl) (by kernel_rfl) (by kernel_rfl) (fun _ _ _ h => h) (Or.inl ⟨by rfl, ?hyb28_31⟩) (by assumption) ?restb28_31
    case hyb28_31 => (intro w hSw; (try dsimp only at hSw); go_simp; try with_reducible rfl)
    try simp only [Act.put, List.setIfInBounds_toArray, List.set_cons_zero, List.set_cons_succ]
    refine wpAnyH_take (i := 32) (oi := { dst := some 132, op := Op.load 29 (Operand.tmp 25), type := 29, pos := "laws.go:344", after := #[{ on := 30, ground := Ground.guard }], guard := some (30, true) }) (v := ?vb29_32) rfl (by kernel_rfl) (by kernel_rfl) (by kernel_rfl) (fun _ _ _ h => h) (Or.inl ⟨by rfl, ?hyb29_32⟩) (by assumption) ?restb29_32
    case hyb29_32 => (intro w hSw; (try dsimp only at hSw); go_simp; try with_reducible rfl)
    try simp only [Act.put, List.setIfInBounds_toArray, List.set_cons_zero, List.set_cons_succ]
    clear hHeld
    refine wpAnyH_ready (rs := [33]) (by kernel_rfl) (by simp) ?_
    refine AllReadyH.cons (o := { dst := some 133, op := Op.call { callee := Callee.value (Operand.func 10), args := #[Operand.tmp 131, Operand.tmp 132], argTypes := #[29, 29] }, type := 4, pos := "laws.go:344", after := #[{ on := 31, ground := Ground.data }, { on := 32, ground := Ground.data }, { on := 30, ground := Ground.chain }, { on := 30, ground := Ground.guard }], guard := some (30, true) }) rfl (fun K hK => ?_) AllReadyH.nil
    go_simp
    refine (sameBox_bz g8 nm8 t8 b8 nx8 a9 N8 c9 d9 M8 e9 a10 c10 d10 e10 K8 H8 _ (Z9.out.later HV.out) (Z10.out.later HV.out)).mono ?_
    rintro e v33 ⟨rfl, hb⟩
    have HV := hid (btr HV.out hb)
    clear hb
    go_wp2_with fail
    refine hK.out _ _ (HS.out _ HV.out) (fun hHeld => ?_)
    clear hK K
    try simp only [Act.put, List.setIfInBounds_toArray, List.set_cons_zero, List.set_cons_succ]
    refine wpAnyH_take (i := 34) (oi := { dst := some 134, op := Op.pick (Operand.tmp 130) (Operand.tmp 133) (Operand.const (Value.bool false)), type := 4, pos := "laws.go:344", after := #[{ on := 30, ground := Ground.data }, { on := 33, ground := Ground.data }], guard := none }) (v := ?vb30_34) rfl (by kernel_rfl) (by kernel_rfl) (by kernel_rfl) (fun _ _ _ h => h) (Or.inl ⟨by rfl, ?hyb30_34⟩) (by assumption) ?restb30_34
    case hyb30_34 => (intro w hSw; (try dsimp only at hSw); go_simp; try with_reducible rfl)
    try simp only [Act.put, List.setIfInBounds_toArray, List.set_cons_zero, List.set_cons_succ]
    refine wpAnyH_take (i := 35) (oi := { dst := some 135, op := Op.move (Operand.tmp 134), type := 4, pos := "laws.go:344", after := #[{ on := 34, ground := Ground.data }, { on := 33, ground := Ground.chain }], guard := none }) (v := ?vb31_35) rfl (by kernel_rfl) (by kernel_rfl) (by kernel_rfl) (fun _ _ _ h => h) (Or.inl ⟨by rfl, ?hyb31_35⟩) (by assumption) ?restb31_35
    case hyb31_35 => (intro w hSw; (try dsimp only at hSw); go_simp; try with_reducible rfl)
    try simp only [Act.put, List.setIfInBounds_toArray, List.set_cons_zero, List.set_cons_succ]
    refine wpAnyH_take (i := 36) (oi := { dst := some 136, op := Op.move (Operand.tmp 27), type := 9, pos := "laws.go:344", after := #[{ on := 35, ground := Ground.guard }], guard := some (35, true) }) (v := ?vb32_36) rfl (by kernel_rfl) (by kernel_rfl) (by kernel_rfl) (fun _ _ _ h => h) (Or.inl ⟨by rfl, ?hyb32_36⟩) (by assumption) ?restb32_36
    case hyb32_36 => (intro w hSw; (try dsimp only at hSw); go_simp; try with_reducible rfl)
    try simp only [Act.put, List.setIfInBounds_toArray, List.set_cons_zero, List.set_cons_succ]
    refine wpAnyH_take (i := 38) (oi := { dst := some 138, op := Op.move (Operand.tmp 27), type := 9, pos := "laws.go:344", after := #[{ on := 35, ground := Ground.guard }], guard := some (35, true) }) (v := ?vb33_38) rfl (by kernel_rfl) (by kernel_rfl) (by kernel_rfl) (fun _ _ _ h => h) (Or.inl ⟨by rfl, ?hyb33_38⟩) (by assumption) ?restb33_38
    case hyb33_38 => (intro w hSw; (try dsimp only at hSw); go_simp; try with_reducible rfl)
    try simp only [Act.put, List.setIfInBounds_toArray, List.set_cons_zero, List.set_cons_succ]
    clear hHeld
    refine wpAnyH_ready (rs := [37]) (by kernel_rfl) (by simp) ?_
    refine AllReadyH.cons (o := { dst := some 137, op := Op.call { callee := Callee.value (Operand.func 27), args := #[Operand.tmp 136], argTypes := #[9] }, type := 4, pos := "laws.go:344", after := #[{ on := 36, ground := Ground.data }, { on := 35, ground := Ground.chain }, { on := 35, ground := Ground.guard }], guard := some (35, true) }) rfl (fun K hK => ?_) AllReadyH.nil
    go_simp
    refine (cni.out _).mono ?_
    rintro e v37 ⟨rfl, hb⟩
    have HV := hid (btr HV.out hb)
    clear hb
    go_wp2_with fail
    refine hK.out _ _ (HS.out _ HV.out) (fun hHeld => ?_)
    clear hK K
    try simp only [Act.put, List.setIfInBounds_toArray, List.set_cons_zero, List.set_cons_succ]
    clear hHeld
    refine wpAnyH_ready (rs := [39]) (by kernel_rfl) (by simp) ?_
    refine AllReadyH.cons (o := { dst := some 139, op := Op.call { callee := Callee.value (Operand.func 28), args := #[Operand.tmp 138], argTypes := #[9] }, type := 4, pos := "laws.go:344", after := #[{ on := 38, ground := Ground.data }, { on := 37, ground := Ground.chain }, { on := 35, ground := Ground.guard }], guard := some (35, true) }) rfl (fun K hK => ?_) AllReadyH.nil
    go_simp
    refine (cns.out _).mono ?_
    rintro e v39 ⟨rfl, hb⟩
    have HV := hid (btr HV.out hb)
    clear hb
    go_wp2_with fail
    refine hK.out _ _ (HS.out _ HV.out) (fun hHeld => ?_)
    clear hK K
    try simp only [Act.put, List.setIfInBounds_toArray, List.set_cons_zero, List.set_cons_succ]
    refine wpAnyH_take (i := 40) (oi := { dst := some 140, op := Op.binOp BinOp.eql 4 (Operand.tmp 137) (Operand.tmp 139) 4, type := 4, pos := "laws.go:344", after := #[{ on := 37, ground := Ground.data }, { on := 39, ground := Ground.data }, { on := 35, ground := Ground.guard }], guard := some (35, true) }) (v := ?vb34_40) rfl (by kernel_rfl) (by kernel_rfl) (by kernel_rfl) (fun _ _ _ h => h) (Or.inl ⟨by rfl, ?hyb34_40⟩) (by assumption) ?restb34_40
    case hyb34_40 => (intro w hSw; (try dsimp only at hSw); go_simp; try with_reducible rfl)
    try simp only [Act.put, List.setIfInBounds_toArray, List.set_cons_zero, List.set_cons_succ]
    refine wpAnyH_take (i := 41) (oi := { dst := some 141, op := Op.pick (Operand.tmp 135) (Operand.tmp 140) (Operand.const (Value.bool false)), type := 4, pos := "laws.go:344", after := #[{ on := 35, ground := Ground.data }, { on := 40, ground := Ground.data }], guard := none }) (v := ?vb35_41) rfl (by kernel_rfl) (by kernel_rfl) (by kernel_rfl) (fun _ _ _ h => h) (Or.inl ⟨by rfl, ?hyb35_41⟩) (by assumption) ?restb35_41
    case hyb35_41 => (intro w hSw; (try dsimp only at hSw); go_simp; try with_reducible rfl)
    try simp only [Act.put, List.setIfInBounds_toArray, List.set_cons_zero, List.set_cons_succ]
    refine wpAnyH_take (i := 42) (oi := { dst := some 142, op := Op.move (Operand.tmp 141), type := 4, pos := "laws.go:344", after := #[{ on := 41, ground := Ground.data }, { on := 39, ground := Ground.chain }], guard := none }) (v := ?vb36_42) rfl (by kernel_rfl) (by kernel_rfl) (by kernel_rfl) (fun _ _ _ h => h) (Or.inl ⟨by rfl, ?hyb36_42⟩) (by assumption) ?restb36_42
    case hyb36_42 => (intro w hSw; (try dsimp only at hSw); go_simp; try with_reducible rfl)
    try simp only [Act.put, List.setIfInBounds_toArray, List.set_cons_zero, List.set_cons_succ]
    refine wpAnyH_take (i := 43) (oi := { dst := some 143, op := Op.load 29 (Operand.tmp 3), type := 29, pos := "laws.go:344", after := #[{ on := 42, ground := Ground.guard }], guard := some (42, true) }) (v := ?vb37_43) rfl (by kernel_rfl) (by kernel_rfl) (by kernel_rfl) (fun _ _ _ h => h) (Or.inl ⟨by rfl, ?hyb37_43⟩) (by assumption) ?restb37_43
    case hyb37_43 => (intro w hSw; (try dsimp only at hSw); go_simp; try with_reducible rfl)
    try simp only [Act.put, List.setIfInBounds_toArray, List.set_cons_zero, List.set_cons_succ]
    refine wpAnyH_take (i := 44) (oi := { dst := some 144, op := Op.move (Operand.tmp 5), type := 3, pos := "laws.go:344", after := #[{ on := 42, ground := Ground.guard }], guard := some (42, true) }) (v := ?vb38_44) rfl (by kernel_rfl) (by kernel_rfl) (by kernel_rfl) (fun _ _ _ h => h) (Or.inl ⟨by rfl, ?hyb38_44⟩) (by assumption) ?restb38_44
    case hyb38_44 => (intro w hSw; (try dsimp only at hSw); go_simp; try with_reducible rfl)
    try simp only [Act.put, List.setIfInBounds_toArray, List.set_cons_zero, List.set_cons_succ]
    refine wpAnyH_take (i := 46) (oi := { dst := some 146, op := Op.load 29 (Operand.tmp 3), type := 29, pos := "laws.go:344", after := #[{ on := 42, ground := Ground.guard }], guard := some (42, true) }) (v := ?vb39_46) rfl (by kernel_rfl) (by kernel_rfl) (by kernel_rfl) (fun _ _ _ h => h) (Or.inl ⟨by rfl, ?hyb39_46⟩) (by assumption) ?restb39_46
    case hyb39_46 => (intro w hSw; (try dsimp only at hSw); go_simp; try with_reducible rfl)
    try simp only [Act.put, List.setIfInBounds_toArray, List.set_cons_zero, List.set_cons_succ]
    refine wpAnyH_take (i := 47) (oi := { dst := some 147, op := Op.move (Operand.tmp 5), type := 3, pos := "laws.go:344", after := #[{ on := 42, ground := Ground.guard }], guard := some (42, true) }) (v := ?vb40_47) rfl (by kernel_rfl) (by kernel_rfl) (by kernel_rfl) (fun _ _ _ h => h) (Or.inl ⟨by rfl, ?hyb40_47⟩) (by assumption) ?restb40_47
    case hyb40_47 => (intro w hSw; (try dsimp only at hSw); go_simp; try with_reducible rfl)
    try simp only [Act.put, List.setIfInBounds_toArray, List.set_cons_zero, List.set_cons_succ]
    clear hHeld
    refine wpAnyH_ready (rs := [45]) (by kernel_rfl) (by simp) ?_
    refine AllReadyH.cons (o := { dst := some 145, op := Op.call { callee := Callee.value (Operand.func 11), args := #[Operand.tmp 143, Operand.tmp 144], argTypes := #[29, 3] }, type := 3, pos := "laws.go:344", after := #[{ on := 43, ground := Ground.data }, { on := 44, ground := Ground.data }, { on := 42, ground := Ground.chain }, { on := 42, ground := Ground.guard }], guard := some (42, true) }) rfl (fun K hK => ?_) AllReadyH.nil
    go_simp
    refine (cmi.out ma0 mc0 ga0 gc0 _ (Z0.out.later HV.out)).mono ?_
    rintro e v45 ⟨rfl, hb⟩
    have HV := hid (btr HV.out hb)
    clear hb
    go_wp2_with fail
    refine hK.out _ _ (HS.out _ HV.out) (fun hHeld => ?_)
    clear hK K
    try simp only [Act.put, List.setIfInBounds_toArray, List.set_cons_zero, List.set_cons_succ]
    clear hHeld
    refine wpAnyH_ready (rs := [48]) (by kernel_rfl) (by simp) ?_
    refine AllReadyH.cons (o := { dst := some 148, op := Op.call { callee := Callee.value (Operand.func 29), args := #[Operand.tmp 146, Operand.tmp 147], argTypes := #[29, 3] }, type := 3, pos := "laws.go:344", after := #[{ on := 46, ground := Ground.data }, { on := 47, ground := Ground.data }, { on := 45, ground := Ground.chain }, { on := 42, ground := Ground.guard }], guard := some (42, true) }) rfl (fun K hK => ?_) AllReadyH.nil
    go_simp
    refine (cms.out ma0 mc0 ga0 gc0 _ (Z0.out.later HV.out)).mono ?_
    rintro e v48 ⟨rfl, hb⟩
    have HV := hid (btr HV.out hb)
    clear hb
    go_wp2_with fail
    refine hK.out _ _ (HS.out _ HV.out) (fun hHeld => ?_)
    clear hK K
    try simp only [Act.put, List.setIfInBounds_toArray, List.set_cons_zero, List.set_cons_succ]
    refine wpAnyH_take (i := 49) (oi := { dst := some 149, op := Op.binOp BinOp.eql 3 (Operand.tmp 145) (Operand.tmp 148) 3, type := 4, pos := "laws.go:344", after := #[{ on := 45, ground := Ground.data }, { on := 48, ground := Ground.data }, { on := 42, ground := Ground.guard }], guard := some (42, true) }) (v := ?vb41_49) rfl (by kernel_rfl) (by kernel_rfl) (by kernel_rfl) (fun _ _ _ h => h) (Or.inl ⟨by rfl, ?hyb41_49⟩) (by assumption) ?restb41_49
    case hyb41_49 => (intro w hSw; (try dsimp only at hSw); go_simp; try with_reducible rfl)
    try simp only [Act.put, List.setIfInBounds_toArray, List.set_cons_zero, List.set_cons_succ]
    refine wpAnyH_take (i := 50) (oi := { dst := some 150, op := Op.pick (Operand.tmp 142) (Operand.tmp 149) (Operand.const (Value.bool false)), type := 4, pos := "laws.go:344", after := #[{ on := 42, ground := Ground.data }, { on := 49, ground := Ground.data }], guard := none }) (v := ?vb42_50) rfl (by kernel_rfl) (by kernel_rfl) (by kernel_rfl) (fun _ _ _ h => h) (Or.inl ⟨by rfl, ?hyb42_50⟩) (by assumption) ?restb42_50
    case hyb42_50 => (intro w hSw; (try dsimp only at hSw); go_simp; try with_reducible rfl)
    try simp only [Act.put, List.setIfInBounds_toArray, List.set_cons_zero, List.set_cons_succ]
    refine wpAnyH_take (i := 51) (oi := { dst := some 2, op := Op.assign (Operand.tmp 150), type := 4, pos := "laws.go:344", after := #[{ on := 50, ground := Ground.data }, { on := 48, ground := Ground.chain }, { on := 0, ground := Ground.phase }, { on := 1, ground := Ground.phase }, { on := 2, ground := Ground.phase }, { on := 3, ground := Ground.phase }, { on := 4, ground := Ground.phase }, { on := 5, ground := Ground.phase }, { on := 6, ground := Ground.phase }, { on := 7, ground := Ground.phase }, { on := 8, ground := Ground.phase }, { on := 9, ground := Ground.phase }, { on := 10, ground := Ground.phase }, { on := 11, ground := Ground.phase }, { on := 12, ground := Ground.phase }, { on := 13, ground := Ground.phase }, { on := 14, ground := Ground.phase }, { on := 15, ground := Ground.phase }, { on := 16, ground := Ground.phase }, { on := 17, ground := Ground.phase }, { on := 18, ground := Ground.phase }, { on := 19, ground := Ground.phase }, { on := 20, ground := Ground.phase }, { on := 21, ground := Ground.phase }, { on := 22, ground := Ground.phase }, { on := 23, ground := Ground.phase }, { on := 24, ground := Ground.phase }, { on := 25, ground := Ground.phase }, { on := 26, ground := Ground.phase }, { on := 27, ground := Ground.phase }, { on := 28, ground := Ground.phase }, { on := 29, ground := Ground.phase }, { on := 30, ground := Ground.phase }, { on := 31, ground := Ground.phase }, { on := 32, ground := Ground.phase }, { on := 33, ground := Ground.phase }, { on := 34, ground := Ground.phase }, { on := 35, ground := Ground.phase }, { on := 36, ground := Ground.phase }, { on := 37, ground := Ground.phase }, { on := 38, ground := Ground.phase }, { on := 39, ground := Ground.phase }, { on := 40, ground := Ground.phase }, { on := 41, ground := Ground.phase }, { on := 42, ground := Ground.phase }, { on := 43, ground := Ground.phase }, { on := 44, ground := Ground.phase }, { on := 45, ground := Ground.phase }, { on := 46, ground := Ground.phase }, { on := 47, ground := Ground.phase }, { on := 48, ground := Ground.phase }, { on := 49, ground := Ground.phase }, { on := 50, ground := Ground.phase }], guard := none }) (v := ?vb43_51) rfl (by kernel_rfl) (by kernel_rfl) (by kernel_rfl) (fun _ _ _ h => h) (Or.inl ⟨by rfl, ?hyb43_51⟩) (by assumption) ?restb43_51
    case hyb43_51 => (intro w hSw; (try dsimp only at hSw); go_simp; try with_reducible rfl)
    try simp only [Act.put, List.setIfInBounds_toArray, List.set_cons_zero, List.set_cons_succ]
    refine wpAnyH_done (by kernel_rfl) ?_ _
    refine NoPanic.normal ?_
    go_wp2
    go_ret
    exact ⟨rfl, btr BE.out HV.out⟩

  · go_enter Tryz.func5, Tryz.ntmps5
    go_wp2_with fail
    refine (bigF_yes ao n cap _ hbig).mono ?_; rintro e w' ⟨rfl, h'⟩
    rw [h']
    clear h'
    go_wp2
    go_ret
    exact ⟨rfl, bre _⟩
end Go.Proofs.YtfmacodnjhegcabGreat
