/- The walk of the law of marked boxes. -/
import Derived.Test.YtfmacodnjhegcabGreatBmk
namespace Go.Proofs.YtfmacodnjhegcabGreat
open Go.RowKit Go.ChangeMaps

/-- The first two of the drawn places. -/
def Pc (W : World) (gp x y : Nat) : Prop := gp < W.heap.size ∧ W.cell? ⟨gp, 0, none⟩ = some (.int .i64 (x : Int)) ∧ W.cell? ⟨gp, 1, none⟩ = some (.int .i64 (y : Int))
theorem Pc.later {W W' : World} {gp x y : Nat} (h : Pc W gp x y) (hb : Below W.heap.size W W') : Pc W' gp x y :=
  ⟨Nat.lt_of_lt_of_le h.1 hb.size, (hb.cell (p := ⟨gp, 0, none⟩) h.1).trans h.2.1, (hb.cell (p := ⟨gp, 1, none⟩) h.1).trans h.2.2⟩
theorem tmodEight (x : Nat) : ∃ r : Nat, (x : Int).tmod 8 = (r : Int) ∧ r < 8 := ⟨x % 8, by rw [Int.tmod_eq_emod_of_nonneg (by omega)]; omega, by omega⟩

set_option maxHeartbeats 64000000 in
set_option maxRecDepth 100000 in
theorem lawMarked_any (ao : Option Addr) (n cap : Nat) (w : World) (hcode : Code w w.heap.size ao n) :
    Calls Tryz.prog 4 #[.slice ao n cap] w fun e w' => e = .returned (.bool true) ∧ Below w.heap.size w w' := by
  have HO := hid hcode
  have BE := hid (bre w)
  clear hcode
  by_cases hbig : ¬ n ≤ 1048576
  · go_enter Tryz.func4, Tryz.ntmps4
    go_wp2_with fail
    refine (bigF_yes ao n cap _ hbig).mono ?_; rintro e w' ⟨rfl, h'⟩
    rw [h']
    clear h'
    go_wp2
    go_ret
    exact ⟨rfl, bre _⟩
  · have hbig := Classical.not_not.1 hbig
    go_enter Tryz.func4, Tryz.ntmps4
    go_wp2_with fail
    refine (bigF_no ao n cap _ hbig).mono ?_; rintro e w' ⟨rfl, h'⟩
    rw [h']
    clear h'
    go_wp2_with fail
    refine (drawBox_any ao n cap _ hbig HO.out).mono ?_; rintro e w1 ⟨g0, nm0, t0, b0, nx0, ma0, mn0, mc0, ga0, gn0, gc0, L0, G0, rfl, hd, hq, hb⟩
    obtain ⟨hz0, hnz0⟩ := hq.bz
    have NZ0 : Hid (nm0.size ≤ 1048576) := Nat.le_trans hnz0 (by decide)
    have D0 := hid hd
    obtain ⟨k0, hk0⟩ : ∃ k0, w1.heap.size = k0 := ⟨_, rfl⟩
    obtain ⟨W1, hW1⟩ : ∃ W1, (w1.alloc (.cells #[.int .i64 g0, .string nm0, .int .i64 t0, .int .i64 b0, .int .i64 nx0, .slice ma0 mn0 mc0, .slice ga0 gn0 gc0] 29)) = W1 := ⟨_, rfl⟩
    have HB1 : Below w.heap.size w W1 := by rw [← hW1]; exact bpush (hb) _
    have BE := hid (btr BE.out HB1)
    clear HB1
    have X0 : Hid (Bx W1 k0 29 g0 nm0 t0 b0 nx0 (.slice ma0 mn0 mc0) (.slice ga0 gn0 gc0)) := by rw [← hW1, ← hk0]; exact Bx.new _ _ _ _ _ _ _ _ _
    have Z0 : Hid (Bz W1 ma0 mn0 mc0 ga0 gn0 gc0 L0 G0) := by rw [← hW1]; exact hz0.later (bpush (bre _) _)
    clear hq hz0 hnz0 hb hd
    go_wp2_with fail
    try rw [hk0]
    try rw [hW1]
    clear hk0 hW1
    refine (drawPlaces_any ao n cap _ hbig (HO.out.over BE.out)).mono ?_; rintro e w2 ⟨gp, cp, x, y, rfl, hgp, hcx, hcy, hx, hy, hb⟩
    have PC : Hid (Pc w2 gp x y) := ⟨hgp, hcx, hcy⟩
    have HB2 := hb
    have X0 := hid (X0.out.later HB2)
    have Z0 := hid (Z0.out.later HB2)
    have BE := hid (btr BE.out HB2)
    clear HB2
    clear hgp hcx hcy hb hy hx
    by_cases hm : mn0 = 0
    · have hm0 : ((mn0 : Int) == 0) = true := by simp; omega
      have HM0 := hid hm
      clear hm
      have q0 := X0.out.cells
      go_wp2_with fail
      clear q0
      clear hm0
      have HNO := hid (fn_none (g := g0) (nm := nm0) (t := t0) (b := b0) (nx := nx0) (G := G0) (gid := 10) (n := 1) (st := 60) (sb := 1) (show L0.length = 0 by rw [Z0.out.len]; exact HM0.out))
      obtain ⟨p1, K1, H1, N1, M1, hdef1, hlen1, _, ci1⟩ := flag_two g0 nm0 t0 b0 nx0 mn0 gn0 L0 G0 10 1 60 1 NZ0.out Z0.out.len Z0.out.most Z0.out.sm Z0.out.glen Z0.out.gmost
      have ep := hdef1.out.1
      rw [HNO.out.1] at ep
      subst ep
      clear hdef1 hlen1
      refine (ci1.out ma0 mc0 ga0 gc0 _ Z0.out).mono ?_; rintro e w3 ⟨a5, c5, d5, e5, rfl, hz, hb⟩
      obtain ⟨k5, hk5⟩ : ∃ k5, w3.heap.size = k5 := ⟨_, rfl⟩
      obtain ⟨W21, hW21⟩ : ∃ W21, (w3.alloc (.cells #[.int .i64 g0, .string nm0, .int .i64 t0, .int .i64 b0, .int .i64 nx0, .slice a5 N1 c5, .slice d5 M1 e5] 29)) = W21 := ⟨_, rfl⟩
      have HB21 : Below w2.heap.size w2 W21 := by rw [← hW21]; exact bpush (hb) _
      have X0 := hid (X0.out.later HB21)
      have Z0 := hid (Z0.out.later HB21)
      have PC := hid (PC.out.later HB21)
      have BE := hid (btr BE.out HB21)
      clear HB21
      have X5 : Hid (Bx W21 k5 29 g0 nm0 t0 b0 nx0 (.slice a5 N1 c5) (.slice d5 M1 e5)) := by rw [← hW21, ← hk5]; exact Bx.new _ _ _ _ _ _ _ _ _
      have Z5 : Hid (Bz W21 a5 N1 c5 d5 M1 e5 K1 H1) := by rw [← hW21]; exact hz.bz.later (bpush (bre _) _)
      clear hz hb
      have q0 := X0.out.cells
      go_wp2_with fail
      clear q0
      try rw [hk5]
      try rw [hW21]
      clear hk5 hW21
      clear ci1
      obtain ⟨p2, K2, H2, N2, M2, hdef2, hlen2, _, ci2⟩ := take_two g0 nm0 t0 b0 nx0 mn0 gn0 L0 G0 10 NZ0.out Z0.out.len Z0.out.most Z0.out.sm Z0.out.glen Z0.out.gmost
      have ep := hdef2.out.1
      rw [HNO.out.2] at ep
      subst ep
      clear hdef2 hlen2
      refine (ci2.out ma0 mc0 ga0 gc0 _ Z0.out).mono ?_; rintro e w4 ⟨a7, c7, d7, e7, rfl, hz, hb⟩
      obtain ⟨k7, hk7⟩ : ∃ k7, w4.heap.size = k7 := ⟨_, rfl⟩
      obtain ⟨W22, hW22⟩ : ∃ W22, (w4.alloc (.cells #[.int .i64 g0, .string nm0, .int .i64 t0, .int .i64 b0, .int .i64 nx0, .slice a7 N2 c7, .slice d7 M2 e7] 29)) = W22 := ⟨_, rfl⟩
      have HB22 : Below W21.heap.size W21 W22 := by rw [← hW22]; exact bpush (hb) _
      have X0 := hid (X0.out.later HB22)
      have Z0 := hid (Z0.out.later HB22)
      have PC := hid (PC.out.later HB22)
      have X5 := hid (X5.out.later HB22)
      have Z5 := hid (Z5.out.later HB22)
      have BE := hid (btr BE.out HB22)
      clear HB22
      have X7 : Hid (Bx W22 k7 29 g0 nm0 t0 b0 nx0 (.slice a7 N2 c7) (.slice d7 M2 e7)) := by rw [← hW22, ← hk7]; exact Bx.new _ _ _ _ _ _ _ _ _
      have Z7 : Hid (Bz W22 a7 N2 c7 d7 M2 e7 K2 H2) := by rw [← hW22]; exact hz.bz.later (bpush (bre _) _)
      clear hz hb
      have q0 := X0.out.cells
      go_wp2_with fail
      clear q0
      try rw [hk7]
      try rw [hW22]
      clear hk7 hW22
      clear ci2
      obtain ⟨pc, hpc, _, cbc⟩ := box_two g0 nm0 t0 b0 nx0 mn0 gn0 L0 G0 NZ0.out Z0.out.len Z0.out.most Z0.out.sm Z0.out.glen Z0.out.gmost
      have epc : pc = true := by rw [hpc.out]; exact D0.out.right
      subst epc
      refine (cbc.out ma0 mc0 ga0 gc0 _ Z0.out).mono ?_; rintro e w5 ⟨rfl, hb⟩
      have BE := hid (btr BE.out hb)
      clear hb
      go_wp2
      go_ret
      exact ⟨rfl, BE.out⟩
    · have hm1 : ((mn0 : Int) == 0) = false := by simp; omega
      obtain ⟨r, hr, hrl⟩ := tmodBy x mn0 (by omega)
      have HRL := hid hrl
      have hrL : r < L0.length := by rw [Z0.out.len]; exact hrl
      obtain ⟨nn, hnn, hn8⟩ := tmodEight y
      have HNN : Hid (0 ≤ (nn : Int) ∧ (nn : Int) ≤ 7) := by show _ ∧ _; omega
      have HX := hid (fn_marked D0.out HNN.out hrL)
      obtain ⟨mr, hmr⟩ : ∃ mr, L0[r] = mr := ⟨_, rfl⟩
      rw [hmr] at HX
      have HMR : Hid (L0[r]? = some mr) := by show _ = _; rw [List.getElem?_eq_getElem hrL, hmr]
      obtain ⟨gr, ur, fr, tr⟩ := mr
      dsimp only at HX
      obtain ⟨_, _, kr, or_, fa, fc, hma, hkr, hC, hRs⟩ := ml_at Z0.out HMR.out
      subst hma
      have hmz : ¬ (mn0 : Int) = 0 := by omega
      clear hrl hn8 hmr hrL
      have HC0 := hid hC
      have HKR := hid hkr
      have HR := hid hr
      have HN := hid hnn
      clear hr hnn hC hkr hRs
      have q0 := X0.out.cells
      go_wp2_with fail
      clear q0 hm1
      have hr := HR.out
      try dsimp only [List.append]
      refine wp_region_noPanic ?_
      refine wp_region_held_drew (S := (fun W => (W.cell? ⟨gp, 0, none⟩ = some (.int .i64 (x : Int)) ∧ W.cell? ⟨k0, 5, none⟩ = some (.slice (some ⟨kr, or_, none⟩) mn0 mc0)))) (by kernel_rfl) (⟨(PC.out.later (bdr (bre _))).2.1, (X0.out.later (bdr (bre _))).cells.2.2.2.2.2.1⟩) (fun hHeld => ?_)
      refine wpAnyH_take (i := 0) (oi := { dst := some 50, op := Op.move (Operand.tmp 4), type := 27, pos := "laws.go:310", after := #[], guard := none }) (v := ?vb1_0) rfl (by kernel_rfl) (by kernel_rfl) (by kernel_rfl) (fun _ _ _ h => h) (Or.inl ⟨by rfl, ?hyb1_0⟩) (by assumption) ?restb1_0
      case hyb1_0 => (intro w hSw; (try dsimp only at hSw); go_simp; try with_reducible rfl)
      try simp only [Act.put, List.setIfInBounds_toArray, List.set_cons_zero, List.set_cons_succ]
      refine wpAnyH_take (i := 1) (oi := { dst := some 51, op := Op.indexAddr 27 (Operand.tmp 50) (Operand.const (Value.int IntKind.i64 0)), type := 0, pos := "laws.go:310", after := #[{ on := 0, ground := Ground.data }], guard := none }) (v := ?vb2_1) rfl (by kernel_rfl) (by kernel_rfl) (by kernel_rfl) (fun _ _ _ h => h) (Or.inl ⟨by rfl, ?hyb2_1⟩) (by assumption) ?restb2_1
      case hyb2_1 => (intro w hSw; (try dsimp only at hSw); go_simp; try with_reducible rfl)
      try simp only [Act.put, List.setIfInBounds_toArray, List.set_cons_zero, List.set_cons_succ]
      refine wpAnyH_take (i := 2) (oi := { dst := some 52, op := Op.load 3 (Operand.tmp 51), type := 3, pos := "laws.go:310", after := #[{ on := 1, ground := Ground.data }], guard := none }) (v := ?vb3_2) rfl (by kernel_rfl) (by kernel_rfl) (by kernel_rfl) (fun _ _ _ h => h) (Or.inl ⟨by rfl, ?hyb3_2⟩) (by assumption) ?restb3_2
      case hyb3_2 => (intro w hSw; (try dsimp only at hSw); go_simp; try with_reducible rfl)
      try simp only [Act.put, List.setIfInBounds_toArray, List.set_cons_zero, List.set_cons_succ]
      refine wpAnyH_take (i := 3) (oi := { dst := some 53, op := Op.fieldAddr 29 (Operand.tmp 3) 4, type := 0, pos := "laws.go:310", after := #[], guard := none }) (v := ?vb4_3) rfl (by kernel_rfl) (by kernel_rfl) (by kernel_rfl) (fun _ _ _ h => h) (Or.inl ⟨by rfl, ?hyb4_3⟩) (by assumption) ?restb4_3
      case hyb4_3 => (intro w hSw; (try dsimp only at hSw); go_simp; try with_reducible rfl)
      try simp only [Act.put, List.setIfInBounds_toArray, List.set_cons_zero, List.set_cons_succ]
      refine wpAnyH_take (i := 4) (oi := { dst := some 54, op := Op.load 26 (Operand.tmp 53), type := 26, pos := "laws.go:310", after := #[{ on := 3, ground := Ground.data }], guard := none }) (v := ?vb5_4) rfl (by kernel_rfl) (by kernel_rfl) (by kernel_rfl) (fun _ _ _ h => h) (Or.inl ⟨by rfl, ?hyb5_4⟩) (by assumption) ?restb5_4
      case hyb5_4 => (intro w hSw; (try dsimp only at hSw); go_simp; try with_reducible rfl)
      try simp only [Act.put, List.setIfInBounds_toArray, List.set_cons_zero, List.set_cons_succ]
      refine wpAnyH_take (i := 5) (oi := { dst := some 55, op := Op.call { callee := Callee.builtin Builtin.len, args := #[Operand.tmp 54], argTypes := #[26] }, type := 3, pos := "laws.go:310", after := #[{ on := 4, ground := Ground.data }], guard := none }) (v := ?vb6_5) rfl (by kernel_rfl) (by kernel_rfl) (by kernel_rfl) (fun _ _ _ h => h) (Or.inl ⟨by rfl, ?hyb6_5⟩) (by assumption) ?restb6_5
      case hyb6_5 => (intro w hSw; (try dsimp only at hSw); go_simp; try with_reducible rfl)
      try simp only [Act.put, List.setIfInBounds_toArray, List.set_cons_zero, List.set_cons_succ]
      refine wpAnyH_take (i := 6) (oi := { dst := some 56, op := Op.binOp BinOp.rem 3 (Operand.tmp 52) (Operand.tmp 55) 3, type := 3, pos := "laws.go:310", after := #[{ on := 2, ground := Ground.data }, { on := 5, ground := Ground.data }], guard := none }) (v := ?vb7_6) rfl (by kernel_rfl) (by kernel_rfl) (by kernel_rfl) (fun _ _ _ h => h) (Or.inl ⟨by rfl, ?hyb7_6⟩) (by assumption) ?restb7_6
      case hyb7_6 => (intro w hSw; (try dsimp only at hSw); go_simp; try with_reducible rfl)
      try simp only [Act.put, List.setIfInBounds_toArray, List.set_cons_zero, List.set_cons_succ]
      refine wpAnyH_take (i := 7) (oi := { dst := some 9, op := Op.assign (Operand.tmp 56), type := 3, pos := "laws.go:310", after := #[{ on := 6, ground := Ground.data }, { on := 0, ground := Ground.phase }, { on := 1, ground := Ground.phase }, { on := 2, ground := Ground.phase }, { on := 3, ground := Ground.phase }, { on := 4, ground := Ground.phase }, { on := 5, ground := Ground.phase }, { on := 6, ground := Ground.phase }], guard := none }) (v := ?vb8_7) rfl (by kernel_rfl) (by kernel_rfl) (by kernel_rfl) (fun _ _ _ h => h) (Or.inl ⟨by rfl, ?hyb8_7⟩) (by assumption) ?restb8_7
      case hyb8_7 => (intro w hSw; (try dsimp only at hSw); go_simp; try with_reducible rfl)
      try simp only [Act.put, List.setIfInBounds_toArray, List.set_cons_zero, List.set_cons_succ]
      refine wpAnyH_done (by kernel_rfl) ?_ _
      refine NoPanic.normal ?_
      clear hr
      obtain ⟨V0, hV0⟩ : ∃ V0, w2.drew = V0 := ⟨_, rfl⟩
      have HB40 : Below w2.heap.size w2 V0 := by rw [← hV0]; exact bdr (bre _)
      have X0 := hid (X0.out.later HB40)
      have Z0 := hid (Z0.out.later HB40)
      have PC := hid (PC.out.later HB40)
      have HC0 := hid (HC0.out.later HKR.out HB40)
      have HKR : Hid (kr < V0.heap.size) := Nat.lt_of_lt_of_le HKR.out HB40.size
      have BE := hid (btr BE.out HB40)
      clear HB40
      try rw [hV0]
      clear hV0 hmz
      have hn := HN.out
      have hI : (0 : Int) ≤ (r : Int) ∧ (r : Int) < (mn0 : Int) := by have := HRL.out; omega
      have q0 := X0.out.cells
      have q1 := HC0.out
      unfold C4 at q1
      have q2 := PC.out.2
      go_wp2_with fail
      clear q0 q1 q2 hn hI
      obtain ⟨p1, K1, H1, N1, M1, hdef1, hlen1, _, ci1⟩ := flag_two g0 nm0 t0 b0 nx0 mn0 gn0 L0 G0 gr (nn : Int) 60 1 NZ0.out Z0.out.len Z0.out.most Z0.out.sm Z0.out.glen Z0.out.gmost
      have e0 := hdef1.out
      rw [HX.out.1] at e0
      obtain ⟨ep, eK, eH⟩ := e0
      subst ep
      have HK1 := hid eK
      have eN : N1 = mn0 := by rw [← hlen1.out.1.1, eK, fmL_len]; exact Z0.out.len
      have eM : M1 = gn0 := by rw [← hlen1.out.2.1, eH]; exact Z0.out.glen
      subst eN
      subst eM
      clear eK eH hdef1 hlen1
      refine (ci1.out _ mc0 ga0 gc0 _ Z0.out).mono ?_; rintro e w3 ⟨a12, c12, d12, e12, rfl, hz, hb⟩
      obtain ⟨k12, hk12⟩ : ∃ k12, w3.heap.size = k12 := ⟨_, rfl⟩
      obtain ⟨W41, hW41⟩ : ∃ W41, (w3.alloc (.cells #[.int .i64 g0, .string nm0, .int .i64 t0, .int .i64 b0, .int .i64 nx0, .slice a12 N1 c12, .slice d12 M1 e12] 29)) = W41 := ⟨_, rfl⟩
      have HB41 : Below V0.heap.size V0 W41 := by rw [← hW41]; exact bpush (hb) _
      have X0 := hid (X0.out.later HB41)
      have Z0 := hid (Z0.out.later HB41)
      have PC := hid (PC.out.later HB41)
      have BE := hid (btr BE.out HB41)
      clear HB41
      have X12 : Hid (Bx W41 k12 29 g0 nm0 t0 b0 nx0 (.slice a12 N1 c12) (.slice d12 M1 e12)) := by rw [← hW41, ← hk12]; exact Bx.new _ _ _ _ _ _ _ _ _
      have Z12 : Hid (Bz W41 a12 N1 c12 d12 M1 e12 K1 H1) := by rw [← hW41]; exact hz.bz.later (bpush (bre _) _)
      clear hz hb
      have q0 := X0.out.cells
      go_wp2_with fail
      clear q0
      try rw [hk12]
      try rw [hW41]
      clear hk12 hW41
      clear ci1
      obtain ⟨p2, K2, H2, N2, M2, hdef2, hlen2, _, ci2⟩ := take_two g0 nm0 t0 b0 nx0 N1 M1 L0 G0 gr NZ0.out Z0.out.len Z0.out.most Z0.out.sm Z0.out.glen Z0.out.gmost
      have e0 := hdef2.out
      rw [HX.out.2.1] at e0
      obtain ⟨ep, eK, eH⟩ := e0
      subst ep
      have HK2 := hid eK
      have HH2 := hid eH
      clear eK eH hdef2 hlen2
      refine (ci2.out _ mc0 ga0 gc0 _ Z0.out).mono ?_; rintro e w4 ⟨a14, c14, d14, e14, rfl, hz, hb⟩
      obtain ⟨k14, hk14⟩ : ∃ k14, w4.heap.size = k14 := ⟨_, rfl⟩
      obtain ⟨W42, hW42⟩ : ∃ W42, (w4.alloc (.cells #[.int .i64 g0, .string nm0, .int .i64 t0, .int .i64 b0, .int .i64 nx0, .slice a14 N2 c14, .slice d14 M2 e14] 29)) = W42 := ⟨_, rfl⟩
      have HB42 : Below W41.heap.size W41 W42 := by rw [← hW42]; exact bpush (hb) _
      have X0 := hid (X0.out.later HB42)
      have Z0 := hid (Z0.out.later HB42)
      have PC := hid (PC.out.later HB42)
      have X12 := hid (X12.out.later HB42)
      have Z12 := hid (Z12.out.later HB42)
      have BE := hid (btr BE.out HB42)
      clear HB42
      have X14 : Hid (Bx W42 k14 29 g0 nm0 t0 b0 nx0 (.slice a14 N2 c14) (.slice d14 M2 e14)) := by rw [← hW42, ← hk14]; exact Bx.new _ _ _ _ _ _ _ _ _
      have Z14 : Hid (Bz W42 a14 N2 c14 d14 M2 e14 K2 H2) := by rw [← hW42]; exact hz.bz.later (bpush (bre _) _)
      clear hz hb
      go_wp2
      try rw [hk14]
      try rw [hW42]
      clear hk14 hW42
      clear ci2
      clear HC0 HKR
      go_loopw [16] (fun iv wr => ∃ k : Nat, k ≤ N1 ∧ iv = .int .i64 (k : Int) ∧ Below W42.heap.size W42 wr) (fun iv _ => N1 - (intOf iv).toNat)
      case atStart => exact ⟨0, Nat.zero_le _, rfl, bre _⟩
      case round =>
        obtain ⟨k, hk, rfl, hb⟩ := hrel
        have HBL := hid hb
        clear hb
        have X0 := hid (X0.out.later HBL.out)
        have Z0 := hid (Z0.out.later HBL.out)
        have X12 := hid (X12.out.later HBL.out)
        have Z12 := hid (Z12.out.later HBL.out)
        have X14 := hid (X14.out.later HBL.out)
        have Z14 := hid (Z14.out.later HBL.out)
        by_cases hlt : k < N1
        · have HLT := hid hlt
          have hN1 : N1 ≤ 1048576 := Z0.out.most
          have hkL : k < L0.length := by rw [Z0.out.len]; exact hlt
          obtain ⟨mk, hmk⟩ : ∃ mk, L0[k] = mk := ⟨_, rfl⟩
          have HMK : Hid (L0[k]? = some mk) := by show _ = _; rw [List.getElem?_eq_getElem hkL, hmk]
          have HNE : Hid (k ≠ r → (fmL true L0 gr nn 60 1)[k]? = some mk ∧ ∃ j : Nat, mat mk.1 (tkL true L0 gr) 0 = (j : Int) ∧ (tkL true L0 gr)[j]? = some mk) := fun hne => by rw [← hmk]; exact ⟨HX.out.2.2.1 k hkL hne, HX.out.2.2.2.2.2.1 k hkL hne⟩
          obtain ⟨gk, uk, fk, tk⟩ := mk
          dsimp only at HNE
          obtain ⟨_, hfl, kk, ok, fa1, fc1, hma, hkk, hC, hRs⟩ := ml_at Z0.out HMK.out
          simp only [Option.some.injEq, Addr.mk.injEq] at hma
          obtain ⟨e1, e2, _⟩ := hma
          subst e1
          subst e2
          dsimp only at hC hRs hfl
          obtain ⟨lk, hlk⟩ : ∃ lk, fk.length = lk := ⟨_, rfl⟩
          rw [hlk] at hC hfl
          have HLK := hid hlk
          have HFL := hid hfl
          have HRS := hid hRs
          clear hmk hkL hlk hfl hRs
          have hI : (0 : Int) ≤ (k : Int) ∧ (k : Int) < (N1 : Int) := by omega
          obtain ⟨km, hkm⟩ : ∃ km, wr.heap.size = km := ⟨_, rfl⟩
          obtain ⟨V1, hV1⟩ : ∃ V1, wr.alloc (.cells #[.int .i64 gk, .int .i64 uk, .slice fa1 lk fc1, .string tk] 39) = V1 := ⟨_, rfl⟩
          have HV1 : Below wr.heap.size wr V1 := by rw [← hV1]; exact bpush (bre _) _
          have MG : Hid (Mg V1 km 39 gk uk (.slice fa1 lk fc1) tk) := by rw [← hV1, ← hkm]; exact Mg.new wr _ _ _ _ _
          have X12 := hid (X12.out.later HV1)
          have Z12 := hid (Z12.out.later HV1)
          have X14 := hid (X14.out.later HV1)
          have Z14 := hid (Z14.out.later HV1)
          have HRS := hid (HRS.out.later HV1)
          have HBV := hid (btr HBL.out HV1)
          have q0 := X0.out.cells
          unfold C4 at hC
          clear HV1
          go_wp2_with fail
          try rw [hkm]
          try rw [hV1]
          clear hV1 hkm q0 hC hI
          by_cases hkr : k = r
          · subst hkr
            have e1 : ((k : Int) != (k : Int)) = false := by simp
            have e2 : ((k : Int) == (k : Int)) = true := by simp
            have HGK : Hid (gk = gr) := by have h1 := HMK.out; have h2 := HMR.out; rw [h1] at h2; simp only [Option.some.injEq, Prod.mk.injEq] at h2; exact h2.1
            try dsimp only [List.append]
            refine wp_region_noPanic ?_
            refine wp_region_held_drew (S := (fun _ => True)) (by kernel_rfl) (trivial) (fun hHeld => ?_)
            refine wpAnyH_take (i := 0) (oi := { dst := some 93, op := Op.move (Operand.tmp 16), type := 3, pos := "laws.go:317", after := #[], guard := none }) (v := ?vc1_0) rfl (by kernel_rfl) (by kernel_rfl) (by kernel_rfl) (fun _ _ _ h => h) (Or.inl ⟨by rfl, ?hyc1_0⟩) (by assumption) ?restc1_0
            case hyc1_0 => (intro w hSw; (try dsimp only at hSw); go_simp; try with_reducible rfl)
            try simp only [Act.put, List.setIfInBounds_toArray, List.set_cons_zero, List.set_cons_succ]
            refine wpAnyH_take (i := 1) (oi := { dst := some 94, op := Op.move (Operand.tmp 9), type := 3, pos := "laws.go:317", after := #[], guard := none }) (v := ?vc2_1) rfl (by kernel_rfl) (by kernel_rfl) (by kernel_rfl) (fun _ _ _ h => h) (Or.inl ⟨by rfl, ?hyc2_1⟩) (by assumption) ?restc2_1
            case hyc2_1 => (intro w hSw; (try dsimp only at hSw); go_simp; try with_reducible rfl)
            try simp only [Act.put, List.setIfInBounds_toArray, List.set_cons_zero, List.set_cons_succ]
            refine wpAnyH_take (i := 2) (oi := { dst := some 95, op := Op.binOp BinOp.neq 3 (Operand.tmp 93) (Operand.tmp 94) 3, type := 4, pos := "laws.go:317", after := #[{ on := 0, ground := Ground.data }, { on := 1, ground := Ground.data }], guard := none }) (v := ?vc3_2) rfl (by kernel_rfl) (by kernel_rfl) (by kernel_rfl) (fun _ _ _ h => h) (Or.inl ⟨by rfl, ?hyc3_2⟩) (by assumption) ?restc3_2
            case hyc3_2 => (intro w hSw; (try dsimp only at hSw); go_simp; try with_reducible rfl)
            try simp only [Act.put, List.setIfInBounds_toArray, List.set_cons_zero, List.set_cons_succ]
            refine wpAnyH_take (i := 3) (oi := { dst := some 96, op := Op.move (Operand.tmp 95), type := 4, pos := "laws.go:317", after := #[{ on := 2, ground := Ground.data }], guard := none }) (v := ?vc4_3) rfl (by kernel_rfl) (by kernel_rfl) (by kernel_rfl) (fun _ _ _ h => h) (Or.inl ⟨by rfl, ?hyc4_3⟩) (by assumption) ?restc4_3
            case hyc4_3 => (intro w hSw; (try dsimp only at hSw); go_simp; try with_reducible rfl)
            try simp only [Act.put, List.setIfInBounds_toArray, List.set_cons_zero, List.set_cons_succ]
            refine wpAnyH_take (i := 4) (oi := { dst := some 97, op := Op.fieldAddr 29 (Operand.tmp 12) 4, type := 0, pos := "laws.go:317", after := #[{ on := 3, ground := Ground.guard }], guard := some (3, true) }) (v := undef) rfl (by kernel_rfl) (by kernel_rfl) (by kernel_rfl) (fun _ _ _ h => h) (Or.inr ⟨by rfl, rfl⟩) (by assumption) ?_
            try simp only [Act.put, List.setIfInBounds_toArray, List.set_cons_zero, List.set_cons_succ]
            refine wpAnyH_take (i := 5) (oi := { dst := some 98, op := Op.load 26 (Operand.tmp 97), type := 26, pos := "laws.go:317", after := #[{ on := 4, ground := Ground.data }, { on := 3, ground := Ground.guard }], guard := some (3, true) }) (v := undef) rfl (by kernel_rfl) (by kernel_rfl) (by kernel_rfl) (fun _ _ _ h => h) (Or.inr ⟨by rfl, rfl⟩) (by assumption) ?_
            try simp only [Act.put, List.setIfInBounds_toArray, List.set_cons_zero, List.set_cons_succ]
            refine wpAnyH_take (i := 6) (oi := { dst := some 99, op := Op.move (Operand.tmp 16), type := 3, pos := "laws.go:317", after := #[{ on := 3, ground := Ground.guard }], guard := some (3, true) }) (v := undef) rfl (by kernel_rfl) (by kernel_rfl) (by kernel_rfl) (fun _ _ _ h => h) (Or.inr ⟨by rfl, rfl⟩) (by assumption) ?_
            try simp only [Act.put, List.setIfInBounds_toArray, List.set_cons_zero, List.set_cons_succ]
            refine wpAnyH_take (i := 7) (oi := { dst := some 100, op := Op.indexAddr 26 (Operand.tmp 98) (Operand.tmp 99), type := 0, pos := "laws.go:317", after := #[{ on := 5, ground := Ground.data }, { on := 6, ground := Ground.data }, { on := 3, ground := Ground.guard }], guard := some (3, true) }) (v := undef) rfl (by kernel_rfl) (by kernel_rfl) (by kernel_rfl) (fun _ _ _ h => h) (Or.inr ⟨by rfl, rfl⟩) (by assumption) ?_
            try simp only [Act.put, List.setIfInBounds_toArray, List.set_cons_zero, List.set_cons_succ]
            refine wpAnyH_take (i := 8) (oi := { dst := some 101, op := Op.load 39 (Operand.tmp 100), type := 39, pos := "laws.go:317", after := #[{ on := 7, ground := Ground.data }, { on := 3, ground := Ground.guard }], guard := some (3, true) }) (v := undef) rfl (by kernel_rfl) (by kernel_rfl) (by kernel_rfl) (fun _ _ _ h => h) (Or.inr ⟨by rfl, rfl⟩) (by assumption) ?_
            try simp only [Act.put, List.setIfInBounds_toArray, List.set_cons_zero, List.set_cons_succ]
            refine wpAnyH_take (i := 9) (oi := { dst := some 102, op := Op.load 39 (Operand.tmp 17), type := 39, pos := "laws.go:317", after := #[{ on := 3, ground := Ground.guard }], guard := some (3, true) }) (v := undef) rfl (by kernel_rfl) (by kernel_rfl) (by kernel_rfl) (fun _ _ _ h => h) (Or.inr ⟨by rfl, rfl⟩) (by assumption) ?_
            try simp only [Act.put, List.setIfInBounds_toArray, List.set_cons_zero, List.set_cons_succ]
            refine wpAnyH_take (i := 10) (oi := { dst := some 103, op := Op.call { callee := Callee.value (Operand.func 15), args := #[Operand.tmp 101, Operand.tmp 102], argTypes := #[39, 39] }, type := 4, pos := "laws.go:317", after := #[{ on := 8, ground := Ground.data }, { on := 9, ground := Ground.data }, { on := 3, ground := Ground.chain }, { on := 3, ground := Ground.guard }], guard := some (3, true) }) (v := undef) rfl (by kernel_rfl) (by kernel_rfl) (by kernel_rfl) (fun _ _ _ h => h) (Or.inr ⟨by rfl, rfl⟩) (by assumption) ?_
            try simp only [Act.put, List.setIfInBounds_toArray, List.set_cons_zero, List.set_cons_succ]
            refine wpAnyH_take (i := 11) (oi := { dst := some 104, op := Op.unOp UnOp.not 4 (Operand.tmp 103), type := 4, pos := "laws.go:317", after := #[{ on := 10, ground := Ground.data }, { on := 3, ground := Ground.guard }], guard := some (3, true) }) (v := undef) rfl (by kernel_rfl) (by kernel_rfl) (by kernel_rfl) (fun _ _ _ h => h) (Or.inr ⟨by rfl, rfl⟩) (by assumption) ?_
            try simp only [Act.put, List.setIfInBounds_toArray, List.set_cons_zero, List.set_cons_succ]
            refine wpAnyH_take (i := 12) (oi := { dst := some 105, op := Op.pick (Operand.tmp 96) (Operand.tmp 104) (Operand.const (Value.bool false)), type := 4, pos := "laws.go:317", after := #[{ on := 3, ground := Ground.data }, { on := 11, ground := Ground.data }], guard := none }) (v := ?vc13_12) rfl (by kernel_rfl) (by kernel_rfl) (by kernel_rfl) (fun _ _ _ h => h) (Or.inl ⟨by rfl, ?hyc13_12⟩) (by assumption) ?restc13_12
            case hyc13_12 => (intro w hSw; (try dsimp only at hSw); go_simp; try with_reducible rfl)
            try simp only [Act.put, List.setIfInBounds_toArray, List.set_cons_zero, List.set_cons_succ]
            refine wpAnyH_done (by kernel_rfl) ?_ _
            refine NoPanic.normal ?_
            obtain ⟨V2, hV2⟩ : ∃ V2, V1.drew = V2 := ⟨_, rfl⟩
            have HV : Below V1.heap.size V1 V2 := by rw [← hV2]; exact bdr (bre _)
            have X14 := hid (X14.out.later HV)
            have Z14 := hid (Z14.out.later HV)
            have MG := hid (MG.out.later HV)
            have HBV := hid (btr HBV.out HV)
            clear HV
            try rw [hV2]
            clear hV2
            have q0 := X14.out.cells
            have q1 := MG.out.cells
            go_wp2_with fail
            clear q0 q1
            obtain ⟨y1, hy1, _, cm1⟩ := at_two g0 nm0 t0 b0 nx0 N2 M2 K2 H2 gk
            have ey : y1 = -1 := by rw [hy1.out, HGK.out, HK2.out]; exact HX.out.2.2.2.2.1
            subst ey
            refine (cm1.out a14 c14 d14 e14 _ Z14.out).mono ?_; rintro e v3 ⟨rfl, hb⟩
            have HBV := hid (btr HBV.out hb)
            clear hb cm1 hy1
            go_wp2_with fail
            try dsimp only [List.append]
            refine wp_region_noPanic ?_
            refine wp_region_held_drew (S := (fun _ => True)) (by kernel_rfl) (trivial) (fun hHeld => ?_)
            refine wpAnyH_take (i := 0) (oi := { dst := some 110, op := Op.move (Operand.tmp 16), type := 3, pos := "laws.go:321", after := #[], guard := none }) (v := ?vd1_0) rfl (by kernel_rfl) (by kernel_rfl) (by kernel_rfl) (fun _ _ _ h => h) (Or.inl ⟨by rfl, ?hyd1_0⟩) (by assumption) ?restd1_0
            case hyd1_0 => (intro w hSw; (try dsimp only at hSw); go_simp; try with_reducible rfl)
            try simp only [Act.put, List.setIfInBounds_toArray, List.set_cons_zero, List.set_cons_succ]
            refine wpAnyH_take (i := 1) (oi := { dst := some 111, op := Op.move (Operand.tmp 9), type := 3, pos := "laws.go:321", after := #[], guard := none }) (v := ?vd2_1) rfl (by kernel_rfl) (by kernel_rfl) (by kernel_rfl) (fun _ _ _ h => h) (Or.inl ⟨by rfl, ?hyd2_1⟩) (by assumption) ?restd2_1
            case hyd2_1 => (intro w hSw; (try dsimp only at hSw); go_simp; try with_reducible rfl)
            try simp only [Act.put, List.setIfInBounds_toArray, List.set_cons_zero, List.set_cons_succ]
            refine wpAnyH_take (i := 2) (oi := { dst := some 112, op := Op.binOp BinOp.eql 3 (Operand.tmp 110) (Operand.tmp 111) 3, type := 4, pos := "laws.go:321", after := #[{ on := 0, ground := Ground.data }, { on := 1, ground := Ground.data }], guard := none }) (v := ?vd3_2) rfl (by kernel_rfl) (by kernel_rfl) (by kernel_rfl) (fun _ _ _ h => h) (Or.inl ⟨by rfl, ?hyd3_2⟩) (by assumption) ?restd3_2
            case hyd3_2 => (intro w hSw; (try dsimp only at hSw); go_simp; try with_reducible rfl)
            try simp only [Act.put, List.setIfInBounds_toArray, List.set_cons_zero, List.set_cons_succ]
            refine wpAnyH_take (i := 3) (oi := { dst := some 113, op := Op.move (Operand.tmp 112), type := 4, pos := "laws.go:321", after := #[{ on := 2, ground := Ground.data }], guard := none }) (v := ?vd4_3) rfl (by kernel_rfl) (by kernel_rfl) (by kernel_rfl) (fun _ _ _ h => h) (Or.inl ⟨by rfl, ?hyd4_3⟩) (by assumption) ?restd4_3
            case hyd4_3 => (intro w hSw; (try dsimp only at hSw); go_simp; try with_reducible rfl)
            try simp only [Act.put, List.setIfInBounds_toArray, List.set_cons_zero, List.set_cons_succ]
            refine wpAnyH_take (i := 4) (oi := { dst := some 114, op := Op.move (Operand.tmp 18), type := 3, pos := "laws.go:321", after := #[{ on := 3, ground := Ground.guard }], guard := some (3, true) }) (v := ?vd5_4) rfl (by kernel_rfl) (by kernel_rfl) (by kernel_rfl) (fun _ _ _ h => h) (Or.inl ⟨by rfl, ?hyd5_4⟩) (by assumption) ?restd5_4
            case hyd5_4 => (intro w hSw; (try dsimp only at hSw); go_simp; try with_reducible rfl)
            try simp only [Act.put, List.setIfInBounds_toArray, List.set_cons_zero, List.set_cons_succ]
            refine wpAnyH_take (i := 5) (oi := { dst := some 115, op := Op.binOp BinOp.geq 3 (Operand.tmp 114) (Operand.const (Value.int IntKind.i64 0)) 3, type := 4, pos := "laws.go:321", after := #[{ on := 4, ground := Ground.data }, { on := 3, ground := Ground.guard }], guard := some (3, true) }) (v := ?vd6_5) rfl (by kernel_rfl) (by kernel_rfl) (by kernel_rfl) (fun _ _ _ h => h) (Or.inl ⟨by rfl, ?hyd6_5⟩) (by assumption) ?restd6_5
            case hyd6_5 => (intro w hSw; (try dsimp only at hSw); go_simp; try with_reducible rfl)
            try simp only [Act.put, List.setIfInBounds_toArray, List.set_cons_zero, List.set_cons_succ]
            refine wpAnyH_take (i := 6) (oi := { dst := some 116, op := Op.pick (Operand.tmp 113) (Operand.tmp 115) (Operand.const (Value.bool false)), type := 4, pos := "laws.go:321", after := #[{ on := 3, ground := Ground.data }, { on := 5, ground := Ground.data }], guard := none }) (v := ?vd7_6) rfl (by kernel_rfl) (by kernel_rfl) (by kernel_rfl) (fun _ _ _ h => h) (Or.inl ⟨by rfl, ?hyd7_6⟩) (by assumption) ?restd7_6
            case hyd7_6 => (intro w hSw; (try dsimp only at hSw); go_simp; try with_reducible rfl)
            try simp only [Act.put, List.setIfInBounds_toArray, List.set_cons_zero, List.set_cons_succ]
            refine wpAnyH_take (i := 7) (oi := { dst := some 117, op := Op.move (Operand.tmp 116), type := 4, pos := "laws.go:321", after := #[{ on := 6, ground := Ground.data }, { on := 3, ground := Ground.chain }], guard := none }) (v := ?vd8_7) rfl (by kernel_rfl) (by kernel_rfl) (by kernel_rfl) (fun _ _ _ h => h) (Or.inl ⟨by rfl, ?hyd8_7⟩) (by assumption) ?restd8_7
            case hyd8_7 => (intro w hSw; (try dsimp only at hSw); go_simp; try with_reducible rfl)
            try simp only [Act.put, List.setIfInBounds_toArray, List.set_cons_zero, List.set_cons_succ]
            refine wpAnyH_take (i := 8) (oi := { dst := some 118, op := Op.move (Operand.tmp 16), type := 3, pos := "laws.go:321", after := #[{ on := 7, ground := Ground.guard }], guard := some (7, false) }) (v := ?vd9_8) rfl (by kernel_rfl) (by kernel_rfl) (by kernel_rfl) (fun _ _ _ h => h) (Or.inl ⟨by rfl, ?hyd9_8⟩) (by assumption) ?restd9_8
            case hyd9_8 => (intro w hSw; (try dsimp only at hSw); go_simp; try with_reducible rfl)
            try simp only [Act.put, List.setIfInBounds_toArray, List.set_cons_zero, List.set_cons_succ]
            refine wpAnyH_take (i := 9) (oi := { dst := some 119, op := Op.move (Operand.tmp 9), type := 3, pos := "laws.go:321", after := #[{ on := 7, ground := Ground.guard }], guard := some (7, false) }) (v := ?vd10_9) rfl (by kernel_rfl) (by kernel_rfl) (by kernel_rfl) (fun _ _ _ h => h) (Or.inl ⟨by rfl, ?hyd10_9⟩) (by assumption) ?restd10_9
            case hyd10_9 => (intro w hSw; (try dsimp only at hSw); go_simp; try with_reducible rfl)
            try simp only [Act.put, List.setIfInBounds_toArray, List.set_cons_zero, List.set_cons_succ]
            refine wpAnyH_take (i := 10) (oi := { dst := some 120, op := Op.binOp BinOp.neq 3 (Operand.tmp 118) (Operand.tmp 119) 3, type := 4, pos := "laws.go:321", after := #[{ on := 8, ground := Ground.data }, { on := 9, ground := Ground.data }, { on := 7, ground := Ground.guard }], guard := some (7, false) }) (v := ?vd11_10) rfl (by kernel_rfl) (by kernel_rfl) (by kernel_rfl) (fun _ _ _ h => h) (Or.inl ⟨by rfl, ?hyd11_10⟩) (by assumption) ?restd11_10
            case hyd11_10 => (intro w hSw; (try dsimp only at hSw); go_simp; try with_reducible rfl)
            try simp only [Act.put, List.setIfInBounds_toArray, List.set_cons_zero, List.set_cons_succ]
            refine wpAnyH_take (i := 11) (oi := { dst := some 121, op := Op.move (Operand.tmp 120), type := 4, pos := "laws.go:321", after := #[{ on := 10, ground := Ground.data }, { on := 7, ground := Ground.chain }, { on := 7, ground := Ground.guard }], guard := some (7, false) }) (v := ?vd12_11) rfl (by kernel_rfl) (by kernel_rfl) (by kernel_rfl) (fun _ _ _ h => h) (Or.inl ⟨by rfl, ?hyd12_11⟩) (by assumption) ?restd12_11
            case hyd12_11 => (intro w hSw; (try dsimp only at hSw); go_simp; try with_reducible rfl)
            try simp only [Act.put, List.setIfInBounds_toArray, List.set_cons_zero, List.set_cons_succ]
            refine wpAnyH_take (i := 12) (oi := { dst := some 122, op := Op.move (Operand.tmp 18), type := 3, pos := "laws.go:321", after := #[{ on := 11, ground := Ground.guard }], guard := some (11, true) }) (v := undef) rfl (by kernel_rfl) (by kernel_rfl) (by kernel_rfl) (fun _ _ _ h => h) (Or.inr ⟨by rfl, rfl⟩) (by assumption) ?_
            try simp only [Act.put, List.setIfInBounds_toArray, List.set_cons_zero, List.set_cons_succ]
            refine wpAnyH_take (i := 13) (oi := { dst := some 123, op := Op.binOp BinOp.lss 3 (Operand.tmp 122) (Operand.const (Value.int IntKind.i64 0)) 3, type := 4, pos := "laws.go:321", after := #[{ on := 12, ground := Ground.data }, { on := 11, ground := Ground.guard }], guard := some (11, true) }) (v := undef) rfl (by kernel_rfl) (by kernel_rfl) (by kernel_rfl) (fun _ _ _ h => h) (Or.inr ⟨by rfl, rfl⟩) (by assumption) ?_
            try simp only [Act.put, List.setIfInBounds_toArray, List.set_cons_zero, List.set_cons_succ]
            refine wpAnyH_take (i := 14) (oi := { dst := some 124, op := Op.move (Operand.tmp 123), type := 4, pos := "laws.go:321", after := #[{ on := 13, ground := Ground.data }, { on := 11, ground := Ground.chain }, { on := 11, ground := Ground.guard }], guard := some (11, true) }) (v := undef) rfl (by kernel_rfl) (by kernel_rfl) (by kernel_rfl) (fun _ _ _ h => h) (Or.inr ⟨by rfl, rfl⟩) (by assumption) ?_
            try simp only [Act.put, List.setIfInBounds_toArray, List.set_cons_zero, List.set_cons_succ]
            refine wpAnyH_take (i := 15) (oi := { dst := some 125, op := Op.fieldAddr 29 (Operand.tmp 14) 4, type := 0, pos := "laws.go:321", after := #[{ on := 14, ground := Ground.guard }], guard := some (14, false) }) (v := undef) rfl (by kernel_rfl) (by kernel_rfl) (by kernel_rfl) (fun _ _ _ h => h) (Or.inr ⟨by rfl, rfl⟩) (by assumption) ?_
            try simp only [Act.put, List.setIfInBounds_toArray, List.set_cons_zero, List.set_cons_succ]
            refine wpAnyH_take (i := 16) (oi := { dst := some 126, op := Op.load 26 (Operand.tmp 125), type := 26, pos := "laws.go:321", after := #[{ on := 15, ground := Ground.data }, { on := 14, ground := Ground.guard }], guard := some (14, false) }) (v := undef) rfl (by kernel_rfl) (by kernel_rfl) (by kernel_rfl) (fun _ _ _ h => h) (Or.inr ⟨by rfl, rfl⟩) (by assumption) ?_
            try simp only [Act.put, List.setIfInBounds_toArray, List.set_cons_zero, List.set_cons_succ]
            refine wpAnyH_take (i := 17) (oi := { dst := some 127, op := Op.move (Operand.tmp 18), type := 3, pos := "laws.go:321", after := #[{ on := 14, ground := Ground.guard }], guard := some (14, false) }) (v := undef) rfl (by kernel_rfl) (by kernel_rfl) (by kernel_rfl) (fun _ _ _ h => h) (Or.inr ⟨by rfl, rfl⟩) (by assumption) ?_
            try simp only [Act.put, List.setIfInBounds_toArray, List.set_cons_zero, List.set_cons_succ]
            refine wpAnyH_take (i := 18) (oi := { dst := some 128, op := Op.indexAddr 26 (Operand.tmp 126) (Operand.tmp 127), type := 0, pos := "laws.go:321", after := #[{ on := 16, ground := Ground.data }, { on := 17, ground := Ground.data }, { on := 14, ground := Ground.guard }], guard := some (14, false) }) (v := undef) rfl (by kernel_rfl) (by kernel_rfl) (by kernel_rfl) (fun _ _ _ h => h) (Or.inr ⟨by rfl, rfl⟩) (by assumption) ?_
            try simp only [Act.put, List.setIfInBounds_toArray, List.set_cons_zero, List.set_cons_succ]
            refine wpAnyH_take (i := 19) (oi := { dst := some 129, op := Op.load 39 (Operand.tmp 128), type := 39, pos := "laws.go:321", after := #[{ on := 18, ground := Ground.data }, { on := 14, ground := Ground.guard }], guard := some (14, false) }) (v := undef) rfl (by kernel_rfl) (by kernel_rfl) (by kernel_rfl) (fun _ _ _ h => h) (Or.inr ⟨by rfl, rfl⟩) (by assumption) ?_
            try simp only [Act.put, List.setIfInBounds_toArray, List.set_cons_zero, List.set_cons_succ]
            refine wpAnyH_take (i := 20) (oi := { dst := some 130, op := Op.load 39 (Operand.tmp 17), type := 39, pos := "laws.go:321", after := #[{ on := 14, ground := Ground.guard }], guard := some (14, false) }) (v := undef) rfl (by kernel_rfl) (by kernel_rfl) (by kernel_rfl) (fun _ _ _ h => h) (Or.inr ⟨by rfl, rfl⟩) (by assumption) ?_
            try simp only [Act.put, List.setIfInBounds_toArray, List.set_cons_zero, List.set_cons_succ]
            refine wpAnyH_take (i := 21) (oi := { dst := some 131, op := Op.call { callee := Callee.value (Operand.func 15), args := #[Operand.tmp 129, Operand.tmp 130], argTypes := #[39, 39] }, type := 4, pos := "laws.go:321", after := #[{ on := 19, ground := Ground.data }, { on := 20, ground := Ground.data }, { on := 14, ground := Ground.chain }, { on := 14, ground := Ground.guard }], guard := some (14, false) }) (v := undef) rfl (by kernel_rfl) (by kernel_rfl) (by kernel_rfl) (fun _ _ _ h => h) (Or.inr ⟨by rfl, rfl⟩) (by assumption) ?_
            try simp only [Act.put, List.setIfInBounds_toArray, List.set_cons_zero, List.set_cons_succ]
            refine wpAnyH_take (i := 22) (oi := { dst := some 132, op := Op.unOp UnOp.not 4 (Operand.tmp 131), type := 4, pos := "laws.go:321", after := #[{ on := 21, ground := Ground.data }, { on := 14, ground := Ground.guard }], guard := some (14, false) }) (v := undef) rfl (by kernel_rfl) (by kernel_rfl) (by kernel_rfl) (fun _ _ _ h => h) (Or.inr ⟨by rfl, rfl⟩) (by assumption) ?_
            try simp only [Act.put, List.setIfInBounds_toArray, List.set_cons_zero, List.set_cons_succ]
            refine wpAnyH_take (i := 23) (oi := { dst := some 133, op := Op.pick (Operand.tmp 124) (Operand.const (Value.bool true)) (Operand.tmp 132), type := 4, pos := "laws.go:321", after := #[{ on := 14, ground := Ground.data }, { on := 22, ground := Ground.data }, { on := 11, ground := Ground.guard }], guard := some (11, true) }) (v := undef) rfl (by kernel_rfl) (by kernel_rfl) (by kernel_rfl) (fun _ _ _ h => h) (Or.inr ⟨by rfl, rfl⟩) (by assumption) ?_
            try simp only [Act.put, List.setIfInBounds_toArray, List.set_cons_zero, List.set_cons_succ]
            refine wpAnyH_take (i := 24) (oi := { dst := some 134, op := Op.pick (Operand.tmp 121) (Operand.tmp 133) (Operand.const (Value.bool false)), type := 4, pos := "laws.go:321", after := #[{ on := 11, ground := Ground.data }, { on := 23, ground := Ground.data }, { on := 7, ground := Ground.guard }], guard := some (7, false) }) (v := ?vd25_24) rfl (by kernel_rfl) (by kernel_rfl) (by kernel_rfl) (fun _ _ _ h => h) (Or.inl ⟨by rfl, ?hyd25_24⟩) (by assumption) ?restd25_24
            case hyd25_24 => (intro w hSw; (try dsimp only at hSw); go_simp; try with_reducible rfl)
            try simp only [Act.put, List.setIfInBounds_toArray, List.set_cons_zero, List.set_cons_succ]
            refine wpAnyH_take (i := 25) (oi := { dst := some 135, op := Op.pick (Operand.tmp 117) (Operand.const (Value.bool true)) (Operand.tmp 134), type := 4, pos := "laws.go:321", after := #[{ on := 7, ground := Ground.data }, { on := 24, ground := Ground.data }], guard := none }) (v := ?vd26_25) rfl (by kernel_rfl) (by kernel_rfl) (by kernel_rfl) (fun _ _ _ h => h) (Or.inl ⟨by rfl, ?hyd26_25⟩) (by assumption) ?restd26_25
            case hyd26_25 => (intro w hSw; (try dsimp only at hSw); go_simp; try with_reducible rfl)
            try simp only [Act.put, List.setIfInBounds_toArray, List.set_cons_zero, List.set_cons_succ]
            refine wpAnyH_done (by kernel_rfl) ?_ _
            refine NoPanic.normal ?_
            obtain ⟨V4, hV4⟩ : ∃ V4, v3.drew = V4 := ⟨_, rfl⟩
            have HV : Below v3.heap.size v3 V4 := by rw [← hV4]; exact bdr (bre _)
            have HBV := hid (btr HBV.out HV)
            clear HV
            try rw [hV4]
            clear hV4
            go_wp2
            go_roundw
            case rel => exact ⟨k + 1, by have := HLT.out; omega, by go_num, HBV.out⟩
            case measure => simp [intOf]; have := HLT.out; omega
          · obtain ⟨hkc, j, hj, hjd⟩ := HNE.out hkr
            have HJ := hid hj
            clear hj
            rw [← HK1.out] at hkc
            rw [← HK2.out] at hjd
            obtain ⟨_, _, kc, oc, fa2, fc2, hma, hkk2, hC2, hRs2⟩ := ml_at Z12.out hkc
            subst hma
            dsimp only at hC2 hRs2
            rw [HLK.out] at hC2
            obtain ⟨hjN, _, kd, od, fa3, fc3, hma, hkk3, hC3, hRs3⟩ := ml_at Z14.out hjd
            subst hma
            dsimp only at hC3 hRs3
            rw [HLK.out] at hC3
            have R2 := hid hRs2
            have R3 := hid hRs3
            have HC3 := hid hC3
            have HK3 := hid hkk3
            have HJN := hid hjN
            clear hRs2 hRs3 hC3 hkk3 hjN hkc hjd
            have HS : Hid (∀ W, Below V1.heap.size V1 W → W.cell? ⟨k12, 5, none⟩ = some (.slice (some ⟨kc, oc, none⟩) N1 c12) ∧ (W.cell? ⟨kc, oc + k * 4, none⟩ = some (.int .i64 gk) ∧ W.cell? ⟨kc, oc + k * 4 + 1, none⟩ = some (.int .i64 uk) ∧ W.cell? ⟨kc, oc + k * 4 + 2, none⟩ = some (.slice fa2 lk fc2) ∧ W.cell? ⟨kc, oc + k * 4 + 3, none⟩ = some (.string tk)) ∧ (W.cell? ⟨km, 0, none⟩ = some (.int .i64 gk) ∧ W.cell? ⟨km, 1, none⟩ = some (.int .i64 uk) ∧ W.cell? ⟨km, 2, none⟩ = some (.slice fa1 lk fc1) ∧ W.cell? ⟨km, 3, none⟩ = some (.string tk))) := fun W h => ⟨(X12.out.later h).cells.2.2.2.2.2.1, C4.later hC2 hkk2 h, (MG.out.later h).cells⟩
            clear hC2
            have hI : (0 : Int) ≤ (k : Int) ∧ (k : Int) < (N1 : Int) := by omega
            have e1 : ((k : Int) != (r : Int)) = true := by simp; omega
            have e2 : ((k : Int) == (r : Int)) = false := by simp; omega
            try dsimp only [List.append]
            refine wp_region_noPanic ?_
            refine wp_region_held_drew (S := (fun W => W.cell? ⟨k12, 5, none⟩ = some (.slice (some ⟨kc, oc, none⟩) N1 c12) ∧ (W.cell? ⟨kc, oc + k * 4, none⟩ = some (.int .i64 gk) ∧ W.cell? ⟨kc, oc + k * 4 + 1, none⟩ = some (.int .i64 uk) ∧ W.cell? ⟨kc, oc + k * 4 + 2, none⟩ = some (.slice fa2 lk fc2) ∧ W.cell? ⟨kc, oc + k * 4 + 3, none⟩ = some (.string tk)) ∧ (W.cell? ⟨km, 0, none⟩ = some (.int .i64 gk) ∧ W.cell? ⟨km, 1, none⟩ = some (.int .i64 uk) ∧ W.cell? ⟨km, 2, none⟩ = some (.slice fa1 lk fc1) ∧ W.cell? ⟨km, 3, none⟩ = some (.string tk)))) (by kernel_rfl) (HS.out _ (bdr (bre _))) (fun hHeld => ?_)
            refine wpAnyH_take (i := 0) (oi := { dst := some 93, op := Op.move (Operand.tmp 16), type := 3, pos := "laws.go:317", after := #[], guard := none }) (v := ?ve1_0) rfl (by kernel_rfl) (by kernel_rfl) (by kernel_rfl) (fun _ _ _ h => h) (Or.inl ⟨by rfl, ?hye1_0⟩) (by assumption) ?reste1_0
            case hye1_0 => (intro w hSw; (try dsimp only at hSw); go_simp; try with_reducible rfl)
            try simp only [Act.put, List.setIfInBounds_toArray, List.set_cons_zero, List.set_cons_succ]
            refine wpAnyH_take (i := 1) (oi := { dst := some 94, op := Op.move (Operand.tmp 9), type := 3, pos := "laws.go:317", after := #[], guard := none }) (v := ?ve2_1) rfl (by kernel_rfl) (by kernel_rfl) (by kernel_rfl) (fun _ _ _ h => h) (Or.inl ⟨by rfl, ?hye2_1⟩) (by assumption) ?reste2_1
            case hye2_1 => (intro w hSw; (try dsimp only at hSw); go_simp; try with_reducible rfl)
            try simp only [Act.put, List.setIfInBounds_toArray, List.set_cons_zero, List.set_cons_succ]
            refine wpAnyH_take (i := 2) (oi := { dst := some 95, op := Op.binOp BinOp.neq 3 (Operand.tmp 93) (Operand.tmp 94) 3, type := 4, pos := "laws.go:317", after := #[{ on := 0, ground := Ground.data }, { on := 1, ground := Ground.data }], guard := none }) (v := ?ve3_2) rfl (by kernel_rfl) (by kernel_rfl) (by kernel_rfl) (fun _ _ _ h => h) (Or.inl ⟨by rfl, ?hye3_2⟩) (by assumption) ?reste3_2
            case hye3_2 => (intro w hSw; (try dsimp only at hSw); go_simp; try with_reducible rfl)
            try simp only [Act.put, List.setIfInBounds_toArray, List.set_cons_zero, List.set_cons_succ]
            refine wpAnyH_take (i := 3) (oi := { dst := some 96, op := Op.move (Operand.tmp 95), type := 4, pos := "laws.go:317", after := #[{ on := 2, ground := Ground.data }], guard := none }) (v := ?ve4_3) rfl (by kernel_rfl) (by kernel_rfl) (by kernel_rfl) (fun _ _ _ h => h) (Or.inl ⟨by rfl, ?hye4_3⟩) (by assumption) ?reste4_3
            case hye4_3 => (intro w hSw; (try dsimp only at hSw); go_simp; try with_reducible rfl)
            try simp only [Act.put, List.setIfInBounds_toArray, List.set_cons_zero, List.set_cons_succ]
            refine wpAnyH_take (i := 4) (oi := { dst := some 97, op := Op.fieldAddr 29 (Operand.tmp 12) 4, type := 0, pos := "laws.go:317", after := #[{ on := 3, ground := Ground.guard }], guard := some (3, true) }) (v := ?ve5_4) rfl (by kernel_rfl) (by kernel_rfl) (by kernel_rfl) (fun _ _ _ h => h) (Or.inl ⟨by rfl, ?hye5_4⟩) (by assumption) ?reste5_4
            case hye5_4 => (intro w hSw; (try dsimp only at hSw); go_simp; try with_reducible rfl)
            try simp only [Act.put, List.setIfInBounds_toArray, List.set_cons_zero, List.set_cons_succ]
            refine wpAnyH_take (i := 5) (oi := { dst := some 98, op := Op.load 26 (Operand.tmp 97), type := 26, pos := "laws.go:317", after := #[{ on := 4, ground := Ground.data }, { on := 3, ground := Ground.guard }], guard := some (3, true) }) (v := ?ve6_5) rfl (by kernel_rfl) (by kernel_rfl) (by kernel_rfl) (fun _ _ _ h => h) (Or.inl ⟨by rfl, ?hye6_5⟩) (by assumption) ?reste6_5
            case hye6_5 => (intro w hSw; (try dsimp only at hSw); go_simp; try with_reducible rfl)
            try simp only [Act.put, List.setIfInBounds_toArray, List.set_cons_zero, List.set_cons_succ]
            refine wpAnyH_take (i := 6) (oi := { dst := some 99, op := Op.move (Operand.tmp 16), type := 3, pos := "laws.go:317", after := #[{ on := 3, ground := Ground.guard }], guard := some (3, true) }) (v := ?ve7_6) rfl (by kernel_rfl) (by kernel_rfl) (by kernel_rfl) (fun _ _ _ h => h) (Or.inl ⟨by rfl, ?hye7_6⟩) (by assumption) ?reste7_6
            case hye7_6 => (intro w hSw; (try dsimp only at hSw); go_simp; try with_reducible rfl)
            try simp only [Act.put, List.setIfInBounds_toArray, List.set_cons_zero, List.set_cons_succ]
            refine wpAnyH_take (i := 7) (oi := { dst := some 100, op := Op.indexAddr 26 (Operand.tmp 98) (Operand.tmp 99), type := 0, pos := "laws.go:317", after := #[{ on := 5, ground := Ground.data }, { on := 6, ground := Ground.data }, { on := 3, ground := Ground.guard }], guard := some (3, true) }) (v := ?ve8_7) rfl (by kernel_rfl) (by kernel_rfl) (by kernel_rfl) (fun _ _ _ h => h) (Or.inl ⟨by rfl, ?hye8_7⟩) (by assumption) ?reste8_7
            case hye8_7 => (intro w hSw; (try dsimp only at hSw); go_simp; try with_reducible rfl)
            try simp only [Act.put, List.setIfInBounds_toArray, List.set_cons_zero, List.set_cons_succ]
            refine wpAnyH_take (i := 8) (oi := { dst := some 101, op := Op.load 39 (Operand.tmp 100), type := 39, pos := "laws.go:317", after := #[{ on := 7, ground := Ground.data }, { on := 3, ground := Ground.guard }], guard := some (3, true) }) (v := ?ve9_8) rfl (by kernel_rfl) (by kernel_rfl) (by kernel_rfl) (fun _ _ _ h => h) (Or.inl ⟨by rfl, ?hye9_8⟩) (by assumption) ?reste9_8
            case hye9_8 => (intro w hSw; (try dsimp only at hSw); go_simp; try with_reducible rfl)
            try simp only [Act.put, List.setIfInBounds_toArray, List.set_cons_zero, List.set_cons_succ]
            refine wpAnyH_take (i := 9) (oi := { dst := some 102, op := Op.load 39 (Operand.tmp 17), type := 39, pos := "laws.go:317", after := #[{ on := 3, ground := Ground.guard }], guard := some (3, true) }) (v := ?ve10_9) rfl (by kernel_rfl) (by kernel_rfl) (by kernel_rfl) (fun _ _ _ h => h) (Or.inl ⟨by rfl, ?hye10_9⟩) (by assumption) ?reste10_9
            case hye10_9 => (intro w hSw; (try dsimp only at hSw); go_simp; try with_reducible rfl)
            try simp only [Act.put, List.setIfInBounds_toArray, List.set_cons_zero, List.set_cons_succ]
            clear hHeld
            refine wpAnyH_ready (rs := [10]) (by kernel_rfl) (by simp) ?_
            refine AllReadyH.cons (o := { dst := some 103, op := Op.call { callee := Callee.value (Operand.func 15), args := #[Operand.tmp 101, Operand.tmp 102], argTypes := #[39, 39] }, type := 4, pos := "laws.go:317", after := #[{ on := 8, ground := Ground.data }, { on := 9, ground := Ground.data }, { on := 3, ground := Ground.chain }, { on := 3, ground := Ground.guard }], guard := some (3, true) }) rfl (fun K hK => ?_) AllReadyH.nil
            go_simp
            refine (specSame_any gk uk fa2 lk fc2 fk tk gk uk fa1 lk fc1 fk tk _ HLK.out HLK.out HFL.out (R2.out.later (bdr (bre _))) (HRS.out.later (bdr (bre _)))).mono ?_
            rintro e v2 ⟨rfl, hb⟩
            rw [smail_self]
            have HV : Hid (Below V1.heap.size V1 v2) := btr (bdr (bre _)) hb
            clear hb
            go_wp2_with fail
            refine hK.out _ _ (HS.out _ HV.out) (fun hHeld => ?_)
            clear hK K
            try simp only [Act.put, List.setIfInBounds_toArray, List.set_cons_zero, List.set_cons_succ]
            refine wpAnyH_take (i := 11) (oi := { dst := some 104, op := Op.unOp UnOp.not 4 (Operand.tmp 103), type := 4, pos := "laws.go:317", after := #[{ on := 10, ground := Ground.data }, { on := 3, ground := Ground.guard }], guard := some (3, true) }) (v := ?ve11_11) rfl (by kernel_rfl) (by kernel_rfl) (by kernel_rfl) (fun _ _ _ h => h) (Or.inl ⟨by rfl, ?hye11_11⟩) (by assumption) ?reste11_11
            case hye11_11 => (intro w hSw; (try dsimp only at hSw); go_simp; try with_reducible rfl)
            try simp only [Act.put, List.setIfInBounds_toArray, List.set_cons_zero, List.set_cons_succ]
            refine wpAnyH_take (i := 12) (oi := { dst := some 105, op := Op.pick (Operand.tmp 96) (Operand.tmp 104) (Operand.const (Value.bool false)), type := 4, pos := "laws.go:317", after := #[{ on := 3, ground := Ground.data }, { on := 11, ground := Ground.data }], guard := none }) (v := ?ve12_12) rfl (by kernel_rfl) (by kernel_rfl) (by kernel_rfl) (fun _ _ _ h => h) (Or.inl ⟨by rfl, ?hye12_12⟩) (by assumption) ?reste12_12
            case hye12_12 => (intro w hSw; (try dsimp only at hSw); go_simp; try with_reducible rfl)
            try simp only [Act.put, List.setIfInBounds_toArray, List.set_cons_zero, List.set_cons_succ]
            refine wpAnyH_done (by kernel_rfl) ?_ _
            refine NoPanic.normal ?_
            have X14 := hid (X14.out.later HV.out)
            have Z14 := hid (Z14.out.later HV.out)
            have MG := hid (MG.out.later HV.out)
            have R3 := hid (R3.out.later HV.out)
            have HRS := hid (HRS.out.later HV.out)
            have HC3 := hid (HC3.out.later HK3.out HV.out)
            have HK3 := hid (Nat.lt_of_lt_of_le HK3.out HV.out.size)
            have HBV := hid (btr HBV.out HV.out)
            clear HV HS
            have q0 := X14.out.cells
            have q1 := MG.out.cells
            go_wp2_with fail
            clear q0 q1
            obtain ⟨y1, hy1, _, cm1⟩ := at_two g0 nm0 t0 b0 nx0 N2 M2 K2 H2 gk
            have ey : y1 = (j : Int) := by rw [hy1.out, HK2.out]; exact HJ.out
            subst ey
            refine (cm1.out _ c14 d14 e14 _ Z14.out).mono ?_; rintro e v3 ⟨rfl, hb⟩
            have X14 := hid (X14.out.later hb)
            have Z14 := hid (Z14.out.later hb)
            have MG := hid (MG.out.later hb)
            have R3 := hid (R3.out.later hb)
            have HRS := hid (HRS.out.later hb)
            have HC3 := hid (HC3.out.later HK3.out hb)
            have HK3 : Hid (kd < v3.heap.size) := Nat.lt_of_lt_of_le HK3.out hb.size
            have HBV := hid (btr HBV.out hb)
            clear hb cm1 hy1
            go_wp2_with fail
            have HS : Hid (∀ W, Below v3.heap.size v3 W → W.cell? ⟨k14, 5, none⟩ = some (.slice (some ⟨kd, od, none⟩) N2 c14) ∧ (W.cell? ⟨kd, od + j * 4, none⟩ = some (.int .i64 gk) ∧ W.cell? ⟨kd, od + j * 4 + 1, none⟩ = some (.int .i64 uk) ∧ W.cell? ⟨kd, od + j * 4 + 2, none⟩ = some (.slice fa3 lk fc3) ∧ W.cell? ⟨kd, od + j * 4 + 3, none⟩ = some (.string tk)) ∧ (W.cell? ⟨km, 0, none⟩ = some (.int .i64 gk) ∧ W.cell? ⟨km, 1, none⟩ = some (.int .i64 uk) ∧ W.cell? ⟨km, 2, none⟩ = some (.slice fa1 lk fc1) ∧ W.cell? ⟨km, 3, none⟩ = some (.string tk))) := fun W h => ⟨(X14.out.later h).cells.2.2.2.2.2.1, C4.later HC3.out HK3.out h, (MG.out.later h).cells⟩
            have hI2 : (0 : Int) ≤ (j : Int) ∧ (j : Int) < (N2 : Int) := by have := HJN.out; omega
            have e3 : decide ((j : Int) < 0) = false := by simp
            have e4 : ¬ (j : Int) < 0 := by omega
            try dsimp only [List.append]
            refine wp_region_noPanic ?_
            refine wp_region_held_drew (S := (fun W => W.cell? ⟨k14, 5, none⟩ = some (.slice (some ⟨kd, od, none⟩) N2 c14) ∧ (W.cell? ⟨kd, od + j * 4, none⟩ = some (.int .i64 gk) ∧ W.cell? ⟨kd, od + j * 4 + 1, none⟩ = some (.int .i64 uk) ∧ W.cell? ⟨kd, od + j * 4 + 2, none⟩ = some (.slice fa3 lk fc3) ∧ W.cell? ⟨kd, od + j * 4 + 3, none⟩ = some (.string tk)) ∧ (W.cell? ⟨km, 0, none⟩ = some (.int .i64 gk) ∧ W.cell? ⟨km, 1, none⟩ = some (.int .i64 uk) ∧ W.cell? ⟨km, 2, none⟩ = some (.slice fa1 lk fc1) ∧ W.cell? ⟨km, 3, none⟩ = some (.string tk)))) (by kernel_rfl) (HS.out _ (bdr (bre _))) (fun hHeld => ?_)
            refine wpAnyH_take (i := 0) (oi := { dst := some 110, op := Op.move (Operand.tmp 16), type := 3, pos := "laws.go:321", after := #[], guard := none }) (v := ?vf1_0) rfl (by kernel_rfl) (by kernel_rfl) (by kernel_rfl) (fun _ _ _ h => h) (Or.inl ⟨by rfl, ?hyf1_0⟩) (by assumption) ?restf1_0
            case hyf1_0 => (intro w hSw; (try dsimp only at hSw); go_simp; try with_reducible rfl)
            try simp only [Act.put, List.setIfInBounds_toArray, List.set_cons_zero, List.set_cons_succ]
            refine wpAnyH_take (i := 1) (oi := { dst := some 111, op := Op.move (Operand.tmp 9), type := 3, pos := "laws.go:321", after := #[], guard := none }) (v := ?vf2_1) rfl (by kernel_rfl) (by kernel_rfl) (by kernel_rfl) (fun _ _ _ h => h) (Or.inl ⟨by rfl, ?hyf2_1⟩) (by assumption) ?restf2_1
            case hyf2_1 => (intro w hSw; (try dsimp only at hSw); go_simp; try with_reducible rfl)
            try simp only [Act.put, List.setIfInBounds_toArray, List.set_cons_zero, List.set_cons_succ]
            refine wpAnyH_take (i := 2) (oi := { dst := some 112, op := Op.binOp BinOp.eql 3 (Operand.tmp 110) (Operand.tmp 111) 3, type := 4, pos := "laws.go:321", after := #[{ on := 0, ground := Ground.data }, { on := 1, ground := Ground.data }], guard := none }) (v := ?vf3_2) rfl (by kernel_rfl) (by kernel_rfl) (by kernel_rfl) (fun _ _ _ h => h) (Or.inl ⟨by rfl, ?hyf3_2⟩) (by assumption) ?restf3_2
            case hyf3_2 => (intro w hSw; (try dsimp only at hSw); go_simp; try with_reducible rfl)
            try simp only [Act.put, List.setIfInBounds_toArray, List.set_cons_zero, List.set_cons_succ]
            refine wpAnyH_take (i := 3) (oi := { dst := some 113, op := Op.move (Operand.tmp 112), type := 4, pos := "laws.go:321", after := #[{ on := 2, ground := Ground.data }], guard := none }) (v := ?vf4_3) rfl (by kernel_rfl) (by kernel_rfl) (by kernel_rfl) (fun _ _ _ h => h) (Or.inl ⟨by rfl, ?hyf4_3⟩) (by assumption) ?restf4_3
            case hyf4_3 => (intro w hSw; (try dsimp only at hSw); go_simp; try with_reducible rfl)
            try simp only [Act.put, List.setIfInBounds_toArray, List.set_cons_zero, List.set_cons_succ]
            refine wpAnyH_take (i := 4) (oi := { dst := some 114, op := Op.move (Operand.tmp 18), type := 3, pos := "laws.go:321", after := #[{ on := 3, ground := Ground.guard }], guard := some (3, true) }) (v := undef) rfl (by kernel_rfl) (by kernel_rfl) (by kernel_rfl) (fun _ _ _ h => h) (Or.inr ⟨by rfl, rfl⟩) (by assumption) ?_
            try simp only [Act.put, List.setIfInBounds_toArray, List.set_cons_zero, List.set_cons_succ]
            refine wpAnyH_take (i := 5) (oi := { dst := some 115, op := Op.binOp BinOp.geq 3 (Operand.tmp 114) (Operand.const (Value.int IntKind.i64 0)) 3, type := 4, pos := "laws.go:321", after := #[{ on := 4, ground := Ground.data }, { on := 3, ground := Ground.guard }], guard := some (3, true) }) (v := undef) rfl (by kernel_rfl) (by kernel_rfl) (by kernel_rfl) (fun _ _ _ h => h) (Or.inr ⟨by rfl, rfl⟩) (by assumption) ?_
            try simp only [Act.put, List.setIfInBounds_toArray, List.set_cons_zero, List.set_cons_succ]
            refine wpAnyH_take (i := 6) (oi := { dst := some 116, op := Op.pick (Operand.tmp 113) (Operand.tmp 115) (Operand.const (Value.bool false)), type := 4, pos := "laws.go:321", after := #[{ on := 3, ground := Ground.data }, { on := 5, ground := Ground.data }], guard := none }) (v := ?vf7_6) rfl (by kernel_rfl) (by kernel_rfl) (by kernel_rfl) (fun _ _ _ h => h) (Or.inl ⟨by rfl, ?hyf7_6⟩) (by assumption) ?restf7_6
            case hyf7_6 => (intro w hSw; (try dsimp only at hSw); go_simp; try with_reducible rfl)
            try simp only [Act.put, List.setIfInBounds_toArray, List.set_cons_zero, List.set_cons_succ]
            refine wpAnyH_take (i := 7) (oi := { dst := some 117, op := Op.move (Operand.tmp 116), type := 4, pos := "laws.go:321", after := #[{ on := 6, ground := Ground.data }, { on := 3, ground := Ground.chain }], guard := none }) (v := ?vf8_7) rfl (by kernel_rfl) (by kernel_rfl) (by kernel_rfl) (fun _ _ _ h => h) (Or.inl ⟨by rfl, ?hyf8_7⟩) (by assumption) ?restf8_7
            case hyf8_7 => (intro w hSw; (try dsimp only at hSw); go_simp; try with_reducible rfl)
            try simp only [Act.put, List.setIfInBounds_toArray, List.set_cons_zero, List.set_cons_succ]
            refine wpAnyH_take (i := 8) (oi := { dst := some 118, op := Op.move (Operand.tmp 16), type := 3, pos := "laws.go:321", after := #[{ on := 7, ground := Ground.guard }], guard := some (7, false) }) (v := ?vf9_8) rfl (by kernel_rfl) (by kernel_rfl) (by kernel_rfl) (fun _ _ _ h => h) (Or.inl ⟨by rfl, ?hyf9_8⟩) (by assumption) ?restf9_8
            case hyf9_8 => (intro w hSw; (try dsimp only at hSw); go_simp; try with_reducible rfl)
            try simp only [Act.put, List.setIfInBounds_toArray, List.set_cons_zero, List.set_cons_succ]
            refine wpAnyH_take (i := 9) (oi := { dst := some 119, op := Op.move (Operand.tmp 9), type := 3, pos := "laws.go:321", after := #[{ on := 7, ground := Ground.guard }], guard := some (7, false) }) (v := ?vf10_9) rfl (by kernel_rfl) (by kernel_rfl) (by kernel_rfl) (fun _ _ _ h => h) (Or.inl ⟨by rfl, ?hyf10_9⟩) (by assumption) ?restf10_9
            case hyf10_9 => (intro w hSw; (try dsimp only at hSw); go_simp; try with_reducible rfl)
            try simp only [Act.put, List.setIfInBounds_toArray, List.set_cons_zero, List.set_cons_succ]
            refine wpAnyH_take (i := 10) (oi := { dst := some 120, op := Op.binOp BinOp.neq 3 (Operand.tmp 118) (Operand.tmp 119) 3, type := 4, pos := "laws.go:321", after := #[{ on := 8, ground := Ground.data }, { on := 9, ground := Ground.data }, { on := 7, ground := Ground.guard }], guard := some (7, false) }) (v := ?vf11_10) rfl (by kernel_rfl) (by kernel_rfl) (by kernel_rfl) (fun _ _ _ h => h) (Or.inl ⟨by rfl, ?hyf11_10⟩) (by assumption) ?restf11_10
            case hyf11_10 => (intro w hSw; (try dsimp only at hSw); go_simp; try with_reducible rfl)
            try simp only [Act.put, List.setIfInBounds_toArray, List.set_cons_zero, List.set_cons_succ]
            refine wpAnyH_take (i := 11) (oi := { dst := some 121, op := Op.move (Operand.tmp 120), type := 4, pos := "laws.go:321", after := #[{ on := 10, ground := Ground.data }, { on := 7, ground := Ground.chain }, { on := 7, ground := Ground.guard }], guard := some (7, false) }) (v := ?vf12_11) rfl (by kernel_rfl) (by kernel_rfl) (by kernel_rfl) (fun _ _ _ h => h) (Or.inl ⟨by rfl, ?hyf12_11⟩) (by assumption) ?restf12_11
            case hyf12_11 => (intro w hSw; (try dsimp only at hSw); go_simp; try with_reducible rfl)
            try simp only [Act.put, List.setIfInBounds_toArray, List.set_cons_zero, List.set_cons_succ]
            refine wpAnyH_take (i := 12) (oi := { dst := some 122, op := Op.move (Operand.tmp 18), type := 3, pos := "laws.go:321", after := #[{ on := 11, ground := Ground.guard }], guard := some (11, true) }) (v := ?vf13_12) rfl (by kernel_rfl) (by kernel_rfl) (by kernel_rfl) (fun _ _ _ h => h) (Or.inl ⟨by rfl, ?hyf13_12⟩) (by assumption) ?restf13_12
            case hyf13_12 => (intro w hSw; (try dsimp only at hSw); go_simp; try with_reducible rfl)
            try simp only [Act.put, List.setIfInBounds_toArray, List.set_cons_zero, List.set_cons_succ]
            refine wpAnyH_take (i := 13) (oi := { dst := some 123, op := Op.binOp BinOp.lss 3 (Operand.tmp 122) (Operand.const (Value.int IntKind.i64 0)) 3, type := 4, pos := "laws.go:321", after := #[{ on := 12, ground := Ground.data }, { on := 11, ground := Ground.guard }], guard := some (11, true) }) (v := ?vf14_13) rfl (by kernel_rfl) (by kernel_rfl) (by kernel_rfl) (fun _ _ _ h => h) (Or.inl ⟨by rfl, ?hyf14_13⟩) (by assumption) ?restf14_13
            case hyf14_13 => (intro w hSw; (try dsimp only at hSw); go_simp; try with_reducible rfl)
            try simp only [Act.put, List.setIfInBounds_toArray, List.set_cons_zero, List.set_cons_succ]
            refine wpAnyH_take (i := 14) (oi := { dst := some 124, op := Op.move (Operand.tmp 123), type := 4, pos := "laws.go:321", after := #[{ on := 13, ground := Ground.data }, { on := 11, ground := Ground.chain }, { on := 11, ground := Ground.guard }], guard := some (11, true) }) (v := ?vf15_14) rfl (by kernel_rfl) (by kernel_rfl) (by kernel_rfl) (fun _ _ _ h => h) (Or.inl ⟨by rfl, ?hyf15_14⟩) (by assumption) ?restf15_14
            case hyf15_14 => (intro w hSw; (try dsimp only at hSw); go_simp; try with_reducible rfl)
            try simp only [Act.put, List.setIfInBounds_toArray, List.set_cons_zero, List.set_cons_succ]
            refine wpAnyH_take (i := 15) (oi := { dst := some 125, op := Op.fieldAddr 29 (Operand.tmp 14) 4, type := 0, pos := "laws.go:321", after := #[{ on := 14, ground := Ground.guard }], guard := some (14, false) }) (v := ?vf16_15) rfl (by kernel_rfl) (by kernel_rfl) (by kernel_rfl) (fun _ _ _ h => h) (Or.inl ⟨by rfl, ?hyf16_15⟩) (by assumption) ?restf16_15
            case hyf16_15 => (intro w hSw; (try dsimp only at hSw); go_simp; try with_reducible rfl)
            try simp only [Act.put, List.setIfInBounds_toArray, List.set_cons_zero, List.set_cons_succ]
            refine wpAnyH_take (i := 16) (oi := { dst := some 126, op := Op.load 26 (Operand.tmp 125), type := 26, pos := "laws.go:321", after := #[{ on := 15, ground := Ground.data }, { on := 14, ground := Ground.guard }], guard := some (14, false) }) (v := ?vf17_16) rfl (by kernel_rfl) (by kernel_rfl) (by kernel_rfl) (fun _ _ _ h => h) (Or.inl ⟨by rfl, ?hyf17_16⟩) (by assumption) ?restf17_16
            case hyf17_16 => (intro w hSw; (try dsimp only at hSw); go_simp; try with_reducible rfl)
            try simp only [Act.put, List.setIfInBounds_toArray, List.set_cons_zero, List.set_cons_succ]
            refine wpAnyH_take (i := 17) (oi := { dst := some 127, op := Op.move (Operand.tmp 18), type := 3, pos := "laws.go:321", after := #[{ on := 14, ground := Ground.guard }], guard := some (14, false) }) (v := ?vf18_17) rfl (by kernel_rfl) (by kernel_rfl) (by kernel_rfl) (fun _ _ _ h => h) (Or.inl ⟨by rfl, ?hyf18_17⟩) (by assumption) ?restf18_17
            case hyf18_17 => (intro w hSw; (try dsimp only at hSw); go_simp; try with_reducible rfl)
            try simp only [Act.put, List.setIfInBounds_toArray, List.set_cons_zero, List.set_cons_succ]
            refine wpAnyH_take (i := 18) (oi := { dst := some 128, op := Op.indexAddr 26 (Operand.tmp 126) (Operand.tmp 127), type := 0, pos := "laws.go:321", after := #[{ on := 16, ground := Ground.data }, { on := 17, ground := Ground.data }, { on := 14, ground := Ground.guard }], guard := some (14, false) }) (v := ?vf19_18) rfl (by kernel_rfl) (by kernel_rfl) (by kernel_rfl) (fun _ _ _ h => h) (Or.inl ⟨by rfl, ?hyf19_18⟩) (by assumption) ?restf19_18
            case hyf19_18 => (intro w hSw; (try dsimp only at hSw); go_simp; try with_reducible rfl)
            try simp only [Act.put, List.setIfInBounds_toArray, List.set_cons_zero, List.set_cons_succ]
            refine wpAnyH_take (i := 19) (oi := { dst := some 129, op := Op.load 39 (Operand.tmp 128), type := 39, pos := "laws.go:321", after := #[{ on := 18, ground := Ground.data }, { on := 14, ground := Ground.guard }], guard := some (14, false) }) (v := ?vf20_19) rfl (by kernel_rfl) (by kernel_rfl) (by kernel_rfl) (fun _ _ _ h => h) (Or.inl ⟨by rfl, ?hyf20_19⟩) (by assumption) ?restf20_19
            case hyf20_19 => (intro w hSw; (try dsimp only at hSw); go_simp; try with_reducible rfl)
            try simp only [Act.put, List.setIfInBounds_toArray, List.set_cons_zero, List.set_cons_succ]
            refine wpAnyH_take (i := 20) (oi := { dst := some 130, op := Op.load 39 (Operand.tmp 17), type := 39, pos := "laws.go:321", after := #[{ on := 14, ground := Ground.guard }], guard := some (14, false) }) (v := ?vf21_20) rfl (by kernel_rfl) (by kernel_rfl) (by kernel_rfl) (fun _ _ _ h => h) (Or.inl ⟨by rfl, ?hyf21_20⟩) (by assumption) ?restf21_20
            case hyf21_20 => (intro w hSw; (try dsimp only at hSw); go_simp; try with_reducible rfl)
            try simp only [Act.put, List.setIfInBounds_toArray, List.set_cons_zero, List.set_cons_succ]
            clear hHeld
            refine wpAnyH_ready (rs := [21]) (by kernel_rfl) (by simp) ?_
            refine AllReadyH.cons (o := { dst := some 131, op := Op.call { callee := Callee.value (Operand.func 15), args := #[Operand.tmp 129, Operand.tmp 130], argTypes := #[39, 39] }, type := 4, pos := "laws.go:321", after := #[{ on := 19, ground := Ground.data }, { on := 20, ground := Ground.data }, { on := 14, ground := Ground.chain }, { on := 14, ground := Ground.guard }], guard := some (14, false) }) rfl (fun K hK => ?_) AllReadyH.nil
            go_simp
            refine (specSame_any gk uk fa3 lk fc3 fk tk gk uk fa1 lk fc1 fk tk _ HLK.out HLK.out HFL.out (R3.out.later (bdr (bre _))) (HRS.out.later (bdr (bre _)))).mono ?_
            rintro e v4 ⟨rfl, hb⟩
            rw [smail_self]
            have HV : Hid (Below v3.heap.size v3 v4) := btr (bdr (bre _)) hb
            clear hb
            go_wp2_with fail
            refine hK.out _ _ (HS.out _ HV.out) (fun hHeld => ?_)
            clear hK K
            try simp only [Act.put, List.setIfInBounds_toArray, List.set_cons_zero, List.set_cons_succ]
            refine wpAnyH_take (i := 22) (oi := { dst := some 132, op := Op.unOp UnOp.not 4 (Operand.tmp 131), type := 4, pos := "laws.go:321", after := #[{ on := 21, ground := Ground.data }, { on := 14, ground := Ground.guard }], guard := some (14, false) }) (v := ?vf22_22) rfl (by kernel_rfl) (by kernel_rfl) (by kernel_rfl) (fun _ _ _ h => h) (Or.inl ⟨by rfl, ?hyf22_22⟩) (by assumption) ?restf22_22
            case hyf22_22 => (intro w hSw; (try dsimp only at hSw); go_simp; try with_reducible rfl)
            try simp only [Act.put, List.setIfInBounds_toArray, List.set_cons_zero, List.set_cons_succ]
            refine wpAnyH_take (i := 23) (oi := { dst := some 133, op := Op.pick (Operand.tmp 124) (Operand.const (Value.bool true)) (Operand.tmp 132), type := 4, pos := "laws.go:321", after := #[{ on := 14, ground := Ground.data }, { on := 22, ground := Ground.data }, { on := 11, ground := Ground.guard }], guard := some (11, true) }) (v := ?vf23_23) rfl (by kernel_rfl) (by kernel_rfl) (by kernel_rfl) (fun _ _ _ h => h) (Or.inl ⟨by rfl, ?hyf23_23⟩) (by assumption) ?restf23_23
            case hyf23_23 => (intro w hSw; (try dsimp only at hSw); go_simp; try with_reducible rfl)
            try simp only [Act.put, List.setIfInBounds_toArray, List.set_cons_zero, List.set_cons_succ]
            refine wpAnyH_take (i := 24) (oi := { dst := some 134, op := Op.pick (Operand.tmp 121) (Operand.tmp 133) (Operand.const (Value.bool false)), type := 4, pos := "laws.go:321", after := #[{ on := 11, ground := Ground.data }, { on := 23, ground := Ground.data }, { on := 7, ground := Ground.guard }], guard := some (7, false) }) (v := ?vf24_24) rfl (by kernel_rfl) (by kernel_rfl) (by kernel_rfl) (fun _ _ _ h => h) (Or.inl ⟨by rfl, ?hyf24_24⟩) (by assumption) ?restf24_24
            case hyf24_24 => (intro w hSw; (try dsimp only at hSw); go_simp; try with_reducible rfl)
            try simp only [Act.put, List.setIfInBounds_toArray, List.set_cons_zero, List.set_cons_succ]
            refine wpAnyH_take (i := 25) (oi := { dst := some 135, op := Op.pick (Operand.tmp 117) (Operand.const (Value.bool true)) (Operand.tmp 134), type := 4, pos := "laws.go:321", after := #[{ on := 7, ground := Ground.data }, { on := 24, ground := Ground.data }], guard := none }) (v := ?vf25_25) rfl (by kernel_rfl) (by kernel_rfl) (by kernel_rfl) (fun _ _ _ h => h) (Or.inl ⟨by rfl, ?hyf25_25⟩) (by assumption) ?restf25_25
            case hyf25_25 => (intro w hSw; (try dsimp only at hSw); go_simp; try with_reducible rfl)
            try simp only [Act.put, List.setIfInBounds_toArray, List.set_cons_zero, List.set_cons_succ]
            refine wpAnyH_done (by kernel_rfl) ?_ _
            refine NoPanic.normal ?_
            have HBV := hid (btr HBV.out HV.out)
            go_wp2
            go_roundw
            case rel => exact ⟨k + 1, by have := HLT.out; omega, by go_num, HBV.out⟩
            case measure => simp [intOf]; have := HLT.out; omega
        · have hkr2 : (fmL true L0 gr nn 60 1)[r]? = some (fgm (gr, ur, fr, tr) nn 60 1) := HX.out.2.2.2.1
          rw [← HK1.out] at hkr2
          obtain ⟨_, _, kc, oc, fa2, fc2, hma, hkk2, hC2, hRs2⟩ := ml_at Z12.out hkr2
          subst hma
          dsimp only [fgm] at hC2 hRs2
          obtain ⟨_, _, kb, ob, fa1, fc1, hma, hkk1, hC1, _⟩ := ml_at Z0.out HMR.out
          simp only [Option.some.injEq, Addr.mk.injEq] at hma
          obtain ⟨e1, e2, _⟩ := hma
          subst e1
          subst e2
          dsimp only at hC1
          rw [HX.out.2.2.2.2.2.2.2.1] at hC2
          have RS2 := hid hRs2
          have hI : (0 : Int) ≤ (r : Int) ∧ (r : Int) < (N1 : Int) := by have := HRL.out; omega
          have HS : Hid (∀ W, Below wr.heap.size wr W → (W.cell? ⟨k12, 4, none⟩ = some (.int .i64 nx0) ∧ W.cell? ⟨k12, 5, none⟩ = some (.slice (some ⟨kc, oc, none⟩) N1 c12)) ∧ (W.cell? ⟨kc, oc + r * 4 + 1, none⟩ = some (.int .i64 ur) ∧ W.cell? ⟨kc, oc + r * 4 + 2, none⟩ = some (.slice fa2 3 fc2)) ∧ (W.cell? ⟨k0, 4, none⟩ = some (.int .i64 nx0) ∧ W.cell? ⟨k0, 5, none⟩ = some (.slice (some ⟨kr, or_, none⟩) N1 mc0)) ∧ W.cell? ⟨kr, or_ + r * 4 + 1, none⟩ = some (.int .i64 ur) ∧ (W.cell? ⟨k14, 4, none⟩ = some (.int .i64 nx0) ∧ W.cell? ⟨k14, 6, none⟩ = some (.slice d14 M2 e14))) := fun W h => ⟨⟨(X12.out.later h).cells.2.2.2.2.1, (X12.out.later h).cells.2.2.2.2.2.1⟩, ⟨(C4.later hC2 hkk2 h).2.1, (C4.later hC2 hkk2 h).2.2.1⟩, ⟨(X0.out.later h).cells.2.2.2.2.1, (X0.out.later h).cells.2.2.2.2.2.1⟩, (C4.later hC1 hkk1 h).2.1, ⟨(X14.out.later h).cells.2.2.2.2.1, (X14.out.later h).cells.2.2.2.2.2.2⟩⟩
          clear hC1 hC2 hkr2 hRs2
          have q0 := X0.out.cells
          go_wp2_with fail
          clear q0
          try dsimp only [List.append]
          refine wp_region_noPanic ?_
          refine wp_region_held_drew (S := (fun W => (W.cell? ⟨k12, 4, none⟩ = some (.int .i64 nx0) ∧ W.cell? ⟨k12, 5, none⟩ = some (.slice (some ⟨kc, oc, none⟩) N1 c12)) ∧ (W.cell? ⟨kc, oc + r * 4 + 1, none⟩ = some (.int .i64 ur) ∧ W.cell? ⟨kc, oc + r * 4 + 2, none⟩ = some (.slice fa2 3 fc2)) ∧ (W.cell? ⟨k0, 4, none⟩ = some (.int .i64 nx0) ∧ W.cell? ⟨k0, 5, none⟩ = some (.slice (some ⟨kr, or_, none⟩) N1 mc0)) ∧ W.cell? ⟨kr, or_ + r * 4 + 1, none⟩ = some (.int .i64 ur) ∧ (W.cell? ⟨k14, 4, none⟩ = some (.int .i64 nx0) ∧ W.cell? ⟨k14, 6, none⟩ = some (.slice d14 M2 e14)))) (by kernel_rfl) (HS.out _ (bdr (bre _))) (fun hHeld => ?_)
          refine wpAnyH_take (i := 0) (oi := { dst := some 136, op := Op.move (Operand.tmp 13), type := 4, pos := "laws.go:325", after := #[], guard := none }) (v := ?vg1_0) rfl (by kernel_rfl) (by kernel_rfl) (by kernel_rfl) (fun _ _ _ h => h) (Or.inl ⟨by rfl, ?hyg1_0⟩) (by assumption) ?restg1_0
          case hyg1_0 => (intro w hSw; (try dsimp only at hSw); go_simp; try with_reducible rfl)
          try simp only [Act.put, List.setIfInBounds_toArray, List.set_cons_zero, List.set_cons_succ]
          refine wpAnyH_take (i := 1) (oi := { dst := some 137, op := Op.move (Operand.tmp 136), type := 4, pos := "laws.go:325", after := #[{ on := 0, ground := Ground.data }], guard := none }) (v := ?vg2_1) rfl (by kernel_rfl) (by kernel_rfl) (by kernel_rfl) (fun _ _ _ h => h) (Or.inl ⟨by rfl, ?hyg2_1⟩) (by assumption) ?restg2_1
          case hyg2_1 => (intro w hSw; (try dsimp only at hSw); go_simp; try with_reducible rfl)
          try simp only [Act.put, List.setIfInBounds_toArray, List.set_cons_zero, List.set_cons_succ]
          refine wpAnyH_take (i := 2) (oi := { dst := some 138, op := Op.move (Operand.tmp 15), type := 4, pos := "laws.go:325", after := #[{ on := 1, ground := Ground.guard }], guard := some (1, true) }) (v := ?vg3_2) rfl (by kernel_rfl) (by kernel_rfl) (by kernel_rfl) (fun _ _ _ h => h) (Or.inl ⟨by rfl, ?hyg3_2⟩) (by assumption) ?restg3_2
          case hyg3_2 => (intro w hSw; (try dsimp only at hSw); go_simp; try with_reducible rfl)
          try simp only [Act.put, List.setIfInBounds_toArray, List.set_cons_zero, List.set_cons_succ]
          refine wpAnyH_take (i := 3) (oi := { dst := some 139, op := Op.pick (Operand.tmp 137) (Operand.tmp 138) (Operand.const (Value.bool false)), type := 4, pos := "laws.go:325", after := #[{ on := 1, ground := Ground.data }, { on := 2, ground := Ground.data }], guard := none }) (v := ?vg4_3) rfl (by kernel_rfl) (by kernel_rfl) (by kernel_rfl) (fun _ _ _ h => h) (Or.inl ⟨by rfl, ?hyg4_3⟩) (by assumption) ?restg4_3
          case hyg4_3 => (intro w hSw; (try dsimp only at hSw); go_simp; try with_reducible rfl)
          try simp only [Act.put, List.setIfInBounds_toArray, List.set_cons_zero, List.set_cons_succ]
          refine wpAnyH_take (i := 4) (oi := { dst := some 140, op := Op.move (Operand.tmp 139), type := 4, pos := "laws.go:325", after := #[{ on := 3, ground := Ground.data }, { on := 1, ground := Ground.chain }], guard := none }) (v := ?vg5_4) rfl (by kernel_rfl) (by kernel_rfl) (by kernel_rfl) (fun _ _ _ h => h) (Or.inl ⟨by rfl, ?hyg5_4⟩) (by assumption) ?restg5_4
          case hyg5_4 => (intro w hSw; (try dsimp only at hSw); go_simp; try with_reducible rfl)
          try simp only [Act.put, List.setIfInBounds_toArray, List.set_cons_zero, List.set_cons_succ]
          refine wpAnyH_take (i := 5) (oi := { dst := some 141, op := Op.fieldAddr 29 (Operand.tmp 12) 4, type := 0, pos := "laws.go:325", after := #[{ on := 4, ground := Ground.guard }], guard := some (4, true) }) (v := ?vg6_5) rfl (by kernel_rfl) (by kernel_rfl) (by kernel_rfl) (fun _ _ _ h => h) (Or.inl ⟨by rfl, ?hyg6_5⟩) (by assumption) ?restg6_5
          case hyg6_5 => (intro w hSw; (try dsimp only at hSw); go_simp; try with_reducible rfl)
          try simp only [Act.put, List.setIfInBounds_toArray, List.set_cons_zero, List.set_cons_succ]
          refine wpAnyH_take (i := 6) (oi := { dst := some 142, op := Op.load 26 (Operand.tmp 141), type := 26, pos := "laws.go:325", after := #[{ on := 5, ground := Ground.data }, { on := 4, ground := Ground.guard }], guard := some (4, true) }) (v := ?vg7_6) rfl (by kernel_rfl) (by kernel_rfl) (by kernel_rfl) (fun _ _ _ h => h) (Or.inl ⟨by rfl, ?hyg7_6⟩) (by assumption) ?restg7_6
          case hyg7_6 => (intro w hSw; (try dsimp only at hSw); go_simp; try with_reducible rfl)
          try simp only [Act.put, List.setIfInBounds_toArray, List.set_cons_zero, List.set_cons_succ]
          refine wpAnyH_take (i := 7) (oi := { dst := some 143, op := Op.move (Operand.tmp 9), type := 3, pos := "laws.go:325", after := #[{ on := 4, ground := Ground.guard }], guard := some (4, true) }) (v := ?vg8_7) rfl (by kernel_rfl) (by kernel_rfl) (by kernel_rfl) (fun _ _ _ h => h) (Or.inl ⟨by rfl, ?hyg8_7⟩) (by assumption) ?restg8_7
          case hyg8_7 => (intro w hSw; (try dsimp only at hSw); go_simp; try with_reducible rfl)
          try simp only [Act.put, List.setIfInBounds_toArray, List.set_cons_zero, List.set_cons_succ]
          refine wpAnyH_take (i := 8) (oi := { dst := some 144, op := Op.indexAddr 26 (Operand.tmp 142) (Operand.tmp 143), type := 0, pos := "laws.go:325", after := #[{ on := 6, ground := Ground.data }, { on := 7, ground := Ground.data }, { on := 4, ground := Ground.guard }], guard := some (4, true) }) (v := ?vg9_8) rfl (by kernel_rfl) (by kernel_rfl) (by kernel_rfl) (fun _ _ _ h => h) (Or.inl ⟨by rfl, ?hyg9_8⟩) (by assumption) ?restg9_8
          case hyg9_8 => (intro w hSw; (try dsimp only at hSw); go_simp; try with_reducible rfl)
          try simp only [Act.put, List.setIfInBounds_toArray, List.set_cons_zero, List.set_cons_succ]
          refine wpAnyH_take (i := 9) (oi := { dst := some 145, op := Op.fieldAddr 39 (Operand.tmp 144) 2, type := 0, pos := "laws.go:325", after := #[{ on := 8, ground := Ground.data }, { on := 4, ground := Ground.guard }], guard := some (4, true) }) (v := ?vg10_9) rfl (by kernel_rfl) (by kernel_rfl) (by kernel_rfl) (fun _ _ _ h => h) (Or.inl ⟨by rfl, ?hyg10_9⟩) (by assumption) ?restg10_9
          case hyg10_9 => (intro w hSw; (try dsimp only at hSw); go_simp; try with_reducible rfl)
          try simp only [Act.put, List.setIfInBounds_toArray, List.set_cons_zero, List.set_cons_succ]
          refine wpAnyH_take (i := 10) (oi := { dst := some 146, op := Op.load 37 (Operand.tmp 145), type := 37, pos := "laws.go:325", after := #[{ on := 9, ground := Ground.data }, { on := 4, ground := Ground.guard }], guard := some (4, true) }) (v := ?vg11_10) rfl (by kernel_rfl) (by kernel_rfl) (by kernel_rfl) (fun _ _ _ h => h) (Or.inl ⟨by rfl, ?hyg11_10⟩) (by assumption) ?restg11_10
          case hyg11_10 => (intro w hSw; (try dsimp only at hSw); go_simp; try with_reducible rfl)
          try simp only [Act.put, List.setIfInBounds_toArray, List.set_cons_zero, List.set_cons_succ]
          refine wpAnyH_take (i := 12) (oi := { dst := some 148, op := Op.move (Operand.tmp 11), type := 3, pos := "laws.go:325", after := #[{ on := 4, ground := Ground.guard }], guard := some (4, true) }) (v := ?vg12_12) rfl (by kernel_rfl) (by kernel_rfl) (by kernel_rfl) (fun _ _ _ h => h) (Or.inl ⟨by rfl, ?hyg12_12⟩) (by assumption) ?restg12_12
          case hyg12_12 => (intro w hSw; (try dsimp only at hSw); go_simp; try with_reducible rfl)
          try simp only [Act.put, List.setIfInBounds_toArray, List.set_cons_zero, List.set_cons_succ]
          clear hHeld
          refine wpAnyH_ready (rs := [11]) (by kernel_rfl) (by simp) ?_
          refine AllReadyH.cons (o := { dst := some 147, op := Op.call { callee := Callee.value (Operand.func 16), args := #[Operand.tmp 146], argTypes := #[37] }, type := 3, pos := "laws.go:325", after := #[{ on := 10, ground := Ground.data }, { on := 4, ground := Ground.chain }, { on := 4, ground := Ground.guard }], guard := some (4, true) }) rfl (fun K hK => ?_) AllReadyH.nil
          go_simp
          refine (specFlagsOf_any fa2 3 fc2 (sl fr nn 60 1) _ HX.out.2.2.2.2.2.2.2.1 (by decide) (RS2.out.later (bdr (bre _)))).mono ?_
          rintro e v1 ⟨rfl, hb⟩
          rw [show min 3 3 = 3 from rfl, HX.out.2.2.2.2.2.2.2.2]
          have HV : Hid (Below wr.heap.size wr v1) := btr (bdr (bre _)) hb
          clear hb
          go_wp2_with fail
          refine hK.out _ _ (HS.out _ HV.out) (fun hHeld => ?_)
          clear hK K
          try simp only [Act.put, List.setIfInBounds_toArray, List.set_cons_zero, List.set_cons_succ]
          refine wpAnyH_take (i := 13) (oi := { dst := some 149, op := Op.binOp BinOp.eql 3 (Operand.tmp 147) (Operand.tmp 148) 3, type := 4, pos := "laws.go:325", after := #[{ on := 11, ground := Ground.data }, { on := 12, ground := Ground.data }, { on := 4, ground := Ground.guard }], guard := some (4, true) }) (v := ?vg13_13) rfl (by kernel_rfl) (by kernel_rfl) (by kernel_rfl) (fun _ _ _ h => h) (Or.inl ⟨by rfl, ?hyg13_13⟩) (by assumption) ?restg13_13
          case hyg13_13 => (intro w hSw; (try dsimp only at hSw); go_simp; try with_reducible rfl)
          try simp only [Act.put, List.setIfInBounds_toArray, List.set_cons_zero, List.set_cons_succ]
          refine wpAnyH_take (i := 14) (oi := { dst := some 150, op := Op.pick (Operand.tmp 140) (Operand.tmp 149) (Operand.const (Value.bool false)), type := 4, pos := "laws.go:325", after := #[{ on := 4, ground := Ground.data }, { on := 13, ground := Ground.data }], guard := none }) (v := ?vg14_14) rfl (by kernel_rfl) (by kernel_rfl) (by kernel_rfl) (fun _ _ _ h => h) (Or.inl ⟨by rfl, ?hyg14_14⟩) (by assumption) ?restg14_14
          case hyg14_14 => (intro w hSw; (try dsimp only at hSw); go_simp; try with_reducible rfl)
          try simp only [Act.put, List.setIfInBounds_toArray, List.set_cons_zero, List.set_cons_succ]
          refine wpAnyH_take (i := 15) (oi := { dst := some 151, op := Op.move (Operand.tmp 150), type := 4, pos := "laws.go:325", after := #[{ on := 14, ground := Ground.data }, { on := 11, ground := Ground.chain }], guard := none }) (v := ?vg15_15) rfl (by kernel_rfl) (by kernel_rfl) (by kernel_rfl) (fun _ _ _ h => h) (Or.inl ⟨by rfl, ?hyg15_15⟩) (by assumption) ?restg15_15
          case hyg15_15 => (intro w hSw; (try dsimp only at hSw); go_simp; try with_reducible rfl)
          try simp only [Act.put, List.setIfInBounds_toArray, List.set_cons_zero, List.set_cons_succ]
          refine wpAnyH_take (i := 16) (oi := { dst := some 152, op := Op.fieldAddr 29 (Operand.tmp 12) 4, type := 0, pos := "laws.go:325", after := #[{ on := 15, ground := Ground.guard }], guard := some (15, true) }) (v := ?vg16_16) rfl (by kernel_rfl) (by kernel_rfl) (by kernel_rfl) (fun _ _ _ h => h) (Or.inl ⟨by rfl, ?hyg16_16⟩) (by assumption) ?restg16_16
          case hyg16_16 => (intro w hSw; (try dsimp only at hSw); go_simp; try with_reducible rfl)
          try simp only [Act.put, List.setIfInBounds_toArray, List.set_cons_zero, List.set_cons_succ]
          refine wpAnyH_take (i := 17) (oi := { dst := some 153, op := Op.load 26 (Operand.tmp 152), type := 26, pos := "laws.go:325", after := #[{ on := 16, ground := Ground.data }, { on := 15, ground := Ground.guard }], guard := some (15, true) }) (v := ?vg17_17) rfl (by kernel_rfl) (by kernel_rfl) (by kernel_rfl) (fun _ _ _ h => h) (Or.inl ⟨by rfl, ?hyg17_17⟩) (by assumption) ?restg17_17
          case hyg17_17 => (intro w hSw; (try dsimp only at hSw); go_simp; try with_reducible rfl)
          try simp only [Act.put, List.setIfInBounds_toArray, List.set_cons_zero, List.set_cons_succ]
          refine wpAnyH_take (i := 18) (oi := { dst := some 154, op := Op.move (Operand.tmp 9), type := 3, pos := "laws.go:325", after := #[{ on := 15, ground := Ground.guard }], guard := some (15, true) }) (v := ?vg18_18) rfl (by kernel_rfl) (by kernel_rfl) (by kernel_rfl) (fun _ _ _ h => h) (Or.inl ⟨by rfl, ?hyg18_18⟩) (by assumption) ?restg18_18
          case hyg18_18 => (intro w hSw; (try dsimp only at hSw); go_simp; try with_reducible rfl)
          try simp only [Act.put, List.setIfInBounds_toArray, List.set_cons_zero, List.set_cons_succ]
          refine wpAnyH_take (i := 19) (oi := { dst := some 155, op := Op.indexAddr 26 (Operand.tmp 153) (Operand.tmp 154), type := 0, pos := "laws.go:325", after := #[{ on := 17, ground := Ground.data }, { on := 18, ground := Ground.data }, { on := 15, ground := Ground.guard }], guard := some (15, true) }) (v := ?vg19_19) rfl (by kernel_rfl) (by kernel_rfl) (by kernel_rfl) (fun _ _ _ h => h) (Or.inl ⟨by rfl, ?hyg19_19⟩) (by assumption) ?restg19_19
          case hyg19_19 => (intro w hSw; (try dsimp only at hSw); go_simp; try with_reducible rfl)
          try simp only [Act.put, List.setIfInBounds_toArray, List.set_cons_zero, List.set_cons_succ]
          refine wpAnyH_take (i := 20) (oi := { dst := some 156, op := Op.fieldAddr 39 (Operand.tmp 155) 1, type := 0, pos := "laws.go:325", after := #[{ on := 19, ground := Ground.data }, { on := 15, ground := Ground.guard }], guard := some (15, true) }) (v := ?vg20_20) rfl (by kernel_rfl) (by kernel_rfl) (by kernel_rfl) (fun _ _ _ h => h) (Or.inl ⟨by rfl, ?hyg20_20⟩) (by assumption) ?restg20_20
          case hyg20_20 => (intro w hSw; (try dsimp only at hSw); go_simp; try with_reducible rfl)
          try simp only [Act.put, List.setIfInBounds_toArray, List.set_cons_zero, List.set_cons_succ]
          refine wpAnyH_take (i := 21) (oi := { dst := some 157, op := Op.load 3 (Operand.tmp 156), type := 3, pos := "laws.go:325", after := #[{ on := 20, ground := Ground.data }, { on := 15, ground := Ground.guard }], guard := some (15, true) }) (v := ?vg21_21) rfl (by kernel_rfl) (by kernel_rfl) (by kernel_rfl) (fun _ _ _ h => h) (Or.inl ⟨by rfl, ?hyg21_21⟩) (by assumption) ?restg21_21
          case hyg21_21 => (intro w hSw; (try dsimp only at hSw); go_simp; try with_reducible rfl)
          try simp only [Act.put, List.setIfInBounds_toArray, List.set_cons_zero, List.set_cons_succ]
          refine wpAnyH_take (i := 22) (oi := { dst := some 158, op := Op.fieldAddr 29 (Operand.tmp 3) 4, type := 0, pos := "laws.go:325", after := #[{ on := 15, ground := Ground.guard }], guard := some (15, true) }) (v := ?vg22_22) rfl (by kernel_rfl) (by kernel_rfl) (by kernel_rfl) (fun _ _ _ h => h) (Or.inl ⟨by rfl, ?hyg22_22⟩) (by assumption) ?restg22_22
          case hyg22_22 => (intro w hSw; (try dsimp only at hSw); go_simp; try with_reducible rfl)
          try simp only [Act.put, List.setIfInBounds_toArray, List.set_cons_zero, List.set_cons_succ]
          refine wpAnyH_take (i := 23) (oi := { dst := some 159, op := Op.load 26 (Operand.tmp 158), type := 26, pos := "laws.go:325", after := #[{ on := 22, ground := Ground.data }, { on := 15, ground := Ground.guard }], guard := some (15, true) }) (v := ?vg23_23) rfl (by kernel_rfl) (by kernel_rfl) (by kernel_rfl) (fun _ _ _ h => h) (Or.inl ⟨by rfl, ?hyg23_23⟩) (by assumption) ?restg23_23
          case hyg23_23 => (intro w hSw; (try dsimp only at hSw); go_simp; try with_reducible rfl)
          try simp only [Act.put, List.setIfInBounds_toArray, List.set_cons_zero, List.set_cons_succ]
          refine wpAnyH_take (i := 24) (oi := { dst := some 160, op := Op.move (Operand.tmp 9), type := 3, pos := "laws.go:325", after := #[{ on := 15, ground := Ground.guard }], guard := some (15, true) }) (v := ?vg24_24) rfl (by kernel_rfl) (by kernel_rfl) (by kernel_rfl) (fun _ _ _ h => h) (Or.inl ⟨by rfl, ?hyg24_24⟩) (by assumption) ?restg24_24
          case hyg24_24 => (intro w hSw; (try dsimp only at hSw); go_simp; try with_reducible rfl)
          try simp only [Act.put, List.setIfInBounds_toArray, List.set_cons_zero, List.set_cons_succ]
          refine wpAnyH_take (i := 25) (oi := { dst := some 161, op := Op.indexAddr 26 (Operand.tmp 159) (Operand.tmp 160), type := 0, pos := "laws.go:325", after := #[{ on := 23, ground := Ground.data }, { on := 24, ground := Ground.data }, { on := 15, ground := Ground.guard }], guard := some (15, true) }) (v := ?vg25_25) rfl (by kernel_rfl) (by kernel_rfl) (by kernel_rfl) (fun _ _ _ h => h) (Or.inl ⟨by rfl, ?hyg25_25⟩) (by assumption) ?restg25_25
          case hyg25_25 => (intro w hSw; (try dsimp only at hSw); go_simp; try with_reducible rfl)
          try simp only [Act.put, List.setIfInBounds_toArray, List.set_cons_zero, List.set_cons_succ]
          refine wpAnyH_take (i := 26) (oi := { dst := some 162, op := Op.fieldAddr 39 (Operand.tmp 161) 1, type := 0, pos := "laws.go:325", after := #[{ on := 25, ground := Ground.data }, { on := 15, ground := Ground.guard }], guard := some (15, true) }) (v := ?vg26_26) rfl (by kernel_rfl) (by kernel_rfl) (by kernel_rfl) (fun _ _ _ h => h) (Or.inl ⟨by rfl, ?hyg26_26⟩) (by assumption) ?restg26_26
          case hyg26_26 => (intro w hSw; (try dsimp only at hSw); go_simp; try with_reducible rfl)
          try simp only [Act.put, List.setIfInBounds_toArray, List.set_cons_zero, List.set_cons_succ]
          refine wpAnyH_take (i := 27) (oi := { dst := some 163, op := Op.load 3 (Operand.tmp 162), type := 3, pos := "laws.go:325", after := #[{ on := 26, ground := Ground.data }, { on := 15, ground := Ground.guard }], guard := some (15, true) }) (v := ?vg27_27) rfl (by kernel_rfl) (by kernel_rfl) (by kernel_rfl) (fun _ _ _ h => h) (Or.inl ⟨by rfl, ?hyg27_27⟩) (by assumption) ?restg27_27
          case hyg27_27 => (intro w hSw; (try dsimp only at hSw); go_simp; try with_reducible rfl)
          try simp only [Act.put, List.setIfInBounds_toArray, List.set_cons_zero, List.set_cons_succ]
          refine wpAnyH_take (i := 28) (oi := { dst := some 164, op := Op.binOp BinOp.eql 3 (Operand.tmp 157) (Operand.tmp 163) 3, type := 4, pos := "laws.go:325", after := #[{ on := 21, ground := Ground.data }, { on := 27, ground := Ground.data }, { on := 15, ground := Ground.guard }], guard := some (15, true) }) (v := ?vg28_28) rfl (by kernel_rfl) (by kernel_rfl) (by kernel_rfl) (fun _ _ _ h => h) (Or.inl ⟨by rfl, ?hyg28_28⟩) (by assumption) ?restg28_28
          case hyg28_28 => (intro w hSw; (try dsimp only at hSw); go_simp; try with_reducible rfl)
          try simp only [Act.put, List.setIfInBounds_toArray, List.set_cons_zero, List.set_cons_succ]
          refine wpAnyH_take (i := 29) (oi := { dst := some 165, op := Op.pick (Operand.tmp 151) (Operand.tmp 164) (Operand.const (Value.bool false)), type := 4, pos := "laws.go:325", after := #[{ on := 15, ground := Ground.data }, { on := 28, ground := Ground.data }], guard := none }) (v := ?vg29_29) rfl (by kernel_rfl) (by kernel_rfl) (by kernel_rfl) (fun _ _ _ h => h) (Or.inl ⟨by rfl, ?hyg29_29⟩) (by assumption) ?restg29_29
          case hyg29_29 => (intro w hSw; (try dsimp only at hSw); go_simp; try with_reducible rfl)
          try simp only [Act.put, List.setIfInBounds_toArray, List.set_cons_zero, List.set_cons_succ]
          refine wpAnyH_take (i := 30) (oi := { dst := some 166, op := Op.move (Operand.tmp 165), type := 4, pos := "laws.go:325", after := #[{ on := 29, ground := Ground.data }, { on := 15, ground := Ground.chain }], guard := none }) (v := ?vg30_30) rfl (by kernel_rfl) (by kernel_rfl) (by kernel_rfl) (fun _ _ _ h => h) (Or.inl ⟨by rfl, ?hyg30_30⟩) (by assumption) ?restg30_30
          case hyg30_30 => (intro w hSw; (try dsimp only at hSw); go_simp; try with_reducible rfl)
          try simp only [Act.put, List.setIfInBounds_toArray, List.set_cons_zero, List.set_cons_succ]
          refine wpAnyH_take (i := 31) (oi := { dst := some 167, op := Op.fieldAddr 29 (Operand.tmp 12) 3, type := 0, pos := "laws.go:325", after := #[{ on := 30, ground := Ground.guard }], guard := some (30, true) }) (v := ?vg31_31) rfl (by kernel_rfl) (by kernel_rfl) (by kernel_rfl) (fun _ _ _ h => h) (Or.inl ⟨by rfl, ?hyg31_31⟩) (by assumption) ?restg31_31
          case hyg31_31 => (intro w hSw; (try dsimp only at hSw); go_simp; try with_reducible rfl)
          try simp only [Act.put, List.setIfInBounds_toArray, List.set_cons_zero, List.set_cons_succ]
          refine wpAnyH_take (i := 32) (oi := { dst := some 168, op := Op.load 3 (Operand.tmp 167), type := 3, pos := "laws.go:325", after := #[{ on := 31, ground := Ground.data }, { on := 30, ground := Ground.guard }], guard := some (30, true) }) (v := ?vg32_32) rfl (by kernel_rfl) (by kernel_rfl) (by kernel_rfl) (fun _ _ _ h => h) (Or.inl ⟨by rfl, ?hyg32_32⟩) (by assumption) ?restg32_32
          case hyg32_32 => (intro w hSw; (try dsimp only at hSw); go_simp; try with_reducible rfl)
          try simp only [Act.put, List.setIfInBounds_toArray, List.set_cons_zero, List.set_cons_succ]
          refine wpAnyH_take (i := 33) (oi := { dst := some 169, op := Op.fieldAddr 29 (Operand.tmp 3) 3, type := 0, pos := "laws.go:325", after := #[{ on := 30, ground := Ground.guard }], guard := some (30, true) }) (v := ?vg33_33) rfl (by kernel_rfl) (by kernel_rfl) (by kernel_rfl) (fun _ _ _ h => h) (Or.inl ⟨by rfl, ?hyg33_33⟩) (by assumption) ?restg33_33
          case hyg33_33 => (intro w hSw; (try dsimp only at hSw); go_simp; try with_reducible rfl)
          try simp only [Act.put, List.setIfInBounds_toArray, List.set_cons_zero, List.set_cons_succ]
          refine wpAnyH_take (i := 34) (oi := { dst := some 170, op := Op.load 3 (Operand.tmp 169), type := 3, pos := "laws.go:325", after := #[{ on := 33, ground := Ground.data }, { on := 30, ground := Ground.guard }], guard := some (30, true) }) (v := ?vg34_34) rfl (by kernel_rfl) (by kernel_rfl) (by kernel_rfl) (fun _ _ _ h => h) (Or.inl ⟨by rfl, ?hyg34_34⟩) (by assumption) ?restg34_34
          case hyg34_34 => (intro w hSw; (try dsimp only at hSw); go_simp; try with_reducible rfl)
          try simp only [Act.put, List.setIfInBounds_toArray, List.set_cons_zero, List.set_cons_succ]
          refine wpAnyH_take (i := 35) (oi := { dst := some 171, op := Op.binOp BinOp.eql 3 (Operand.tmp 168) (Operand.tmp 170) 3, type := 4, pos := "laws.go:325", after := #[{ on := 32, ground := Ground.data }, { on := 34, ground := Ground.data }, { on := 30, ground := Ground.guard }], guard := some (30, true) }) (v := ?vg35_35) rfl (by kernel_rfl) (by kernel_rfl) (by kernel_rfl) (fun _ _ _ h => h) (Or.inl ⟨by rfl, ?hyg35_35⟩) (by assumption) ?restg35_35
          case hyg35_35 => (intro w hSw; (try dsimp only at hSw); go_simp; try with_reducible rfl)
          try simp only [Act.put, List.setIfInBounds_toArray, List.set_cons_zero, List.set_cons_succ]
          refine wpAnyH_take (i := 36) (oi := { dst := some 172, op := Op.pick (Operand.tmp 166) (Operand.tmp 171) (Operand.const (Value.bool false)), type := 4, pos := "laws.go:325", after := #[{ on := 30, ground := Ground.data }, { on := 35, ground := Ground.data }], guard := none }) (v := ?vg36_36) rfl (by kernel_rfl) (by kernel_rfl) (by kernel_rfl) (fun _ _ _ h => h) (Or.inl ⟨by rfl, ?hyg36_36⟩) (by assumption) ?restg36_36
          case hyg36_36 => (intro w hSw; (try dsimp only at hSw); go_simp; try with_reducible rfl)
          try simp only [Act.put, List.setIfInBounds_toArray, List.set_cons_zero, List.set_cons_succ]
          refine wpAnyH_take (i := 37) (oi := { dst := some 173, op := Op.move (Operand.tmp 172), type := 4, pos := "laws.go:325", after := #[{ on := 36, ground := Ground.data }, { on := 30, ground := Ground.chain }], guard := none }) (v := ?vg37_37) rfl (by kernel_rfl) (by kernel_rfl) (by kernel_rfl) (fun _ _ _ h => h) (Or.inl ⟨by rfl, ?hyg37_37⟩) (by assumption) ?restg37_37
          case hyg37_37 => (intro w hSw; (try dsimp only at hSw); go_simp; try with_reducible rfl)
          try simp only [Act.put, List.setIfInBounds_toArray, List.set_cons_zero, List.set_cons_succ]
          refine wpAnyH_take (i := 38) (oi := { dst := some 174, op := Op.fieldAddr 29 (Operand.tmp 14) 3, type := 0, pos := "laws.go:325", after := #[{ on := 37, ground := Ground.guard }], guard := some (37, true) }) (v := ?vg38_38) rfl (by kernel_rfl) (by kernel_rfl) (by kernel_rfl) (fun _ _ _ h => h) (Or.inl ⟨by rfl, ?hyg38_38⟩) (by assumption) ?restg38_38
          case hyg38_38 => (intro w hSw; (try dsimp only at hSw); go_simp; try with_reducible rfl)
          try simp only [Act.put, List.setIfInBounds_toArray, List.set_cons_zero, List.set_cons_succ]
          refine wpAnyH_take (i := 39) (oi := { dst := some 175, op := Op.load 3 (Operand.tmp 174), type := 3, pos := "laws.go:325", after := #[{ on := 38, ground := Ground.data }, { on := 37, ground := Ground.guard }], guard := some (37, true) }) (v := ?vg39_39) rfl (by kernel_rfl) (by kernel_rfl) (by kernel_rfl) (fun _ _ _ h => h) (Or.inl ⟨by rfl, ?hyg39_39⟩) (by assumption) ?restg39_39
          case hyg39_39 => (intro w hSw; (try dsimp only at hSw); go_simp; try with_reducible rfl)
          try simp only [Act.put, List.setIfInBounds_toArray, List.set_cons_zero, List.set_cons_succ]
          refine wpAnyH_take (i := 40) (oi := { dst := some 176, op := Op.fieldAddr 29 (Operand.tmp 3) 3, type := 0, pos := "laws.go:325", after := #[{ on := 37, ground := Ground.guard }], guard := some (37, true) }) (v := ?vg40_40) rfl (by kernel_rfl) (by kernel_rfl) (by kernel_rfl) (fun _ _ _ h => h) (Or.inl ⟨by rfl, ?hyg40_40⟩) (by assumption) ?restg40_40
          case hyg40_40 => (intro w hSw; (try dsimp only at hSw); go_simp; try with_reducible rfl)
          try simp only [Act.put, List.setIfInBounds_toArray, List.set_cons_zero, List.set_cons_succ]
          refine wpAnyH_take (i := 41) (oi := { dst := some 177, op := Op.load 3 (Operand.tmp 176), type := 3, pos := "laws.go:325", after := #[{ on := 40, ground := Ground.data }, { on := 37, ground := Ground.guard }], guard := some (37, true) }) (v := ?vg41_41) rfl (by kernel_rfl) (by kernel_rfl) (by kernel_rfl) (fun _ _ _ h => h) (Or.inl ⟨by rfl, ?hyg41_41⟩) (by assumption) ?restg41_41
          case hyg41_41 => (intro w hSw; (try dsimp only at hSw); go_simp; try with_reducible rfl)
          try simp only [Act.put, List.setIfInBounds_toArray, List.set_cons_zero, List.set_cons_succ]
          refine wpAnyH_take (i := 42) (oi := { dst := some 178, op := Op.binOp BinOp.eql 3 (Operand.tmp 175) (Operand.tmp 177) 3, type := 4, pos := "laws.go:325", after := #[{ on := 39, ground := Ground.data }, { on := 41, ground := Ground.data }, { on := 37, ground := Ground.guard }], guard := some (37, true) }) (v := ?vg42_42) rfl (by kernel_rfl) (by kernel_rfl) (by kernel_rfl) (fun _ _ _ h => h) (Or.inl ⟨by rfl, ?hyg42_42⟩) (by assumption) ?restg42_42
          case hyg42_42 => (intro w hSw; (try dsimp only at hSw); go_simp; try with_reducible rfl)
          try simp only [Act.put, List.setIfInBounds_toArray, List.set_cons_zero, List.set_cons_succ]
          refine wpAnyH_take (i := 43) (oi := { dst := some 179, op := Op.pick (Operand.tmp 173) (Operand.tmp 178) (Operand.const (Value.bool false)), type := 4, pos := "laws.go:325", after := #[{ on := 37, ground := Ground.data }, { on := 42, ground := Ground.data }], guard := none }) (v := ?vg43_43) rfl (by kernel_rfl) (by kernel_rfl) (by kernel_rfl) (fun _ _ _ h => h) (Or.inl ⟨by rfl, ?hyg43_43⟩) (by assumption) ?restg43_43
          case hyg43_43 => (intro w hSw; (try dsimp only at hSw); go_simp; try with_reducible rfl)
          try simp only [Act.put, List.setIfInBounds_toArray, List.set_cons_zero, List.set_cons_succ]
          refine wpAnyH_take (i := 44) (oi := { dst := some 180, op := Op.move (Operand.tmp 179), type := 4, pos := "laws.go:325", after := #[{ on := 43, ground := Ground.data }, { on := 37, ground := Ground.chain }], guard := none }) (v := ?vg44_44) rfl (by kernel_rfl) (by kernel_rfl) (by kernel_rfl) (fun _ _ _ h => h) (Or.inl ⟨by rfl, ?hyg44_44⟩) (by assumption) ?restg44_44
          case hyg44_44 => (intro w hSw; (try dsimp only at hSw); go_simp; try with_reducible rfl)
          try simp only [Act.put, List.setIfInBounds_toArray, List.set_cons_zero, List.set_cons_succ]
          refine wpAnyH_take (i := 45) (oi := { dst := some 181, op := Op.fieldAddr 29 (Operand.tmp 14) 5, type := 0, pos := "laws.go:325", after := #[{ on := 44, ground := Ground.guard }], guard := some (44, true) }) (v := ?vg45_45) rfl (by kernel_rfl) (by kernel_rfl) (by kernel_rfl) (fun _ _ _ h => h) (Or.inl ⟨by rfl, ?hyg45_45⟩) (by assumption) ?restg45_45
          case hyg45_45 => (intro w hSw; (try dsimp only at hSw); go_simp; try with_reducible rfl)
          try simp only [Act.put, List.setIfInBounds_toArray, List.set_cons_zero, List.set_cons_succ]
          refine wpAnyH_take (i := 46) (oi := { dst := some 182, op := Op.load 27 (Operand.tmp 181), type := 27, pos := "laws.go:325", after := #[{ on := 45, ground := Ground.data }, { on := 44, ground := Ground.guard }], guard := some (44, true) }) (v := ?vg46_46) rfl (by kernel_rfl) (by kernel_rfl) (by kernel_rfl) (fun _ _ _ h => h) (Or.inl ⟨by rfl, ?hyg46_46⟩) (by assumption) ?restg46_46
          case hyg46_46 => (intro w hSw; (try dsimp only at hSw); go_simp; try with_reducible rfl)
          try simp only [Act.put, List.setIfInBounds_toArray, List.set_cons_zero, List.set_cons_succ]
          refine wpAnyH_take (i := 47) (oi := { dst := some 183, op := Op.move (Operand.tmp 10), type := 3, pos := "laws.go:325", after := #[{ on := 44, ground := Ground.guard }], guard := some (44, true) }) (v := ?vg47_47) rfl (by kernel_rfl) (by kernel_rfl) (by kernel_rfl) (fun _ _ _ h => h) (Or.inl ⟨by rfl, ?hyg47_47⟩) (by assumption) ?restg47_47
          case hyg47_47 => (intro w hSw; (try dsimp only at hSw); go_simp; try with_reducible rfl)
          try simp only [Act.put, List.setIfInBounds_toArray, List.set_cons_zero, List.set_cons_succ]
          clear hHeld
          refine wpAnyH_ready (rs := [48]) (by kernel_rfl) (by simp) ?_
          refine AllReadyH.cons (o := { dst := some 184, op := Op.call { callee := Callee.value (Operand.func 17), args := #[Operand.tmp 182, Operand.tmp 183], argTypes := #[27, 3] }, type := 4, pos := "laws.go:325", after := #[{ on := 46, ground := Ground.data }, { on := 47, ground := Ground.data }, { on := 44, ground := Ground.chain }, { on := 44, ground := Ground.guard }], guard := some (44, true) }) rfl (fun K hK => ?_) AllReadyH.nil
          go_simp
          obtain ⟨l9, h9, hi9⟩ := (Z14.out.later HV.out).gone
          refine (lawIn_any l9 h9 d14 M2 e14 H2 gr _ Z14.out.glen Z14.out.gmost hi9).mono ?_
          rintro e v2 ⟨rfl, hv2⟩
          subst hv2
          rw [HH2.out, HX.out.2.2.2.2.2.2.1]
          clear hi9
          go_wp2_with fail
          refine hK.out _ _ (HS.out _ HV.out) (fun hHeld => ?_)
          clear hK K
          try simp only [Act.put, List.setIfInBounds_toArray, List.set_cons_zero, List.set_cons_succ]
          refine wpAnyH_take (i := 49) (oi := { dst := some 185, op := Op.pick (Operand.tmp 180) (Operand.tmp 184) (Operand.const (Value.bool false)), type := 4, pos := "laws.go:325", after := #[{ on := 44, ground := Ground.data }, { on := 48, ground := Ground.data }], guard := none }) (v := ?vg48_49) rfl (by kernel_rfl) (by kernel_rfl) (by kernel_rfl) (fun _ _ _ h => h) (Or.inl ⟨by rfl, ?hyg48_49⟩) (by assumption) ?restg48_49
          case hyg48_49 => (intro w hSw; (try dsimp only at hSw); go_simp; try with_reducible rfl)
          try simp only [Act.put, List.setIfInBounds_toArray, List.set_cons_zero, List.set_cons_succ]
          refine wpAnyH_take (i := 50) (oi := { dst := some 2, op := Op.assign (Operand.tmp 185), type := 4, pos := "laws.go:325", after := #[{ on := 49, ground := Ground.data }, { on := 48, ground := Ground.chain }, { on := 0, ground := Ground.phase }, { on := 1, ground := Ground.phase }, { on := 2, ground := Ground.phase }, { on := 3, ground := Ground.phase }, { on := 4, ground := Ground.phase }, { on := 5, ground := Ground.phase }, { on := 6, ground := Ground.phase }, { on := 7, ground := Ground.phase }, { on := 8, ground := Ground.phase }, { on := 9, ground := Ground.phase }, { on := 10, ground := Ground.phase }, { on := 11, ground := Ground.phase }, { on := 12, ground := Ground.phase }, { on := 13, ground := Ground.phase }, { on := 14, ground := Ground.phase }, { on := 15, ground := Ground.phase }, { on := 16, ground := Ground.phase }, { on := 17, ground := Ground.phase }, { on := 18, ground := Ground.phase }, { on := 19, ground := Ground.phase }, { on := 20, ground := Ground.phase }, { on := 21, ground := Ground.phase }, { on := 22, ground := Ground.phase }, { on := 23, ground := Ground.phase }, { on := 24, ground := Ground.phase }, { on := 25, ground := Ground.phase }, { on := 26, ground := Ground.phase }, { on := 27, ground := Ground.phase }, { on := 28, ground := Ground.phase }, { on := 29, ground := Ground.phase }, { on := 30, ground := Ground.phase }, { on := 31, ground := Ground.phase }, { on := 32, ground := Ground.phase }, { on := 33, ground := Ground.phase }, { on := 34, ground := Ground.phase }, { on := 35, ground := Ground.phase }, { on := 36, ground := Ground.phase }, { on := 37, ground := Ground.phase }, { on := 38, ground := Ground.phase }, { on := 39, ground := Ground.phase }, { on := 40, ground := Ground.phase }, { on := 41, ground := Ground.phase }, { on := 42, ground := Ground.phase }, { on := 43, ground := Ground.phase }, { on := 44, ground := Ground.phase }, { on := 45, ground := Ground.phase }, { on := 46, ground := Ground.phase }, { on := 47, ground := Ground.phase }, { on := 48, ground := Ground.phase }, { on := 49, ground := Ground.phase }], guard := none }) (v := ?vg49_50) rfl (by kernel_rfl) (by kernel_rfl) (by kernel_rfl) (fun _ _ _ h => h) (Or.inl ⟨by rfl, ?hyg49_50⟩) (by assumption) ?restg49_50
          case hyg49_50 => (intro w hSw; (try dsimp only at hSw); go_simp; try with_reducible rfl)
          try simp only [Act.put, List.setIfInBounds_toArray, List.set_cons_zero, List.set_cons_succ]
          refine wpAnyH_done (by kernel_rfl) ?_ _
          refine NoPanic.normal ?_
          go_wp2
          go_ret
          exact ⟨rfl, btr BE.out (btr HBL.out HV.out)⟩

end Go.Proofs.YtfmacodnjhegcabGreat
