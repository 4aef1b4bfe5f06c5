/- A box: its size; held against another. -/
import Derived.Test.YtegdejhgamkkbaaBox
namespace Go.Proofs.Ytegdejhgamkkbaa
open Go.RowKit

theorem szr_over {lf : Int} {n : Nat} (h : lf < (n : Int)) : szr lf n = -1 := by rw [szr, if_pos h]
theorem szr_fits {lf : Int} {n : Nat} (h : ¬ lf < (n : Int)) : szr lf n = lf - n := by rw [szr, if_neg h]

set_option maxHeartbeats 800000 in
set_option maxRecDepth 100000 in
theorem szBox_any (lo hi : Nat) (g : Int) (nm : ByteArray) (t b nx : Int) (ma : Option Addr) (mn mc : Nat) (ga : Option Addr) (gn gc : Nat) (L : List M4) (w : World) (hnm : (nm.size : Int) ≤ 9223372036854775807) (hl : L.length = mn) (hn : (mn : Int) ≤ 9223372036854775807) (hft : Fit L) (hm : Ms lo hi w ma L) (hgn : (gn : Int) ≤ 9223372036854775807) :
    Calls Try.prog 12 #[.agg #[.int .i64 g, .string nm, .int .i64 t, .int .i64 b, .int .i64 nx, .slice ma mn mc, .slice ga gn gc], .int .i64 1048576] w fun e w' => e = .returned (.int .i64 (szr 1048576 (nm.size + szL L + gn))) ∧ Below w.heap.size w w' := by
  obtain ⟨W0, hW0⟩ : ∃ W0, w.alloc (.cells #[.int .i64 g, .string nm, .int .i64 t, .int .i64 b, .int .i64 nx, .slice ma mn mc, .slice ga gn gc] 31) = W0 := ⟨_, rfl⟩
  have a0 : Bx W0 w.heap.size 31 g nm t b nx (.slice ma mn mc) (.slice ga gn gc) := by subst hW0; exact Bx.new w _ g nm t b nx _ _
  have b0 : Below w.heap.size w W0 := by subst hW0; exact bpush (bre _) _
  have c0 := a0.cells
  have A0 := hid a0
  have B0 := hid b0
  have HM := hid hm
  have HL := hid hl
  have HF := hid hft
  have HN := hid hn
  clear a0 b0 hm hl hft hn
  by_cases h1 : (1048576 : Int) < nm.size
  · have HE := hid (szr_over (lf := 1048576) (n := nm.size + szL L + gn) (by omega))
    have h2 : (1048576 : Int) - nm.size < 0 := by omega
    go_enter Try.func12, Try.ntmps12
    go_wp2
    go_ret
    exact ⟨by rw [HE.out]; rfl, B0.out⟩
  · obtain ⟨q, hq⟩ : ∃ q : Int, (1048576 : Int) - nm.size = q := ⟨_, rfl⟩
    have h2 : ¬ q < 0 := by omega
    have h3 : 0 ≤ q ∧ q ≤ 1048576 := by omega
    have HQ := hid hq
    by_cases h4 : q < (szL L : Int)
    · have HE := hid (szr_over (lf := 1048576) (n := nm.size + szL L + gn) (by omega))
      have HE1 := hid (szr_over h4)
      clear h1
      go_enter Try.func12, Try.ntmps12
      go_wp2_with fail
      clear hW0
      refine (szMailS_any lo hi ma mn mc L q _ HL.out HN.out h3 HF.out (HM.out.later B0.out)).mono ?_; rintro e w1 ⟨rfl, hb1⟩
      rw [HE1.out]
      have HB1 := hid (btr B0.out hb1)
      clear hb1 c0 hq h2 h3 h4
      go_wp2
      go_ret
      exact ⟨by rw [HE.out]; rfl, HB1.out⟩
    · obtain ⟨r, hr⟩ : ∃ r : Int, q - (szL L : Int) = r := ⟨_, rfl⟩
      have HE1 : Hid (szr q (szL L) = r) := by show _ = _; rw [szr_fits h4, hr]
      have h5 : ¬ r < 0 := by omega
      have h6 : 0 ≤ r ∧ r ≤ 1048576 := by omega
      have HR := hid hr
      by_cases h7 : r < (gn : Int)
      · have HE := hid (szr_over (lf := 1048576) (n := nm.size + szL L + gn) (by omega))
        have HE2 := hid (szr_over h7)
        clear h1 h4 hr
        go_enter Try.func12, Try.ntmps12
        go_wp2_with fail
        clear hW0
        refine (szMailS_any lo hi ma mn mc L q _ HL.out HN.out h3 HF.out (HM.out.later B0.out)).mono ?_; rintro e w1 ⟨rfl, hb1⟩
        rw [HE1.out]
        have c0 := (A0.out.later hb1).cells
        have HB1 := hid (btr B0.out hb1)
        clear hb1 hq h2 h3
        go_wp2_with fail
        refine (szIntS_any ga gn gc r _ hgn h6).mono ?_; rintro e w2 ⟨rfl, h8⟩
        subst h8
        rw [HE2.out]
        clear c0 h5 h6 h7
        go_wp2
        go_ret
        exact ⟨by rw [HE.out]; rfl, HB1.out⟩
      · have HE : Hid (szr 1048576 (nm.size + szL L + gn) = r - gn) := by show _ = _; rw [szr_fits (by omega)]; omega
        have HE2 := hid (szr_fits h7)
        obtain ⟨x, hx⟩ : ∃ x : Int, r - gn = x := ⟨_, rfl⟩
        have h9 : ¬ x < 0 := by omega
        rw [hx] at HE HE2
        clear h1 h4 hr hx
        go_enter Try.func12, Try.ntmps12
        go_wp2_with fail
        clear hW0
        refine (szMailS_any lo hi ma mn mc L q _ HL.out HN.out h3 HF.out (HM.out.later B0.out)).mono ?_; rintro e w1 ⟨rfl, hb1⟩
        rw [HE1.out]
        have c0 := (A0.out.later hb1).cells
        have HB1 := hid (btr B0.out hb1)
        clear hb1 hq h2 h3
        go_wp2_with fail
        refine (szIntS_any ga gn gc r _ hgn h6).mono ?_; rintro e w2 ⟨rfl, h8⟩
        subst h8
        rw [HE2.out]
        clear c0 h5 h6 h7
        go_wp2
        go_ret
        exact ⟨by rw [HE.out]; rfl, HB1.out⟩

theorem two_boxes (w : World) (ta tb : Nat) (g g1 : Int) (nm nm1 : ByteArray) (t b nx t1 b1 nx1 : Int) (ms gs ms1 gs1 : Value) (W0 : World)
    (h : ((w.alloc (.cells #[.int .i64 g, .string nm, .int .i64 t, .int .i64 b, .int .i64 nx, ms, gs] ta)).alloc (.cells #[.int .i64 g1, .string nm1, .int .i64 t1, .int .i64 b1, .int .i64 nx1, ms1, gs1] tb)) = W0) :
    Bx W0 w.heap.size ta g nm t b nx ms gs ∧ Bx W0 (w.heap.size + 1) tb g1 nm1 t1 b1 nx1 ms1 gs1 ∧ Below w.heap.size w W0 ∧ W0.heap.size = w.heap.size + 1 + 1 := by
  subst h
  refine ⟨(Bx.new w ta g nm t b nx ms gs).later (bpush (bre _) _), ?_, bpush (bpush (bre _) _) _, by simp⟩
  simpa using Bx.new (w.alloc (.cells #[.int .i64 g, .string nm, .int .i64 t, .int .i64 b, .int .i64 nx, ms, gs] ta)) tb g1 nm1 t1 b1 nx1 ms1 gs1

set_option maxHeartbeats 800000 in
set_option maxRecDepth 100000 in
theorem eqBox_any (l1 h1 l2 h2 l3 h3 l4 h4 : Nat) (g : Int) (nm : ByteArray) (t b nx : Int) (ma : Option Addr) (mn mc : Nat) (ga : Option Addr) (gn gc : Nat) (ma' : Option Addr) (mc' : Nat) (ga' : Option Addr) (gc' : Nat) (L : List M4) (G : List Int) (w : World) (hl : L.length = mn) (hn : mn ≤ 1048576) (hsm : Sm L) (hm : Ms l1 h1 w ma L) (hm' : Ms l2 h2 w ma' L)
    (hgl : G.length = gn) (hgn : gn ≤ 1048576) (hs : Is l3 h3 w ga G) (hs' : Is l4 h4 w ga' G) :
    Calls Try.prog 16 #[.agg #[.int .i64 g, .string nm, .int .i64 t, .int .i64 b, .int .i64 nx, .slice ma mn mc, .slice ga gn gc], .agg #[.int .i64 g, .string nm, .int .i64 t, .int .i64 b, .int .i64 nx, .slice ma' mn mc', .slice ga' gn gc']] w fun e w' => e = .returned (.bool true) ∧ Below w.heap.size w w' := by
  obtain ⟨W0, hW0⟩ : ∃ W0, ((w.alloc (.cells #[.int .i64 g, .string nm, .int .i64 t, .int .i64 b, .int .i64 nx, .slice ma mn mc, .slice ga gn gc] 37)).alloc (.cells #[.int .i64 g, .string nm, .int .i64 t, .int .i64 b, .int .i64 nx, .slice ma' mn mc', .slice ga' gn gc'] 37)) = W0 := ⟨_, rfl⟩
  obtain ⟨a0, a1, b0, _⟩ := two_boxes w _ _ _ _ _ _ _ _ _ _ _ _ _ _ _ _ W0 hW0
  obtain ⟨p, hp, cp⟩ := eqStamp_letter t b t b
  have hp' : p = true := by rw [hp.out]; simp
  subst hp'
  have A0 := hid a0
  have A1 := hid a1
  have B0 := hid b0
  have c0 := a0.cells
  have c1 := a1.cells
  have HM := hid hm
  have HM' := hid hm'
  have HS := hid hs
  have HS' := hid hs'
  have HX := hid hsm
  have e1 : (g != g) = false := by simp
  have e2 : (nx != nx) = false := by simp
  have e3 : (!nm.toList == nm.toList) = false := by simp
  clear a0 a1 b0 hm hm' hs hs' hsm
  go_enter Try.func16, Try.ntmps16
  go_wp2_with fail
  clear hW0
  refine (cp.out _).mono ?_; rintro e w1 ⟨rfl, hw1⟩
  have hb1 : Below W0.heap.size W0 w1 := by rw [hw1]; exact bpush (bpush (bre _) _) _
  have k0 := A0.out.later hb1
  have k1 := A1.out.later hb1
  have K0 := hid k0
  have K1 := hid k1
  have B1 := hid (btr B0.out hb1)
  have c0 := k0.cells
  have c1 := k1.cells
  clear hw1 hb1 k0 k1 A0 A1 B0
  go_wp2_with fail
  refine (eqMailS_any l1 h1 l2 h2 ma ma' mn mc mc' L _ hl hn HX.out (HM.out.later B1.out) (HM'.out.later B1.out)).mono ?_; rintro e w2 ⟨rfl, hb2⟩
  have k0 := K0.out.later hb2
  have k1 := K1.out.later hb2
  have B2 := hid (btr B1.out hb2)
  have c0 := k0.cells
  have c1 := k1.cells
  clear hb2 k0 k1 K0 K1 B1
  go_wp2_with fail
  refine (eqIntS_any l3 h3 l4 h4 ga ga' gn gc gc' G _ hgl hgn (HS.out.later B2.out) (HS'.out.later B2.out)).mono ?_; rintro e w3 ⟨rfl, hb3⟩
  have B3 := hid (btr B2.out hb3)
  clear hb3 c0 c1
  go_wp2
  go_ret
  exact ⟨rfl, B3.out⟩
end Go.Proofs.Ytegdejhgamkkbaa
