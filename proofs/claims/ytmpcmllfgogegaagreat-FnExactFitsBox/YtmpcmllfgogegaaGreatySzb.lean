/- Szb. -/

import Derived.Test.YtmpcmllfgogegaaGreatyOpn
namespace Go.Proofs.YtmpcmllfgogegaaGreat
open Go.RowKit Go.ChangeMaps
set_option maxHeartbeats 800000 in
set_option maxRecDepth 100000 in
theorem szBoxL_any (lf : Int) (hlf : 0 ≤ lf ∧ lf ≤ 1048576) (lo hi : Nat) (g : Int) (nm : ByteArray) (t b nx : Int) (ma : Option Addr) (mn mc : Nat) (ga : Option Addr) (gn gc : Nat) (L : List M4) (w : World) (hnm : (nm.size : Int) ≤ 9223372036854775807) (hl : L.length = mn) (hn : (mn : Int) ≤ 9223372036854775807) (hft : Fit L) (hm : Ms lo hi w ma L) (hgn : (gn : Int) ≤ 9223372036854775807) :
  Calls Tryz.prog 28 #[.agg #[.int .i64 g, .string nm, .int .i64 t, .int .i64 b, .int .i64 nx, .slice ma mn mc, .slice ga gn gc], .int .i64 lf] w fun e w' => e = .returned (.int .i64 (szr lf (nm.size + szL L + gn))) ∧ Below w.heap.size w w' := by
 obtain ⟨W0, hW0⟩ : ∃ W0, w.alloc (.cells #[.int .i64 g, .string nm, .int .i64 t, .int .i64 b, .int .i64 nx, .slice ma mn mc, .slice ga gn gc] 52) = W0 := ⟨_, rfl⟩
 have a0 : Bx W0 w.heap.size 52 g nm t b nx (.slice ma mn mc) (.slice ga gn gc) := by subst hW0; exact Bx.new w _ g nm t b nx _ _
 have b0 : Below w.heap.size w W0 := by subst hW0; exact bpush (bre _) _
 have c0 := a0.cells
 have A0 := hid a0
 have B0 := hid b0
 have HM := hid hm
 have HL := hid hl
 have HF := hid hft
 have HN := hid hn
 clear a0 b0 hm hl hft hn
 by_cases h1 : lf < nm.size
 ·have HE := hid (szr_over (lf := lf) (n := nm.size + szL L + gn) (by omega))
  have h2 : lf - nm.size < 0 := by omega
  go_enter Tryz.func28, Tryz.ntmps28
  go_wp2
  go_ret
  exact ⟨by rw [HE.out]; rfl, B0.out⟩
 ·obtain ⟨q, hq⟩ : ∃ q : Int, lf - nm.size = q := ⟨_, rfl⟩
  have h2 : ¬ q < 0 := by omega
  have h3 : 0 ≤ q ∧ q ≤ 1048576 := by omega
  have HQ := hid hq
  by_cases h4 : q < (szL L : Int)
  ·have HE := hid (szr_over (lf := lf) (n := nm.size + szL L + gn) (by omega))
   have HE1 := hid (szr_over h4)
   clear h1
   go_enter Tryz.func28, Tryz.ntmps28
   go_wp2_with fail
   clear hW0
   refine (szMailS_any lo hi ma mn mc L q _ HL.out HN.out h3 HF.out (HM.out.later B0.out)).mono ?_; rintro e w1 ⟨rfl, hb1⟩
   rw [HE1.out]
   have HB1 := hid (btr B0.out hb1)
   clear hb1 c0 hq h2 h3 h4
   go_wp2
   go_ret
   exact ⟨by rw [HE.out]; rfl, HB1.out⟩
  ·obtain ⟨r, hr⟩ : ∃ r : Int, q - (szL L : Int) = r := ⟨_, rfl⟩
   have HE1 : Hid (szr q (szL L) = r) := by show _ = _; rw [szr_fits h4, hr]
   have h5 : ¬ r < 0 := by omega
   have h6 : 0 ≤ r ∧ r ≤ 1048576 := by omega
   have HR := hid hr
   by_cases h7 : r < (gn : Int)
   ·have HE := hid (szr_over (lf := lf) (n := nm.size + szL L + gn) (by omega))
    have HE2 := hid (szr_over h7)
    clear h1 h4 hr
    go_enter Tryz.func28, Tryz.ntmps28
    go_wp2_with fail
    clear hW0
    refine (szMailS_any lo hi ma mn mc L q _ HL.out HN.out h3 HF.out (HM.out.later B0.out)).mono ?_; rintro e w1 ⟨rfl, hb1⟩
    rw [HE1.out]
    have c0 := (A0.out.later hb1).cells
    have HB1 := hid (btr B0.out hb1)
    clear hb1 hq h2 h3
    go_wp2_with fail
    refine (szIntS_any ga gn gc r _ hgn h6).mono ?_; rintro e w2 ⟨rfl, h8⟩
    subst h8
    rw [HE2.out]
    clear c0 h5 h6 h7
    go_wp2
    go_ret
    exact ⟨by rw [HE.out]; rfl, HB1.out⟩
   ·have HE : Hid (szr lf (nm.size + szL L + gn) = r - gn) := by show _ = _; rw [szr_fits (by omega)]; omega
    have HE2 := hid (szr_fits h7)
    obtain ⟨x, hx⟩ : ∃ x : Int, r - gn = x := ⟨_, rfl⟩
    have h9 : ¬ x < 0 := by omega
    rw [hx] at HE HE2
    clear h1 h4 hr hx
    go_enter Tryz.func28, Tryz.ntmps28
    go_wp2_with fail
    clear hW0
    refine (szMailS_any lo hi ma mn mc L q _ HL.out HN.out h3 HF.out (HM.out.later B0.out)).mono ?_; rintro e w1 ⟨rfl, hb1⟩
    rw [HE1.out]
    have c0 := (A0.out.later hb1).cells
    have HB1 := hid (btr B0.out hb1)
    clear hb1 hq h2 h3
    go_wp2_with fail
    refine (szIntS_any ga gn gc r _ hgn h6).mono ?_; rintro e w2 ⟨rfl, h8⟩
    subst h8
    rw [HE2.out]
    clear c0 h5 h6 h7
    go_wp2
    go_ret
    exact ⟨by rw [HE.out]; rfl, HB1.out⟩
end Go.Proofs.YtmpcmllfgogegaaGreat
