/- The size of a store, from any rest on. -/
import Derived.Test.YtanahkieondboaaAle
import Derived.Test.YtanahkieondboaaSsz
namespace Go.Proofs.Ytanahkieondboaa
open Go.RowKit Go.ChangeMaps

set_option maxHeartbeats 800000 in
set_option maxRecDepth 100000 in
theorem szStoreL_any (lf : Int) (hlf : 0 ≤ lf ∧ lf ≤ 1048576) (lo hi : Nat) (y tm : Int) (ba : Option Addr) (bn bc : Nat) (ga : Option Addr) (gn gc : Nat) (S : List X7) (w : World) (hl : S.length = bn) (hn : (bn : Int) ≤ 9223372036854775807) (hft : FitB S) (hm : Bs lo hi w ba S) (hgn : (gn : Int) ≤ 9223372036854775807) :
    Calls Try.prog 4 #[.agg #[.int .i64 y, .int .i64 tm, .slice ba bn bc, .slice ga gn gc], .int .i64 lf] w fun e w' => e = .returned (.int .i64 (szr lf (szB S + gn))) ∧ Below w.heap.size w w' := by
  obtain ⟨W0, hW0⟩ : ∃ W0, w.alloc (.cells #[.int .i64 y, .int .i64 tm, .slice ba bn bc, .slice ga gn gc] 25) = W0 := ⟨_, rfl⟩
  have a0 : Sx W0 w.heap.size 25 y tm (.slice ba bn bc) (.slice ga gn gc) := by subst hW0; exact Sx.new w _ y tm _ _
  have b0 : Below w.heap.size w W0 := by subst hW0; exact bpush (bre _) _
  have c0 := a0.cells
  have A0 := hid a0
  have B0 := hid b0
  have HM := hid hm
  have HL := hid hl
  have HF := hid hft
  have HN := hid hn
  clear a0 b0 hm hl hft hn
  by_cases h4 : lf < (szB S : Int)
  · have HE := hid (szr_over (lf := lf) (n := szB S + gn) (by omega))
    have HE1 := hid (szr_over h4)
    clear h4
    go_enter Try.func4, Try.ntmps4
    go_wp2_with fail
    clear hW0
    refine (szBoxS_any lo hi ba bn bc S lf _ HL.out HN.out hlf HF.out (HM.out.later B0.out)).mono ?_; rintro e w1 ⟨rfl, hb1⟩
    rw [HE1.out]
    have HB1 := hid (btr B0.out hb1)
    clear hb1 c0
    go_wp2
    go_ret
    exact ⟨by rw [HE.out]; rfl, HB1.out⟩
  · obtain ⟨r, hr⟩ : ∃ r : Int, lf - (szB S : Int) = r := ⟨_, rfl⟩
    have HE1 : Hid (szr lf (szB S) = r) := by show _ = _; rw [szr_fits h4, hr]
    have h5 : ¬ r < 0 := by omega
    have h6 : 0 ≤ r ∧ r ≤ 1048576 := by omega
    by_cases h7 : r < (gn : Int)
    · have HE := hid (szr_over (lf := lf) (n := szB S + gn) (by omega))
      have HE2 := hid (szr_over h7)
      clear h4 hr
      go_enter Try.func4, Try.ntmps4
      go_wp2_with fail
      clear hW0
      refine (szBoxS_any lo hi ba bn bc S lf _ HL.out HN.out hlf HF.out (HM.out.later B0.out)).mono ?_; rintro e w1 ⟨rfl, hb1⟩
      rw [HE1.out]
      have c0 := (A0.out.later hb1).cells
      have HB1 := hid (btr B0.out hb1)
      clear hb1
      go_wp2_with fail
      refine (szIntS_any ga gn gc r _ hgn h6).mono ?_; rintro e w2 ⟨rfl, h8⟩
      subst h8
      rw [HE2.out]
      clear c0 h5 h6 h7
      go_wp2
      go_ret
      exact ⟨by rw [HE.out]; rfl, HB1.out⟩
    · have HE : Hid (szr lf (szB S + gn) = r - gn) := by show _ = _; rw [szr_fits (by omega)]; omega
      have HE2 := hid (szr_fits h7)
      obtain ⟨x, hx⟩ : ∃ x : Int, r - gn = x := ⟨_, rfl⟩
      have h9 : ¬ x < 0 := by omega
      rw [hx] at HE HE2
      clear h4 hr hx
      go_enter Try.func4, Try.ntmps4
      go_wp2_with fail
      clear hW0
      refine (szBoxS_any lo hi ba bn bc S lf _ HL.out HN.out hlf HF.out (HM.out.later B0.out)).mono ?_; rintro e w1 ⟨rfl, hb1⟩
      rw [HE1.out]
      have c0 := (A0.out.later hb1).cells
      have HB1 := hid (btr B0.out hb1)
      clear hb1
      go_wp2_with fail
      refine (szIntS_any ga gn gc r _ hgn h6).mono ?_; rintro e w2 ⟨rfl, h8⟩
      subst h8
      rw [HE2.out]
      clear c0 h5 h6 h7
      go_wp2
      go_ret
      exact ⟨by rw [HE.out]; rfl, HB1.out⟩
end Go.Proofs.Ytanahkieondboaa
