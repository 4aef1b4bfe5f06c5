/- Whether a mail's number is kept on each side that has it: the program's own. -/
import Derived.Test.YtgpnbifdbeenbabGreatJma
namespace Go.Proofs.YtgpnbifdbeenbabGreat
open Go.RowKit Go.ChangeMaps

set_option maxHeartbeats 4000000 in
set_option maxRecDepth 100000 in
theorem keptEach_any (l1 h1 : Nat) (g : Int) (nm : ByteArray) (t b nx : Int) (ma : Option Addr) (mn mc : Nat) (gv : Value) (L : List M4) (l3 h3 : Nat) (g' : Int) (nm' : ByteArray) (t' b' nx' : Int) (ma' : Option Addr) (mn' mc' : Nat) (gv' : Value) (L' : List M4) (x : Int) (w : World) (hl : L.length = mn) (hn : mn ≤ 1048576) (hm : Ms l1 h1 w ma L) (hl' : L'.length = mn') (hn' : mn' ≤ 1048576) (hm' : Ms l3 h3 w ma' L') :
    Calls Tryz.prog 57 #[.agg #[.int .i64 g, .string nm, .int .i64 t, .int .i64 b, .int .i64 nx, .slice ma mn mc, gv], .agg #[.int .i64 g', .string nm', .int .i64 t', .int .i64 b', .int .i64 nx', .slice ma' mn' mc', gv'], .int .i64 x] w fun e w' => e = .returned (.bool (kep L L' nx nx' x)) ∧ Below w.heap.size w w' := by
  obtain ⟨W0, hW0⟩ : ∃ W0, (w.alloc (.cells #[.int .i64 g, .string nm, .int .i64 t, .int .i64 b, .int .i64 nx, .slice ma mn mc, gv] 33)).alloc (.cells #[.int .i64 g', .string nm', .int .i64 t', .int .i64 b', .int .i64 nx', .slice ma' mn' mc', gv'] 33) = W0 := ⟨_, rfl⟩
  have a0 : Bx W0 w.heap.size 33 g nm t b nx (.slice ma mn mc) gv := by subst hW0; exact (Bx.new w _ g nm t b nx _ _).later (bpush (bre _) _)
  have a1 : Bx W0 (w.heap.size + 1) 33 g' nm' t' b' nx' (.slice ma' mn' mc') gv' := by
    subst hW0
    have h := Bx.new (w.alloc (.cells #[.int .i64 g, .string nm, .int .i64 t, .int .i64 b, .int .i64 nx, .slice ma mn mc, gv] 33)) 33 g' nm' t' b' nx' (.slice ma' mn' mc') gv'
    rwa [show (w.alloc (.cells #[.int .i64 g, .string nm, .int .i64 t, .int .i64 b, .int .i64 nx, .slice ma mn mc, gv] 33)).heap.size = w.heap.size + 1 by simp] at h
  have b0 : Below w.heap.size w W0 := by subst hW0; exact bpush (bpush (bre _) _) _
  have c0 := a0.cells
  have c1 := a1.cells
  have A0 := hid a0
  have D0 := hid a1
  have B0 := hid b0
  have HM := hid (hm.later b0)
  have HM' := hid (hm'.later b0)
  have HL := hid hl
  have HL' := hid hl'
  clear a0 a1 b0 hm hm' hl hl'
  go_enter Tryz.func57, Tryz.ntmps57
  go_wp2_with fail
  clear hW0 c0 c1
  refine (implHolds_any l1 h1 g nm t b nx ma mn mc gv L x _ HL.out hn (HM.out.later (bre _))).mono ?_; rintro e w1 ⟨rfl, hb⟩
  have P1 := hid (btr (bre _) hb)
  obtain ⟨p1, hp1⟩ : ∃ p1, hol x L = p1 := ⟨_, rfl⟩
  rw [hp1]
  have Hp1 := hid hp1
  have c0 := (A0.out.later P1.out).cells
  have c1 := (D0.out.later P1.out).cells
  clear hb hp1
  cases p1
  case false =>
    go_wp2_with fail
    clear c0 c1
    refine (implHolds_any l3 h3 g' nm' t' b' nx' ma' mn' mc' gv' L' x _ HL'.out hn' (HM'.out.later P1.out)).mono ?_; rintro e w2 ⟨rfl, hb⟩
    have P2 := hid (btr P1.out hb)
    obtain ⟨q1, hq1⟩ : ∃ q1, hol x L' = q1 := ⟨_, rfl⟩
    rw [hq1]
    have Hq1 := hid hq1
    have c0 := (A0.out.later P2.out).cells
    have c1 := (D0.out.later P2.out).cells
    clear hb hq1
    cases q1
    case false =>
      have HE : Hid (kep L L' nx nx' x = true) := by show _ = _; rw [kep, Hp1.out, Hq1.out]; rfl
      go_wp2
      go_ret
      exact ⟨by rw [HE.out]; rfl, btr B0.out P2.out⟩
    case true =>
      go_wp2_with fail
      clear c0 c1
      refine (implKeeps_any l3 h3 l1 h1 g' nm' t' b' nx' ma' mn' mc' gv' L' g nm t b nx ma mn mc gv L x _ HL'.out hn' (HM'.out.later P2.out) HL.out hn (HM.out.later P2.out)).mono ?_; rintro e w3 ⟨rfl, hb⟩
      have P3 := hid (btr P2.out hb)
      obtain ⟨q2, hq2⟩ : ∃ q2, kpu L' L nx x = q2 := ⟨_, rfl⟩
      rw [hq2]
      have Hq2 := hid hq2
      have c0 := (A0.out.later P3.out).cells
      have c1 := (D0.out.later P3.out).cells
      clear hb hq2
      cases q2
      case false =>
        have HE : Hid (kep L L' nx nx' x = false) := by show _ = _; rw [kep, Hp1.out, Hq1.out, Hq2.out]; rfl
        go_wp2
        go_ret
        exact ⟨by rw [HE.out]; rfl, btr B0.out P3.out⟩
      case true =>
        have HE : Hid (kep L L' nx nx' x = true) := by show _ = _; rw [kep, Hp1.out, Hq1.out, Hq2.out]; rfl
        go_wp2
        go_ret
        exact ⟨by rw [HE.out]; rfl, btr B0.out P3.out⟩
  case true =>
    go_wp2_with fail
    clear c0 c1
    refine (implKeeps_any l1 h1 l3 h3 g nm t b nx ma mn mc gv L g' nm' t' b' nx' ma' mn' mc' gv' L' x _ HL.out hn (HM.out.later P1.out) HL'.out hn' (HM'.out.later P1.out)).mono ?_; rintro e w2 ⟨rfl, hb⟩
    have P2 := hid (btr P1.out hb)
    obtain ⟨p2, hp2⟩ : ∃ p2, kpu L L' nx' x = p2 := ⟨_, rfl⟩
    rw [hp2]
    have Hp2 := hid hp2
    have c0 := (A0.out.later P2.out).cells
    have c1 := (D0.out.later P2.out).cells
    clear hb hp2
    cases p2
    case false =>
      have HE : Hid (kep L L' nx nx' x = false) := by show _ = _; rw [kep, Hp1.out, Hp2.out]; rfl
      go_wp2
      go_ret
      exact ⟨by rw [HE.out]; rfl, btr B0.out P2.out⟩
    case true =>
      go_wp2_with fail
      clear c0 c1
      refine (implHolds_any l3 h3 g' nm' t' b' nx' ma' mn' mc' gv' L' x _ HL'.out hn' (HM'.out.later P2.out)).mono ?_; rintro e w3 ⟨rfl, hb⟩
      have P3 := hid (btr P2.out hb)
      obtain ⟨q1, hq1⟩ : ∃ q1, hol x L' = q1 := ⟨_, rfl⟩
      rw [hq1]
      have Hq1 := hid hq1
      have c0 := (A0.out.later P3.out).cells
      have c1 := (D0.out.later P3.out).cells
      clear hb hq1
      cases q1
      case false =>
        have HE : Hid (kep L L' nx nx' x = true) := by show _ = _; rw [kep, Hp1.out, Hp2.out, Hq1.out]; rfl
        go_wp2
        go_ret
        exact ⟨by rw [HE.out]; rfl, btr B0.out P3.out⟩
      case true =>
        go_wp2_with fail
        clear c0 c1
        refine (implKeeps_any l3 h3 l1 h1 g' nm' t' b' nx' ma' mn' mc' gv' L' g nm t b nx ma mn mc gv L x _ HL'.out hn' (HM'.out.later P3.out) HL.out hn (HM.out.later P3.out)).mono ?_; rintro e w4 ⟨rfl, hb⟩
        have P4 := hid (btr P3.out hb)
        obtain ⟨q2, hq2⟩ : ∃ q2, kpu L' L nx x = q2 := ⟨_, rfl⟩
        rw [hq2]
        have Hq2 := hid hq2
        have c0 := (A0.out.later P4.out).cells
        have c1 := (D0.out.later P4.out).cells
        clear hb hq2
        cases q2
        case false =>
          have HE : Hid (kep L L' nx nx' x = false) := by show _ = _; rw [kep, Hp1.out, Hp2.out, Hq1.out, Hq2.out]; rfl
          go_wp2
          go_ret
          exact ⟨by rw [HE.out]; rfl, btr B0.out P4.out⟩
        case true =>
          have HE : Hid (kep L L' nx nx' x = true) := by show _ = _; rw [kep, Hp1.out, Hp2.out, Hq1.out, Hq2.out]; rfl
          go_wp2
          go_ret
          exact ⟨by rw [HE.out]; rfl, btr B0.out P4.out⟩
end Go.Proofs.YtgpnbifdbeenbabGreat
