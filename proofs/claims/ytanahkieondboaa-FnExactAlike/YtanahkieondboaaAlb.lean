/- Boxes held against each other, as the program does it. -/
import Derived.Test.YtanahkieondboaaAlk
namespace Go.Proofs.Ytanahkieondboaa
open Go.RowKit Go.ChangeMaps

set_option maxHeartbeats 3200000 in
set_option maxRecDepth 100000 in
theorem sameBx_any (l1 h1 l2 h2 l3 h3 l4 h4 : Nat) (g : Int) (nm : ByteArray) (t b nx : Int) (ma : Option Addr) (mn mc : Nat) (ga : Option Addr) (gn gc : Nat) (L : List M4) (G : List Int) (g' : Int) (nm' : ByteArray) (t' b' nx' : Int) (ma' : Option Addr) (mn' mc' : Nat) (ga' : Option Addr) (gn' gc' : Nat) (L' : List M4) (G' : List Int) (w : World)
    (hl : L.length = mn) (hn : mn ≤ 1048576) (hsm : Sm L) (hm : Ms l1 h1 w ma L) (hgl : G.length = gn) (hgn : gn ≤ 1048576) (hs : Is l2 h2 w ga G) (hl' : L'.length = mn') (hm' : Ms l3 h3 w ma' L') (hgl' : G'.length = gn') (hs' : Is l4 h4 w ga' G') :
    Calls Try.prog 15 #[.agg #[.int .i64 g, .string nm, .int .i64 t, .int .i64 b, .int .i64 nx, .slice ma mn mc, .slice ga gn gc], .agg #[.int .i64 g', .string nm', .int .i64 t', .int .i64 b', .int .i64 nx', .slice ma' mn' mc', .slice ga' gn' gc']] w fun e w' => Rt (((g, nm, t, b, nx, L, G) : X7) = (g', nm', t', b', nx', L', G')) e ∧ Below w.heap.size w w' := by
  obtain ⟨W0, hW0⟩ : ∃ W0, ((w.alloc (.cells #[.int .i64 g, .string nm, .int .i64 t, .int .i64 b, .int .i64 nx, .slice ma mn mc, .slice ga gn gc] 40)).alloc (.cells #[.int .i64 g', .string nm', .int .i64 t', .int .i64 b', .int .i64 nx', .slice ma' mn' mc', .slice ga' gn' gc'] 40)) = W0 := ⟨_, rfl⟩
  obtain ⟨a0, a1, b0, _⟩ := two_boxes w _ _ _ _ _ _ _ _ _ _ _ _ _ _ _ _ W0 hW0
  have A0 := hid a0
  have A1 := hid a1
  have B0 := hid b0
  have c0 := a0.cells
  have c1 := a1.cells
  have HM := hid hm
  have HM' := hid hm'
  have HS := hid hs
  have HS' := hid hs'
  have HX := hid hsm
  have HL := hid hl
  have HL' := hid hl'
  have HG := hid hgl
  have HG' := hid hgl'
  clear a0 a1 b0 hm hm' hs hs' hsm hl hl' hgl hgl'
  by_cases q1 : g = g'
  · by_cases q2 : nm = nm'
    · by_cases q3 : t = t'
      · by_cases q4 : b = b'
        · by_cases q5 : nx = nx'
          · subst q1 q2 q3 q4 q5
            go_enter Try.func15, Try.ntmps15
            go_wp2_with fail
            try rw [hW0]
            clear hW0
            refine (eqMails_any l1 h1 l3 h3 ma ma' mn mn' mc mc' L L' _ HL.out HL'.out hn HX.out (HM.out.later B0.out) (HM'.out.later B0.out)).mono ?_; rintro e w1 ⟨⟨r, rfl, hr⟩, hb1⟩
            have HR := hid hr
            have A2 := hid (A0.out.later hb1)
            have A3 := hid (A1.out.later hb1)
            have B2 := hid (btr B0.out hb1)
            clear hr hb1 c0 c1
            cases r
            · have HF : Hid (¬ ((g, nm, t, b, nx, L, G) : X7) = (g, nm, t, b, nx, L', G')) := by show ¬ _; intro h; injection h with _ h; injection h with _ h; injection h with _ h; injection h with _ h; injection h with _ h; injection h with h _; cases HR.out.2 h
              go_wp2
              go_ret
              exact ⟨Rt.no HF.out, B2.out⟩
            · have HE := hid (HR.out.1 rfl)
              have c0 := A2.out.cells
              have c1 := A3.out.cells
              go_wp2_with fail
              refine (eqInts_any l2 h2 l4 h4 ga ga' gn gn' gc gc' G G' _ HG.out HG'.out hgn (HS.out.later B2.out) (HS'.out.later B2.out)).mono ?_; rintro e w2 ⟨⟨r, rfl, hr⟩, hb2⟩
              have HR2 := hid hr
              have B3 := hid (btr B2.out hb2)
              clear hr hb2 c0 c1
              cases r
              · have HF : Hid (¬ ((g, nm, t, b, nx, L, G) : X7) = (g, nm, t, b, nx, L', G')) := by show ¬ _; intro h; injection h with _ h; injection h with _ h; injection h with _ h; injection h with _ h; injection h with _ h; injection h with _ h; cases HR2.out.2 h
                go_wp2
                go_ret
                exact ⟨Rt.no HF.out, B3.out⟩
              · have HF : Hid (((g, nm, t, b, nx, L, G) : X7) = (g, nm, t, b, nx, L', G')) := by show _ = _; rw [HE.out, HR2.out.1 rfl]
                go_wp2
                go_ret
                exact ⟨Rt.yes HF.out, B3.out⟩
          · subst q1 q2 q3 q4
            have HF : Hid (¬ ((g, nm, t, b, nx, L, G) : X7) = (g, nm, t, b, nx', L', G')) := by show ¬ _; intro h; injection h with _ h; injection h with _ h; injection h with _ h; injection h with _ h; injection h with h _; exact q5 h
            have x1 : (nx == nx') = false := beq_eq_false_iff_ne.2 q5
            clear q5
            go_enter Try.func15, Try.ntmps15
            go_wp2
            go_ret
            exact ⟨Rt.no HF.out, B0.out⟩
        · subst q1 q2 q3
          have HF : Hid (¬ ((g, nm, t, b, nx, L, G) : X7) = (g, nm, t, b', nx', L', G')) := by show ¬ _; intro h; injection h with _ h; injection h with _ h; injection h with _ h; injection h with h _; exact q4 h
          have x1 : (b == b') = false := beq_eq_false_iff_ne.2 q4
          clear q4
          go_enter Try.func15, Try.ntmps15
          go_wp2
          go_ret
          exact ⟨Rt.no HF.out, B0.out⟩
      · subst q1 q2
        have HF : Hid (¬ ((g, nm, t, b, nx, L, G) : X7) = (g, nm, t', b', nx', L', G')) := by show ¬ _; intro h; injection h with _ h; injection h with _ h; injection h with h _; exact q3 h
        have x1 : (t == t') = false := beq_eq_false_iff_ne.2 q3
        clear q3
        go_enter Try.func15, Try.ntmps15
        go_wp2
        go_ret
        exact ⟨Rt.no HF.out, B0.out⟩
    · subst q1
      have HF : Hid (¬ ((g, nm, t, b, nx, L, G) : X7) = (g, nm', t', b', nx', L', G')) := by show ¬ _; intro h; injection h with _ h; injection h with h _; exact q2 h
      have x1 := bytes_ne q2
      clear q2
      go_enter Try.func15, Try.ntmps15
      go_wp2
      go_ret
      exact ⟨Rt.no HF.out, B0.out⟩
  · have HF : Hid (¬ ((g, nm, t, b, nx, L, G) : X7) = (g', nm', t', b', nx', L', G')) := by show ¬ _; intro h; injection h with h _; exact q1 h
    have x1 : (g == g') = false := beq_eq_false_iff_ne.2 q1
    clear q1
    go_enter Try.func15, Try.ntmps15
    go_wp2
    go_ret
    exact ⟨Rt.no HF.out, B0.out⟩
end Go.Proofs.Ytanahkieondboaa
