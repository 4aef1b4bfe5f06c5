/- Boxes held against each other, as the specification does it. -/
import Derived.Test.YtanahkieondboaaAlc
import Derived.Test.YtanahkieondboaaAlk
namespace Go.Proofs.Ytanahkieondboaa
open Go.RowKit Go.ChangeMaps

set_option maxHeartbeats 3200000 in
set_option maxRecDepth 100000 in
theorem l09Bx_any (l1 h1 l2 h2 l3 h3 l4 h4 : Nat) (g : Int) (nm : ByteArray) (t b nx : Int) (ma : Option Addr) (mn mc : Nat) (ga : Option Addr) (gn gc : Nat) (L : List M4) (G : List Int) (g' : Int) (nm' : ByteArray) (t' b' nx' : Int) (ma' : Option Addr) (mn' mc' : Nat) (ga' : Option Addr) (gn' gc' : Nat) (L' : List M4) (G' : List Int) (w : World)
    (hl : L.length = mn) (hn : mn ≤ 1048576) (hsm : Sm L) (hm : Ms l1 h1 w ma L) (hgl : G.length = gn) (hgn : gn ≤ 1048576) (hs : Is l2 h2 w ga G) (hl' : L'.length = mn') (hm' : Ms l3 h3 w ma' L') (hgl' : G'.length = gn') (hs' : Is l4 h4 w ga' G') :
    Calls Try.prog 11 #[.agg #[.int .i64 g, .string nm, .int .i64 t, .int .i64 b, .int .i64 nx, .slice ma mn mc, .slice ga gn gc], .agg #[.int .i64 g', .string nm', .int .i64 t', .int .i64 b', .int .i64 nx', .slice ma' mn' mc', .slice ga' gn' gc']] w fun e w' => Rt (((g, nm, t, b, nx, L, G) : X7) = (g', nm', t', b', nx', L', G')) e ∧ Below w.heap.size w w' := by
  obtain ⟨W0, hW0⟩ : ∃ W0, ((w.alloc (.cells #[.int .i64 g, .string nm, .int .i64 t, .int .i64 b, .int .i64 nx, .slice ma mn mc, .slice ga gn gc] 40)).alloc (.cells #[.int .i64 g', .string nm', .int .i64 t', .int .i64 b', .int .i64 nx', .slice ma' mn' mc', .slice ga' gn' gc'] 40)) = W0 := ⟨_, rfl⟩
  obtain ⟨a0, a1, b0, _⟩ := two_boxes w _ _ _ _ _ _ _ _ _ _ _ _ _ _ _ _ W0 hW0
  have A0 := hid a0
  have A1 := hid a1
  have B0 := hid b0
  have c0 := a0.cells
  have c1 := a1.cells
  have HM := hid hm
  have HM' := hid hm'
  have HS := hid hs
  have HS' := hid hs'
  have HX := hid hsm
  have HL := hid hl
  have HL' := hid hl'
  have HG := hid hgl
  have HG' := hid hgl'
  clear a0 a1 b0 hm hm' hs hs' hsm hl hl' hgl hgl'
  by_cases q1 : g = g'
  · by_cases q2 : nm = nm'
    · by_cases q3 : t = t'
      · by_cases q4 : b = b'
        · by_cases q5 : nx = nx'
          · subst q1 q2 q3 q4 q5
            by_cases q6 : mn = mn'
            · by_cases q7 : gn = gn'
              · have Q6 := hid q6
                have Q7 := hid q7
                have e1 : (g != g) = false := by simp
                have e2 : (nx != nx) = false := by simp
                have e3 : (!nm.toList == nm.toList) = false := by simp
                have e4 : (t != t) = false := by simp
                have e5 : (b != b) = false := by simp
                have e6 : ((mn : Int) != (mn' : Int)) = false := by rw [q6]; simp
                clear q6
                go_enter Try.func11, Try.ntmps11
                have e7 : ((gn : Int) != (gn' : Int)) = false := by rw [q7]; simp
                clear q7
                go_wp2
                clear c0 c1 e1 e2 e3 e4 e5 e6 e7
                try rw [hW0]
                clear hW0
                go_loopw [5] (fun iv wr => ∃ i : Nat, i ≤ mn ∧ iv = .int .i64 (i : Int) ∧ Hid (L.take i = L'.take i) ∧ Bx wr w.heap.size 40 g nm t b nx (.slice ma mn mc) (.slice ga gn gc) ∧ Bx wr (w.heap.size + 1) 40 g nm t b nx (.slice ma' mn' mc') (.slice ga' gn' gc') ∧ Below w.heap.size w wr) (fun iv _ => mn - (intOf iv).toNat)
                case atStart => exact ⟨0, Nat.zero_le _, rfl, rfl, A0.out, A1.out, B0.out⟩
                case round =>
                  obtain ⟨i, hi, rfl, HT, hk0, hk1, hb⟩ := hrel
                  have A0 := hid hk0
                  have A1 := hid hk1
                  have HBE := hid hb
                  have c0 := hk0.cells
                  clear hk0 hk1 hb B0
                  by_cases hlt : i < mn
                  · have hil : i < L.length := by rw [HL.out]; exact hlt
                    have him : i < L'.length := by rw [HL'.out, ← Q6.out]; exact hlt
                    obtain ⟨k, o, fa, fc, rfl, hk, c, hr1, _⟩ := (HM.out.later HBE.out).at hil
                    obtain ⟨k', o', fa', fc', rfl, hk', d, hr2, _⟩ := (HM'.out.later HBE.out).at him
                    have hmem := HX.out L[i] (List.getElem_mem hil)
                    have HE : Hid (L[i] = L'[i] → L.take (i + 1) = L'.take (i + 1)) := fun e => take_up hil him HT.out e
                    have HF : Hid (¬ L[i] = L'[i] → ¬ L = L') := fun e => ne_up hil him e
                    obtain ⟨p, hp⟩ : ∃ p, L[i] = p := ⟨_, rfl⟩
                    obtain ⟨q, hq⟩ : ∃ q, L'[i] = q := ⟨_, rfl⟩
                    rw [hp] at c hr1 hmem HE HF
                    rw [hq] at d hr2 HE HF
                    have hs := smail_iff p q
                    obtain ⟨g2, u, l, tx⟩ := p
                    obtain ⟨g2', u', l', tx'⟩ := q
                    dsimp only at c d hr1 hr2 hmem hs
                    obtain ⟨m, hm⟩ : ∃ m, l.length = m := ⟨_, rfl⟩
                    obtain ⟨m', hm'⟩ : ∃ m, l'.length = m := ⟨_, rfl⟩
                    rw [hm] at c
                    rw [hm'] at d
                    have HMM : Hid (m ≤ 1048576) := by show _ ≤ _; rw [← hm]; exact hmem.1
                    have HLM := hid hm
                    have HLM' := hid hm'
                    have HR1 := hid hr1
                    have HR2 := hid hr2
                    obtain ⟨r, hr⟩ : ∃ r : Bool, smail g2 u l tx g2' u' l' tx' = r := ⟨_, rfl⟩
                    have HR := hid hr
                    have HS9 := hid hs
                    clear hp hq hm hm' hmem hr1 hr2 hr hs
                    have hI : (0 : Int) ≤ (i : Int) ∧ (i : Int) < (mn : Int) := by omega
                    have hI' : (0 : Int) ≤ (i : Int) ∧ (i : Int) < (mn' : Int) := by have := Q6.out; omega
                    have HSS : Hid (∀ W, Below wr.heap.size wr W → ((W.cell? ⟨w.heap.size, 5, none⟩ = some (.slice (some ⟨k, o, none⟩) mn mc) ∧ W.cell? ⟨w.heap.size + 1, 5, none⟩ = some (.slice (some ⟨k', o', none⟩) mn' mc')) ∧ W.cell? ⟨k, o + i * 4, none⟩ = some (.int .i64 g2) ∧ W.cell? ⟨k, o + i * 4 + 1, none⟩ = some (.int .i64 u) ∧ W.cell? ⟨k, o + i * 4 + 2, none⟩ = some (.slice fa m fc) ∧ W.cell? ⟨k, o + i * 4 + 3, none⟩ = some (.string tx)) ∧ (W.cell? ⟨k', o' + i * 4, none⟩ = some (.int .i64 g2') ∧ W.cell? ⟨k', o' + i * 4 + 1, none⟩ = some (.int .i64 u') ∧ W.cell? ⟨k', o' + i * 4 + 2, none⟩ = some (.slice fa' m' fc') ∧ W.cell? ⟨k', o' + i * 4 + 3, none⟩ = some (.string tx'))) :=
                      fun W h => ⟨⟨⟨(A0.out.later h).cells.2.2.2.2.2.1, (A1.out.later h).cells.2.2.2.2.2.1⟩, C4.later c hk h⟩, C4.later d hk' h⟩
                    clear c d
                    go_wp2_with fail
                    go_region_held3 (fun W => ((W.cell? ⟨w.heap.size, 5, none⟩ = some (.slice (some ⟨k, o, none⟩) mn mc) ∧ W.cell? ⟨w.heap.size + 1, 5, none⟩ = some (.slice (some ⟨k', o', none⟩) mn' mc')) ∧ W.cell? ⟨k, o + i * 4, none⟩ = some (.int .i64 g2) ∧ W.cell? ⟨k, o + i * 4 + 1, none⟩ = some (.int .i64 u) ∧ W.cell? ⟨k, o + i * 4 + 2, none⟩ = some (.slice fa m fc) ∧ W.cell? ⟨k, o + i * 4 + 3, none⟩ = some (.string tx)) ∧ (W.cell? ⟨k', o' + i * 4, none⟩ = some (.int .i64 g2') ∧ W.cell? ⟨k', o' + i * 4 + 1, none⟩ = some (.int .i64 u') ∧ W.cell? ⟨k', o' + i * 4 + 2, none⟩ = some (.slice fa' m' fc') ∧ W.cell? ⟨k', o' + i * 4 + 3, none⟩ = some (.string tx')))
                      ((refine HSS.out _ ?_; repeat (first | exact bdr (bre _) | refine btr ?_ (by assumption))))
                      ((go_at_call 20; refine (specSame_any g2 u fa m fc l tx g2' u' fa' m' fc' l' tx' _ HLM.out HLM'.out HMM.out (HR1.out.later (by repeat (first | exact bdr (bre _) | exact bre _ | refine btr ?_ (by assumption)))) (HR2.out.later (by repeat (first | exact bdr (bre _) | exact bre _ | refine btr ?_ (by assumption))))).mono ?_; rintro e w1 ⟨rfl, hb1⟩; rw [HR.out]))
                    have HB1 : Hid (Below wr.heap.size wr w1) := by show Below _ _ _; repeat (first | exact bdr (bre _) | refine btr ?_ (by assumption))
                    clear c0 hb1
                    cases r
                    · have HF2 : Hid (¬ ((g, nm, t, b, nx, L, G) : X7) = (g, nm, t, b, nx, L', G')) := by
                        show ¬ _
                        intro h
                        injection h with _ h; injection h with _ h; injection h with _ h; injection h with _ h; injection h with _ h; injection h with h _
                        exact HF.out (fun x => by have := HS9.out.2 x; rw [HR.out] at this; cases this) h
                      go_wp2
                      go_ret
                      exact ⟨Rt.no HF2.out, btr HBE.out HB1.out⟩
                    · have HE2 : Hid (L.take (i + 1) = L'.take (i + 1)) := HE.out (HS9.out.1 HR.out)
                      go_wp2
                      go_roundw
                      case rel => exact ⟨i + 1, by omega, by go_num, HE2, A0.out.later HB1.out, A1.out.later HB1.out, btr HBE.out HB1.out⟩
                      case measure => simp [intOf]; omega
                  · have HLL : Hid (L = L') := eq_end HL.out HL'.out Q6.out (by omega) HT.out
                    go_wp2
                    clear c0
                    go_loopw [6] (fun iv wr => ∃ i : Nat, i ≤ gn ∧ iv = .int .i64 (i : Int) ∧ Hid (G.take i = G'.take i) ∧ Bx wr w.heap.size 40 g nm t b nx (.slice ma mn mc) (.slice ga gn gc) ∧ Bx wr (w.heap.size + 1) 40 g nm t b nx (.slice ma' mn' mc') (.slice ga' gn' gc') ∧ Below w.heap.size w wr) (fun iv _ => gn - (intOf iv).toNat)
                    case atStart => exact ⟨0, Nat.zero_le _, rfl, rfl, A0.out, A1.out, HBE.out⟩
                    case round =>
                      obtain ⟨j, hj, rfl, HT2, hk0, hk1, hb⟩ := hrel
                      have A0 := hid hk0
                      have A1 := hid hk1
                      have HBE := hid hb
                      have c0 := hk0.cells
                      have c1 := hk1.cells
                      clear hk0 hk1 hb
                      by_cases hlt2 : j < gn
                      · have hjl : j < G.length := by rw [HG.out]; exact hlt2
                        have hjm : j < G'.length := by rw [HG'.out, ← Q7.out]; exact hlt2
                        obtain ⟨k, o, rfl, hk, c⟩ := (HS.out.later HBE.out).at hjl
                        obtain ⟨k', o', rfl, hk', d⟩ := (HS'.out.later HBE.out).at hjm
                        have HE : Hid (G[j] = G'[j] → G.take (j + 1) = G'.take (j + 1)) := fun e => take_up hjl hjm HT2.out e
                        have HF : Hid (¬ G[j] = G'[j] → ¬ G = G') := fun e => ne_up hjl hjm e
                        obtain ⟨x, hx⟩ : ∃ x, G[j] = x := ⟨_, rfl⟩
                        obtain ⟨z, hz⟩ : ∃ z, G'[j] = z := ⟨_, rfl⟩
                        rw [hx] at c HE HF
                        rw [hz] at d HE HF
                        clear hx hz
                        have hI : (0 : Int) ≤ (j : Int) ∧ (j : Int) < (gn : Int) := by omega
                        have hI' : (0 : Int) ≤ (j : Int) ∧ (j : Int) < (gn' : Int) := by have := Q7.out; omega
                        by_cases hxz : x = z
                        · have HE2 : Hid (G.take (j + 1) = G'.take (j + 1)) := HE.out hxz
                          have hxx : (x != z) = false := by rw [hxz]; simp
                          clear hxz
                          go_wp2_with fail
                          go_quiet (fail)
                          clear c0 c1 c d hxx
                          go_wp2
                          go_roundw
                          case rel => exact ⟨j + 1, by omega, by go_num, HE2, A0.out.later (bdn (bre _) _), A1.out.later (bdn (bre _) _), bdn HBE.out _⟩
                          case measure => simp [intOf]; omega
                        · have HF2 : Hid (¬ ((g, nm, t, b, nx, L, G) : X7) = (g, nm, t, b, nx, L', G')) := by
                            show ¬ _
                            intro h
                            injection h with _ h; injection h with _ h; injection h with _ h; injection h with _ h; injection h with _ h; injection h with _ h
                            exact HF.out hxz h
                          have hxx : (x != z) = true := bne_iff_ne.2 hxz
                          clear hxz
                          go_wp2_with fail
                          go_quiet (fail)
                          clear c0 c1 c d hxx
                          go_wp2
                          go_ret
                          exact ⟨Rt.no HF2.out, bdn HBE.out _⟩
                      · have HGG : Hid (G = G') := eq_end HG.out HG'.out Q7.out (by omega) HT2.out
                        have HF : Hid (((g, nm, t, b, nx, L, G) : X7) = (g, nm, t, b, nx, L', G')) := by show _ = _; rw [HLL.out, HGG.out]
                        go_wp2
                        go_ret
                        exact ⟨Rt.yes HF.out, HBE.out⟩
              · have HF : Hid (¬ ((g, nm, t, b, nx, L, G) : X7) = (g, nm, t, b, nx, L', G')) := by show ¬ _; intro h; injection h with _ h; injection h with _ h; injection h with _ h; injection h with _ h; injection h with _ h; injection h with _ h; exact ne_len HG.out HG'.out q7 h
                have e1 : (g != g) = false := by simp
                have e2 : (nx != nx) = false := by simp
                have e3 : (!nm.toList == nm.toList) = false := by simp
                have e4 : (t != t) = false := by simp
                have e5 : (b != b) = false := by simp
                have e6 : ((mn : Int) != (mn' : Int)) = false := by rw [q6]; simp
                clear q6
                go_enter Try.func11, Try.ntmps11
                have e7 : ((gn : Int) != (gn' : Int)) = true := by simp; omega
                clear q7
                go_wp2
                go_ret
                exact ⟨Rt.no HF.out, B0.out⟩
            · have HF : Hid (¬ ((g, nm, t, b, nx, L, G) : X7) = (g, nm, t, b, nx, L', G')) := by show ¬ _; intro h; injection h with _ h; injection h with _ h; injection h with _ h; injection h with _ h; injection h with _ h; injection h with h _; exact ne_len HL.out HL'.out q6 h
              have e1 : (g != g) = false := by simp
              have e2 : (nx != nx) = false := by simp
              have e3 : (!nm.toList == nm.toList) = false := by simp
              have e4 : (t != t) = false := by simp
              have e5 : (b != b) = false := by simp
              have e6 : ((mn : Int) != (mn' : Int)) = true := by simp; omega
              clear q6
              go_enter Try.func11, Try.ntmps11
              go_wp2
              go_ret
              exact ⟨Rt.no HF.out, B0.out⟩
          · subst q1 q2 q3 q4
            have HF : Hid (¬ ((g, nm, t, b, nx, L, G) : X7) = (g, nm, t, b, nx', L', G')) := by show ¬ _; intro h; injection h with _ h; injection h with _ h; injection h with _ h; injection h with _ h; injection h with h _; exact q5 h
            have x1 : (nx != nx') = true := bne_iff_ne.2 q5
            clear q5
            go_enter Try.func11, Try.ntmps11
            go_wp2
            go_ret
            exact ⟨Rt.no HF.out, B0.out⟩
        · subst q1 q2 q3
          have HF : Hid (¬ ((g, nm, t, b, nx, L, G) : X7) = (g, nm, t, b', nx', L', G')) := by show ¬ _; intro h; injection h with _ h; injection h with _ h; injection h with _ h; injection h with h _; exact q4 h
          have x1 : (b == b') = false := beq_eq_false_iff_ne.2 q4
          clear q4
          go_enter Try.func11, Try.ntmps11
          go_wp2
          go_ret
          exact ⟨Rt.no HF.out, B0.out⟩
      · subst q1 q2
        have HF : Hid (¬ ((g, nm, t, b, nx, L, G) : X7) = (g, nm, t', b', nx', L', G')) := by show ¬ _; intro h; injection h with _ h; injection h with _ h; injection h with h _; exact q3 h
        have x1 : (t == t') = false := beq_eq_false_iff_ne.2 q3
        clear q3
        go_enter Try.func11, Try.ntmps11
        go_wp2
        go_ret
        exact ⟨Rt.no HF.out, B0.out⟩
    · subst q1
      have HF : Hid (¬ ((g, nm, t, b, nx, L, G) : X7) = (g, nm', t', b', nx', L', G')) := by show ¬ _; intro h; injection h with _ h; injection h with h _; exact q2 h
      have x1 : (!nm.toList == nm'.toList) = true := by rw [bytes_ne q2]; rfl
      clear q2
      go_enter Try.func11, Try.ntmps11
      go_wp2
      go_ret
      exact ⟨Rt.no HF.out, B0.out⟩
  · have HF : Hid (¬ ((g, nm, t, b, nx, L, G) : X7) = (g', nm', t', b', nx', L', G')) := by show ¬ _; intro h; injection h with h _; exact q1 h
    have x1 : (g != g') = true := bne_iff_ne.2 q1
    clear q1
    go_enter Try.func11, Try.ntmps11
    go_wp2
    go_ret
    exact ⟨Rt.no HF.out, B0.out⟩
end Go.Proofs.Ytanahkieondboaa
