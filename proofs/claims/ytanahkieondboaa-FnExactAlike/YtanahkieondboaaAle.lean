/- Stores held against each other, as the specification does it. -/
import Derived.Test.YtanahkieondboaaAld
namespace Go.Proofs.Ytanahkieondboaa
open Go.RowKit Go.ChangeMaps

set_option maxHeartbeats 3200000 in
set_option maxRecDepth 100000 in
theorem specAlike_any (l1 h1 l2 h2 l3 h3 l4 h4 : Nat) (y tm : Int) (ba : Option Addr) (bn bc : Nat) (ga : Option Addr) (gn gc : Nat) (S : List X7) (G : List Int) (y' tm' : Int) (ba' : Option Addr) (bn' bc' : Nat) (ga' : Option Addr) (gn' gc' : Nat) (S' : List X7) (G' : List Int) (w : World)
    (hl : S.length = bn) (hn : bn ≤ 1048576) (hsb : Sb S) (hm : Bs l1 h1 w ba S) (hgl : G.length = gn) (hgn : gn ≤ 1048576) (hs : Is l2 h2 w ga G) (hl' : S'.length = bn') (hm' : Bs l3 h3 w ba' S') (hgl' : G'.length = gn') (hs' : Is l4 h4 w ga' G') :
    Calls Try.prog 5 #[.agg #[.int .i64 y, .int .i64 tm, .slice ba bn bc, .slice ga gn gc], .agg #[.int .i64 y', .int .i64 tm', .slice ba' bn' bc', .slice ga' gn' gc']] w fun e w' => Rt (S = S' ∧ G = G') e ∧ Below w.heap.size w w' := by
  obtain ⟨W0, hW0⟩ : ∃ W0, ((w.alloc (.cells #[.int .i64 y, .int .i64 tm, .slice ba bn bc, .slice ga gn gc] 30)).alloc (.cells #[.int .i64 y', .int .i64 tm', .slice ba' bn' bc', .slice ga' gn' gc'] 30)) = W0 := ⟨_, rfl⟩
  obtain ⟨a0, a1, b0, _⟩ := two_stores w _ _ _ _ _ _ _ _ _ _ W0 hW0
  have A0 := hid a0
  have A1 := hid a1
  have B0 := hid b0
  have c0 := a0.cells
  have c1 := a1.cells
  have HM := hid hm
  have HM' := hid hm'
  have HS := hid hs
  have HS' := hid hs'
  have HX := hid hsb
  have HL := hid hl
  have HL' := hid hl'
  have HG := hid hgl
  have HG' := hid hgl'
  clear a0 a1 b0 hm hm' hs hs' hsb hl hl' hgl hgl'
  by_cases q6 : bn = bn'
  · by_cases q7 : gn = gn'
    · have Q6 := hid q6
      have Q7 := hid q7
      have e6 : ((bn : Int) != (bn' : Int)) = false := by rw [q6]; simp
      have e7 : ((gn : Int) != (gn' : Int)) = false := by rw [q7]; simp
      clear q6 q7
      go_enter Try.func5, Try.ntmps5
      go_wp2
      clear c0 c1 e6 e7
      try rw [hW0]
      clear hW0
      go_loopw [5] (fun iv wr => ∃ i : Nat, i ≤ bn ∧ iv = .int .i64 (i : Int) ∧ Hid (S.take i = S'.take i) ∧ Sx wr w.heap.size 30 y tm (.slice ba bn bc) (.slice ga gn gc) ∧ Sx wr (w.heap.size + 1) 30 y' tm' (.slice ba' bn' bc') (.slice ga' gn' gc') ∧ Below w.heap.size w wr) (fun iv _ => bn - (intOf iv).toNat)
      case atStart => exact ⟨0, Nat.zero_le _, rfl, rfl, A0.out, A1.out, B0.out⟩
      case round =>
        obtain ⟨i, hi, rfl, HT, hk0, hk1, hb⟩ := hrel
        have A0 := hid hk0
        have A1 := hid hk1
        have HBE := hid hb
        have c0 := hk0.cells
        clear hk0 hk1 hb B0
        by_cases hlt : i < bn
        · have hil : i < S.length := by rw [HL.out]; exact hlt
          have him : i < S'.length := by rw [HL'.out, ← Q6.out]; exact hlt
          obtain ⟨k, o, ma, mc, ha, hc, rfl, hk, c, m1, g1, _⟩ := (HM.out.later HBE.out).at hil
          obtain ⟨k', o', ma', mc', ha', hc', rfl, hk', d, m2, g2, _⟩ := (HM'.out.later HBE.out).at him
          have hs := HX.out S[i] (List.getElem_mem hil)
          have HE : Hid (S[i] = S'[i] → S.take (i + 1) = S'.take (i + 1)) := fun e => take_up hil him HT.out e
          have HF : Hid (¬ S[i] = S'[i] → ¬ S = S') := fun e => ne_up hil him e
          obtain ⟨p, hp⟩ : ∃ p, S[i] = p := ⟨_, rfl⟩
          obtain ⟨q, hq⟩ : ∃ q, S'[i] = q := ⟨_, rfl⟩
          rw [hp] at c m1 g1 hs HE HF
          rw [hq] at d m2 g2 HE HF
          obtain ⟨g, nm, t, b, nx, L, H⟩ := p
          obtain ⟨g', nm', t', b', nx', L', H'⟩ := q
          dsimp only at c d m1 m2 g1 g2 hs
          obtain ⟨mn, hmn⟩ : ∃ n, L.length = n := ⟨_, rfl⟩
          obtain ⟨hn9, hhn⟩ : ∃ n, H.length = n := ⟨_, rfl⟩
          obtain ⟨mn', hmn'⟩ : ∃ n, L'.length = n := ⟨_, rfl⟩
          obtain ⟨hn9', hhn'⟩ : ∃ n, H'.length = n := ⟨_, rfl⟩
          rw [hmn, hhn] at c hs
          rw [hmn', hhn'] at d
          have N1 := hid hmn
          have N2 := hid hhn
          have N3 := hid hmn'
          have N4 := hid hhn'
          have HSB := hid hs
          have M1 := hid m1
          have M2 := hid m2
          have G1 := hid g1
          have G2 := hid g2
          clear hp hq hs hmn hhn hmn' hhn' m1 m2 g1 g2
          have hI : (0 : Int) ≤ (i : Int) ∧ (i : Int) < (bn : Int) := by omega
          have hI' : (0 : Int) ≤ (i : Int) ∧ (i : Int) < (bn' : Int) := by have := Q6.out; omega
          have HSS : Hid (∀ W, Below wr.heap.size wr W → ((W.cell? ⟨w.heap.size, 2, none⟩ = some (.slice (some ⟨k, o, none⟩) bn bc) ∧ W.cell? ⟨w.heap.size + 1, 2, none⟩ = some (.slice (some ⟨k', o', none⟩) bn' bc')) ∧ (W.cell? ⟨k, o + i * 7, none⟩ = some (.int .i64 g) ∧ W.cell? ⟨k, o + i * 7 + 1, none⟩ = some (.string nm) ∧ W.cell? ⟨k, o + i * 7 + 2, none⟩ = some (.int .i64 t) ∧ W.cell? ⟨k, o + i * 7 + 3, none⟩ = some (.int .i64 b) ∧ W.cell? ⟨k, o + i * 7 + 4, none⟩ = some (.int .i64 nx) ∧ W.cell? ⟨k, o + i * 7 + 5, none⟩ = some (.slice ma mn mc) ∧ W.cell? ⟨k, o + i * 7 + 6, none⟩ = some (.slice ha hn9 hc))) ∧ (W.cell? ⟨k', o' + i * 7, none⟩ = some (.int .i64 g') ∧ W.cell? ⟨k', o' + i * 7 + 1, none⟩ = some (.string nm') ∧ W.cell? ⟨k', o' + i * 7 + 2, none⟩ = some (.int .i64 t') ∧ W.cell? ⟨k', o' + i * 7 + 3, none⟩ = some (.int .i64 b') ∧ W.cell? ⟨k', o' + i * 7 + 4, none⟩ = some (.int .i64 nx') ∧ W.cell? ⟨k', o' + i * 7 + 5, none⟩ = some (.slice ma' mn' mc') ∧ W.cell? ⟨k', o' + i * 7 + 6, none⟩ = some (.slice ha' hn9' hc'))) :=
            fun W h => ⟨⟨⟨(A0.out.later h).cells.2.2.1, (A1.out.later h).cells.2.2.1⟩, C7.later c hk h⟩, C7.later d hk' h⟩
          clear c d
          go_wp2_with fail
          go_region_held3 (fun W => ((W.cell? ⟨w.heap.size, 2, none⟩ = some (.slice (some ⟨k, o, none⟩) bn bc) ∧ W.cell? ⟨w.heap.size + 1, 2, none⟩ = some (.slice (some ⟨k', o', none⟩) bn' bc')) ∧ (W.cell? ⟨k, o + i * 7, none⟩ = some (.int .i64 g) ∧ W.cell? ⟨k, o + i * 7 + 1, none⟩ = some (.string nm) ∧ W.cell? ⟨k, o + i * 7 + 2, none⟩ = some (.int .i64 t) ∧ W.cell? ⟨k, o + i * 7 + 3, none⟩ = some (.int .i64 b) ∧ W.cell? ⟨k, o + i * 7 + 4, none⟩ = some (.int .i64 nx) ∧ W.cell? ⟨k, o + i * 7 + 5, none⟩ = some (.slice ma mn mc) ∧ W.cell? ⟨k, o + i * 7 + 6, none⟩ = some (.slice ha hn9 hc))) ∧ (W.cell? ⟨k', o' + i * 7, none⟩ = some (.int .i64 g') ∧ W.cell? ⟨k', o' + i * 7 + 1, none⟩ = some (.string nm') ∧ W.cell? ⟨k', o' + i * 7 + 2, none⟩ = some (.int .i64 t') ∧ W.cell? ⟨k', o' + i * 7 + 3, none⟩ = some (.int .i64 b') ∧ W.cell? ⟨k', o' + i * 7 + 4, none⟩ = some (.int .i64 nx') ∧ W.cell? ⟨k', o' + i * 7 + 5, none⟩ = some (.slice ma' mn' mc') ∧ W.cell? ⟨k', o' + i * 7 + 6, none⟩ = some (.slice ha' hn9' hc')))
            ((refine HSS.out _ ?_; repeat (first | exact bdr (bre _) | refine btr ?_ (by assumption))))
            ((go_at_call 11; refine (l09Bx_any _ _ _ _ _ _ _ _ g nm t b nx ma mn mc ha hn9 hc L H g' nm' t' b' nx' ma' mn' mc' ha' hn9' hc' L' H' _ N1.out HSB.out.2.1 HSB.out.2.2.1 (M1.out.later (by repeat (first | exact bdr (bre _) | exact bre _ | refine btr ?_ (by assumption)))) N2.out HSB.out.2.2.2 (G1.out.later (by repeat (first | exact bdr (bre _) | exact bre _ | refine btr ?_ (by assumption)))) N3.out (M2.out.later (by repeat (first | exact bdr (bre _) | exact bre _ | refine btr ?_ (by assumption)))) N4.out (G2.out.later (by repeat (first | exact bdr (bre _) | exact bre _ | refine btr ?_ (by assumption))))).mono ?_; rintro e w1 ⟨⟨r, rfl, hr⟩, hb1⟩; have HR := hid hr))
          have HB1 : Hid (Below wr.heap.size wr w1) := by show Below _ _ _; repeat (first | exact bdr (bre _) | refine btr ?_ (by assumption))
          clear c0 hb1
          cases r
          · have HF2 : Hid (¬ (S = S' ∧ G = G')) := fun h => HF.out (fun x => by cases HR.out.2 x) h.1
            clear hr
            go_wp2
            go_ret
            exact ⟨Rt.no HF2.out, btr HBE.out HB1.out⟩
          · have HE2 : Hid (S.take (i + 1) = S'.take (i + 1)) := HE.out (HR.out.1 rfl)
            clear hr
            go_wp2
            go_roundw
            case rel => exact ⟨i + 1, by omega, by go_num, HE2, A0.out.later HB1.out, A1.out.later HB1.out, btr HBE.out HB1.out⟩
            case measure => simp [intOf]; omega
        · have HLL : Hid (S = S') := eq_end HL.out HL'.out Q6.out (by omega) HT.out
          go_wp2
          clear c0
          go_loopw [6] (fun iv wr => ∃ i : Nat, i ≤ gn ∧ iv = .int .i64 (i : Int) ∧ Hid (G.take i = G'.take i) ∧ Sx wr w.heap.size 30 y tm (.slice ba bn bc) (.slice ga gn gc) ∧ Sx wr (w.heap.size + 1) 30 y' tm' (.slice ba' bn' bc') (.slice ga' gn' gc') ∧ Below w.heap.size w wr) (fun iv _ => gn - (intOf iv).toNat)
          case atStart => exact ⟨0, Nat.zero_le _, rfl, rfl, A0.out, A1.out, HBE.out⟩
          case round =>
            obtain ⟨j, hj, rfl, HT2, hk0, hk1, hb⟩ := hrel
            have A0 := hid hk0
            have A1 := hid hk1
            have HBE := hid hb
            have c0 := hk0.cells
            have c1 := hk1.cells
            clear hk0 hk1 hb
            by_cases hlt2 : j < gn
            · have hjl : j < G.length := by rw [HG.out]; exact hlt2
              have hjm : j < G'.length := by rw [HG'.out, ← Q7.out]; exact hlt2
              obtain ⟨k, o, rfl, hk, c⟩ := (HS.out.later HBE.out).at hjl
              obtain ⟨k', o', rfl, hk', d⟩ := (HS'.out.later HBE.out).at hjm
              have HE : Hid (G[j] = G'[j] → G.take (j + 1) = G'.take (j + 1)) := fun e => take_up hjl hjm HT2.out e
              have HF : Hid (¬ G[j] = G'[j] → ¬ G = G') := fun e => ne_up hjl hjm e
              obtain ⟨x, hx⟩ : ∃ x, G[j] = x := ⟨_, rfl⟩
              obtain ⟨z, hz⟩ : ∃ z, G'[j] = z := ⟨_, rfl⟩
              rw [hx] at c HE HF
              rw [hz] at d HE HF
              clear hx hz
              have hI : (0 : Int) ≤ (j : Int) ∧ (j : Int) < (gn : Int) := by omega
              have hI' : (0 : Int) ≤ (j : Int) ∧ (j : Int) < (gn' : Int) := by have := Q7.out; omega
              by_cases hxz : x = z
              · have HE2 : Hid (G.take (j + 1) = G'.take (j + 1)) := HE.out hxz
                have hxx : (x != z) = false := by rw [hxz]; simp
                clear hxz
                go_wp2_with fail
                go_quiet (fail)
                clear c0 c1 c d hxx
                go_wp2
                go_roundw
                case rel => exact ⟨j + 1, by omega, by go_num, HE2, A0.out.later (bdn (bre _) _), A1.out.later (bdn (bre _) _), bdn HBE.out _⟩
                case measure => simp [intOf]; omega
              · have HF2 : Hid (¬ (S = S' ∧ G = G')) := fun h => HF.out hxz h.2
                have hxx : (x != z) = true := bne_iff_ne.2 hxz
                clear hxz
                go_wp2_with fail
                go_quiet (fail)
                clear c0 c1 c d hxx
                go_wp2
                go_ret
                exact ⟨Rt.no HF2.out, bdn HBE.out _⟩
            · have HGG : Hid (S = S' ∧ G = G') := ⟨HLL.out, eq_end HG.out HG'.out Q7.out (by omega) HT2.out⟩
              go_wp2
              go_ret
              exact ⟨Rt.yes HGG.out, HBE.out⟩
    · have HF : Hid (¬ (S = S' ∧ G = G')) := fun h => ne_len HG.out HG'.out q7 h.2
      have e6 : ((bn : Int) != (bn' : Int)) = false := by rw [q6]; simp
      have e7 : ((gn : Int) != (gn' : Int)) = true := by simp; omega
      clear q6 q7
      go_enter Try.func5, Try.ntmps5
      go_wp2
      go_ret
      exact ⟨Rt.no HF.out, B0.out⟩
  · have HF : Hid (¬ (S = S' ∧ G = G')) := fun h => ne_len HL.out HL'.out q6 h.1
    have e6 : ((bn : Int) != (bn' : Int)) = true := by simp; omega
    clear q6
    go_enter Try.func5, Try.ntmps5
    go_wp2
    go_ret
    exact ⟨Rt.no HF.out, B0.out⟩
end Go.Proofs.Ytanahkieondboaa
