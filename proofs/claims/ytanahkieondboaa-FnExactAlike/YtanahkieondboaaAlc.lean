/- Stores held against each other, as the program does it. -/
import Derived.Test.YtanahkieondboaaAlb
namespace Go.Proofs.Ytanahkieondboaa
open Go.RowKit Go.ChangeMaps

set_option maxHeartbeats 3200000 in
set_option maxRecDepth 100000 in
/-- slices.EqualFunc of boxes, by sameBox. -/
theorem eqBoxes_any (l1 h1 l2 h2 : Nat) (ao bo : Option Addr) (na nb ca cb : Nat) (l m : List X7) (w : World) (hl : l.length = na) (hm : m.length = nb) (hna : na ≤ 1048576) (hsb : Sb l) (ha : Bs l1 h1 w ao l) (hb : Bs l2 h2 w bo m) :
    Calls Try.prog 14 #[.slice ao na ca, .slice bo nb cb, .func (.func 15) #[] #[]] w fun e w' => Rt (l = m) e ∧ Below w.heap.size w w' := by
  have HA := hid ha
  have HB := hid hb
  have HL := hid hl
  have HM := hid hm
  have HX := hid hsb
  clear ha hb hl hm hsb
  by_cases hn : na = nb
  · have HN := hid hn
    have hnn : ((na : Int) != (nb : Int)) = false := by rw [hn]; simp
    clear hn
    go_enter Try.func14, Try.ntmps14
    go_wp2
    clear hnn
    go_loopw [17] (fun iv wr => ∃ i : Nat, i ≤ na ∧ iv = .int .i64 (i : Int) ∧ Hid (l.take i = m.take i) ∧ Below w.heap.size w wr) (fun iv _ => na - (intOf iv).toNat)
    case atStart => exact ⟨0, Nat.zero_le _, rfl, rfl, bre _⟩
    case round =>
      obtain ⟨i, hi, rfl, HT, hb⟩ := hrel
      have HBE := hid hb
      clear hb
      by_cases hlt : i < na
      · have hil : i < l.length := by rw [HL.out]; exact hlt
        have him : i < m.length := by rw [HM.out, ← HN.out]; exact hlt
        obtain ⟨k, o, ma, mc, ha, hc, rfl, hk, c, m1, g1, _⟩ := (HA.out.later HBE.out).at hil
        obtain ⟨k', o', ma', mc', ha', hc', rfl, hk', d, m2, g2, _⟩ := (HB.out.later HBE.out).at him
        have hs := HX.out l[i] (List.getElem_mem hil)
        have HE : Hid (l[i] = m[i] → l.take (i + 1) = m.take (i + 1)) := fun e => take_up hil him HT.out e
        have HF : Hid (¬ l[i] = m[i] → ¬ l = m) := fun e => ne_up hil him e
        obtain ⟨p, hp⟩ : ∃ p, l[i] = p := ⟨_, rfl⟩
        obtain ⟨q, hq⟩ : ∃ q, m[i] = q := ⟨_, rfl⟩
        rw [hp] at c m1 g1 hs HE HF
        rw [hq] at d m2 g2 HE HF
        obtain ⟨g, nm, t, b, nx, L, H⟩ := p
        obtain ⟨g', nm', t', b', nx', L', H'⟩ := q
        dsimp only at c d m1 m2 g1 g2 hs
        unfold C7 at c d
        obtain ⟨mn, hmn⟩ : ∃ n, L.length = n := ⟨_, rfl⟩
        obtain ⟨hn9, hhn⟩ : ∃ n, H.length = n := ⟨_, rfl⟩
        obtain ⟨mn', hmn'⟩ : ∃ n, L'.length = n := ⟨_, rfl⟩
        obtain ⟨hn9', hhn'⟩ : ∃ n, H'.length = n := ⟨_, rfl⟩
        rw [hmn, hhn] at c hs
        rw [hmn', hhn'] at d
        have N1 := hid hmn
        have N2 := hid hhn
        have N3 := hid hmn'
        have N4 := hid hhn'
        have HSB := hid hs
        have M1 := hid m1
        have M2 := hid m2
        have G1 := hid g1
        have G2 := hid g2
        clear hp hq hs hmn hhn hmn' hhn' m1 m2 g1 g2
        have hI : (0 : Int) ≤ (i : Int) ∧ (i : Int) < (na : Int) := by omega
        have hI' : (0 : Int) ≤ (i : Int) ∧ (i : Int) < (nb : Int) := by have := HN.out; omega
        go_wp2_with fail
        have B2 : Hid (Below wr.heap.size wr ((wr.alloc (.cells #[.int .i64 g, .string nm, .int .i64 t, .int .i64 b, .int .i64 nx, .slice ma mn mc, .slice ha hn9 hc] 40)).alloc (.cells #[.int .i64 g', .string nm', .int .i64 t', .int .i64 b', .int .i64 nx', .slice ma' mn' mc', .slice ha' hn9' hc'] 40))) := bpush (bpush (bre _) _) _
        refine (sameBx_any _ _ _ _ _ _ _ _ g nm t b nx ma mn mc ha hn9 hc L H g' nm' t' b' nx' ma' mn' mc' ha' hn9' hc' L' H' _ N1.out HSB.out.2.1 HSB.out.2.2.1 (M1.out.later B2.out) N2.out HSB.out.2.2.2 (G1.out.later B2.out) N3.out (M2.out.later B2.out) N4.out (G2.out.later B2.out)).mono ?_; rintro e w1 ⟨⟨r, rfl, hr⟩, hb1⟩
        have B3 := hid (btr HBE.out (btr B2.out hb1))
        have HR := hid hr
        clear c d hb1 B2 hr
        cases r
        · have HF2 : Hid (¬ l = m) := HF.out (fun h => by cases HR.out.2 h)
          go_wp2
          go_ret
          exact ⟨Rt.no HF2.out, B3.out⟩
        · have HE2 : Hid (l.take (i + 1) = m.take (i + 1)) := HE.out (HR.out.1 rfl)
          go_wp2
          go_roundw
          case rel => exact ⟨i + 1, by omega, by go_num, HE2, B3.out⟩
          case measure => simp [intOf]; omega
      · have HE : Hid (l = m) := eq_end HL.out HM.out HN.out (by omega) HT.out
        go_wp2
        go_ret
        exact ⟨Rt.yes HE.out, HBE.out⟩
  · have HF : Hid (¬ l = m) := ne_len HL.out HM.out hn
    have hnn : ((na : Int) != (nb : Int)) = true := by simp; omega
    go_enter Try.func14, Try.ntmps14
    go_wp2
    go_ret
    exact ⟨Rt.no HF.out, bre _⟩

set_option maxHeartbeats 1600000 in
set_option maxRecDepth 100000 in
theorem implAlike_any (l1 h1 l2 h2 l3 h3 l4 h4 : Nat) (y tm : Int) (ba : Option Addr) (bn bc : Nat) (ga : Option Addr) (gn gc : Nat) (S : List X7) (G : List Int) (y' tm' : Int) (ba' : Option Addr) (bn' bc' : Nat) (ga' : Option Addr) (gn' gc' : Nat) (S' : List X7) (G' : List Int) (w : World)
    (hl : S.length = bn) (hn : bn ≤ 1048576) (hsb : Sb S) (hm : Bs l1 h1 w ba S) (hgl : G.length = gn) (hgn : gn ≤ 1048576) (hs : Is l2 h2 w ga G) (hl' : S'.length = bn') (hm' : Bs l3 h3 w ba' S') (hgl' : G'.length = gn') (hs' : Is l4 h4 w ga' G') :
    Calls Try.prog 7 #[.agg #[.int .i64 y, .int .i64 tm, .slice ba bn bc, .slice ga gn gc], .agg #[.int .i64 y', .int .i64 tm', .slice ba' bn' bc', .slice ga' gn' gc']] w fun e w' => Rt (S = S' ∧ G = G') e ∧ Below w.heap.size w w' := by
  obtain ⟨W0, hW0⟩ : ∃ W0, ((w.alloc (.cells #[.int .i64 y, .int .i64 tm, .slice ba bn bc, .slice ga gn gc] 30)).alloc (.cells #[.int .i64 y', .int .i64 tm', .slice ba' bn' bc', .slice ga' gn' gc'] 30)) = W0 := ⟨_, rfl⟩
  obtain ⟨a0, a1, b0, _⟩ := two_stores w _ _ _ _ _ _ _ _ _ _ W0 hW0
  have A0 := hid a0
  have A1 := hid a1
  have B0 := hid b0
  have c0 := a0.cells
  have c1 := a1.cells
  have HM := hid hm
  have HM' := hid hm'
  have HS := hid hs
  have HS' := hid hs'
  have HX := hid hsb
  have HL := hid hl
  have HL' := hid hl'
  have HG := hid hgl
  have HG' := hid hgl'
  clear a0 a1 b0 hm hm' hs hs' hsb hl hl' hgl hgl'
  go_enter Try.func7, Try.ntmps7
  go_wp2_with fail
  try rw [hW0]
  clear hW0
  refine (eqBoxes_any l1 h1 l3 h3 ba ba' bn bn' bc bc' S S' _ HL.out HL'.out hn HX.out (HM.out.later B0.out) (HM'.out.later B0.out)).mono ?_; rintro e w1 ⟨⟨r, rfl, hr⟩, hb1⟩
  have HR := hid hr
  have A2 := hid (A0.out.later hb1)
  have A3 := hid (A1.out.later hb1)
  have B2 := hid (btr B0.out hb1)
  clear hr hb1 c0 c1
  cases r
  · have HF : Hid (¬ (S = S' ∧ G = G')) := fun h => by cases HR.out.2 h.1
    go_wp2
    go_ret
    exact ⟨Rt.no HF.out, B2.out⟩
  · have HE := hid (HR.out.1 rfl)
    have c0 := A2.out.cells
    have c1 := A3.out.cells
    go_wp2_with fail
    refine (eqInts_any l2 h2 l4 h4 ga ga' gn gn' gc gc' G G' _ HG.out HG'.out hgn (HS.out.later B2.out) (HS'.out.later B2.out)).mono ?_; rintro e w2 ⟨⟨r, rfl, hr⟩, hb2⟩
    have HR2 := hid hr
    have B3 := hid (btr B2.out hb2)
    clear hr hb2 c0 c1
    cases r
    · have HF : Hid (¬ (S = S' ∧ G = G')) := fun h => by cases HR2.out.2 h.2
      go_wp2
      go_ret
      exact ⟨Rt.no HF.out, B3.out⟩
    · have HF : Hid (S = S' ∧ G = G') := ⟨HE.out, HR2.out.1 rfl⟩
      go_wp2
      go_ret
      exact ⟨Rt.yes HF.out, B3.out⟩
end Go.Proofs.Ytanahkieondboaa
