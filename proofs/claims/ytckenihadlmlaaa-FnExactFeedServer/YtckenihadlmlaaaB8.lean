/- Sto2, Ssz, Mkz, Tkz, Tia. -/
import Derived.Test.YtckenihadlmlaaaB7
namespace Go.Proofs.Ytckenihadlmlaaa
open Go.RowKit Go.ChangeMaps
set_option maxHeartbeats 1600000 in
set_option maxRecDepth 100000 in
theorem toStore_any (lo hh lo' hh' : Nat) (y tm : Int) (ba : Option Addr) (bn bc : Nat) (ga : Option Addr) (gn gc : Nat) (S : List X7) (G : List Int) (w : World) (hl : S.length = bn) (hn : bn ≤ 1048576) (hsb : Sb S) (hm : Bs lo hh w ba S) (hg : G.length = gn) (hgn : gn ≤ 1048576) (hs : Is lo' hh' w ga G) :
    Calls Try.prog 48 #[.agg #[.int .i64 y, .int .i64 tm, .slice ba bn bc, .slice ga gn gc]] w fun e w' => ∃ km kg, e = .returned (.agg #[.int .i64 y, .int .i64 tm, .slice (some ⟨km, 0, none⟩) bn bn, .slice (some ⟨kg, 0, none⟩) gn gn]) ∧
      OwT w' w.heap.size (.slice (some ⟨km, 0, none⟩) bn bn) (.slice (some ⟨kg, 0, none⟩) gn gn) S G ∧ Below w.heap.size w w' := by
  obtain ⟨W0, hW0⟩ : ∃ W0, (((w.alloc (.cells #[.int .i64 y, .int .i64 tm, .slice ba bn bc, .slice ga gn gc] 38)).alloc (.cells #[.int .i64 0, .int .i64 0, .slice none 0 0, .slice none 0 0] 25)).alloc (.cells #[.int .i64 0, .int .i64 0, .slice none 0 0, .slice none 0 0] 25)) = W0 := ⟨_, rfl⟩
  obtain ⟨a0, a1, a2, b0, s0⟩ := three_stores w _ _ _ _ _ _ _ _ _ _ _ _ _ _ _ W0 hW0
  have A0 := hid a0
  have A1 := hid a1
  have A2 := hid a2
  have B0 := hid b0
  have S0 := hid s0
  have HM := hid hm
  have HS := hid hs
  have c0 := a0.cells
  have c2 := a2.cells
  have f2 := a2.loose
  clear a0 a1 a2 b0 s0 hm hs
  go_enter Try.func48, Try.ntmps48
  go_wp2_with fail
  clear hW0
  obtain ⟨W2, hW2⟩ : ∃ W2, (W0.setCell ⟨w.heap.size + 1 + 1, 0, none⟩ (.int .i64 y)).setCell ⟨w.heap.size + 1 + 1, 1, none⟩ (.int .i64 tm) = W2 := ⟨_, rfl⟩
  rw [hW2]
  have G1 : W0.grownBy W2 (some (w.heap.size + 1 + 1)) := by subst hW2; exact wst (wst (wre _ _) _ _) _ _
  have k2 := (A2.out.s0 y).s1 tm
  rw [hW2] at k2
  have K0 := hid (A0.out.off G1 (by omega))
  have K1 := hid (A1.out.off G1 (by omega))
  have K2 := hid k2
  have B1 : Hid (Below w.heap.size w W2) := B0.out.trans (below_of_grown G1 (by omega) (by have := S0.out; omega))
  have S1 : Hid (w.heap.size + 1 + 1 + 1 ≤ W2.heap.size) := by show _ ≤ _; have h1 := S0.out; have h2 := G1.size; omega
  clear hW2 c0 c2 f2 k2 G1 A0 A1 A2 B0 S0
  refine (toBoxS_any lo hh ba bn bc S W2 hl hn hsb (HM.out.later B1.out)).mono ?_; rintro e w2 ⟨rfl, ⟨Y, hY, hown⟩, hb2⟩
  have A0 := hid (K0.out.later hb2)
  have A1 := hid (K1.out.later hb2)
  have A2 := hid (K2.out.later hb2)
  have c0 := A0.out.cells
  have c2 := A2.out.cells
  have f2 := A2.out.loose
  have B2 := hid (btr B1.out hb2)
  have HO := hid hown
  have HY := hid hY
  have S2 := hid (Nat.le_trans S1.out hb2.size)
  obtain ⟨km, hkm⟩ : ∃ km, W2.heap.size = km := ⟨_, rfl⟩
  rw [hkm] at HO ⊢
  have HKM : Hid (w.heap.size + 1 + 1 + 1 ≤ km) := by show _ ≤ _; rw [← hkm]; exact S1.out
  clear hb2 K0 K1 K2 B1 S1 hY hown hkm
  go_wp2_with fail
  obtain ⟨W3, hW3⟩ : ∃ W3, w2.setCell ⟨w.heap.size + 1 + 1, 2, none⟩ (.slice (some ⟨km, 0, none⟩) bn bn) = W3 := ⟨_, rfl⟩
  rw [hW3]
  have G1 : w2.grownBy W3 (some (w.heap.size + 1 + 1)) := by subst hW3; exact wst (wre _ _) _ _
  have k2 := A2.out.s2 (.slice (some ⟨km, 0, none⟩) bn bn)
  rw [hW3] at k2
  have K1 := hid (A1.out.off G1 (by omega))
  have K2 := hid k2
  have O1 := hid (HO.out.grown G1 (by have := HKM.out; omega))
  have B1 : Hid (Below w.heap.size w W3) := B2.out.trans (below_of_grown G1 (by omega) (by have := S2.out; omega))
  have S1 : Hid (w.heap.size + 1 + 1 + 1 ≤ W3.heap.size) := by show _ ≤ _; have h1 := S2.out; have h2 := G1.size; omega
  clear hW3 c0 c2 f2 k2 G1 A0 A1 A2 B2 S2 HO
  refine (toIntS_any lo' hh' ga gn gc G W3 hg hgn (HS.out.later B1.out)).mono ?_; rintro e w3 ⟨rfl, hown, hb3⟩
  have A1 := hid (K1.out.later hb3)
  have A2 := hid (K2.out.later hb3)
  have c2 := A2.out.cells
  have f2 := A2.out.loose
  have c1 := A1.out.cells
  have f1 := A1.out.loose
  have B0 := hid (btr B1.out hb3)
  have HO := hid (O1.out.later hb3)
  have HI := hid hown
  have HD := hid (Dj.later O1.out.row hown (Nat.le_refl _))
  have HE : Hid (∀ z ∈ Y, ∀ j, Value.ownBlock (.slice (some ⟨W3.heap.size, 0, none⟩) gn gn) = some j → j < z.lo ∨ z.hi ≤ j) := fun z hz j hj => .inr (Nat.le_trans (O1.out.each z hz).1.top (hown.lt j hj).1)
  obtain ⟨kg, hkg⟩ : ∃ kg, W3.heap.size = kg := ⟨_, rfl⟩
  rw [hkg] at HI HD HE ⊢
  have HKG : Hid (w.heap.size + 1 + 1 + 1 ≤ kg) := by show _ ≤ _; rw [← hkg]; exact S1.out
  clear hb3 K1 K2 B1 S1 hown O1 hkg
  go_wp2
  have e1 : w3.grownBy (w3.setCell ⟨w.heap.size + 1 + 1, 3, none⟩ (.slice (some ⟨kg, 0, none⟩) gn gn)) (some (w.heap.size + 1 + 1)) := wst (wre _ _) _ _
  have k1 := A1.out.off e1 (by omega)
  have e2 := put4_grown (w3.setCell ⟨w.heap.size + 1 + 1, 3, none⟩ (.slice (some ⟨kg, 0, none⟩) gn gn)) (w.heap.size + 1) y tm (.slice (some ⟨km, 0, none⟩) bn bn) (.slice (some ⟨kg, 0, none⟩) gn gn)
  have d1 := (k1.put4 y tm (.slice (some ⟨km, 0, none⟩) bn bn) (.slice (some ⟨kg, 0, none⟩) gn gn)).cells
  unfold put4 at d1 e2
  refine bodyPost_ret (v := .agg #[.int .i64 y, .int .i64 tm, .slice (some ⟨km, 0, none⟩) bn bn, .slice (some ⟨kg, 0, none⟩) gn gn]) (by simp [results, Try.results48, go_sem, d1]) rfl ⟨km, kg, rfl, ⟨Y, HY.out, ?_, ?_, HD.out, HE.out⟩, ?_⟩
  · have h1 := HKM.out
    exact ((HO.out.grown e1 (by omega)).grown e2 (by omega)).base (by omega)
  · have h1 := HKG.out
    exact own_base (OwI.grown (OwI.grown HI.out e1 (by omega)) e2 (by omega)) (by omega)
  · have h1 := B0.out.size
    have h2 := e1.size
    exact B0.out.trans ((below_of_grown e1 (by omega) (by omega)).trans (below_of_grown e2 (by omega) (by omega)))
set_option maxHeartbeats 800000 in
set_option maxRecDepth 100000 in
theorem szBoxL_any (lf : Int) (hlf : 0 ≤ lf ∧ lf ≤ 1048576) (lo hi : Nat) (g : Int) (nm : ByteArray) (t b nx : Int) (ma : Option Addr) (mn mc : Nat) (ga : Option Addr) (gn gc : Nat) (L : List M4) (w : World) (hnm : (nm.size : Int) ≤ 9223372036854775807) (hl : L.length = mn) (hn : (mn : Int) ≤ 9223372036854775807) (hft : Fit L) (hm : Ms lo hi w ma L) (hgn : (gn : Int) ≤ 9223372036854775807) :
    Calls Try.prog 70 #[.agg #[.int .i64 g, .string nm, .int .i64 t, .int .i64 b, .int .i64 nx, .slice ma mn mc, .slice ga gn gc], .int .i64 lf] w fun e w' => e = .returned (.int .i64 (szr lf (nm.size + szL L + gn))) ∧ Below w.heap.size w w' := by
  obtain ⟨W0, hW0⟩ : ∃ W0, w.alloc (.cells #[.int .i64 g, .string nm, .int .i64 t, .int .i64 b, .int .i64 nx, .slice ma mn mc, .slice ga gn gc] 106) = W0 := ⟨_, rfl⟩
  have a0 : Bx W0 w.heap.size 106 g nm t b nx (.slice ma mn mc) (.slice ga gn gc) := by subst hW0; exact Bx.new w _ g nm t b nx _ _
  have b0 : Below w.heap.size w W0 := by subst hW0; exact bpush (bre _) _
  have c0 := a0.cells
  have A0 := hid a0
  have B0 := hid b0
  have HM := hid hm
  have HL := hid hl
  have HF := hid hft
  have HN := hid hn
  clear a0 b0 hm hl hft hn
  by_cases h1 : lf < nm.size
  · have HE := hid (szr_over (lf := lf) (n := nm.size + szL L + gn) (by omega))
    have h2 : lf - nm.size < 0 := by omega
    go_enter Try.func70, Try.ntmps70
    go_wp2
    go_ret
    exact ⟨by rw [HE.out]; rfl, B0.out⟩
  · obtain ⟨q, hq⟩ : ∃ q : Int, lf - nm.size = q := ⟨_, rfl⟩
    have h2 : ¬ q < 0 := by omega
    have h3 : 0 ≤ q ∧ q ≤ 1048576 := by omega
    have HQ := hid hq
    by_cases h4 : q < (szL L : Int)
    · have HE := hid (szr_over (lf := lf) (n := nm.size + szL L + gn) (by omega))
      have HE1 := hid (szr_over h4)
      clear h1
      go_enter Try.func70, Try.ntmps70
      go_wp2_with fail
      clear hW0
      refine (szMailS_any lo hi ma mn mc L q _ HL.out HN.out h3 HF.out (HM.out.later B0.out)).mono ?_; rintro e w1 ⟨rfl, hb1⟩
      rw [HE1.out]
      have HB1 := hid (btr B0.out hb1)
      clear hb1 c0 hq h2 h3 h4
      go_wp2
      go_ret
      exact ⟨by rw [HE.out]; rfl, HB1.out⟩
    · obtain ⟨r, hr⟩ : ∃ r : Int, q - (szL L : Int) = r := ⟨_, rfl⟩
      have HE1 : Hid (szr q (szL L) = r) := by show _ = _; rw [szr_fits h4, hr]
      have h5 : ¬ r < 0 := by omega
      have h6 : 0 ≤ r ∧ r ≤ 1048576 := by omega
      have HR := hid hr
      by_cases h7 : r < (gn : Int)
      · have HE := hid (szr_over (lf := lf) (n := nm.size + szL L + gn) (by omega))
        have HE2 := hid (szr_over h7)
        clear h1 h4 hr
        go_enter Try.func70, Try.ntmps70
        go_wp2_with fail
        clear hW0
        refine (szMailS_any lo hi ma mn mc L q _ HL.out HN.out h3 HF.out (HM.out.later B0.out)).mono ?_; rintro e w1 ⟨rfl, hb1⟩
        rw [HE1.out]
        have c0 := (A0.out.later hb1).cells
        have HB1 := hid (btr B0.out hb1)
        clear hb1 hq h2 h3
        go_wp2_with fail
        refine (szIntS_any ga gn gc r _ hgn h6).mono ?_; rintro e w2 ⟨rfl, h8⟩
        subst h8
        rw [HE2.out]
        clear c0 h5 h6 h7
        go_wp2
        go_ret
        exact ⟨by rw [HE.out]; rfl, HB1.out⟩
      · have HE : Hid (szr lf (nm.size + szL L + gn) = r - gn) := by show _ = _; rw [szr_fits (by omega)]; omega
        have HE2 := hid (szr_fits h7)
        obtain ⟨x, hx⟩ : ∃ x : Int, r - gn = x := ⟨_, rfl⟩
        have h9 : ¬ x < 0 := by omega
        rw [hx] at HE HE2
        clear h1 h4 hr hx
        go_enter Try.func70, Try.ntmps70
        go_wp2_with fail
        clear hW0
        refine (szMailS_any lo hi ma mn mc L q _ HL.out HN.out h3 HF.out (HM.out.later B0.out)).mono ?_; rintro e w1 ⟨rfl, hb1⟩
        rw [HE1.out]
        have c0 := (A0.out.later hb1).cells
        have HB1 := hid (btr B0.out hb1)
        clear hb1 hq h2 h3
        go_wp2_with fail
        refine (szIntS_any ga gn gc r _ hgn h6).mono ?_; rintro e w2 ⟨rfl, h8⟩
        subst h8
        rw [HE2.out]
        clear c0 h5 h6 h7
        go_wp2
        go_ret
        exact ⟨by rw [HE.out]; rfl, HB1.out⟩
/-- What a box takes; what boxes take; a store's boxes. -/
def szX (x : X7) : Nat := x.2.1.size + szL x.2.2.2.2.2.1 + x.2.2.2.2.2.2.length
def toX : List X7 → Nat
  | [] => 0
  | x :: S => szX x + toX S
def szB (S : List X7) : Nat := S.length + toX S
theorem toX_app (S T : List X7) : toX (S ++ T) = toX S + toX T := by
  induction S with
  | nil => simp [toX]
  | cons x S ih => simp only [List.cons_append, toX, ih]; omega
theorem toX_take (S : List X7) (i : Nat) (h : i < S.length) : toX (S.take (i + 1)) = toX (S.take i) + szX S[i] := by
  rw [List.take_succ_eq_append_getElem h, toX_app]; simp [toX]
theorem toX_le (S : List X7) (i : Nat) : toX (S.take i) ≤ toX S := by
  have h := toX_app (S.take i) (S.drop i)
  rw [List.take_append_drop] at h
  omega
/-- Boxes whose sizes are numbers of the language. -/
def FitB (S : List X7) : Prop := ∀ x ∈ S, (x.2.1.size : Int) ≤ 9223372036854775807 ∧ (x.2.2.2.2.2.1.length : Int) ≤ 9223372036854775807 ∧ Fit x.2.2.2.2.2.1 ∧ (x.2.2.2.2.2.2.length : Int) ≤ 9223372036854775807
set_option maxHeartbeats 1600000 in
set_option maxRecDepth 100000 in
theorem szBoxS_any (lo hi : Nat) (ao : Option Addr) (n cap : Nat) (S : List X7) (lf : Int) (w : World) (hl : S.length = n) (hn : (n : Int) ≤ 9223372036854775807) (hlf : 0 ≤ lf ∧ lf ≤ 1048576) (hft : FitB S) (hr : Bs lo hi w ao S) :
    Calls Try.prog 57 #[.slice ao n cap, .int .i64 lf] w fun e w' => e = .returned (.int .i64 (szr lf (szB S))) ∧ Below w.heap.size w w' := by
  by_cases h1 : lf < (n : Int)
  · have HE : Hid (szr lf (szB S) = -1) := by show _ = _; rw [szr, if_pos (by unfold szB; omega)]
    have h2 : lf - (n : Int) < 0 := by omega
    clear hft hr hl
    go_enter Try.func57, Try.ntmps57
    go_wp2
    go_ret
    exact ⟨by rw [HE.out]; rfl, bre _⟩
  · have h2 : ¬ lf - (n : Int) < 0 := by omega
    have HR := hid hr
    have HL := hid hl
    have HF := hid hft
    clear hr hl hft
    go_enter Try.func57, Try.ntmps57
    go_wp2
    go_loopw [1, 5] (fun lv iv wr => ∃ (i : Nat) (q : Int), i ≤ n ∧ lv = .int .i64 q ∧ iv = .int .i64 (i : Int) ∧ 0 ≤ q ∧ q ≤ 1048576 ∧ Hid (q = lf - n - (toX (S.take i) : Int)) ∧ Below w.heap.size w wr) (fun _ iv _ => n - (intOf iv).toNat)
    case atStart => exact ⟨0, lf - n, Nat.zero_le _, rfl, rfl, by omega, by omega, by show _ = _; simp [toX], bre _⟩
    case round =>
      obtain ⟨i, q, hi2, rfl, rfl, hq0, hq1, HQ, hb⟩ := hrel
      have HB := hid hb
      clear h1 h2
      by_cases hlt : i < n
      · have hil : i < S.length := by rw [HL.out]; exact hlt
        obtain ⟨k, o, ma, mc, ga, gc, rfl, hk, c, hms, _⟩ := (HR.out.later hb).at hil
        have hmem := HF.out S[i] (List.getElem_mem hil)
        have hstep := toX_take S i hil
        obtain ⟨p, hp⟩ : ∃ p, S[i] = p := ⟨_, rfl⟩
        rw [hp] at c hms hmem hstep
        obtain ⟨g, nm, t, b, nx, L, G⟩ := p
        dsimp only at c hms hmem hstep
        obtain ⟨m, hm⟩ : ∃ m, L.length = m := ⟨_, rfl⟩
        obtain ⟨z, hz⟩ : ∃ z, G.length = z := ⟨_, rfl⟩
        obtain ⟨sx, hsx⟩ : ∃ sx, nm.size + szL L + z = sx := ⟨_, rfl⟩
        have hsx2 : szX (g, nm, t, b, nx, L, G) = sx := by rw [← hsx, ← hz]; rfl
        rw [hsx2] at hstep
        rw [hm, hz] at c hmem
        have HST := hid hstep
        have HMM := hid hmem
        have HMS := hid hms
        have HM := hid hm
        have HSX := hid hsx
        unfold C7 at c
        clear hp hms hmem hm hz hstep hb hsx hsx2
        by_cases hov : q < (sx : Int)
        · have HE : Hid (szr lf (szB S) = -1) := by
            show _ = _
            have h1 := HQ.out
            have h2 := HST.out
            have h3 := toX_le S (i + 1)
            have h4 := HL.out
            rw [szr, if_pos (by unfold szB; omega)]
          go_wp2_with fail
          refine (szBoxL_any q ⟨hq0, hq1⟩ lo hi g nm t b nx ma m mc ga z gc L _ HMM.out.1 HM.out HMM.out.2.1 HMM.out.2.2.1 HMS.out HMM.out.2.2.2).mono ?_; rintro e w1 ⟨rfl, hb1⟩
          rw [HSX.out, szr_over hov]
          have HB1 := hid (btr HB.out hb1)
          clear hb1 c
          go_wp2
          go_ret
          exact ⟨by rw [HE.out]; rfl, HB1.out⟩
        · go_wp2_with fail
          refine (szBoxL_any q ⟨hq0, hq1⟩ lo hi g nm t b nx ma m mc ga z gc L _ HMM.out.1 HM.out HMM.out.2.1 HMM.out.2.2.1 HMS.out HMM.out.2.2.2).mono ?_; rintro e w1 ⟨rfl, hb1⟩
          rw [HSX.out, szr_fits (show ¬ q < (sx : Int) by omega)]
          have HB1 := hid (btr HB.out hb1)
          obtain ⟨q', hq'⟩ : ∃ q' : Int, q - sx = q' := ⟨_, rfl⟩
          rw [hq']
          have h3 : ¬ q' < 0 := by omega
          have h4 : 0 ≤ q' ∧ q' ≤ 1048576 := by omega
          have HQ2 : Hid (q' = lf - n - (toX (S.take (i + 1)) : Int)) := by show _ = _; have h1 := HQ.out; have h2 := HST.out; omega
          clear hb1 c hq' hov
          go_wp2
          go_roundw
          case rel => exact ⟨i + 1, q', by omega, rfl, by go_num, h4.1, h4.2, HQ2, HB1.out⟩
          case measure => simp [intOf]; omega
      · have HE : Hid (szr lf (szB S) = q) := by
          show _ = _
          have h1 := HQ.out
          have h4 := HL.out
          rw [List.take_of_length_le (by omega)] at h1
          rw [szr, if_neg (by unfold szB; omega)]
          unfold szB; omega
        go_wp2
        go_ret
        exact ⟨by rw [HE.out]; rfl, HB.out⟩
set_option maxHeartbeats 800000 in
set_option maxRecDepth 100000 in
theorem szStore_any (lo hi : Nat) (y tm : Int) (ba : Option Addr) (bn bc : Nat) (ga : Option Addr) (gn gc : Nat) (S : List X7) (w : World) (hl : S.length = bn) (hn : (bn : Int) ≤ 9223372036854775807) (hft : FitB S) (hm : Bs lo hi w ba S) (hgn : (gn : Int) ≤ 9223372036854775807) :
    Calls Try.prog 44 #[.agg #[.int .i64 y, .int .i64 tm, .slice ba bn bc, .slice ga gn gc], .int .i64 1048576] w fun e w' => e = .returned (.int .i64 (szr 1048576 (szB S + gn))) ∧ Below w.heap.size w w' := by
  obtain ⟨W0, hW0⟩ : ∃ W0, w.alloc (.cells #[.int .i64 y, .int .i64 tm, .slice ba bn bc, .slice ga gn gc] 38) = W0 := ⟨_, rfl⟩
  have a0 : Sx W0 w.heap.size 38 y tm (.slice ba bn bc) (.slice ga gn gc) := by subst hW0; exact Sx.new w _ y tm _ _
  have b0 : Below w.heap.size w W0 := by subst hW0; exact bpush (bre _) _
  have c0 := a0.cells
  have A0 := hid a0
  have B0 := hid b0
  have HM := hid hm
  have HL := hid hl
  have HF := hid hft
  have HN := hid hn
  clear a0 b0 hm hl hft hn
  by_cases h4 : (1048576 : Int) < (szB S : Int)
  · have HE := hid (szr_over (lf := 1048576) (n := szB S + gn) (by omega))
    have HE1 := hid (szr_over h4)
    clear h4
    go_enter Try.func44, Try.ntmps44
    go_wp2_with fail
    clear hW0
    refine (szBoxS_any lo hi ba bn bc S 1048576 _ HL.out HN.out (by omega) HF.out (HM.out.later B0.out)).mono ?_; rintro e w1 ⟨rfl, hb1⟩
    rw [HE1.out]
    have HB1 := hid (btr B0.out hb1)
    clear hb1 c0
    go_wp2
    go_ret
    exact ⟨by rw [HE.out]; rfl, HB1.out⟩
  · obtain ⟨r, hr⟩ : ∃ r : Int, 1048576 - (szB S : Int) = r := ⟨_, rfl⟩
    have HE1 : Hid (szr 1048576 (szB S) = r) := by show _ = _; rw [szr_fits h4, hr]
    have h5 : ¬ r < 0 := by omega
    have h6 : 0 ≤ r ∧ r ≤ 1048576 := by omega
    by_cases h7 : r < (gn : Int)
    · have HE := hid (szr_over (lf := 1048576) (n := szB S + gn) (by omega))
      have HE2 := hid (szr_over h7)
      clear h4 hr
      go_enter Try.func44, Try.ntmps44
      go_wp2_with fail
      clear hW0
      refine (szBoxS_any lo hi ba bn bc S 1048576 _ HL.out HN.out (by omega) HF.out (HM.out.later B0.out)).mono ?_; rintro e w1 ⟨rfl, hb1⟩
      rw [HE1.out]
      have c0 := (A0.out.later hb1).cells
      have HB1 := hid (btr B0.out hb1)
      clear hb1
      go_wp2_with fail
      refine (szIntS_any ga gn gc r _ hgn h6).mono ?_; rintro e w2 ⟨rfl, h8⟩
      subst h8
      rw [HE2.out]
      clear c0 h5 h6 h7
      go_wp2
      go_ret
      exact ⟨by rw [HE.out]; rfl, HB1.out⟩
    · have HE : Hid (szr 1048576 (szB S + gn) = r - gn) := by show _ = _; rw [szr_fits (by omega)]; omega
      have HE2 := hid (szr_fits h7)
      obtain ⟨x, hx⟩ : ∃ x : Int, r - gn = x := ⟨_, rfl⟩
      have h9 : ¬ x < 0 := by omega
      rw [hx] at HE HE2
      clear h4 hr hx
      go_enter Try.func44, Try.ntmps44
      go_wp2_with fail
      clear hW0
      refine (szBoxS_any lo hi ba bn bc S 1048576 _ HL.out HN.out (by omega) HF.out (HM.out.later B0.out)).mono ?_; rintro e w1 ⟨rfl, hb1⟩
      rw [HE1.out]
      have c0 := (A0.out.later hb1).cells
      have HB1 := hid (btr B0.out hb1)
      clear hb1
      go_wp2_with fail
      refine (szIntS_any ga gn gc r _ hgn h6).mono ?_; rintro e w2 ⟨rfl, h8⟩
      subst h8
      rw [HE2.out]
      clear c0 h5 h6 h7
      go_wp2
      go_ret
      exact ⟨by rw [HE.out]; rfl, HB1.out⟩
def mdg (n : Nat) : List UInt8 := Lib.decDigits n
theorem mdg_small (n : Nat) (h : n < 10) : mdg n = [UInt8.ofNat (48 + n)] := by unfold mdg; rw [Lib.decDigits, dif_pos h]
theorem mdg_big (n : Nat) (h : ¬ n < 10) : mdg n = mdg (n / 10) ++ [UInt8.ofNat (48 + n % 10)] := by unfold mdg; rw [Lib.decDigits, dif_neg h]
theorem mdg_len : ∀ (k n : Nat), n < 10 ^ (k + 1) → (mdg n).length ≤ k + 1
  | 0, n, h => by rw [mdg_small n (by simpa using h)]; simp
  | k + 1, n, h => by
    by_cases hn : n < 10
    · rw [mdg_small n hn]; simp
    · rw [mdg_big n hn]
      have := mdg_len k (n / 10) (by rw [Nat.pow_succ] at h; omega)
      simp; omega
def mdz (n : Nat) : List UInt8 := if n = 0 then [] else mdg n
theorem mdz_pos (n : Nat) (h : n ≠ 0) : mdz n = mdg n := by simp [mdz, h]
theorem mdz_step (m : Nat) (h : m ≠ 0) : mdz m = mdz (m / 10) ++ [UInt8.ofNat (48 + m % 10)] := by
  rw [mdz_pos m h]
  by_cases h1 : m < 10
  · rw [mdg_small m h1, show m / 10 = 0 by omega, show mdz 0 = [] from rfl, show m % 10 = m by omega]; rfl
  · rw [mdg_big m h1, mdz_pos _ (by omega)]
theorem mu8 (x : Nat) (h : x < 10) : ((UInt8.ofNat (48 + x)).toNat : Int) = 48 + (x : Int) := by rw [u8_nat _ (by omega)]; omega
theorem mrun_one (b : UInt8) (w : World) : (convert 85 9 (.slice (some ⟨w.heap.size, 0, none⟩) 1 1)).run Try.prog (w.alloc (.cells #[.int .u8 (b.toNat : Int)] 5)) = .ok (.string ⟨#[b]⟩) (w.alloc (.cells #[.int .u8 (b.toNat : Int)] 5)) :=
  run_string_own (P := Try.prog) _ 85 9 5 Try.underlying85 Try.underlying5 Try.underlying9 [b] (World.ownsRow_lit (base := 0) w #[bv b] 1 (Nat.zero_le _) (by decide) rfl)
theorem mba_cons (b : UInt8) (t : List UInt8) : (⟨#[b]⟩ ++ ⟨t.toArray⟩ : ByteArray) = ⟨(b :: t).toArray⟩ := by
  apply ByteArray.ext
  rw [ByteArray.data_append]
  simp
/-- The mark of number k, as a text. -/
def mtx6 (k : Nat) : ByteArray := ⟨(109 :: mdg k).toArray⟩
set_option maxHeartbeats 400000 in
theorem markText_any (k : Nat) (w : World) (hk : 0 < k) (hk2 : k ≤ 9000000) :
    Calls Try.prog 67 #[.int .i64 k] w fun e w' => e = .returned (.string (mtx6 k)) ∧ Below w.heap.size w w' := by
  have hl := mdg_len 7 k (by omega)
  have hk0 : k ≠ 0 := by omega
  go_enter Try.func67, Try.ntmps67
  go_wp2
  go_loopw [0, 3] (fun nv tv wr => ∃ (m : Nat) (t : List UInt8), nv = .int .i64 (m : Int) ∧ tv = .string ⟨t.toArray⟩ ∧ m ≤ k ∧ Hid (mdz m ++ t = mdg k) ∧ t.length ≤ 8 ∧ Below w.heap.size w wr) (fun nv _ _ => (intOf nv).toNat)
  case atStart => exact ⟨k, [], rfl, rfl, Nat.le_refl _, (by show _ = _; rw [mdz_pos k hk0]; simp), by simp, bre _⟩
  case round =>
    obtain ⟨m, t, rfl, rfl, hm, HT, htl, hb⟩ := hrel
    have HB := hid hb
    have hsz := hb.size
    have HSZ := hid hsz
    clear hb hk0 hsz
    by_cases hz : 0 < m
    · obtain ⟨d, hd⟩ : ∃ d : Nat, m % 10 = d := ⟨_, rfl⟩
      have hdi : (m : Int) % 10 = (d : Int) := by omega
      have hdb : d < 10 := by omega
      have HD := hid hd
      obtain ⟨b, hbb⟩ : ∃ b, b = UInt8.ofNat (48 + d) := ⟨_, rfl⟩
      have hbi : (48 : Int) + (d : Int) = (b.toNat : Int) := by rw [hbb, mu8 d hdb]
      have HBB := hid hbb
      have hone := mrun_one b wr
      have HT2 : Hid (mdz (m / 10) ++ (b :: t) = mdg k) := by show _ = _; rw [← HT.out, mdz_step m (by omega), HD.out, ← HBB.out]; simp
      have HTL : Hid ((b :: t).length ≤ 8) := by
        show _ ≤ _
        have h1 := congrArg List.length HT2.out
        simp only [List.length_append] at h1
        omega
      clear hd hbb
      go_wp2
      go_roundw
      case rel => exact ⟨m / 10, b :: t, by go_num, by rw [mba_cons], by omega, HT2, HTL.out, HB.out.alloc HSZ.out _⟩
      case measure => simp [intOf]; omega
    · have HZ : Hid (m = 0) := by show m = 0; omega
      go_wp2
      go_ret
      exact ⟨ret_str (by rw [mba_cons, mtx6, ← HT.out, HZ.out]; rfl), HB.out⟩
/-! Numbers marked. -/
def mki (k n : Nat) : List Int := (List.range n).map fun i => ((k + i : Nat) : Int)
theorem mki_len (k n : Nat) : (mki k n).length = n := by simp [mki]
theorem mki_at (k n i : Nat) (h : i < (mki k n).length) : (mki k n)[i] = ((k + i : Nat) : Int) := by simp [mki]
theorem mki_succ (k n : Nat) : mki k (n + 1) = mki k n ++ [((k + n : Nat) : Int)] := by simp [mki, List.range_succ]
set_option maxHeartbeats 800000 in
set_option maxRecDepth 100000 in
theorem markIS_any (B : Nat) (a : Option Addr) (n cap k : Nat) (G : List Int) (w : World) (hown : OwI w B (.slice a n cap) G) (hl : G.length = n) (hn : n ≤ 1048576) (hk : k ≤ 8000000) :
    Calls Try.prog 41 #[.slice a n cap, .int .i64 (k : Int)] w fun e w' => e = .returned (.int .i64 ((k + n : Nat) : Int)) ∧ OwI w' B (.slice a n cap) (mki k n) ∧ w.grownBy w' (Value.ownBlock (.slice a n cap)) := by
  have HO := hid hown
  have HL := hid hl
  clear hown hl
  go_enter Try.func41, Try.ntmps41
  go_wp2
  go_loopw [1, 5] (fun kv iv wr => ∃ i : Nat, i ≤ n ∧ kv = .int .i64 ((k + i : Nat) : Int) ∧ iv = .int .i64 (i : Int) ∧ OwI wr B (.slice a n cap) (mki k i ++ G.drop i) ∧ w.grownBy wr (Value.ownBlock (.slice a n cap))) (fun _ iv _ => n - (intOf iv).toNat)
  case atStart => exact ⟨0, Nat.zero_le _, by simp, rfl, by simpa [mki] using HO.out, wre _ _⟩
  case round =>
    obtain ⟨i, hi, rfl, rfl, hown, hg⟩ := hrel
    have HOW := hid hown
    have HG := hid hg
    clear hown hg
    by_cases hlt : i < n
    · have hil : i < G.length := by rw [HL.out]; exact hlt
      rcases HOW.out.2 with ⟨h1, h2⟩ | ⟨g, cap', cur, h1, hB, _⟩
      · have := HOW.out.1
        rw [List.length_append, mki_len, List.length_drop] at h2
        omega
      simp only [Value.slice.injEq] at h1
      obtain ⟨rfl, -, rfl⟩ := h1
      have hyl : i < (mki k i ++ G.drop i).length := by rw [List.length_append, mki_len, List.length_drop]; omega
      obtain ⟨k', o', e', hk', c1⟩ := (OwI.is HOW.out).2.at hyl
      simp only [Option.some.injEq, Addr.mk.injEq, and_true] at e'
      obtain ⟨rfl, rfl⟩ := e'
      simp only [Nat.zero_add] at c1
      obtain ⟨x, hx⟩ : ∃ x, (mki k i ++ G.drop i)[i] = x := ⟨_, rfl⟩
      rw [hx] at c1
      have hnn := (OwI.is HOW.out).1
      have hfz := World.ownsRow.frozenAt (n := (mki k i ++ G.drop i).length) (by have h := HOW.out; rw [hnn] at h; exact h) i
      have hst := OwI.stored HOW.out i ((k + i : Nat) : Int)
      have hnew : (mki k i ++ G.drop i).set i ((k + i : Nat) : Int) = mki k (i + 1) ++ G.drop (i + 1) := by
        rw [List.set_append_right _ _ (by rw [mki_len]; omega), mki_len, Nat.sub_self, List.drop_eq_getElem_cons hil, List.set_cons_zero, mki_succ, List.append_assoc]
        rfl
      rw [hnew] at hst
      have HST := hid hst
      obtain ⟨q, hq⟩ : ∃ q : Nat, k + i = q := ⟨_, rfl⟩
      have HQ := hid hq
      have hqb : q ≤ 9100000 := by omega
      rw [hq] at HST ⊢
      clear hq hst hnew hx hnn hyl
      go_wp2
      go_roundw
      case rel => exact ⟨i + 1, by omega, by rw [show ((k + (i + 1) : Nat) : Int) = (q : Int) + 1 by have := HQ.out; omega], by go_num, HST.out, wst HG.out _ _⟩
      case measure => simp [intOf]; omega
    · have HN : Hid (i = n) := by show _ = _; omega
      have HD : Hid (G.drop i = []) := List.drop_of_length_le (by rw [HL.out]; omega)
      go_wp2
      go_ret
      refine ⟨by rw [HN.out]; rfl, ?_, HG.out⟩
      have h := HOW.out
      rw [HD.out, List.append_nil, HN.out] at h
      exact h
set_option maxHeartbeats 800000 in
set_option maxRecDepth 100000 in
theorem heldIS_any (B : Nat) (a : Option Addr) (n cap k : Nat) (w : World) (hown : OwI w B (.slice a n cap) (mki k n)) (hn : n ≤ 1048576) (hk : k ≤ 8000000) :
    Calls Try.prog 43 #[.slice a n cap, .int .i64 (k : Int)] w fun e w' => e = .returned (.int .i64 ((k + n : Nat) : Int)) ∧ w' = w := by
  have HO := hid hown
  clear hown
  go_enter Try.func43, Try.ntmps43
  go_wp2
  go_loop [1, 5] (fun kv iv => ∃ i : Nat, i ≤ n ∧ kv = .int .i64 ((k + i : Nat) : Int) ∧ iv = .int .i64 (i : Int)) (fun _ iv => n - (intOf iv).toNat)
  case atStart => exact ⟨0, Nat.zero_le _, by simp, rfl⟩
  case round =>
    obtain ⟨i, hi, rfl, rfl⟩ := hrel
    by_cases hlt : i < n
    · have hil : i < (mki k n).length := by rw [mki_len]; exact hlt
      obtain ⟨k', o', rfl, hk', c⟩ := (OwI.is HO.out).2.at hil
      rw [mki_at] at c
      obtain ⟨q, hq⟩ : ∃ q : Nat, k + i = q := ⟨_, rfl⟩
      have HQ := hid hq
      have hqb : q ≤ 9100000 := by omega
      rw [hq] at c ⊢
      have e1 : ((q : Int) != (q : Int)) = false := by simp
      clear hq
      go_wp2
      go_round
      case rel => exact ⟨i + 1, by omega, by rw [show ((k + (i + 1) : Nat) : Int) = (q : Int) + 1 by have := HQ.out; omega], by go_num⟩
      case measure => simp [intOf]; omega
    · have HN : Hid (i = n) := by show _ = _; omega
      go_wp2
      go_ret
      exact ⟨by rw [HN.out]; rfl, rfl⟩
end Go.Proofs.Ytckenihadlmlaaa
namespace Go.Proofs.Ytckenihadlmlaaa
open Go.RowKit Go.ChangeMaps
/-- Blocks of P may have turned; new ones may be there. -/
structure Chg (P : Nat → Prop) (W W' : World) : Prop where
  os : W'.os = W.os
  tape : W'.tape = W.tape
  output : W'.output = W.output
  size : W.heap.size ≤ W'.heap.size
  block : ∀ k, k < W.heap.size → ¬ P k → W'.heap[k]? = W.heap[k]?
theorem Chg.refl (P : Nat → Prop) (W : World) : Chg P W W := ⟨rfl, rfl, rfl, Nat.le_refl _, fun _ _ _ => rfl⟩
theorem Chg.trans {P : Nat → Prop} {A B C : World} (h : Chg P A B) (k : Chg P B C) : Chg P A C :=
  ⟨k.os.trans h.os, k.tape.trans h.tape, k.output.trans h.output, Nat.le_trans h.size k.size, fun i hi' hr => (k.block i (Nat.lt_of_lt_of_le hi' h.size) hr).trans (h.block i hi' hr)⟩
theorem Chg.of_below {P : Nat → Prop} {A B : World} (h : Below A.heap.size A B) : Chg P A B := ⟨h.os, h.tape, h.output, h.size, fun k hk _ => h.block k hk⟩
theorem Chg.of_grown {P : Nat → Prop} {A B : World} {r : Option Nat} (h : A.grownBy B r) (hr : ∀ j, r = some j → P j) : Chg P A B :=
  ⟨h.os, h.tape, h.output, h.size, fun k hk hl => h.block k hk (fun e => hl (hr k e.symm))⟩
theorem Chg.mono {P Q : Nat → Prop} {A B : World} (h : Chg P A B) (hq : ∀ j, P j → Q j) : Chg Q A B := ⟨h.os, h.tape, h.output, h.size, fun k hk hl => h.block k hk (fun e => hl (hq k e))⟩
/-- A row in a block that stays. -/
theorem row_chg {P : Nat → Prop} {W W' : World} {B e size n : Nat} {v : Value} {xs : List Value} (h : W.ownsRow B e size v n xs) (hc : Chg P W W') (hp : ∀ j, v.ownBlock = some j → ¬ P j) : W'.ownsRow B e size v n xs := by
  refine ⟨h.1, h.2.imp id ?_⟩
  rintro ⟨g, cap, cur, h1, h2, h3, h4⟩
  have hv : v.ownBlock = some g := by rw [h1]; rfl
  exact ⟨g, cap, cur, h1, h2, (hc.block g (h.lt g hv).2 (hp g hv)).trans h3, h4⟩
/-- The mark of a mail from number k on. -/
def mz1 (k : Nat) (z : Z5) : Z5 := ((k : Int), ((k + 1 : Nat) : Int), z.2.2.1, mks (k + 2) z.2.2.2.1.length, mtx6 (k + 2 + z.2.2.2.1.length * 3))
def kz1 (k : Nat) (z : Z5) : Nat := k + 2 + z.2.2.2.1.length * 3 + 1
def mzs (k : Nat) : List Z5 → List Z5
  | [] => []
  | z :: Z => mz1 k z :: mzs (kz1 k z) Z
def kz (k : Nat) : List Z5 → Nat
  | [] => k
  | z :: Z => kz (kz1 k z) Z
theorem mzs_len (k : Nat) (Z : List Z5) : (mzs k Z).length = Z.length := by
  induction Z generalizing k with
  | nil => rfl
  | cons z Z ih => simp [mzs, ih]
theorem mzs_snoc (k : Nat) (Z : List Z5) (z : Z5) : mzs k (Z ++ [z]) = mzs k Z ++ [mz1 (kz k Z) z] := by
  induction Z generalizing k with
  | nil => rfl
  | cons y Z ih => simp [mzs, kz, ih]
theorem kz_snoc (k : Nat) (Z : List Z5) (z : Z5) : kz k (Z ++ [z]) = kz1 (kz k Z) z := by
  induction Z generalizing k with
  | nil => rfl
  | cons y Z ih => simp [kz, ih]
theorem kz_le (k : Nat) (Z : List Z5) : k ≤ kz k Z := by
  induction Z generalizing k with
  | nil => exact Nat.le_refl _
  | cons z Z ih =>
    have h := ih (kz1 k z)
    have e2 : kz1 k z = k + 2 + z.2.2.2.1.length * 3 + 1 := rfl
    show k ≤ kz (kz1 k z) Z
    omega
/-- How many marks mails take, by threes. -/
def fz : List M4 → Nat
  | [] => 0
  | m :: L => 1 + m.2.2.1.length + fz L
theorem kz_fz (k : Nat) (Z : List Z5) : kz k Z = k + 3 * fz (Z.map md) := by
  induction Z generalizing k with
  | nil => simp [kz, fz]
  | cons z Z ih =>
    have h := ih (kz1 k z)
    have e : fz ((z :: Z).map md) = 1 + z.2.2.2.1.length + fz (Z.map md) := rfl
    have e2 : kz1 k z = k + 2 + z.2.2.2.1.length * 3 + 1 := rfl
    rw [e]
    show kz (kz1 k z) Z = _
    omega
theorem kz_take (k : Nat) (Z : List Z5) (i : Nat) : kz k (Z.take i) ≤ kz k Z := by
  induction Z generalizing k i with
  | nil => simp [kz]
  | cons z Z ih =>
    cases i with
    | zero =>
      have h := kz_le (kz1 k z) Z
      have e2 : kz1 k z = k + 2 + z.2.2.2.1.length * 3 + 1 := rfl
      show k ≤ kz (kz1 k z) Z
      omega
    | succ i => simp only [List.take_succ_cons, kz]; exact ih _ _
/-- Three cells of a mail stored: the flags' stays. -/
theorem zc_set3 (Z : List Z5) (i : Nat) (z : Z5) (h : i < Z.length) (hf : z.2.2.1 = Z[i].2.2.1) :
    (((zc Z).set (i * 4) (.int .i64 z.1)).set (i * 4 + 1) (.int .i64 z.2.1)).set (i * 4 + 3) (.string z.2.2.2.2) = zc (Z.set i z) := by
  induction Z generalizing i with
  | nil => simp at h
  | cons y Z ih =>
    cases i with
    | zero =>
      simp only [List.getElem_cons_zero] at hf
      simp [zc, hf]
    | succ i =>
      have h' : i < Z.length := by simpa using h
      have := ih i h' (by simpa using hf)
      have e : (i + 1) * 4 = i * 4 + 1 + 1 + 1 + 1 := by omega
      rw [e]
      simpa [zc] using this
/-- A mail of an owned row marked: its numbers and its text in the row, its flags in their own. -/
theorem OwZ.marked {W W' : World} {B gr n cap : Nat} {P C : List Z5} {z z' : Z5} (h : OwZ W B (.slice (some ⟨gr, 0, none⟩) n cap) (P ++ z :: C)) (hrow : W'.ownsRow B 115 4 (.slice (some ⟨gr, 0, none⟩) n cap) (P ++ z' :: C).length (zc (P ++ z' :: C))) (hf : z'.2.2.1 = z.2.2.1) (ho : Ow W' B z'.2.2.1 z'.2.2.2.1)
    (hk : ∀ {x : Value} {l : List R3}, Ow W B x l → x.ownBlock ≠ some gr → Dj x z.2.2.1 → Ow W' B x l) : OwZ W' B (.slice (some ⟨gr, 0, none⟩) n cap) (P ++ z' :: C) := by
  have hap := List.pairwise_append.1 h.apart
  have hap2 := List.pairwise_cons.1 hap.2.1
  have hmem : ∀ y ∈ P ++ z' :: C, y = z' ∨ (y ∈ P ++ z :: C ∧ Dj y.2.2.1 z.2.2.1) := by
    intro y hy
    rcases List.mem_append.1 hy with hy | hy
    · exact .inr ⟨by simp [hy], hap.2.2 y hy z (by simp)⟩
    · rcases List.mem_cons.1 hy with hy | hy
      · exact .inl hy
      · exact .inr ⟨by simp [hy], (hap2.1 y hy).symm⟩
  refine ⟨hrow, fun y hy => ?_, fun y hy => ?_, ?_⟩
  · rcases hmem y hy with rfl | ⟨hy, hd⟩
    · exact ho
    · exact hk (h.each y hy) (far_of h hy) hd
  · rcases hmem y hy with rfl | ⟨hy, _⟩
    · rw [hf]; exact h.off z (by simp)
    · exact h.off y hy
  · rw [List.pairwise_append, List.pairwise_cons]
    refine ⟨hap.1, ⟨fun y hy => by rw [hf]; exact hap2.1 y hy, hap2.2⟩, fun x hx y hy => ?_⟩
    rcases List.mem_cons.1 hy with rfl | hy
    · rw [hf]; exact hap.2.2 x hx z (by simp)
    · exact hap.2.2 x hx y (by simp [hy])
theorem row_kept {W W' : World} {B e size n : Nat} {v : Value} {xs : List Value} {r : Option Nat} (h : W.ownsRow B e size v n xs) (hg : W.grownBy W' r) (hne : ∀ j, v.ownBlock = some j → r ≠ some j) : W'.ownsRow B e size v n xs :=
  World.ownsRow.kept h hg (by
    cases hv : v.ownBlock with
    | none => exact Or.inl rfl
    | some j => exact Or.inr (fun e => hne j hv e.symm))
/-- A mail's numbers stored, its flags marked, some blocks laid, its text stored. -/
theorem OwZ.three {W W1 W2 : World} {B g n c i : Nat} {P C : List Z5} {z z' : Z5} (h : OwZ W B (.slice (some ⟨g, 0, none⟩) n c) (P ++ z :: C)) (hp : P.length = i) (hf : z'.2.2.1 = z.2.2.1)
    (hg1 : ((W.setCell ⟨g, i * 4, none⟩ (.int .i64 z'.1)).setCell ⟨g, i * 4 + 1, none⟩ (.int .i64 z'.2.1)).grownBy W1 z.2.2.1.ownBlock) (ho : Ow W1 B z'.2.2.1 z'.2.2.2.1) (hb : Below W1.heap.size W1 W2) :
    (W2.cell? ⟨g, i * 4 + 3, none⟩ = some (.string z.2.2.2.2) ∧ W2.frozen? ⟨g, i * 4 + 3, none⟩ = false) ∧ OwZ (W2.setCell ⟨g, i * 4 + 3, none⟩ (.string z'.2.2.2.2)) B (.slice (some ⟨g, 0, none⟩) n c) (P ++ z' :: C) := by
  have hmem : z ∈ P ++ z :: C := List.mem_append.2 (.inr (List.mem_cons_self ..))
  have hoff := far_of h hmem
  have hil : i < (P ++ z :: C).length := by rw [List.length_append, hp, List.length_cons]; omega
  have hzi : (P ++ z :: C)[i] = z := by
    rw [List.getElem_append_right (by omega)]
    simp [hp]
  obtain rfl := h.ms.1
  have h1 := (World.ownsRow.stored h.row (i * 4) (.int .i64 z'.1)).1
  have h2 := (World.ownsRow.stored h1 (i * 4 + 1) (.int .i64 z'.2.1)).1
  have h3 := row_kept h2 hg1 (fun j hj e => hoff (by simp only [Value.ownBlock, Option.some.injEq] at hj; rw [hj]; exact e))
  have h4 := own_later h3 hb
  have h5 := (World.ownsRow.stored h4 (i * 4 + 3) (.string z'.2.2.2.2)).1
  rw [zc_set3 _ i z' hil (by rw [hzi]; exact hf)] at h5
  have hms : (P ++ z :: C).set i z' = P ++ z' :: C := by rw [← hp]; exact mid_set
  rw [hms] at h5
  have e3 := (zc_at (P ++ z :: C) i hil).2.2.2
  rw [hzi] at e3
  have hlen : (P ++ z' :: C).length = (P ++ z :: C).length := by simp
  refine ⟨⟨(h4.cellAt _ (by omega)).trans ?_, h4.frozenAt _⟩, OwZ.marked h (by rw [hlen]; exact h5) hf ?_ ?_⟩
  · rw [List.getElem?_set_ne (by omega), List.getElem?_set_ne (by omega)]; exact e3
  · exact World.ownsRow.kept (own_later ho hb) (wst (wre _ _) _ _) (Or.inr (by rw [hf]; exact hoff))
  · intro x l hx hxg hxd
    have k1 : Ow ((W.setCell ⟨g, i * 4, none⟩ (.int .i64 z'.1)).setCell ⟨g, i * 4 + 1, none⟩ (.int .i64 z'.2.1)) B x l := World.ownsRow.kept hx (wst (wst (wre _ _) _ _) _ _) (Or.inr hxg)
    exact World.ownsRow.kept (own_later (own_kept k1 hg1 (fun j hj => hxd j hj)) hb) (wst (wre _ _) _ _) (Or.inr hxg)
theorem mzs_at (k : Nat) (Z : List Z5) (i : Nat) (h : i < Z.length) (h' : i < (mzs k Z).length) : (mzs k Z)[i] = mz1 (kz k (Z.take i)) Z[i] := by
  induction Z generalizing k i with
  | nil => simp at h
  | cons z Z ih =>
    cases i with
    | zero => rfl
    | succ i => exact ih (kz1 k z) i (by simpa using h) (by simpa [mzs] using h')
end Go.Proofs.Ytckenihadlmlaaa
namespace Go.Proofs.Ytckenihadlmlaaa
open Go.RowKit Go.ChangeMaps
theorem mzs_own (k : Nat) (Z : List Z5) : ∀ z ∈ mzs k Z, ∃ y ∈ Z, z.2.2.1 = y.2.2.1 := by
  induction Z generalizing k with
  | nil => intro z hz; simp [mzs] at hz
  | cons y Z ih =>
    intro z hz
    simp only [mzs, List.mem_cons] at hz
    rcases hz with rfl | hz
    · exact ⟨y, by simp, rfl⟩
    · obtain ⟨x, hx, e⟩ := ih _ z hz
      exact ⟨x, by simp [hx], e⟩
theorem OwZ.chg {P : Nat → Prop} {W W' : World} {B : Nat} {v : Value} {Z : List Z5} (h : OwZ W B v Z) (hc : Chg P W W') (hv : ∀ j, v.ownBlock = some j → ¬ P j) (he : ∀ z ∈ Z, ∀ j, z.2.2.1.ownBlock = some j → ¬ P j) : OwZ W' B v Z :=
  h.kept hc.size (fun j hj => hc.block j (h.row.lt j hj).2 (hv j hj)) (fun z hz j hj => hc.block j ((h.each z hz).lt j hj).2 (he z hz j hj))
theorem Bx.chg {P : Nat → Prop} {W W' : World} {k ty : Nat} {g : Int} {nm : ByteArray} {t b nx : Int} {ms gs : Value} (h : Bx W k ty g nm t b nx ms gs) (hc : Chg P W W') (hk : ¬ P k) : Bx W' k ty g nm t b nx ms gs := (hc.block k h.lt hk).trans h
end Go.Proofs.Ytckenihadlmlaaa
namespace Go.Proofs.Ytckenihadlmlaaa
open Go.RowKit Go.ChangeMaps
end Go.Proofs.Ytckenihadlmlaaa
namespace Go.Proofs.Ytckenihadlmlaaa
open Go.RowKit Go.ChangeMaps
end Go.Proofs.Ytckenihadlmlaaa
namespace Go.Proofs.Ytckenihadlmlaaa
open Go.RowKit Go.ChangeMaps
end Go.Proofs.Ytckenihadlmlaaa
namespace Go.Proofs.Ytckenihadlmlaaa
open Go.RowKit Go.ChangeMaps
/-- The cells of an owned row of mails. -/
theorem OwZ.cell {W : World} {B g n c : Nat} {Z : List Z5} (h : OwZ W B (.slice (some ⟨g, 0, none⟩) n c) Z) (j : Nat) (hj : j < Z.length * 4) : W.cell? ⟨g, j, none⟩ = (zc Z)[j]? := by
  obtain rfl := h.ms.1
  exact h.row.cellAt j hj
end Go.Proofs.Ytckenihadlmlaaa
namespace Go.Proofs.Ytckenihadlmlaaa
open Go.RowKit Go.ChangeMaps
end Go.Proofs.Ytckenihadlmlaaa
namespace Go.Proofs.Ytckenihadlmlaaa
open Go.RowKit Go.ChangeMaps
theorem implStoreNew_any (y : Int) (w : World) :
    Calls Try.prog 36 #[.int .i64 y] w fun e w' => e = .returned (.agg #[.int .i64 y, .int .i64 0, .slice none 0 0, .slice none 0 0]) ∧ Below w.heap.size w w' := by
  have a0 := Sx.new w 25 0 0 (.slice none 0 0) (.slice none 0 0)
  have A0 := hid a0
  have c0 := a0.cells
  have f0 := a0.loose
  have hb : Below w.heap.size w (w.alloc (.cells #[.int .i64 0, .int .i64 0, .slice none 0 0, .slice none 0 0] 25)) := bpush (bre _) _
  have B0 := hid hb
  clear a0 hb
  go_enter Try.func36, Try.ntmps36
  go_wp2
  have d1 := (Sx.new w 25 y 0 (.slice none 0 0) (.slice none 0 0)).cells
  exact bodyPost_ret (v := .agg #[.int .i64 y, .int .i64 0, .slice none 0 0, .slice none 0 0]) (by simp [results, Try.results36, go_sem, d1]) rfl ⟨rfl, bpush (bre _) _⟩
end Go.Proofs.Ytckenihadlmlaaa
