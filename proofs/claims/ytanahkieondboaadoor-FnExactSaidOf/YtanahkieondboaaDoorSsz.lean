/- Sizes of lists of boxes and of stores. -/
import Derived.Test.YtanahkieondboaaDoorSto2
namespace Go.Proofs.YtanahkieondboaaDoor
open Go.RowKit Go.ChangeMaps

set_option maxHeartbeats 800000 in
set_option maxRecDepth 100000 in
theorem szBoxL_any (lf : Int) (hlf : 0 ≤ lf ∧ lf ≤ 1048576) (lo hi : Nat) (g : Int) (nm : ByteArray) (t b nx : Int) (ma : Option Addr) (mn mc : Nat) (ga : Option Addr) (gn gc : Nat) (L : List M4) (w : World) (hnm : (nm.size : Int) ≤ 9223372036854775807) (hl : L.length = mn) (hn : (mn : Int) ≤ 9223372036854775807) (hft : Fit L) (hm : Ms lo hi w ma L) (hgn : (gn : Int) ≤ 9223372036854775807) :
    Calls Tryd.prog 30 #[.agg #[.int .i64 g, .string nm, .int .i64 t, .int .i64 b, .int .i64 nx, .slice ma mn mc, .slice ga gn gc], .int .i64 lf] w fun e w' => e = .returned (.int .i64 (szr lf (nm.size + szL L + gn))) ∧ Below w.heap.size w w' := by
  obtain ⟨W0, hW0⟩ : ∃ W0, w.alloc (.cells #[.int .i64 g, .string nm, .int .i64 t, .int .i64 b, .int .i64 nx, .slice ma mn mc, .slice ga gn gc] 68) = W0 := ⟨_, rfl⟩
  have a0 : Bx W0 w.heap.size 68 g nm t b nx (.slice ma mn mc) (.slice ga gn gc) := by subst hW0; exact Bx.new w _ g nm t b nx _ _
  have b0 : Below w.heap.size w W0 := by subst hW0; exact bpush (bre _) _
  have c0 := a0.cells
  have A0 := hid a0
  have B0 := hid b0
  have HM := hid hm
  have HL := hid hl
  have HF := hid hft
  have HN := hid hn
  clear a0 b0 hm hl hft hn
  by_cases h1 : lf < nm.size
  · have HE := hid (szr_over (lf := lf) (n := nm.size + szL L + gn) (by omega))
    have h2 : lf - nm.size < 0 := by omega
    go_enter Tryd.func30, Tryd.ntmps30
    go_wp2
    go_ret
    exact ⟨by rw [HE.out]; rfl, B0.out⟩
  · obtain ⟨q, hq⟩ : ∃ q : Int, lf - nm.size = q := ⟨_, rfl⟩
    have h2 : ¬ q < 0 := by omega
    have h3 : 0 ≤ q ∧ q ≤ 1048576 := by omega
    have HQ := hid hq
    by_cases h4 : q < (szL L : Int)
    · have HE := hid (szr_over (lf := lf) (n := nm.size + szL L + gn) (by omega))
      have HE1 := hid (szr_over h4)
      clear h1
      go_enter Tryd.func30, Tryd.ntmps30
      go_wp2_with fail
      clear hW0
      refine (szMailS_any lo hi ma mn mc L q _ HL.out HN.out h3 HF.out (HM.out.later B0.out)).mono ?_; rintro e w1 ⟨rfl, hb1⟩
      rw [HE1.out]
      have HB1 := hid (btr B0.out hb1)
      clear hb1 c0 hq h2 h3 h4
      go_wp2
      go_ret
      exact ⟨by rw [HE.out]; rfl, HB1.out⟩
    · obtain ⟨r, hr⟩ : ∃ r : Int, q - (szL L : Int) = r := ⟨_, rfl⟩
      have HE1 : Hid (szr q (szL L) = r) := by show _ = _; rw [szr_fits h4, hr]
      have h5 : ¬ r < 0 := by omega
      have h6 : 0 ≤ r ∧ r ≤ 1048576 := by omega
      have HR := hid hr
      by_cases h7 : r < (gn : Int)
      · have HE := hid (szr_over (lf := lf) (n := nm.size + szL L + gn) (by omega))
        have HE2 := hid (szr_over h7)
        clear h1 h4 hr
        go_enter Tryd.func30, Tryd.ntmps30
        go_wp2_with fail
        clear hW0
        refine (szMailS_any lo hi ma mn mc L q _ HL.out HN.out h3 HF.out (HM.out.later B0.out)).mono ?_; rintro e w1 ⟨rfl, hb1⟩
        rw [HE1.out]
        have c0 := (A0.out.later hb1).cells
        have HB1 := hid (btr B0.out hb1)
        clear hb1 hq h2 h3
        go_wp2_with fail
        refine (szIntS_any ga gn gc r _ hgn h6).mono ?_; rintro e w2 ⟨rfl, h8⟩
        subst h8
        rw [HE2.out]
        clear c0 h5 h6 h7
        go_wp2
        go_ret
        exact ⟨by rw [HE.out]; rfl, HB1.out⟩
      · have HE : Hid (szr lf (nm.size + szL L + gn) = r - gn) := by show _ = _; rw [szr_fits (by omega)]; omega
        have HE2 := hid (szr_fits h7)
        obtain ⟨x, hx⟩ : ∃ x : Int, r - gn = x := ⟨_, rfl⟩
        have h9 : ¬ x < 0 := by omega
        rw [hx] at HE HE2
        clear h1 h4 hr hx
        go_enter Tryd.func30, Tryd.ntmps30
        go_wp2_with fail
        clear hW0
        refine (szMailS_any lo hi ma mn mc L q _ HL.out HN.out h3 HF.out (HM.out.later B0.out)).mono ?_; rintro e w1 ⟨rfl, hb1⟩
        rw [HE1.out]
        have c0 := (A0.out.later hb1).cells
        have HB1 := hid (btr B0.out hb1)
        clear hb1 hq h2 h3
        go_wp2_with fail
        refine (szIntS_any ga gn gc r _ hgn h6).mono ?_; rintro e w2 ⟨rfl, h8⟩
        subst h8
        rw [HE2.out]
        clear c0 h5 h6 h7
        go_wp2
        go_ret
        exact ⟨by rw [HE.out]; rfl, HB1.out⟩

/-- What a box takes; what boxes take; a store's boxes. -/
def szX (x : X7) : Nat := x.2.1.size + szL x.2.2.2.2.2.1 + x.2.2.2.2.2.2.length
def toX : List X7 → Nat
  | [] => 0
  | x :: S => szX x + toX S
def szB (S : List X7) : Nat := S.length + toX S
theorem toX_app (S T : List X7) : toX (S ++ T) = toX S + toX T := by
  induction S with
  | nil => simp [toX]
  | cons x S ih => simp only [List.cons_append, toX, ih]; omega
theorem toX_take (S : List X7) (i : Nat) (h : i < S.length) : toX (S.take (i + 1)) = toX (S.take i) + szX S[i] := by
  rw [List.take_succ_eq_append_getElem h, toX_app]; simp [toX]
theorem toX_le (S : List X7) (i : Nat) : toX (S.take i) ≤ toX S := by
  have h := toX_app (S.take i) (S.drop i)
  rw [List.take_append_drop] at h
  omega
/-- Boxes whose sizes are numbers of the language. -/
def FitB (S : List X7) : Prop := ∀ x ∈ S, (x.2.1.size : Int) ≤ 9223372036854775807 ∧ (x.2.2.2.2.2.1.length : Int) ≤ 9223372036854775807 ∧ Fit x.2.2.2.2.2.1 ∧ (x.2.2.2.2.2.2.length : Int) ≤ 9223372036854775807

set_option maxHeartbeats 1600000 in
set_option maxRecDepth 100000 in
theorem szBoxS_any (lo hi : Nat) (ao : Option Addr) (n cap : Nat) (S : List X7) (lf : Int) (w : World) (hl : S.length = n) (hn : (n : Int) ≤ 9223372036854775807) (hlf : 0 ≤ lf ∧ lf ≤ 1048576) (hft : FitB S) (hr : Bs lo hi w ao S) :
    Calls Tryd.prog 14 #[.slice ao n cap, .int .i64 lf] w fun e w' => e = .returned (.int .i64 (szr lf (szB S))) ∧ Below w.heap.size w w' := by
  by_cases h1 : lf < (n : Int)
  · have HE : Hid (szr lf (szB S) = -1) := by show _ = _; rw [szr, if_pos (by unfold szB; omega)]
    have h2 : lf - (n : Int) < 0 := by omega
    clear hft hr hl
    go_enter Tryd.func14, Tryd.ntmps14
    go_wp2
    go_ret
    exact ⟨by rw [HE.out]; rfl, bre _⟩
  · have h2 : ¬ lf - (n : Int) < 0 := by omega
    have HR := hid hr
    have HL := hid hl
    have HF := hid hft
    clear hr hl hft
    go_enter Tryd.func14, Tryd.ntmps14
    go_wp2
    go_loopw [1, 5] (fun lv iv wr => ∃ (i : Nat) (q : Int), i ≤ n ∧ lv = .int .i64 q ∧ iv = .int .i64 (i : Int) ∧ 0 ≤ q ∧ q ≤ 1048576 ∧ Hid (q = lf - n - (toX (S.take i) : Int)) ∧ Below w.heap.size w wr) (fun _ iv _ => n - (intOf iv).toNat)
    case atStart => exact ⟨0, lf - n, Nat.zero_le _, rfl, rfl, by omega, by omega, by show _ = _; simp [toX], bre _⟩
    case round =>
      obtain ⟨i, q, hi2, rfl, rfl, hq0, hq1, HQ, hb⟩ := hrel
      have HB := hid hb
      clear h1 h2
      by_cases hlt : i < n
      · have hil : i < S.length := by rw [HL.out]; exact hlt
        obtain ⟨k, o, ma, mc, ga, gc, rfl, hk, c, hms, _⟩ := (HR.out.later hb).at hil
        have hmem := HF.out S[i] (List.getElem_mem hil)
        have hstep := toX_take S i hil
        obtain ⟨p, hp⟩ : ∃ p, S[i] = p := ⟨_, rfl⟩
        rw [hp] at c hms hmem hstep
        obtain ⟨g, nm, t, b, nx, L, G⟩ := p
        dsimp only at c hms hmem hstep
        obtain ⟨m, hm⟩ : ∃ m, L.length = m := ⟨_, rfl⟩
        obtain ⟨z, hz⟩ : ∃ z, G.length = z := ⟨_, rfl⟩
        obtain ⟨sx, hsx⟩ : ∃ sx, nm.size + szL L + z = sx := ⟨_, rfl⟩
        have hsx2 : szX (g, nm, t, b, nx, L, G) = sx := by rw [← hsx, ← hz]; rfl
        rw [hsx2] at hstep
        rw [hm, hz] at c hmem
        have HST := hid hstep
        have HMM := hid hmem
        have HMS := hid hms
        have HM := hid hm
        have HSX := hid hsx
        unfold C7 at c
        clear hp hms hmem hm hz hstep hb hsx hsx2
        by_cases hov : q < (sx : Int)
        · have HE : Hid (szr lf (szB S) = -1) := by
            show _ = _
            have h1 := HQ.out
            have h2 := HST.out
            have h3 := toX_le S (i + 1)
            have h4 := HL.out
            rw [szr, if_pos (by unfold szB; omega)]
          go_wp2_with fail
          refine (szBoxL_any q ⟨hq0, hq1⟩ lo hi g nm t b nx ma m mc ga z gc L _ HMM.out.1 HM.out HMM.out.2.1 HMM.out.2.2.1 HMS.out HMM.out.2.2.2).mono ?_; rintro e w1 ⟨rfl, hb1⟩
          rw [HSX.out, szr_over hov]
          have HB1 := hid (btr HB.out hb1)
          clear hb1 c
          go_wp2
          go_ret
          exact ⟨by rw [HE.out]; rfl, HB1.out⟩
        · go_wp2_with fail
          refine (szBoxL_any q ⟨hq0, hq1⟩ lo hi g nm t b nx ma m mc ga z gc L _ HMM.out.1 HM.out HMM.out.2.1 HMM.out.2.2.1 HMS.out HMM.out.2.2.2).mono ?_; rintro e w1 ⟨rfl, hb1⟩
          rw [HSX.out, szr_fits (show ¬ q < (sx : Int) by omega)]
          have HB1 := hid (btr HB.out hb1)
          obtain ⟨q', hq'⟩ : ∃ q' : Int, q - sx = q' := ⟨_, rfl⟩
          rw [hq']
          have h3 : ¬ q' < 0 := by omega
          have h4 : 0 ≤ q' ∧ q' ≤ 1048576 := by omega
          have HQ2 : Hid (q' = lf - n - (toX (S.take (i + 1)) : Int)) := by show _ = _; have h1 := HQ.out; have h2 := HST.out; omega
          clear hb1 c hq' hov
          go_wp2
          go_roundw
          case rel => exact ⟨i + 1, q', by omega, rfl, by go_num, h4.1, h4.2, HQ2, HB1.out⟩
          case measure => simp [intOf]; omega
      · have HE : Hid (szr lf (szB S) = q) := by
          show _ = _
          have h1 := HQ.out
          have h4 := HL.out
          rw [List.take_of_length_le (by omega)] at h1
          rw [szr, if_neg (by unfold szB; omega)]
          unfold szB; omega
        go_wp2
        go_ret
        exact ⟨by rw [HE.out]; rfl, HB.out⟩

set_option maxHeartbeats 800000 in
set_option maxRecDepth 100000 in
theorem szStore_any (lo hi : Nat) (y tm : Int) (ba : Option Addr) (bn bc : Nat) (ga : Option Addr) (gn gc : Nat) (S : List X7) (w : World) (hl : S.length = bn) (hn : (bn : Int) ≤ 9223372036854775807) (hft : FitB S) (hm : Bs lo hi w ba S) (hgn : (gn : Int) ≤ 9223372036854775807) :
    Calls Tryd.prog 7 #[.agg #[.int .i64 y, .int .i64 tm, .slice ba bn bc, .slice ga gn gc], .int .i64 1048576] w fun e w' => e = .returned (.int .i64 (szr 1048576 (szB S + gn))) ∧ Below w.heap.size w w' := by
  obtain ⟨W0, hW0⟩ : ∃ W0, w.alloc (.cells #[.int .i64 y, .int .i64 tm, .slice ba bn bc, .slice ga gn gc] 27) = W0 := ⟨_, rfl⟩
  have a0 : Sx W0 w.heap.size 27 y tm (.slice ba bn bc) (.slice ga gn gc) := by subst hW0; exact Sx.new w _ y tm _ _
  have b0 : Below w.heap.size w W0 := by subst hW0; exact bpush (bre _) _
  have c0 := a0.cells
  have A0 := hid a0
  have B0 := hid b0
  have HM := hid hm
  have HL := hid hl
  have HF := hid hft
  have HN := hid hn
  clear a0 b0 hm hl hft hn
  by_cases h4 : (1048576 : Int) < (szB S : Int)
  · have HE := hid (szr_over (lf := 1048576) (n := szB S + gn) (by omega))
    have HE1 := hid (szr_over h4)
    clear h4
    go_enter Tryd.func7, Tryd.ntmps7
    go_wp2_with fail
    clear hW0
    refine (szBoxS_any lo hi ba bn bc S 1048576 _ HL.out HN.out (by omega) HF.out (HM.out.later B0.out)).mono ?_; rintro e w1 ⟨rfl, hb1⟩
    rw [HE1.out]
    have HB1 := hid (btr B0.out hb1)
    clear hb1 c0
    go_wp2
    go_ret
    exact ⟨by rw [HE.out]; rfl, HB1.out⟩
  · obtain ⟨r, hr⟩ : ∃ r : Int, 1048576 - (szB S : Int) = r := ⟨_, rfl⟩
    have HE1 : Hid (szr 1048576 (szB S) = r) := by show _ = _; rw [szr_fits h4, hr]
    have h5 : ¬ r < 0 := by omega
    have h6 : 0 ≤ r ∧ r ≤ 1048576 := by omega
    by_cases h7 : r < (gn : Int)
    · have HE := hid (szr_over (lf := 1048576) (n := szB S + gn) (by omega))
      have HE2 := hid (szr_over h7)
      clear h4 hr
      go_enter Tryd.func7, Tryd.ntmps7
      go_wp2_with fail
      clear hW0
      refine (szBoxS_any lo hi ba bn bc S 1048576 _ HL.out HN.out (by omega) HF.out (HM.out.later B0.out)).mono ?_; rintro e w1 ⟨rfl, hb1⟩
      rw [HE1.out]
      have c0 := (A0.out.later hb1).cells
      have HB1 := hid (btr B0.out hb1)
      clear hb1
      go_wp2_with fail
      refine (szIntS_any ga gn gc r _ hgn h6).mono ?_; rintro e w2 ⟨rfl, h8⟩
      subst h8
      rw [HE2.out]
      clear c0 h5 h6 h7
      go_wp2
      go_ret
      exact ⟨by rw [HE.out]; rfl, HB1.out⟩
    · have HE : Hid (szr 1048576 (szB S + gn) = r - gn) := by show _ = _; rw [szr_fits (by omega)]; omega
      have HE2 := hid (szr_fits h7)
      obtain ⟨x, hx⟩ : ∃ x : Int, r - gn = x := ⟨_, rfl⟩
      have h9 : ¬ x < 0 := by omega
      rw [hx] at HE HE2
      clear h4 hr hx
      go_enter Tryd.func7, Tryd.ntmps7
      go_wp2_with fail
      clear hW0
      refine (szBoxS_any lo hi ba bn bc S 1048576 _ HL.out HN.out (by omega) HF.out (HM.out.later B0.out)).mono ?_; rintro e w1 ⟨rfl, hb1⟩
      rw [HE1.out]
      have c0 := (A0.out.later hb1).cells
      have HB1 := hid (btr B0.out hb1)
      clear hb1
      go_wp2_with fail
      refine (szIntS_any ga gn gc r _ hgn h6).mono ?_; rintro e w2 ⟨rfl, h8⟩
      subst h8
      rw [HE2.out]
      clear c0 h5 h6 h7
      go_wp2
      go_ret
      exact ⟨by rw [HE.out]; rfl, HB1.out⟩
end Go.Proofs.YtanahkieondboaaDoor
