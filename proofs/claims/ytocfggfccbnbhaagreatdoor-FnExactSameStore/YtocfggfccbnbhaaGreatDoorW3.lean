/- Ssz, Seal, Tkk, Ssl, Ta4, Wt, Wu, Wv. -/
import Derived.Test.YtocfggfccbnbhaaGreatDoorW2
import Derived.Deep.RegionHeld3
import Derived.Test.YtocfggfccbnbhaaGreatDoorProg
import Derived.WalkKit
import Derived.WalkSpells
import Derived.WalkLawsBesides
import Derived.Deep.QuietTactic
import Derived.BigQuiet
import Derived.Lib.BufferWrite
import Derived.Laws.IdiomStrings
namespace Go.Proofs.YtocfggfccbnbhaaGreatDoor
open Go.RowKit Go.ChangeMaps
set_option maxHeartbeats 800000 in
set_option maxRecDepth 100000 in
theorem szBoxL_any (lf : Int) (hlf : 0 ≤ lf ∧ lf ≤ 1048576) (lo hi : Nat) (g : Int) (nm : ByteArray) (t b nx : Int) (ma : Option Addr) (mn mc : Nat) (ga : Option Addr) (gn gc : Nat) (L : List M4) (w : World) (hnm : (nm.size : Int) ≤ 9223372036854775807) (hl : L.length = mn) (hn : (mn : Int) ≤ 9223372036854775807) (hft : Fit L) (hm : Ms lo hi w ma L) (hgn : (gn : Int) ≤ 9223372036854775807) :
    Calls Tryz.prog 120 #[.agg #[.int .i64 g, .string nm, .int .i64 t, .int .i64 b, .int .i64 nx, .slice ma mn mc, .slice ga gn gc], .int .i64 lf] w fun e w' => e = .returned (.int .i64 (szr lf (nm.size + szL L + gn))) ∧ Below w.heap.size w w' := by
  obtain ⟨W0, hW0⟩ : ∃ W0, w.alloc (.cells #[.int .i64 g, .string nm, .int .i64 t, .int .i64 b, .int .i64 nx, .slice ma mn mc, .slice ga gn gc] 150) = W0 := ⟨_, rfl⟩
  have a0 : Bx W0 w.heap.size 150 g nm t b nx (.slice ma mn mc) (.slice ga gn gc) := by subst hW0; exact Bx.new w _ g nm t b nx _ _
  have b0 : Below w.heap.size w W0 := by subst hW0; exact bpush (bre _) _
  have c0 := a0.cells
  have A0 := hid a0
  have B0 := hid b0
  have HM := hid hm
  have HL := hid hl
  have HF := hid hft
  have HN := hid hn
  clear a0 b0 hm hl hft hn
  by_cases h1 : lf < nm.size
  · have HE := hid (szr_over (lf := lf) (n := nm.size + szL L + gn) (by omega))
    have h2 : lf - nm.size < 0 := by omega
    go_enter Tryz.func120, Tryz.ntmps120
    go_wp2
    go_ret
    exact ⟨by rw [HE.out]; rfl, B0.out⟩
  · obtain ⟨q, hq⟩ : ∃ q : Int, lf - nm.size = q := ⟨_, rfl⟩
    have h2 : ¬ q < 0 := by omega
    have h3 : 0 ≤ q ∧ q ≤ 1048576 := by omega
    have HQ := hid hq
    by_cases h4 : q < (szL L : Int)
    · have HE := hid (szr_over (lf := lf) (n := nm.size + szL L + gn) (by omega))
      have HE1 := hid (szr_over h4)
      clear h1
      go_enter Tryz.func120, Tryz.ntmps120
      go_wp2_with fail
      clear hW0
      refine (szMailS_any lo hi ma mn mc L q _ HL.out HN.out h3 HF.out (HM.out.later B0.out)).mono ?_; rintro e w1 ⟨rfl, hb1⟩
      rw [HE1.out]
      have HB1 := hid (btr B0.out hb1)
      clear hb1 c0 hq h2 h3 h4
      go_wp2
      go_ret
      exact ⟨by rw [HE.out]; rfl, HB1.out⟩
    · obtain ⟨r, hr⟩ : ∃ r : Int, q - (szL L : Int) = r := ⟨_, rfl⟩
      have HE1 : Hid (szr q (szL L) = r) := by show _ = _; rw [szr_fits h4, hr]
      have h5 : ¬ r < 0 := by omega
      have h6 : 0 ≤ r ∧ r ≤ 1048576 := by omega
      have HR := hid hr
      by_cases h7 : r < (gn : Int)
      · have HE := hid (szr_over (lf := lf) (n := nm.size + szL L + gn) (by omega))
        have HE2 := hid (szr_over h7)
        clear h1 h4 hr
        go_enter Tryz.func120, Tryz.ntmps120
        go_wp2_with fail
        clear hW0
        refine (szMailS_any lo hi ma mn mc L q _ HL.out HN.out h3 HF.out (HM.out.later B0.out)).mono ?_; rintro e w1 ⟨rfl, hb1⟩
        rw [HE1.out]
        have c0 := (A0.out.later hb1).cells
        have HB1 := hid (btr B0.out hb1)
        clear hb1 hq h2 h3
        go_wp2_with fail
        refine (szIntS_any ga gn gc r _ hgn h6).mono ?_; rintro e w2 ⟨rfl, h8⟩
        subst h8
        rw [HE2.out]
        clear c0 h5 h6 h7
        go_wp2
        go_ret
        exact ⟨by rw [HE.out]; rfl, HB1.out⟩
      · have HE : Hid (szr lf (nm.size + szL L + gn) = r - gn) := by show _ = _; rw [szr_fits (by omega)]; omega
        have HE2 := hid (szr_fits h7)
        obtain ⟨x, hx⟩ : ∃ x : Int, r - gn = x := ⟨_, rfl⟩
        have h9 : ¬ x < 0 := by omega
        rw [hx] at HE HE2
        clear h1 h4 hr hx
        go_enter Tryz.func120, Tryz.ntmps120
        go_wp2_with fail
        clear hW0
        refine (szMailS_any lo hi ma mn mc L q _ HL.out HN.out h3 HF.out (HM.out.later B0.out)).mono ?_; rintro e w1 ⟨rfl, hb1⟩
        rw [HE1.out]
        have c0 := (A0.out.later hb1).cells
        have HB1 := hid (btr B0.out hb1)
        clear hb1 hq h2 h3
        go_wp2_with fail
        refine (szIntS_any ga gn gc r _ hgn h6).mono ?_; rintro e w2 ⟨rfl, h8⟩
        subst h8
        rw [HE2.out]
        clear c0 h5 h6 h7
        go_wp2
        go_ret
        exact ⟨by rw [HE.out]; rfl, HB1.out⟩
/-- What a box takes; what boxes take; a store's boxes. -/
def szX (x : X7) : Nat := x.2.1.size + szL x.2.2.2.2.2.1 + x.2.2.2.2.2.2.length
def toX : List X7 → Nat
  | [] => 0
  | x :: S => szX x + toX S
def szB (S : List X7) : Nat := S.length + toX S
theorem toX_app (S T : List X7) : toX (S ++ T) = toX S + toX T := by
  induction S with
  | nil => simp [toX]
  | cons x S ih => simp only [List.cons_append, toX, ih]; omega
theorem toX_take (S : List X7) (i : Nat) (h : i < S.length) : toX (S.take (i + 1)) = toX (S.take i) + szX S[i] := by
  rw [List.take_succ_eq_append_getElem h, toX_app]; simp [toX]
theorem toX_le (S : List X7) (i : Nat) : toX (S.take i) ≤ toX S := by
  have h := toX_app (S.take i) (S.drop i)
  rw [List.take_append_drop] at h
  omega
/-- Boxes whose sizes are numbers of the language. -/
def FitB (S : List X7) : Prop := ∀ x ∈ S, (x.2.1.size : Int) ≤ 9223372036854775807 ∧ (x.2.2.2.2.2.1.length : Int) ≤ 9223372036854775807 ∧ Fit x.2.2.2.2.2.1 ∧ (x.2.2.2.2.2.2.length : Int) ≤ 9223372036854775807
set_option maxHeartbeats 1600000 in
set_option maxRecDepth 100000 in
theorem szBoxS_any (lo hi : Nat) (ao : Option Addr) (n cap : Nat) (S : List X7) (lf : Int) (w : World) (hl : S.length = n) (hn : (n : Int) ≤ 9223372036854775807) (hlf : 0 ≤ lf ∧ lf ≤ 1048576) (hft : FitB S) (hr : Bs lo hi w ao S) :
    Calls Tryz.prog 73 #[.slice ao n cap, .int .i64 lf] w fun e w' => e = .returned (.int .i64 (szr lf (szB S))) ∧ Below w.heap.size w w' := by
  by_cases h1 : lf < (n : Int)
  · have HE : Hid (szr lf (szB S) = -1) := by show _ = _; rw [szr, if_pos (by unfold szB; omega)]
    have h2 : lf - (n : Int) < 0 := by omega
    clear hft hr hl
    go_enter Tryz.func73, Tryz.ntmps73
    go_wp2
    go_ret
    exact ⟨by rw [HE.out]; rfl, bre _⟩
  · have h2 : ¬ lf - (n : Int) < 0 := by omega
    have HR := hid hr
    have HL := hid hl
    have HF := hid hft
    clear hr hl hft
    go_enter Tryz.func73, Tryz.ntmps73
    go_wp2
    go_loopw [1, 5] (fun lv iv wr => ∃ (i : Nat) (q : Int), i ≤ n ∧ lv = .int .i64 q ∧ iv = .int .i64 (i : Int) ∧ 0 ≤ q ∧ q ≤ 1048576 ∧ Hid (q = lf - n - (toX (S.take i) : Int)) ∧ Below w.heap.size w wr) (fun _ iv _ => n - (intOf iv).toNat)
    case atStart => exact ⟨0, lf - n, Nat.zero_le _, rfl, rfl, by omega, by omega, by show _ = _; simp [toX], bre _⟩
    case round =>
      obtain ⟨i, q, hi2, rfl, rfl, hq0, hq1, HQ, hb⟩ := hrel
      have HB := hid hb
      clear h1 h2
      by_cases hlt : i < n
      · have hil : i < S.length := by rw [HL.out]; exact hlt
        obtain ⟨k, o, ma, mc, ga, gc, rfl, hk, c, hms, _⟩ := (HR.out.later hb).at hil
        have hmem := HF.out S[i] (List.getElem_mem hil)
        have hstep := toX_take S i hil
        obtain ⟨p, hp⟩ : ∃ p, S[i] = p := ⟨_, rfl⟩
        rw [hp] at c hms hmem hstep
        obtain ⟨g, nm, t, b, nx, L, G⟩ := p
        dsimp only at c hms hmem hstep
        obtain ⟨m, hm⟩ : ∃ m, L.length = m := ⟨_, rfl⟩
        obtain ⟨z, hz⟩ : ∃ z, G.length = z := ⟨_, rfl⟩
        obtain ⟨sx, hsx⟩ : ∃ sx, nm.size + szL L + z = sx := ⟨_, rfl⟩
        have hsx2 : szX (g, nm, t, b, nx, L, G) = sx := by rw [← hsx, ← hz]; rfl
        rw [hsx2] at hstep
        rw [hm, hz] at c hmem
        have HST := hid hstep
        have HMM := hid hmem
        have HMS := hid hms
        have HM := hid hm
        have HSX := hid hsx
        unfold C7 at c
        clear hp hms hmem hm hz hstep hb hsx hsx2
        by_cases hov : q < (sx : Int)
        · have HE : Hid (szr lf (szB S) = -1) := by
            show _ = _
            have h1 := HQ.out
            have h2 := HST.out
            have h3 := toX_le S (i + 1)
            have h4 := HL.out
            rw [szr, if_pos (by unfold szB; omega)]
          go_wp2_with fail
          refine (szBoxL_any q ⟨hq0, hq1⟩ lo hi g nm t b nx ma m mc ga z gc L _ HMM.out.1 HM.out HMM.out.2.1 HMM.out.2.2.1 HMS.out HMM.out.2.2.2).mono ?_; rintro e w1 ⟨rfl, hb1⟩
          rw [HSX.out, szr_over hov]
          have HB1 := hid (btr HB.out hb1)
          clear hb1 c
          go_wp2
          go_ret
          exact ⟨by rw [HE.out]; rfl, HB1.out⟩
        · go_wp2_with fail
          refine (szBoxL_any q ⟨hq0, hq1⟩ lo hi g nm t b nx ma m mc ga z gc L _ HMM.out.1 HM.out HMM.out.2.1 HMM.out.2.2.1 HMS.out HMM.out.2.2.2).mono ?_; rintro e w1 ⟨rfl, hb1⟩
          rw [HSX.out, szr_fits (show ¬ q < (sx : Int) by omega)]
          have HB1 := hid (btr HB.out hb1)
          obtain ⟨q', hq'⟩ : ∃ q' : Int, q - sx = q' := ⟨_, rfl⟩
          rw [hq']
          have h3 : ¬ q' < 0 := by omega
          have h4 : 0 ≤ q' ∧ q' ≤ 1048576 := by omega
          have HQ2 : Hid (q' = lf - n - (toX (S.take (i + 1)) : Int)) := by show _ = _; have h1 := HQ.out; have h2 := HST.out; omega
          clear hb1 c hq' hov
          go_wp2
          go_roundw
          case rel => exact ⟨i + 1, q', by omega, rfl, by go_num, h4.1, h4.2, HQ2, HB1.out⟩
          case measure => simp [intOf]; omega
      · have HE : Hid (szr lf (szB S) = q) := by
          show _ = _
          have h1 := HQ.out
          have h4 := HL.out
          rw [List.take_of_length_le (by omega)] at h1
          rw [szr, if_neg (by unfold szB; omega)]
          unfold szB; omega
        go_wp2
        go_ret
        exact ⟨by rw [HE.out]; rfl, HB.out⟩
set_option maxHeartbeats 800000 in
set_option maxRecDepth 100000 in
theorem szStore_any (lo hi : Nat) (y tm : Int) (ba : Option Addr) (bn bc : Nat) (ga : Option Addr) (gn gc : Nat) (S : List X7) (w : World) (hl : S.length = bn) (hn : (bn : Int) ≤ 9223372036854775807) (hft : FitB S) (hm : Bs lo hi w ba S) (hgn : (gn : Int) ≤ 9223372036854775807) :
    Calls Tryz.prog 25 #[.agg #[.int .i64 y, .int .i64 tm, .slice ba bn bc, .slice ga gn gc], .int .i64 1048576] w fun e w' => e = .returned (.int .i64 (szr 1048576 (szB S + gn))) ∧ Below w.heap.size w w' := by
  obtain ⟨W0, hW0⟩ : ∃ W0, w.alloc (.cells #[.int .i64 y, .int .i64 tm, .slice ba bn bc, .slice ga gn gc] 53) = W0 := ⟨_, rfl⟩
  have a0 : Sx W0 w.heap.size 53 y tm (.slice ba bn bc) (.slice ga gn gc) := by subst hW0; exact Sx.new w _ y tm _ _
  have b0 : Below w.heap.size w W0 := by subst hW0; exact bpush (bre _) _
  have c0 := a0.cells
  have A0 := hid a0
  have B0 := hid b0
  have HM := hid hm
  have HL := hid hl
  have HF := hid hft
  have HN := hid hn
  clear a0 b0 hm hl hft hn
  by_cases h4 : (1048576 : Int) < (szB S : Int)
  · have HE := hid (szr_over (lf := 1048576) (n := szB S + gn) (by omega))
    have HE1 := hid (szr_over h4)
    clear h4
    go_enter Tryz.func25, Tryz.ntmps25
    go_wp2_with fail
    clear hW0
    refine (szBoxS_any lo hi ba bn bc S 1048576 _ HL.out HN.out (by omega) HF.out (HM.out.later B0.out)).mono ?_; rintro e w1 ⟨rfl, hb1⟩
    rw [HE1.out]
    have HB1 := hid (btr B0.out hb1)
    clear hb1 c0
    go_wp2
    go_ret
    exact ⟨by rw [HE.out]; rfl, HB1.out⟩
  · obtain ⟨r, hr⟩ : ∃ r : Int, 1048576 - (szB S : Int) = r := ⟨_, rfl⟩
    have HE1 : Hid (szr 1048576 (szB S) = r) := by show _ = _; rw [szr_fits h4, hr]
    have h5 : ¬ r < 0 := by omega
    have h6 : 0 ≤ r ∧ r ≤ 1048576 := by omega
    by_cases h7 : r < (gn : Int)
    · have HE := hid (szr_over (lf := 1048576) (n := szB S + gn) (by omega))
      have HE2 := hid (szr_over h7)
      clear h4 hr
      go_enter Tryz.func25, Tryz.ntmps25
      go_wp2_with fail
      clear hW0
      refine (szBoxS_any lo hi ba bn bc S 1048576 _ HL.out HN.out (by omega) HF.out (HM.out.later B0.out)).mono ?_; rintro e w1 ⟨rfl, hb1⟩
      rw [HE1.out]
      have c0 := (A0.out.later hb1).cells
      have HB1 := hid (btr B0.out hb1)
      clear hb1
      go_wp2_with fail
      refine (szIntS_any ga gn gc r _ hgn h6).mono ?_; rintro e w2 ⟨rfl, h8⟩
      subst h8
      rw [HE2.out]
      clear c0 h5 h6 h7
      go_wp2
      go_ret
      exact ⟨by rw [HE.out]; rfl, HB1.out⟩
    · have HE : Hid (szr 1048576 (szB S + gn) = r - gn) := by show _ = _; rw [szr_fits (by omega)]; omega
      have HE2 := hid (szr_fits h7)
      obtain ⟨x, hx⟩ : ∃ x : Int, r - gn = x := ⟨_, rfl⟩
      have h9 : ¬ x < 0 := by omega
      rw [hx] at HE HE2
      clear h4 hr hx
      go_enter Tryz.func25, Tryz.ntmps25
      go_wp2_with fail
      clear hW0
      refine (szBoxS_any lo hi ba bn bc S 1048576 _ HL.out HN.out (by omega) HF.out (HM.out.later B0.out)).mono ?_; rintro e w1 ⟨rfl, hb1⟩
      rw [HE1.out]
      have c0 := (A0.out.later hb1).cells
      have HB1 := hid (btr B0.out hb1)
      clear hb1
      go_wp2_with fail
      refine (szIntS_any ga gn gc r _ hgn h6).mono ?_; rintro e w2 ⟨rfl, h8⟩
      subst h8
      rw [HE2.out]
      clear c0 h5 h6 h7
      go_wp2
      go_ret
      exact ⟨by rw [HE.out]; rfl, HB1.out⟩
end Go.Proofs.YtocfggfccbnbhaaGreatDoor

namespace Go.Proofs.YtocfggfccbnbhaaGreatDoor
open Go.RowKit
theorem implSealed_yes (s : ByteArray) (w : World) (hs : s.size ≤ 20000) (hn : Nib w) :
    Calls Tryz.prog 38 #[.string s] w fun e w' => e = .returned (.tuple #[.string (s ++ tail4 s), .bool true]) ∧ Below w.heap.size w w' := by
  have HN := hide hn
  clear hn
  have hz := tail4_size s
  go_enter Tryz.func38, Tryz.ntmps38
  go_wp2_with fail
  refine (implOf_any s _ (by omega) (unhide HN)).mono ?_; rintro e w1 ⟨rfl, rfl⟩
  go_wp2_with fail
  refine (implBytes_any (sof s) _ (sof_lt s)).mono ?_; rintro e w1 ⟨he, hb1⟩
  obtain rfl : e = .returned (.string (tail4 s)) := he
  go_wp2
  go_ret2
  exact ⟨rfl, hb1⟩
end Go.Proofs.YtocfggfccbnbhaaGreatDoor

namespace Go.Proofs.YtocfggfccbnbhaaGreatDoor
open Go.RowKit Go.ChangeMaps
section
variable {P : Program} {ops : Array Oper} {Q : Exit → Act → World → Prop} {md : Region.Mode} {S : World → Prop} {d : Option Tmp} {o : Op} {t : TypeId} {ps : String} {af : Array Edge} {gd : Option (Nat × Bool)} {v : Value} {fuel : Nat} {listed : Array Bool} {a a2 : Act} {w : World}
theorem rc {i : Nat} {rs : List Nat}
    (h : ∀ K' : Act → World → Prop, Shut (∀ a w, S w → (S w → wpAnyH P md ops Q S fuel (listed.setIfInBounds i true) a w) → K' a w) → if Region.wanted ⟨d, o, t, ps, af, gd⟩ (yielded ops a.tmps) = true then Oper.wp P ⟨d, o, t, ps, af, gd⟩ a w K' Q else K' (a.put d undef) w)
    (hs : AllReadyH P md ops Q S fuel listed a w rs) (hi : ops[i]? = some ⟨d, o, t, ps, af, gd⟩ := by (first | (simp only [List.getElem?_toArray, List.getElem?_cons_succ, List.getElem?_cons_zero]; rfl) | rfl)) : AllReadyH P md ops Q S fuel listed a w (i :: rs) := AllReadyH.cons hi h hs
theorem rl {i : Nat}
    (h : ∀ K' : Act → World → Prop, Shut (∀ a w, S w → (S w → wpAnyH P md ops Q S fuel (listed.setIfInBounds i true) a w) → K' a w) → if Region.wanted ⟨d, o, t, ps, af, gd⟩ (yielded ops a.tmps) = true then Oper.wp P ⟨d, o, t, ps, af, gd⟩ a w K' Q else K' (a.put d undef) w)
    (hi : ops[i]? = some ⟨d, o, t, ps, af, gd⟩ := by (first | (simp only [List.getElem?_toArray, List.getElem?_cons_succ, List.getElem?_cons_zero]; rfl) | rfl)) : AllReadyH P md ops Q S fuel listed a w [i] := AllReadyH.cons hi h AllReadyH.nil
end
end Go.Proofs.YtocfggfccbnbhaaGreatDoor

namespace Go.Proofs.YtocfggfccbnbhaaGreatDoor
open Go.RowKit Go.ChangeMaps
set_option maxHeartbeats 800000 in
set_option maxRecDepth 100000 in
theorem szStoreL_any (lf : Int) (hlf : 0 ≤ lf ∧ lf ≤ 1048576) (lo hi : Nat) (y tm : Int) (ba : Option Addr) (bn bc : Nat) (ga : Option Addr) (gn gc : Nat) (S : List X7) (w : World) (hl : S.length = bn) (hn : (bn : Int) ≤ 9223372036854775807) (hft : FitB S) (hm : Bs lo hi w ba S) (hgn : (gn : Int) ≤ 9223372036854775807) :
    Calls Tryz.prog 25 #[.agg #[.int .i64 y, .int .i64 tm, .slice ba bn bc, .slice ga gn gc], .int .i64 lf] w fun e w' => e = .returned (.int .i64 (szr lf (szB S + gn))) ∧ Below w.heap.size w w' := by
  obtain ⟨W0, hW0⟩ : ∃ W0, w.alloc (.cells #[.int .i64 y, .int .i64 tm, .slice ba bn bc, .slice ga gn gc] 53) = W0 := ⟨_, rfl⟩
  have a0 : Sx W0 w.heap.size 53 y tm (.slice ba bn bc) (.slice ga gn gc) := by subst hW0; exact Sx.new w _ y tm _ _
  have b0 : Below w.heap.size w W0 := by subst hW0; exact bpush (bre _) _
  have c0 := a0.cells
  have A0 := hid a0
  have B0 := hid b0
  have HM := hid hm
  have HL := hid hl
  have HF := hid hft
  have HN := hid hn
  clear a0 b0 hm hl hft hn
  by_cases h4 : lf < (szB S : Int)
  · have HE := hid (szr_over (lf := lf) (n := szB S + gn) (by omega))
    have HE1 := hid (szr_over h4)
    clear h4
    go_enter Tryz.func25, Tryz.ntmps25
    go_wp2_with fail
    clear hW0
    refine (szBoxS_any lo hi ba bn bc S lf _ HL.out HN.out hlf HF.out (HM.out.later B0.out)).mono ?_; rintro e w1 ⟨rfl, hb1⟩
    rw [HE1.out]
    have HB1 := hid (btr B0.out hb1)
    clear hb1 c0
    go_wp2
    go_ret
    exact ⟨by rw [HE.out]; rfl, HB1.out⟩
  · obtain ⟨r, hr⟩ : ∃ r : Int, lf - (szB S : Int) = r := ⟨_, rfl⟩
    have HE1 : Hid (szr lf (szB S) = r) := by show _ = _; rw [szr_fits h4, hr]
    have h5 : ¬ r < 0 := by omega
    have h6 : 0 ≤ r ∧ r ≤ 1048576 := by omega
    by_cases h7 : r < (gn : Int)
    · have HE := hid (szr_over (lf := lf) (n := szB S + gn) (by omega))
      have HE2 := hid (szr_over h7)
      clear h4 hr
      go_enter Tryz.func25, Tryz.ntmps25
      go_wp2_with fail
      clear hW0
      refine (szBoxS_any lo hi ba bn bc S lf _ HL.out HN.out hlf HF.out (HM.out.later B0.out)).mono ?_; rintro e w1 ⟨rfl, hb1⟩
      rw [HE1.out]
      have c0 := (A0.out.later hb1).cells
      have HB1 := hid (btr B0.out hb1)
      clear hb1
      go_wp2_with fail
      refine (szIntS_any ga gn gc r _ hgn h6).mono ?_; rintro e w2 ⟨rfl, h8⟩
      subst h8
      rw [HE2.out]
      clear c0 h5 h6 h7
      go_wp2
      go_ret
      exact ⟨by rw [HE.out]; rfl, HB1.out⟩
    · have HE : Hid (szr lf (szB S + gn) = r - gn) := by show _ = _; rw [szr_fits (by omega)]; omega
      have HE2 := hid (szr_fits h7)
      obtain ⟨x, hx⟩ : ∃ x : Int, r - gn = x := ⟨_, rfl⟩
      have h9 : ¬ x < 0 := by omega
      rw [hx] at HE HE2
      clear h4 hr hx
      go_enter Tryz.func25, Tryz.ntmps25
      go_wp2_with fail
      clear hW0
      refine (szBoxS_any lo hi ba bn bc S lf _ HL.out HN.out hlf HF.out (HM.out.later B0.out)).mono ?_; rintro e w1 ⟨rfl, hb1⟩
      rw [HE1.out]
      have c0 := (A0.out.later hb1).cells
      have HB1 := hid (btr B0.out hb1)
      clear hb1
      go_wp2_with fail
      refine (szIntS_any ga gn gc r _ hgn h6).mono ?_; rintro e w2 ⟨rfl, h8⟩
      subst h8
      rw [HE2.out]
      clear c0 h5 h6 h7
      go_wp2
      go_ret
      exact ⟨by rw [HE.out]; rfl, HB1.out⟩
end Go.Proofs.YtocfggfccbnbhaaGreatDoor

namespace Go.Proofs.YtocfggfccbnbhaaGreatDoor
open Go.RowKit Go.ChangeMaps
/-- What is returned tells whether p. -/
def Rt (p : Prop) (e : Ending) : Prop := ∃ r : Bool, e = .returned (.bool r) ∧ (r = true ↔ p)
theorem Rt.yes {p : Prop} (h : p) : Rt p (.returned (.bool true)) := ⟨true, rfl, ⟨fun _ => h, fun _ => rfl⟩⟩
theorem Rt.no {p : Prop} (h : ¬ p) : Rt p (.returned (.bool false)) := ⟨false, rfl, ⟨fun x => (by cases x), fun x => absurd x h⟩⟩
set_option maxHeartbeats 3200000 in
set_option maxRecDepth 100000 in
theorem specSameStore_any (l1 h1 l2 h2 l3 h3 l4 h4 : Nat) (y tm : Int) (ba : Option Addr) (bn bc : Nat) (ga : Option Addr) (gn gc : Nat) (S : List X7) (G : List Int) (y' tm' : Int) (ba' : Option Addr) (bn' bc' : Nat) (ga' : Option Addr) (gn' gc' : Nat) (S' : List X7) (G' : List Int) (w : World)
    (hl : S.length = bn) (hn : bn ≤ 1048576) (hsb : Sb S) (hm : Bs l1 h1 w ba S) (hgl : G.length = gn) (hgn : gn ≤ 1048576) (hs : Is l2 h2 w ga G) (hl' : S'.length = bn') (hn' : bn' ≤ 1048576) (hsb' : Sb S') (hm' : Bs l3 h3 w ba' S') (hgl' : G'.length = gn') (hgn' : gn' ≤ 1048576) (hs' : Is l4 h4 w ga' G') :
    Calls Tryz.prog 24 #[.agg #[.int .i64 y, .int .i64 tm, .slice ba bn bc, .slice ga gn gc], .agg #[.int .i64 y', .int .i64 tm', .slice ba' bn' bc', .slice ga' gn' gc']] w fun e w' => Rt (stR y tm S G = stR y' tm' S' G') e ∧ Below w.heap.size w w' := by
  obtain ⟨x, hx, -⟩ := stR_l y tm S G
  obtain ⟨x', hx', -⟩ := stR_l y' tm' S' G'
  obtain ⟨q, hq⟩ : ∃ q, sOk y tm S G = q := ⟨_, rfl⟩
  obtain ⟨q', hq'⟩ : ∃ q, sOk y' tm' S' G' = q := ⟨_, rfl⟩
  have C1 := hid (fun W (b : Below w.heap.size w W) => specStoreText_any l1 h1 l2 h2 y tm ba bn bc ga gn gc S G W hl hn hsb (hm.later b) hgl hgn (hs.later b))
  have C2 := hid (fun W (b : Below w.heap.size w W) => specStoreText_any l3 h3 l4 h4 y' tm' ba' bn' bc' ga' gn' gc' S' G' W hl' hn' hsb' (hm'.later b) hgl' hgn' (hs'.later b))
  rw [hx, hq] at C1
  rw [hx', hq'] at C2
  have HE : Hid ((stR y tm S G = stR y' tm' S' G') ↔ (q = q' ∧ x = x')) := hid (by
    rw [hx, hx', hq, hq']
    constructor
    · intro h
      injection h with h
      have h1 := congrArg (fun a => a[0]?) h
      have h2 := congrArg (fun a => a[1]?) h
      simp at h1 h2
      exact ⟨h2, h1⟩
    · rintro ⟨rfl, rfl⟩
      rfl)
  obtain ⟨W0, hW0⟩ : ∃ W0, ((w.alloc (.cells #[.int .i64 y, .int .i64 tm, .slice ba bn bc, .slice ga gn gc] 27)).alloc (.cells #[.int .i64 y', .int .i64 tm', .slice ba' bn' bc', .slice ga' gn' gc'] 27)) = W0 := ⟨_, rfl⟩
  obtain ⟨a0, a1, b0, _⟩ := two_stores w _ _ _ _ _ _ _ _ _ _ W0 hW0
  have A1 := hid a1
  have B0 := hid b0
  have c0 := a0.cells
  clear hx hx' hq hq' a0 a1 b0 hl hn hsb hm hgl hgn hs hl' hn' hsb' hm' hgl' hgn' hs'
  go_enter Tryz.func24, Tryz.ntmps24
  go_wp2_with fail
  try rw [hW0]
  clear hW0
  refine (C1.out _ B0.out).mono ?_; rintro e w1 ⟨rfl, hb1⟩
  have B1 := hid (btr B0.out hb1)
  have c1 := (A1.out.later hb1).cells
  clear hb1 c0 A1
  go_wp2_with fail
  refine (C2.out _ B1.out).mono ?_; rintro e w2 ⟨rfl, hb2⟩
  have B2 := hid (btr B1.out hb2)
  clear hb2 c1
  by_cases h : x = x'
  · have hxx : (x.toList == x'.toList) = true := by rw [h]; simp
    cases q <;> cases q'
    all_goals
      go_wp2
      go_ret
    · exact ⟨Rt.yes (HE.out.2 (by first | exact ⟨rfl, h⟩ | exact ⟨trivial, h⟩ | simp [h])), B2.out⟩
    · exact ⟨Rt.no (fun hh => by have := (HE.out.1 hh).1; cases this), B2.out⟩
    · exact ⟨Rt.no (fun hh => by have := (HE.out.1 hh).1; cases this), B2.out⟩
    · exact ⟨Rt.yes (HE.out.2 (by first | exact ⟨rfl, h⟩ | exact ⟨trivial, h⟩ | simp [h])), B2.out⟩
  · have hxx := bytes_ne h
    have HH := hid h
    clear h
    cases q <;> cases q'
    all_goals
      go_wp2
      go_ret
      exact ⟨Rt.no (fun hh => HH.out (HE.out.1 hh).2), B2.out⟩
end Go.Proofs.YtocfggfccbnbhaaGreatDoor

namespace Go.Proofs.YtocfggfccbnbhaaGreatDoor
open Go.RowKit Go.ChangeMaps
/-- All texts of a list, one behind the other. -/
def cat : List ByteArray → ByteArray
  | [] => ⟨#[]⟩
  | x :: l => x ++ cat l
theorem cat_app (l k : List ByteArray) : cat (l ++ k) = cat l ++ cat k := by
  induction l with
  | nil => exact (ba_nil _).symm
  | cons x l ih => simp only [List.cons_append, cat, ih]; exact ByteArray.append_assoc.symm
theorem cat_one (x : ByteArray) : cat [x] = x := nil_ba x
theorem cat_next (l : List ByteArray) (i : Nat) (h : i < l.length) : cat (l.take (i + 1)) = cat (l.take i) ++ l[i] := by
  rw [take_next l i h, cat_app, cat_one]
theorem cat_part (l : List ByteArray) (i : Nat) : (cat (l.take i)).size ≤ (cat l).size := by
  have h : cat l = cat (l.take i) ++ cat (l.drop i) := by rw [← cat_app, List.take_append_drop]
  rw [h, ByteArray.size_append]
  omega
/-- A row of texts that a call owns. -/
def OwR (W : World) (B : Nat) (v : Value) (l : List ByteArray) : Prop := W.ownsRow B 9 1 v l.length (l.map Value.string)
theorem OwR.shape {W : World} {B : Nat} {v : Value} {l : List ByteArray} (h : OwR W B v l) (h0 : 0 < l.length) : ∃ g c, v = .slice (some ⟨g, 0, none⟩) l.length c ∧ g < W.heap.size ∧ B ≤ g ∧ ∀ i (hi : i < l.length), W.cell? ⟨g, i, none⟩ = some (.string l[i]) := by
  have h' := h
  rcases h.2 with ⟨_, h1⟩ | ⟨g, c, cur, rfl, hb, hg, _⟩
  · omega
  · refine ⟨g, c, rfl, (Array.getElem?_eq_some_iff.1 hg).1, hb, fun i hi => ?_⟩
    have h2 := World.ownsRow.cells h' (g := g) rfl i (.string l[i]) (by rw [List.getElem?_map, List.getElem?_eq_getElem hi]; rfl)
    cases i with
    | zero => exact h2
    | succ i => simpa [Addr.add] using h2
theorem make_by (n : Nat) (hn : n ≤ 1048576) (W : World) : (Instr.makeSlice 22 (.int .i64 (n : Int)) (.int .i64 (n : Int))).run Tryz.prog W = .ok (.slice (some ⟨W.heap.size, 0, none⟩) n n) (W.alloc (.cells (List.replicate n (Value.int .u8 0)).toArray 5)) := by
  have hinfo : (Tryz.prog.info? 5).map (fun i => (i.zero, i.size, i.bytes)) = some (some (.int .u8 0), 1, 1) := by kernel_rfl
  obtain ⟨i0, hi, hz0, hz1, hz2⟩ := info_parts3 hinfo
  have h := run_make (P := Tryz.prog) W 22 5 i0 (.int .u8 0) Tryz.underlying22 hi hz0 .i64 .i64 (n : Int) (n : Int) (by omega) (by omega) (by rw [hz2]; omega) (by omega)
  rw [hz1, Int.toNat_natCast] at h
  have e : madeCells #[.int .u8 0] (n * 1) = (List.replicate n (Value.int .u8 0)).toArray := by
    apply Array.toList_inj.1
    apply List.ext_getElem?
    intro j
    by_cases hj : j < n <;> simp [madeCells, hj, Nat.mod_one]
  rw [show (Value.int IntKind.u8 0).cells = #[.int .u8 0] from rfl, e] at h
  exact h
theorem cut_by (g n a e : Nat) (W : World) (h1 : a < e) (h2 : e ≤ n) : (Instr.slice 22 (.slice (some ⟨g, 0, none⟩) n n) (some (.int .i64 (a : Int))) (some (.int .i64 (e : Int))) (some (.int .i64 (e : Int)))).run Tryz.prog W = .ok (.slice (some ⟨g, a, none⟩) (e - a) (e - a)) W := by
  have hz : ∀ w, (Go.sizeOf 5).run Tryz.prog w = .ok 1 w := fun w => by kernel_rfl
  have ht' : Tryz.prog.underlying 22 = some (.slice (Tryz.prog.elem 22)) := by simp [Program.elem, Tryz.underlying22]
  have he : Tryz.prog.elem 22 = 5 := by simp [Program.elem, Tryz.underlying22]
  rw [run_slice_lhm W 22 _ _ _ ht' .i64 .i64 .i64 _ _ _ (by omega) (by omega) (by omega) (by omega), he, hz]
  have hne : ¬ e = a := by omega
  simp [Result.andThen, sliced, Addr.add, hne]
  intro h; exact h.symm
/-- The first part of a row is written, the rest is not yet. -/
def Half (W : World) (g : Nat) (x : ByteArray) (n : Nat) : Prop := W.heap[g]? = some (.cells (Lib.byteCells x.data.toList ++ zs (n - x.size)).toArray 5 (0, 0))
theorem Half.lt {W : World} {g n : Nat} {x : ByteArray} (h : Half W g x n) : g < W.heap.size := (Array.getElem?_eq_some_iff.1 h).1
theorem half_more (W : World) (g n : Nat) (x p : ByteArray) (h : Half W g x n) (hn : x.size + p.size ≤ n) : ∃ W', (Builtin.copy_ #[22, 9] 3 #[.slice (some ⟨g, x.size, none⟩) p.size p.size, .string p]).run Tryz.prog W = .ok (.int .i64 (p.size : Int)) W' ∧ Half W' g (x ++ p) n ∧ W.grownBy W' (some g) := by
  have hx : (Lib.byteCells x.data.toList).length = x.size := by rw [Lib.byteCells_length]; simp
  have h1 := Lib.run_copy_row_string (P := Tryz.prog) W 22 9 3 5 g x.size p.size p.size p (Lib.byteCells x.data.toList ++ zs (n - x.size)).toArray 5 Tryz.underlying22 (by kernel_rfl) h (Nat.le_refl _) (by simp [zs, hx]; omega)
  refine ⟨_, h1, ?_, ?_⟩
  · have e : ((Lib.byteCells x.data.toList ++ zs (n - x.size)).toArray.toList.take x.size ++ Lib.byteCells p.data.toList ++ (Lib.byteCells x.data.toList ++ zs (n - x.size)).toArray.toList.drop (x.size + p.size)) = Lib.byteCells (x ++ p).data.toList ++ zs (n - (x ++ p).size) := by
      show (Lib.byteCells x.data.toList ++ zs (n - x.size)).take x.size ++ Lib.byteCells p.data.toList ++ (Lib.byteCells x.data.toList ++ zs (n - x.size)).drop (x.size + p.size) = _
      rw [List.take_append_of_le_length (Nat.le_of_eq hx.symm), List.take_of_length_le (Nat.le_of_eq hx), List.drop_append, List.drop_of_length_le (by rw [hx]; omega), hx, ByteArray.data_append, Array.toList_append, ByteArray.size_append]
      have e2 : Lib.byteCells (x.data.toList ++ p.data.toList) = Lib.byteCells x.data.toList ++ Lib.byteCells p.data.toList := by simp [Lib.byteCells]
      have e3 : (zs (n - x.size)).drop (x.size + p.size - x.size) = zs (n - (x.size + p.size)) := by
        unfold zs
        rw [List.drop_replicate, show n - x.size - (x.size + p.size - x.size) = n - (x.size + p.size) by omega]
      rw [e2, e3, List.nil_append]
    have h2 := setRow_heap W g _ ((Lib.byteCells x.data.toList ++ zs (n - x.size)).toArray.toList.take x.size ++ Lib.byteCells p.data.toList ++ (Lib.byteCells x.data.toList ++ zs (n - x.size)).toArray.toList.drop (x.size + p.size)).toArray 5 (0, 0) h
    unfold Half
    rw [h2, e]
  · exact ⟨rfl, rfl, rfl, by simp [World.setRow], fun k hk hr => setRow_other W g k _ (by simp at hr; omega)⟩
theorem half_cells {W : World} {g n : Nat} {x : ByteArray} (h : Half W g x n) : ∀ j (hj : j < x.data.toList.length), W.cell? ((⟨g, 0, none⟩ : Addr).add j) = some (.int .u8 (x.data.toList[j].toNat : Int)) := by
  intro j hj
  have e : (⟨g, 0, none⟩ : Addr).add j = ⟨g, j, none⟩ := by cases j <;> simp [Addr.add]
  rw [e]
  rw [cell_of_row W g j _ _ _ h]
  have hj2 : j < (Lib.byteCells x.data.toList).length := by rw [Lib.byteCells_length]; exact hj
  show ((Lib.byteCells x.data.toList ++ zs (n - x.size)).toArray)[j]? = _
  rw [List.getElem?_toArray, List.getElem?_append_left hj2, Lib.byteCells, List.getElem?_map, List.getElem?_eq_getElem hj]
  rfl
set_option maxHeartbeats 1600000 in
set_option maxRecDepth 100000 in
theorem moved_any (g n c : Nat) (l : List ByteArray) (w : World) (hl : l.length = n) (hn : n ≤ 1048576) (hg : g < w.heap.size) (hc : ∀ i (h : i < l.length), w.cell? ⟨g, i, none⟩ = some (.string l[i])) (hne : ∀ x ∈ l, 0 < x.size) (hz : (cat l).size ≤ 1048576) :
    Calls Tryz.prog 39 #[.slice (some ⟨g, 0, none⟩) n c] w fun e w' => e = .returned (.string (cat l)) ∧ Below w.heap.size w w' := by
  have HL := hid hl
  have HC := hid hc
  have HG := hid hg
  have HNE := hid hne
  have HZ := hid hz
  clear hl hc hg hne hz
  go_enter Tryz.func39, Tryz.ntmps39
  go_wp2
  go_loopw [3, 13] (fun sv iv wr => ∃ (i m : Nat), i ≤ n ∧ iv = .int .i64 (i : Int) ∧ sv = .int .i64 (m : Int) ∧ Hid (m = (cat (l.take i)).size) ∧ m ≤ 1048576 ∧ w = wr) (fun _ iv _ => n - (intOf iv).toNat)
  case atStart => exact ⟨0, 0, Nat.zero_le _, rfl, rfl, rfl, by omega, rfl⟩
  case round =>
    obtain ⟨i, m, hi, rfl, rfl, HM, hm, rfl⟩ := hrel
    by_cases hlt : i < n
    · have hil : i < l.length := by rw [HL.out]; exact hlt
      have hci := HC.out i hil
      have HT := hid (cat_next l i hil)
      obtain ⟨p, hp⟩ : ∃ p, l[i] = p := ⟨_, rfl⟩
      rw [hp] at hci HT
      have hps : m + p.size ≤ 1048576 := by
        have h1 := cat_part l (i + 1)
        rw [HT.out, ByteArray.size_append] at h1
        have h2 := HM.out
        have h3 := HZ.out
        omega
      clear hp
      go_wp2
      go_roundw
      case rel => exact ⟨i + 1, m + p.size, by omega, by go_num, by go_num, hid (by show _ = _; rw [HT.out, ByteArray.size_append, ← HM.out]), hps, trivial⟩
      case measure => simp [intOf]; omega
    · have HE : Hid (l.take i = l) := List.take_of_length_le (by rw [HL.out]; omega)
      have HMZ : Hid (m = (cat l).size) := hid (by rw [← HE.out]; exact HM.out)
      have hmk := make_by m hm w
      have HH : Hid (Half (w.alloc (.cells (List.replicate m (Value.int .u8 0)).toArray 5)) w.heap.size ⟨#[]⟩ m) := hid (heap_alloc_new w _)
      obtain ⟨M, hM⟩ : ∃ M, (List.replicate m (Value.int .u8 0)).toArray = M := ⟨_, rfl⟩
      rw [hM] at hmk HH
      have HB := hid (bpush (bre w) (.cells M 5))
      clear hM
      go_wp2
      clear hmk
      obtain ⟨W1, hW1⟩ : ∃ W, w.alloc (.cells M 5) = W := ⟨_, rfl⟩
      rw [hW1] at HH HB
      rw [hW1]
      clear hW1
      go_loopw [7, 26] (fun av iv wr => ∃ (i a : Nat), i ≤ n ∧ iv = .int .i64 (i : Int) ∧ av = .int .i64 (a : Int) ∧ Hid (a = (cat (l.take i)).size) ∧ a ≤ m ∧ Hid (Half wr w.heap.size (cat (l.take i)) m) ∧ Hid (Below w.heap.size w wr)) (fun _ iv _ => n - (intOf iv).toNat)
      case atStart => exact ⟨0, 0, Nat.zero_le _, rfl, rfl, rfl, Nat.zero_le _, HH, HB⟩
      case round =>
        obtain ⟨i2, a, hi2, rfl, rfl, HA, ha, HQ, HK⟩ := hrel
        by_cases hlt2 : i2 < n
        · have hil : i2 < l.length := by rw [HL.out]; exact hlt2
          have hci := (HK.out.cell (p := ⟨g, i2, none⟩) HG.out).trans (HC.out i2 hil)
          have HT := hid (cat_next l i2 hil)
          have hpos := HNE.out l[i2] (List.getElem_mem hil)
          obtain ⟨p, hp⟩ : ∃ p, l[i2] = p := ⟨_, rfl⟩
          rw [hp] at hci HT hpos
          have hps : a + p.size ≤ m := by
            have h1 := cat_part l (i2 + 1)
            rw [HT.out, ByteArray.size_append] at h1
            have h2 := HA.out
            have h3 := HMZ.out
            omega
          obtain ⟨wn, hcp, hh, hgr⟩ := half_more wr w.heap.size m (cat (l.take i2)) p HQ.out (by rw [← HA.out]; exact hps)
          rw [← HA.out] at hcp
          have HH2 : Hid (Half wn w.heap.size (cat (l.take (i2 + 1))) m) := hid (by rw [HT.out]; exact hh)
          have HB2 : Hid (Below w.heap.size w wn) := hid (HK.out.trans (below_grownR hgr (by intro j hj; simp at hj; omega) HK.out.size))
          have hct := cut_by w.heap.size m a (a + p.size) wr (by omega) hps
          rw [show a + p.size - a = p.size by omega, Int.natCast_add] at hct
          clear hp hh hgr
          go_wp2
          go_roundw
          case rel => exact ⟨i2 + 1, a + p.size, by omega, by go_num, by go_num, hid (by show _ = _; rw [HT.out, ByteArray.size_append, ← HA.out]), hps, HH2, HB2⟩
          case measure => simp [intOf]; omega
        · have HE2 : Hid (l.take i2 = l) := List.take_of_length_le (by rw [HL.out]; omega)
          have hcv := run_convert_bytes_back (P := Tryz.prog) wr 22 9 5 ⟨w.heap.size, 0, none⟩ m (cat l).data.toList Tryz.underlying22 (by kernel_rfl) (by kernel_rfl) (half_cells (HE2.out ▸ HQ.out))
          rw [show (cat l).data.toList.length = m by rw [HMZ.out]; simp] at hcv
          have HSE : Hid ((⟨(cat l).data.toList.toArray⟩ : ByteArray) = cat l) := hid (by cases cat l; simp)
          obtain ⟨z, hzz⟩ : ∃ z, (⟨(cat l).data.toList.toArray⟩ : ByteArray) = z := ⟨_, rfl⟩
          rw [hzz] at hcv HSE
          clear hzz
          go_wp2
          go_ret
          exact ⟨by rw [HSE.out]; rfl, HK.out⟩
end Go.Proofs.YtocfggfccbnbhaaGreatDoor

namespace Go.Proofs.YtocfggfccbnbhaaGreatDoor
open Go.RowKit Go.ChangeMaps
theorem info_str : (Tryz.prog.info? 9).map (fun i => (i.zero, i.size, i.bytes)) = some (some (.string ⟨#[]⟩), 1, 16) := by kernel_rfl
theorem cell_one_s (w : World) (x : ByteArray) (e : Nat) : ∀ (j : Nat) (u : Value), ([Value.string x] : List Value)[j]? = some u → (w.alloc (.cells #[.string x] e)).cell? ((⟨w.heap.size, 0, none⟩ : Addr).add j) = some u := by
  intro j u hj
  match j, hj with
  | 0, hj =>
    simp only [List.getElem?_cons_zero, Option.some.injEq] at hj
    subst hj
    exact cell_of_row _ w.heap.size 0 _ _ _ (heap_alloc_new w _)
  | j + 1, hj => simp at hj
theorem ownR_one (w : World) (x : ByteArray) : OwR (w.alloc (.cells #[.string x] 9)) w.heap.size (.slice (some ⟨w.heap.size, 0, none⟩) 1 1) [x] := by
  have h := World.ownsRow_lit (base := w.heap.size) (e := 9) (size := 1) w #[.string x] 1 (Nat.le_refl _) (by unfold maxLen; omega) rfl
  simpa [OwR] using h
theorem wpList_append_str (w : World) {ops : Array Oper} {rest : List Oper} {o : Oper} {a : Act} {Q : Exit → Act → World → Prop} (hgd : o.guard = none) (s x : Operand)
    (ho : o.op = .call { callee := .builtin .append, args := #[s, x], argTypes := #[64, 64] })
    (base : Nat) (v : Value) (l : List ByteArray) (hs : a.eval s = v) (hown : OwR w base v l) (n : ByteArray)
    (hx : a.eval x = .slice (some ⟨w.heap.size, 0, none⟩) 1 1) (hlen : l.length ≤ 2000000) (hbase : base ≤ w.heap.size)
    (h : ∀ v' w', OwR w' base v' (l ++ [n]) → Below base w w' → wpList Tryz.prog ops Q rest (a.put o.dst v') w') :
    wpList Tryz.prog ops Q (o :: rest) a (w.alloc (.cells #[.string n] 9)) := by
  obtain ⟨i0, hi, hz0, hz1, hz2⟩ := info_parts3 info_str
  refine wpList_append_own _ hgd s x 64 ho base 9 i0 (.string ⟨#[]⟩) 1 16 Tryz.underlying64 hi hz0 hz1 hz2 rfl (by decide) v _ _ hs (World.ownsRow.alloc hown _) ⟨w.heap.size, 0, none⟩ 1 1 [.string n] hx rfl (cell_one_s _ _ _) (by intro u hu; simp at hu; subst hu; rfl) (by unfold maxLen; omega) (by omega) (by simp; omega) ?_
  intro v' w' hown' hg _
  refine h v' w' (by simpa [OwR] using hown') (((Below.refl base w).alloc hbase _).grown hg (by simp; omega) (fun k hk => (World.ownsRow.lt hown k hk).1))
/-- A row of texts appended to a row of texts. -/
theorem wpList_append_strs (w : World) {ops : Array Oper} {rest : List Oper} {o : Oper} {a : Act} {Q : Exit → Act → World → Prop} (hgd : o.guard = none) (s x : Operand)
    (ho : o.op = .call { callee := .builtin .append, args := #[s, x], argTypes := #[64, 64] })
    (base : Nat) (v : Value) (l k : List ByteArray) (hs : a.eval s = v) (hown : OwR w base v l) (g n c : Nat) (hk : k.length = n)
    (hx : a.eval x = .slice (some ⟨g, 0, none⟩) n c) (hc : ∀ i (h : i < k.length), w.cell? ⟨g, i, none⟩ = some (.string k[i])) (hlen : l.length ≤ 2000000) (hlen2 : n ≤ 2000000) (hbase : base ≤ w.heap.size)
    (h : ∀ v' w', OwR w' base v' (l ++ k) → Below base w w' → wpList Tryz.prog ops Q rest (a.put o.dst v') w') :
    wpList Tryz.prog ops Q (o :: rest) a w := by
  obtain ⟨i0, hi, hz0, hz1, hz2⟩ := info_parts3 info_str
  refine wpList_append_own _ hgd s x 64 ho base 9 i0 (.string ⟨#[]⟩) 1 16 Tryz.underlying64 hi hz0 hz1 hz2 rfl (by decide) v _ _ hs hown ⟨g, 0, none⟩ n c (k.map Value.string) hx (by rw [List.length_map, hk, Nat.mul_one]) ?_ (by intro u hu; simp only [List.mem_map] at hu; obtain ⟨y, _, rfl⟩ := hu; rfl) (by unfold maxLen; omega) (by omega) hbase ?_
  · intro j u hj
    have e : (⟨g, 0, none⟩ : Addr).add j = ⟨g, j, none⟩ := by cases j <;> simp [Addr.add]
    have hjl : j < k.length := by have := (List.getElem?_eq_some_iff.1 hj).1; simpa using this
    rw [e, hc j hjl]
    rw [List.getElem?_map, List.getElem?_eq_getElem hjl] at hj
    simpa using hj
  · intro v' w' hown' hg _
    refine h v' w' (by unfold OwR; rw [List.length_append, List.map_append, hk]; exact hown') ((Below.refl base w).grown hg hbase (fun k hk => (World.ownsRow.lt hown k hk).1))
theorem texts1 (x : Int) (hx : 0 ≤ x ∧ x ≤ 1000000000) : ∃ s : ByteArray, Hid (s = vi x) ∧ Hid (∀ w k, k = w.heap.size → Calls Tryz.prog 34 #[.slice (some ⟨k, 0, none⟩) 1 1] (w.alloc (.cells #[.int .i64 x] 3)) fun e w' => e = .returned (.string s) ∧ Below w.heap.size w w') := by
  refine ⟨vis [x], ?_, fun w k hk => ?_⟩
  · show _ = _; simp only [vis, nil_ba]
  · subst hk
    refine (varTexts_any w.heap.size [x] 1 _ rfl (by omega) (by intro z hz; simp at hz; subst hz; assumption) (by simp) ?_).mono fun _ _ h => ⟨h.1, btr (bpush (bre _) _) h.2⟩
    intro i hi
    have h := heap_alloc_new w (.cells #[.int .i64 x] 3)
    have h2 : i = 0 := by simp at hi; omega
    subst h2
    exact cell_of_row _ _ 0 _ _ _ h
set_option maxHeartbeats 1600000 in
set_option maxRecDepth 100000 in
theorem ltInts_any (lo hi : Nat) (ao : Option Addr) (n c : Nat) (G : List Int) (w : World) (hl : G.length = n) (hn : n ≤ 1048576) (hr : Is lo hi w ao G) (hg : ∀ y ∈ G, 0 ≤ y ∧ y ≤ 1000000000) :
    Calls Tryz.prog 36 #[.slice ao n c, .func (.func 37) #[] #[]] w fun e w' => ∃ v, e = .returned v ∧ OwR w' w.heap.size v (vi n :: G.map vi) ∧ Below w.heap.size w w' := by
  have HL := hid hl
  have HR := hid hr
  have HG := hid hg
  obtain ⟨x1, e1, C1⟩ := texts1 (n : Int) (by omega)
  clear hl hr hg
  go_enter Tryz.func36, Tryz.ntmps36
  go_wp2_with fail
  refine (C1.out _ _ rfl).mono ?_; rintro e w1 ⟨rfl, hb1⟩
  have O1 := hid (ownR_one w1 x1)
  have B1 := hid hb1
  have B2 := hid (bpush hb1 (.cells #[.string x1] 9))
  have hs1 := hb1.size
  clear hb1
  go_wp2
  obtain ⟨W1, hW1⟩ : ∃ W, w1.alloc (.cells #[.string x1] 9) = W := ⟨_, rfl⟩
  have O2 : Hid (OwR W1 w.heap.size (.slice (some ⟨w1.heap.size, 0, none⟩) 1 1) [x1]) := hid (by rw [← hW1]; exact own_base O1.out hs1)
  rw [hW1] at B2
  rw [hW1]
  clear hW1 O1 B1 hs1
  go_loopw [5, 17] (fun ov iv wr => ∃ (i : Nat), i ≤ n ∧ iv = .int .i64 (i : Int) ∧ OwR wr w.heap.size ov (vi n :: (G.take i).map vi) ∧ Below w.heap.size w wr) (fun _ iv _ => n - (intOf iv).toNat)
  case atStart => exact ⟨0, Nat.zero_le _, rfl, by rw [← e1.out]; exact O2.out, B2.out⟩
  case round =>
    obtain ⟨i, hi2, rfl, ho, hb⟩ := hrel
    have XO := hid ho
    have XB := hid hb
    clear ho hb O2 B2
    by_cases hlt : i < n
    · have hil : i < G.length := by rw [HL.out]; exact hlt
      have HT : Hid (G.take (i + 1) = G.take i ++ [G[i]]) := take_next G i hil
      obtain ⟨k, o, rfl, hk, d⟩ := (HR.out.later XB.out).at hil
      have hy := HG.out G[i] (List.getElem_mem hil)
      obtain ⟨y, hye⟩ : ∃ y, G[i] = y := ⟨_, rfl⟩
      rw [hye] at d hy HT
      obtain ⟨z, hz, hzs, cz⟩ := var_i y hy.1 hy.2
      have HLN : Hid ((vi n :: (G.take i).map vi).length ≤ 2000000) := hid (by show _ ≤ _; simp only [List.length_cons, List.length_map, List.length_take]; omega)
      clear hye hy hzs
      go_wp2_with fail
      refine (cz.out _).mono ?_; rintro e w3 ⟨rfl, hb3⟩
      have O3 : Hid (OwR w3 w.heap.size u5 (vi n :: (G.take i).map vi)) := hid (own_later XO.out hb3)
      have B3 := hid (btr XB.out hb3)
      have hs3 := B3.out.size
      clear d hb3
      go_wp2_with (at_builtin; refine wpList_append_str w3 rfl (.tmp 27) (.tmp 29) rfl w.heap.size _ _ (by rfl) O3.out z rfl HLN.out hs3 ?_; intro v4 w4 hown4 hb4; have HO4 := hid hown4; have HB4 := hid hb4; clear hown4 hb4)
      go_roundw
      case rel => exact ⟨i + 1, by omega, by go_num, by rw [HT.out, List.map_append, ← List.cons_append]; rw [hz.out] at HO4; exact HO4.out, B3.out.trans HB4.out⟩
      case measure => simp [intOf]; omega
    · have HE : Hid (G.take i = G) := List.take_of_length_le (by rw [HL.out]; omega)
      have XO2 : Hid (OwR wr w.heap.size u5 (vi n :: G.map vi)) := hid (by have h := XO.out; rw [HE.out] at h; exact h)
      go_wp2
      go_ret
      exact ⟨_, rfl, XO2.out, XB.out⟩
end Go.Proofs.YtocfggfccbnbhaaGreatDoor

namespace Go.Proofs.YtocfggfccbnbhaaGreatDoor
open Go.RowKit Go.ChangeMaps
def mt4 (m : M4) : ByteArray := mtx m.1 m.2.1 m.2.2.1 m.2.2.2
set_option maxHeartbeats 3200000 in
set_option maxRecDepth 100000 in
theorem ltMails_any (lo hi : Nat) (ao : Option Addr) (n c : Nat) (L : List M4) (w : World) (hl : L.length = n) (hn : n ≤ 1048576) (hsm : Sm L) (hr : Ms lo hi w ao L) (hg : ∀ m ∈ L, mlOk m.1 m.2.1 m.2.2.1 m.2.2.2 = true) :
    Calls Tryz.prog 52 #[.slice ao n c, .func (.func 53) #[] #[]] w fun e w' => ∃ v, e = .returned v ∧ OwR w' w.heap.size v (vi n :: L.map mt4) ∧ Below w.heap.size w w' := by
  have HL := hid hl
  have HR := hid hr
  have HG := hid hg
  have HSM := hid hsm
  obtain ⟨x1, e1, C1⟩ := texts1 (n : Int) (by omega)
  clear hl hr hg hsm
  go_enter Tryz.func52, Tryz.ntmps52
  go_wp2_with fail
  refine (C1.out _ _ rfl).mono ?_; rintro e w1 ⟨rfl, hb1⟩
  have O1 := hid (ownR_one w1 x1)
  have B1 := hid hb1
  have B2 := hid (bpush hb1 (.cells #[.string x1] 9))
  have hs1 := hb1.size
  clear hb1
  go_wp2
  obtain ⟨W1, hW1⟩ : ∃ W, w1.alloc (.cells #[.string x1] 9) = W := ⟨_, rfl⟩
  have O2 : Hid (OwR W1 w.heap.size (.slice (some ⟨w1.heap.size, 0, none⟩) 1 1) [x1]) := hid (by rw [← hW1]; exact own_base O1.out hs1)
  rw [hW1] at B2
  rw [hW1]
  clear hW1 O1 B1 hs1
  go_loopw [5, 17] (fun ov iv wr => ∃ (i : Nat), i ≤ n ∧ iv = .int .i64 (i : Int) ∧ OwR wr w.heap.size ov (vi n :: (L.take i).map mt4) ∧ Below w.heap.size w wr) (fun _ iv _ => n - (intOf iv).toNat)
  case atStart => exact ⟨0, Nat.zero_le _, rfl, by rw [← e1.out]; exact O2.out, B2.out⟩
  case round =>
    obtain ⟨i, hi2, rfl, ho, hb⟩ := hrel
    have XO := hid ho
    have XB := hid hb
    clear ho hb O2 B2
    by_cases hlt : i < n
    · have hil : i < L.length := by rw [HL.out]; exact hlt
      have HT : Hid (L.take (i + 1) = L.take i ++ [L[i]]) := take_next L i hil
      obtain ⟨k, o, fa, fc, rfl, hk, d, hrs, _⟩ := (HR.out.later XB.out).at hil
      have hok := HG.out L[i] (List.getElem_mem hil)
      have hfl := (HSM.out L[i] (List.getElem_mem hil)).1
      have HLN : Hid ((vi n :: (L.take i).map mt4).length ≤ 2000000) := hid (by show _ ≤ _; simp only [List.length_cons, List.length_map, List.length_take]; omega)
      obtain ⟨q, hq⟩ : ∃ q, L[i] = q := ⟨_, rfl⟩
      obtain ⟨g2, u, fl, tx⟩ := q
      rw [hq] at d hrs hok hfl HT
      dsimp only at d hrs hok hfl
      have hb9 := bpush (bre wr) (.cells #[.int .i64 g2, .int .i64 u, .slice fa fl.length fc, .string tx] 86)
      have MM := hid (Mg.new wr 86 g2 u (.slice fa fl.length fc) tx)
      have CT := implMailText_any g2 u fa fl.length fc fl tx (wr.alloc (.cells #[.int .i64 g2, .int .i64 u, .slice fa fl.length fc, .string tx] 86)) rfl hfl (hrs.later hb9)
      have hE2 : mtR g2 u fl tx = .tuple #[.string (mtx g2 u fl tx), .bool true] := by unfold mtR; rw [hok]; rfl
      rw [hE2] at CT
      obtain ⟨xm, hxm⟩ : ∃ x, mtx g2 u fl tx = x := ⟨_, rfl⟩
      have HXM : Hid (xm = mt4 (g2, u, fl, tx)) := hid hxm.symm
      obtain ⟨lf, hlf⟩ : ∃ n, fl.length = n := ⟨_, rfl⟩
      rw [hxm] at CT
      rw [hlf] at CT d hb9 MM
      have HCT := hid CT
      have XO9 : Hid (OwR (wr.alloc (.cells #[.int .i64 g2, .int .i64 u, .slice fa lf fc, .string tx] 86)) w.heap.size u5 (vi n :: (L.take i).map mt4)) := hid (own_later XO.out hb9)
      have XB9 := hid (btr XB.out hb9)
      have dm := MM.out.cells
      clear hq hok hfl hE2 hxm hlf CT hrs hb9
      go_wp2_with fail
      refine HCT.out.mono ?_; rintro e w3 ⟨rfl, hb3⟩
      have O3 : Hid (OwR w3 w.heap.size u5 (vi n :: (L.take i).map mt4)) := hid (own_later XO9.out hb3)
      have B3 := hid (btr XB9.out hb3)
      have hs3 := B3.out.size
      clear d dm hb3 HCT XO9 XB9
      go_wp2_with (at_builtin; refine wpList_append_str w3 rfl (.tmp 27) (.tmp 29) rfl w.heap.size _ _ (by rfl) O3.out xm rfl HLN.out hs3 ?_; intro v4 w4 hown4 hb4; have HO4 := hid hown4; have HB4 := hid hb4; clear hown4 hb4)
      go_roundw
      case rel => exact ⟨i + 1, by omega, by go_num, by rw [HT.out, List.map_append, ← List.cons_append]; rw [HXM.out] at HO4; exact HO4.out, B3.out.trans HB4.out⟩
      case measure => simp [intOf]; omega
    · have HE : Hid (L.take i = L) := List.take_of_length_le (by rw [HL.out]; omega)
      have XO2 : Hid (OwR wr w.heap.size u5 (vi n :: L.map mt4)) := hid (by have h := XO.out; rw [HE.out] at h; exact h)
      go_wp2
      go_ret
      exact ⟨_, rfl, XO2.out, XB.out⟩
end Go.Proofs.YtocfggfccbnbhaaGreatDoor

