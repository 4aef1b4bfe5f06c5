/- Lfb. -/

import Derived.Test.YtmpcmllfgogegaaGreatyLhk
namespace Go.Proofs.YtmpcmllfgogegaaGreat
open Go.RowKit Go.ChangeMaps
set_option maxHeartbeats 4000000 in
set_option maxRecDepth 100000 in
theorem lawFits_any (lo1 hi1 lo2 hi2 : Nat) (g : Int) (nm : ByteArray) (t b nx : Int) (ma : Option Addr) (mn mc : Nat) (ga : Option Addr) (gn gc : Nat) (L : List M4) (G : List Int) (lo3 hi3 lo4 hi4 : Nat) (g' : Int) (nm' : ByteArray) (t' b' nx' : Int) (ma' : Option Addr) (mn' mc' : Nat) (ga' : Option Addr) (gn' gc' : Nat) (L' : List M4) (G' : List Int) (w : World) (hnm : (nm.size : Int) ≤ 9223372036854775807) (hl : L.length = mn) (hn : (mn : Int) ≤ 9223372036854775807) (hft : Fit L) (hm : Ms lo1 hi1 w ma L) (hgl : G.length = gn) (hgn : (gn : Int) ≤ 9223372036854775807) (hs : Is lo2 hi2 w ga G) (hwx : -9223372036854775808 ≤ nx ∧ nx ≤ 9223372036854775807) (hnm' : (nm'.size : Int) ≤ 9223372036854775807) (hl' : L'.length = mn') (hn' : (mn' : Int) ≤ 9223372036854775807) (hft' : Fit L') (hm' : Ms lo3 hi3 w ma' L') (hgl' : G'.length = gn') (hgn' : (gn' : Int) ≤ 9223372036854775807) (hs' : Is lo4 hi4 w ga' G') (hwx' : -9223372036854775808 ≤ nx' ∧ nx' ≤ 9223372036854775807) :
  Calls Tryz.prog 7 #[.agg #[.int .i64 g, .string nm, .int .i64 t, .int .i64 b, .int .i64 nx, .slice ma mn mc, .slice ga gn gc], .agg #[.int .i64 g', .string nm', .int .i64 t', .int .i64 b', .int .i64 nx', .slice ma' mn' mc', .slice ga' gn' gc']] w fun e w' => e = .returned (.bool true) ∧ Below w.heap.size w w' := by
 obtain ⟨W0, hW0⟩ : ∃ W0, (w.alloc (.cells #[.int .i64 g, .string nm, .int .i64 t, .int .i64 b, .int .i64 nx, .slice ma mn mc, .slice ga gn gc] 52)).alloc (.cells #[.int .i64 g', .string nm', .int .i64 t', .int .i64 b', .int .i64 nx', .slice ma' mn' mc', .slice ga' gn' gc'] 52) = W0 := ⟨_, rfl⟩
 have a0 : Bx W0 w.heap.size 52 g nm t b nx (.slice ma mn mc) (.slice ga gn gc) := by subst hW0; exact (Bx.new w _ g nm t b nx _ _).later (bpush (bre _) _)
 have a1 : Bx W0 (w.heap.size + 1) 52 g' nm' t' b' nx' (.slice ma' mn' mc') (.slice ga' gn' gc') := by
  subst hW0
  have h := Bx.new (w.alloc (.cells #[.int .i64 g, .string nm, .int .i64 t, .int .i64 b, .int .i64 nx, .slice ma mn mc, .slice ga gn gc] 52)) 52 g' nm' t' b' nx' (.slice ma' mn' mc') (.slice ga' gn' gc')
  rwa [show (w.alloc (.cells #[.int .i64 g, .string nm, .int .i64 t, .int .i64 b, .int .i64 nx, .slice ma mn mc, .slice ga gn gc] 52)).heap.size = w.heap.size + 1 by simp] at h
 have b0 : Below w.heap.size w W0 := by subst hW0; exact bpush (bpush (bre _) _) _
 have c0 := a0.cells
 have A0 := hid a0
 have D0 := hid a1
 have B0 := hid b0
 have HM := hid hm
 have HS := hid hs
 have HF := hid hft
 have HL := hid hl
 have HGL := hid hgl
 have HN := hid hn
 have HGN := hid hgn
 have HNM := hid hnm
 have HM' := hid hm'
 have HS' := hid hs'
 have HF' := hid hft'
 have HL' := hid hl'
 have HGL' := hid hgl'
 have HN' := hid hn'
 have HGN' := hid hgn'
 have HNM' := hid hnm'
 have HWX := hid hwx
 have HWX' := hid hwx'
 clear a0 a1 b0 hm hs hft hl hgl hn hgn hnm hm' hs' hft' hl' hgl' hn' hgn' hnm' hwx hwx'
 go_enter Tryz.func7, Tryz.ntmps7
 go_wp2_with fail
 clear hW0
 refine (szBox_any lo1 hi1 g nm t b nx ma mn mc ga gn gc L _ HNM.out HL.out HN.out HF.out (HM.out.later B0.out) HGN.out).mono ?_; rintro e w1 ⟨rfl, hb1⟩
 have A1 := hid (A0.out.later hb1)
 have D1 := hid (D0.out.later hb1)
 have B1 := hid (btr B0.out hb1)
 clear hb1 A0 D0 B0 c0
 by_cases hbig : (1048576 : Int) < ((nm.size + szL L + gn : Nat) : Int)
 ·rw [szr_over hbig]
  clear hbig
  go_wp2
  go_ret
  exact ⟨rfl, B1.out⟩
 obtain ⟨s1, s2, s3, s4⟩ := small8 (Int.le_refl _) hbig
 obtain ⟨q, hq⟩ : ∃ q, szr 1048576 (nm.size + szL L + gn) = q := ⟨_, rfl⟩
 have h0 : ¬ q < 0 := by rw [← hq, szr_fits hbig]; omega
 have h1 : 0 ≤ q ∧ q ≤ 1048576 := by rw [← hq, szr_fits hbig]; omega
 rw [hq]
 have S1 := hid s1
 have S2 : Hid (mn ≤ 1048576) := by show _ ≤ _; rw [← HL.out]; exact s2
 have S3 := hid s3
 have S4 := hid s4
 have Q1 := hid h1
 have QE : Hid (q + ((nm.size + szL L + gn : Nat) : Int) = 1048576) := by show _ = _; rw [← hq, szr_fits hbig]; omega
 have c0 := D1.out.cells
 clear hq hbig s1 s2 s3 s4 h1
 go_wp2_with fail
 refine (szBoxL_any q Q1.out lo3 hi3 g' nm' t' b' nx' ma' mn' mc' ga' gn' gc' L' _ HNM'.out HL'.out HN'.out HF'.out (HM'.out.later B1.out) HGN'.out).mono ?_; rintro e w2 ⟨rfl, hb2⟩
 have A2 := hid (A1.out.later hb2)
 have D2 := hid (D1.out.later hb2)
 have B2 := hid (btr B1.out hb2)
 clear hb2 A1 D1 B1 c0 h0
 by_cases hbig : q < ((nm'.size + szL L' + gn' : Nat) : Int)
 ·rw [szr_over hbig]
  clear hbig
  go_wp2
  go_ret
  exact ⟨rfl, B2.out⟩
 obtain ⟨s1, s2, s3, s4⟩ := small8 Q1.out.2 hbig
 obtain ⟨r, hr⟩ : ∃ r, szr q (nm'.size + szL L' + gn') = r := ⟨_, rfl⟩
 have h0 : ¬ r < 0 := by rw [← hr, szr_fits hbig]; omega
 rw [hr]
 have S1' := hid s1
 have S2' : Hid (mn' ≤ 1048576) := by show _ ≤ _; rw [← HL'.out]; exact s2
 have S3' := hid s3
 have S4' := hid s4
 have SUM : Hid (mn + mn' ≤ 1048576 ∧ gn + gn' ≤ 1048576) := by
  have h5 := QE.out
  have h8 : L.length ≤ szL L := by unfold szL; omega
  have h9 : L'.length ≤ szL L' := by unfold szL; omega
  rw [HL.out] at h8
  rw [HL'.out] at h9
  refine ⟨?_, ?_⟩ <;> omega
 obtain ⟨r', hr'⟩ : ∃ r', bxOk g (jbN g nm t b g' nm' t' b') (jbT g nm t b g' nm' t' b') (jbB g nm t b g' nm' t' b') (jbX g nx L G g' nx' L' G') (jbL g nx L G g' nx' L' G') (jbG g G g' G') = r' := ⟨_, rfl⟩
 have HR := hid hr'
 have HR2 : Hid (bxOk g (jbN g nm t b g' nm' t' b') (jbT g nm t b g' nm' t' b') (jbB g nm t b g' nm' t' b') (jbY g nx L G g' nx' L' G') (jbL g nx L G g' nx' L' G') (jbG g G g' G') = r') := (fits_same g nm t b nx L G g' nm' t' b' nx' L' G' HWX.out HWX'.out (by rw [HL.out, HL'.out]; exact SUM.out.1)).trans hr'
 clear hr hbig s1 s2 s3 s4 hr'
 have HZ : Hid (∀ W, Below w2.heap.size w2 W → (W.cell? ⟨w.heap.size, 0, none⟩ = some (.int .i64 g) ∧ W.cell? ⟨w.heap.size, 1, none⟩ = some (.string nm) ∧ W.cell? ⟨w.heap.size, 2, none⟩ = some (.int .i64 t) ∧ W.cell? ⟨w.heap.size, 3, none⟩ = some (.int .i64 b) ∧ W.cell? ⟨w.heap.size, 4, none⟩ = some (.int .i64 nx) ∧ W.cell? ⟨w.heap.size, 5, none⟩ = some (.slice ma mn mc) ∧ W.cell? ⟨w.heap.size, 6, none⟩ = some (.slice ga gn gc)) ∧ (W.cell? ⟨w.heap.size + 1, 0, none⟩ = some (.int .i64 g') ∧ W.cell? ⟨w.heap.size + 1, 1, none⟩ = some (.string nm') ∧ W.cell? ⟨w.heap.size + 1, 2, none⟩ = some (.int .i64 t') ∧ W.cell? ⟨w.heap.size + 1, 3, none⟩ = some (.int .i64 b') ∧ W.cell? ⟨w.heap.size + 1, 4, none⟩ = some (.int .i64 nx') ∧ W.cell? ⟨w.heap.size + 1, 5, none⟩ = some (.slice ma' mn' mc') ∧ W.cell? ⟨w.heap.size + 1, 6, none⟩ = some (.slice ga' gn' gc'))) :=
  fun W h => ⟨(A2.out.later h).cells, (D2.out.later h).cells⟩
 go_wp2_with fail
 go_region_held3 (fun W => (W.cell? ⟨w.heap.size, 0, none⟩ = some (.int .i64 g) ∧ W.cell? ⟨w.heap.size, 1, none⟩ = some (.string nm) ∧ W.cell? ⟨w.heap.size, 2, none⟩ = some (.int .i64 t) ∧ W.cell? ⟨w.heap.size, 3, none⟩ = some (.int .i64 b) ∧ W.cell? ⟨w.heap.size, 4, none⟩ = some (.int .i64 nx) ∧ W.cell? ⟨w.heap.size, 5, none⟩ = some (.slice ma mn mc) ∧ W.cell? ⟨w.heap.size, 6, none⟩ = some (.slice ga gn gc)) ∧ (W.cell? ⟨w.heap.size + 1, 0, none⟩ = some (.int .i64 g') ∧ W.cell? ⟨w.heap.size + 1, 1, none⟩ = some (.string nm') ∧ W.cell? ⟨w.heap.size + 1, 2, none⟩ = some (.int .i64 t') ∧ W.cell? ⟨w.heap.size + 1, 3, none⟩ = some (.int .i64 b') ∧ W.cell? ⟨w.heap.size + 1, 4, none⟩ = some (.int .i64 nx') ∧ W.cell? ⟨w.heap.size + 1, 5, none⟩ = some (.slice ma' mn' mc') ∧ W.cell? ⟨w.heap.size + 1, 6, none⟩ = some (.slice ga' gn' gc')))
  ((refine HZ.out _ ?_; repeat (first | exact bdr (bre _) | exact P5.out | exact P4.out | exact P3.out | refine btr ?_ (by assumption))))
  ((first
    | (go_at_call 30; first
      | ((with_reducible refine (toBox_any lo1 hi1 lo2 hi2 g nm t b nx ma mn mc ga gn gc L G _ HL.out S2.out S4.out (HM.out.later (btr B2.out (bdr (bre _)))) HGL.out S3.out (HS.out.later (btr B2.out (bdr (bre _))))).mono ?_); rintro e w3 ⟨km, kg, rfl, how, hb3⟩; have O3 := hid how; have P3 : Hid (Below w2.heap.size w2 w3) := btr (bdr (bre _)) hb3)
      | ((with_reducible refine (toBox_any lo3 hi3 lo4 hi4 g' nm' t' b' nx' ma' mn' mc' ga' gn' gc' L' G' _ HL'.out S2'.out S4'.out (HM'.out.later (btr B2.out P3.out)) HGL'.out S3'.out (HS'.out.later (btr B2.out P3.out))).mono ?_); rintro e w4 ⟨km', kg', rfl, how', hb4⟩; have O4 := hid how'; have O3b := hid (((O3.out.reads.2.2.1).later hb4)); have O3c := hid (((O3.out.reads.2.2.2).later hb4)); have P4 : Hid (Below w2.heap.size w2 w4) := btr P3.out hb4))
    | (go_at_call 14; (with_reducible refine (specFits_any _ _ _ _ g nm t b nx (some ⟨km, 0, none⟩) mn mn (some ⟨kg, 0, none⟩) gn gn L G _ _ _ _ g' nm' t' b' nx' (some ⟨km', 0, none⟩) mn' mn' (some ⟨kg', 0, none⟩) gn' gn' L' G' w4 HL.out S2.out S4.out O3b.out HGL.out S3.out O3c.out (fun e => by cases e) HL'.out S2'.out S4'.out O4.out.reads.2.2.1 HGL'.out S3'.out O4.out.reads.2.2.2 SUM.out.1 SUM.out.2 S1.out S1'.out).mono ?_); rintro e w5 ⟨rfl, hb5⟩; rw [HR.out]; have P5 : Hid (Below w2.heap.size w2 w5) := btr P4.out hb5)))
 have A5 := hid (A2.out.later P5.out)
 have D5 := hid (D2.out.later P5.out)
 have B5 := hid (btr B2.out P5.out)
 clear A2 D2 B2 HZ P3 P4 P5 O3 O4 O3b O3c
 have c0 := A5.out.cells
 go_wp2_with fail
 refine (toBox_any lo1 hi1 lo2 hi2 g nm t b nx ma mn mc ga gn gc L G _ HL.out S2.out S4.out (HM.out.later B5.out) HGL.out S3.out (HS.out.later B5.out)).mono ?_; rintro e w6 ⟨km, kg, rfl, how, hb6⟩
 obtain ⟨-, -, r1, r2⟩ := how.reads
 have X6 := hid (Bx.new w6 29 g nm t b nx (.slice (some ⟨km, 0, none⟩) mn mn) (.slice (some ⟨kg, 0, none⟩) gn gn))
 have b6 : Below w6.heap.size w6 (w6.alloc (.cells #[.int .i64 g, .string nm, .int .i64 t, .int .i64 b, .int .i64 nx, .slice (some ⟨km, 0, none⟩) mn mn, .slice (some ⟨kg, 0, none⟩) gn gn] 29)) := bpush (bre _) _
 have R1 := hid (r1.later b6)
 have R2 := hid (r2.later b6)
 have A6 := hid ((A5.out.later hb6).later b6)
 have D6 := hid ((D5.out.later hb6).later b6)
 have B6 := hid (btr (btr B5.out hb6) b6)
 clear hb6 b6 r1 r2 how A5 D5 B5 c0
 have c0 := D6.out.cells
 obtain ⟨W6, hW6⟩ : ∃ W6, w6.alloc (.cells #[.int .i64 g, .string nm, .int .i64 t, .int .i64 b, .int .i64 nx, .slice (some ⟨km, 0, none⟩) mn mn, .slice (some ⟨kg, 0, none⟩) gn gn] 29) = W6 := ⟨_, rfl⟩
 rw [hW6] at X6 R1 R2 A6 D6 B6
 have HX := hid hW6
 clear hW6
 go_wp2_with fail
 rw [HX.out]
 refine (toBox_any lo3 hi3 lo4 hi4 g' nm' t' b' nx' ma' mn' mc' ga' gn' gc' L' G' _ HL'.out S2'.out S4'.out (HM'.out.later B6.out) HGL'.out S3'.out (HS'.out.later B6.out)).mono ?_; rintro e w7 ⟨km', kg', rfl, how, hb7⟩
 obtain ⟨-, -, r1, r2⟩ := how.reads
 have X7 := hid (Bx.new w7 29 g' nm' t' b' nx' (.slice (some ⟨km', 0, none⟩) mn' mn') (.slice (some ⟨kg', 0, none⟩) gn' gn'))
 have b7 : Below w7.heap.size w7 (w7.alloc (.cells #[.int .i64 g', .string nm', .int .i64 t', .int .i64 b', .int .i64 nx', .slice (some ⟨km', 0, none⟩) mn' mn', .slice (some ⟨kg', 0, none⟩) gn' gn'] 29)) := bpush (bre _) _
 have R1' := hid (r1.later b7)
 have R2' := hid (r2.later b7)
 have R3 := hid ((R1.out.later hb7).later b7)
 have R4 := hid ((R2.out.later hb7).later b7)
 have X6b := hid ((X6.out.later hb7).later b7)
 have A7 := hid ((A6.out.later hb7).later b7)
 have D7 := hid ((D6.out.later hb7).later b7)
 have B7 := hid (btr (btr B6.out hb7) b7)
 clear hb7 b7 r1 r2 how A6 D6 B6 c0 R1 R2 X6
 have c0 := X6b.out.cells
 have c1 := X7.out.cells
 obtain ⟨W7, hW7⟩ : ∃ W7, w7.alloc (.cells #[.int .i64 g', .string nm', .int .i64 t', .int .i64 b', .int .i64 nx', .slice (some ⟨km', 0, none⟩) mn' mn', .slice (some ⟨kg', 0, none⟩) gn' gn'] 29) = W7 := ⟨_, rfl⟩
 rw [hW7] at X7 R1' R2' R3 R4 X6b A7 D7 B7
 have HY := hid hW7
 clear hW7
 go_wp2_with fail
 rw [HY.out]
 refine (implFits_any _ _ _ _ g nm t b nx (some ⟨km, 0, none⟩) mn mn (some ⟨kg, 0, none⟩) gn gn L G _ _ _ _ g' nm' t' b' nx' (some ⟨km', 0, none⟩) mn' mn' (some ⟨kg', 0, none⟩) gn' gn' L' G' W7 S1.out HL.out S2.out S4.out R3.out (fun e => by cases e) HGL.out S3.out R4.out (fun e => by cases e) S1'.out HL'.out S2'.out S4'.out R1'.out (fun e => by cases e) HGL'.out S3'.out R2'.out (fun e => by cases e) SUM.out.1 SUM.out.2).mono ?_; rintro e w8 ⟨rfl, hb8⟩
 rw [HR2.out]
 have xx : (r' != r') = false := by simp
 have A8 := hid (A7.out.later hb8)
 have D8 := hid (D7.out.later hb8)
 have B8 := hid (btr B7.out hb8)
 have X8 := hid (X6b.out.later hb8)
 have Y8 := hid (X7.out.later hb8)
 have U1 := hid (R3.out.later hb8)
 have U2 := hid (R4.out.later hb8)
 have U3 := hid (R1'.out.later hb8)
 have U4 := hid (R2'.out.later hb8)
 clear hb8 A7 D7 B7 X6b X7 R3 R4 R1' R2' c0 c1 HX HY
 have HZ : Hid (∀ W, Below w8.heap.size w8 W → (W.cell? ⟨w.heap.size, 0, none⟩ = some (.int .i64 g) ∧ W.cell? ⟨w.heap.size, 1, none⟩ = some (.string nm) ∧ W.cell? ⟨w.heap.size, 2, none⟩ = some (.int .i64 t) ∧ W.cell? ⟨w.heap.size, 3, none⟩ = some (.int .i64 b) ∧ W.cell? ⟨w.heap.size, 4, none⟩ = some (.int .i64 nx) ∧ W.cell? ⟨w.heap.size, 5, none⟩ = some (.slice ma mn mc) ∧ W.cell? ⟨w.heap.size, 6, none⟩ = some (.slice ga gn gc)) ∧ (W.cell? ⟨w.heap.size + 1, 0, none⟩ = some (.int .i64 g') ∧ W.cell? ⟨w.heap.size + 1, 1, none⟩ = some (.string nm') ∧ W.cell? ⟨w.heap.size + 1, 2, none⟩ = some (.int .i64 t') ∧ W.cell? ⟨w.heap.size + 1, 3, none⟩ = some (.int .i64 b') ∧ W.cell? ⟨w.heap.size + 1, 4, none⟩ = some (.int .i64 nx') ∧ W.cell? ⟨w.heap.size + 1, 5, none⟩ = some (.slice ma' mn' mc') ∧ W.cell? ⟨w.heap.size + 1, 6, none⟩ = some (.slice ga' gn' gc')) ∧ (W.cell? ⟨w6.heap.size, 0, none⟩ = some (.int .i64 g) ∧ W.cell? ⟨w6.heap.size, 1, none⟩ = some (.string nm) ∧ W.cell? ⟨w6.heap.size, 2, none⟩ = some (.int .i64 t) ∧ W.cell? ⟨w6.heap.size, 3, none⟩ = some (.int .i64 b) ∧ W.cell? ⟨w6.heap.size, 4, none⟩ = some (.int .i64 nx) ∧ W.cell? ⟨w6.heap.size, 5, none⟩ = some (.slice (some ⟨km, 0, none⟩) mn mn) ∧ W.cell? ⟨w6.heap.size, 6, none⟩ = some (.slice (some ⟨kg, 0, none⟩) gn gn)) ∧ (W.cell? ⟨w7.heap.size, 0, none⟩ = some (.int .i64 g') ∧ W.cell? ⟨w7.heap.size, 1, none⟩ = some (.string nm') ∧ W.cell? ⟨w7.heap.size, 2, none⟩ = some (.int .i64 t') ∧ W.cell? ⟨w7.heap.size, 3, none⟩ = some (.int .i64 b') ∧ W.cell? ⟨w7.heap.size, 4, none⟩ = some (.int .i64 nx') ∧ W.cell? ⟨w7.heap.size, 5, none⟩ = some (.slice (some ⟨km', 0, none⟩) mn' mn') ∧ W.cell? ⟨w7.heap.size, 6, none⟩ = some (.slice (some ⟨kg', 0, none⟩) gn' gn'))) :=
  fun W h => ⟨(A8.out.later h).cells, (D8.out.later h).cells, (X8.out.later h).cells, (Y8.out.later h).cells⟩
 go_wp2_with fail
 go_region_held3 (fun W => (W.cell? ⟨w.heap.size, 0, none⟩ = some (.int .i64 g) ∧ W.cell? ⟨w.heap.size, 1, none⟩ = some (.string nm) ∧ W.cell? ⟨w.heap.size, 2, none⟩ = some (.int .i64 t) ∧ W.cell? ⟨w.heap.size, 3, none⟩ = some (.int .i64 b) ∧ W.cell? ⟨w.heap.size, 4, none⟩ = some (.int .i64 nx) ∧ W.cell? ⟨w.heap.size, 5, none⟩ = some (.slice ma mn mc) ∧ W.cell? ⟨w.heap.size, 6, none⟩ = some (.slice ga gn gc)) ∧ (W.cell? ⟨w.heap.size + 1, 0, none⟩ = some (.int .i64 g') ∧ W.cell? ⟨w.heap.size + 1, 1, none⟩ = some (.string nm') ∧ W.cell? ⟨w.heap.size + 1, 2, none⟩ = some (.int .i64 t') ∧ W.cell? ⟨w.heap.size + 1, 3, none⟩ = some (.int .i64 b') ∧ W.cell? ⟨w.heap.size + 1, 4, none⟩ = some (.int .i64 nx') ∧ W.cell? ⟨w.heap.size + 1, 5, none⟩ = some (.slice ma' mn' mc') ∧ W.cell? ⟨w.heap.size + 1, 6, none⟩ = some (.slice ga' gn' gc')) ∧ (W.cell? ⟨w6.heap.size, 0, none⟩ = some (.int .i64 g) ∧ W.cell? ⟨w6.heap.size, 1, none⟩ = some (.string nm) ∧ W.cell? ⟨w6.heap.size, 2, none⟩ = some (.int .i64 t) ∧ W.cell? ⟨w6.heap.size, 3, none⟩ = some (.int .i64 b) ∧ W.cell? ⟨w6.heap.size, 4, none⟩ = some (.int .i64 nx) ∧ W.cell? ⟨w6.heap.size, 5, none⟩ = some (.slice (some ⟨km, 0, none⟩) mn mn) ∧ W.cell? ⟨w6.heap.size, 6, none⟩ = some (.slice (some ⟨kg, 0, none⟩) gn gn)) ∧ (W.cell? ⟨w7.heap.size, 0, none⟩ = some (.int .i64 g') ∧ W.cell? ⟨w7.heap.size, 1, none⟩ = some (.string nm') ∧ W.cell? ⟨w7.heap.size, 2, none⟩ = some (.int .i64 t') ∧ W.cell? ⟨w7.heap.size, 3, none⟩ = some (.int .i64 b') ∧ W.cell? ⟨w7.heap.size, 4, none⟩ = some (.int .i64 nx') ∧ W.cell? ⟨w7.heap.size, 5, none⟩ = some (.slice (some ⟨km', 0, none⟩) mn' mn') ∧ W.cell? ⟨w7.heap.size, 6, none⟩ = some (.slice (some ⟨kg', 0, none⟩) gn' gn')))
  ((refine HZ.out _ ?_; repeat (first | exact bdr (bre _) | exact P10.out | exact P9.out | refine btr ?_ (by assumption))))
  ((first
    | (go_at_call 30; (with_reducible refine (toBox_any lo1 hi1 lo2 hi2 g nm t b nx ma mn mc ga gn gc L G _ HL.out S2.out S4.out (HM.out.later (btr B8.out (bdr (bre _)))) HGL.out S3.out (HS.out.later (btr B8.out (bdr (bre _))))).mono ?_); rintro e w9 ⟨km9, kg9, rfl, how, hb9⟩; have O9 := hid how; have P9 : Hid (Below w8.heap.size w8 w9) := btr (bdr (bre _)) hb9)
    | (go_at_call 32; (with_reducible refine (eqBox_any _ _ _ _ _ _ _ _ g nm t b nx _ mn _ _ gn _ _ _ _ _ L G w9 HL.out S2.out S4.out (U1.out.later P9.out) O9.out.reads.2.2.1 HGL.out S3.out (U2.out.later P9.out) O9.out.reads.2.2.2).mono ?_); rintro e w10 ⟨rfl, hb10⟩; have P10 : Hid (Below w8.heap.size w8 w10) := btr P9.out hb10)))
 clear O9 P9
 go_wp2_with fail
 go_region_held3 (fun W => (W.cell? ⟨w.heap.size, 0, none⟩ = some (.int .i64 g) ∧ W.cell? ⟨w.heap.size, 1, none⟩ = some (.string nm) ∧ W.cell? ⟨w.heap.size, 2, none⟩ = some (.int .i64 t) ∧ W.cell? ⟨w.heap.size, 3, none⟩ = some (.int .i64 b) ∧ W.cell? ⟨w.heap.size, 4, none⟩ = some (.int .i64 nx) ∧ W.cell? ⟨w.heap.size, 5, none⟩ = some (.slice ma mn mc) ∧ W.cell? ⟨w.heap.size, 6, none⟩ = some (.slice ga gn gc)) ∧ (W.cell? ⟨w.heap.size + 1, 0, none⟩ = some (.int .i64 g') ∧ W.cell? ⟨w.heap.size + 1, 1, none⟩ = some (.string nm') ∧ W.cell? ⟨w.heap.size + 1, 2, none⟩ = some (.int .i64 t') ∧ W.cell? ⟨w.heap.size + 1, 3, none⟩ = some (.int .i64 b') ∧ W.cell? ⟨w.heap.size + 1, 4, none⟩ = some (.int .i64 nx') ∧ W.cell? ⟨w.heap.size + 1, 5, none⟩ = some (.slice ma' mn' mc') ∧ W.cell? ⟨w.heap.size + 1, 6, none⟩ = some (.slice ga' gn' gc')) ∧ (W.cell? ⟨w6.heap.size, 0, none⟩ = some (.int .i64 g) ∧ W.cell? ⟨w6.heap.size, 1, none⟩ = some (.string nm) ∧ W.cell? ⟨w6.heap.size, 2, none⟩ = some (.int .i64 t) ∧ W.cell? ⟨w6.heap.size, 3, none⟩ = some (.int .i64 b) ∧ W.cell? ⟨w6.heap.size, 4, none⟩ = some (.int .i64 nx) ∧ W.cell? ⟨w6.heap.size, 5, none⟩ = some (.slice (some ⟨km, 0, none⟩) mn mn) ∧ W.cell? ⟨w6.heap.size, 6, none⟩ = some (.slice (some ⟨kg, 0, none⟩) gn gn)) ∧ (W.cell? ⟨w7.heap.size, 0, none⟩ = some (.int .i64 g') ∧ W.cell? ⟨w7.heap.size, 1, none⟩ = some (.string nm') ∧ W.cell? ⟨w7.heap.size, 2, none⟩ = some (.int .i64 t') ∧ W.cell? ⟨w7.heap.size, 3, none⟩ = some (.int .i64 b') ∧ W.cell? ⟨w7.heap.size, 4, none⟩ = some (.int .i64 nx') ∧ W.cell? ⟨w7.heap.size, 5, none⟩ = some (.slice (some ⟨km', 0, none⟩) mn' mn') ∧ W.cell? ⟨w7.heap.size, 6, none⟩ = some (.slice (some ⟨kg', 0, none⟩) gn' gn')))
  ((refine HZ.out _ ?_; repeat (first | exact bdr P10.out | exact P12.out | exact P11.out | refine btr ?_ (by assumption))))
  ((first
    | (go_at_call 30; (with_reducible refine (toBox_any lo3 hi3 lo4 hi4 g' nm' t' b' nx' ma' mn' mc' ga' gn' gc' L' G' _ HL'.out S2'.out S4'.out (HM'.out.later (btr B8.out (bdr P10.out))) HGL'.out S3'.out (HS'.out.later (btr B8.out (bdr P10.out)))).mono ?_); rintro e w11 ⟨km9, kg9, rfl, how, hb9⟩; have O9 := hid how; have P11 : Hid (Below w8.heap.size w8 w11) := btr (bdr P10.out) hb9)
    | (go_at_call 32; (with_reducible refine (eqBox_any _ _ _ _ _ _ _ _ g' nm' t' b' nx' _ mn' _ _ gn' _ _ _ _ _ L' G' w11 HL'.out S2'.out S4'.out (U3.out.later P11.out) O9.out.reads.2.2.1 HGL'.out S3'.out (U4.out.later P11.out) O9.out.reads.2.2.2).mono ?_); rintro e w12 ⟨rfl, hb10⟩; have P12 : Hid (Below w8.heap.size w8 w12) := btr P11.out hb10)))
 go_wp2
 go_ret
 exact ⟨rfl, btr B8.out P12.out⟩
end Go.Proofs.YtmpcmllfgogegaaGreat
