/- Ljm. -/

import Derived.Test.YtmpcmllfgogegaaGreatxHim
namespace Go.Proofs.YtmpcmllfgogegaaGreat
open Go.RowKit Go.ChangeMaps
set_option maxHeartbeats 4000000 in
set_option maxRecDepth 100000 in
theorem lawJoinMails_any (lo1 hi1 lo2 hi2 : Nat) (g : Int) (nm : ByteArray) (t b nx : Int) (ma : Option Addr) (mn mc : Nat) (ga : Option Addr) (gn gc : Nat) (L : List M4) (G : List Int) (lo3 hi3 lo4 hi4 : Nat) (g' : Int) (nm' : ByteArray) (t' b' nx' : Int) (ma' : Option Addr) (mn' mc' : Nat) (ga' : Option Addr) (gn' gc' : Nat) (L' : List M4) (G' : List Int) (w : World) (hnm : (nm.size : Int) ≤ 9223372036854775807) (hl : L.length = mn) (hn : (mn : Int) ≤ 9223372036854775807) (hft : Fit L) (hm : Ms lo1 hi1 w ma L) (hgl : G.length = gn) (hgn : (gn : Int) ≤ 9223372036854775807) (hs : Is lo2 hi2 w ga G) (hnm' : (nm'.size : Int) ≤ 9223372036854775807) (hl' : L'.length = mn') (hn' : (mn' : Int) ≤ 9223372036854775807) (hft' : Fit L') (hm' : Ms lo3 hi3 w ma' L') (hgl' : G'.length = gn') (hgn' : (gn' : Int) ≤ 9223372036854775807) (hs' : Is lo4 hi4 w ga' G') :
  Calls Tryz.prog 6 #[.agg #[.int .i64 g, .string nm, .int .i64 t, .int .i64 b, .int .i64 nx, .slice ma mn mc, .slice ga gn gc], .agg #[.int .i64 g', .string nm', .int .i64 t', .int .i64 b', .int .i64 nx', .slice ma' mn' mc', .slice ga' gn' gc']] w fun e w' => e = .returned (.bool true) ∧ Below w.heap.size w w' := by
 obtain ⟨W0, hW0⟩ : ∃ W0, (w.alloc (.cells #[.int .i64 g, .string nm, .int .i64 t, .int .i64 b, .int .i64 nx, .slice ma mn mc, .slice ga gn gc] 52)).alloc (.cells #[.int .i64 g', .string nm', .int .i64 t', .int .i64 b', .int .i64 nx', .slice ma' mn' mc', .slice ga' gn' gc'] 52) = W0 := ⟨_, rfl⟩
 have a0 : Bx W0 w.heap.size 52 g nm t b nx (.slice ma mn mc) (.slice ga gn gc) := by subst hW0; exact (Bx.new w _ g nm t b nx _ _).later (bpush (bre _) _)
 have a1 : Bx W0 (w.heap.size + 1) 52 g' nm' t' b' nx' (.slice ma' mn' mc') (.slice ga' gn' gc') := by
  subst hW0
  have h := Bx.new (w.alloc (.cells #[.int .i64 g, .string nm, .int .i64 t, .int .i64 b, .int .i64 nx, .slice ma mn mc, .slice ga gn gc] 52)) 52 g' nm' t' b' nx' (.slice ma' mn' mc') (.slice ga' gn' gc')
  rwa [show (w.alloc (.cells #[.int .i64 g, .string nm, .int .i64 t, .int .i64 b, .int .i64 nx, .slice ma mn mc, .slice ga gn gc] 52)).heap.size = w.heap.size + 1 by simp] at h
 have b0 : Below w.heap.size w W0 := by subst hW0; exact bpush (bpush (bre _) _) _
 have c0 := a0.cells
 have A0 := hid a0
 have D0 := hid a1
 have B0 := hid b0
 have HM := hid hm
 have HS := hid hs
 have HF := hid hft
 have HL := hid hl
 have HGL := hid hgl
 have HN := hid hn
 have HGN := hid hgn
 have HNM := hid hnm
 have HM' := hid hm'
 have HS' := hid hs'
 have HF' := hid hft'
 have HL' := hid hl'
 have HGL' := hid hgl'
 have HN' := hid hn'
 have HGN' := hid hgn'
 have HNM' := hid hnm'
 clear a0 a1 b0 hm hs hft hl hgl hn hgn hnm hm' hs' hft' hl' hgl' hn' hgn' hnm'
 go_enter Tryz.func6, Tryz.ntmps6
 go_wp2_with fail
 clear hW0
 refine (szBox_any lo1 hi1 g nm t b nx ma mn mc ga gn gc L _ HNM.out HL.out HN.out HF.out (HM.out.later B0.out) HGN.out).mono ?_; rintro e w1 ⟨rfl, hb1⟩
 have A1 := hid (A0.out.later hb1)
 have D1 := hid (D0.out.later hb1)
 have B1 := hid (btr B0.out hb1)
 clear hb1 A0 D0 B0 c0
 by_cases hbig : (1048576 : Int) < ((nm.size + szL L + gn : Nat) : Int)
 ·rw [szr_over hbig]
  clear hbig
  go_wp2
  go_ret
  exact ⟨rfl, B1.out⟩
 obtain ⟨s1, s2, s3, s4⟩ := small8 (Int.le_refl _) hbig
 obtain ⟨q, hq⟩ : ∃ q, szr 1048576 (nm.size + szL L + gn) = q := ⟨_, rfl⟩
 have h0 : ¬ q < 0 := by rw [← hq, szr_fits hbig]; omega
 have h1 : 0 ≤ q ∧ q ≤ 1048576 := by rw [← hq, szr_fits hbig]; omega
 rw [hq]
 have S1 := hid s1
 have S2 : Hid (mn ≤ 1048576) := by show _ ≤ _; rw [← HL.out]; exact s2
 have S3 := hid s3
 have S4 := hid s4
 have Q1 := hid h1
 have QE : Hid (q + ((nm.size + szL L + gn : Nat) : Int) = 1048576) := by show _ = _; rw [← hq, szr_fits hbig]; omega
 have c0 := D1.out.cells
 clear hq hbig s1 s2 s3 s4 h1
 go_wp2_with fail
 refine (szBoxL_any q Q1.out lo3 hi3 g' nm' t' b' nx' ma' mn' mc' ga' gn' gc' L' _ HNM'.out HL'.out HN'.out HF'.out (HM'.out.later B1.out) HGN'.out).mono ?_; rintro e w2 ⟨rfl, hb2⟩
 have A2 := hid (A1.out.later hb2)
 have D2 := hid (D1.out.later hb2)
 have B2 := hid (btr B1.out hb2)
 clear hb2 A1 D1 B1 c0 h0
 by_cases hbig : q < ((nm'.size + szL L' + gn' : Nat) : Int)
 ·rw [szr_over hbig]
  clear hbig
  go_wp2
  go_ret
  exact ⟨rfl, B2.out⟩
 obtain ⟨s1, s2, s3, s4⟩ := small8 Q1.out.2 hbig
 obtain ⟨r, hr⟩ : ∃ r, szr q (nm'.size + szL L' + gn') = r := ⟨_, rfl⟩
 have h0 : ¬ r < 0 := by rw [← hr, szr_fits hbig]; omega
 rw [hr]
 have S1' := hid s1
 have S2' : Hid (mn' ≤ 1048576) := by show _ ≤ _; rw [← HL'.out]; exact s2
 have S3' := hid s3
 have S4' := hid s4
 have SUM : Hid (mn + mn' ≤ 1048576 ∧ gn + gn' ≤ 1048576 ∧ fz L + fz L' + gn + gn' ≤ 1048576) := by
  have h5 := QE.out
  have h6 := fz_le L
  have h7 := fz_le L'
  have h8 : L.length ≤ szL L := by unfold szL; omega
  have h9 : L'.length ≤ szL L' := by unfold szL; omega
  rw [HL.out] at h8
  rw [HL'.out] at h9
  refine ⟨?_, ?_, ?_⟩ <;> omega
 obtain ⟨JL, hJL⟩ : ∃ JL, (jms L L' G G' nx nx' (asl (L.map (·.1) ++ L'.map (·.1)))).1 = JL := ⟨_, rfl⟩
 obtain ⟨jn, hjn⟩ : ∃ jn, JL.length = jn := ⟨_, rfl⟩
 have HJL := hid hJL
 have HJN := hid hjn
 have SJ : Hid (Sm JL ∧ jn ≤ 1048576 ∧ fz JL ≤ 1048576) := by
  have h1 := jms_small (GA := G) (GB := G') (na := nx) (nb := nx') S4.out S4'.out (asl (L.map (·.1) ++ L'.map (·.1))) ([], mx8 nx nx') (fun m hm => by cases hm)
  have h2 := fz_jms L L' G G' nx nx'
  have h3 := asl_len (L.map (·.1) ++ L'.map (·.1))
  rw [hJL] at h2
  have e : (jms L L' G G' nx nx' (asl (L.map (·.1) ++ L'.map (·.1)))).1 = ((asl (L.map (·.1) ++ L'.map (·.1))).foldl (jst L L' G G' nx nx') ([], mx8 nx nx')).1 := rfl
  rw [← e, hJL, hjn] at h1
  rw [List.length_append, List.length_map, List.length_map, HL.out, HL'.out] at h3
  have h4 := SUM.out
  have h5 := h1.2
  simp only [List.length_nil, Nat.zero_add] at h5
  exact ⟨h1.1, by omega, by omega⟩
 clear hr hbig s1 s2 s3 s4 hJL hjn
 have HZ : Hid (∀ W, Below w2.heap.size w2 W → (W.cell? ⟨w.heap.size, 0, none⟩ = some (.int .i64 g) ∧ W.cell? ⟨w.heap.size, 1, none⟩ = some (.string nm) ∧ W.cell? ⟨w.heap.size, 2, none⟩ = some (.int .i64 t) ∧ W.cell? ⟨w.heap.size, 3, none⟩ = some (.int .i64 b) ∧ W.cell? ⟨w.heap.size, 4, none⟩ = some (.int .i64 nx) ∧ W.cell? ⟨w.heap.size, 5, none⟩ = some (.slice ma mn mc) ∧ W.cell? ⟨w.heap.size, 6, none⟩ = some (.slice ga gn gc)) ∧ (W.cell? ⟨w.heap.size + 1, 0, none⟩ = some (.int .i64 g') ∧ W.cell? ⟨w.heap.size + 1, 1, none⟩ = some (.string nm') ∧ W.cell? ⟨w.heap.size + 1, 2, none⟩ = some (.int .i64 t') ∧ W.cell? ⟨w.heap.size + 1, 3, none⟩ = some (.int .i64 b') ∧ W.cell? ⟨w.heap.size + 1, 4, none⟩ = some (.int .i64 nx') ∧ W.cell? ⟨w.heap.size + 1, 5, none⟩ = some (.slice ma' mn' mc') ∧ W.cell? ⟨w.heap.size + 1, 6, none⟩ = some (.slice ga' gn' gc'))) :=
  fun W h => ⟨(A2.out.later h).cells, (D2.out.later h).cells⟩
 go_wp2_with fail
 go_region_held3 (fun W => (W.cell? ⟨w.heap.size, 0, none⟩ = some (.int .i64 g) ∧ W.cell? ⟨w.heap.size, 1, none⟩ = some (.string nm) ∧ W.cell? ⟨w.heap.size, 2, none⟩ = some (.int .i64 t) ∧ W.cell? ⟨w.heap.size, 3, none⟩ = some (.int .i64 b) ∧ W.cell? ⟨w.heap.size, 4, none⟩ = some (.int .i64 nx) ∧ W.cell? ⟨w.heap.size, 5, none⟩ = some (.slice ma mn mc) ∧ W.cell? ⟨w.heap.size, 6, none⟩ = some (.slice ga gn gc)) ∧ (W.cell? ⟨w.heap.size + 1, 0, none⟩ = some (.int .i64 g') ∧ W.cell? ⟨w.heap.size + 1, 1, none⟩ = some (.string nm') ∧ W.cell? ⟨w.heap.size + 1, 2, none⟩ = some (.int .i64 t') ∧ W.cell? ⟨w.heap.size + 1, 3, none⟩ = some (.int .i64 b') ∧ W.cell? ⟨w.heap.size + 1, 4, none⟩ = some (.int .i64 nx') ∧ W.cell? ⟨w.heap.size + 1, 5, none⟩ = some (.slice ma' mn' mc') ∧ W.cell? ⟨w.heap.size + 1, 6, none⟩ = some (.slice ga' gn' gc')))
  ((refine HZ.out _ ?_; repeat (first | exact bdr (bre _) | exact P5.out | exact P4.out | exact P3.out | refine btr ?_ (by assumption))))
  ((first
    | (go_at_call 30; first
      | ((with_reducible refine (toBox_any lo1 hi1 lo2 hi2 g nm t b nx ma mn mc ga gn gc L G _ HL.out S2.out S4.out (HM.out.later (btr B2.out (bdr (bre _)))) HGL.out S3.out (HS.out.later (btr B2.out (bdr (bre _))))).mono ?_); rintro e w3 ⟨km, kg, rfl, how, hb3⟩; have O3 := hid how; have P3 : Hid (Below w2.heap.size w2 w3) := btr (bdr (bre _)) hb3)
      | ((with_reducible refine (toBox_any lo3 hi3 lo4 hi4 g' nm' t' b' nx' ma' mn' mc' ga' gn' gc' L' G' _ HL'.out S2'.out S4'.out (HM'.out.later (btr B2.out P3.out)) HGL'.out S3'.out (HS'.out.later (btr B2.out P3.out))).mono ?_); rintro e w4 ⟨km', kg', rfl, how', hb4⟩; have O4 := hid how'; have O3b := hid (((O3.out.reads.2.2.1).later hb4)); have O3c := hid (((O3.out.reads.2.2.2).later hb4)); have P4 : Hid (Below w2.heap.size w2 w4) := btr P3.out hb4))
    | (go_at_call 29; (with_reducible refine (specJoinMails_any _ _ _ _ g nm t b nx (some ⟨km, 0, none⟩) mn mn (some ⟨kg, 0, none⟩) gn gn L G _ _ _ _ g' nm' t' b' nx' (some ⟨km', 0, none⟩) mn' mn' (some ⟨kg', 0, none⟩) gn' gn' L' G' w4 HL.out S2.out S4.out O3b.out HGL.out S3.out O3c.out HL'.out S2'.out S4'.out O4.out.reads.2.2.1 HGL'.out S3'.out O4.out.reads.2.2.2 SUM.out.1).mono ?_); rintro e w5 ⟨v0, Zv, rfl, o5, e5, hb5⟩; rw [HJL.out] at e5; obtain ⟨va, vc, rfl⟩ := o5.shape; have P5 : Hid (Below w2.heap.size w2 w5) := btr P4.out hb5; have V5 : Hid (OwZ w5 w2.heap.size (.slice va Zv.length vc) Zv) := o5.base P4.out.size; have EV := hid e5; clear o5 e5)))
 obtain ⟨zn, hzn⟩ : ∃ zn, Zv.length = zn := ⟨_, rfl⟩
 rw [hzn] at V5 ⊢
 obtain rfl : zn = jn := by
  have h := congrArg List.length EV.out
  rw [List.length_map, hzn, HJN.out] at h
  exact h
 have HZN := hid hzn
 have VB : Hid ((∀ j, Value.ownBlock (.slice va zn vc) = some j → j < w5.heap.size) ∧ ∀ z ∈ Zv, ∀ j, z.2.2.1.ownBlock = some j → j < w5.heap.size) := ⟨fun j hj => (V5.out.row.lt j hj).2, fun z hz j hj => ((V5.out.each z hz).lt j hj).2⟩
 have AB : Hid (w.heap.size < w5.heap.size ∧ w.heap.size + 1 < w5.heap.size) := ⟨(A2.out.later P5.out).lt, (D2.out.later P5.out).lt⟩
 clear hzn
 have A5 := hid (A2.out.later P5.out)
 have D5 := hid (D2.out.later P5.out)
 have B5 := hid (btr B2.out P5.out)
 clear A2 D2 B2 HZ P3 P4 P5 O3 O4 O3b O3c
 have c0 := A5.out.cells
 go_wp2_with fail
 refine (toBox_any lo1 hi1 lo2 hi2 g nm t b nx ma mn mc ga gn gc L G _ HL.out S2.out S4.out (HM.out.later B5.out) HGL.out S3.out (HS.out.later B5.out)).mono ?_; rintro e w6 ⟨km, kg, rfl, how, hb6⟩
 obtain ⟨-, -, r1, r2⟩ := how.reads
 have X6 := hid (Bx.new w6 29 g nm t b nx (.slice (some ⟨km, 0, none⟩) mn mn) (.slice (some ⟨kg, 0, none⟩) gn gn))
 have b6 : Below w6.heap.size w6 (w6.alloc (.cells #[.int .i64 g, .string nm, .int .i64 t, .int .i64 b, .int .i64 nx, .slice (some ⟨km, 0, none⟩) mn mn, .slice (some ⟨kg, 0, none⟩) gn gn] 29)) := bpush (bre _) _
 have R1 := hid (r1.later b6)
 have R2 := hid (r2.later b6)
 have H6 := hid (how.h.later b6)
 have V6 := hid ((V5.out.later hb6).later b6)
 have Z6 : Hid (w5.heap.size ≤ w6.heap.size) := hb6.size
 have A6 := hid ((A5.out.later hb6).later b6)
 have D6 := hid ((D5.out.later hb6).later b6)
 have B6 := hid (btr (btr B5.out hb6) b6)
 clear hb6 b6 r1 r2 how A5 D5 B5 c0
 have c0 := D6.out.cells
 obtain ⟨W6, hW6⟩ : ∃ W6, w6.alloc (.cells #[.int .i64 g, .string nm, .int .i64 t, .int .i64 b, .int .i64 nx, .slice (some ⟨km, 0, none⟩) mn mn, .slice (some ⟨kg, 0, none⟩) gn gn] 29) = W6 := ⟨_, rfl⟩
 rw [hW6] at X6 R1 R2 A6 D6 B6 H6 V6
 have HX := hid hW6
 have Y6 : Hid (w6.heap.size < W6.heap.size) := X6.out.lt
 clear hW6 V5
 go_wp2_with fail
 rw [HX.out]
 refine (toBox_any lo3 hi3 lo4 hi4 g' nm' t' b' nx' ma' mn' mc' ga' gn' gc' L' G' _ HL'.out S2'.out S4'.out (HM'.out.later B6.out) HGL'.out S3'.out (HS'.out.later B6.out)).mono ?_; rintro e w7 ⟨km', kg', rfl, how, hb7⟩
 obtain ⟨-, -, r1, r2⟩ := how.reads
 have X7 := hid (Bx.new w7 29 g' nm' t' b' nx' (.slice (some ⟨km', 0, none⟩) mn' mn') (.slice (some ⟨kg', 0, none⟩) gn' gn'))
 have b7 : Below w7.heap.size w7 (w7.alloc (.cells #[.int .i64 g', .string nm', .int .i64 t', .int .i64 b', .int .i64 nx', .slice (some ⟨km', 0, none⟩) mn' mn', .slice (some ⟨kg', 0, none⟩) gn' gn'] 29)) := bpush (bre _) _
 have R1' := hid (r1.later b7)
 have R2' := hid (r2.later b7)
 have H7 := hid (how.h.later b7)
 have H6b := hid ((H6.out.later hb7).later b7)
 have V7 := hid ((V6.out.later hb7).later b7)
 have Z7 : Hid (W6.heap.size ≤ w7.heap.size) := hb7.size
 have R3 := hid ((R1.out.later hb7).later b7)
 have R4 := hid ((R2.out.later hb7).later b7)
 have X6b := hid ((X6.out.later hb7).later b7)
 have A7 := hid ((A6.out.later hb7).later b7)
 have D7 := hid ((D6.out.later hb7).later b7)
 have B7 := hid (btr (btr B6.out hb7) b7)
 clear hb7 b7 r1 r2 how A6 D6 B6 c0 R1 R2 X6
 have c0 := X6b.out.cells
 have c1 := X7.out.cells
 obtain ⟨W7, hW7⟩ : ∃ W7, w7.alloc (.cells #[.int .i64 g', .string nm', .int .i64 t', .int .i64 b', .int .i64 nx', .slice (some ⟨km', 0, none⟩) mn' mn', .slice (some ⟨kg', 0, none⟩) gn' gn'] 29) = W7 := ⟨_, rfl⟩
 rw [hW7] at X7 R1' R2' R3 R4 X6b A7 D7 B7 H7 H6b V7
 have HY := hid hW7
 have Y7 : Hid (w7.heap.size < W7.heap.size) := X7.out.lt
 clear hW7 H6 V6
 go_wp2_with fail
 rw [HY.out]
 refine (implJoinMails_any _ _ _ _ g nm t b nx (some ⟨km, 0, none⟩) mn mn (some ⟨kg, 0, none⟩) gn gn L G _ _ _ _ g' nm' t' b' nx' (some ⟨km', 0, none⟩) mn' mn' (some ⟨kg', 0, none⟩) gn' gn' L' G' W7 S1.out HL.out S2.out S4.out R3.out (fun e => by cases e) HGL.out S3.out R4.out (fun e => by cases e) S1'.out HL'.out S2'.out S4'.out R1'.out (fun e => by cases e) HGL'.out S3'.out R2'.out (fun e => by cases e)).mono ?_; rintro e w8 ⟨v8, Zg, rfl, o8, e8, hb8⟩
 rw [HJL.out] at e8
 obtain ⟨xa, xc, rfl⟩ := o8.shape
 obtain ⟨xn, hxn⟩ : ∃ xn, Zg.length = xn := ⟨_, rfl⟩
 rw [hxn] at o8 ⊢
 obtain rfl : xn = zn := by
  have h := congrArg List.length e8
  rw [List.length_map, hxn, HJN.out] at h
  exact h
 have HXN := hid hxn
 have G8 := hid o8
 have EG := hid e8
 have H8 := hid (H7.out.later hb8)
 have K8 := hid (H6b.out.later hb8)
 have V8 := hid (V7.out.later hb8)
 have Z8 : Hid (W7.heap.size ≤ w8.heap.size) := hb8.size
 have A8 := hid (A7.out.later hb8)
 have D8 := hid (D7.out.later hb8)
 have B8 := hid (btr B7.out hb8)
 have X8 := hid (X6b.out.later hb8)
 have Y8 := hid (X7.out.later hb8)
 have U1 := hid (R3.out.later hb8)
 have U2 := hid (R4.out.later hb8)
 have U3 := hid (R1'.out.later hb8)
 have U4 := hid (R2'.out.later hb8)
 clear hb8 A7 D7 B7 X6b X7 R3 R4 R1' R2' c0 c1 HX HY o8 e8 hxn H7 H6b V7
 go_wp2_with fail
 refine (eqMailS_any _ _ _ _ xa va xn xc vc JL _ HJN.out SJ.out.2.1 SJ.out.1 (by rw [← EG.out]; exact G8.out.ms.2) (by rw [← EV.out]; exact V8.out.ms.2)).mono ?_; rintro e w8b ⟨rfl, hb8⟩
 have A8 := hid (A8.out.later hb8)
 have D8 := hid (D8.out.later hb8)
 have B8 := hid (btr B8.out hb8)
 have X8 := hid (X8.out.later hb8)
 have Y8 := hid (Y8.out.later hb8)
 have U1 := hid (U1.out.later hb8)
 have U2 := hid (U2.out.later hb8)
 have U3 := hid (U3.out.later hb8)
 have U4 := hid (U4.out.later hb8)
 have G8 := hid (G8.out.later hb8)
 have H8 := hid (H8.out.later hb8)
 have K8 := hid (K8.out.later hb8)
 have V8 := hid (V8.out.later hb8)
 clear hb8
 have HZ : Hid (∀ W, Below w8b.heap.size w8b W → (W.cell? ⟨w.heap.size, 0, none⟩ = some (.int .i64 g) ∧ W.cell? ⟨w.heap.size, 1, none⟩ = some (.string nm) ∧ W.cell? ⟨w.heap.size, 2, none⟩ = some (.int .i64 t) ∧ W.cell? ⟨w.heap.size, 3, none⟩ = some (.int .i64 b) ∧ W.cell? ⟨w.heap.size, 4, none⟩ = some (.int .i64 nx) ∧ W.cell? ⟨w.heap.size, 5, none⟩ = some (.slice ma mn mc) ∧ W.cell? ⟨w.heap.size, 6, none⟩ = some (.slice ga gn gc)) ∧ (W.cell? ⟨w.heap.size + 1, 0, none⟩ = some (.int .i64 g') ∧ W.cell? ⟨w.heap.size + 1, 1, none⟩ = some (.string nm') ∧ W.cell? ⟨w.heap.size + 1, 2, none⟩ = some (.int .i64 t') ∧ W.cell? ⟨w.heap.size + 1, 3, none⟩ = some (.int .i64 b') ∧ W.cell? ⟨w.heap.size + 1, 4, none⟩ = some (.int .i64 nx') ∧ W.cell? ⟨w.heap.size + 1, 5, none⟩ = some (.slice ma' mn' mc') ∧ W.cell? ⟨w.heap.size + 1, 6, none⟩ = some (.slice ga' gn' gc')) ∧ (W.cell? ⟨w6.heap.size, 0, none⟩ = some (.int .i64 g) ∧ W.cell? ⟨w6.heap.size, 1, none⟩ = some (.string nm) ∧ W.cell? ⟨w6.heap.size, 2, none⟩ = some (.int .i64 t) ∧ W.cell? ⟨w6.heap.size, 3, none⟩ = some (.int .i64 b) ∧ W.cell? ⟨w6.heap.size, 4, none⟩ = some (.int .i64 nx) ∧ W.cell? ⟨w6.heap.size, 5, none⟩ = some (.slice (some ⟨km, 0, none⟩) mn mn) ∧ W.cell? ⟨w6.heap.size, 6, none⟩ = some (.slice (some ⟨kg, 0, none⟩) gn gn)) ∧ (W.cell? ⟨w7.heap.size, 0, none⟩ = some (.int .i64 g') ∧ W.cell? ⟨w7.heap.size, 1, none⟩ = some (.string nm') ∧ W.cell? ⟨w7.heap.size, 2, none⟩ = some (.int .i64 t') ∧ W.cell? ⟨w7.heap.size, 3, none⟩ = some (.int .i64 b') ∧ W.cell? ⟨w7.heap.size, 4, none⟩ = some (.int .i64 nx') ∧ W.cell? ⟨w7.heap.size, 5, none⟩ = some (.slice (some ⟨km', 0, none⟩) mn' mn') ∧ W.cell? ⟨w7.heap.size, 6, none⟩ = some (.slice (some ⟨kg', 0, none⟩) gn' gn'))) :=
  fun W h => ⟨(A8.out.later h).cells, (D8.out.later h).cells, (X8.out.later h).cells, (Y8.out.later h).cells⟩
 go_wp2_with fail
 go_region_held3 (fun W => (W.cell? ⟨w.heap.size, 0, none⟩ = some (.int .i64 g) ∧ W.cell? ⟨w.heap.size, 1, none⟩ = some (.string nm) ∧ W.cell? ⟨w.heap.size, 2, none⟩ = some (.int .i64 t) ∧ W.cell? ⟨w.heap.size, 3, none⟩ = some (.int .i64 b) ∧ W.cell? ⟨w.heap.size, 4, none⟩ = some (.int .i64 nx) ∧ W.cell? ⟨w.heap.size, 5, none⟩ = some (.slice ma mn mc) ∧ W.cell? ⟨w.heap.size, 6, none⟩ = some (.slice ga gn gc)) ∧ (W.cell? ⟨w.heap.size + 1, 0, none⟩ = some (.int .i64 g') ∧ W.cell? ⟨w.heap.size + 1, 1, none⟩ = some (.string nm') ∧ W.cell? ⟨w.heap.size + 1, 2, none⟩ = some (.int .i64 t') ∧ W.cell? ⟨w.heap.size + 1, 3, none⟩ = some (.int .i64 b') ∧ W.cell? ⟨w.heap.size + 1, 4, none⟩ = some (.int .i64 nx') ∧ W.cell? ⟨w.heap.size + 1, 5, none⟩ = some (.slice ma' mn' mc') ∧ W.cell? ⟨w.heap.size + 1, 6, none⟩ = some (.slice ga' gn' gc')) ∧ (W.cell? ⟨w6.heap.size, 0, none⟩ = some (.int .i64 g) ∧ W.cell? ⟨w6.heap.size, 1, none⟩ = some (.string nm) ∧ W.cell? ⟨w6.heap.size, 2, none⟩ = some (.int .i64 t) ∧ W.cell? ⟨w6.heap.size, 3, none⟩ = some (.int .i64 b) ∧ W.cell? ⟨w6.heap.size, 4, none⟩ = some (.int .i64 nx) ∧ W.cell? ⟨w6.heap.size, 5, none⟩ = some (.slice (some ⟨km, 0, none⟩) mn mn) ∧ W.cell? ⟨w6.heap.size, 6, none⟩ = some (.slice (some ⟨kg, 0, none⟩) gn gn)) ∧ (W.cell? ⟨w7.heap.size, 0, none⟩ = some (.int .i64 g') ∧ W.cell? ⟨w7.heap.size, 1, none⟩ = some (.string nm') ∧ W.cell? ⟨w7.heap.size, 2, none⟩ = some (.int .i64 t') ∧ W.cell? ⟨w7.heap.size, 3, none⟩ = some (.int .i64 b') ∧ W.cell? ⟨w7.heap.size, 4, none⟩ = some (.int .i64 nx') ∧ W.cell? ⟨w7.heap.size, 5, none⟩ = some (.slice (some ⟨km', 0, none⟩) mn' mn') ∧ W.cell? ⟨w7.heap.size, 6, none⟩ = some (.slice (some ⟨kg', 0, none⟩) gn' gn')))
  ((refine HZ.out _ ?_; repeat (first | exact bdr (bre _) | exact P10.out | exact P9.out | refine btr ?_ (by assumption))))
  ((first
    | (go_at_call 30; (with_reducible refine (toBox_any lo1 hi1 lo2 hi2 g nm t b nx ma mn mc ga gn gc L G _ HL.out S2.out S4.out (HM.out.later (btr B8.out (bdr (bre _)))) HGL.out S3.out (HS.out.later (btr B8.out (bdr (bre _))))).mono ?_); rintro e w9 ⟨km9, kg9, rfl, how, hb9⟩; have O9 := hid how; have P9 : Hid (Below w8b.heap.size w8b w9) := btr (bdr (bre _)) hb9)
    | (go_at_call 32; (with_reducible refine (eqBox_any _ _ _ _ _ _ _ _ g nm t b nx _ mn _ _ gn _ _ _ _ _ L G w9 HL.out S2.out S4.out (U1.out.later P9.out) O9.out.reads.2.2.1 HGL.out S3.out (U2.out.later P9.out) O9.out.reads.2.2.2).mono ?_); rintro e w10 ⟨rfl, hb10⟩; have P10 : Hid (Below w8b.heap.size w8b w10) := btr P9.out hb10)))
 clear O9 P9
 go_wp2_with fail
 go_region_held3 (fun W => (W.cell? ⟨w.heap.size, 0, none⟩ = some (.int .i64 g) ∧ W.cell? ⟨w.heap.size, 1, none⟩ = some (.string nm) ∧ W.cell? ⟨w.heap.size, 2, none⟩ = some (.int .i64 t) ∧ W.cell? ⟨w.heap.size, 3, none⟩ = some (.int .i64 b) ∧ W.cell? ⟨w.heap.size, 4, none⟩ = some (.int .i64 nx) ∧ W.cell? ⟨w.heap.size, 5, none⟩ = some (.slice ma mn mc) ∧ W.cell? ⟨w.heap.size, 6, none⟩ = some (.slice ga gn gc)) ∧ (W.cell? ⟨w.heap.size + 1, 0, none⟩ = some (.int .i64 g') ∧ W.cell? ⟨w.heap.size + 1, 1, none⟩ = some (.string nm') ∧ W.cell? ⟨w.heap.size + 1, 2, none⟩ = some (.int .i64 t') ∧ W.cell? ⟨w.heap.size + 1, 3, none⟩ = some (.int .i64 b') ∧ W.cell? ⟨w.heap.size + 1, 4, none⟩ = some (.int .i64 nx') ∧ W.cell? ⟨w.heap.size + 1, 5, none⟩ = some (.slice ma' mn' mc') ∧ W.cell? ⟨w.heap.size + 1, 6, none⟩ = some (.slice ga' gn' gc')) ∧ (W.cell? ⟨w6.heap.size, 0, none⟩ = some (.int .i64 g) ∧ W.cell? ⟨w6.heap.size, 1, none⟩ = some (.string nm) ∧ W.cell? ⟨w6.heap.size, 2, none⟩ = some (.int .i64 t) ∧ W.cell? ⟨w6.heap.size, 3, none⟩ = some (.int .i64 b) ∧ W.cell? ⟨w6.heap.size, 4, none⟩ = some (.int .i64 nx) ∧ W.cell? ⟨w6.heap.size, 5, none⟩ = some (.slice (some ⟨km, 0, none⟩) mn mn) ∧ W.cell? ⟨w6.heap.size, 6, none⟩ = some (.slice (some ⟨kg, 0, none⟩) gn gn)) ∧ (W.cell? ⟨w7.heap.size, 0, none⟩ = some (.int .i64 g') ∧ W.cell? ⟨w7.heap.size, 1, none⟩ = some (.string nm') ∧ W.cell? ⟨w7.heap.size, 2, none⟩ = some (.int .i64 t') ∧ W.cell? ⟨w7.heap.size, 3, none⟩ = some (.int .i64 b') ∧ W.cell? ⟨w7.heap.size, 4, none⟩ = some (.int .i64 nx') ∧ W.cell? ⟨w7.heap.size, 5, none⟩ = some (.slice (some ⟨km', 0, none⟩) mn' mn') ∧ W.cell? ⟨w7.heap.size, 6, none⟩ = some (.slice (some ⟨kg', 0, none⟩) gn' gn')))
  ((refine HZ.out _ ?_; repeat (first | exact bdr P10.out | exact P12.out | exact P11.out | refine btr ?_ (by assumption))))
  ((first
    | (go_at_call 30; (with_reducible refine (toBox_any lo3 hi3 lo4 hi4 g' nm' t' b' nx' ma' mn' mc' ga' gn' gc' L' G' _ HL'.out S2'.out S4'.out (HM'.out.later (btr B8.out (bdr P10.out))) HGL'.out S3'.out (HS'.out.later (btr B8.out (bdr P10.out)))).mono ?_); rintro e w11 ⟨km9, kg9, rfl, how, hb9⟩; have O9 := hid how; have P11 : Hid (Below w8b.heap.size w8b w11) := btr (bdr P10.out) hb9)
    | (go_at_call 32; (with_reducible refine (eqBox_any _ _ _ _ _ _ _ _ g' nm' t' b' nx' _ mn' _ _ gn' _ _ _ _ _ L' G' w11 HL'.out S2'.out S4'.out (U3.out.later P11.out) O9.out.reads.2.2.1 HGL'.out S3'.out (U4.out.later P11.out) O9.out.reads.2.2.2).mono ?_); rintro e w12 ⟨rfl, hb10⟩; have P12 : Hid (Below w8b.heap.size w8b w12) := btr P11.out hb10)))
 have A12 := hid (A8.out.later P12.out)
 have D12 := hid (D8.out.later P12.out)
 have B12 := hid (btr B8.out P12.out)
 have X12 := hid (X8.out.later P12.out)
 have Y12 := hid (Y8.out.later P12.out)
 have G12 := hid (G8.out.later P12.out)
 have H12 := hid (H8.out.later P12.out)
 have K12 := hid (K8.out.later P12.out)
 have V12 := hid (V8.out.later P12.out)
 clear A8 D8 B8 X8 Y8 G8 H8 K8 V8 U1 U2 U3 U4 HZ O9 P11 P12 P10
 have c0 := X12.out.cells
 go_wp2_with fail
 refine (markBoxK_any 1 (by omega) w5.heap.size w6.heap.size g nm t b nx (some ⟨km, 0, none⟩) mn mn (some ⟨kg, 0, none⟩) gn gn L G _ K12.out HL.out S2.out S4.out HGL.out S3.out (by have := SUM.out.2.2; omega)).mono ?_; rintro e w13 ⟨rfl, q13⟩
 have o5 := Z6.out
 have o6 := Y6.out
 have o7 := Z7.out
 have o8 := Y7.out
 have ob := AB.out
 have X13 := hid (X12.out.chg q13 (by omega))
 have Y13 := hid (Y12.out.chg q13 (by omega))
 have A13 := hid (A12.out.chg q13 (by omega))
 have D13 := hid (D12.out.chg q13 (by omega))
 have G13 := hid (G12.out.chg q13 (fun j hj => by have := (G12.out.row.lt j hj).1; omega) (fun z hz j hj => by have := ((G12.out.each z hz).lt j hj).1; omega))
 have V13 := hid (V12.out.chg q13 (fun j hj => by have := VB.out.1 j hj; omega) (fun z hz j hj => by have := VB.out.2 z hz j hj; omega))
 have H13 := hid (H12.out.chg q13 (fun j h1 h2 => by omega))
 have B13 : Hid (Below w.heap.size w w13) := B12.out.trans (q13.below B12.out.size (fun j hj => by omega))
 obtain ⟨k1, hk1⟩ : ∃ k1 : Nat, 1 + 3 * fz L + gn = k1 := ⟨_, rfl⟩
 have HK1 : Hid (1 + 3 * fz L + gn = k1) := hk1
 rw [hk1]
 clear q13 hk1 X12 Y12 A12 D12 G12 V12 H12 K12 B12 c0 o5 o6 o7 o8 ob
 have c0 := Y13.out.cells
 go_wp2_with fail
 refine (markBoxK_any k1 (by have := HK1.out; omega) W6.heap.size w7.heap.size g' nm' t' b' nx' (some ⟨km', 0, none⟩) mn' mn' (some ⟨kg', 0, none⟩) gn' gn' L' G' _ H13.out HL'.out S2'.out S4'.out HGL'.out S3'.out (by have h1 := SUM.out.2.2; have h2 := HK1.out; omega)).mono ?_; rintro e w14 ⟨rfl, q14⟩
 have o5 := Z6.out
 have o6 := Y6.out
 have o7 := Z7.out
 have o8 := Y7.out
 have ob := AB.out
 have A14 := hid (A13.out.chg q14 (by omega))
 have D14 := hid (D13.out.chg q14 (by omega))
 have G14 := hid (G13.out.chg q14 (fun j hj => by have := (G13.out.row.lt j hj).1; omega) (fun z hz j hj => by have := ((G13.out.each z hz).lt j hj).1; omega))
 have V14 := hid (V13.out.chg q14 (fun j hj => by have := VB.out.1 j hj; omega) (fun z hz j hj => by have := VB.out.2 z hz j hj; omega))
 have B14 : Hid (Below w.heap.size w w14) := B13.out.trans (q14.below B13.out.size (fun j hj => by omega))
 obtain ⟨k2, hk2⟩ : ∃ k2 : Nat, k1 + 3 * fz L' + gn' = k2 := ⟨_, rfl⟩
 rw [hk2]
 have h02 : ¬ (k2 : Int) < 0 := by omega
 clear q14 hk2 X13 Y13 A13 D13 G13 V13 H13 B13 c0 o5 o6 o7 o8 ob
 go_wp2_with fail
 refine (eqMailS_any _ _ _ _ xa va xn xc vc JL _ HJN.out SJ.out.2.1 SJ.out.1 (by rw [← EG.out]; exact G14.out.ms.2) (by rw [← EV.out]; exact V14.out.ms.2)).mono ?_; rintro e w15 ⟨rfl, p15⟩
 have A15 := hid (A14.out.later p15)
 have D15 := hid (D14.out.later p15)
 have G15 := hid (G14.out.later p15)
 have V15 := hid (V14.out.later p15)
 have B15 := hid (btr B14.out p15)
 clear p15 A14 D14 G14 V14 B14 h02
 have HKZ : Hid (kz 1 Zg ≤ 4194304) := by
  show _ ≤ _
  rw [kz_fz, EG.out]
  have := SJ.out.2.2
  omega
 have HSG : Hid (Sm (Zg.map md)) := by show Sm _; rw [EG.out]; exact SJ.out.1
 go_wp2_with fail
 refine (markMS_any (fun j => W7.heap.size ≤ j) W7.heap.size xa xn xc 1 Zg _ G15.out HXN.out SJ.out.2.1 (by omega) HKZ.out HSG.out (fun j hj => (G15.out.row.lt j hj).1) (fun z hz j hj => ((G15.out.each z hz).lt j hj).1)).mono ?_; rintro e w16 ⟨rfl, g16, q16⟩
 have o5 := Z6.out
 have o6 := Y6.out
 have o7 := Z7.out
 have o8 := Y7.out
 have ob := AB.out
 have A16 := hid (A15.out.chg q16 (by omega))
 have D16 := hid (D15.out.chg q16 (by omega))
 have G16 := hid g16
 have V16 := hid (V15.out.chg q16 (fun j hj => by have := VB.out.1 j hj; omega) (fun z hz j hj => by have := VB.out.2 z hz j hj; omega))
 have B16 : Hid (Below w.heap.size w w16) := B15.out.trans (q16.below B15.out.size (fun j hj => by omega))
 have HH : Hid (∀ W, OwZ W W7.heap.size (.slice xa xn xc) (mzs 1 Zg) → Calls Tryz.prog 35 #[.slice xa xn xc, .int .i64 ((1 : Nat) : Int)] W fun e w' => e = .returned (.int .i64 (kz 1 Zg : Int)) ∧ Below W.heap.size W w') := fun W h => heldMS_any W7.heap.size xa xn xc 1 Zg W h HXN.out SJ.out.2.1 (by omega) HKZ.out HSG.out
 obtain ⟨k3, hk3⟩ : ∃ k3 : Nat, kz 1 Zg = k3 := ⟨_, rfl⟩
 rw [hk3] at HH ⊢
 have h03 : ¬ (k3 : Int) < 0 := by omega
 have h33 : ((k3 : Int) != (k3 : Int)) = false := by simp
 clear g16 q16 hk3 A15 D15 G15 V15 B15 o5 o6 o7 o8 ob
 go_wp2_with fail
 refine (HH.out _ G16.out).mono ?_; rintro e w17 ⟨rfl, p17⟩
 have A17 := hid (A16.out.later p17)
 have D17 := hid (D16.out.later p17)
 have G17 := hid (G16.out.later p17)
 have V17 := hid (V16.out.later p17)
 have B17 := hid (btr B16.out p17)
 clear p17 A16 D16 G16 V16 B16
 have HZ : Hid (∀ W, Below w17.heap.size w17 W → (W.cell? ⟨w.heap.size, 0, none⟩ = some (.int .i64 g) ∧ W.cell? ⟨w.heap.size, 1, none⟩ = some (.string nm) ∧ W.cell? ⟨w.heap.size, 2, none⟩ = some (.int .i64 t) ∧ W.cell? ⟨w.heap.size, 3, none⟩ = some (.int .i64 b) ∧ W.cell? ⟨w.heap.size, 4, none⟩ = some (.int .i64 nx) ∧ W.cell? ⟨w.heap.size, 5, none⟩ = some (.slice ma mn mc) ∧ W.cell? ⟨w.heap.size, 6, none⟩ = some (.slice ga gn gc)) ∧ (W.cell? ⟨w.heap.size + 1, 0, none⟩ = some (.int .i64 g') ∧ W.cell? ⟨w.heap.size + 1, 1, none⟩ = some (.string nm') ∧ W.cell? ⟨w.heap.size + 1, 2, none⟩ = some (.int .i64 t') ∧ W.cell? ⟨w.heap.size + 1, 3, none⟩ = some (.int .i64 b') ∧ W.cell? ⟨w.heap.size + 1, 4, none⟩ = some (.int .i64 nx') ∧ W.cell? ⟨w.heap.size + 1, 5, none⟩ = some (.slice ma' mn' mc') ∧ W.cell? ⟨w.heap.size + 1, 6, none⟩ = some (.slice ga' gn' gc'))) := fun W h => ⟨(A17.out.later h).cells, (D17.out.later h).cells⟩
 go_wp2_with fail
 go_region_held3 (fun W => (W.cell? ⟨w.heap.size, 0, none⟩ = some (.int .i64 g) ∧ W.cell? ⟨w.heap.size, 1, none⟩ = some (.string nm) ∧ W.cell? ⟨w.heap.size, 2, none⟩ = some (.int .i64 t) ∧ W.cell? ⟨w.heap.size, 3, none⟩ = some (.int .i64 b) ∧ W.cell? ⟨w.heap.size, 4, none⟩ = some (.int .i64 nx) ∧ W.cell? ⟨w.heap.size, 5, none⟩ = some (.slice ma mn mc) ∧ W.cell? ⟨w.heap.size, 6, none⟩ = some (.slice ga gn gc)) ∧ (W.cell? ⟨w.heap.size + 1, 0, none⟩ = some (.int .i64 g') ∧ W.cell? ⟨w.heap.size + 1, 1, none⟩ = some (.string nm') ∧ W.cell? ⟨w.heap.size + 1, 2, none⟩ = some (.int .i64 t') ∧ W.cell? ⟨w.heap.size + 1, 3, none⟩ = some (.int .i64 b') ∧ W.cell? ⟨w.heap.size + 1, 4, none⟩ = some (.int .i64 nx') ∧ W.cell? ⟨w.heap.size + 1, 5, none⟩ = some (.slice ma' mn' mc') ∧ W.cell? ⟨w.heap.size + 1, 6, none⟩ = some (.slice ga' gn' gc')))
  ((refine HZ.out _ ?_; repeat (first | exact bdr (bre _) | exact P20.out | exact P19.out | exact P18.out | refine btr ?_ (by assumption))))
  ((first
    | (go_at_call 30; first
      | ((with_reducible refine (toBox_any lo1 hi1 lo2 hi2 g nm t b nx ma mn mc ga gn gc L G _ HL.out S2.out S4.out (HM.out.later (btr B17.out (bdr (bre _)))) HGL.out S3.out (HS.out.later (btr B17.out (bdr (bre _))))).mono ?_); rintro e w18 ⟨km18, kg18, rfl, how, hb3⟩; have O18 := hid how; have P18 : Hid (Below w17.heap.size w17 w18) := btr (bdr (bre _)) hb3)
      | ((with_reducible refine (toBox_any lo3 hi3 lo4 hi4 g' nm' t' b' nx' ma' mn' mc' ga' gn' gc' L' G' _ HL'.out S2'.out S4'.out (HM'.out.later (btr B17.out P18.out)) HGL'.out S3'.out (HS'.out.later (btr B17.out P18.out))).mono ?_); rintro e w19 ⟨km19, kg19, rfl, how', hb4⟩; have O19 := hid how'; have O18b := hid (((O18.out.reads.2.2.1).later hb4)); have O18c := hid (((O18.out.reads.2.2.2).later hb4)); have P19 : Hid (Below w17.heap.size w17 w19) := btr P18.out hb4))
    | (go_at_call 20; (with_reducible refine (implJoinMails_any _ _ _ _ g nm t b nx (some ⟨km18, 0, none⟩) mn mn (some ⟨kg18, 0, none⟩) gn gn L G _ _ _ _ g' nm' t' b' nx' (some ⟨km19, 0, none⟩) mn' mn' (some ⟨kg19, 0, none⟩) gn' gn' L' G' w19 S1.out HL.out S2.out S4.out O18b.out (fun e => by cases e) HGL.out S3.out O18c.out (fun e => by cases e) S1'.out HL'.out S2'.out S4'.out O19.out.reads.2.2.1 (fun e => by cases e) HGL'.out S3'.out O19.out.reads.2.2.2 (fun e => by cases e)).mono ?_); rintro e w20 ⟨v20, Zh, rfl, o20, e20, hb5⟩; rw [HJL.out] at e20; obtain ⟨ya, yc, rfl⟩ := o20.shape; have P20 : Hid (Below w17.heap.size w17 w20) := btr P19.out hb5; have Q20 := hid o20; have EH := hid e20; clear o20 e20)))
 obtain ⟨yn, hyn⟩ : ∃ yn, Zh.length = yn := ⟨_, rfl⟩
 rw [hyn] at Q20 ⊢
 obtain rfl : yn = xn := by
  have h := congrArg List.length EH.out
  rw [List.length_map, hyn, HJN.out] at h
  exact h
 have G20 := hid (G17.out.later P20.out)
 have V20 := hid (V17.out.later P20.out)
 have B20 := hid (btr B17.out P20.out)
 clear hyn A17 D17 G17 V17 B17 HZ O18 O19 O18b O18c P18 P19 P20
 go_wp2_with fail
 refine (eqMailS_any _ _ _ _ ya va yn yc vc JL _ HJN.out SJ.out.2.1 SJ.out.1 (by rw [← EH.out]; exact Q20.out.ms.2) (by rw [← EV.out]; exact V20.out.ms.2)).mono ?_; rintro e w21 ⟨rfl, p21⟩
 have G21 := hid (G20.out.later p21)
 have B21 := hid (btr B20.out p21)
 clear p21 G20 V20 B20 Q20
 go_wp2_with fail
 refine (HH.out _ G21.out).mono ?_; rintro e w22 ⟨rfl, p22⟩
 have B22 := hid (btr B21.out p22)
 clear p22
 go_wp2
 go_ret
 exact ⟨rfl, B22.out⟩
end Go.Proofs.YtmpcmllfgogegaaGreat
