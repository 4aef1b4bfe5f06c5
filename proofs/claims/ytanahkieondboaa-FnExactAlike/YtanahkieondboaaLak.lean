/- The law of Alike. -/
import Derived.Test.YtanahkieondboaaAlc
import Derived.Test.YtanahkieondboaaAle
import Derived.Test.YtanahkieondboaaSsl
namespace Go.Proofs.Ytanahkieondboaa
open Go.RowKit Go.ChangeMaps

/-- What a store holds is not too great. -/
theorem smallS {S : List X7} {gn : Nat} (h : ¬ (1048576 : Int) < ((szB S + gn : Nat) : Int)) : S.length ≤ 1048576 ∧ gn ≤ 1048576 ∧ Sb S := by
  unfold szB at h
  refine ⟨by omega, by omega, ?_⟩
  have h2 : toX S ≤ 1048576 := by omega
  clear h
  induction S with
  | nil => intro x hx; cases hx
  | cons a S ih =>
    intro x hx
    have e : toX (a :: S) = szX a + toX S := rfl
    rcases List.mem_cons.1 hx with rfl | hx
    · have h3 : szX x ≤ 1048576 := by omega
      unfold szX szL at h3
      exact ⟨by omega, by omega, sm_of (by omega), by omega⟩
    · exact ih (by omega) x hx


set_option maxHeartbeats 4000000 in
set_option maxRecDepth 100000 in
theorem lawAlike_any (y tm : Int) (ba : Option Addr) (bn bc : Nat) (ga : Option Addr) (gn gc : Nat) (S : List X7) (G : List Int) (y' tm' : Int) (ba' : Option Addr) (bn' bc' : Nat) (ga' : Option Addr) (gn' gc' : Nat) (S' : List X7) (G' : List Int) (w : World) (hl : S.length = bn) (hn : (bn : Int) ≤ 9223372036854775807) (hft : FitB S) (hm : Bs 0 w.heap.size w ba S) (hgl : G.length = gn) (hgn : (gn : Int) ≤ 9223372036854775807) (hs : Is 0 w.heap.size w ga G) (hl' : S'.length = bn') (hn' : (bn' : Int) ≤ 9223372036854775807) (hft' : FitB S') (hm' : Bs 0 w.heap.size w ba' S') (hgl' : G'.length = gn') (hgn' : (gn' : Int) ≤ 9223372036854775807) (hs' : Is 0 w.heap.size w ga' G') :
    Calls Try.prog 3 #[.agg #[.int .i64 y, .int .i64 tm, .slice ba bn bc, .slice ga gn gc], .agg #[.int .i64 y', .int .i64 tm', .slice ba' bn' bc', .slice ga' gn' gc']] w fun e w' => e = .returned (.bool true) ∧ Below w.heap.size w w' := by
  obtain ⟨W0, hW0⟩ : ∃ W0, (w.alloc (.cells #[.int .i64 y, .int .i64 tm, .slice ba bn bc, .slice ga gn gc] 25)).alloc (.cells #[.int .i64 y', .int .i64 tm', .slice ba' bn' bc', .slice ga' gn' gc'] 25) = W0 := ⟨_, rfl⟩
  obtain ⟨a0, a1, b0, _⟩ := two_stores w _ _ _ _ _ _ _ _ _ _ W0 hW0
  have c0 := a0.cells
  have A0 := hid a0
  have D0 := hid a1
  have B0 := hid b0
  have HM := hid hm
  have HS := hid hs
  have HF := hid hft
  have HL := hid hl
  have HGL := hid hgl
  have HN := hid hn
  have HGN := hid hgn
  have HM' := hid hm'
  have HS' := hid hs'
  have HF' := hid hft'
  have HL' := hid hl'
  have HGL' := hid hgl'
  have HN' := hid hn'
  have HGN' := hid hgn'
  clear a0 a1 b0 hm hs hft hl hgl hn hgn hm' hs' hft' hl' hgl' hn' hgn'
  go_enter Try.func3, Try.ntmps3
  go_wp2_with fail
  try rw [hW0]
  clear hW0
  refine (szStore_any 0 w.heap.size y tm ba bn bc ga gn gc S _ HL.out HN.out HF.out (HM.out.later B0.out) HGN.out).mono ?_; rintro e w1 ⟨rfl, hb1⟩
  have A1 := hid (A0.out.later hb1)
  have D1 := hid (D0.out.later hb1)
  have B1 := hid (btr B0.out hb1)
  clear hb1 A0 D0 B0 c0
  by_cases hbig : (1048576 : Int) < ((szB S + gn : Nat) : Int)
  · rw [szr_over hbig]
    clear hbig
    go_wp2
    go_ret
    exact ⟨rfl, B1.out⟩
  obtain ⟨s2, s3, s4⟩ := smallS (gn := gn) hbig
  obtain ⟨q, hq⟩ : ∃ q, szr 1048576 (szB S + gn) = q := ⟨_, rfl⟩
  have h0 : ¬ q < 0 := by rw [← hq, szr_fits hbig]; omega
  have h1 : 0 ≤ q ∧ q ≤ 1048576 := by rw [← hq, szr_fits hbig]; omega
  have QE : Hid (q + ((szB S + gn : Nat) : Int) = 1048576) := by show _ = _; rw [← hq, szr_fits hbig]; omega
  rw [hq]
  have S2 : Hid (bn ≤ 1048576) := by show _ ≤ _; rw [← HL.out]; exact s2
  have S3 := hid s3
  have S4 := hid s4
  have Q1 := hid h1
  have c0 := D1.out.cells
  clear hq hbig s2 s3 s4 h1
  go_wp2_with fail
  refine (szStoreL_any q Q1.out 0 w.heap.size y' tm' ba' bn' bc' ga' gn' gc' S' _ HL'.out HN'.out HF'.out (HM'.out.later B1.out) HGN'.out).mono ?_; rintro e w2 ⟨rfl, hb2⟩
  have A2 := hid (A1.out.later hb2)
  have D2 := hid (D1.out.later hb2)
  have B2 := hid (btr B1.out hb2)
  clear hb2 A1 D1 B1 c0 h0
  by_cases hbig : q < ((szB S' + gn' : Nat) : Int)
  · rw [szr_over hbig]
    clear hbig
    go_wp2
    go_ret
    exact ⟨rfl, B2.out⟩
  have SUM : Hid (((szB S + gn : Nat) : Int) + ((szB S' + gn' : Nat) : Int) ≤ 1048576) := by show _ ≤ _; have := QE.out; omega
  obtain ⟨s2, s3, s4⟩ := smallS (S := S') (gn := gn') (by have := Q1.out.2; omega)
  obtain ⟨r, hr⟩ : ∃ r, szr q (szB S' + gn') = r := ⟨_, rfl⟩
  have h0 : ¬ r < 0 := by rw [← hr, szr_fits hbig]; omega
  rw [hr]
  have S2' : Hid (bn' ≤ 1048576) := by show _ ≤ _; rw [← HL'.out]; exact s2
  have S3' := hid s3
  have S4' := hid s4
  clear hr hbig s2 s3 s4
  have HZ : Hid (∀ W, Below w2.heap.size w2 W → (W.cell? ⟨w.heap.size, 0, none⟩ = some (.int .i64 y) ∧ W.cell? ⟨w.heap.size, 1, none⟩ = some (.int .i64 tm) ∧ W.cell? ⟨w.heap.size, 2, none⟩ = some (.slice ba bn bc) ∧ W.cell? ⟨w.heap.size, 3, none⟩ = some (.slice ga gn gc)) ∧ (W.cell? ⟨w.heap.size + 1, 0, none⟩ = some (.int .i64 y') ∧ W.cell? ⟨w.heap.size + 1, 1, none⟩ = some (.int .i64 tm') ∧ W.cell? ⟨w.heap.size + 1, 2, none⟩ = some (.slice ba' bn' bc') ∧ W.cell? ⟨w.heap.size + 1, 3, none⟩ = some (.slice ga' gn' gc'))) :=
    fun W h => ⟨(A2.out.later h).cells, (D2.out.later h).cells⟩
  go_wp2_with fail
  go_region_held3 (fun W => (W.cell? ⟨w.heap.size, 0, none⟩ = some (.int .i64 y) ∧ W.cell? ⟨w.heap.size, 1, none⟩ = some (.int .i64 tm) ∧ W.cell? ⟨w.heap.size, 2, none⟩ = some (.slice ba bn bc) ∧ W.cell? ⟨w.heap.size, 3, none⟩ = some (.slice ga gn gc)) ∧ (W.cell? ⟨w.heap.size + 1, 0, none⟩ = some (.int .i64 y') ∧ W.cell? ⟨w.heap.size + 1, 1, none⟩ = some (.int .i64 tm') ∧ W.cell? ⟨w.heap.size + 1, 2, none⟩ = some (.slice ba' bn' bc') ∧ W.cell? ⟨w.heap.size + 1, 3, none⟩ = some (.slice ga' gn' gc')))
    ((refine HZ.out _ ?_; repeat (first | exact bdr (bre _) | exact P5.out | exact P4.out | exact P3.out | refine btr ?_ (by assumption))))
    ((first
      | (go_at_call 6; first
        | ((with_reducible refine (toStore_any 0 w.heap.size 0 w.heap.size y tm ba bn bc ga gn gc S G _ HL.out S2.out S4.out (HM.out.later (btr B2.out (bdr (bre _)))) HGL.out S3.out (HS.out.later (btr B2.out (bdr (bre _))))).mono ?_); rintro e w3 ⟨km, kg, rfl, how, hb3⟩; have O3 := hid how; have P3 : Hid (Below w2.heap.size w2 w3) := btr (bdr (bre _)) hb3)
        | ((with_reducible refine (toStore_any 0 w.heap.size 0 w.heap.size y' tm' ba' bn' bc' ga' gn' gc' S' G' _ HL'.out S2'.out S4'.out (HM'.out.later (btr B2.out P3.out)) HGL'.out S3'.out (HS'.out.later (btr B2.out P3.out))).mono ?_); rintro e w4 ⟨km', kg', rfl, how', hb4⟩; have O4 := hid how'; have O3b := hid (((O3.out.reads.2.2.1).later hb4)); have O3c := hid (((O3.out.reads.2.2.2).later hb4)); have P4 : Hid (Below w2.heap.size w2 w4) := btr P3.out hb4))
      | (go_at_call 5; (with_reducible refine (specAlike_any _ _ _ _ _ _ _ _ y tm _ bn _ _ gn _ S G y' tm' _ bn' _ _ gn' _ S' G' w4 HL.out S2.out S4.out O3b.out HGL.out S3.out O3c.out HL'.out O4.out.reads.2.2.1 HGL'.out O4.out.reads.2.2.2).mono ?_); rintro e w5 ⟨⟨r', rfl, hr'⟩, hb5⟩; have HR := hid hr'; have P5 : Hid (Below w2.heap.size w2 w5) := btr P4.out hb5)))
  have A5 := hid (A2.out.later P5.out)
  have D5 := hid (D2.out.later P5.out)
  have B5 := hid (btr B2.out P5.out)
  clear A2 D2 B2 HZ P3 P4 P5 O3 O4 O3b O3c hr'
  have c0 := A5.out.cells
  go_wp2_with fail
  refine (toStore_any 0 w.heap.size 0 w.heap.size y tm ba bn bc ga gn gc S G _ HL.out S2.out S4.out (HM.out.later B5.out) HGL.out S3.out (HS.out.later B5.out)).mono ?_; rintro e w6 ⟨km, kg, rfl, how, hb6⟩
  obtain ⟨-, -, r1, r2⟩ := how.reads
  have X6 := hid (Sx.new w6 30 y tm (.slice (some ⟨km, 0, none⟩) bn bn) (.slice (some ⟨kg, 0, none⟩) gn gn))
  have b6 : Below w6.heap.size w6 (w6.alloc (.cells #[.int .i64 y, .int .i64 tm, .slice (some ⟨km, 0, none⟩) bn bn, .slice (some ⟨kg, 0, none⟩) gn gn] 30)) := bpush (bre _) _
  have R1 := hid (r1.later b6)
  have R2 := hid (r2.later b6)
  have A6 := hid ((A5.out.later hb6).later b6)
  have D6 := hid ((D5.out.later hb6).later b6)
  have B6 := hid (btr (btr B5.out hb6) b6)
  clear hb6 b6 r1 r2 how A5 D5 B5 c0
  have c0 := D6.out.cells
  obtain ⟨W6, hW6⟩ : ∃ W6, w6.alloc (.cells #[.int .i64 y, .int .i64 tm, .slice (some ⟨km, 0, none⟩) bn bn, .slice (some ⟨kg, 0, none⟩) gn gn] 30) = W6 := ⟨_, rfl⟩
  rw [hW6] at X6 R1 R2 A6 D6 B6
  have HX := hid hW6
  clear hW6
  go_wp2_with fail
  rw [HX.out]
  refine (toStore_any 0 w.heap.size 0 w.heap.size y' tm' ba' bn' bc' ga' gn' gc' S' G' _ HL'.out S2'.out S4'.out (HM'.out.later B6.out) HGL'.out S3'.out (HS'.out.later B6.out)).mono ?_; rintro e w7 ⟨km', kg', rfl, how, hb7⟩
  obtain ⟨-, -, r1, r2⟩ := how.reads
  have X7 := hid (Sx.new w7 30 y' tm' (.slice (some ⟨km', 0, none⟩) bn' bn') (.slice (some ⟨kg', 0, none⟩) gn' gn'))
  have b7 : Below w7.heap.size w7 (w7.alloc (.cells #[.int .i64 y', .int .i64 tm', .slice (some ⟨km', 0, none⟩) bn' bn', .slice (some ⟨kg', 0, none⟩) gn' gn'] 30)) := bpush (bre _) _
  have R1' := hid (r1.later b7)
  have R2' := hid (r2.later b7)
  have R3 := hid ((R1.out.later hb7).later b7)
  have R4 := hid ((R2.out.later hb7).later b7)
  have X6b := hid ((X6.out.later hb7).later b7)
  have A7 := hid ((A6.out.later hb7).later b7)
  have D7 := hid ((D6.out.later hb7).later b7)
  have B7 := hid (btr (btr B6.out hb7) b7)
  clear hb7 b7 r1 r2 how A6 D6 B6 c0 R1 R2 X6
  have c0 := X6b.out.cells
  have c1 := X7.out.cells
  obtain ⟨W7, hW7⟩ : ∃ W7, w7.alloc (.cells #[.int .i64 y', .int .i64 tm', .slice (some ⟨km', 0, none⟩) bn' bn', .slice (some ⟨kg', 0, none⟩) gn' gn'] 30) = W7 := ⟨_, rfl⟩
  rw [hW7] at X7 R1' R2' R3 R4 X6b A7 D7 B7
  have HY := hid hW7
  clear hW7
  go_wp2_with fail
  rw [HY.out]
  refine (implAlike_any _ _ _ _ _ _ _ _ y tm _ bn _ _ gn _ S G y' tm' _ bn' _ _ gn' _ S' G' W7 HL.out S2.out S4.out R3.out HGL.out S3.out R4.out HL'.out R1'.out HGL'.out R2'.out).mono ?_; rintro e w8 ⟨⟨r9, rfl, hr9⟩, hb8⟩
  obtain rfl : r' = r9 := Bool.eq_iff_iff.2 (HR.out.trans hr9.symm)
  clear hr9
  have xx : (r' != r') = false := by simp
  have A8 := hid (A7.out.later hb8)
  have D8 := hid (D7.out.later hb8)
  have B8 := hid (btr B7.out hb8)
  have X8 := hid (X6b.out.later hb8)
  have Y8 := hid (X7.out.later hb8)
  have U1 := hid (R3.out.later hb8)
  have U2 := hid (R4.out.later hb8)
  have U3 := hid (R1'.out.later hb8)
  have U4 := hid (R2'.out.later hb8)
  clear hb8 A7 D7 B7 X6b X7 R3 R4 R1' R2' c0 c1 HX HY
  have HZ : Hid (∀ W, Below w8.heap.size w8 W → (W.cell? ⟨w.heap.size, 0, none⟩ = some (.int .i64 y) ∧ W.cell? ⟨w.heap.size, 1, none⟩ = some (.int .i64 tm) ∧ W.cell? ⟨w.heap.size, 2, none⟩ = some (.slice ba bn bc) ∧ W.cell? ⟨w.heap.size, 3, none⟩ = some (.slice ga gn gc)) ∧ (W.cell? ⟨w.heap.size + 1, 0, none⟩ = some (.int .i64 y') ∧ W.cell? ⟨w.heap.size + 1, 1, none⟩ = some (.int .i64 tm') ∧ W.cell? ⟨w.heap.size + 1, 2, none⟩ = some (.slice ba' bn' bc') ∧ W.cell? ⟨w.heap.size + 1, 3, none⟩ = some (.slice ga' gn' gc')) ∧ (W.cell? ⟨w6.heap.size, 0, none⟩ = some (.int .i64 y) ∧ W.cell? ⟨w6.heap.size, 1, none⟩ = some (.int .i64 tm) ∧ W.cell? ⟨w6.heap.size, 2, none⟩ = some (.slice (some ⟨km, 0, none⟩) bn bn) ∧ W.cell? ⟨w6.heap.size, 3, none⟩ = some (.slice (some ⟨kg, 0, none⟩) gn gn)) ∧ (W.cell? ⟨w7.heap.size, 0, none⟩ = some (.int .i64 y') ∧ W.cell? ⟨w7.heap.size, 1, none⟩ = some (.int .i64 tm') ∧ W.cell? ⟨w7.heap.size, 2, none⟩ = some (.slice (some ⟨km', 0, none⟩) bn' bn') ∧ W.cell? ⟨w7.heap.size, 3, none⟩ = some (.slice (some ⟨kg', 0, none⟩) gn' gn'))) :=
    fun W h => ⟨(A8.out.later h).cells, (D8.out.later h).cells, (X8.out.later h).cells, (Y8.out.later h).cells⟩
  go_wp2_with fail
  go_region_held3 (fun W => (W.cell? ⟨w.heap.size, 0, none⟩ = some (.int .i64 y) ∧ W.cell? ⟨w.heap.size, 1, none⟩ = some (.int .i64 tm) ∧ W.cell? ⟨w.heap.size, 2, none⟩ = some (.slice ba bn bc) ∧ W.cell? ⟨w.heap.size, 3, none⟩ = some (.slice ga gn gc)) ∧ (W.cell? ⟨w.heap.size + 1, 0, none⟩ = some (.int .i64 y') ∧ W.cell? ⟨w.heap.size + 1, 1, none⟩ = some (.int .i64 tm') ∧ W.cell? ⟨w.heap.size + 1, 2, none⟩ = some (.slice ba' bn' bc') ∧ W.cell? ⟨w.heap.size + 1, 3, none⟩ = some (.slice ga' gn' gc')) ∧ (W.cell? ⟨w6.heap.size, 0, none⟩ = some (.int .i64 y) ∧ W.cell? ⟨w6.heap.size, 1, none⟩ = some (.int .i64 tm) ∧ W.cell? ⟨w6.heap.size, 2, none⟩ = some (.slice (some ⟨km, 0, none⟩) bn bn) ∧ W.cell? ⟨w6.heap.size, 3, none⟩ = some (.slice (some ⟨kg, 0, none⟩) gn gn)) ∧ (W.cell? ⟨w7.heap.size, 0, none⟩ = some (.int .i64 y') ∧ W.cell? ⟨w7.heap.size, 1, none⟩ = some (.int .i64 tm') ∧ W.cell? ⟨w7.heap.size, 2, none⟩ = some (.slice (some ⟨km', 0, none⟩) bn' bn') ∧ W.cell? ⟨w7.heap.size, 3, none⟩ = some (.slice (some ⟨kg', 0, none⟩) gn' gn')))
    ((refine HZ.out _ ?_; repeat (first | exact bdr (bre _) | exact P10.out | exact P9.out | refine btr ?_ (by assumption))))
    ((first
      | (go_at_call 6; (with_reducible refine (toStore_any 0 w.heap.size 0 w.heap.size y tm ba bn bc ga gn gc S G _ HL.out S2.out S4.out (HM.out.later (btr B8.out (bdr (bre _)))) HGL.out S3.out (HS.out.later (btr B8.out (bdr (bre _))))).mono ?_); rintro e w9 ⟨km9, kg9, rfl, how, hb9⟩; have O9 := hid how; have P9 : Hid (Below w8.heap.size w8 w9) := btr (bdr (bre _)) hb9)
      | (go_at_call 8; (with_reducible refine (eqStore_any _ _ _ _ _ _ _ _ y tm _ bn _ _ gn _ _ _ _ _ S G w9 HL.out S2.out S4.out (U1.out.later P9.out) O9.out.reads.2.2.1 HGL.out S3.out (U2.out.later P9.out) O9.out.reads.2.2.2).mono ?_); rintro e w10 ⟨rfl, hb10⟩; have P10 : Hid (Below w8.heap.size w8 w10) := btr P9.out hb10)))
  clear O9 P9
  go_wp2_with fail
  go_region_held3 (fun W => (W.cell? ⟨w.heap.size, 0, none⟩ = some (.int .i64 y) ∧ W.cell? ⟨w.heap.size, 1, none⟩ = some (.int .i64 tm) ∧ W.cell? ⟨w.heap.size, 2, none⟩ = some (.slice ba bn bc) ∧ W.cell? ⟨w.heap.size, 3, none⟩ = some (.slice ga gn gc)) ∧ (W.cell? ⟨w.heap.size + 1, 0, none⟩ = some (.int .i64 y') ∧ W.cell? ⟨w.heap.size + 1, 1, none⟩ = some (.int .i64 tm') ∧ W.cell? ⟨w.heap.size + 1, 2, none⟩ = some (.slice ba' bn' bc') ∧ W.cell? ⟨w.heap.size + 1, 3, none⟩ = some (.slice ga' gn' gc')) ∧ (W.cell? ⟨w6.heap.size, 0, none⟩ = some (.int .i64 y) ∧ W.cell? ⟨w6.heap.size, 1, none⟩ = some (.int .i64 tm) ∧ W.cell? ⟨w6.heap.size, 2, none⟩ = some (.slice (some ⟨km, 0, none⟩) bn bn) ∧ W.cell? ⟨w6.heap.size, 3, none⟩ = some (.slice (some ⟨kg, 0, none⟩) gn gn)) ∧ (W.cell? ⟨w7.heap.size, 0, none⟩ = some (.int .i64 y') ∧ W.cell? ⟨w7.heap.size, 1, none⟩ = some (.int .i64 tm') ∧ W.cell? ⟨w7.heap.size, 2, none⟩ = some (.slice (some ⟨km', 0, none⟩) bn' bn') ∧ W.cell? ⟨w7.heap.size, 3, none⟩ = some (.slice (some ⟨kg', 0, none⟩) gn' gn')))
    ((refine HZ.out _ ?_; repeat (first | exact bdr P10.out | exact P12.out | exact P11.out | refine btr ?_ (by assumption))))
    ((first
      | (go_at_call 6; (with_reducible refine (toStore_any 0 w.heap.size 0 w.heap.size y' tm' ba' bn' bc' ga' gn' gc' S' G' _ HL'.out S2'.out S4'.out (HM'.out.later (btr B8.out (bdr P10.out))) HGL'.out S3'.out (HS'.out.later (btr B8.out (bdr P10.out)))).mono ?_); rintro e w11 ⟨km9, kg9, rfl, how, hb9⟩; have O9 := hid how; have P11 : Hid (Below w8.heap.size w8 w11) := btr (bdr P10.out) hb9)
      | (go_at_call 8; (with_reducible refine (eqStore_any _ _ _ _ _ _ _ _ y' tm' _ bn' _ _ gn' _ _ _ _ _ S' G' w11 HL'.out S2'.out S4'.out (U3.out.later P11.out) O9.out.reads.2.2.1 HGL'.out S3'.out (U4.out.later P11.out) O9.out.reads.2.2.2).mono ?_); rintro e w12 ⟨rfl, hb10⟩; have P12 : Hid (Below w8.heap.size w8 w12) := btr P11.out hb10)))
  go_wp2
  go_ret
  exact ⟨rfl, btr B8.out P12.out⟩
end Go.Proofs.Ytanahkieondboaa
