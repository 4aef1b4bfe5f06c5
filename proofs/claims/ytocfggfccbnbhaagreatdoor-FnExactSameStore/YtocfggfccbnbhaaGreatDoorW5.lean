/- Lst10, Lss, Open, OpenL, OpenM, OpenB, OpenS. -/
import Derived.Test.YtocfggfccbnbhaaGreatDoorW4
import Derived.Test.YtocfggfccbnbhaaGreatDoorProg
import Derived.WalkKit
import Derived.ProofKit
import Derived.OpenShut
import Derived.Lib.SmallJoins
import Derived.Deep.Slices
import Derived.Carry
namespace Go.Proofs.YtocfggfccbnbhaaGreatDoor
open Go.RowKit Go.ChangeMaps
/-- What a store holds is not too great. -/
theorem smallS {S : List X7} {gn : Nat} (h : ¬ (1048576 : Int) < ((szB S + gn : Nat) : Int)) : S.length ≤ 1048576 ∧ gn ≤ 1048576 ∧ Sb S := by
  unfold szB at h
  refine ⟨by omega, by omega, ?_⟩
  have h2 : toX S ≤ 1048576 := by omega
  clear h
  induction S with
  | nil => intro x hx; cases hx
  | cons a S ih =>
    intro x hx
    have e : toX (a :: S) = szX a + toX S := rfl
    rcases List.mem_cons.1 hx with rfl | hx
    · have h3 : szX x ≤ 1048576 := by omega
      unfold szX szL at h3
      exact ⟨by omega, by omega, sm_of (by omega), by omega⟩
    · exact ih (by omega) x hx
set_option maxHeartbeats 3200000 in
set_option maxRecDepth 100000 in
theorem lawStoreText_any (y tm : Int) (ba : Option Addr) (bn bc : Nat) (ga : Option Addr) (gn gc : Nat) (S : List X7) (G : List Int) (w : World) (hl : S.length = bn) (hn : (bn : Int) ≤ 9223372036854775807) (hft : FitB S) (hm : Bs 0 w.heap.size w ba S) (hgl : G.length = gn) (hgn : (gn : Int) ≤ 9223372036854775807) (hs : Is 0 w.heap.size w ga G) (hnb : Nib w) :
    Calls Tryz.prog 4 #[.agg #[.int .i64 y, .int .i64 tm, .slice ba bn bc, .slice ga gn gc]] w fun e w' => e = .returned (.bool true) ∧ Below w.heap.size w w' := by
  have HNB := hid hnb
  clear hnb
  obtain ⟨W0, hW0⟩ : ∃ W0, w.alloc (.cells #[.int .i64 y, .int .i64 tm, .slice ba bn bc, .slice ga gn gc] 53) = W0 := ⟨_, rfl⟩
  have a0 : Sx W0 w.heap.size 53 y tm (.slice ba bn bc) (.slice ga gn gc) := by subst hW0; exact Sx.new w _ y tm _ _
  have b0 : Below w.heap.size w W0 := by subst hW0; exact bpush (bre _) _
  have c0 := a0.cells
  have A0 := hid a0
  have B0 := hid b0
  have HM := hid hm
  have HS' := hid hs
  have HF := hid hft
  have HL := hid hl
  have HGL := hid hgl
  have HN := hid hn
  have HGN := hid hgn
  clear a0 b0 hm hs hft hl hgl hn hgn
  go_enter Tryz.func4, Tryz.ntmps4
  go_wp2_with fail
  clear hW0
  refine (szStore_any 0 w.heap.size y tm ba bn bc ga gn gc S _ HL.out HN.out HF.out (HM.out.later B0.out) HGN.out).mono ?_; rintro e w1 ⟨rfl, hb1⟩
  have A1 := hid (A0.out.later hb1)
  have B1 := hid (btr B0.out hb1)
  have c0 := A1.out.cells
  clear hb1 A0 B0
  by_cases hbig : (1048576 : Int) < ((szB S + gn : Nat) : Int)
  · rw [szr_over hbig]
    clear hbig
    go_wp2
    go_ret
    exact ⟨rfl, B1.out⟩
  obtain ⟨s2, s3, s4⟩ := smallS hbig
  obtain ⟨q, hq⟩ : ∃ q, szr 1048576 (szB S + gn) = q := ⟨_, rfl⟩
  have h0 : ¬ q < 0 := by rw [← hq, szr_fits hbig]; omega
  rw [hq]
  have S2 : Hid (bn ≤ 1048576) := by show _ ≤ _; rw [← HL.out]; exact s2
  have S3 := hid s3
  have S4 := hid s4
  clear hq hbig s2 s3 s4
  go_wp2_with fail
  refine (toStore_any 0 w.heap.size 0 w.heap.size y tm ba bn bc ga gn gc S G _ HL.out S2.out S4.out (HM.out.later B1.out) HGL.out S3.out (HS'.out.later B1.out)).mono ?_; rintro e w2 ⟨km, kg, rfl, how, hb2⟩
  have R2a := hid how.reads.2.2.1
  have R2b := hid how.reads.2.2.2
  obtain ⟨x, ok, hx, -, -, -⟩ := stR_k y tm S G
  have HX := hid hx
  clear hx
  have A2 := hid (A1.out.later hb2)
  have B2 := hid (btr B1.out hb2)
  have c0 := A2.out.cells
  clear hb2 A1 B1 how
  go_wp2_with fail
  refine (specStoreText_any _ _ _ _ y tm (some ⟨km, 0, none⟩) bn bn (some ⟨kg, 0, none⟩) gn gn S G _ HL.out S2.out S4.out R2a.out HGL.out S3.out R2b.out).mono ?_; rintro e w3 ⟨rfl, hb3⟩
  rw [HX.out]
  have A3 := hid (A2.out.later hb3)
  have B3 := hid (btr B2.out hb3)
  have c0 := A3.out.cells
  clear hb3 A2 B2 R2a R2b
  go_wp2_with fail
  refine (toStore_any 0 w.heap.size 0 w.heap.size y tm ba bn bc ga gn gc S G _ HL.out S2.out S4.out (HM.out.later B3.out) HGL.out S3.out (HS'.out.later B3.out)).mono ?_; rintro e w4 ⟨km4, kg4, rfl, how, hb4⟩
  have R1 := hid how.reads.2.2.1
  have R2 := hid how.reads.2.2.2
  have A4 := hid (A3.out.later hb4)
  have B4 := hid (btr B3.out hb4)
  have c0 := A4.out.cells
  clear hb4 A3 B3 how
  have xx : (!x.toList == x.toList) = false := by simp
  have yy : (!ok == ok) = false := by cases ok <;> rfl
  have zz : (ok != ok) = false := by simp
  go_wp2_with fail
  have b5 : Below w4.heap.size w4 (w4.alloc (.cells #[.int .i64 y, .int .i64 tm, .slice (some ⟨km4, 0, none⟩) bn bn, .slice (some ⟨kg4, 0, none⟩) gn gn] 27)) := bpush (bre _) _
  have hsz4 : w4.heap.size ≤ (w4.alloc (.cells #[.int .i64 y, .int .i64 tm, .slice (some ⟨km4, 0, none⟩) bn bn, .slice (some ⟨kg4, 0, none⟩) gn gn] 27)).heap.size := b5.size
  refine (implStoreText_any _ _ _ _ y tm (some ⟨km4, 0, none⟩) bn bn (some ⟨kg4, 0, none⟩) gn gn S G _ HL.out S2.out S4.out (R1.out.later b5) HGL.out S3.out (R2.out.later b5) (HNB.out.on (btr B4.out b5))).mono ?_; rintro e w5 ⟨rfl, hb5⟩
  rw [HX.out]
  have X5 := hid ((Sx.new w4 27 y tm (.slice (some ⟨km4, 0, none⟩) bn bn) (.slice (some ⟨kg4, 0, none⟩) gn gn)).later hb5)
  have R5 := hid ((R1.out.later b5).later hb5)
  have Q5 := hid ((R2.out.later b5).later hb5)
  have A5 := hid (A4.out.later (btr b5 hb5))
  have B5 := hid (btr (btr B4.out b5) hb5)
  clear b5 hb5 A4 B4 R1 R2 c0 hsz4
  obtain ⟨kx, hkx⟩ : ∃ kx, w4.heap.size = kx := ⟨_, rfl⟩
  rw [hkx] at X5 ⊢
  have HS : Hid (∀ W, Below w5.heap.size w5 W → (W.cell? ⟨w.heap.size, 0, none⟩ = some (.int .i64 y) ∧ W.cell? ⟨w.heap.size, 1, none⟩ = some (.int .i64 tm) ∧ W.cell? ⟨w.heap.size, 2, none⟩ = some (.slice ba bn bc) ∧ W.cell? ⟨w.heap.size, 3, none⟩ = some (.slice ga gn gc)) ∧ (W.cell? ⟨kx, 0, none⟩ = some (.int .i64 y) ∧ W.cell? ⟨kx, 1, none⟩ = some (.int .i64 tm) ∧ W.cell? ⟨kx, 2, none⟩ = some (.slice (some ⟨km4, 0, none⟩) bn bn) ∧ W.cell? ⟨kx, 3, none⟩ = some (.slice (some ⟨kg4, 0, none⟩) gn gn))) := fun W h => ⟨(A5.out.later h).cells, (X5.out.later h).cells⟩
  clear hkx
  go_wp2_with fail
  refine wp_region_noPanic ?_
  refine wp_region_held_drew (S := (fun W => (W.cell? ⟨w.heap.size, 0, none⟩ = some (.int .i64 y) ∧ W.cell? ⟨w.heap.size, 1, none⟩ = some (.int .i64 tm) ∧ W.cell? ⟨w.heap.size, 2, none⟩ = some (.slice ba bn bc) ∧ W.cell? ⟨w.heap.size, 3, none⟩ = some (.slice ga gn gc)) ∧ (W.cell? ⟨kx, 0, none⟩ = some (.int .i64 y) ∧ W.cell? ⟨kx, 1, none⟩ = some (.int .i64 tm) ∧ W.cell? ⟨kx, 2, none⟩ = some (.slice (some ⟨km4, 0, none⟩) bn bn) ∧ W.cell? ⟨kx, 3, none⟩ = some (.slice (some ⟨kg4, 0, none⟩) gn gn)))) (by kernel_rfl) (HS.out _ (bdr (bre _))) (fun hHeld => ?_)
  refine tk 0 ?_
  refine tk 1 ?_
  clear hHeld
  refine ry 2 (fun K hK => ?_)
  go_simp
  refine (toStore_any 0 w.heap.size 0 w.heap.size y tm ba bn bc ga gn gc S G _ HL.out S2.out S4.out (HM.out.later (btr B5.out (by repeat (first | exact bre _ | refine bdr ?_ | refine btr ?_ (by assumption) | refine bpush ?_ _)))) HGL.out S3.out (HS'.out.later (btr B5.out (by repeat (first | exact bre _ | refine bdr ?_ | refine btr ?_ (by assumption) | refine bpush ?_ _))))).mono ?_; rintro e w6 ⟨km6, kg6, rfl, how6, hb6⟩
  have R6 := hid how6.reads.2.2.1
  have Q6 := hid how6.reads.2.2.2
  go_wp2_with fail
  refine hK.out _ _ (HS.out _ (by repeat (first | exact bre _ | refine bdr ?_ | refine btr ?_ (by assumption) | refine bpush ?_ _))) (fun hHeld => ?_)
  clear hK K
  try simp only [Act.put, List.setIfInBounds_toArray, List.set_cons_zero, List.set_cons_succ]
  clear hHeld
  refine ry 3 (fun K hK => ?_)
  go_simp
  refine (eqStore_any _ _ _ _ _ _ _ _ y tm _ bn _ _ gn _ _ _ _ _ S G _ HL.out S2.out S4.out (R5.out.later (by repeat (first | exact bre _ | refine bdr ?_ | refine btr ?_ (by assumption) | refine bpush ?_ _))) R6.out HGL.out S3.out (Q5.out.later (by repeat (first | exact bre _ | refine bdr ?_ | refine btr ?_ (by assumption) | refine bpush ?_ _))) Q6.out).mono ?_; rintro e w7 ⟨rfl, hb7⟩
  go_wp2_with fail
  refine hK.out _ _ (HS.out _ (by repeat (first | exact bre _ | refine bdr ?_ | refine btr ?_ (by assumption) | refine bpush ?_ _))) (fun hHeld => ?_)
  clear hK K
  try simp only [Act.put, List.setIfInBounds_toArray, List.set_cons_zero, List.set_cons_succ]
  refine tk 4 ?_
  refine wpAnyH_done (by kernel_rfl) ?_ _
  refine NoPanic.normal ?_
  clear hHeld
  go_wp2
  go_ret
  exact ⟨rfl, btr B5.out (by repeat (first | exact bre _ | refine bdr ?_ | refine btr ?_ (by assumption) | refine bpush ?_ _))⟩
end Go.Proofs.YtocfggfccbnbhaaGreatDoor

namespace Go.Proofs.YtocfggfccbnbhaaGreatDoor
open Go.RowKit Go.ChangeMaps
set_option maxHeartbeats 4000000 in
set_option maxRecDepth 100000 in
theorem lawSameStore_any (y tm : Int) (ba : Option Addr) (bn bc : Nat) (ga : Option Addr) (gn gc : Nat) (S : List X7) (G : List Int) (y' tm' : Int) (ba' : Option Addr) (bn' bc' : Nat) (ga' : Option Addr) (gn' gc' : Nat) (S' : List X7) (G' : List Int) (w : World) (hl : S.length = bn) (hn : (bn : Int) ≤ 9223372036854775807) (hft : FitB S) (hm : Bs 0 w.heap.size w ba S) (hgl : G.length = gn) (hgn : (gn : Int) ≤ 9223372036854775807) (hs : Is 0 w.heap.size w ga G) (hl' : S'.length = bn') (hn' : (bn' : Int) ≤ 9223372036854775807) (hft' : FitB S') (hm' : Bs 0 w.heap.size w ba' S') (hgl' : G'.length = gn') (hgn' : (gn' : Int) ≤ 9223372036854775807) (hs' : Is 0 w.heap.size w ga' G') (hnb : Nib w) :
    Calls Tryz.prog 6 #[.agg #[.int .i64 y, .int .i64 tm, .slice ba bn bc, .slice ga gn gc], .agg #[.int .i64 y', .int .i64 tm', .slice ba' bn' bc', .slice ga' gn' gc']] w fun e w' => e = .returned (.bool true) ∧ Below w.heap.size w w' := by
  have HNB := hid hnb
  clear hnb
  obtain ⟨W0, hW0⟩ : ∃ W0, (w.alloc (.cells #[.int .i64 y, .int .i64 tm, .slice ba bn bc, .slice ga gn gc] 53)).alloc (.cells #[.int .i64 y', .int .i64 tm', .slice ba' bn' bc', .slice ga' gn' gc'] 53) = W0 := ⟨_, rfl⟩
  obtain ⟨a0, a1, b0, _⟩ := two_stores w _ _ _ _ _ _ _ _ _ _ W0 hW0
  have c0 := a0.cells
  have A0 := hid a0
  have D0 := hid a1
  have B0 := hid b0
  have HM := hid hm
  have HS := hid hs
  have HF := hid hft
  have HL := hid hl
  have HGL := hid hgl
  have HN := hid hn
  have HGN := hid hgn
  have HM' := hid hm'
  have HS' := hid hs'
  have HF' := hid hft'
  have HL' := hid hl'
  have HGL' := hid hgl'
  have HN' := hid hn'
  have HGN' := hid hgn'
  clear a0 a1 b0 hm hs hft hl hgl hn hgn hm' hs' hft' hl' hgl' hn' hgn'
  go_enter Tryz.func6, Tryz.ntmps6
  go_wp2_with fail
  try rw [hW0]
  clear hW0
  refine (szStore_any 0 w.heap.size y tm ba bn bc ga gn gc S _ HL.out HN.out HF.out (HM.out.later B0.out) HGN.out).mono ?_; rintro e w1 ⟨rfl, hb1⟩
  have A1 := hid (A0.out.later hb1)
  have D1 := hid (D0.out.later hb1)
  have B1 := hid (btr B0.out hb1)
  clear hb1 A0 D0 B0 c0
  by_cases hbig : (1048576 : Int) < ((szB S + gn : Nat) : Int)
  · rw [szr_over hbig]
    clear hbig
    go_wp2
    go_ret
    exact ⟨rfl, B1.out⟩
  obtain ⟨s2, s3, s4⟩ := smallS (gn := gn) hbig
  obtain ⟨q, hq⟩ : ∃ q, szr 1048576 (szB S + gn) = q := ⟨_, rfl⟩
  have h0 : ¬ q < 0 := by rw [← hq, szr_fits hbig]; omega
  have h1 : 0 ≤ q ∧ q ≤ 1048576 := by rw [← hq, szr_fits hbig]; omega
  have QE : Hid (q + ((szB S + gn : Nat) : Int) = 1048576) := by show _ = _; rw [← hq, szr_fits hbig]; omega
  rw [hq]
  have S2 : Hid (bn ≤ 1048576) := by show _ ≤ _; rw [← HL.out]; exact s2
  have S3 := hid s3
  have S4 := hid s4
  have Q1 := hid h1
  have c0 := D1.out.cells
  clear hq hbig s2 s3 s4 h1
  go_wp2_with fail
  refine (szStoreL_any q Q1.out 0 w.heap.size y' tm' ba' bn' bc' ga' gn' gc' S' _ HL'.out HN'.out HF'.out (HM'.out.later B1.out) HGN'.out).mono ?_; rintro e w2 ⟨rfl, hb2⟩
  have A2 := hid (A1.out.later hb2)
  have D2 := hid (D1.out.later hb2)
  have B2 := hid (btr B1.out hb2)
  clear hb2 A1 D1 B1 c0 h0
  by_cases hbig : q < ((szB S' + gn' : Nat) : Int)
  · rw [szr_over hbig]
    clear hbig
    go_wp2
    go_ret
    exact ⟨rfl, B2.out⟩
  have SUM : Hid (((szB S + gn : Nat) : Int) + ((szB S' + gn' : Nat) : Int) ≤ 1048576) := by show _ ≤ _; have := QE.out; omega
  obtain ⟨s2, s3, s4⟩ := smallS (S := S') (gn := gn') (by have := Q1.out.2; omega)
  obtain ⟨r, hr⟩ : ∃ r, szr q (szB S' + gn') = r := ⟨_, rfl⟩
  have h0 : ¬ r < 0 := by rw [← hr, szr_fits hbig]; omega
  rw [hr]
  have S2' : Hid (bn' ≤ 1048576) := by show _ ≤ _; rw [← HL'.out]; exact s2
  have S3' := hid s3
  have S4' := hid s4
  clear hr hbig s2 s3 s4
  have HZ : Hid (∀ W, Below w2.heap.size w2 W → (W.cell? ⟨w.heap.size, 0, none⟩ = some (.int .i64 y) ∧ W.cell? ⟨w.heap.size, 1, none⟩ = some (.int .i64 tm) ∧ W.cell? ⟨w.heap.size, 2, none⟩ = some (.slice ba bn bc) ∧ W.cell? ⟨w.heap.size, 3, none⟩ = some (.slice ga gn gc)) ∧ (W.cell? ⟨w.heap.size + 1, 0, none⟩ = some (.int .i64 y') ∧ W.cell? ⟨w.heap.size + 1, 1, none⟩ = some (.int .i64 tm') ∧ W.cell? ⟨w.heap.size + 1, 2, none⟩ = some (.slice ba' bn' bc') ∧ W.cell? ⟨w.heap.size + 1, 3, none⟩ = some (.slice ga' gn' gc'))) :=
    fun W h => ⟨(A2.out.later h).cells, (D2.out.later h).cells⟩
  go_wp2_with fail
  go_region_held3 (fun W => (W.cell? ⟨w.heap.size, 0, none⟩ = some (.int .i64 y) ∧ W.cell? ⟨w.heap.size, 1, none⟩ = some (.int .i64 tm) ∧ W.cell? ⟨w.heap.size, 2, none⟩ = some (.slice ba bn bc) ∧ W.cell? ⟨w.heap.size, 3, none⟩ = some (.slice ga gn gc)) ∧ (W.cell? ⟨w.heap.size + 1, 0, none⟩ = some (.int .i64 y') ∧ W.cell? ⟨w.heap.size + 1, 1, none⟩ = some (.int .i64 tm') ∧ W.cell? ⟨w.heap.size + 1, 2, none⟩ = some (.slice ba' bn' bc') ∧ W.cell? ⟨w.heap.size + 1, 3, none⟩ = some (.slice ga' gn' gc')))
    ((refine HZ.out _ ?_; repeat (first | exact bdr (bre _) | exact P5.out | exact P4.out | exact P3.out | refine btr ?_ (by assumption))))
    ((first
      | (go_at_call 27; first
        | ((with_reducible refine (toStore_any 0 w.heap.size 0 w.heap.size y tm ba bn bc ga gn gc S G _ HL.out S2.out S4.out (HM.out.later (btr B2.out (bdr (bre _)))) HGL.out S3.out (HS.out.later (btr B2.out (bdr (bre _))))).mono ?_); rintro e w3 ⟨km, kg, rfl, how, hb3⟩; have O3 := hid how; have P3 : Hid (Below w2.heap.size w2 w3) := btr (bdr (bre _)) hb3)
        | ((with_reducible refine (toStore_any 0 w.heap.size 0 w.heap.size y' tm' ba' bn' bc' ga' gn' gc' S' G' _ HL'.out S2'.out S4'.out (HM'.out.later (btr B2.out P3.out)) HGL'.out S3'.out (HS'.out.later (btr B2.out P3.out))).mono ?_); rintro e w4 ⟨km', kg', rfl, how', hb4⟩; have O4 := hid how'; have O3b := hid (((O3.out.reads.2.2.1).later hb4)); have O3c := hid (((O3.out.reads.2.2.2).later hb4)); have P4 : Hid (Below w2.heap.size w2 w4) := btr P3.out hb4))
      | (go_at_call 24; (with_reducible refine (specSameStore_any _ _ _ _ _ _ _ _ y tm _ bn _ _ gn _ S G y' tm' _ bn' _ _ gn' _ S' G' w4 HL.out S2.out S4.out O3b.out HGL.out S3.out O3c.out HL'.out S2'.out S4'.out O4.out.reads.2.2.1 HGL'.out S3'.out O4.out.reads.2.2.2).mono ?_); rintro e w5 ⟨⟨r', rfl, hr'⟩, hb5⟩; have HR := hid hr'; have P5 : Hid (Below w2.heap.size w2 w5) := btr P4.out hb5)))
  have A5 := hid (A2.out.later P5.out)
  have D5 := hid (D2.out.later P5.out)
  have B5 := hid (btr B2.out P5.out)
  clear A2 D2 B2 HZ P3 P4 P5 O3 O4 O3b O3c hr'
  have c0 := A5.out.cells
  go_wp2_with fail
  refine (toStore_any 0 w.heap.size 0 w.heap.size y tm ba bn bc ga gn gc S G _ HL.out S2.out S4.out (HM.out.later B5.out) HGL.out S3.out (HS.out.later B5.out)).mono ?_; rintro e w6 ⟨km, kg, rfl, how, hb6⟩
  obtain ⟨-, -, r1, r2⟩ := how.reads
  have X6 := hid (Sx.new w6 27 y tm (.slice (some ⟨km, 0, none⟩) bn bn) (.slice (some ⟨kg, 0, none⟩) gn gn))
  have b6 : Below w6.heap.size w6 (w6.alloc (.cells #[.int .i64 y, .int .i64 tm, .slice (some ⟨km, 0, none⟩) bn bn, .slice (some ⟨kg, 0, none⟩) gn gn] 27)) := bpush (bre _) _
  have R1 := hid (r1.later b6)
  have R2 := hid (r2.later b6)
  have A6 := hid ((A5.out.later hb6).later b6)
  have D6 := hid ((D5.out.later hb6).later b6)
  have B6 := hid (btr (btr B5.out hb6) b6)
  clear hb6 b6 r1 r2 how A5 D5 B5 c0
  have c0 := D6.out.cells
  obtain ⟨W6, hW6⟩ : ∃ W6, w6.alloc (.cells #[.int .i64 y, .int .i64 tm, .slice (some ⟨km, 0, none⟩) bn bn, .slice (some ⟨kg, 0, none⟩) gn gn] 27) = W6 := ⟨_, rfl⟩
  rw [hW6] at X6 R1 R2 A6 D6 B6
  have HX := hid hW6
  clear hW6
  go_wp2_with fail
  rw [HX.out]
  refine (toStore_any 0 w.heap.size 0 w.heap.size y' tm' ba' bn' bc' ga' gn' gc' S' G' _ HL'.out S2'.out S4'.out (HM'.out.later B6.out) HGL'.out S3'.out (HS'.out.later B6.out)).mono ?_; rintro e w7 ⟨km', kg', rfl, how, hb7⟩
  obtain ⟨-, -, r1, r2⟩ := how.reads
  have X7 := hid (Sx.new w7 27 y' tm' (.slice (some ⟨km', 0, none⟩) bn' bn') (.slice (some ⟨kg', 0, none⟩) gn' gn'))
  have b7 : Below w7.heap.size w7 (w7.alloc (.cells #[.int .i64 y', .int .i64 tm', .slice (some ⟨km', 0, none⟩) bn' bn', .slice (some ⟨kg', 0, none⟩) gn' gn'] 27)) := bpush (bre _) _
  have R1' := hid (r1.later b7)
  have R2' := hid (r2.later b7)
  have R3 := hid ((R1.out.later hb7).later b7)
  have R4 := hid ((R2.out.later hb7).later b7)
  have X6b := hid ((X6.out.later hb7).later b7)
  have A7 := hid ((A6.out.later hb7).later b7)
  have D7 := hid ((D6.out.later hb7).later b7)
  have B7 := hid (btr (btr B6.out hb7) b7)
  clear hb7 b7 r1 r2 how A6 D6 B6 c0 R1 R2 X6
  have c0 := X6b.out.cells
  have c1 := X7.out.cells
  obtain ⟨W7, hW7⟩ : ∃ W7, w7.alloc (.cells #[.int .i64 y', .int .i64 tm', .slice (some ⟨km', 0, none⟩) bn' bn', .slice (some ⟨kg', 0, none⟩) gn' gn'] 27) = W7 := ⟨_, rfl⟩
  rw [hW7] at X7 R1' R2' R3 R4 X6b A7 D7 B7
  have HY := hid hW7
  clear hW7
  go_wp2_with fail
  rw [HY.out]
  refine (implSameStore_any _ _ _ _ _ _ _ _ y tm _ bn _ _ gn _ S G y' tm' _ bn' _ _ gn' _ S' G' W7 HL.out S2.out S4.out R3.out HGL.out S3.out R4.out HL'.out S2'.out S4'.out R1'.out HGL'.out S3'.out R2'.out (HNB.out.on B7.out)).mono ?_; rintro e w8 ⟨⟨r9, rfl, hr9⟩, hb8⟩
  obtain rfl : r' = r9 := Bool.eq_iff_iff.2 (HR.out.trans hr9.symm)
  clear hr9
  have xx : (r' != r') = false := by simp
  have A8 := hid (A7.out.later hb8)
  have D8 := hid (D7.out.later hb8)
  have B8 := hid (btr B7.out hb8)
  have X8 := hid (X6b.out.later hb8)
  have Y8 := hid (X7.out.later hb8)
  have U1 := hid (R3.out.later hb8)
  have U2 := hid (R4.out.later hb8)
  have U3 := hid (R1'.out.later hb8)
  have U4 := hid (R2'.out.later hb8)
  clear hb8 A7 D7 B7 X6b X7 R3 R4 R1' R2' c0 c1 HX HY
  have HZ : Hid (∀ W, Below w8.heap.size w8 W → (W.cell? ⟨w.heap.size, 0, none⟩ = some (.int .i64 y) ∧ W.cell? ⟨w.heap.size, 1, none⟩ = some (.int .i64 tm) ∧ W.cell? ⟨w.heap.size, 2, none⟩ = some (.slice ba bn bc) ∧ W.cell? ⟨w.heap.size, 3, none⟩ = some (.slice ga gn gc)) ∧ (W.cell? ⟨w.heap.size + 1, 0, none⟩ = some (.int .i64 y') ∧ W.cell? ⟨w.heap.size + 1, 1, none⟩ = some (.int .i64 tm') ∧ W.cell? ⟨w.heap.size + 1, 2, none⟩ = some (.slice ba' bn' bc') ∧ W.cell? ⟨w.heap.size + 1, 3, none⟩ = some (.slice ga' gn' gc')) ∧ (W.cell? ⟨w6.heap.size, 0, none⟩ = some (.int .i64 y) ∧ W.cell? ⟨w6.heap.size, 1, none⟩ = some (.int .i64 tm) ∧ W.cell? ⟨w6.heap.size, 2, none⟩ = some (.slice (some ⟨km, 0, none⟩) bn bn) ∧ W.cell? ⟨w6.heap.size, 3, none⟩ = some (.slice (some ⟨kg, 0, none⟩) gn gn)) ∧ (W.cell? ⟨w7.heap.size, 0, none⟩ = some (.int .i64 y') ∧ W.cell? ⟨w7.heap.size, 1, none⟩ = some (.int .i64 tm') ∧ W.cell? ⟨w7.heap.size, 2, none⟩ = some (.slice (some ⟨km', 0, none⟩) bn' bn') ∧ W.cell? ⟨w7.heap.size, 3, none⟩ = some (.slice (some ⟨kg', 0, none⟩) gn' gn'))) :=
    fun W h => ⟨(A8.out.later h).cells, (D8.out.later h).cells, (X8.out.later h).cells, (Y8.out.later h).cells⟩
  go_wp2_with fail
  go_region_held3 (fun W => (W.cell? ⟨w.heap.size, 0, none⟩ = some (.int .i64 y) ∧ W.cell? ⟨w.heap.size, 1, none⟩ = some (.int .i64 tm) ∧ W.cell? ⟨w.heap.size, 2, none⟩ = some (.slice ba bn bc) ∧ W.cell? ⟨w.heap.size, 3, none⟩ = some (.slice ga gn gc)) ∧ (W.cell? ⟨w.heap.size + 1, 0, none⟩ = some (.int .i64 y') ∧ W.cell? ⟨w.heap.size + 1, 1, none⟩ = some (.int .i64 tm') ∧ W.cell? ⟨w.heap.size + 1, 2, none⟩ = some (.slice ba' bn' bc') ∧ W.cell? ⟨w.heap.size + 1, 3, none⟩ = some (.slice ga' gn' gc')) ∧ (W.cell? ⟨w6.heap.size, 0, none⟩ = some (.int .i64 y) ∧ W.cell? ⟨w6.heap.size, 1, none⟩ = some (.int .i64 tm) ∧ W.cell? ⟨w6.heap.size, 2, none⟩ = some (.slice (some ⟨km, 0, none⟩) bn bn) ∧ W.cell? ⟨w6.heap.size, 3, none⟩ = some (.slice (some ⟨kg, 0, none⟩) gn gn)) ∧ (W.cell? ⟨w7.heap.size, 0, none⟩ = some (.int .i64 y') ∧ W.cell? ⟨w7.heap.size, 1, none⟩ = some (.int .i64 tm') ∧ W.cell? ⟨w7.heap.size, 2, none⟩ = some (.slice (some ⟨km', 0, none⟩) bn' bn') ∧ W.cell? ⟨w7.heap.size, 3, none⟩ = some (.slice (some ⟨kg', 0, none⟩) gn' gn')))
    ((refine HZ.out _ ?_; repeat (first | exact bdr (bre _) | exact P10.out | exact P9.out | refine btr ?_ (by assumption))))
    ((first
      | (go_at_call 27; (with_reducible refine (toStore_any 0 w.heap.size 0 w.heap.size y tm ba bn bc ga gn gc S G _ HL.out S2.out S4.out (HM.out.later (btr B8.out (bdr (bre _)))) HGL.out S3.out (HS.out.later (btr B8.out (bdr (bre _))))).mono ?_); rintro e w9 ⟨km9, kg9, rfl, how, hb9⟩; have O9 := hid how; have P9 : Hid (Below w8.heap.size w8 w9) := btr (bdr (bre _)) hb9)
      | (go_at_call 28; (with_reducible refine (eqStore_any _ _ _ _ _ _ _ _ y tm _ bn _ _ gn _ _ _ _ _ S G w9 HL.out S2.out S4.out (U1.out.later P9.out) O9.out.reads.2.2.1 HGL.out S3.out (U2.out.later P9.out) O9.out.reads.2.2.2).mono ?_); rintro e w10 ⟨rfl, hb10⟩; have P10 : Hid (Below w8.heap.size w8 w10) := btr P9.out hb10)))
  clear O9 P9
  go_wp2_with fail
  go_region_held3 (fun W => (W.cell? ⟨w.heap.size, 0, none⟩ = some (.int .i64 y) ∧ W.cell? ⟨w.heap.size, 1, none⟩ = some (.int .i64 tm) ∧ W.cell? ⟨w.heap.size, 2, none⟩ = some (.slice ba bn bc) ∧ W.cell? ⟨w.heap.size, 3, none⟩ = some (.slice ga gn gc)) ∧ (W.cell? ⟨w.heap.size + 1, 0, none⟩ = some (.int .i64 y') ∧ W.cell? ⟨w.heap.size + 1, 1, none⟩ = some (.int .i64 tm') ∧ W.cell? ⟨w.heap.size + 1, 2, none⟩ = some (.slice ba' bn' bc') ∧ W.cell? ⟨w.heap.size + 1, 3, none⟩ = some (.slice ga' gn' gc')) ∧ (W.cell? ⟨w6.heap.size, 0, none⟩ = some (.int .i64 y) ∧ W.cell? ⟨w6.heap.size, 1, none⟩ = some (.int .i64 tm) ∧ W.cell? ⟨w6.heap.size, 2, none⟩ = some (.slice (some ⟨km, 0, none⟩) bn bn) ∧ W.cell? ⟨w6.heap.size, 3, none⟩ = some (.slice (some ⟨kg, 0, none⟩) gn gn)) ∧ (W.cell? ⟨w7.heap.size, 0, none⟩ = some (.int .i64 y') ∧ W.cell? ⟨w7.heap.size, 1, none⟩ = some (.int .i64 tm') ∧ W.cell? ⟨w7.heap.size, 2, none⟩ = some (.slice (some ⟨km', 0, none⟩) bn' bn') ∧ W.cell? ⟨w7.heap.size, 3, none⟩ = some (.slice (some ⟨kg', 0, none⟩) gn' gn')))
    ((refine HZ.out _ ?_; repeat (first | exact bdr P10.out | exact P12.out | exact P11.out | refine btr ?_ (by assumption))))
    ((first
      | (go_at_call 27; (with_reducible refine (toStore_any 0 w.heap.size 0 w.heap.size y' tm' ba' bn' bc' ga' gn' gc' S' G' _ HL'.out S2'.out S4'.out (HM'.out.later (btr B8.out (bdr P10.out))) HGL'.out S3'.out (HS'.out.later (btr B8.out (bdr P10.out)))).mono ?_); rintro e w11 ⟨km9, kg9, rfl, how, hb9⟩; have O9 := hid how; have P11 : Hid (Below w8.heap.size w8 w11) := btr (bdr P10.out) hb9)
      | (go_at_call 28; (with_reducible refine (eqStore_any _ _ _ _ _ _ _ _ y' tm' _ bn' _ _ gn' _ _ _ _ _ S' G' w11 HL'.out S2'.out S4'.out (U3.out.later P11.out) O9.out.reads.2.2.1 HGL'.out S3'.out (U4.out.later P11.out) O9.out.reads.2.2.2).mono ?_); rintro e w12 ⟨rfl, hb10⟩; have P12 : Hid (Below w8.heap.size w8 w12) := btr P11.out hb10)))
  go_wp2
  go_ret
  exact ⟨rfl, btr B8.out P12.out⟩
end Go.Proofs.YtocfggfccbnbhaaGreatDoor

namespace Go.Proofs.YtocfggfccbnbhaaGreatDoor
open Go.ChangeShapes Go.WideShapes Go.ChangeAt Go.RowKit Go.Joins
theorem cellsInt : Tryz.prog.cellsOf 3 = 1 := by kernel_rfl
theorem cellsSt : Tryz.prog.cellsOf 147 = 2 := by kernel_rfl
theorem cellsRg : Tryz.prog.cellsOf 236 = 3 := by kernel_rfl
section
variable {H : Type} {enc : TypeId × Value → H} {w : World} {sp : Nat → Bool} {held : Bool}
set_option maxRecDepth 100000 in
theorem trodSt {fuel : Nat} {cs : List Value} {x : DataW H × List MemPlace} (hc : cs.length = 2) (h : DataW.trod enc Tryz.prog w 0 sp held fuel 147 cs = some x) :
    ∃ t b : Int, cs = [.int .i64 t, .int .i64 b] ∧ x = (.agg [.lit (.int .i64 t), .lit (.int .i64 b)], []) ∧ (Lit.int .i64 t).wf = true ∧ (Lit.int .i64 b).wf = true := by
  obtain ⟨y0, y1, n, hx, hl, h0, h1⟩ := trod_struct2 Tryz.underlying147 h
  match cs, hc with
  | [c0, c1], _ =>
    have k0 : DataW.trod enc Tryz.prog w 0 sp held n 3 [c0] = some y0 := by simpa [cellsInt] using h0
    have k1 : DataW.trod enc Tryz.prog w 0 sp held n 3 [c1] = some y1 := by simpa [cellsInt] using h1
    obtain ⟨t, e0, rfl, w0⟩ := DataW.trod_int Tryz.underlying3 k0
    obtain ⟨b, e1, rfl, w1⟩ := DataW.trod_int Tryz.underlying3 k1
    simp at e0 e1
    subst e0 e1
    exact ⟨t, b, rfl, hx, w0, w1⟩
end
end Go.Proofs.YtocfggfccbnbhaaGreatDoor

namespace Go.Proofs.YtocfggfccbnbhaaGreatDoor
open Go.ChangeShapes Go.WideShapes Go.ChangeAt Go.RowKit Go.Joins
section
variable {H : Type} {enc : TypeId × Value → H} {w : World} {spr : Nat → Bool} {held : Bool}
set_option maxRecDepth 100000 in
theorem trodRg {fuel : Nat} {cs : List Value} {y : DataW H × List MemPlace} (hc : cs.length = 3) (hf : DataW.trod enc Tryz.prog w 0 spr held fuel 236 cs = some y) :
    ∃ x t b : Int, cs = [.int .i64 x, .int .i64 t, .int .i64 b] := by
  match cs, hc with
  | [c0, c1, c2], _ =>
    obtain ⟨y0, y1, n, hx, hl, h0, h1⟩ := trod_struct2 Tryz.underlying236 hf
    have k0 : DataW.trod enc Tryz.prog w 0 spr held n 3 [c0] = some y0 := by simpa [cellsInt] using h0
    have k1 : DataW.trod enc Tryz.prog w 0 spr held n 147 [c1, c2] = some y1 := by simpa [cellsSt] using h1
    obtain ⟨x, e0, rfl, _⟩ := DataW.trod_int Tryz.underlying3 k0
    obtain ⟨t, b, e, rfl, _, _⟩ := trodSt rfl k1
    simp at e0 e
    obtain ⟨rfl, rfl⟩ := e
    subst e0
    exact ⟨x, t, b, rfl⟩
set_option maxRecDepth 100000 in
theorem addr_at {a : Addr} {u : Value} (h : w.cell? (a.add 0) = some u) : ∃ k o, a = ⟨k, o, none⟩ := by
  obtain ⟨k, o, s⟩ := a
  have hs : s = none := by simpa [Addr.add] using World.cell?_spot h
  exact ⟨k, o, by rw [hs]⟩
end
end Go.Proofs.YtocfggfccbnbhaaGreatDoor

namespace Go.Proofs.YtocfggfccbnbhaaGreatDoor
open Go.ChangeShapes Go.WideShapes Go.ChangeAt Go.RowKit Go.Joins
theorem cellsMl : Tryz.prog.cellsOf 202 = 4 := by kernel_rfl
theorem cellsRs : Tryz.prog.cellsOf 200 = 1 := by kernel_rfl
theorem cellsTx : Tryz.prog.cellsOf 9 = 1 := by kernel_rfl
section
variable {H : Type} {enc : TypeId × Value → H} {w : World} {spr : Nat → Bool} {held : Bool}
set_option maxRecDepth 100000 in
theorem trodRgS {fuel : Nat} {cs : List Value} {y : DataW H × List MemPlace} (hf : DataW.trod enc Tryz.prog w 0 spr held fuel 200 cs = some y) :
    ∃ (ao : Option Addr) (n cap : Nat) (l : List R3), cs = [.slice ao n cap] ∧ l.length = n ∧ (n : Int) ≤ 9223372036854775807 ∧ Rs w ao l := by
  rcases Go.Deep.open_slice Tryz.underlying200 hf with ⟨hcs, _⟩ | ⟨a, n, cap, m, nf, D, Pl, hcs, _, hl, hm, hmm, _, hx⟩
  · exact ⟨none, 0, 0, [], hcs, rfl, by decide, Rs.empty _ _⟩
  · have hlm : n ≤ m := by rw [hmm]; split <;> omega
    have hx' : ∀ i, i < n → ∃ r : R3, w.cell? (a.add (i * 3)) = some (.int .i64 r.1) ∧ w.cell? (a.add (i * 3 + 1)) = some (.int .i64 r.2.1) ∧ w.cell? (a.add (i * 3 + 2)) = some (.int .i64 r.2.2) := by
      intro i hi
      obtain ⟨cs, h1, h2⟩ := hx i (by omega)
      rw [cellsRg] at h1
      obtain ⟨_, hlen, hcell⟩ := World.cells?_some h1
      obtain ⟨x, t, b, rfl⟩ := trodRg hlen h2
      have e0 := hcell 0 (by omega)
      have e1 := hcell 1 (by omega)
      have e2 := hcell 2 (by omega)
      simp only [Go.Deep.add_add, Nat.add_zero] at e0 e1 e2
      exact ⟨(x, t, b), by simpa using e0, by simpa using e1, by simpa using e2⟩
    obtain ⟨r, hr⟩ := Go.Deep.choose_lt hx'
    refine ⟨some a, n, cap, (List.range n).map r, hcs, by simp, by unfold maxLen at hm; omega, ?_⟩
    intro hn
    simp at hn
    obtain ⟨k, o, rfl⟩ := addr_at (u := .int .i64 (r 0).1) (by simpa using (hr 0 hn).1)
    refine ⟨k, o, rfl, World.block_lt_of_cell? w (Addr.add ⟨k, o, none⟩ (0 * 3)) (hr 0 hn).1, fun i hi => ?_⟩
    have hi' : i < n := by simpa using hi
    have e := hr i hi'
    simp only [addr_add] at e
    simp only [List.getElem_map, List.getElem_range, Nat.add_assoc]
    exact e
end
end Go.Proofs.YtocfggfccbnbhaaGreatDoor

namespace Go.Proofs.YtocfggfccbnbhaaGreatDoor
open Go.ChangeShapes Go.WideShapes Go.ChangeAt Go.RowKit Go.Joins
theorem cellsBx : Tryz.prog.cellsOf 150 = 7 := by kernel_rfl
theorem cellsMls : Tryz.prog.cellsOf 148 = 1 := by kernel_rfl
theorem cellsIs : Tryz.prog.cellsOf 25 = 1 := by kernel_rfl
section
variable {H : Type} {enc : TypeId × Value → H} {w : World} {spr : Nat → Bool} {held : Bool}
theorem trod_struct6 {P : Program} {base : Nat} {spare : Nat → Bool} {t : TypeId} {f0 f1 f2 f3 f4 f5 : Field} {fuel : Nat} {cs : List Value} {x : DataW H × List MemPlace} (ht : P.underlying t = some (.struct #[f0, f1, f2, f3, f4, f5])) (h : DataW.trod enc P w base spare held fuel t cs = some x) :
    ∃ y0 y1 y2 y3 y4 y5 n, cs.length = P.cellsOf t ∧ DataW.trod enc P w base spare held n f0.type ((cs.drop f0.offset).take (P.cellsOf f0.type)) = some y0 ∧
      DataW.trod enc P w base spare held n f1.type ((cs.drop f1.offset).take (P.cellsOf f1.type)) = some y1 ∧ DataW.trod enc P w base spare held n f2.type ((cs.drop f2.offset).take (P.cellsOf f2.type)) = some y2 ∧
      DataW.trod enc P w base spare held n f3.type ((cs.drop f3.offset).take (P.cellsOf f3.type)) = some y3 ∧ DataW.trod enc P w base spare held n f4.type ((cs.drop f4.offset).take (P.cellsOf f4.type)) = some y4 ∧
      DataW.trod enc P w base spare held n f5.type ((cs.drop f5.offset).take (P.cellsOf f5.type)) = some y5 := by
  obtain ⟨xs, n, _, rfl, hl, hlen, hf⟩ := DataW.trod_struct ht h
  match xs, hlen with
  | [y0, y1, y2, y3, y4, y5], _ => exact ⟨y0, y1, y2, y3, y4, y5, n, hl, by simpa using hf 0 f0 rfl, by simpa using hf 1 f1 rfl, by simpa using hf 2 f2 rfl, by simpa using hf 3 f3 rfl, by simpa using hf 4 f4 rfl, by simpa using hf 5 f5 rfl⟩
/-- A list of registers in a field: a nil one has no room. -/
theorem trodRgZ {fuel : Nat} {cs : List Value} {y : DataW H × List MemPlace} (hf : DataW.trod enc Tryz.prog w 0 spr held fuel 200 cs = some y) :
    ∃ (ao : Option Addr) (n cap : Nat) (l : List R3), cs = [.slice ao n cap] ∧ l.length = n ∧ (n : Int) ≤ 9223372036854775807 ∧ Rs w ao l ∧ (ao = none → cap = 0) := by
  obtain ⟨ao, n, cap, l, h1, h2, h3, h4⟩ := trodRgS hf
  refine ⟨ao, n, cap, l, h1, h2, h3, h4, fun h0 => ?_⟩
  subst h0
  rcases Go.Deep.open_slice Tryz.underlying200 hf with ⟨hcs, _⟩ | ⟨a, n', cap', m, nf, D, Pl, hcs, _⟩
  · rw [h1] at hcs
    simp only [List.cons.injEq, Value.slice.injEq, and_true, true_and] at hcs
    exact hcs.2
  · rw [h1] at hcs
    simp at hcs
set_option maxRecDepth 100000 in
theorem trodMl {fuel : Nat} {cs : List Value} {y : DataW H × List MemPlace} (hc : cs.length = 4) (hf : DataW.trod enc Tryz.prog w 0 spr held fuel 202 cs = some y) :
    ∃ (r : M4) (fa : Option Addr) (fc : Nat), cs = [.int .i64 r.1, .int .i64 r.2.1, .slice fa r.2.2.1.length fc, .string r.2.2.2] ∧ ((r.2.2.1.length : Int) ≤ 9223372036854775807 ∧ (r.2.2.2.size : Int) ≤ 9223372036854775807) ∧ Rs w fa r.2.2.1 ∧ (fa = none → fc = 0) := by
  match cs, hc with
  | [c0, c1, c2, c3], _ =>
    obtain ⟨y0, y1, y2, y3, n, hx, hl, h0, h1, h2, h3⟩ := trod_struct4 Tryz.underlying202 hf
    have k0 : DataW.trod enc Tryz.prog w 0 spr held n 3 [c0] = some y0 := by simpa [cellsInt] using h0
    have k1 : DataW.trod enc Tryz.prog w 0 spr held n 3 [c1] = some y1 := by simpa [cellsInt] using h1
    have k2 : DataW.trod enc Tryz.prog w 0 spr held n 200 [c2] = some y2 := by simpa [cellsRs] using h2
    have k3 : DataW.trod enc Tryz.prog w 0 spr held n 9 [c3] = some y3 := by simpa [cellsTx] using h3
    obtain ⟨g, e0, _, _⟩ := DataW.trod_int Tryz.underlying3 k0
    obtain ⟨u, e1, _, _⟩ := DataW.trod_int Tryz.underlying3 k1
    obtain ⟨ao, m, cap, l, e2, hl2, hm, hr, hz⟩ := trodRgZ k2
    obtain ⟨t, e3, _, ht⟩ := DataW.trod_string Tryz.underlying9 k3
    simp only [List.cons.injEq, and_true] at e0 e1 e2 e3
    subst e0 e1 e2 e3 hl2
    exact ⟨(g, u, l, t), ao, cap, rfl, ⟨hm, by unfold maxLen at ht; dsimp only; omega⟩, hr, hz⟩
set_option maxRecDepth 100000 in
theorem trodMlS {fuel : Nat} {cs : List Value} {y : DataW H × List MemPlace} (hf : DataW.trod enc Tryz.prog w 0 spr held fuel 148 cs = some y) :
    ∃ (ao : Option Addr) (n cap : Nat) (L : List M4), cs = [.slice ao n cap] ∧ L.length = n ∧ (n : Int) ≤ 9223372036854775807 ∧ Fit L ∧ Ms 0 w.heap.size w ao L := by
  rcases Go.Deep.open_slice Tryz.underlying148 hf with ⟨hcs, _⟩ | ⟨a, n, cap, m, nf, D, Pl, hcs, _, hl, hm, hmm, _, hx⟩
  · exact ⟨none, 0, 0, [], hcs, rfl, by decide, (fun m hm => by cases hm), Nat.le_refl _, fun i hi => absurd hi (by simp)⟩
  · have hlm : n ≤ m := by rw [hmm]; split <;> omega
    have hx' : ∀ i, i < n → ∃ z : M4 × Option Addr × Nat, (w.cell? (a.add (i * 4)) = some (.int .i64 z.1.1) ∧ w.cell? (a.add (i * 4 + 1)) = some (.int .i64 z.1.2.1) ∧ w.cell? (a.add (i * 4 + 2)) = some (.slice z.2.1 z.1.2.2.1.length z.2.2) ∧ w.cell? (a.add (i * 4 + 3)) = some (.string z.1.2.2.2)) ∧ ((z.1.2.2.1.length : Int) ≤ 9223372036854775807 ∧ (z.1.2.2.2.size : Int) ≤ 9223372036854775807) ∧ Rs w z.2.1 z.1.2.2.1 ∧ (z.2.1 = none → z.2.2 = 0) := by
      intro i hi
      obtain ⟨cs, h1, h2⟩ := hx i (by omega)
      rw [cellsMl] at h1
      obtain ⟨_, hlen, hcell⟩ := World.cells?_some h1
      obtain ⟨r, fa, fc, rfl, hf1, hf2, hf3⟩ := trodMl hlen h2
      have e0 := hcell 0 (by omega)
      have e1 := hcell 1 (by omega)
      have e2 := hcell 2 (by omega)
      have e3 := hcell 3 (by omega)
      simp only [Go.Deep.add_add, Nat.add_zero] at e0 e1 e2 e3
      exact ⟨(r, fa, fc), ⟨by simpa using e0, by simpa using e1, by simpa using e2, by simpa using e3⟩, hf1, hf2, hf3⟩
    obtain ⟨r, hr⟩ := Go.Deep.choose_lt hx'
    refine ⟨some a, n, cap, (List.range n).map (fun i => (r i).1), hcs, by simp, by unfold maxLen at hm; omega, ?_, Nat.le_refl _, ?_⟩
    · intro x hx
      obtain ⟨i, hi, rfl⟩ := List.mem_map.1 hx
      exact (hr i (List.mem_range.1 hi)).2.1
    · intro i hi
      have hi' : i < n := by simpa using hi
      obtain ⟨e, _, e2, e3⟩ := hr i hi'
      obtain ⟨k, o, rfl⟩ := addr_at (a := a) (u := .int .i64 (r 0).1.1) (by simpa using (hr 0 (by omega)).1.1)
      have hb := World.block_lt_of_cell? w (Addr.add ⟨k, o, none⟩ (i * 4)) e.1
      simp only [addr_add] at e hb
      refine ⟨k, o, (r i).2.1, (r i).2.2, rfl, Nat.zero_le _, hb, ?_, ?_, e3⟩
      · simp only [List.getElem_map, List.getElem_range, Nat.add_assoc]
        exact e
      · simp only [List.getElem_map, List.getElem_range]
        intro hn
        obtain ⟨k', o', h1, h2, h3⟩ := e2 hn
        exact ⟨k', o', h1, Nat.zero_le _, h2, h3⟩
set_option maxRecDepth 100000 in
theorem trodIS {fuel : Nat} {cs : List Value} {y : DataW H × List MemPlace} (hf : DataW.trod enc Tryz.prog w 0 spr held fuel 25 cs = some y) :
    ∃ (ao : Option Addr) (n cap : Nat) (G : List Int), cs = [.slice ao n cap] ∧ G.length = n ∧ (n : Int) ≤ 9223372036854775807 ∧ Is 0 w.heap.size w ao G := by
  rcases Go.Deep.open_slice Tryz.underlying25 hf with ⟨hcs, _⟩ | ⟨a, n, cap, m, nf, D, Pl, hcs, _, hl, hm, hmm, _, hx⟩
  · exact ⟨none, 0, 0, [], hcs, rfl, by decide, Nat.le_refl _, fun i hi => absurd hi (by simp)⟩
  · have hlm : n ≤ m := by rw [hmm]; split <;> omega
    have hx' : ∀ i, i < n → ∃ z : Int, w.cell? (a.add i) = some (.int .i64 z) := by
      intro i hi
      obtain ⟨cs, h1, h2⟩ := hx i (by omega)
      rw [cellsInt] at h1
      obtain ⟨_, hlen, hcell⟩ := World.cells?_some h1
      match cs, hlen with
      | [c0], _ =>
        obtain ⟨z, e0, _, _⟩ := DataW.trod_int Tryz.underlying3 h2
        simp only [List.cons.injEq, and_true] at e0
        subst e0
        have e := hcell 0 (by omega)
        exact ⟨z, by simpa [Go.Deep.add_add] using e⟩
    obtain ⟨r, hr⟩ := Go.Deep.choose_lt hx'
    refine ⟨some a, n, cap, (List.range n).map r, hcs, by simp, by unfold maxLen at hm; omega, Nat.le_refl _, ?_⟩
    intro i hi
    have hi' : i < n := by simpa using hi
    have e := hr i hi'
    obtain ⟨k, o, rfl⟩ := addr_at (a := a) (u := .int .i64 (r 0)) (hr 0 (by omega))
    have hb := World.block_lt_of_cell? w (Addr.add ⟨k, o, none⟩ i) e
    simp only [addr_add] at e hb
    refine ⟨k, o, rfl, Nat.zero_le _, hb, ?_⟩
    simp only [List.getElem_map, List.getElem_range]
    exact e
end
end Go.Proofs.YtocfggfccbnbhaaGreatDoor

namespace Go.Proofs.YtocfggfccbnbhaaGreatDoor
open Go.ChangeShapes Go.WideShapes Go.ChangeAt Go.RowKit Go.Joins
theorem cellsSo : Tryz.prog.cellsOf 53 = 4 := by kernel_rfl
theorem cellsBxs : Tryz.prog.cellsOf 51 = 1 := by kernel_rfl
section
variable {H : Type} {enc : TypeId × Value → H} {w : World} {spr : Nat → Bool} {held : Bool}
theorem trodMlZ {fuel : Nat} {cs : List Value} {y : DataW H × List MemPlace} (hf : DataW.trod enc Tryz.prog w 0 spr held fuel 148 cs = some y) :
    ∃ (ao : Option Addr) (n cap : Nat) (L : List M4), cs = [.slice ao n cap] ∧ L.length = n ∧ (n : Int) ≤ 9223372036854775807 ∧ Fit L ∧ Ms 0 w.heap.size w ao L ∧ (ao = none → cap = 0) := by
  obtain ⟨ao, n, cap, l, h1, h2, h3, h4, h5⟩ := trodMlS hf
  refine ⟨ao, n, cap, l, h1, h2, h3, h4, h5, fun h0 => ?_⟩
  subst h0
  rcases Go.Deep.open_slice Tryz.underlying148 hf with ⟨hcs, _⟩ | ⟨a, n', cap', m, nf, D, Pl, hcs, _⟩
  · rw [h1] at hcs
    simp only [List.cons.injEq, Value.slice.injEq, and_true, true_and] at hcs
    exact hcs.2
  · rw [h1] at hcs
    simp at hcs
theorem trodIZ {fuel : Nat} {cs : List Value} {y : DataW H × List MemPlace} (hf : DataW.trod enc Tryz.prog w 0 spr held fuel 25 cs = some y) :
    ∃ (ao : Option Addr) (n cap : Nat) (G : List Int), cs = [.slice ao n cap] ∧ G.length = n ∧ (n : Int) ≤ 9223372036854775807 ∧ Is 0 w.heap.size w ao G ∧ (ao = none → cap = 0) := by
  obtain ⟨ao, n, cap, l, h1, h2, h3, h4⟩ := trodIS hf
  refine ⟨ao, n, cap, l, h1, h2, h3, h4, fun h0 => ?_⟩
  subst h0
  rcases Go.Deep.open_slice Tryz.underlying25 hf with ⟨hcs, _⟩ | ⟨a, n', cap', m, nf, D, Pl, hcs, _⟩
  · rw [h1] at hcs
    simp only [List.cons.injEq, Value.slice.injEq, and_true, true_and] at hcs
    exact hcs.2
  · rw [h1] at hcs
    simp at hcs
set_option maxRecDepth 100000 in
theorem trodBx {fuel : Nat} {cs : List Value} {y : DataW H × List MemPlace} (hc : cs.length = 7) (hf : DataW.trod enc Tryz.prog w 0 spr held fuel 150 cs = some y) :
    ∃ (x : X7) (ma : Option Addr) (mc : Nat) (ga : Option Addr) (gc : Nat), cs = [.int .i64 x.1, .string x.2.1, .int .i64 x.2.2.1, .int .i64 x.2.2.2.1, .int .i64 x.2.2.2.2.1, .slice ma x.2.2.2.2.2.1.length mc, .slice ga x.2.2.2.2.2.2.length gc] ∧ ((x.2.1.size : Int) ≤ 9223372036854775807 ∧ (x.2.2.2.2.2.1.length : Int) ≤ 9223372036854775807 ∧ Fit x.2.2.2.2.2.1 ∧ (x.2.2.2.2.2.2.length : Int) ≤ 9223372036854775807) ∧ Ms 0 w.heap.size w ma x.2.2.2.2.2.1 ∧ Is 0 w.heap.size w ga x.2.2.2.2.2.2 ∧ (ma = none → mc = 0) ∧ (ga = none → gc = 0) := by
  match cs, hc with
  | [c0, c1, c2, c3, c4, c5, c6], _ =>
    obtain ⟨y0, y1, y2, y3, y4, y5, n, hl, h0, h1, h2, h3, h4, h5⟩ := trod_struct6 Tryz.underlying150 hf
    have k0 : DataW.trod enc Tryz.prog w 0 spr held n 3 [c0] = some y0 := by simpa [cellsInt] using h0
    have k1 : DataW.trod enc Tryz.prog w 0 spr held n 9 [c1] = some y1 := by simpa [cellsTx] using h1
    have k2 : DataW.trod enc Tryz.prog w 0 spr held n 147 [c2, c3] = some y2 := by simpa [cellsSt] using h2
    have k3 : DataW.trod enc Tryz.prog w 0 spr held n 3 [c4] = some y3 := by simpa [cellsInt] using h3
    have k4 : DataW.trod enc Tryz.prog w 0 spr held n 148 [c5] = some y4 := by simpa [cellsMls] using h4
    have k5 : DataW.trod enc Tryz.prog w 0 spr held n 25 [c6] = some y5 := by simpa [cellsIs] using h5
    obtain ⟨g, e0, _, _⟩ := DataW.trod_int Tryz.underlying3 k0
    obtain ⟨nm, e1, _, hnm⟩ := DataW.trod_string Tryz.underlying9 k1
    obtain ⟨t, b, e2, _, _, _⟩ := trodSt rfl k2
    obtain ⟨nx, e3, _, _⟩ := DataW.trod_int Tryz.underlying3 k3
    obtain ⟨ma, mn, mc, L, e4, i1, i2, i3, i4, i5⟩ := trodMlZ k4
    obtain ⟨ga, gn, gc, G, e5, j1, j2, j3, j4⟩ := trodIZ k5
    simp only [List.cons.injEq, and_true] at e0 e1 e2 e3 e4 e5
    obtain ⟨rfl, rfl⟩ := e2
    subst e0 e1 e3 e4 e5 i1 j1
    exact ⟨(g, nm, t, b, nx, L, G), ma, mc, ga, gc, rfl, ⟨by unfold maxLen at hnm; dsimp only; omega, i2, i3, j2⟩, i4, j3, i5, j4⟩
set_option maxRecDepth 100000 in
theorem trodBxS {fuel : Nat} {cs : List Value} {y : DataW H × List MemPlace} (hf : DataW.trod enc Tryz.prog w 0 spr held fuel 51 cs = some y) :
    ∃ (ao : Option Addr) (n cap : Nat) (S : List X7), cs = [.slice ao n cap] ∧ S.length = n ∧ (n : Int) ≤ 9223372036854775807 ∧ FitB S ∧ Bs 0 w.heap.size w ao S := by
  rcases Go.Deep.open_slice Tryz.underlying51 hf with ⟨hcs, _⟩ | ⟨a, n, cap, m, nf, D, Pl, hcs, _, hl, hm, hmm, _, hx⟩
  · exact ⟨none, 0, 0, [], hcs, rfl, by decide, (fun m hm => by cases hm), Nat.le_refl _, fun i hi => absurd hi (by simp)⟩
  · have hlm : n ≤ m := by rw [hmm]; split <;> omega
    have hx' : ∀ i, i < n → ∃ z : X7 × Option Addr × Nat × Option Addr × Nat, (w.cell? (a.add (i * 7)) = some (.int .i64 z.1.1) ∧ w.cell? (a.add (i * 7 + 1)) = some (.string z.1.2.1) ∧ w.cell? (a.add (i * 7 + 2)) = some (.int .i64 z.1.2.2.1) ∧ w.cell? (a.add (i * 7 + 3)) = some (.int .i64 z.1.2.2.2.1) ∧ w.cell? (a.add (i * 7 + 4)) = some (.int .i64 z.1.2.2.2.2.1) ∧ w.cell? (a.add (i * 7 + 5)) = some (.slice z.2.1 z.1.2.2.2.2.2.1.length z.2.2.1) ∧ w.cell? (a.add (i * 7 + 6)) = some (.slice z.2.2.2.1 z.1.2.2.2.2.2.2.length z.2.2.2.2)) ∧ ((z.1.2.1.size : Int) ≤ 9223372036854775807 ∧ (z.1.2.2.2.2.2.1.length : Int) ≤ 9223372036854775807 ∧ Fit z.1.2.2.2.2.2.1 ∧ (z.1.2.2.2.2.2.2.length : Int) ≤ 9223372036854775807) ∧ Ms 0 w.heap.size w z.2.1 z.1.2.2.2.2.2.1 ∧ Is 0 w.heap.size w z.2.2.2.1 z.1.2.2.2.2.2.2 ∧ (z.2.1 = none → z.2.2.1 = 0) ∧ (z.2.2.2.1 = none → z.2.2.2.2 = 0) := by
      intro i hi
      obtain ⟨cs, h1, h2⟩ := hx i (by omega)
      rw [cellsBx] at h1
      obtain ⟨_, hlen, hcell⟩ := World.cells?_some h1
      obtain ⟨x, ma, mc, ga, gc, rfl, hf1, hf2, hf3, hf4, hf5⟩ := trodBx hlen h2
      have e0 := hcell 0 (by omega)
      have e1 := hcell 1 (by omega)
      have e2 := hcell 2 (by omega)
      have e3 := hcell 3 (by omega)
      have e4 := hcell 4 (by omega)
      have e5 := hcell 5 (by omega)
      have e6 := hcell 6 (by omega)
      simp only [Go.Deep.add_add, Nat.add_zero] at e0 e1 e2 e3 e4 e5 e6
      exact ⟨(x, ma, mc, ga, gc), ⟨by simpa using e0, by simpa using e1, by simpa using e2, by simpa using e3, by simpa using e4, by simpa using e5, by simpa using e6⟩, hf1, hf2, hf3, hf4, hf5⟩
    obtain ⟨r, hr⟩ := Go.Deep.choose_lt hx'
    refine ⟨some a, n, cap, (List.range n).map (fun i => (r i).1), hcs, by simp, by unfold maxLen at hm; omega, ?_, Nat.le_refl _, ?_⟩
    · intro x hx
      obtain ⟨i, hi, rfl⟩ := List.mem_map.1 hx
      exact (hr i (List.mem_range.1 hi)).2.1
    · intro i hi
      have hi' : i < n := by simpa using hi
      obtain ⟨e, _, e2, e3, e4, e5⟩ := hr i hi'
      obtain ⟨k, o, rfl⟩ := addr_at (a := a) (u := .int .i64 (r 0).1.1) (by simpa using (hr 0 (by omega)).1.1)
      have hb := World.block_lt_of_cell? w (Addr.add ⟨k, o, none⟩ (i * 7)) e.1
      simp only [addr_add] at e hb
      refine ⟨k, o, (r i).2.1, (r i).2.2.1, (r i).2.2.2.1, (r i).2.2.2.2, rfl, Nat.zero_le _, hb, ?_, ?_, ?_, e4, e5⟩
      · simp only [List.getElem_map, List.getElem_range]
        unfold C7
        simp only [Nat.add_assoc]
        exact e
      · simp only [List.getElem_map, List.getElem_range]
        exact e2
      · simp only [List.getElem_map, List.getElem_range]
        exact e3
set_option maxRecDepth 100000 in
theorem openSo {base : Nat} {v : Value} {d : DataW H} {p : List MemPlace} (hv : Value.okWide Tryz.prog w .any base 53 v) (h : DataW.Trod enc Tryz.prog w 0 spr held 53 v d p) :
    ∃ (y tm : Int) (ba : Option Addr) (bn bc : Nat) (ga : Option Addr) (gn gc : Nat) (S : List X7) (G : List Int), v = .agg #[.int .i64 y, .int .i64 tm, .slice ba bn bc, .slice ga gn gc] ∧ S.length = bn ∧ (bn : Int) ≤ 9223372036854775807 ∧ FitB S ∧ Bs 0 w.heap.size w ba S ∧ G.length = gn ∧ (gn : Int) ≤ 9223372036854775807 ∧ Is 0 w.heap.size w ga G := by
  obtain ⟨cs, rfl, hsz⟩ := okWide_struct Tryz.underlying53 hv
  obtain ⟨fuel, hf⟩ := h
  rw [cellsSo] at hsz
  obtain ⟨l, rfl⟩ : ∃ l : List Value, cs = l.toArray := ⟨cs.toList, by simp⟩
  have hlen : l.length = 4 := by simpa using hsz
  match l, hlen with
  | [c0, c1, c2, c3], _ =>
    obtain ⟨y0, y1, y2, y3, n, hx, hl, h0, h1, h2, h3⟩ := trod_struct4 Tryz.underlying53 hf
    have k0 : DataW.trod enc Tryz.prog w 0 spr held n 3 [c0] = some y0 := by simpa [cellsInt, Value.cells] using h0
    have k1 : DataW.trod enc Tryz.prog w 0 spr held n 3 [c1] = some y1 := by simpa [cellsInt, Value.cells] using h1
    have k2 : DataW.trod enc Tryz.prog w 0 spr held n 51 [c2] = some y2 := by simpa [cellsBxs, Value.cells] using h2
    have k3 : DataW.trod enc Tryz.prog w 0 spr held n 25 [c3] = some y3 := by simpa [cellsIs, Value.cells] using h3
    obtain ⟨g, e0, _, _⟩ := DataW.trod_int Tryz.underlying3 k0
    obtain ⟨u, e1, _, _⟩ := DataW.trod_int Tryz.underlying3 k1
    obtain ⟨ba, bn, bc, S, e2, i1, i2, i3, i4⟩ := trodBxS k2
    obtain ⟨ga, gn, gc, G, e3, j1, j2, j3⟩ := trodIS k3
    simp only [List.cons.injEq, and_true] at e0 e1 e2 e3
    subst e0 e1 e2 e3
    exact ⟨g, u, ba, bn, bc, ga, gn, gc, S, G, rfl, i1, i2, i3, i4, j1, j2, j3⟩
end
end Go.Proofs.YtocfggfccbnbhaaGreatDoor

