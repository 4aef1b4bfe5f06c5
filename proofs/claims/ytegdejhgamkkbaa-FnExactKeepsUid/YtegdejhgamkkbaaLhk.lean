/- The laws of Holds and KeepsUid. -/
import Derived.Test.YtegdejhgamkkbaaKpb
namespace Go.Proofs.Ytegdejhgamkkbaa
open Go.RowKit

/-- What a box holds is not too great. -/
theorem small8 {q : Int} {nm : ByteArray} {L : List M4} {gn : Nat} (hq : q ≤ 1048576) (h : ¬ q < ((nm.size + szL L + gn : Nat) : Int)) : nm.size ≤ 1048576 ∧ L.length ≤ 1048576 ∧ gn ≤ 1048576 ∧ Sm L := by
  unfold szL at h
  exact ⟨by omega, by omega, by omega, sm_of (by omega)⟩

set_option maxHeartbeats 800000 in
set_option maxRecDepth 100000 in
theorem lawHolds_any (lo hi lo' hi' : Nat) (g : Int) (nm : ByteArray) (t b nx : Int) (ma : Option Addr) (mn mc : Nat) (ga : Option Addr) (gn gc : Nat) (L : List M4) (G : List Int) (x : Int) (w : World) (hnm : (nm.size : Int) ≤ 9223372036854775807) (hl : L.length = mn) (hn : (mn : Int) ≤ 9223372036854775807) (hft : Fit L) (hm : Ms lo hi w ma L) (hgl : G.length = gn) (hgn : (gn : Int) ≤ 9223372036854775807) (hs : Is lo' hi' w ga G) :
    Calls Try.prog 4 #[.agg #[.int .i64 g, .string nm, .int .i64 t, .int .i64 b, .int .i64 nx, .slice ma mn mc, .slice ga gn gc], .int .i64 x] w fun e w' => e = .returned (.bool true) ∧ Below w.heap.size w w' := by
  obtain ⟨W0, hW0⟩ : ∃ W0, w.alloc (.cells #[.int .i64 g, .string nm, .int .i64 t, .int .i64 b, .int .i64 nx, .slice ma mn mc, .slice ga gn gc] 31) = W0 := ⟨_, rfl⟩
  have a0 : Bx W0 w.heap.size 31 g nm t b nx (.slice ma mn mc) (.slice ga gn gc) := by subst hW0; exact Bx.new w _ g nm t b nx _ _
  have b0 : Below w.heap.size w W0 := by subst hW0; exact bpush (bre _) _
  have c0 := a0.cells
  have A0 := hid a0
  have B0 := hid b0
  have HM := hid hm
  have HS' := hid hs
  have HF := hid hft
  have HL := hid hl
  have HGL := hid hgl
  have HN := hid hn
  have HGN := hid hgn
  have HNM := hid hnm
  clear a0 b0 hm hs hft hl hgl hn hgn hnm
  go_enter Try.func4, Try.ntmps4
  go_wp2_with fail
  clear hW0
  refine (szBox_any lo hi g nm t b nx ma mn mc ga gn gc L _ HNM.out HL.out HN.out HF.out (HM.out.later B0.out) HGN.out).mono ?_; rintro e w1 ⟨rfl, hb1⟩
  have a1 := A0.out.later hb1
  have A1 := hid a1
  have B1 := hid (btr B0.out hb1)
  have c0 := a1.cells
  clear a1 hb1 A0 B0
  by_cases hbig : (1048576 : Int) < ((nm.size + szL L + gn : Nat) : Int)
  · rw [szr_over hbig]
    clear hbig
    go_wp2
    go_ret
    exact ⟨rfl, B1.out⟩
  obtain ⟨s1, s2, s3, s4⟩ := small8 (Int.le_refl _) hbig
  obtain ⟨q, hq⟩ : ∃ q, szr 1048576 (nm.size + szL L + gn) = q := ⟨_, rfl⟩
  have h0 : ¬ q < 0 := by rw [← hq, szr_fits hbig]; omega
  rw [hq]
  have S2 : Hid (mn ≤ 1048576) := by show _ ≤ _; rw [← HL.out]; exact s2
  have S3 := hid s3
  have S4 := hid s4
  clear hq hbig s1 s2 s3 s4
  go_wp2_with fail
  refine (toBox_any lo hi lo' hi' g nm t b nx ma mn mc ga gn gc L G _ HL.out S2.out S4.out (HM.out.later B1.out) HGL.out S3.out (HS'.out.later B1.out)).mono ?_; rintro e w2 ⟨km, kg, rfl, how, hb2⟩
  obtain ⟨-, -, r1, r2⟩ := how.reads
  have a1 := A1.out.later hb2
  have A2 := hid a1
  have B2 := hid (btr B1.out hb2)
  have c0 := a1.cells
  have R1 := hid r1
  clear a1 hb2 A1 B1 how r1 r2
  go_wp2_with fail
  refine (specHolds_any _ _ g nm t b nx (some ⟨km, 0, none⟩) mn mn (.slice (some ⟨kg, 0, none⟩) gn gn) L x w2 HL.out S2.out R1.out).mono ?_; rintro e w3 ⟨rfl, hb3⟩
  have a1 := A2.out.later hb3
  have A3 := hid a1
  have B3 := hid (btr B2.out hb3)
  have c0 := a1.cells
  clear a1 hb3 A2 B2 R1
  obtain ⟨r, hr⟩ : ∃ r, hol x L = r := ⟨_, rfl⟩
  rw [hr]
  have HR := hid hr
  clear hr
  go_wp2_with fail
  refine (toBox_any lo hi lo' hi' g nm t b nx ma mn mc ga gn gc L G _ HL.out S2.out S4.out (HM.out.later B3.out) HGL.out S3.out (HS'.out.later B3.out)).mono ?_; rintro e w4 ⟨km', kg', rfl, how, hb4⟩
  obtain ⟨-, -, r1, r2⟩ := how.reads
  have a1 := A3.out.later hb4
  have A4 := hid a1
  have B4 := hid (btr B3.out hb4)
  have c0 := a1.cells
  have R1 := hid r1
  have R2 := hid r2
  clear a1 hb4 A3 B3 how r1 r2
  have xx : (r != r) = false := by simp
  go_wp2_with fail
  have b5 : Below w4.heap.size w4 (w4.alloc (.cells #[.int .i64 g, .string nm, .int .i64 t, .int .i64 b, .int .i64 nx, .slice (some ⟨km', 0, none⟩) mn mn, .slice (some ⟨kg', 0, none⟩) gn gn] 37)) := bpush (bre _) _
  refine (implHolds_any _ _ g nm t b nx (some ⟨km', 0, none⟩) mn mn (.slice (some ⟨kg', 0, none⟩) gn gn) L x _ HL.out S2.out (R1.out.later b5)).mono ?_; rintro e w5 ⟨rfl, hb5⟩
  rw [HR.out]
  have X5 := hid ((Bx.new w4 37 g nm t b nx (.slice (some ⟨km', 0, none⟩) mn mn) (.slice (some ⟨kg', 0, none⟩) gn gn)).later hb5)
  have R5 := hid ((R1.out.later b5).later hb5)
  have Q5 := hid ((R2.out.later b5).later hb5)
  have A5 := hid (A4.out.later (btr b5 hb5))
  have B5 := hid (btr (btr B4.out b5) hb5)
  clear b5 hb5 A4 B4 R1 R2 c0
  have HS : Hid (∀ W, Below w5.heap.size w5 W → (W.cell? ⟨w.heap.size, 0, none⟩ = some (.int .i64 g) ∧ W.cell? ⟨w.heap.size, 1, none⟩ = some (.string nm) ∧ W.cell? ⟨w.heap.size, 2, none⟩ = some (.int .i64 t) ∧ W.cell? ⟨w.heap.size, 3, none⟩ = some (.int .i64 b) ∧ W.cell? ⟨w.heap.size, 4, none⟩ = some (.int .i64 nx) ∧ W.cell? ⟨w.heap.size, 5, none⟩ = some (.slice ma mn mc) ∧ W.cell? ⟨w.heap.size, 6, none⟩ = some (.slice ga gn gc)) ∧ (W.cell? ⟨w4.heap.size, 0, none⟩ = some (.int .i64 g) ∧ W.cell? ⟨w4.heap.size, 1, none⟩ = some (.string nm) ∧ W.cell? ⟨w4.heap.size, 2, none⟩ = some (.int .i64 t) ∧ W.cell? ⟨w4.heap.size, 3, none⟩ = some (.int .i64 b) ∧ W.cell? ⟨w4.heap.size, 4, none⟩ = some (.int .i64 nx) ∧ W.cell? ⟨w4.heap.size, 5, none⟩ = some (.slice (some ⟨km', 0, none⟩) mn mn) ∧ W.cell? ⟨w4.heap.size, 6, none⟩ = some (.slice (some ⟨kg', 0, none⟩) gn gn))) :=
    fun W h => ⟨(A5.out.later h).cells, (X5.out.later h).cells⟩
  go_wp2_with fail
  go_region_held3 (fun W => (W.cell? ⟨w.heap.size, 0, none⟩ = some (.int .i64 g) ∧ W.cell? ⟨w.heap.size, 1, none⟩ = some (.string nm) ∧ W.cell? ⟨w.heap.size, 2, none⟩ = some (.int .i64 t) ∧ W.cell? ⟨w.heap.size, 3, none⟩ = some (.int .i64 b) ∧ W.cell? ⟨w.heap.size, 4, none⟩ = some (.int .i64 nx) ∧ W.cell? ⟨w.heap.size, 5, none⟩ = some (.slice ma mn mc) ∧ W.cell? ⟨w.heap.size, 6, none⟩ = some (.slice ga gn gc)) ∧ (W.cell? ⟨w4.heap.size, 0, none⟩ = some (.int .i64 g) ∧ W.cell? ⟨w4.heap.size, 1, none⟩ = some (.string nm) ∧ W.cell? ⟨w4.heap.size, 2, none⟩ = some (.int .i64 t) ∧ W.cell? ⟨w4.heap.size, 3, none⟩ = some (.int .i64 b) ∧ W.cell? ⟨w4.heap.size, 4, none⟩ = some (.int .i64 nx) ∧ W.cell? ⟨w4.heap.size, 5, none⟩ = some (.slice (some ⟨km', 0, none⟩) mn mn) ∧ W.cell? ⟨w4.heap.size, 6, none⟩ = some (.slice (some ⟨kg', 0, none⟩) gn gn)))
    ((refine HS.out _ ?_; repeat (first | exact bdr (bre _) | exact B7.out | exact B6.out | refine btr ?_ (by assumption))))
    ((first
      | (go_at_call 14; refine (toBox_any lo hi lo' hi' g nm t b nx ma mn mc ga gn gc L G _ HL.out S2.out S4.out (HM.out.later (btr B5.out (bdr (bre _)))) HGL.out S3.out (HS'.out.later (btr B5.out (bdr (bre _))))).mono ?_; rintro e w6 ⟨km6, kg6, rfl, how6, hb6⟩; have R6 := hid how6; have B6 : Hid (Below w5.heap.size w5 w6) := btr (bdr (bre _)) hb6)
      | (go_at_call 16; refine (eqBox_any _ _ _ _ _ _ _ _ g nm t b nx _ mn _ _ gn _ _ _ _ _ L G w6 HL.out S2.out S4.out (R5.out.later B6.out) R6.out.reads.2.2.1 HGL.out S3.out (Q5.out.later B6.out) R6.out.reads.2.2.2).mono ?_; rintro e w7 ⟨rfl, hb7⟩; have B7 : Hid (Below w5.heap.size w5 w7) := btr B6.out hb7)))
  go_wp2
  go_ret
  exact ⟨rfl, btr B5.out B7.out⟩
end Go.Proofs.Ytegdejhgamkkbaa
