/- The walk of the law of mails held against each other. -/
import Derived.Test.YtjnpohbljjlicalLawMail
namespace Go.Proofs.Ytjnpohbljjlical
open Go.RowKit

set_option maxHeartbeats 1000000 in
set_option maxRecDepth 100000 in
theorem lawSameMail_any (g u : Int) (ao : Option Addr) (na ca : Nat) (l : List R3) (t : ByteArray) (g' u' : Int) (bo : Option Addr) (nb cb : Nat) (m : List R3) (t' : ByteArray) (w : World) (hl : l.length = na) (hma : (na : Int) ≤ 9223372036854775807) (ht : (t.size : Int) ≤ 9223372036854775807) (hr : Rs w ao l) (hl' : m.length = nb) (hmb : (nb : Int) ≤ 9223372036854775807) (ht' : (t'.size : Int) ≤ 9223372036854775807) (hr' : Rs w bo m) :
    Calls Try.prog 4 #[.agg #[.int .i64 g, .int .i64 u, .slice ao na ca, .string t], .agg #[.int .i64 g', .int .i64 u', .slice bo nb cb, .string t']] w fun e w' => e = .returned (.bool true) ∧ Below w.heap.size w w' := by
  have HL := hid hl
  have HL' := hid hl'
  obtain ⟨W0, hW0⟩ : ∃ W0, ((w.alloc (.cells #[.int .i64 g, .int .i64 u, .slice ao na ca, .string t] 24)).alloc (.cells #[.int .i64 g', .int .i64 u', .slice bo nb cb, .string t'] 24)) = W0 := ⟨_, rfl⟩
  obtain ⟨a0, a1, b0⟩ := two_mails w _ _ _ _ _ _ _ _ _ _ W0 hW0
  have A0 := hid a0
  have A1 := hid a1
  have B0 := hid b0
  have HR := hid (hr.later b0)
  have HR' := hid (hr'.later b0)
  have c0 := a0.cells
  have c1 := a1.cells
  clear a0 a1 b0 hr hr' hl hl'
  by_cases hn : (1048576 : Int) < na + t.size
  · go_enter Try.func4, Try.ntmps4
    go_wp2_with fail
    refine (szMail_over g u ao na ca t 1048576 _ hma ht (by decide) hn).mono ?_; rintro e w1 ⟨rfl, hb1⟩
    go_wp2_with fail
    go_ret
    exact ⟨rfl, btr B0.out hb1⟩
  have hna : na ≤ 1048576 := by omega
  have HNT := hid hn
  have HNA := hid hna
  obtain ⟨z, hz⟩ : ∃ z : Int, (1048576 : Int) - na - t.size = z := ⟨_, rfl⟩
  have hneg : ¬ z < 0 := by omega
  have hzb : z ≤ 1048576 := by omega
  have HZ := hid hz
  clear hz hn hna
  by_cases hn : z < nb + t'.size
  · go_enter Try.func4, Try.ntmps4
    go_wp2_with fail
    refine (szMail_fits g u ao na ca t 1048576 _ hma ht (by decide) (by have := HNT.out; omega)).mono ?_; rintro e w1 ⟨rfl, hb1⟩
    rw [HZ.out]
    have d0 := (A0.out.later hb1).cells
    have d1 := (A1.out.later hb1).cells
    have B1 := hid hb1
    clear c0 c1 hb1 hW0
    go_wp2_with fail
    refine (szMail_over g' u' bo nb cb t' z _ hmb ht' (by omega) hn).mono ?_; rintro e w2 ⟨rfl, hb2⟩
    go_wp2_with fail
    go_ret
    exact ⟨rfl, btr B0.out (btr B1.out hb2)⟩
  have hnb : nb ≤ 1048576 := by omega
  have HNT' := hid hn
  have HNB := hid hnb
  obtain ⟨z', hz'⟩ : ∃ z' : Int, z - nb - t'.size = z' := ⟨_, rfl⟩
  have hneg' : ¬ z' < 0 := by omega
  have HZ' := hid hz'
  obtain ⟨q, hq⟩ : ∃ q, smail g u l t g' u' m t' = q := ⟨_, rfl⟩
  have hqq : (q != q) = false := by simp
  have HQ := hid hq
  clear hq hz' hn hnb
  go_enter Try.func4, Try.ntmps4
  go_wp2_with fail
  refine (szMail_fits g u ao na ca t 1048576 _ hma ht (by decide) (by have := HNT.out; omega)).mono ?_; rintro e w1 ⟨rfl, hb1⟩
  rw [HZ.out]
  have d0 := (A0.out.later hb1).cells
  have d1 := (A1.out.later hb1).cells
  have B1 := hid hb1
  clear c0 c1 hb1 hW0
  go_wp2_with fail
  refine (szMail_fits g' u' bo nb cb t' z _ hmb ht' (by omega) (by have := HNT'.out; omega)).mono ?_; rintro e w2 ⟨rfl, hb2⟩
  rw [HZ'.out]
  have B2 := hid (btr B1.out hb2)
  clear d0 d1 hb2 B1
  have HS : Hid (∀ W, Below w2.heap.size w2 W → (W.cell? ⟨w.heap.size, 0, none⟩ = some (.int .i64 g) ∧ W.cell? ⟨w.heap.size, 1, none⟩ = some (.int .i64 u) ∧ W.cell? ⟨w.heap.size, 2, none⟩ = some (.slice ao na ca) ∧ W.cell? ⟨w.heap.size, 3, none⟩ = some (.string t)) ∧ (W.cell? ⟨(w.heap.size + 1), 0, none⟩ = some (.int .i64 g') ∧ W.cell? ⟨(w.heap.size + 1), 1, none⟩ = some (.int .i64 u') ∧ W.cell? ⟨(w.heap.size + 1), 2, none⟩ = some (.slice bo nb cb) ∧ W.cell? ⟨(w.heap.size + 1), 3, none⟩ = some (.string t'))) :=
    fun W h => ⟨(A0.out.later (btr B2.out h)).cells, (A1.out.later (btr B2.out h)).cells⟩
  go_wp2_with fail
  go_region_held3 (fun W => (W.cell? ⟨w.heap.size, 0, none⟩ = some (.int .i64 g) ∧ W.cell? ⟨w.heap.size, 1, none⟩ = some (.int .i64 u) ∧ W.cell? ⟨w.heap.size, 2, none⟩ = some (.slice ao na ca) ∧ W.cell? ⟨w.heap.size, 3, none⟩ = some (.string t)) ∧ (W.cell? ⟨(w.heap.size + 1), 0, none⟩ = some (.int .i64 g') ∧ W.cell? ⟨(w.heap.size + 1), 1, none⟩ = some (.int .i64 u') ∧ W.cell? ⟨(w.heap.size + 1), 2, none⟩ = some (.slice bo nb cb) ∧ W.cell? ⟨(w.heap.size + 1), 3, none⟩ = some (.string t')))
    ((refine HS.out _ ?_; repeat (first | exact bdr (bre _) | exact B5.out | exact B4.out | exact B3.out | refine btr ?_ (by assumption))))
    ((first
      | (go_at_call 10; (with_reducible refine (toMail_any g u ao na ca l t _ HL.out HNA.out (HR.out.later (btr B2.out (bdr (bre _))))).mono ?_); rintro e w3 ⟨k3, rfl, hown3, hk3, hb3⟩; have Q3 := hid (Ow.rs hown3).2; have B3 : Hid (Below w2.heap.size w2 w3) := btr (bdr (bre _)) hb3)
      | (go_at_call 10; (with_reducible refine (toMail_any g' u' bo nb cb m t' _ HL'.out HNB.out (HR'.out.later (btr B2.out B3.out))).mono ?_); rintro e w4 ⟨k4, rfl, hown4, hk4, hb4⟩; have Q3' := hid (Q3.out.later hb4); have Q4 := hid (Ow.rs hown4).2; have B4 : Hid (Below w2.heap.size w2 w4) := btr B3.out hb4)
      | (go_at_call 13; refine (specSame_any g u _ na na l t g' u' _ nb nb m t' _ HL.out HL'.out HNA.out Q3'.out Q4.out).mono ?_; rintro e w5 ⟨rfl, hb5⟩; rw [HQ.out]; have B5 : Hid (Below w2.heap.size w2 w5) := btr B4.out hb5)))
  have B6 := hid (btr B2.out B5.out)
  have e0 := (A0.out.later B6.out).cells
  clear HS B2 B3 B4 B5 Q3 Q3' Q4 hown3 hown4 hb3 hb4 hb5
  go_wp2_with fail
  refine (toMail_any g u ao na ca l t _ HL.out HNA.out (HR.out.later B6.out)).mono ?_; rintro e w6 ⟨k6, rfl, hown, hk, hb⟩
  have Q6 := hid ((Ow.rs hown).2.later (bpush (bre w6) (.cells #[.int .i64 g, .int .i64 u, .slice (some ⟨k6, 0, none⟩) na na, .string t] 29)))
  have X6 := hid (Mg.new w6 29 g u (.slice (some ⟨k6, 0, none⟩) na na) t)
  have B7 := hid (btr (btr B6.out hb) (bpush (bre w6) (.cells #[.int .i64 g, .int .i64 u, .slice (some ⟨k6, 0, none⟩) na na, .string t] 29)))
  have e1 := (A1.out.later B7.out).cells
  clear e0 hown hb B6 hk
  go_wp2_with fail
  refine (toMail_any g' u' bo nb cb m t' _ HL'.out HNB.out (HR'.out.later B7.out)).mono ?_; rintro e w7 ⟨k7, rfl, hown, hk, hb⟩
  have Q7 := hid ((Ow.rs hown).2.later (bpush (bre w7) (.cells #[.int .i64 g', .int .i64 u', .slice (some ⟨k7, 0, none⟩) nb nb, .string t'] 29)))
  have Q6' := hid ((Q6.out.later hb).later (bpush (bre w7) (.cells #[.int .i64 g', .int .i64 u', .slice (some ⟨k7, 0, none⟩) nb nb, .string t'] 29)))
  have Y7 := hid (Mg.new w7 29 g' u' (.slice (some ⟨k7, 0, none⟩) nb nb) t')
  have X7 := hid ((X6.out.later hb).later (bpush (bre w7) (.cells #[.int .i64 g', .int .i64 u', .slice (some ⟨k7, 0, none⟩) nb nb, .string t'] 29)))
  have B8 := hid (btr (btr B7.out hb) (bpush (bre w7) (.cells #[.int .i64 g', .int .i64 u', .slice (some ⟨k7, 0, none⟩) nb nb, .string t'] 29)))
  have e0 := X7.out.cells
  have e2 := Y7.out.cells
  clear e1 hown hb B7 hk Q6 X6
  go_wp2_with fail
  refine (implSame_any g u _ na na l t g' u' _ nb nb m t' _ HL.out HL'.out HNA.out Q6'.out Q7.out).mono ?_; rintro e w8 ⟨rfl, hb⟩
  rw [HQ.out]
  have X8 := hid (X7.out.later hb)
  have Y8 := hid (Y7.out.later hb)
  have QX8 := hid (Q6'.out.later hb)
  have QY8 := hid (Q7.out.later hb)
  have B8' := hid (btr B8.out hb)
  clear e0 e2 hb B8 X7 Y7 Q6' Q7
  have B8 := B8'

  have HS8 : Hid (∀ W, Below w8.heap.size w8 W → (W.cell? ⟨w.heap.size, 0, none⟩ = some (.int .i64 g) ∧ W.cell? ⟨w.heap.size, 1, none⟩ = some (.int .i64 u) ∧ W.cell? ⟨w.heap.size, 2, none⟩ = some (.slice ao na ca) ∧ W.cell? ⟨w.heap.size, 3, none⟩ = some (.string t)) ∧ (W.cell? ⟨(w.heap.size + 1), 0, none⟩ = some (.int .i64 g') ∧ W.cell? ⟨(w.heap.size + 1), 1, none⟩ = some (.int .i64 u') ∧ W.cell? ⟨(w.heap.size + 1), 2, none⟩ = some (.slice bo nb cb) ∧ W.cell? ⟨(w.heap.size + 1), 3, none⟩ = some (.string t')) ∧ (W.cell? ⟨w6.heap.size, 0, none⟩ = some (.int .i64 g) ∧ W.cell? ⟨w6.heap.size, 1, none⟩ = some (.int .i64 u) ∧ W.cell? ⟨w6.heap.size, 2, none⟩ = some (.slice (some ⟨k6, 0, none⟩) na na) ∧ W.cell? ⟨w6.heap.size, 3, none⟩ = some (.string t)) ∧ (W.cell? ⟨w7.heap.size, 0, none⟩ = some (.int .i64 g') ∧ W.cell? ⟨w7.heap.size, 1, none⟩ = some (.int .i64 u') ∧ W.cell? ⟨w7.heap.size, 2, none⟩ = some (.slice (some ⟨k7, 0, none⟩) nb nb) ∧ W.cell? ⟨w7.heap.size, 3, none⟩ = some (.string t'))) :=
    fun W h => ⟨(A0.out.later (btr B8.out h)).cells, (A1.out.later (btr B8.out h)).cells, (X8.out.later h).cells, (Y8.out.later h).cells⟩
  go_wp2_with fail
  go_region_held3 (fun W => (W.cell? ⟨w.heap.size, 0, none⟩ = some (.int .i64 g) ∧ W.cell? ⟨w.heap.size, 1, none⟩ = some (.int .i64 u) ∧ W.cell? ⟨w.heap.size, 2, none⟩ = some (.slice ao na ca) ∧ W.cell? ⟨w.heap.size, 3, none⟩ = some (.string t)) ∧ (W.cell? ⟨(w.heap.size + 1), 0, none⟩ = some (.int .i64 g') ∧ W.cell? ⟨(w.heap.size + 1), 1, none⟩ = some (.int .i64 u') ∧ W.cell? ⟨(w.heap.size + 1), 2, none⟩ = some (.slice bo nb cb) ∧ W.cell? ⟨(w.heap.size + 1), 3, none⟩ = some (.string t')) ∧ (W.cell? ⟨w6.heap.size, 0, none⟩ = some (.int .i64 g) ∧ W.cell? ⟨w6.heap.size, 1, none⟩ = some (.int .i64 u) ∧ W.cell? ⟨w6.heap.size, 2, none⟩ = some (.slice (some ⟨k6, 0, none⟩) na na) ∧ W.cell? ⟨w6.heap.size, 3, none⟩ = some (.string t)) ∧ (W.cell? ⟨w7.heap.size, 0, none⟩ = some (.int .i64 g') ∧ W.cell? ⟨w7.heap.size, 1, none⟩ = some (.int .i64 u') ∧ W.cell? ⟨w7.heap.size, 2, none⟩ = some (.slice (some ⟨k7, 0, none⟩) nb nb) ∧ W.cell? ⟨w7.heap.size, 3, none⟩ = some (.string t')))
    ((refine HS8.out _ ?_; repeat (first | exact bdr (bre _) | exact C10.out | exact C9.out | refine btr ?_ (by assumption))))
    ((first
      | (go_at_call 10; refine (toMail_any g u ao na ca l t _ HL.out HNA.out (HR.out.later (btr B8.out (bdr (bre _))))).mono ?_; rintro e w9 ⟨k9, rfl, hown, hk, hb⟩; have QN := hid (Ow.rs hown).2; have C9 : Hid (Below w8.heap.size w8 w9) := btr (bdr (bre _)) hb)
      | (go_at_call 12; refine (eqMail_same g u _ _ na na na l t _ HL.out HNA.out (QX8.out.later C9.out) QN.out).mono ?_; rintro e w10 ⟨rfl, hb⟩; have C10 : Hid (Below w8.heap.size w8 w10) := btr C9.out hb)))
  have B10 := hid (btr B8.out C10.out)
  have X10 := hid (X8.out.later C10.out)
  have Y10 := hid (Y8.out.later C10.out)
  have QX10 := hid (QY8.out.later C10.out)
  clear C9 C10 HS8 B8 X8 Y8

  have HS10 : Hid (∀ W, Below w10.heap.size w10 W → (W.cell? ⟨w.heap.size, 0, none⟩ = some (.int .i64 g) ∧ W.cell? ⟨w.heap.size, 1, none⟩ = some (.int .i64 u) ∧ W.cell? ⟨w.heap.size, 2, none⟩ = some (.slice ao na ca) ∧ W.cell? ⟨w.heap.size, 3, none⟩ = some (.string t)) ∧ (W.cell? ⟨(w.heap.size + 1), 0, none⟩ = some (.int .i64 g') ∧ W.cell? ⟨(w.heap.size + 1), 1, none⟩ = some (.int .i64 u') ∧ W.cell? ⟨(w.heap.size + 1), 2, none⟩ = some (.slice bo nb cb) ∧ W.cell? ⟨(w.heap.size + 1), 3, none⟩ = some (.string t')) ∧ (W.cell? ⟨w6.heap.size, 0, none⟩ = some (.int .i64 g) ∧ W.cell? ⟨w6.heap.size, 1, none⟩ = some (.int .i64 u) ∧ W.cell? ⟨w6.heap.size, 2, none⟩ = some (.slice (some ⟨k6, 0, none⟩) na na) ∧ W.cell? ⟨w6.heap.size, 3, none⟩ = some (.string t)) ∧ (W.cell? ⟨w7.heap.size, 0, none⟩ = some (.int .i64 g') ∧ W.cell? ⟨w7.heap.size, 1, none⟩ = some (.int .i64 u') ∧ W.cell? ⟨w7.heap.size, 2, none⟩ = some (.slice (some ⟨k7, 0, none⟩) nb nb) ∧ W.cell? ⟨w7.heap.size, 3, none⟩ = some (.string t'))) :=
    fun W h => ⟨(A0.out.later (btr B10.out h)).cells, (A1.out.later (btr B10.out h)).cells, (X10.out.later h).cells, (Y10.out.later h).cells⟩
  go_wp2_with fail
  go_region_held3 (fun W => (W.cell? ⟨w.heap.size, 0, none⟩ = some (.int .i64 g) ∧ W.cell? ⟨w.heap.size, 1, none⟩ = some (.int .i64 u) ∧ W.cell? ⟨w.heap.size, 2, none⟩ = some (.slice ao na ca) ∧ W.cell? ⟨w.heap.size, 3, none⟩ = some (.string t)) ∧ (W.cell? ⟨(w.heap.size + 1), 0, none⟩ = some (.int .i64 g') ∧ W.cell? ⟨(w.heap.size + 1), 1, none⟩ = some (.int .i64 u') ∧ W.cell? ⟨(w.heap.size + 1), 2, none⟩ = some (.slice bo nb cb) ∧ W.cell? ⟨(w.heap.size + 1), 3, none⟩ = some (.string t')) ∧ (W.cell? ⟨w6.heap.size, 0, none⟩ = some (.int .i64 g) ∧ W.cell? ⟨w6.heap.size, 1, none⟩ = some (.int .i64 u) ∧ W.cell? ⟨w6.heap.size, 2, none⟩ = some (.slice (some ⟨k6, 0, none⟩) na na) ∧ W.cell? ⟨w6.heap.size, 3, none⟩ = some (.string t)) ∧ (W.cell? ⟨w7.heap.size, 0, none⟩ = some (.int .i64 g') ∧ W.cell? ⟨w7.heap.size, 1, none⟩ = some (.int .i64 u') ∧ W.cell? ⟨w7.heap.size, 2, none⟩ = some (.slice (some ⟨k7, 0, none⟩) nb nb) ∧ W.cell? ⟨w7.heap.size, 3, none⟩ = some (.string t')))
    ((refine HS10.out _ ?_; repeat (first | exact bdr (bre _) | exact C12.out | exact C11.out | refine btr ?_ (by assumption))))
    ((first
      | (go_at_call 10; refine (toMail_any g' u' bo nb cb m t' _ HL'.out HNB.out (HR'.out.later (btr B10.out (bdr (bre _))))).mono ?_; rintro e w11 ⟨k11, rfl, hown, hk, hb⟩; have QN := hid (Ow.rs hown).2; have C11 : Hid (Below w10.heap.size w10 w11) := btr (bdr (bre _)) hb)
      | (go_at_call 12; refine (eqMail_same g' u' _ _ nb nb nb m t' _ HL'.out HNB.out (QX10.out.later C11.out) QN.out).mono ?_; rintro e w12 ⟨rfl, hb⟩; have C12 : Hid (Below w10.heap.size w10 w12) := btr C11.out hb)))
  have B12 := hid (btr B10.out C12.out)
  have X12 := hid (X10.out.later C12.out)
  have Y12 := hid (Y10.out.later C12.out)
  have QX12 := hid (QX10.out.later C12.out)
  clear C11 C12 HS10 B10 X10 Y10
  go_wp2
  go_ret
  exact ⟨rfl, btr B0.out B12.out⟩
end Go.Proofs.Ytjnpohbljjlical
