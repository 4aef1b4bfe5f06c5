/- The walk of the law of a mail's text. -/
import Derived.Test.YtjnpohbljjlicalMailTx
import Derived.Test.YtjnpohbljjlicalLawMail
namespace Go.Proofs.Ytjnpohbljjlical
open Go.RowKit

theorem mtR_l (g u : Int) (l : List R3) (t : ByteArray) : ∃ (x : ByteArray) (b : Bool), mtR g u l t = .tuple #[.string x, .bool b] := by
  unfold mtR; split
  · exact ⟨_, _, rfl⟩
  · exact ⟨_, _, rfl⟩

set_option maxHeartbeats 400000 in
set_option maxRecDepth 100000 in
theorem lawMailText_any (g u : Int) (ao : Option Addr) (n cap : Nat) (l : List R3) (t : ByteArray) (w : World) (hl : l.length = n) (hm : (n : Int) ≤ 9223372036854775807) (ht : (t.size : Int) ≤ 9223372036854775807) (hr : Rs w ao l) :
    Calls Try.prog 6 #[.agg #[.int .i64 g, .int .i64 u, .slice ao n cap, .string t]] w fun e w' => e = .returned (.bool true) ∧ Below w.heap.size w w' := by
  have HL := hid hl
  obtain ⟨W0, hW0⟩ : ∃ W0, w.alloc (.cells #[.int .i64 g, .int .i64 u, .slice ao n cap, .string t] 24) = W0 := ⟨_, rfl⟩
  have A0 : Hid (Mg W0 w.heap.size 24 g u (.slice ao n cap) t) := by subst hW0; exact Mg.new _ _ _ _ _ _
  have B0 : Hid (Below w.heap.size w W0) := by subst hW0; exact bpush (bre _) _
  have HR := hid (hr.later B0.out)
  have c0 := A0.out.cells
  clear hr hl
  by_cases hn : (1048576 : Int) < n + t.size
  · go_enter Try.func6, Try.ntmps6
    go_wp2_with fail
    refine (szMail_over g u ao n cap t 1048576 _ hm ht (by decide) hn).mono ?_; rintro e w1 ⟨rfl, hb1⟩
    go_wp2_with fail
    go_ret
    exact ⟨rfl, btr B0.out hb1⟩
  · have hn' : n ≤ 1048576 := by omega
    obtain ⟨z, hz⟩ : ∃ z : Int, (1048576 : Int) - n - t.size = z := ⟨_, rfl⟩
    have hneg : ¬ z < 0 := by omega
    have HZ := hid hz
    obtain ⟨x, q, hq⟩ := mtR_l g u l t
    have hqq : (q != q) = false := by simp
    have HQ := hid hq
    have HN := hid hn'
    have HNT := hid hn
    clear hz hq hn' hn
    go_enter Try.func6, Try.ntmps6
    go_wp2_with fail
    refine (szMail_fits g u ao n cap t 1048576 _ hm ht (by decide) (by have := HNT.out; omega)).mono ?_; rintro e w1 ⟨rfl, hb1⟩
    rw [HZ.out]
    have c1 := (A0.out.later hb1).cells
    have B1 := hid hb1
    clear c0 hb1 hW0
    go_wp2_with fail
    refine (toMail_any g u ao n cap l t _ HL.out HN.out (HR.out.later B1.out)).mono ?_; rintro e w2 ⟨k2, rfl, hown2, hk2, hb2⟩
    have R2 := hid (Ow.rs hown2).2
    have B2 := hid (btr B1.out hb2)
    clear hown2 hb2 c1 B1
    go_wp2_with fail
    refine (specMailText_any g u _ n n l t _ HL.out HN.out R2.out).mono ?_; rintro e w3 ⟨rfl, hb3⟩
    rw [HQ.out]
    have B3 := hid (btr B2.out hb3)
    have c3 := (A0.out.later B3.out).cells
    clear hb3 R2 B2
    go_wp2_with fail
    refine (toMail_any g u ao n cap l t _ HL.out HN.out (HR.out.later B3.out)).mono ?_; rintro e w4 ⟨k4, rfl, hown4, hk4, hb4⟩
    have R4 := hid (Ow.rs hown4).2
    have B4 := hid (btr B3.out hb4)
    clear hown4 hb4 B3 c3
    go_wp2_with fail
    refine (implMailText_any g u _ n n l t _ HL.out HN.out (R4.out.later (bpush (bre w4) _))).mono ?_; rintro e w5 ⟨rfl, hb5⟩
    rw [HQ.out]
    have R5 := hid ((R4.out.later (bpush (bre w4) _)).later hb5)
    have X5 := hid ((Mg.new w4 _ _ _ _ _).later hb5)
    have B5 := hid (btr (btr B4.out (bpush (bre w4) _)) hb5)
    clear hb5 B4 R4
    have HS : Hid (∀ W, Below w5.heap.size w5 W → (W.cell? ⟨w.heap.size, 0, none⟩ = some (.int .i64 g) ∧ W.cell? ⟨w.heap.size, 1, none⟩ = some (.int .i64 u) ∧ W.cell? ⟨w.heap.size, 2, none⟩ = some (.slice ao n cap) ∧ W.cell? ⟨w.heap.size, 3, none⟩ = some (.string t)) ∧ (W.cell? ⟨w4.heap.size, 0, none⟩ = some (.int .i64 g) ∧ W.cell? ⟨w4.heap.size, 1, none⟩ = some (.int .i64 u) ∧ W.cell? ⟨w4.heap.size, 2, none⟩ = some (.slice (some ⟨k4, 0, none⟩) n n) ∧ W.cell? ⟨w4.heap.size, 3, none⟩ = some (.string t))) :=
      fun W h => ⟨(A0.out.later (btr B5.out h)).cells, (X5.out.later h).cells⟩
    go_wp2_with fail
    go_region_held3 (fun W => (W.cell? ⟨w.heap.size, 0, none⟩ = some (.int .i64 g) ∧ W.cell? ⟨w.heap.size, 1, none⟩ = some (.int .i64 u) ∧ W.cell? ⟨w.heap.size, 2, none⟩ = some (.slice ao n cap) ∧ W.cell? ⟨w.heap.size, 3, none⟩ = some (.string t)) ∧ (W.cell? ⟨w4.heap.size, 0, none⟩ = some (.int .i64 g) ∧ W.cell? ⟨w4.heap.size, 1, none⟩ = some (.int .i64 u) ∧ W.cell? ⟨w4.heap.size, 2, none⟩ = some (.slice (some ⟨k4, 0, none⟩) n n) ∧ W.cell? ⟨w4.heap.size, 3, none⟩ = some (.string t)))
      ((refine HS.out _ ?_; repeat (first | exact bdr (bre _) | exact B7.out | exact B6.out | refine btr ?_ (by assumption))))
      ((first
        | (go_at_call 10; refine (toMail_any g u ao n cap l t _ HL.out HN.out (HR.out.later (btr B5.out (bdr (bre _))))).mono ?_; rintro e w6 ⟨k6, rfl, hown6, hk6, hb6⟩; have R6 := hid (Ow.rs hown6).2; have B6 : Hid (Below w5.heap.size w5 w6) := btr (bdr (bre _)) hb6)
        | (go_at_call 12; refine (eqMail_same g u _ _ n n n l t _ HL.out HN.out (R5.out.later B6.out) R6.out).mono ?_; rintro e w7 ⟨rfl, hb7⟩; have B7 : Hid (Below w5.heap.size w5 w7) := btr B6.out hb7)))
    go_wp2
    go_ret
    exact ⟨rfl, btr B0.out (btr B5.out B7.out)⟩
end Go.Proofs.Ytjnpohbljjlical
