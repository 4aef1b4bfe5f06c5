/- Mails as the laws hand them over; held against each other; marked. -/
import Derived.Test.YtegdejhgamkkbaaMail
namespace Go.Proofs.Ytegdejhgamkkbaa
open Go.RowKit

/-- Three blocks: a mail as it came in, and two that are new. -/
theorem three_mails (w : World) (ta tb tc : Nat) (g u g1 u1 g2 u2 : Int) (f f1 f2 : Value) (t t1 t2 : ByteArray) (W0 : World) (h : (((w.alloc (.cells #[.int .i64 g, .int .i64 u, f, .string t] ta)).alloc (.cells #[.int .i64 g1, .int .i64 u1, f1, .string t1] tb)).alloc (.cells #[.int .i64 g2, .int .i64 u2, f2, .string t2] tc)) = W0) :
    Mg W0 w.heap.size ta g u f t ∧ Mg W0 (w.heap.size + 1) tb g1 u1 f1 t1 ∧ Mg W0 (w.heap.size + 1 + 1) tc g2 u2 f2 t2 ∧ Below w.heap.size w W0 := by
  subst h
  exact ⟨(Mg.new w ta g u f t).later (bpush (bpush (bre _) _) _), Mg.later (by simpa using Mg.new (w.alloc (.cells #[.int .i64 g, .int .i64 u, f, .string t] ta)) tb g1 u1 f1 t1) (bpush (bre _) _),
    by simpa using Mg.new ((w.alloc (.cells #[.int .i64 g, .int .i64 u, f, .string t] ta)).alloc (.cells #[.int .i64 g1, .int .i64 u1, f1, .string t1] tb)) tc g2 u2 f2 t2, bpush (bpush (bpush (bre _) _) _) _⟩

set_option maxHeartbeats 400000 in
set_option maxRecDepth 100000 in
theorem toMail_any (g u : Int) (ao : Option Addr) (n cap : Nat) (l : List R3) (t : ByteArray) (w : World) (hl : l.length = n) (hn : n ≤ 1048576) (hr : Rs w ao l) :
    Calls Try.prog 38 #[.agg #[.int .i64 g, .int .i64 u, .slice ao n cap, .string t]] w fun e w' => ∃ k, e = .returned (.agg #[.int .i64 g, .int .i64 u, .slice (some ⟨k, 0, none⟩) n n, .string t]) ∧ Ow w' k (.slice (some ⟨k, 0, none⟩) n n) l ∧ w.heap.size ≤ k ∧ Below w.heap.size w w' := by
  obtain ⟨W0, hW0⟩ : ∃ W0, (((w.alloc (.cells #[.int .i64 g, .int .i64 u, .slice ao n cap, .string t] 65)).alloc (.cells #[.int .i64 0, .int .i64 0, .slice none 0 0, .string ⟨#[]⟩] 57)).alloc (.cells #[.int .i64 0, .int .i64 0, .slice none 0 0, .string ⟨#[]⟩] 57)) = W0 := ⟨_, rfl⟩
  obtain ⟨a0, a1, a2, b0⟩ := three_mails w _ _ _ _ _ _ _ _ _ _ _ _ _ _ _ W0 hW0
  have A0 := hid a0
  have A1 := hid a1
  have A2 := hid a2
  have B0 := hid b0
  have HR := hid hr
  have HL := hid hl
  have HN := hid hn
  have c0 := a0.cells
  have c2 := a2.cells
  have f2 := a2.loose
  have hsz : W0.heap.size = w.heap.size + 1 + 1 + 1 := by rw [← hW0]; simp
  have HSZ := hid hsz
  clear a0 a1 a2 b0 hr hl hn hsz
  go_enter Try.func38, Try.ntmps38
  go_wp2_with fail
  clear hW0
  obtain ⟨W1, hW1⟩ : ∃ W1, (W0.setCell ⟨w.heap.size + 1 + 1, 0, none⟩ (.int .i64 g)).setCell ⟨w.heap.size + 1 + 1, 1, none⟩ (.int .i64 u) = W1 := ⟨_, rfl⟩
  rw [hW1]
  have M2 : Hid (Mg W1 (w.heap.size + 1 + 1) 57 g u (.slice none 0 0) ⟨#[]⟩) := by subst hW1; exact (A2.out.s0 g).s1 u
  have M1 : Hid (Mg W1 (w.heap.size + 1) 57 0 0 (.slice none 0 0) ⟨#[]⟩) := by subst hW1; exact (A1.out.far _ (by omega)).far _ (by omega)
  have M0 : Hid (Mg W1 w.heap.size 65 g u (.slice ao n cap) t) := by subst hW1; exact (A0.out.far _ (by omega)).far _ (by omega)
  have B1 : Hid (Below w.heap.size w W1) := by subst hW1; exact bsk (bsk B0.out (by omega) _ _) (by omega) _ _
  clear hW1 c0 c2 f2 A1 A2 B0
  refine (toS_any ao n cap l W1 HL.out HN.out (HR.out.later B1.out)).mono ?_; rintro e w1 ⟨rfl, hown, hb⟩
  have m1 := M1.out.later hb
  have m2 := M2.out.later hb
  have c0 := (M0.out.later hb).cells
  have c1 := m1.cells
  have f1 := m1.loose
  have c2 := m2.cells
  have f2 := m2.loose
  have E1 := hid m1
  have E2 := hid m2
  have HO := hid hown
  have HB := hid (btr B1.out hb)
  have HS := hid B1.out.size
  have L2 := hid M2.out.lt
  clear m1 m2 hown hb
  go_wp2
  have k2 := (E2.out.s2 (.slice (some ⟨W1.heap.size, 0, none⟩) n n)).s3 t
  have k1 := ((((E1.out.far (.slice (some ⟨W1.heap.size, 0, none⟩) n n) (j := w.heap.size + 1 + 1) (i := 2) (by omega)).far (.string t) (j := w.heap.size + 1 + 1) (i := 3) (by omega)).s0 g).s1 u).s2 (.slice (some ⟨W1.heap.size, 0, none⟩) n n) |>.s3 t
  have d1 := k1.cells
  refine bodyPost_ret (v := .agg #[.int .i64 g, .int .i64 u, .slice (some ⟨W1.heap.size, 0, none⟩) n n, .string t]) (by simp [results, Try.results38, go_sem, d1]) rfl ⟨_, rfl, ?_, HS.out, ?_⟩
  · have h2 := L2.out
    exact (((((HO.out.far (by omega) 2 _).far (by omega) 3 _).far (by omega) 0 _).far (by omega) 1 _).far (by omega) 2 _).far (by omega) 3 _
  · exact bsk (bsk (bsk (bsk (bsk (bsk HB.out (by omega) _ _) (by omega) _ _) (by omega) _ _) (by omega) _ _) (by omega) _ _) (by omega) _ _

theorem szMail_over (g u : Int) (ao : Option Addr) (n cap : Nat) (t : ByteArray) (lf : Int) (w : World) (hn : (n : Int) ≤ 9223372036854775807) (ht : (t.size : Int) ≤ 9223372036854775807) (hl : 0 ≤ lf ∧ lf ≤ 1048576) (h : lf < (n : Int) + t.size) :
    Calls Try.prog 37 #[.agg #[.int .i64 g, .int .i64 u, .slice ao n cap, .string t], .int .i64 lf] w fun e w' => e = .returned (.int .i64 (-1)) ∧ Below w.heap.size w w' := by
  have A0 := (Mg.new w 65 g u (.slice ao n cap) t).cells
  by_cases h1 : lf < (n : Int)
  · go_enter Try.func37, Try.ntmps37
    go_wp2_with fail
    refine (sz_over ao n cap lf _ hn hl h1).mono ?_; rintro e w1 ⟨rfl, h1⟩
    subst h1
    go_wp2
    go_ret
    exact ⟨rfl, bpush (bre _) _⟩
  · have H1 := hid h1
    go_enter Try.func37, Try.ntmps37
    go_wp2_with fail
    refine (sz_fits ao n cap lf _ hn hl (by have := H1.out; omega)).mono ?_; rintro e w1 ⟨rfl, h2⟩
    subst h2
    obtain ⟨m, hm⟩ : ∃ m : Int, lf - n = m := ⟨_, rfl⟩
    rw [hm]
    have h1 := H1.out
    have h3 : ¬ m < 0 := by omega
    have h4 : m - (t.size : Int) < 0 := by omega
    have h5 : m ≤ 1048576 := by omega
    clear hm h h1
    go_wp2
    go_ret
    exact ⟨rfl, bpush (bre _) _⟩
theorem szMail_fits (g u : Int) (ao : Option Addr) (n cap : Nat) (t : ByteArray) (lf : Int) (w : World) (hn : (n : Int) ≤ 9223372036854775807) (ht : (t.size : Int) ≤ 9223372036854775807) (hl : 0 ≤ lf ∧ lf ≤ 1048576) (h : ¬ lf < (n : Int) + t.size) :
    Calls Try.prog 37 #[.agg #[.int .i64 g, .int .i64 u, .slice ao n cap, .string t], .int .i64 lf] w fun e w' => e = .returned (.int .i64 (lf - n - t.size)) ∧ Below w.heap.size w w' := by
  have A0 := (Mg.new w 65 g u (.slice ao n cap) t).cells
  have H1 : Hid (¬ lf < (n : Int)) := by show ¬ _; omega
  go_enter Try.func37, Try.ntmps37
  go_wp2_with fail
  refine (sz_fits ao n cap lf _ hn hl (by have := H1.out; omega)).mono ?_; rintro e w1 ⟨rfl, h2⟩
  subst h2
  obtain ⟨m, hm⟩ : ∃ m : Int, lf - n = m := ⟨_, rfl⟩
  rw [hm]
  have h1 := H1.out
  have h3 : ¬ m < 0 := by omega
  have h4 : ¬ m - (t.size : Int) < 0 := by omega
  have h5 : m ≤ 1048576 := by omega
  have HM := hid hm
  clear hm h h1
  go_wp2
  go_ret
  exact ⟨by rw [HM.out]; rfl, bpush (bre _) _⟩

/-- Two blocks: two mails. -/
theorem two_mails (w : World) (ta tb : Nat) (g u g1 u1 : Int) (f f1 : Value) (t t1 : ByteArray) (W0 : World) (h : ((w.alloc (.cells #[.int .i64 g, .int .i64 u, f, .string t] ta)).alloc (.cells #[.int .i64 g1, .int .i64 u1, f1, .string t1] tb)) = W0) :
    Mg W0 w.heap.size ta g u f t ∧ Mg W0 (w.heap.size + 1) tb g1 u1 f1 t1 ∧ Below w.heap.size w W0 := by
  subst h
  exact ⟨(Mg.new w ta g u f t).later (bpush (bre _) _), by simpa using Mg.new (w.alloc (.cells #[.int .i64 g, .int .i64 u, f, .string t] ta)) tb g1 u1 f1 t1, bpush (bpush (bre _) _) _⟩

set_option maxRecDepth 100000 in
theorem eqMail_same (g u : Int) (ao bo : Option Addr) (n ca cb : Nat) (l : List R3) (t : ByteArray) (w : World) (hl : l.length = n) (hn : n ≤ 1048576) (ha : Rs w ao l) (hb : Rs w bo l) :
    Calls Try.prog 41 #[.agg #[.int .i64 g, .int .i64 u, .slice ao n ca, .string t], .agg #[.int .i64 g, .int .i64 u, .slice bo n cb, .string t]] w fun e w' => e = .returned (.bool true) ∧ Below w.heap.size w w' := by
  obtain ⟨W0, hW0⟩ : ∃ W0, ((w.alloc (.cells #[.int .i64 g, .int .i64 u, .slice ao n ca, .string t] 57)).alloc (.cells #[.int .i64 g, .int .i64 u, .slice bo n cb, .string t] 57)) = W0 := ⟨_, rfl⟩
  obtain ⟨a0, a1, b0⟩ := two_mails w _ _ _ _ _ _ _ _ _ _ W0 hW0
  have A0 := hid a0
  have A1 := hid a1
  have B0 := hid b0
  have HA := hid ha
  have HB := hid hb
  have HL := hid hl
  have HN := hid hn
  have c0 := a0.cells
  have c1 := a1.cells
  have e1 : (g != g) = false := by simp
  have e2 : (u != u) = false := by simp
  clear a0 a1 b0 ha hb hl hn
  go_enter Try.func41, Try.ntmps41
  go_wp2_with fail
  clear hW0
  refine (eqRS_any ao bo n ca cb l _ HL.out HN.out (HA.out.later B0.out) (HB.out.later B0.out)).mono ?_; rintro e w1 ⟨rfl, hb⟩
  have d0 := (A0.out.later hb).cells
  have d1 := (A1.out.later hb).cells
  have HB1 := hid (btr B0.out hb)
  clear c0 c1 hb
  go_wp2
  go_ret
  exact ⟨rfl, HB1.out⟩

end Go.Proofs.Ytegdejhgamkkbaa
