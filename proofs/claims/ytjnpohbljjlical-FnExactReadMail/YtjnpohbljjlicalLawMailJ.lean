/- The walk of the law of joined mails. -/
import Derived.Test.YtjnpohbljjlicalLawMailB
import Derived.Test.YtjnpohbljjlicalMailJoinD
import Derived.Test.YtjnpohbljjlicalMailMk
namespace Go.Proofs.Ytjnpohbljjlical
open Go.RowKit

theorem Mg.newd (w : World) (ty : Nat) (g u : Int) (f : Value) (t : ByteArray) : Mg (w.alloc (.cells #[.int .i64 g, .int .i64 u, f, .string t] ty)).drew w.heap.size ty g u f t := heap_alloc_new w _
theorem mgl {W W' : World} {k ty : Nat} {g u : Int} {f : Value} {t : ByteArray} (h : Mg W k ty g u f t) (hb : Below W.heap.size W W') : k < W.heap.size ∧ Mg W' k ty g u f t := ⟨h.lt, h.later hb⟩

set_option maxHeartbeats 8000000 in
set_option maxRecDepth 100000 in
theorem lawJoinMail_any (g u : Int) (ao : Option Addr) (na ca : Nat) (l : List R3) (t : ByteArray) (g' u' : Int) (bo : Option Addr) (nb cb : Nat) (m : List R3) (t' : ByteArray) (w : World) (hl : l.length = na) (hma : (na : Int) ≤ 9223372036854775807) (ht : (t.size : Int) ≤ 9223372036854775807) (hr : Rs w ao l) (hl' : m.length = nb) (hmb : (nb : Int) ≤ 9223372036854775807) (ht' : (t'.size : Int) ≤ 9223372036854775807) (hr' : Rs w bo m) :
    Calls Try.prog 5 #[.agg #[.int .i64 g, .int .i64 u, .slice ao na ca, .string t], .agg #[.int .i64 g', .int .i64 u', .slice bo nb cb, .string t']] w fun e w' => e = .returned (.bool true) ∧ Below w.heap.size w w' := by
  have HLA := hid hl
  have HLB := hid hl'
  obtain ⟨W0, hW0⟩ : ∃ W0, ((w.alloc (.cells #[.int .i64 g, .int .i64 u, .slice ao na ca, .string t] 24)).alloc (.cells #[.int .i64 g', .int .i64 u', .slice bo nb cb, .string t'] 24)) = W0 := ⟨_, rfl⟩
  obtain ⟨a0, a1, b0⟩ := two_mails w _ _ _ _ _ _ _ _ _ _ W0 hW0
  have A0 := hid a0
  have A1 := hid a1
  have B0 := hid b0
  have HR := hid (hr.later b0)
  have HR' := hid (hr'.later b0)
  have c0 := a0.cells
  have c1 := a1.cells
  clear a0 a1 b0 hr hr' hl hl'
  by_cases hn : (1048576 : Int) < na + t.size
  · go_enter Try.func5, Try.ntmps5
    go_wp2_with fail
    refine (szMail_over g u ao na ca t 1048576 _ hma ht (by decide) hn).mono ?_; rintro e w1 ⟨rfl, hb1⟩
    go_wp2_with fail
    go_ret
    exact ⟨rfl, btr B0.out hb1⟩
  have hna : na ≤ 1048576 := by omega
  have hta : t.size ≤ 1048576 := by omega
  have HNT := hid hn
  have HNA := hid hna
  have HTA := hid hta
  obtain ⟨z, hz⟩ : ∃ z : Int, (1048576 : Int) - na - t.size = z := ⟨_, rfl⟩
  have hneg : ¬ z < 0 := by omega
  have hzb : z ≤ 1048576 := by omega
  have HZ := hid hz
  clear hz hn hna hta
  by_cases hn : z < nb + t'.size
  · go_enter Try.func5, Try.ntmps5
    go_wp2_with fail
    refine (szMail_fits g u ao na ca t 1048576 _ hma ht (by decide) (by have := HNT.out; omega)).mono ?_; rintro e w1 ⟨rfl, hb1⟩
    rw [HZ.out]
    have d0 := (A0.out.later hb1).cells
    have d1 := (A1.out.later hb1).cells
    have B1 := hid hb1
    clear c0 c1 hb1 hW0
    go_wp2_with fail
    refine (szMail_over g' u' bo nb cb t' z _ hmb ht' (by omega) hn).mono ?_; rintro e w2 ⟨rfl, hb2⟩
    go_wp2_with fail
    go_ret
    exact ⟨rfl, btr B0.out (btr B1.out hb2)⟩
  have hnb : nb ≤ 1048576 := by omega
  have htb : t'.size ≤ 1048576 := by omega
  have HNT' := hid hn
  have HNB := hid hnb
  have HTB := hid htb
  obtain ⟨z', hz'⟩ : ∃ z' : Int, z - nb - t'.size = z' := ⟨_, rfl⟩
  have hneg' : ¬ z' < 0 := by omega
  have HZ' := hid hz'
  clear hz' hn hnb htb
  obtain ⟨xu, hxu⟩ : ∃ x, jmu g u g' u' = x := ⟨_, rfl⟩
  obtain ⟨y, hy⟩ : ∃ x, jmt g t g' t' = x := ⟨_, rfl⟩
  obtain ⟨L, hL⟩ : ∃ x, jml g l g' m = x := ⟨_, rfl⟩
  obtain ⟨N, hN⟩ : ∃ x, L.length = x := ⟨_, rfl⟩
  have EU := hid hxu
  have ET := hid hy
  have EL := hid hL
  have EN := hid hN
  have HN : Hid (N ≤ 1048576) := by
    show N ≤ _
    rw [← hN, ← hL]; unfold jml; split
    · rw [jl_len, HLA.out, HLB.out]; have := HNA.out; omega
    · rw [HLA.out]; exact HNA.out
  clear hxu hy hL hN
  go_enter Try.func5, Try.ntmps5
  go_wp2_with fail
  refine (szMail_fits g u ao na ca t 1048576 _ hma ht (by decide) (by have := HNT.out; omega)).mono ?_; rintro e w1 ⟨rfl, hb1⟩
  rw [HZ.out]
  have d0 := (A0.out.later hb1).cells
  have d1 := (A1.out.later hb1).cells
  have B1 := hid hb1
  clear c0 c1 hb1 hW0
  go_wp2_with fail
  refine (szMail_fits g' u' bo nb cb t' z _ hmb ht' (by omega) (by have := HNT'.out; omega)).mono ?_; rintro e w2 ⟨rfl, hb2⟩
  rw [HZ'.out]
  have B2 := hid (btr B1.out hb2)
  clear d0 d1 hb2 B1
  have HS : Hid (∀ W, Below w2.heap.size w2 W → (W.cell? ⟨w.heap.size, 0, none⟩ = some (.int .i64 g) ∧ W.cell? ⟨w.heap.size, 1, none⟩ = some (.int .i64 u) ∧ W.cell? ⟨w.heap.size, 2, none⟩ = some (.slice ao na ca) ∧ W.cell? ⟨w.heap.size, 3, none⟩ = some (.string t)) ∧ (W.cell? ⟨(w.heap.size + 1), 0, none⟩ = some (.int .i64 g') ∧ W.cell? ⟨(w.heap.size + 1), 1, none⟩ = some (.int .i64 u') ∧ W.cell? ⟨(w.heap.size + 1), 2, none⟩ = some (.slice bo nb cb) ∧ W.cell? ⟨(w.heap.size + 1), 3, none⟩ = some (.string t'))) :=
    fun W h => ⟨(A0.out.later (btr B2.out h)).cells, (A1.out.later (btr B2.out h)).cells⟩
  have HRw2 := hid (HR.out.later B2.out)
  have HR'w2 := hid (HR'.out.later B2.out)
  go_wp2_with fail
  go_cut [6] from 14 (fun s wx => ∃ (k : Nat) (a : Option Addr) (c : Nat), s = .pointer (some ⟨k, 0, none⟩) ∧ w2.heap.size ≤ k ∧ Mg wx k 29 g xu (.slice a N c) y ∧ Ow wx w2.heap.size (.slice a N c) L ∧ Below w2.heap.size w2 wx)
  case first =>
    go_region_held3 (fun W => (W.cell? ⟨w.heap.size, 0, none⟩ = some (.int .i64 g) ∧ W.cell? ⟨w.heap.size, 1, none⟩ = some (.int .i64 u) ∧ W.cell? ⟨w.heap.size, 2, none⟩ = some (.slice ao na ca) ∧ W.cell? ⟨w.heap.size, 3, none⟩ = some (.string t)) ∧ (W.cell? ⟨(w.heap.size + 1), 0, none⟩ = some (.int .i64 g') ∧ W.cell? ⟨(w.heap.size + 1), 1, none⟩ = some (.int .i64 u') ∧ W.cell? ⟨(w.heap.size + 1), 2, none⟩ = some (.slice bo nb cb) ∧ W.cell? ⟨(w.heap.size + 1), 3, none⟩ = some (.string t')))
      ((refine HS.out _ ?_; repeat (first | exact bre _ | refine bdr ?_ | refine btr ?_ (by assumption) | refine bpush ?_ _ | refine bset' ?_ ?_ _ _)))
      ((first
        | (go_at_call 10; (with_reducible refine (toMail_any g u ao na ca l t _ HLA.out HNA.out (HRw2.out.later (by repeat (first | exact bre _ | refine bdr ?_ | refine btr ?_ (by assumption) | refine bpush ?_ _ | refine bset' ?_ ?_ _ _)))).mono ?_); rintro e v1 ⟨k1, rfl, ho1, hk1, hb1⟩; (first | (have R0 := mgl (Mg.newd _ 29 0 0 (.slice none 0 0) ⟨#[]⟩) hb1; have L1 := R0.1; have R1 := R0.2; have d1 := R1.cells; have f1 := R1.loose; clear R0) | (have R0 := mgl (Mg.new _ 29 0 0 (.slice none 0 0) ⟨#[]⟩) hb1; have L1 := R0.1; have R1 := R0.2; have d1 := R1.cells; have f1 := R1.loose; clear R0) | (have R0 := mgl (ty := 29) (g := 0) (u := 0) (f := .slice none 0 0) (t := ⟨#[]⟩) (by assumption) hb1; have L1 := R0.1; have R1 := R0.2; have d1 := R1.cells; have f1 := R1.loose; clear R0) | skip); have P1 := hid (Ow.rs ho1).2; clear ho1)
        | (go_at_call 10; (with_reducible refine (toMail_any g' u' bo nb cb m t' _ HLB.out HNB.out (HR'w2.out.later (by repeat (first | exact bre _ | refine bdr ?_ | refine btr ?_ (by assumption) | refine bpush ?_ _ | refine bset' ?_ ?_ _ _)))).mono ?_); rintro e v2 ⟨k2, rfl, ho2, hk2, hb2⟩; (first | (have R0 := mgl (Mg.newd _ 29 0 0 (.slice none 0 0) ⟨#[]⟩) hb2; have L1 := R0.1; have R1 := R0.2; have d1 := R1.cells; have f1 := R1.loose; clear R0) | (have R0 := mgl (Mg.new _ 29 0 0 (.slice none 0 0) ⟨#[]⟩) hb2; have L1 := R0.1; have R1 := R0.2; have d1 := R1.cells; have f1 := R1.loose; clear R0) | (have R0 := mgl (ty := 29) (g := 0) (u := 0) (f := .slice none 0 0) (t := ⟨#[]⟩) (by assumption) hb2; have L1 := R0.1; have R1 := R0.2; have d1 := R1.cells; have f1 := R1.loose; clear R0) | skip); have P2 := hid (Ow.rs ho2).2; have P1' := hid (P1.out.later (W' := v2) (by repeat (first | exact bre _ | refine bdr ?_ | refine btr ?_ (by assumption) | refine bpush ?_ _ | refine bset' ?_ ?_ _ _))); clear ho2)
        | (go_at_call 15; (with_reducible refine (specJoinMail_any g u _ na na l t g' u' _ nb nb m t' _ HLA.out HLB.out HNA.out HNB.out HTA.out HTB.out (P1'.out.later (by repeat (first | exact bre _ | refine bdr ?_ | refine btr ?_ (by assumption) | refine bpush ?_ _ | refine bset' ?_ ?_ _ _))) (P2.out.later (by repeat (first | exact bre _ | refine bdr ?_ | refine btr ?_ (by assumption) | refine bpush ?_ _ | refine bset' ?_ ?_ _ _))) (by intro h; cases h)).mono ?_); rintro e v3 ⟨v, rfl, ho3, hb3⟩; (first | (have R0 := mgl (Mg.newd _ 29 0 0 (.slice none 0 0) ⟨#[]⟩) hb3; have L1 := R0.1; have R1 := R0.2; have d1 := R1.cells; have f1 := R1.loose; clear R0) | (have R0 := mgl (Mg.new _ 29 0 0 (.slice none 0 0) ⟨#[]⟩) hb3; have L1 := R0.1; have R1 := R0.2; have d1 := R1.cells; have f1 := R1.loose; clear R0) | (have R0 := mgl (ty := 29) (g := 0) (u := 0) (f := .slice none 0 0) (t := ⟨#[]⟩) (by assumption) hb3; have L1 := R0.1; have R1 := R0.2; have d1 := R1.cells; have f1 := R1.loose; clear R0) | skip); obtain ⟨a3, c3, hv3, _⟩ := Ow.shape ho3; rw [EL.out] at ho3 hv3; rw [EN.out] at hv3; subst hv3; rw [EU.out, ET.out]; have HO3 := hid ho3; clear ho3)))
    all_goals (try go_wp2_with fail)
    all_goals go_meet
    all_goals
      refine ⟨_, a3, c3, rfl, ?_, ?_, ?_, ?_⟩
      · first | exact Nat.le_refl _ | (refine Below.size (B := w2.heap.size) ?_; repeat (first | exact bre _ | refine bdr ?_ | refine btr ?_ (by assumption) | refine bpush ?_ _ | refine bset' ?_ ?_ _ _))
      · first | with_reducible exact set4 (by assumption) _ _ _ _ | with_reducible exact Mg.new _ _ _ _ _ _
      · first | exact own_base (own_later HO3.out (bpush (bre _) _)) (by first | exact Nat.le_refl _ | (refine Below.size (B := w2.heap.size) ?_; repeat (first | exact bre _ | refine bdr ?_ | refine btr ?_ (by assumption) | refine bpush ?_ _ | refine bset' ?_ ?_ _ _))) | exact own_base (own4 HO3.out L1 _ _ _ _) (by first | exact Nat.le_refl _ | (refine Below.size (B := w2.heap.size) ?_; repeat (first | exact bre _ | refine bdr ?_ | refine btr ?_ (by assumption) | refine bpush ?_ _ | refine bset' ?_ ?_ _ _)))
      · repeat (first | exact bre _ | refine bdr ?_ | refine btr ?_ (by assumption) | refine bpush ?_ _ | refine bset' ?_ ?_ _ _)
  case rest =>
  obtain ⟨kw, aw, cw, rfl, hkw, mw, ow, bw⟩ := hcut
  have V5 := hid mw
  have OV5 := hid ow
  have FV : Hid (∀ j, Value.ownBlock (.slice aw N cw) = some j → j < wc.heap.size) := fun j hj => (ow.lt j hj).2
  have B5 := hid (btr B2.out bw)
  have LV5 : Hid (kw < wc.heap.size) := mw.lt
  have LW0 : Hid (W0.heap.size ≤ wc.heap.size) := B5.out.size
  clear hkw mw ow bw HS HRw2 HR'w2 B2
  have e0 := (A0.out.later B5.out).cells
  go_wp2_with fail
  refine (toMail_any g u ao na ca l t _ HLA.out HNA.out (HR.out.later B5.out)).mono ?_; rintro e w6 ⟨k6, rfl, hown, hk, hb⟩
  have N6 := hid (bpush (bre w6) (.cells #[.int .i64 g, .int .i64 u, .slice (some ⟨k6, 0, none⟩) na na, .string t] 29))
  have OX6 := hid (own_later hown N6.out)
  have X6 := hid (Mg.new w6 29 g u (.slice (some ⟨k6, 0, none⟩) na na) t)
  have B6 := hid (btr (btr B5.out hb) N6.out)
  have V6 := hid ((V5.out.later hb).later N6.out)
  have OV6 := hid (own_later (own_later OV5.out hb) N6.out)
  have LX6 : Hid (k6 < w6.heap.size) := (hown.lt _ rfl).2
  have LK6 : Hid (wc.heap.size ≤ k6) := hk
  have e1 := (A1.out.later B6.out).cells
  clear e0 hown hb hk V5 OV5 B5
  go_wp2_with fail
  refine (toMail_any g' u' bo nb cb m t' _ HLB.out HNB.out (HR'.out.later B6.out)).mono ?_; rintro e w7 ⟨k7, rfl, hown, hk, hb⟩
  have N7 := hid (bpush (bre w7) (.cells #[.int .i64 g', .int .i64 u', .slice (some ⟨k7, 0, none⟩) nb nb, .string t'] 29))
  have OY7 := hid (own_later hown N7.out)
  have OX7 := hid (own_later (own_later OX6.out hb) N7.out)
  have Y7 := hid (Mg.new w7 29 g' u' (.slice (some ⟨k7, 0, none⟩) nb nb) t')
  have X7 := hid ((X6.out.later hb).later N7.out)
  have V7 := hid ((V6.out.later hb).later N7.out)
  have OV7 := hid (own_later (own_later OV6.out hb) N7.out)
  have B7 := hid (btr (btr B6.out hb) N7.out)
  have LY7 : Hid (k7 < w7.heap.size) := (hown.lt _ rfl).2
  have LX7 : Hid (w6.heap.size < k7) := Nat.lt_of_lt_of_le X6.out.lt hk
  clear e1 hown hb hk V6 OV6 B6 X6 OX6
  have e0 := X7.out.cells
  have e2 := Y7.out.cells
  go_wp2_with fail
  refine (implJoinMail_any g u _ na na l t g' u' _ nb nb m t' _ HLA.out HLB.out HNA.out HNB.out HTA.out HTB.out (Ow.rs OX7.out).2 (Ow.rs OY7.out).2 (by intro h; cases h)).mono ?_; rintro e w8 ⟨v8, rfl, hown, hb⟩
  obtain ⟨a8, c8, hv8, _⟩ := Ow.shape hown
  rw [EL.out] at hown hv8
  rw [EN.out] at hv8
  subst hv8
  rw [EU.out, ET.out]
  have N8 := hid (bpush (bre w8) (.cells #[.int .i64 g, .int .i64 xu, .slice a8 N c8, .string y] 29))
  have OG8 := hid (own_later hown N8.out)
  have FG : Hid (∀ j, Value.ownBlock (.slice a8 N c8) = some j → w7.heap.size < j ∧ j < w8.heap.size) := fun j hj => ⟨Nat.lt_of_lt_of_le Y7.out.lt (hown.lt j hj).1, (hown.lt j hj).2⟩
  have OX8 := hid (own_later (own_later OX7.out hb) N8.out)
  have OY8 := hid (own_later (own_later OY7.out hb) N8.out)
  have G8 := hid (Mg.new w8 29 g xu (.slice a8 N c8) y)
  have X8 := hid ((X7.out.later hb).later N8.out)
  have Y8 := hid ((Y7.out.later hb).later N8.out)
  have V8 := hid ((V7.out.later hb).later N8.out)
  have OV8 := hid (own_later (own_later OV7.out hb) N8.out)
  have B8 := hid (btr (btr B7.out hb) N8.out)
  have LG8 : Hid (w7.heap.size < (w7.alloc (.cells #[.int .i64 g', .int .i64 u', .slice (some ⟨k7, 0, none⟩) nb nb, .string t'] 29)).heap.size) := Y7.out.lt
  have LB8 : Hid ((w7.alloc (.cells #[.int .i64 g', .int .i64 u', .slice (some ⟨k7, 0, none⟩) nb nb, .string t'] 29)).heap.size ≤ w8.heap.size) := hb.size
  clear e0 e2 hown hb V7 OV7 B7 X7 OX7 Y7 OY7
  have e0 := G8.out.cells
  have e2 := V8.out.cells
  go_wp2_with fail
  refine (eqMail_same g xu _ _ N c8 cw L y _ EN.out HN.out (Ow.rs OG8.out).2 (Ow.rs OV8.out).2).mono ?_; rintro e w9 ⟨rfl, hb⟩
  have X9 := hid (X8.out.later hb)
  have Y9 := hid (Y8.out.later hb)
  have G9 := hid (G8.out.later hb)
  have V9 := hid (V8.out.later hb)
  have OV9 := hid (own_later OV8.out hb)
  have OX9 := hid (own_later OX8.out hb)
  have OY9 := hid (own_later OY8.out hb)
  have OG9 := hid (own_later OG8.out hb)
  have B9 := hid (btr B8.out hb)
  clear e0 e2 hb X8 Y8 G8 V8 OV8 OX8 OY8 OG8 B8

  have HS9 : Hid (∀ W, Below w9.heap.size w9 W → (W.cell? ⟨w.heap.size, 0, none⟩ = some (.int .i64 g) ∧ W.cell? ⟨w.heap.size, 1, none⟩ = some (.int .i64 u) ∧ W.cell? ⟨w.heap.size, 2, none⟩ = some (.slice ao na ca) ∧ W.cell? ⟨w.heap.size, 3, none⟩ = some (.string t)) ∧ (W.cell? ⟨(w.heap.size + 1), 0, none⟩ = some (.int .i64 g') ∧ W.cell? ⟨(w.heap.size + 1), 1, none⟩ = some (.int .i64 u') ∧ W.cell? ⟨(w.heap.size + 1), 2, none⟩ = some (.slice bo nb cb) ∧ W.cell? ⟨(w.heap.size + 1), 3, none⟩ = some (.string t')) ∧ (W.cell? ⟨w6.heap.size, 0, none⟩ = some (.int .i64 g) ∧ W.cell? ⟨w6.heap.size, 1, none⟩ = some (.int .i64 u) ∧ W.cell? ⟨w6.heap.size, 2, none⟩ = some (.slice (some ⟨k6, 0, none⟩) na na) ∧ W.cell? ⟨w6.heap.size, 3, none⟩ = some (.string t)) ∧ (W.cell? ⟨w7.heap.size, 0, none⟩ = some (.int .i64 g') ∧ W.cell? ⟨w7.heap.size, 1, none⟩ = some (.int .i64 u') ∧ W.cell? ⟨w7.heap.size, 2, none⟩ = some (.slice (some ⟨k7, 0, none⟩) nb nb) ∧ W.cell? ⟨w7.heap.size, 3, none⟩ = some (.string t'))) :=
    fun W h => ⟨(A0.out.later (btr B9.out h)).cells, (A1.out.later (btr B9.out h)).cells, (X9.out.later h).cells, (Y9.out.later h).cells⟩
  go_wp2_with fail
  go_region_held3 (fun W => (W.cell? ⟨w.heap.size, 0, none⟩ = some (.int .i64 g) ∧ W.cell? ⟨w.heap.size, 1, none⟩ = some (.int .i64 u) ∧ W.cell? ⟨w.heap.size, 2, none⟩ = some (.slice ao na ca) ∧ W.cell? ⟨w.heap.size, 3, none⟩ = some (.string t)) ∧ (W.cell? ⟨(w.heap.size + 1), 0, none⟩ = some (.int .i64 g') ∧ W.cell? ⟨(w.heap.size + 1), 1, none⟩ = some (.int .i64 u') ∧ W.cell? ⟨(w.heap.size + 1), 2, none⟩ = some (.slice bo nb cb) ∧ W.cell? ⟨(w.heap.size + 1), 3, none⟩ = some (.string t')) ∧ (W.cell? ⟨w6.heap.size, 0, none⟩ = some (.int .i64 g) ∧ W.cell? ⟨w6.heap.size, 1, none⟩ = some (.int .i64 u) ∧ W.cell? ⟨w6.heap.size, 2, none⟩ = some (.slice (some ⟨k6, 0, none⟩) na na) ∧ W.cell? ⟨w6.heap.size, 3, none⟩ = some (.string t)) ∧ (W.cell? ⟨w7.heap.size, 0, none⟩ = some (.int .i64 g') ∧ W.cell? ⟨w7.heap.size, 1, none⟩ = some (.int .i64 u') ∧ W.cell? ⟨w7.heap.size, 2, none⟩ = some (.slice (some ⟨k7, 0, none⟩) nb nb) ∧ W.cell? ⟨w7.heap.size, 3, none⟩ = some (.string t')))
    ((refine HS9.out _ ?_; repeat (first | exact bdr (bre _) | exact C11.out | exact C10.out | refine btr ?_ (by assumption))))
    ((first
      | (go_at_call 10; refine (toMail_any g u ao na ca l t _ HLA.out HNA.out (HR.out.later (btr B9.out (bdr (bre _))))).mono ?_; rintro e w10 ⟨k10, rfl, hown, hk, hb⟩; have QN := hid (Ow.rs hown).2; have C10 : Hid (Below w9.heap.size w9 w10) := btr (bdr (bre _)) hb; clear hown hk hb)
      | (go_at_call 12; refine (eqMail_same g u _ _ na na na l t _ HLA.out HNA.out ((Ow.rs OX9.out).2.later C10.out) QN.out).mono ?_; rintro e w11 ⟨rfl, hb⟩; have C11 : Hid (Below w9.heap.size w9 w11) := btr C10.out hb; clear hb)))
  have B11 := hid (btr B9.out C11.out)
  have X11 := hid (X9.out.later C11.out)
  have Y11 := hid (Y9.out.later C11.out)
  have G11 := hid (G9.out.later C11.out)
  have V11 := hid (V9.out.later C11.out)
  have OX11 := hid (own_later OX9.out C11.out)
  have OY11 := hid (own_later OY9.out C11.out)
  have OG11 := hid (own_later OG9.out C11.out)
  have OV11 := hid (own_later OV9.out C11.out)
  clear C10 C11 HS9 B9 X9 Y9 G9 V9 OX9 OY9 OG9 OV9 QN

  have HS11 : Hid (∀ W, Below w11.heap.size w11 W → (W.cell? ⟨w.heap.size, 0, none⟩ = some (.int .i64 g) ∧ W.cell? ⟨w.heap.size, 1, none⟩ = some (.int .i64 u) ∧ W.cell? ⟨w.heap.size, 2, none⟩ = some (.slice ao na ca) ∧ W.cell? ⟨w.heap.size, 3, none⟩ = some (.string t)) ∧ (W.cell? ⟨(w.heap.size + 1), 0, none⟩ = some (.int .i64 g') ∧ W.cell? ⟨(w.heap.size + 1), 1, none⟩ = some (.int .i64 u') ∧ W.cell? ⟨(w.heap.size + 1), 2, none⟩ = some (.slice bo nb cb) ∧ W.cell? ⟨(w.heap.size + 1), 3, none⟩ = some (.string t')) ∧ (W.cell? ⟨w6.heap.size, 0, none⟩ = some (.int .i64 g) ∧ W.cell? ⟨w6.heap.size, 1, none⟩ = some (.int .i64 u) ∧ W.cell? ⟨w6.heap.size, 2, none⟩ = some (.slice (some ⟨k6, 0, none⟩) na na) ∧ W.cell? ⟨w6.heap.size, 3, none⟩ = some (.string t)) ∧ (W.cell? ⟨w7.heap.size, 0, none⟩ = some (.int .i64 g') ∧ W.cell? ⟨w7.heap.size, 1, none⟩ = some (.int .i64 u') ∧ W.cell? ⟨w7.heap.size, 2, none⟩ = some (.slice (some ⟨k7, 0, none⟩) nb nb) ∧ W.cell? ⟨w7.heap.size, 3, none⟩ = some (.string t'))) :=
    fun W h => ⟨(A0.out.later (btr B11.out h)).cells, (A1.out.later (btr B11.out h)).cells, (X11.out.later h).cells, (Y11.out.later h).cells⟩
  go_wp2_with fail
  go_region_held3 (fun W => (W.cell? ⟨w.heap.size, 0, none⟩ = some (.int .i64 g) ∧ W.cell? ⟨w.heap.size, 1, none⟩ = some (.int .i64 u) ∧ W.cell? ⟨w.heap.size, 2, none⟩ = some (.slice ao na ca) ∧ W.cell? ⟨w.heap.size, 3, none⟩ = some (.string t)) ∧ (W.cell? ⟨(w.heap.size + 1), 0, none⟩ = some (.int .i64 g') ∧ W.cell? ⟨(w.heap.size + 1), 1, none⟩ = some (.int .i64 u') ∧ W.cell? ⟨(w.heap.size + 1), 2, none⟩ = some (.slice bo nb cb) ∧ W.cell? ⟨(w.heap.size + 1), 3, none⟩ = some (.string t')) ∧ (W.cell? ⟨w6.heap.size, 0, none⟩ = some (.int .i64 g) ∧ W.cell? ⟨w6.heap.size, 1, none⟩ = some (.int .i64 u) ∧ W.cell? ⟨w6.heap.size, 2, none⟩ = some (.slice (some ⟨k6, 0, none⟩) na na) ∧ W.cell? ⟨w6.heap.size, 3, none⟩ = some (.string t)) ∧ (W.cell? ⟨w7.heap.size, 0, none⟩ = some (.int .i64 g') ∧ W.cell? ⟨w7.heap.size, 1, none⟩ = some (.int .i64 u') ∧ W.cell? ⟨w7.heap.size, 2, none⟩ = some (.slice (some ⟨k7, 0, none⟩) nb nb) ∧ W.cell? ⟨w7.heap.size, 3, none⟩ = some (.string t')))
    ((refine HS11.out _ ?_; repeat (first | exact bdr (bre _) | exact C13.out | exact C12.out | refine btr ?_ (by assumption))))
    ((first
      | (go_at_call 10; refine (toMail_any g' u' bo nb cb m t' _ HLB.out HNB.out (HR'.out.later (btr B11.out (bdr (bre _))))).mono ?_; rintro e w12 ⟨k12, rfl, hown, hk, hb⟩; have QN := hid (Ow.rs hown).2; have C12 : Hid (Below w11.heap.size w11 w12) := btr (bdr (bre _)) hb; clear hown hk hb)
      | (go_at_call 12; refine (eqMail_same g' u' _ _ nb nb nb m t' _ HLB.out HNB.out ((Ow.rs OY11.out).2.later C12.out) QN.out).mono ?_; rintro e w13 ⟨rfl, hb⟩; have C13 : Hid (Below w11.heap.size w11 w13) := btr C12.out hb; clear hb)))
  have B13 := hid (btr B11.out C13.out)
  have X13 := hid (X11.out.later C13.out)
  have Y13 := hid (Y11.out.later C13.out)
  have G13 := hid (G11.out.later C13.out)
  have V13 := hid (V11.out.later C13.out)
  have OX13 := hid (own_later OX11.out C13.out)
  have OY13 := hid (own_later OY11.out C13.out)
  have OG13 := hid (own_later OG11.out C13.out)
  have OV13 := hid (own_later OV11.out C13.out)
  clear C12 C13 HS11 B11 X11 Y11 G11 V11 OX11 OY11 OG11 OV11 QN

  have e0 := X13.out.cells
  go_wp2_with fail
  refine (markM1 g u _ (some ⟨k6, 0, none⟩) na na l t _ OX13.out HLA.out HNA.out).mono ?_; rintro e w14 ⟨rfl, hown, hg⟩
  have l1 := LK6.out
  have l2 := LX6.out
  have l3 := LX7.out
  have l4 := LY7.out
  have l5 := LV5.out
  have l6 := LW0.out
  have Y14 := hid (Y13.out.grown hg (by simp [Value.ownBlock]; omega))
  have G14 := hid (G13.out.grown hg (by have := LB8.out; have := LG8.out; simp only [Value.ownBlock, ne_eq, Option.some.injEq]; omega))
  have V14 := hid (V13.out.grown hg (by simp [Value.ownBlock]; omega))
  have OY14 := hid (own_kept OY13.out hg (by intro j hj; simp [Value.ownBlock] at hj ⊢; omega))
  have OG14 := hid (own_kept OG13.out hg (by intro j hj; have := FG.out j hj; simp [Value.ownBlock]; omega))
  have OV14 := hid (own_kept OV13.out hg (by intro j hj; have := FV.out j hj; simp [Value.ownBlock]; omega))
  have B14 : Hid (Below W0.heap.size W0 w14) := B13.out.trans (below_grownR hg (by intro j hj; simp [Value.ownBlock] at hj; omega) B13.out.size)
  clear e0 hown hg X13 Y13 G13 V13 OX13 OY13 OG13 OV13 B13 l1 l2 l3 l4 l5 l6
  have e0 := Y14.out.cells
  go_wp2_with fail
  refine (markMail_any g' u' _ k7 nb nb (1 + na * 3) m t' _ OY14.out HLB.out HNB.out (by have := HNA.out; omega)).mono ?_; rintro e w15 ⟨rfl, hown, hg⟩
  have l1 := LK6.out
  have l2 := LX6.out
  have l3 := LX7.out
  have l4 := LY7.out
  have l5 := LV5.out
  have l6 := LW0.out
  have G15 := hid (G14.out.grown hg (by have := LB8.out; have := LG8.out; simp only [ne_eq, Option.some.injEq]; omega))
  have V15 := hid (V14.out.grown hg (by simp; omega))
  have OG15 := hid (own_kept OG14.out hg (by intro j hj; have := FG.out j hj; simp; omega))
  have OV15 := hid (own_kept OV14.out hg (by intro j hj; have := FV.out j hj; simp; omega))
  have B15 : Hid (Below W0.heap.size W0 w15) := B14.out.trans (below_grownR hg (by intro j hj; simp at hj; omega) B14.out.size)
  obtain ⟨q, hq⟩ : ∃ q : Nat, 1 + na * 3 + nb * 3 = q := ⟨_, rfl⟩
  rw [hq]
  have hq0 : ¬ ((q : Nat) : Int) < 0 := by omega
  clear e0 hown hg Y14 G14 V14 OY14 OG14 OV14 B14 l1 l2 l3 l4 l5 l6 hq
  have e0 := G15.out.cells
  have e2 := V15.out.cells
  go_wp2_with fail
  refine (eqMail_same g xu _ _ N c8 cw L y _ EN.out HN.out (Ow.rs OG15.out).2 (Ow.rs OV15.out).2).mono ?_; rintro e w16 ⟨rfl, hb⟩
  have G16 := hid (G15.out.later hb)
  have V16 := hid (V15.out.later hb)
  have OG16 := hid (own_later OG15.out hb)
  have OV16 := hid (own_later OV15.out hb)
  have B16 := hid (btr B15.out hb)
  clear e0 e2 hb G15 V15 OG15 OV15 B15
  have e0 := G16.out.cells
  go_wp2_with fail
  clear hq0
  refine (markM1 g xu _ a8 N c8 L y _ OG16.out EN.out HN.out).mono ?_; rintro e w17 ⟨rfl, hown, hg⟩
  have l1 := LK6.out
  have l2 := LX6.out
  have l3 := LX7.out
  have l4 := LY7.out
  have l5 := LV5.out
  have l6 := LW0.out
  have G17 := hid (G16.out.grown hg (by intro h; have := FG.out _ h.symm; omega))
  have V17 := hid (V16.out.grown hg (by intro h; have := FG.out _ h.symm; omega))
  have OG17 := hid hown
  have OV17 := hid (own_kept OV16.out hg (by intro j hj h; have := FG.out _ h; have := FV.out _ hj; omega))
  have B17 : Hid (Below W0.heap.size W0 w17) := B16.out.trans (below_grownR hg (by intro j hj; have := FG.out _ hj; omega) B16.out.size)
  clear e0 hown hg G16 V16 OG16 OV16 B16 l1 l2 l3 l4 l5 l6
  obtain ⟨z1, hz1⟩ : ∃ z : Nat, 1 + N * 3 = z := ⟨_, rfl⟩
  have HH : Hid (∀ W B, Ow W B (.slice a8 N c8) (mks 1 N) → Calls Try.prog 18 #[.agg #[.int .i64 g, .int .i64 xu, .slice a8 N c8, .string y], .int .i64 1] W fun e w' => e = .returned (.int .i64 (z1 : Int)) ∧ Below W.heap.size W w') := fun W B h => by
    rw [← hz1]; exact heldM1 g xu B a8 N c8 y W h HN.out
  rw [hz1]
  have hz0 : ¬ ((z1 : Nat) : Int) < 0 := by omega
  have hzz : ((z1 : Int) != (z1 : Int)) = false := by simp
  clear hz1
  have e0 := G17.out.cells
  go_wp2_with fail
  refine (HH.out _ _ OG17.out).mono ?_; rintro e w18 ⟨rfl, hb⟩
  have G18 := hid (G17.out.later hb)
  have V18 := hid (V17.out.later hb)
  have OG18 := hid (own_later OG17.out hb)
  have OV18 := hid (own_later OV17.out hb)
  have B18 := hid (btr B17.out hb)
  clear e0 hb G17 V17 OG17 OV17 B17
  have HS31 : Hid (∀ W, Below w18.heap.size w18 W → (W.cell? ⟨w.heap.size, 0, none⟩ = some (.int .i64 g) ∧ W.cell? ⟨w.heap.size, 1, none⟩ = some (.int .i64 u) ∧ W.cell? ⟨w.heap.size, 2, none⟩ = some (.slice ao na ca) ∧ W.cell? ⟨w.heap.size, 3, none⟩ = some (.string t)) ∧ (W.cell? ⟨(w.heap.size + 1), 0, none⟩ = some (.int .i64 g') ∧ W.cell? ⟨(w.heap.size + 1), 1, none⟩ = some (.int .i64 u') ∧ W.cell? ⟨(w.heap.size + 1), 2, none⟩ = some (.slice bo nb cb) ∧ W.cell? ⟨(w.heap.size + 1), 3, none⟩ = some (.string t'))) :=
    fun W h => ⟨(A0.out.later (btr B18.out h)).cells, (A1.out.later (btr B18.out h)).cells⟩
  have HRw18 := hid (HR.out.later B18.out)
  have HR'w18 := hid (HR'.out.later B18.out)
  go_wp2_with fail
  go_cut [13] from 14 (fun s wx => ∃ (k : Nat) (a : Option Addr) (c : Nat), s = .pointer (some ⟨k, 0, none⟩) ∧ w18.heap.size ≤ k ∧ Mg wx k 29 g xu (.slice a N c) y ∧ Ow wx w18.heap.size (.slice a N c) L ∧ Below w18.heap.size w18 wx)
  case first =>
    go_region_held3 (fun W => (W.cell? ⟨w.heap.size, 0, none⟩ = some (.int .i64 g) ∧ W.cell? ⟨w.heap.size, 1, none⟩ = some (.int .i64 u) ∧ W.cell? ⟨w.heap.size, 2, none⟩ = some (.slice ao na ca) ∧ W.cell? ⟨w.heap.size, 3, none⟩ = some (.string t)) ∧ (W.cell? ⟨(w.heap.size + 1), 0, none⟩ = some (.int .i64 g') ∧ W.cell? ⟨(w.heap.size + 1), 1, none⟩ = some (.int .i64 u') ∧ W.cell? ⟨(w.heap.size + 1), 2, none⟩ = some (.slice bo nb cb) ∧ W.cell? ⟨(w.heap.size + 1), 3, none⟩ = some (.string t')))
      ((refine HS31.out _ ?_; repeat (first | exact bre _ | refine bdr ?_ | refine btr ?_ (by assumption) | refine bpush ?_ _ | refine bset' ?_ ?_ _ _)))
      ((first
        | (go_at_call 10; (with_reducible refine (toMail_any g u ao na ca l t _ HLA.out HNA.out (HRw18.out.later (by repeat (first | exact bre _ | refine bdr ?_ | refine btr ?_ (by assumption) | refine bpush ?_ _ | refine bset' ?_ ?_ _ _)))).mono ?_); rintro e v1 ⟨k1, rfl, ho1, hk1, hb1⟩; (first | (have R0 := mgl (Mg.newd _ 29 0 0 (.slice none 0 0) ⟨#[]⟩) hb1; have L1 := R0.1; have R1 := R0.2; have d1 := R1.cells; have f1 := R1.loose; clear R0) | (have R0 := mgl (Mg.new _ 29 0 0 (.slice none 0 0) ⟨#[]⟩) hb1; have L1 := R0.1; have R1 := R0.2; have d1 := R1.cells; have f1 := R1.loose; clear R0) | (have R0 := mgl (ty := 29) (g := 0) (u := 0) (f := .slice none 0 0) (t := ⟨#[]⟩) (by assumption) hb1; have L1 := R0.1; have R1 := R0.2; have d1 := R1.cells; have f1 := R1.loose; clear R0) | skip); have P1 := hid (Ow.rs ho1).2; clear ho1)
        | (go_at_call 10; (with_reducible refine (toMail_any g' u' bo nb cb m t' _ HLB.out HNB.out (HR'w18.out.later (by repeat (first | exact bre _ | refine bdr ?_ | refine btr ?_ (by assumption) | refine bpush ?_ _ | refine bset' ?_ ?_ _ _)))).mono ?_); rintro e v2 ⟨k2, rfl, ho2, hk2, hb2⟩; (first | (have R0 := mgl (Mg.newd _ 29 0 0 (.slice none 0 0) ⟨#[]⟩) hb2; have L1 := R0.1; have R1 := R0.2; have d1 := R1.cells; have f1 := R1.loose; clear R0) | (have R0 := mgl (Mg.new _ 29 0 0 (.slice none 0 0) ⟨#[]⟩) hb2; have L1 := R0.1; have R1 := R0.2; have d1 := R1.cells; have f1 := R1.loose; clear R0) | (have R0 := mgl (ty := 29) (g := 0) (u := 0) (f := .slice none 0 0) (t := ⟨#[]⟩) (by assumption) hb2; have L1 := R0.1; have R1 := R0.2; have d1 := R1.cells; have f1 := R1.loose; clear R0) | skip); have P2 := hid (Ow.rs ho2).2; have P1' := hid (P1.out.later (W' := v2) (by repeat (first | exact bre _ | refine bdr ?_ | refine btr ?_ (by assumption) | refine bpush ?_ _ | refine bset' ?_ ?_ _ _))); clear ho2)
        | (go_at_call 16; (with_reducible refine (implJoinMail_any g u _ na na l t g' u' _ nb nb m t' _ HLA.out HLB.out HNA.out HNB.out HTA.out HTB.out (P1'.out.later (by repeat (first | exact bre _ | refine bdr ?_ | refine btr ?_ (by assumption) | refine bpush ?_ _ | refine bset' ?_ ?_ _ _))) (P2.out.later (by repeat (first | exact bre _ | refine bdr ?_ | refine btr ?_ (by assumption) | refine bpush ?_ _ | refine bset' ?_ ?_ _ _))) (by intro h; cases h)).mono ?_); rintro e v3 ⟨v, rfl, ho3, hb3⟩; (first | (have R0 := mgl (Mg.newd _ 29 0 0 (.slice none 0 0) ⟨#[]⟩) hb3; have L1 := R0.1; have R1 := R0.2; have d1 := R1.cells; have f1 := R1.loose; clear R0) | (have R0 := mgl (Mg.new _ 29 0 0 (.slice none 0 0) ⟨#[]⟩) hb3; have L1 := R0.1; have R1 := R0.2; have d1 := R1.cells; have f1 := R1.loose; clear R0) | (have R0 := mgl (ty := 29) (g := 0) (u := 0) (f := .slice none 0 0) (t := ⟨#[]⟩) (by assumption) hb3; have L1 := R0.1; have R1 := R0.2; have d1 := R1.cells; have f1 := R1.loose; clear R0) | skip); obtain ⟨a3, c3, hv3, _⟩ := Ow.shape ho3; rw [EL.out] at ho3 hv3; rw [EN.out] at hv3; subst hv3; rw [EU.out, ET.out]; have HO3 := hid ho3; clear ho3)))
    all_goals (try go_wp2_with fail)
    all_goals go_meet
    all_goals
      refine ⟨_, a3, c3, rfl, ?_, ?_, ?_, ?_⟩
      · first | exact Nat.le_refl _ | (refine Below.size (B := w18.heap.size) ?_; repeat (first | exact bre _ | refine bdr ?_ | refine btr ?_ (by assumption) | refine bpush ?_ _ | refine bset' ?_ ?_ _ _))
      · first | with_reducible exact set4 (by assumption) _ _ _ _ | with_reducible exact Mg.new _ _ _ _ _ _
      · first | exact own_base (own_later HO3.out (bpush (bre _) _)) (by first | exact Nat.le_refl _ | (refine Below.size (B := w18.heap.size) ?_; repeat (first | exact bre _ | refine bdr ?_ | refine btr ?_ (by assumption) | refine bpush ?_ _ | refine bset' ?_ ?_ _ _))) | exact own_base (own4 HO3.out L1 _ _ _ _) (by first | exact Nat.le_refl _ | (refine Below.size (B := w18.heap.size) ?_; repeat (first | exact bre _ | refine bdr ?_ | refine btr ?_ (by assumption) | refine bpush ?_ _ | refine bset' ?_ ?_ _ _)))
      · repeat (first | exact bre _ | refine bdr ?_ | refine btr ?_ (by assumption) | refine bpush ?_ _ | refine bset' ?_ ?_ _ _)
  case rest =>
  obtain ⟨kh, ah, ch, rfl, hkh, mh, oh, bh⟩ := hcut
  have H19 := hid mh
  have OH19 := hid oh
  have G19 := hid (G18.out.later bh)
  have V19 := hid (V18.out.later bh)
  have OG19 := hid (own_later OG18.out bh)
  have OV19 := hid (own_later OV18.out bh)
  have B19 := hid (btr B18.out bh)
  clear hkh mh oh bh HS31 HRw18 HR'w18 B18 G18 V18 OG18 OV18
  have e0 := H19.out.cells
  have e2 := V19.out.cells
  go_wp2_with fail
  refine (eqMail_same g xu _ _ N ch cw L y _ EN.out HN.out (Ow.rs OH19.out).2 (Ow.rs OV19.out).2).mono ?_; rintro e w20 ⟨rfl, hb⟩
  have G20 := hid (G19.out.later hb)
  have OG20 := hid (own_later OG19.out hb)
  have B20 := hid (btr B19.out hb)
  clear e0 e2 hb G19 V19 H19 OG19 OV19 OH19 B19
  have e0 := G20.out.cells
  go_wp2_with fail
  refine (HH.out _ _ OG20.out).mono ?_; rintro e w21 ⟨rfl, hb⟩
  have B21 := hid (btr B20.out hb)
  clear e0 hb G20 OG20
  go_wp2_with fail
  go_ret
  exact ⟨rfl, btr B0.out B21.out⟩
end Go.Proofs.Ytjnpohbljjlical
