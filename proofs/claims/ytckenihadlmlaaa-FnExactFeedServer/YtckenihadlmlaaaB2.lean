/- Me. -/
import Derived.Test.YtckenihadlmlaaaB1
namespace Go.Proofs.Ytckenihadlmlaaa
open Go.RowKit
/-- Block k holds a mail. -/
def Mg (W : World) (k ty : Nat) (g u : Int) (f : Value) (t : ByteArray) : Prop := W.heap[k]? = some (.cells #[.int .i64 g, .int .i64 u, f, .string t] ty (0, 0))
theorem Mg.new (w : World) (ty : Nat) (g u : Int) (f : Value) (t : ByteArray) : Mg (w.alloc (.cells #[.int .i64 g, .int .i64 u, f, .string t] ty)) w.heap.size ty g u f t := heap_alloc_new w _
theorem Mg.later {W W' : World} {k ty : Nat} {g u : Int} {f : Value} {t : ByteArray} (h : Mg W k ty g u f t) (hb : Below W.heap.size W W') : Mg W' k ty g u f t := (hb.block k (Array.getElem?_eq_some_iff.1 h).1).trans h
theorem Mg.lt {W : World} {k ty : Nat} {g u : Int} {f : Value} {t : ByteArray} (h : Mg W k ty g u f t) : k < W.heap.size := (Array.getElem?_eq_some_iff.1 h).1
theorem Mg.cells {W : World} {k ty : Nat} {g u : Int} {f : Value} {t : ByteArray} (h : Mg W k ty g u f t) : W.cell? ⟨k, 0, none⟩ = some (.int .i64 g) ∧ W.cell? ⟨k, 1, none⟩ = some (.int .i64 u) ∧ W.cell? ⟨k, 2, none⟩ = some f ∧ W.cell? ⟨k, 3, none⟩ = some (.string t) :=
  ⟨cell_of_row W k 0 _ _ _ h, cell_of_row W k 1 _ _ _ h, cell_of_row W k 2 _ _ _ h, cell_of_row W k 3 _ _ _ h⟩
theorem Mg.loose {W : World} {k ty : Nat} {g u : Int} {f : Value} {t : ByteArray} (h : Mg W k ty g u f t) : W.frozen? ⟨k, 0, none⟩ = false ∧ W.frozen? ⟨k, 1, none⟩ = false ∧ W.frozen? ⟨k, 2, none⟩ = false ∧ W.frozen? ⟨k, 3, none⟩ = false :=
  ⟨frozen_of_row W k 0 _ _ h, frozen_of_row W k 1 _ _ h, frozen_of_row W k 2 _ _ h, frozen_of_row W k 3 _ _ h⟩
theorem Mg.s0 {W : World} {k ty : Nat} {g u : Int} {f : Value} {t : ByteArray} (h : Mg W k ty g u f t) (g' : Int) : Mg (W.setCell ⟨k, 0, none⟩ (.int .i64 g')) k ty g' u f t := heap_setCell_same W k 0 _ _ (.int .i64 g') h
theorem Mg.s1 {W : World} {k ty : Nat} {g u : Int} {f : Value} {t : ByteArray} (h : Mg W k ty g u f t) (u' : Int) : Mg (W.setCell ⟨k, 1, none⟩ (.int .i64 u')) k ty g u' f t := heap_setCell_same W k 1 _ _ (.int .i64 u') h
theorem Mg.s2 {W : World} {k ty : Nat} {g u : Int} {f : Value} {t : ByteArray} (h : Mg W k ty g u f t) (f' : Value) : Mg (W.setCell ⟨k, 2, none⟩ f') k ty g u f' t := heap_setCell_same W k 2 _ _ f' h
theorem Mg.s3 {W : World} {k ty : Nat} {g u : Int} {f : Value} {t : ByteArray} (h : Mg W k ty g u f t) (t' : ByteArray) : Mg (W.setCell ⟨k, 3, none⟩ (.string t')) k ty g u f t' := heap_setCell_same W k 3 _ _ (.string t') h
/-- A store into another block. -/
theorem heap_setCell_far {W : World} {k j i : Nat} {o : Obj} (u : Value) (h : W.heap[k]? = some o) (hk : k ≠ j) : (W.setCell ⟨j, i, none⟩ u).heap[k]? = some o := (Below.heap_setCell _ _ _ _ hk).trans h
theorem Mg.far {W : World} {k j i ty : Nat} {g u : Int} {f : Value} {t : ByteArray} (h : Mg W k ty g u f t) (x : Value) (hk : k ≠ j) : Mg (W.setCell ⟨j, i, none⟩ x) k ty g u f t := heap_setCell_far x h hk
theorem bsk {a w : World} (h : Below a.heap.size a w) {k : Nat} (hk : a.heap.size ≤ k) (i : Nat) (x : Value) : Below a.heap.size a (w.setCell ⟨k, i, none⟩ x) := bset h hk x
theorem Ow.other {W W' : World} {B g n c k : Nat} {l : List R3} (h : Ow W B (.slice (some ⟨g, 0, none⟩) n c) l) (hg : W.grownBy W' (some k)) (hk : g ≠ k) : Ow W' B (.slice (some ⟨g, 0, none⟩) n c) l :=
  World.ownsRow.kept h hg (Or.inr (by simpa [Value.ownBlock] using hk))
theorem Ow.far {W : World} {B g n c j : Nat} {l : List R3} (h : Ow W B (.slice (some ⟨g, 0, none⟩) n c) l) (hk : g ≠ j) (i : Nat) (x : Value) : Ow (W.setCell ⟨j, i, none⟩ x) B (.slice (some ⟨g, 0, none⟩) n c) l :=
  h.other (wst (wre W (some j)) i x) hk
end Go.Proofs.Ytckenihadlmlaaa
namespace Go.Proofs.Ytckenihadlmlaaa
open Go.RowKit
/-- Three blocks: a mail as it came in, and two that are new. -/
theorem three_mails (w : World) (ta tb tc : Nat) (g u g1 u1 g2 u2 : Int) (f f1 f2 : Value) (t t1 t2 : ByteArray) (W0 : World) (h : (((w.alloc (.cells #[.int .i64 g, .int .i64 u, f, .string t] ta)).alloc (.cells #[.int .i64 g1, .int .i64 u1, f1, .string t1] tb)).alloc (.cells #[.int .i64 g2, .int .i64 u2, f2, .string t2] tc)) = W0) :
    Mg W0 w.heap.size ta g u f t ∧ Mg W0 (w.heap.size + 1) tb g1 u1 f1 t1 ∧ Mg W0 (w.heap.size + 1 + 1) tc g2 u2 f2 t2 ∧ Below w.heap.size w W0 := by
  subst h
  exact ⟨(Mg.new w ta g u f t).later (bpush (bpush (bre _) _) _), Mg.later (by simpa using Mg.new (w.alloc (.cells #[.int .i64 g, .int .i64 u, f, .string t] ta)) tb g1 u1 f1 t1) (bpush (bre _) _),
    by simpa using Mg.new ((w.alloc (.cells #[.int .i64 g, .int .i64 u, f, .string t] ta)).alloc (.cells #[.int .i64 g1, .int .i64 u1, f1, .string t1] tb)) tc g2 u2 f2 t2, bpush (bpush (bpush (bre _) _) _) _⟩
set_option maxHeartbeats 400000 in
set_option maxRecDepth 100000 in
theorem toMail_any (g u : Int) (ao : Option Addr) (n cap : Nat) (l : List R3) (t : ByteArray) (w : World) (hl : l.length = n) (hn : n ≤ 1048576) (hr : Rs w ao l) :
    Calls Try.prog 92 #[.agg #[.int .i64 g, .int .i64 u, .slice ao n cap, .string t]] w fun e w' => ∃ k, e = .returned (.agg #[.int .i64 g, .int .i64 u, .slice (some ⟨k, 0, none⟩) n n, .string t]) ∧ Ow w' k (.slice (some ⟨k, 0, none⟩) n n) l ∧ w.heap.size ≤ k ∧ Below w.heap.size w w' := by
  obtain ⟨W0, hW0⟩ : ∃ W0, (((w.alloc (.cells #[.int .i64 g, .int .i64 u, .slice ao n cap, .string t] 131)).alloc (.cells #[.int .i64 0, .int .i64 0, .slice none 0 0, .string ⟨#[]⟩] 115)).alloc (.cells #[.int .i64 0, .int .i64 0, .slice none 0 0, .string ⟨#[]⟩] 115)) = W0 := ⟨_, rfl⟩
  obtain ⟨a0, a1, a2, b0⟩ := three_mails w _ _ _ _ _ _ _ _ _ _ _ _ _ _ _ W0 hW0
  have A0 := hid a0
  have A1 := hid a1
  have A2 := hid a2
  have B0 := hid b0
  have HR := hid hr
  have HL := hid hl
  have HN := hid hn
  have c0 := a0.cells
  have c2 := a2.cells
  have f2 := a2.loose
  have hsz : W0.heap.size = w.heap.size + 1 + 1 + 1 := by rw [← hW0]; simp
  have HSZ := hid hsz
  clear a0 a1 a2 b0 hr hl hn hsz
  go_enter Try.func92, Try.ntmps92
  go_wp2_with fail
  clear hW0
  obtain ⟨W1, hW1⟩ : ∃ W1, (W0.setCell ⟨w.heap.size + 1 + 1, 0, none⟩ (.int .i64 g)).setCell ⟨w.heap.size + 1 + 1, 1, none⟩ (.int .i64 u) = W1 := ⟨_, rfl⟩
  rw [hW1]
  have M2 : Hid (Mg W1 (w.heap.size + 1 + 1) 115 g u (.slice none 0 0) ⟨#[]⟩) := by subst hW1; exact (A2.out.s0 g).s1 u
  have M1 : Hid (Mg W1 (w.heap.size + 1) 115 0 0 (.slice none 0 0) ⟨#[]⟩) := by subst hW1; exact (A1.out.far _ (by omega)).far _ (by omega)
  have M0 : Hid (Mg W1 w.heap.size 131 g u (.slice ao n cap) t) := by subst hW1; exact (A0.out.far _ (by omega)).far _ (by omega)
  have B1 : Hid (Below w.heap.size w W1) := by subst hW1; exact bsk (bsk B0.out (by omega) _ _) (by omega) _ _
  clear hW1 c0 c2 f2 A1 A2 B0
  refine (toS_any ao n cap l W1 HL.out HN.out (HR.out.later B1.out)).mono ?_; rintro e w1 ⟨rfl, hown, hb⟩
  have m1 := M1.out.later hb
  have m2 := M2.out.later hb
  have c0 := (M0.out.later hb).cells
  have c1 := m1.cells
  have f1 := m1.loose
  have c2 := m2.cells
  have f2 := m2.loose
  have E1 := hid m1
  have E2 := hid m2
  have HO := hid hown
  have HB := hid (btr B1.out hb)
  have HS := hid B1.out.size
  have L2 := hid M2.out.lt
  clear m1 m2 hown hb
  go_wp2
  have k2 := (E2.out.s2 (.slice (some ⟨W1.heap.size, 0, none⟩) n n)).s3 t
  have k1 := ((((E1.out.far (.slice (some ⟨W1.heap.size, 0, none⟩) n n) (j := w.heap.size + 1 + 1) (i := 2) (by omega)).far (.string t) (j := w.heap.size + 1 + 1) (i := 3) (by omega)).s0 g).s1 u).s2 (.slice (some ⟨W1.heap.size, 0, none⟩) n n) |>.s3 t
  have d1 := k1.cells
  refine bodyPost_ret (v := .agg #[.int .i64 g, .int .i64 u, .slice (some ⟨W1.heap.size, 0, none⟩) n n, .string t]) (by simp [results, Try.results92, go_sem, d1]) rfl ⟨_, rfl, ?_, HS.out, ?_⟩
  · have h2 := L2.out
    exact (((((HO.out.far (by omega) 2 _).far (by omega) 3 _).far (by omega) 0 _).far (by omega) 1 _).far (by omega) 2 _).far (by omega) 3 _
  · exact bsk (bsk (bsk (bsk (bsk (bsk HB.out (by omega) _ _) (by omega) _ _) (by omega) _ _) (by omega) _ _) (by omega) _ _) (by omega) _ _
theorem szMail_over (g u : Int) (ao : Option Addr) (n cap : Nat) (t : ByteArray) (lf : Int) (w : World) (hn : (n : Int) ≤ 9223372036854775807) (ht : (t.size : Int) ≤ 9223372036854775807) (hl : 0 ≤ lf ∧ lf ≤ 1048576) (h : lf < (n : Int) + t.size) :
    Calls Try.prog 90 #[.agg #[.int .i64 g, .int .i64 u, .slice ao n cap, .string t], .int .i64 lf] w fun e w' => e = .returned (.int .i64 (-1)) ∧ Below w.heap.size w w' := by
  have A0 := (Mg.new w 131 g u (.slice ao n cap) t).cells
  by_cases h1 : lf < (n : Int)
  · go_enter Try.func90, Try.ntmps90
    go_wp2_with fail
    refine (sz_over ao n cap lf _ hn hl h1).mono ?_; rintro e w1 ⟨rfl, h1⟩
    subst h1
    go_wp2
    go_ret
    exact ⟨rfl, bpush (bre _) _⟩
  · have H1 := hid h1
    go_enter Try.func90, Try.ntmps90
    go_wp2_with fail
    refine (sz_fits ao n cap lf _ hn hl (by have := H1.out; omega)).mono ?_; rintro e w1 ⟨rfl, h2⟩
    subst h2
    obtain ⟨m, hm⟩ : ∃ m : Int, lf - n = m := ⟨_, rfl⟩
    rw [hm]
    have h1 := H1.out
    have h3 : ¬ m < 0 := by omega
    have h4 : m - (t.size : Int) < 0 := by omega
    have h5 : m ≤ 1048576 := by omega
    clear hm h h1
    go_wp2
    go_ret
    exact ⟨rfl, bpush (bre _) _⟩
theorem szMail_fits (g u : Int) (ao : Option Addr) (n cap : Nat) (t : ByteArray) (lf : Int) (w : World) (hn : (n : Int) ≤ 9223372036854775807) (ht : (t.size : Int) ≤ 9223372036854775807) (hl : 0 ≤ lf ∧ lf ≤ 1048576) (h : ¬ lf < (n : Int) + t.size) :
    Calls Try.prog 90 #[.agg #[.int .i64 g, .int .i64 u, .slice ao n cap, .string t], .int .i64 lf] w fun e w' => e = .returned (.int .i64 (lf - n - t.size)) ∧ Below w.heap.size w w' := by
  have A0 := (Mg.new w 131 g u (.slice ao n cap) t).cells
  have H1 : Hid (¬ lf < (n : Int)) := by show ¬ _; omega
  go_enter Try.func90, Try.ntmps90
  go_wp2_with fail
  refine (sz_fits ao n cap lf _ hn hl (by have := H1.out; omega)).mono ?_; rintro e w1 ⟨rfl, h2⟩
  subst h2
  obtain ⟨m, hm⟩ : ∃ m : Int, lf - n = m := ⟨_, rfl⟩
  rw [hm]
  have h1 := H1.out
  have h3 : ¬ m < 0 := by omega
  have h4 : ¬ m - (t.size : Int) < 0 := by omega
  have h5 : m ≤ 1048576 := by omega
  have HM := hid hm
  clear hm h h1
  go_wp2
  go_ret
  exact ⟨by rw [HM.out]; rfl, bpush (bre _) _⟩
/-- Two blocks: two mails. -/
theorem two_mails (w : World) (ta tb : Nat) (g u g1 u1 : Int) (f f1 : Value) (t t1 : ByteArray) (W0 : World) (h : ((w.alloc (.cells #[.int .i64 g, .int .i64 u, f, .string t] ta)).alloc (.cells #[.int .i64 g1, .int .i64 u1, f1, .string t1] tb)) = W0) :
    Mg W0 w.heap.size ta g u f t ∧ Mg W0 (w.heap.size + 1) tb g1 u1 f1 t1 ∧ Below w.heap.size w W0 := by
  subst h
  exact ⟨(Mg.new w ta g u f t).later (bpush (bre _) _), by simpa using Mg.new (w.alloc (.cells #[.int .i64 g, .int .i64 u, f, .string t] ta)) tb g1 u1 f1 t1, bpush (bpush (bre _) _) _⟩
set_option maxRecDepth 100000 in
theorem eqMail_same (g u : Int) (ao bo : Option Addr) (n ca cb : Nat) (l : List R3) (t : ByteArray) (w : World) (hl : l.length = n) (hn : n ≤ 1048576) (ha : Rs w ao l) (hb : Rs w bo l) :
    Calls Try.prog 89 #[.agg #[.int .i64 g, .int .i64 u, .slice ao n ca, .string t], .agg #[.int .i64 g, .int .i64 u, .slice bo n cb, .string t]] w fun e w' => e = .returned (.bool true) ∧ Below w.heap.size w w' := by
  obtain ⟨W0, hW0⟩ : ∃ W0, ((w.alloc (.cells #[.int .i64 g, .int .i64 u, .slice ao n ca, .string t] 115)).alloc (.cells #[.int .i64 g, .int .i64 u, .slice bo n cb, .string t] 115)) = W0 := ⟨_, rfl⟩
  obtain ⟨a0, a1, b0⟩ := two_mails w _ _ _ _ _ _ _ _ _ _ W0 hW0
  have A0 := hid a0
  have A1 := hid a1
  have B0 := hid b0
  have HA := hid ha
  have HB := hid hb
  have HL := hid hl
  have HN := hid hn
  have c0 := a0.cells
  have c1 := a1.cells
  have e1 : (g != g) = false := by simp
  have e2 : (u != u) = false := by simp
  clear a0 a1 b0 ha hb hl hn
  go_enter Try.func89, Try.ntmps89
  go_wp2_with fail
  clear hW0
  refine (eqRS_any ao bo n ca cb l _ HL.out HN.out (HA.out.later B0.out) (HB.out.later B0.out)).mono ?_; rintro e w1 ⟨rfl, hb⟩
  have d0 := (A0.out.later hb).cells
  have d1 := (A1.out.later hb).cells
  have HB1 := hid (btr B0.out hb)
  clear c0 c1 hb
  go_wp2
  go_ret
  exact ⟨rfl, HB1.out⟩
end Go.Proofs.Ytckenihadlmlaaa
namespace Go.Proofs.Ytckenihadlmlaaa
open Go.RowKit
end Go.Proofs.Ytckenihadlmlaaa
namespace Go.Proofs.Ytckenihadlmlaaa
open Go.RowKit
set_option maxHeartbeats 400000 in
set_option maxRecDepth 100000 in
theorem cloneRg_any (ao : Option Addr) (n cap : Nat) (l : List R3) (w : World) (hl : l.length = n) (hn : n ≤ 1048576) (hr : Rs w ao l) (h0 : ao = none → cap = 0) :
    Calls Try.prog 93 #[.slice ao n cap] w fun e w' => ∃ v, e = .returned v ∧ Ow w' w.heap.size v l ∧ Below w.heap.size w w' := by
  have HR := hid hr
  have HL := hid hl
  have HN := hid hn
  clear hr hl hn
  cases ao with
  | none =>
    have hn0 : n = 0 := by
      by_cases h : 0 < n
      · obtain ⟨_, _, h1, _⟩ := HR.out (by rw [HL.out]; exact h)
        cases h1
      · omega
    subst hn0
    obtain rfl := h0 rfl
    have hle : l = [] := List.eq_nil_of_length_eq_zero HL.out
    subst hle
    clear h0
    have hnil : ∀ W, (binOp .eql 113 (.slice none 0 0) (.slice none 0 0)).run Try.prog W = .ok (.bool true) W := fun W => Lib.run_eql_slice_nil_nil W 0 0 Try.underlying113
    go_enter Try.func93, Try.ntmps93
    go_wp2
    go_ret
    exact ⟨_, rfl, ⟨rfl, .inl ⟨rfl, rfl⟩⟩, bre _⟩
  | some ad =>
    clear h0
    obtain ⟨i0, hi, hz0, hz1, hz2⟩ := info_parts3 info_rg
    have HSRC : Hid (∀ j u, (fl l)[j]? = some u → (w.alloc (.cells #[] 127)).cell? (ad.add j) = some u) := by
      intro j u hu
      have hj : j < (fl l).length := (List.getElem?_eq_some_iff.1 hu).1
      rw [fl_len] at hj
      obtain ⟨k, o, h1, h2, h3⟩ := (HR.out.later (bpush (bre _) _)) (by omega)
      simp only [Option.some.injEq] at h1
      subst h1
      exact h3.all j u hu
    have hnil : ∀ W, (binOp .eql 113 (.slice (some ad) n cap) (.slice none 0 0)).run Try.prog W = .ok (.bool false) W := fun W => Lib.run_eql_slice_some_nil W ad n cap Try.underlying113
    go_enter Try.func93, Try.ntmps93
    go_wp2_with (at_builtin; refine wpList_append_own _ rfl (.tmp 5) (.tmp 6) 113 rfl w.heap.size 127 i0 _ 3 24 Try.underlying113 hi hz0 hz1 hz2 rfl (by decide) _ 0 [] (by rfl) (own_empty w _ (Nat.le_refl _)) ad n cap (fl l) (by rfl) (by rw [fl_len, HL.out]) HSRC.out (fl_one l) (by have := HN.out; unfold maxLen; omega) (by have := HN.out; omega) (by simp) ?_; intro v1 w1 hown1 hg1 _)
    go_ret
    exact ⟨_, rfl, by simpa [Ow, HL.out] using hown1, (bpush (bre _) _).grown hg1 (by simp) (by intro k hk; simp [Value.ownBlock] at hk; omega)⟩
end Go.Proofs.Ytckenihadlmlaaa
namespace Go.Proofs.Ytckenihadlmlaaa
open Go.RowKit
/-- An owned row, where another block below its base is stored into. -/
theorem own_far {W : World} {B j : Nat} {v : Value} {l : List R3} (h : Ow W B v l) (hj : j < B) (i : Nat) (x : Value) : Ow (W.setCell ⟨j, i, none⟩ x) B v l :=
  World.ownsRow.kept h (wst (wre W (some j)) i x) (by
    cases hv : v.ownBlock with
    | none => exact Or.inl rfl
    | some k => right; have := (World.ownsRow.lt h k hv).1; intro e; simp at e; omega)
set_option maxHeartbeats 400000 in
set_option maxRecDepth 100000 in
theorem l05Copy_any (g u : Int) (ao : Option Addr) (n cap : Nat) (l : List R3) (t : ByteArray) (w : World) (hl : l.length = n) (hn : n ≤ 1048576) (ht : t.size ≤ 1048576) (hr : Rs w ao l) (h0 : ao = none → cap = 0) :
    Calls Try.prog 82 #[.agg #[.int .i64 g, .int .i64 u, .slice ao n cap, .string t]] w fun e w' => ∃ v, e = .returned (.agg #[.int .i64 g, .int .i64 u, v, .string t]) ∧ Ow w' w.heap.size v l ∧ Below w.heap.size w w' := by
  obtain ⟨W0, hW0⟩ : ∃ W0, ((w.alloc (.cells #[.int .i64 g, .int .i64 u, .slice ao n cap, .string t] 115)).alloc (.cells #[.int .i64 0, .int .i64 0, .slice none 0 0, .string ⟨#[]⟩] 115)) = W0 := ⟨_, rfl⟩
  obtain ⟨a0, a1, b0⟩ := two_mails w _ _ _ _ _ _ _ _ _ _ W0 hW0
  have A0 := hid a0
  have A1 := hid a1
  have B0 := hid b0
  have HR := hid (hr.later b0)
  have HL := hid hl
  have HN := hid hn
  have H0 := hid h0
  have HT := hid ht
  have c0 := a0.cells
  have f0 := a0.loose
  clear a0 a1 b0 hr hl hn h0 ht
  go_enter Try.func82, Try.ntmps82
  go_wp2_with fail
  clear hW0
  refine (l04Copy_any ao n cap l _ HL.out HN.out HR.out H0.out).mono ?_; rintro e w1 ⟨v, rfl, hown, hb⟩
  obtain ⟨av, cv, hv, _⟩ := Ow.shape hown
  rw [HL.out] at hv
  subst hv
  have X0 := hid (A0.out.later hb)
  have X1 := hid (A1.out.later hb)
  have d0 := X0.out.cells
  have g0 := X0.out.loose
  have d1 := X1.out.cells
  have g1 := X1.out.loose
  have HO := hid hown
  have B1 := hid (btr B0.out hb)
  clear c0 f0 hown hb
  go_wp2
  have k1 := ((((X1.out.far (.slice av n cv) (j := w.heap.size) (i := 2) (by omega)).s0 g).s1 u).s2 (.slice av n cv)).s3 t
  have d1 := k1.cells
  refine bodyPost_ret (v := .agg #[.int .i64 g, .int .i64 u, .slice av n cv, .string t]) (by simp [results, Try.results82, go_sem, d1]) rfl ⟨_, rfl, ?_, ?_⟩
  · have hs := A1.out.lt
    exact own_base (own_far (own_far (own_far (own_far (own_far HO.out (by omega) 2 _) (by omega) 0 _) (by omega) 1 _) (by omega) 2 _) (by omega) 3 _) (by omega)
  · exact bsk (bsk (bsk (bsk (bsk B1.out (by omega) _ _) (by omega) _ _) (by omega) _ _) (by omega) _ _) (by omega) _ _
set_option maxHeartbeats 400000 in
set_option maxRecDepth 100000 in
theorem copyOf_any (g u : Int) (ao : Option Addr) (n cap : Nat) (l : List R3) (t : ByteArray) (w : World) (hl : l.length = n) (hn : n ≤ 1048576) (ht : t.size ≤ 1048576) (hr : Rs w ao l) (h0 : ao = none → cap = 0) :
    Calls Try.prog 86 #[.agg #[.int .i64 g, .int .i64 u, .slice ao n cap, .string t]] w fun e w' => ∃ v, e = .returned (.agg #[.int .i64 g, .int .i64 u, v, .string t]) ∧ Ow w' w.heap.size v l ∧ Below w.heap.size w w' := by
  obtain ⟨W0, hW0⟩ : ∃ W0, ((w.alloc (.cells #[.int .i64 g, .int .i64 u, .slice ao n cap, .string t] 115)).alloc (.cells #[.int .i64 0, .int .i64 0, .slice none 0 0, .string ⟨#[]⟩] 115)) = W0 := ⟨_, rfl⟩
  obtain ⟨a0, a1, b0⟩ := two_mails w _ _ _ _ _ _ _ _ _ _ W0 hW0
  have A0 := hid a0
  have A1 := hid a1
  have B0 := hid b0
  have HR := hid (hr.later b0)
  have HL := hid hl
  have HN := hid hn
  have H0 := hid h0
  have HT := hid ht
  have c0 := a0.cells
  have f0 := a0.loose
  clear a0 a1 b0 hr hl hn h0 ht
  go_enter Try.func86, Try.ntmps86
  go_wp2_with fail
  clear hW0
  refine (cloneRg_any ao n cap l _ HL.out HN.out HR.out H0.out).mono ?_; rintro e w1 ⟨v, rfl, hown, hb⟩
  obtain ⟨av, cv, hv, _⟩ := Ow.shape hown
  rw [HL.out] at hv
  subst hv
  have X0 := hid (A0.out.later hb)
  have X1 := hid (A1.out.later hb)
  have d0 := X0.out.cells
  have g0 := X0.out.loose
  have d1 := X1.out.cells
  have g1 := X1.out.loose
  have HO := hid hown
  have B1 := hid (btr B0.out hb)
  clear c0 f0 hown hb
  go_wp2_with fail
  have X0' := hid (X0.out.s2 (.slice av n cv))
  have X1' := hid (X1.out.far (.slice av n cv) (j := w.heap.size) (i := 2) (by omega))
  have hs := A1.out.lt
  have HO' := hid (own_far HO.out (j := w.heap.size) (by omega) 2 (.slice av n cv))
  have B1' := hid (bsk B1.out (Nat.le_refl _) 2 (.slice av n cv))
  refine (clone_any t _ HT.out).mono ?_; rintro e w2 ⟨rfl, hb⟩
  have Y0 := hid (X0'.out.later hb)
  have Y1 := hid (X1'.out.later hb)
  have HO2 := hid (own_later HO'.out hb)
  have B2 := hid (btr B1'.out hb)
  clear d0 d1 g0 g1 hb
  have d0 := Y0.out.cells
  have g0 := Y0.out.loose
  have d1 := Y1.out.cells
  have g1 := Y1.out.loose
  go_wp2
  have k1 := ((((Y1.out.far (.string t) (j := w.heap.size) (i := 3) (by omega)).s0 g).s1 u).s2 (.slice av n cv)).s3 t
  have d1 := k1.cells
  refine bodyPost_ret (v := .agg #[.int .i64 g, .int .i64 u, .slice av n cv, .string t]) (by simp [results, Try.results86, go_sem, d1]) rfl ⟨_, rfl, ?_, ?_⟩
  · exact own_base (own_far (own_far (own_far (own_far (own_far HO2.out (by omega) 3 _) (by omega) 0 _) (by omega) 1 _) (by omega) 2 _) (by omega) 3 _) (by omega)
  · exact bsk (bsk (bsk (bsk (bsk B2.out (by omega) _ _) (by omega) _ _) (by omega) _ _) (by omega) _ _) (by omega) _ _
end Go.Proofs.Ytckenihadlmlaaa
namespace Go.Proofs.Ytckenihadlmlaaa
open Go.RowKit
end Go.Proofs.Ytckenihadlmlaaa
namespace Go.Proofs.Ytckenihadlmlaaa
open Go.RowKit
theorem Mg.grown {W W' : World} {k ty : Nat} {g u : Int} {f : Value} {t : ByteArray} {r : Option Nat} (h : Mg W k ty g u f t) (hg : W.grownBy W' r) (hk : some k ≠ r) : Mg W' k ty g u f t := (hg.block k h.lt hk).trans h
theorem markRS_zero (a : Option Addr) (cap k : Nat) (w : World) :
    Calls Try.prog 79 #[.slice a 0 cap, .int .i64 (k : Int)] w fun e w' => e = .returned (.int .i64 (k : Int)) ∧ w' = w := by
  go_enter Try.func79, Try.ntmps79
  go_wp2
  go_loop [1, 5] (fun kv iv => kv = .int .i64 (k : Int) ∧ iv = .int .i64 0) (fun _ _ => 0)
  case atStart => exact ⟨rfl, rfl⟩
  case round =>
    obtain ⟨rfl, rfl⟩ := hrel
    go_wp2
    go_ret
    exact ⟨rfl, rfl⟩
theorem heldRS_zero (a : Option Addr) (cap k : Nat) (w : World) :
    Calls Try.prog 80 #[.slice a 0 cap, .int .i64 (k : Int)] w fun e w' => e = .returned (.int .i64 (k : Int)) ∧ w' = w := by
  go_enter Try.func80, Try.ntmps80
  go_wp2
  go_loop [1, 5] (fun kv iv => kv = .int .i64 (k : Int) ∧ iv = .int .i64 0) (fun _ _ => 0)
  case atStart => exact ⟨rfl, rfl⟩
  case round =>
    obtain ⟨rfl, rfl⟩ := hrel
    go_wp2
    go_ret
    exact ⟨rfl, rfl⟩
theorem own_some {W : World} {B n c : Nat} {a : Option Addr} {l : List R3} (h : Ow W B (.slice a n c) l) (hn : 0 < n) : ∃ g, a = some ⟨g, 0, none⟩ := by
  rcases h.2 with ⟨h1, h2⟩ | ⟨g, cap, cur, h1, _⟩
  · simp only [Value.slice.injEq] at h1
    omega
  · simp only [Value.slice.injEq] at h1
    exact ⟨g, h1.1⟩
theorem own_kept {W W' : World} {B : Nat} {v : Value} {l : List R3} {r : Option Nat} (h : Ow W B v l) (hg : W.grownBy W' r) (hne : ∀ j, v.ownBlock = some j → r ≠ some j) : Ow W' B v l :=
  World.ownsRow.kept h hg (by
    cases hv : v.ownBlock with
    | none => exact Or.inl rfl
    | some j => exact Or.inr (fun e => hne j hv e.symm))
theorem below_grownR {B : Nat} {a w : World} {r : Option Nat} (h : a.grownBy w r) (hB : ∀ j, r = some j → B ≤ j) (hs : B ≤ a.heap.size) : Below B a w :=
  ⟨h.os, h.tape, h.output, h.size, fun k hk => h.block k (by omega) (fun e => by have := hB k e.symm; omega)⟩
end Go.Proofs.Ytckenihadlmlaaa
namespace Go.Proofs.Ytckenihadlmlaaa
open Go.RowKit
end Go.Proofs.Ytckenihadlmlaaa
