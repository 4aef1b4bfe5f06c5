/- Me, Mf, MailTx, MailRd. -/
import Derived.Test.YtdkedgedkgabnaaGreatDoorR2
namespace Go.Proofs.YtdkedgedkgabnaaGreatDoor
open Go.RowKit
def Mg (W : World) (k ty : Nat) (g u : Int) (f : Value) (t : ByteArray) : Prop := W.heap[k]? = some (.cells #[.int .i64 g, .int .i64 u, f, .string t] ty (0, 0))
theorem Mg.new (w : World) (ty : Nat) (g u : Int) (f : Value) (t : ByteArray) : Mg (w.alloc (.cells #[.int .i64 g, .int .i64 u, f, .string t] ty)) w.heap.size ty g u f t := heap_alloc_new w _
theorem Mg.later {W W' : World} {k ty : Nat} {g u : Int} {f : Value} {t : ByteArray} (h : Mg W k ty g u f t) (hb : Below W.heap.size W W') : Mg W' k ty g u f t := (hb.block k (Array.getElem?_eq_some_iff.1 h).1).trans h
theorem Mg.lt {W : World} {k ty : Nat} {g u : Int} {f : Value} {t : ByteArray} (h : Mg W k ty g u f t) : k < W.heap.size := (Array.getElem?_eq_some_iff.1 h).1
theorem Mg.cells {W : World} {k ty : Nat} {g u : Int} {f : Value} {t : ByteArray} (h : Mg W k ty g u f t) : W.cell? ⟨k, 0, none⟩ = some (.int .i64 g) ∧ W.cell? ⟨k, 1, none⟩ = some (.int .i64 u) ∧ W.cell? ⟨k, 2, none⟩ = some f ∧ W.cell? ⟨k, 3, none⟩ = some (.string t) :=
 ⟨cell_of_row W k 0 _ _ _ h, cell_of_row W k 1 _ _ _ h, cell_of_row W k 2 _ _ _ h, cell_of_row W k 3 _ _ _ h⟩
theorem Mg.loose {W : World} {k ty : Nat} {g u : Int} {f : Value} {t : ByteArray} (h : Mg W k ty g u f t) : W.frozen? ⟨k, 0, none⟩ = false ∧ W.frozen? ⟨k, 1, none⟩ = false ∧ W.frozen? ⟨k, 2, none⟩ = false ∧ W.frozen? ⟨k, 3, none⟩ = false :=
 ⟨frozen_of_row W k 0 _ _ h, frozen_of_row W k 1 _ _ h, frozen_of_row W k 2 _ _ h, frozen_of_row W k 3 _ _ h⟩
theorem Mg.s0 {W : World} {k ty : Nat} {g u : Int} {f : Value} {t : ByteArray} (h : Mg W k ty g u f t) (g' : Int) : Mg (W.setCell ⟨k, 0, none⟩ (.int .i64 g')) k ty g' u f t := heap_setCell_same W k 0 _ _ (.int .i64 g') h
theorem Mg.s1 {W : World} {k ty : Nat} {g u : Int} {f : Value} {t : ByteArray} (h : Mg W k ty g u f t) (u' : Int) : Mg (W.setCell ⟨k, 1, none⟩ (.int .i64 u')) k ty g u' f t := heap_setCell_same W k 1 _ _ (.int .i64 u') h
theorem Mg.s2 {W : World} {k ty : Nat} {g u : Int} {f : Value} {t : ByteArray} (h : Mg W k ty g u f t) (f' : Value) : Mg (W.setCell ⟨k, 2, none⟩ f') k ty g u f' t := heap_setCell_same W k 2 _ _ f' h
theorem Mg.s3 {W : World} {k ty : Nat} {g u : Int} {f : Value} {t : ByteArray} (h : Mg W k ty g u f t) (t' : ByteArray) : Mg (W.setCell ⟨k, 3, none⟩ (.string t')) k ty g u f t' := heap_setCell_same W k 3 _ _ (.string t') h
theorem heap_setCell_far {W : World} {k j i : Nat} {o : Obj} (u : Value) (h : W.heap[k]? = some o) (hk : k ≠ j) : (W.setCell ⟨j, i, none⟩ u).heap[k]? = some o := (Below.heap_setCell _ _ _ _ hk).trans h
theorem Mg.far {W : World} {k j i ty : Nat} {g u : Int} {f : Value} {t : ByteArray} (h : Mg W k ty g u f t) (x : Value) (hk : k ≠ j) : Mg (W.setCell ⟨j, i, none⟩ x) k ty g u f t := heap_setCell_far x h hk
theorem bsk {a w : World} (h : Below a.heap.size a w) {k : Nat} (hk : a.heap.size ≤ k) (i : Nat) (x : Value) : Below a.heap.size a (w.setCell ⟨k, i, none⟩ x) := bset h hk x
theorem Ow.other {W W' : World} {B g n c k : Nat} {l : List R3} (h : Ow W B (.slice (some ⟨g, 0, none⟩) n c) l) (hg : W.grownBy W' (some k)) (hk : g ≠ k) : Ow W' B (.slice (some ⟨g, 0, none⟩) n c) l :=
 World.ownsRow.kept h hg (Or.inr (by simpa [Value.ownBlock] using hk))
theorem Ow.far {W : World} {B g n c j : Nat} {l : List R3} (h : Ow W B (.slice (some ⟨g, 0, none⟩) n c) l) (hk : g ≠ j) (i : Nat) (x : Value) : Ow (W.setCell ⟨j, i, none⟩ x) B (.slice (some ⟨g, 0, none⟩) n c) l :=
 h.other (wst (wre W (some j)) i x) hk
def gok (n : Int) : Bool := decide (1 ≤ n) && decide (n ≤ 9999)
def mlOk (g u : Int) (l : List R3) (t : ByteArray) : Bool := gok g && (gok u && (flOk l && decide ((t.size : Int) ≤ 60)))
theorem gid_l (x : Int) : ∃ p : Bool, Hid (p = gok x) ∧ Hid (∀ w, Calls Tryz.prog 97 #[.int .i64 x] w fun e w' => e = .returned (.bool p) ∧ w' = w) := by
 refine ⟨_, rfl, fun w => ?_⟩
 by_cases h1 : 1 ≤ x
 ·by_cases h2 : x ≤ 9999
  ·have HE : Hid (gok x = true) := by show _ = _; simp [gok, h1, h2]
   go_enter Tryz.func97, Tryz.ntmps97
   go_wp2
   go_ret
   exact ⟨by rw [HE.out]; rfl, rfl⟩
  ·have HE : Hid (gok x = false) := by show _ = _; simp [gok, h2]
   go_enter Tryz.func97, Tryz.ntmps97
   go_wp2
   go_ret
   exact ⟨by rw [HE.out]; rfl, rfl⟩
 ·have HE : Hid (gok x = false) := by show _ = _; simp [gok, h1]
  go_enter Tryz.func97, Tryz.ntmps97
  go_wp2
  go_ret
  exact ⟨by rw [HE.out]; rfl, rfl⟩
theorem in_l (x : Int) : ∃ p : Bool, Hid (p = gok x) ∧ Hid (∀ w, Calls Tryz.prog 57 #[.int .i64 x, .int .i64 1, .int .i64 9999] w fun e w' => e = .returned (.bool p) ∧ w' = w) := by
 refine ⟨_, rfl, fun w => ?_⟩
 by_cases h1 : 1 ≤ x ∧ x ≤ 9999
 ·have HE : gok x = true := by simp [gok, h1.1, h1.2]
  rw [HE]
  exact (l01In_yes x 1 9999 w h1.1 h1.2).mono fun _ _ h => ⟨h.1, h.2.symm⟩
 ·have HE : gok x = false := by simp only [gok, Bool.and_eq_false_iff, decide_eq_false_iff_not]; omega
  rw [HE]
  exact (l01In_no x 1 9999 w (by omega)).mono fun _ _ h => ⟨h.1, h.2.symm⟩
theorem implFlagsOk_l (ao : Option Addr) (n cap : Nat) (l : List R3) (hl : l.length = n) (hn : n ≤ 1048576) : ∃ p : Bool, Hid (p = flOk l) ∧ Hid (∀ w, Rs w ao l → Calls Tryz.prog 141 #[.slice ao n cap] w fun e w' => e = .returned (.bool p) ∧ Below w.heap.size w w') :=
 ⟨_, rfl, fun w h => implFlagsOk_any ao n cap l w hl hn h⟩
theorem specFlagsOk_l (ao : Option Addr) (n cap : Nat) (l : List R3) (hl : l.length = n) (hn : n ≤ 1048576) : ∃ p : Bool, Hid (p = flOk l) ∧ Hid (∀ w, Rs w ao l → Calls Tryz.prog 111 #[.slice ao n cap] w fun e w' => e = .returned (.bool p) ∧ Below w.heap.size w w') :=
 ⟨_, rfl, fun w h => specFlagsOk_any ao n cap l w hl hn h⟩
set_option maxHeartbeats 400000 in
set_option maxRecDepth 100000 in
theorem implMailOk_any (g u : Int) (ao : Option Addr) (n cap : Nat) (l : List R3) (t : ByteArray) (w : World) (hl : l.length = n) (hn : n ≤ 1048576) (hr : Rs w ao l) :
  Calls Tryz.prog 101 #[.agg #[.int .i64 g, .int .i64 u, .slice ao n cap, .string t]] w fun e w' => e = .returned (.bool (mlOk g u l t)) ∧ Below w.heap.size w w' := by
 obtain ⟨p, hp, cp⟩ := gid_l g
 obtain ⟨q, hq, cq⟩ := gid_l u
 obtain ⟨r, hr', cr⟩ := implFlagsOk_l ao n cap l hl hn
 have HS : Hid (mlOk g u l t = (p && (q && (r && decide ((t.size : Int) ≤ 60))))) := by show _ = _; rw [hp.out, hq.out, hr'.out]; rfl
 rw [HS.out]
 have HR := hid hr
 clear hl hn hr
 have A0 := (Mg.new w 78 g u (.slice ao n cap) t).cells
 go_enter Tryz.func101, Tryz.ntmps101
 go_wp2_with fail
 refine (cp.out _).mono ?_; rintro e w1 ⟨rfl, h1⟩
 subst h1
 cases p
 ·go_wp2
  go_ret
  exact ⟨rfl, bpush (bre _) _⟩
 go_wp2_with fail
 refine (cq.out _).mono ?_; rintro e w1 ⟨rfl, h1⟩
 subst h1
 cases q
 ·go_wp2
  go_ret
  exact ⟨rfl, bpush (bre _) _⟩
 go_wp2_with fail
 refine (cr.out _ (HR.out.later (bpush (bre _) _))).mono ?_; rintro e w1 ⟨rfl, hb1⟩
 have d1 := ((Mg.new w 78 g u (.slice ao n cap) t).later hb1).cells
 have HB1 : Hid (Below w.heap.size w w1) := btr (bpush (bre _) _) hb1
 clear hb1 A0
 cases r
 ·go_wp2
  go_ret
  exact ⟨rfl, HB1.out⟩
 go_wp2
 go_ret
 exact ⟨rfl, HB1.out⟩
set_option maxHeartbeats 400000 in
set_option maxRecDepth 100000 in
theorem specMailOk_any (g u : Int) (ao : Option Addr) (n cap : Nat) (l : List R3) (t : ByteArray) (w : World) (hl : l.length = n) (hn : n ≤ 1048576) (hr : Rs w ao l) :
  Calls Tryz.prog 65 #[.agg #[.int .i64 g, .int .i64 u, .slice ao n cap, .string t]] w fun e w' => e = .returned (.bool (mlOk g u l t)) ∧ Below w.heap.size w w' := by
 obtain ⟨p, hp, cp⟩ := in_l g
 obtain ⟨q, hq, cq⟩ := in_l u
 obtain ⟨r, hr', cr⟩ := specFlagsOk_l ao n cap l hl hn
 have HS : Hid (mlOk g u l t = (p && (q && (r && decide ((t.size : Int) ≤ 60))))) := by show _ = _; rw [hp.out, hq.out, hr'.out]; rfl
 rw [HS.out]
 have HR := hid hr
 clear hl hn hr
 have A0 := (Mg.new w 78 g u (.slice ao n cap) t).cells
 go_enter Tryz.func65, Tryz.ntmps65
 go_wp2_with fail
 refine (cp.out _).mono ?_; rintro e w1 ⟨rfl, h1⟩
 subst h1
 cases p
 ·go_wp2
  go_ret
  exact ⟨rfl, bpush (bre _) _⟩
 go_wp2_with fail
 refine (cq.out _).mono ?_; rintro e w1 ⟨rfl, h1⟩
 subst h1
 cases q
 ·go_wp2
  go_ret
  exact ⟨rfl, bpush (bre _) _⟩
 go_wp2_with fail
 refine (cr.out _ (HR.out.later (bpush (bre _) _))).mono ?_; rintro e w1 ⟨rfl, hb1⟩
 have d1 := ((Mg.new w 78 g u (.slice ao n cap) t).later hb1).cells
 have HB1 : Hid (Below w.heap.size w w1) := btr (bpush (bre _) _) hb1
 clear hb1 A0
 cases r
 ·go_wp2
  go_ret
  exact ⟨rfl, HB1.out⟩
 go_wp2
 go_ret
 exact ⟨rfl, HB1.out⟩
end Go.Proofs.YtdkedgedkgabnaaGreatDoor
namespace Go.Proofs.YtdkedgedkgabnaaGreatDoor
open Go.RowKit
theorem two_mails (w : World) (ta tb : Nat) (g u g1 u1 : Int) (f f1 : Value) (t t1 : ByteArray) (W0 : World) (h : ((w.alloc (.cells #[.int .i64 g, .int .i64 u, f, .string t] ta)).alloc (.cells #[.int .i64 g1, .int .i64 u1, f1, .string t1] tb)) = W0) :
  Mg W0 w.heap.size ta g u f t ∧ Mg W0 (w.heap.size + 1) tb g1 u1 f1 t1 ∧ Below w.heap.size w W0 := by
 subst h
 exact ⟨(Mg.new w ta g u f t).later (bpush (bre _) _), by simpa using Mg.new (w.alloc (.cells #[.int .i64 g, .int .i64 u, f, .string t] ta)) tb g1 u1 f1 t1, bpush (bpush (bre _) _) _⟩
set_option maxRecDepth 100000 in
theorem eqMail_same (g u : Int) (ao bo : Option Addr) (n ca cb : Nat) (l : List R3) (t : ByteArray) (w : World) (hl : l.length = n) (hn : n ≤ 1048576) (ha : Rs w ao l) (hb : Rs w bo l) :
  Calls Tryz.prog 170 #[.agg #[.int .i64 g, .int .i64 u, .slice ao n ca, .string t], .agg #[.int .i64 g, .int .i64 u, .slice bo n cb, .string t]] w fun e w' => e = .returned (.bool true) ∧ Below w.heap.size w w' := by
 obtain ⟨W0, hW0⟩ : ∃ W0, ((w.alloc (.cells #[.int .i64 g, .int .i64 u, .slice ao n ca, .string t] 78)).alloc (.cells #[.int .i64 g, .int .i64 u, .slice bo n cb, .string t] 78)) = W0 := ⟨_, rfl⟩
 obtain ⟨a0, a1, b0⟩ := two_mails w _ _ _ _ _ _ _ _ _ _ W0 hW0
 have A0 := hid a0
 have A1 := hid a1
 have B0 := hid b0
 have HA := hid ha
 have HB := hid hb
 have HL := hid hl
 have HN := hid hn
 have c0 := a0.cells
 have c1 := a1.cells
 have e1 : (g != g) = false := by simp
 have e2 : (u != u) = false := by simp
 clear a0 a1 b0 ha hb hl hn
 go_enter Tryz.func170, Tryz.ntmps170
 go_wp2_with fail
 clear hW0
 refine (eqRS_any ao bo n ca cb l _ HL.out HN.out (HA.out.later B0.out) (HB.out.later B0.out)).mono ?_; rintro e w1 ⟨rfl, hb⟩
 have d0 := (A0.out.later hb).cells
 have d1 := (A1.out.later hb).cells
 have HB1 := hid (btr B0.out hb)
 clear c0 c1 hb
 go_wp2
 go_ret
 exact ⟨rfl, HB1.out⟩
end Go.Proofs.YtdkedgedkgabnaaGreatDoor
namespace Go.Proofs.YtdkedgedkgabnaaGreatDoor
open Go.RowKit
theorem bytes_inj {t t' : ByteArray} (h : t.toList = t'.toList) : t = t' := by
 rw [ByteArray.toList_eq, ByteArray.toList_eq] at h
 cases t; cases t'; simp only [ByteArray.mk.injEq]; exact Array.toList_inj.1 h
theorem bytes_ne {t t' : ByteArray} (h : ¬ t = t') : (t.toList == t'.toList) = false := beq_eq_false_iff_ne.2 fun e => h (bytes_inj e)
end Go.Proofs.YtdkedgedkgabnaaGreatDoor
namespace Go.Proofs.YtdkedgedkgabnaaGreatDoor
open Go.RowKit
set_option maxHeartbeats 400000 in
set_option maxRecDepth 100000 in
theorem cloneRg_any (ao : Option Addr) (n cap : Nat) (l : List R3) (w : World) (hl : l.length = n) (hn : n ≤ 1048576) (hr : Rs w ao l) (h0 : ao = none → cap = 0) :
  Calls Tryz.prog 188 #[.slice ao n cap] w fun e w' => ∃ v, e = .returned v ∧ Ow w' w.heap.size v l ∧ Below w.heap.size w w' := by
 have HR := hid hr
 have HL := hid hl
 have HN := hid hn
 clear hr hl hn
 cases ao with
 | none =>
  have hn0 : n = 0 := by
   by_cases h : 0 < n
   ·obtain ⟨_, _, h1, _⟩ := HR.out (by rw [HL.out]; exact h)
    cases h1
   ·omega
  subst hn0
  obtain rfl := h0 rfl
  have hle : l = [] := List.eq_nil_of_length_eq_zero HL.out
  subst hle
  clear h0
  have hnil : ∀ W, (binOp .eql 76 (.slice none 0 0) (.slice none 0 0)).run Tryz.prog W = .ok (.bool true) W := fun W => Lib.run_eql_slice_nil_nil W 0 0 Tryz.underlying76
  go_enter Tryz.func188, Tryz.ntmps188
  go_wp2
  go_ret
  exact ⟨_, rfl, ⟨rfl, .inl ⟨rfl, rfl⟩⟩, bre _⟩
 | some ad =>
  clear h0
  obtain ⟨i0, hi, hz0, hz1, hz2⟩ := info_parts3 info_rg
  have HSRC : Hid (∀ j u, (fl l)[j]? = some u → (w.alloc (.cells #[] 126)).cell? (ad.add j) = some u) := by
   intro j u hu
   have hj : j < (fl l).length := (List.getElem?_eq_some_iff.1 hu).1
   rw [fl_len] at hj
   obtain ⟨k, o, h1, h2, h3⟩ := (HR.out.later (bpush (bre _) _)) (by omega)
   simp only [Option.some.injEq] at h1
   subst h1
   exact h3.all j u hu
  have hnil : ∀ W, (binOp .eql 76 (.slice (some ad) n cap) (.slice none 0 0)).run Tryz.prog W = .ok (.bool false) W := fun W => Lib.run_eql_slice_some_nil W ad n cap Tryz.underlying76
  go_enter Tryz.func188, Tryz.ntmps188
  go_wp2_with (at_builtin; refine wpList_append_own _ rfl (.tmp 5) (.tmp 6) 76 rfl w.heap.size 126 i0 _ 3 24 Tryz.underlying76 hi hz0 hz1 hz2 rfl (by decide) _ 0 [] (by rfl) (own_empty w _ (Nat.le_refl _)) ad n cap (fl l) (by rfl) (by rw [fl_len, HL.out]) HSRC.out (fl_one l) (by have := HN.out; unfold maxLen; omega) (by have := HN.out; omega) (by simp) ?_; intro v1 w1 hown1 hg1 _)
  go_ret
  exact ⟨_, rfl, by simpa [Ow, HL.out] using hown1, (bpush (bre _) _).grown hg1 (by simp) (by intro k hk; simp [Value.ownBlock] at hk; omega)⟩
end Go.Proofs.YtdkedgedkgabnaaGreatDoor
namespace Go.Proofs.YtdkedgedkgabnaaGreatDoor
open Go.RowKit
theorem own_far {W : World} {B j : Nat} {v : Value} {l : List R3} (h : Ow W B v l) (hj : j < B) (i : Nat) (x : Value) : Ow (W.setCell ⟨j, i, none⟩ x) B v l :=
 World.ownsRow.kept h (wst (wre W (some j)) i x) (by
   cases hv : v.ownBlock with
   | none => exact Or.inl rfl
   | some k => right; have := (World.ownsRow.lt h k hv).1; intro e; simp at e; omega)
set_option maxHeartbeats 400000 in
set_option maxRecDepth 100000 in
theorem copyOf_any (g u : Int) (ao : Option Addr) (n cap : Nat) (l : List R3) (t : ByteArray) (w : World) (hl : l.length = n) (hn : n ≤ 1048576) (ht : t.size ≤ 1048576) (hr : Rs w ao l) (h0 : ao = none → cap = 0) :
  Calls Tryz.prog 168 #[.agg #[.int .i64 g, .int .i64 u, .slice ao n cap, .string t]] w fun e w' => ∃ v, e = .returned (.agg #[.int .i64 g, .int .i64 u, v, .string t]) ∧ Ow w' w.heap.size v l ∧ Below w.heap.size w w' := by
 obtain ⟨W0, hW0⟩ : ∃ W0, ((w.alloc (.cells #[.int .i64 g, .int .i64 u, .slice ao n cap, .string t] 78)).alloc (.cells #[.int .i64 0, .int .i64 0, .slice none 0 0, .string ⟨#[]⟩] 78)) = W0 := ⟨_, rfl⟩
 obtain ⟨a0, a1, b0⟩ := two_mails w _ _ _ _ _ _ _ _ _ _ W0 hW0
 have A0 := hid a0
 have A1 := hid a1
 have B0 := hid b0
 have HR := hid (hr.later b0)
 have HL := hid hl
 have HN := hid hn
 have H0 := hid h0
 have HT := hid ht
 have c0 := a0.cells
 have f0 := a0.loose
 clear a0 a1 b0 hr hl hn h0 ht
 go_enter Tryz.func168, Tryz.ntmps168
 go_wp2_with fail
 clear hW0
 refine (cloneRg_any ao n cap l _ HL.out HN.out HR.out H0.out).mono ?_; rintro e w1 ⟨v, rfl, hown, hb⟩
 obtain ⟨av, cv, hv, _⟩ := Ow.shape hown
 rw [HL.out] at hv
 subst hv
 have X0 := hid (A0.out.later hb)
 have X1 := hid (A1.out.later hb)
 have d0 := X0.out.cells
 have g0 := X0.out.loose
 have d1 := X1.out.cells
 have g1 := X1.out.loose
 have HO := hid hown
 have B1 := hid (btr B0.out hb)
 clear c0 f0 hown hb
 go_wp2_with fail
 have X0' := hid (X0.out.s2 (.slice av n cv))
 have X1' := hid (X1.out.far (.slice av n cv) (j := w.heap.size) (i := 2) (by omega))
 have hs := A1.out.lt
 have HO' := hid (own_far HO.out (j := w.heap.size) (by omega) 2 (.slice av n cv))
 have B1' := hid (bsk B1.out (Nat.le_refl _) 2 (.slice av n cv))
 refine (clone_any t _ HT.out).mono ?_; rintro e w2 ⟨rfl, hb⟩
 have Y0 := hid (X0'.out.later hb)
 have Y1 := hid (X1'.out.later hb)
 have HO2 := hid (own_later HO'.out hb)
 have B2 := hid (btr B1'.out hb)
 clear d0 d1 g0 g1 hb
 have d0 := Y0.out.cells
 have g0 := Y0.out.loose
 have d1 := Y1.out.cells
 have g1 := Y1.out.loose
 go_wp2
 have k1 := ((((Y1.out.far (.string t) (j := w.heap.size) (i := 3) (by omega)).s0 g).s1 u).s2 (.slice av n cv)).s3 t
 have d1 := k1.cells
 refine bodyPost_ret (v := .agg #[.int .i64 g, .int .i64 u, .slice av n cv, .string t]) (by simp [results, Tryz.results168, go_sem, d1]) rfl ⟨_, rfl, ?_, ?_⟩
 ·exact own_base (own_far (own_far (own_far (own_far (own_far HO2.out (by omega) 3 _) (by omega) 0 _) (by omega) 1 _) (by omega) 2 _) (by omega) 3 _) (by omega)
 ·exact bsk (bsk (bsk (bsk (bsk B2.out (by omega) _ _) (by omega) _ _) (by omega) _ _) (by omega) _ _) (by omega) _ _
end Go.Proofs.YtdkedgedkgabnaaGreatDoor
namespace Go.Proofs.YtdkedgedkgabnaaGreatDoor
open Go.RowKit
theorem set4 {W : World} {k ty : Nat} {g u : Int} {f : Value} {t : ByteArray} (h : Mg W k ty g u f t) (g' u' : Int) (f' : Value) (t' : ByteArray) : Mg ((((W.setCell ⟨k, 0, none⟩ (.int .i64 g')).setCell ⟨k, 1, none⟩ (.int .i64 u')).setCell ⟨k, 2, none⟩ f').setCell ⟨k, 3, none⟩ (.string t')) k ty g' u' f' t' :=
 (((h.s0 g').s1 u').s2 f').s3 t'
theorem own4 {W : World} {B j : Nat} {v : Value} {l : List R3} (h : Ow W B v l) (hj : j < B) (g' u' : Int) (f' : Value) (t' : ByteArray) : Ow ((((W.setCell ⟨j, 0, none⟩ (.int .i64 g')).setCell ⟨j, 1, none⟩ (.int .i64 u')).setCell ⟨j, 2, none⟩ f').setCell ⟨j, 3, none⟩ (.string t')) B v l :=
 own_far (own_far (own_far (own_far h hj _ _) hj _ _) hj _ _) hj _ _
theorem bel4 {a w : World} (h : Below a.heap.size a w) {k : Nat} (hk : a.heap.size ≤ k) (g' u' : Int) (f' : Value) (t' : ByteArray) : Below a.heap.size a ((((w.setCell ⟨k, 0, none⟩ (.int .i64 g')).setCell ⟨k, 1, none⟩ (.int .i64 u')).setCell ⟨k, 2, none⟩ f').setCell ⟨k, 3, none⟩ (.string t')) :=
 bsk (bsk (bsk (bsk h hk _ _) hk _ _) hk _ _) hk _ _
end Go.Proofs.YtdkedgedkgabnaaGreatDoor
namespace Go.Proofs.YtdkedgedkgabnaaGreatDoor
open Go.RowKit
theorem Mg.grown {W W' : World} {k ty : Nat} {g u : Int} {f : Value} {t : ByteArray} {r : Option Nat} (h : Mg W k ty g u f t) (hg : W.grownBy W' r) (hk : some k ≠ r) : Mg W' k ty g u f t := (hg.block k h.lt hk).trans h
theorem markRS_zero (a : Option Addr) (cap k : Nat) (w : World) :
  Calls Tryz.prog 148 #[.slice a 0 cap, .int .i64 (k : Int)] w fun e w' => e = .returned (.int .i64 (k : Int)) ∧ w' = w := by
 go_enter Tryz.func148, Tryz.ntmps148
 go_wp2
 go_loop [1, 5] (fun kv iv => kv = .int .i64 (k : Int) ∧ iv = .int .i64 0) (fun _ _ => 0)
 case atStart => exact ⟨rfl, rfl⟩
 case round =>
  obtain ⟨rfl, rfl⟩ := hrel
  go_wp2
  go_ret
  exact ⟨rfl, rfl⟩
theorem heldRS_zero (a : Option Addr) (cap k : Nat) (w : World) :
  Calls Tryz.prog 149 #[.slice a 0 cap, .int .i64 (k : Int)] w fun e w' => e = .returned (.int .i64 (k : Int)) ∧ w' = w := by
 go_enter Tryz.func149, Tryz.ntmps149
 go_wp2
 go_loop [1, 5] (fun kv iv => kv = .int .i64 (k : Int) ∧ iv = .int .i64 0) (fun _ _ => 0)
 case atStart => exact ⟨rfl, rfl⟩
 case round =>
  obtain ⟨rfl, rfl⟩ := hrel
  go_wp2
  go_ret
  exact ⟨rfl, rfl⟩
theorem own_some {W : World} {B n c : Nat} {a : Option Addr} {l : List R3} (h : Ow W B (.slice a n c) l) (hn : 0 < n) : ∃ g, a = some ⟨g, 0, none⟩ := by
 rcases h.2 with ⟨h1, h2⟩ | ⟨g, cap, cur, h1, _⟩
 ·simp only [Value.slice.injEq] at h1
  omega
 ·simp only [Value.slice.injEq] at h1
  exact ⟨g, h1.1⟩
theorem own_kept {W W' : World} {B : Nat} {v : Value} {l : List R3} {r : Option Nat} (h : Ow W B v l) (hg : W.grownBy W' r) (hne : ∀ j, v.ownBlock = some j → r ≠ some j) : Ow W' B v l :=
 World.ownsRow.kept h hg (by
   cases hv : v.ownBlock with
   | none => exact Or.inl rfl
   | some j => exact Or.inr (fun e => hne j hv e.symm))
theorem below_grownR {B : Nat} {a w : World} {r : Option Nat} (h : a.grownBy w r) (hB : ∀ j, r = some j → B ≤ j) (hs : B ≤ a.heap.size) : Below B a w :=
 ⟨h.os, h.tape, h.output, h.size, fun k hk => h.block k (by omega) (fun e => by have := hB k e.symm; omega)⟩
end Go.Proofs.YtdkedgedkgabnaaGreatDoor
namespace Go.Proofs.YtdkedgedkgabnaaGreatDoor
open Go.RowKit
theorem grown_push {a w : World} {o : Obj} {r : Option Nat} (h : (a.alloc o).grownBy w r) : a.grownBy w r := wtr (World.grownBy_alloc a o r) h
theorem wst_new {a w : World} {r : Option Nat} (h : a.grownBy w r) {j : Nat} (hj : a.heap.size ≤ j) (i : Nat) (x : Value) : a.grownBy (w.setCell ⟨j, i, none⟩ x) r :=
 ⟨h.os, h.tape, h.output, by simpa [World.setCell] using h.size, fun k hk hr => (Below.heap_setCell w ⟨j, i, none⟩ x k (by show k ≠ j; omega)).trans (h.block k hk hr)⟩
theorem grown_below {a w : World} (h : Below a.heap.size a w) (r : Option Nat) : a.grownBy w r := ⟨h.os, h.tape, h.output, h.size, fun k hk _ => h.block k hk⟩
end Go.Proofs.YtdkedgedkgabnaaGreatDoor
namespace Go.Proofs.YtdkedgedkgabnaaGreatDoor
open Go.RowKit
end Go.Proofs.YtdkedgedkgabnaaGreatDoor
namespace Go.Proofs.YtdkedgedkgabnaaGreatDoor
open Go.RowKit
def okc (c : UInt8) : Bool := (decide (97 ≤ c.toNat) && decide (c.toNat ≤ 122)) || (decide (48 ≤ c.toNat) && decide (c.toNat ≤ 57))
def nmOk (s : ByteArray) : Bool := s.data.toList.all okc && (decide (1 ≤ (s.size : Int)) && decide ((s.size : Int) ≤ 12))
theorem data_len (s : ByteArray) : s.data.toList.length = s.size := Array.length_toList
theorem data_take (s : ByteArray) (k : Nat) (h : k < s.size) : s.data.toList.take (k + 1) = s.data.toList.take k ++ [s[k]] := by
 rw [List.take_succ_eq_append_getElem (by rw [data_len]; exact h)]; rfl
theorem okc_take {s : ByteArray} {k : Nat} (h : k < s.size) (ha : (s.data.toList.take k).all okc = true) (hc : okc s[k] = true) : (s.data.toList.take (k + 1)).all okc = true := by
 rw [data_take s k h, List.all_append, ha, Bool.true_and]
 show (okc s[k] && true) = true
 rw [hc]; rfl
theorem nm_bad {s : ByteArray} {k : Nat} (h : k < s.size) (hc : okc s[k] = false) : nmOk s = false := by
 have : s.data.toList.all okc = false := by
  rw [List.all_eq_false]
  refine ⟨s[k], ?_, by simp [hc]⟩
  exact List.getElem_mem (l := s.data.toList) (n := k) (by rw [data_len]; exact h)
 rw [nmOk, this]; rfl
theorem nm_fin {s : ByteArray} {k : Nat} (h : ¬ k < s.size) (ha : (s.data.toList.take k).all okc = true) : nmOk s = (decide (1 ≤ (s.size : Int)) && decide ((s.size : Int) ≤ 12)) := by
 rw [List.take_of_length_le (by rw [data_len]; omega)] at ha
 rw [nmOk, ha]; rfl
theorem nm_len {s : ByteArray} (h : ¬ (1 ≤ (s.size : Int) ∧ (s.size : Int) ≤ 12)) : nmOk s = false := by
 have : (decide (1 ≤ (s.size : Int)) && decide ((s.size : Int) ≤ 12)) = false := by
  by_cases h1 : 1 ≤ (s.size : Int)
  ·have h2 : ¬ (s.size : Int) ≤ 12 := fun x => h ⟨h1, x⟩
   simp [h2]
  ·simp [h1]
 rw [nmOk, this, Bool.and_false]
theorem conv_s (w : World) (s : ByteArray) : ∃ (cp : Nat) (w' : World), (convert 9 22 (.string s)).run Tryz.prog w = .ok (.slice (some ⟨w.heap.size, 0, none⟩) s.size cp) w' ∧ Below w.heap.size w w' ∧
  (∀ j (h : j < s.size), w'.cell? ⟨w.heap.size, j, none⟩ = some (.int .u8 (s[j].toNat : Int))) := by
 have h := Lib.run_convert_string_bytes (P := Tryz.prog) w 9 22 5 s Tryz.underlying9 Tryz.underlying22 Tryz.underlying5
 refine ⟨_, _, h, ⟨rfl, rfl, rfl, by rw [Lib.bytesWorld_size]; omega, fun k hk => Lib.bytesWorld_at_old w 5 _ k hk⟩, ?_⟩
 intro j hj
 rw [Lib.bytesWorld_cell w 5 s j hj]
 have e : s.data.toList.getD j 0 = s[j] := by
  rw [List.getD, List.getElem?_eq_getElem (by rw [data_len]; exact hj)]; rfl
 first
  | rw [e]
  | simp [List.getD, hj, ← e]
theorem okc_ways (b : UInt8) (c : Nat) (h : b.toNat = c) : (okc b = true ∧ 97 ≤ c ∧ c ≤ 122) ∨ (okc b = true ∧ 48 ≤ c ∧ c ≤ 57) ∨ (okc b = false ∧ c < 48) ∨ (okc b = false ∧ 57 < c ∧ c < 97) ∨ (okc b = false ∧ 122 < c) := by
 unfold okc
 rw [h]
 by_cases h1 : 97 ≤ c
 ·by_cases h2 : c ≤ 122
  ·exact .inl ⟨by simp [h1, h2], h1, h2⟩
  ·refine .inr (.inr (.inr (.inr ⟨?_, by omega⟩)))
   have h3 : ¬ c ≤ 57 := by omega
   simp [h2, h3]
 ·by_cases h2 : 48 ≤ c
  ·by_cases h3 : c ≤ 57
   ·exact .inr (.inl ⟨by simp [h2, h3], h2, h3⟩)
   ·refine .inr (.inr (.inr (.inl ⟨by simp [h1, h3], by omega, by omega⟩)))
  ·exact .inr (.inr (.inl ⟨by simp [h1, h2], by omega⟩))
set_option maxHeartbeats 800000 in
set_option maxRecDepth 100000 in
theorem specName_any (s : ByteArray) (w : World) (hs : s.size ≤ 1048576) :
  Calls Tryz.prog 63 #[.string s] w fun e w' => e = .returned (.bool (nmOk s)) ∧ Below w.heap.size w w' := by
 go_enter Tryz.func63, Tryz.ntmps63
 go_wp2
 go_loopw [3] (fun iv wr => ∃ i : Nat, i ≤ s.size ∧ iv = .int .i64 (i : Int) ∧ Hid ((s.data.toList.take i).all okc = true) ∧ wr = w) (fun iv _ => s.size - (intOf iv).toNat)
 case atStart => exact ⟨0, Nat.zero_le _, rfl, rfl, rfl⟩
 case round =>
  obtain ⟨i, hi, rfl, HA, hw⟩ := hrel
  subst hw
  by_cases hlt : i < s.size
  ·obtain ⟨c, hcx⟩ : ∃ c : Nat, s[i].toNat = c := ⟨_, rfl⟩
   have hcb : c < 256 := by rw [← hcx]; exact s[i].toNat_lt
   rcases okc_ways s[i] c hcx with ⟨ho, h1, h2⟩ | ⟨ho, h1, h2⟩ | ⟨ho, h1⟩ | ⟨ho, h1, h2⟩ | ⟨ho, h1⟩
   ·have HO := hid ho
    clear ho
    go_wp2
    go_roundw
    case rel => exact ⟨i + 1, by omega, by go_num, okc_take hlt HA.out HO.out, trivial⟩
    case measure => simp [intOf]; omega
   ·have HO := hid ho
    clear ho
    go_wp2
    go_roundw
    case rel => exact ⟨i + 1, by omega, by go_num, okc_take hlt HA.out HO.out, trivial⟩
    case measure => simp [intOf]; omega
   all_goals
    have HO := hid (nm_bad hlt ho)
    clear ho
    go_wp2
    go_ret
    exact ⟨by rw [HO.out]; rfl, bre _⟩
  ·have HE := hid (nm_fin hlt HA.out)
   by_cases hr : 1 ≤ (s.size : Int) ∧ (s.size : Int) ≤ 12
   ·have HE2 : Hid (nmOk s = true) := by show _ = _; rw [HE.out]; simp only [hr.1, hr.2, decide_true, Bool.and_self]
    go_wp2_with fail
    refine (l01In_yes _ 1 12 _ hr.1 hr.2).mono ?_; rintro e w1 ⟨rfl, h1⟩
    subst h1
    go_wp2
    go_ret
    exact ⟨by rw [HE2.out]; rfl, bre _⟩
   ·have HE2 := hid (nm_len hr)
    go_wp2_with fail
    refine (l01In_no _ 1 12 _ (by omega)).mono ?_; rintro e w1 ⟨rfl, h1⟩
    subst h1
    go_wp2
    go_ret
    exact ⟨by rw [HE2.out]; rfl, bre _⟩
set_option maxHeartbeats 800000 in
set_option maxRecDepth 100000 in
theorem implName_any (s : ByteArray) (w : World) (hs : s.size ≤ 1048576) :
  Calls Tryz.prog 98 #[.string s] w fun e w' => e = .returned (.bool (nmOk s)) ∧ Below w.heap.size w w' := by
 by_cases hr : 1 ≤ (s.size : Int) ∧ (s.size : Int) ≤ 12
 ·obtain ⟨cp, W, hcv, hbw, hcs⟩ := conv_s w s
  have HB := hid hbw
  have HC := hid hcs
  have hne : (s.toList == []) = false := by
   rw [beq_eq_false_iff_ne]
   intro e
   have e2 := congrArg List.length e
   rw [ByteArray.toList_eq, data_len] at e2
   simp only [List.length_nil] at e2
   omega
  clear hbw hcs
  go_enter Tryz.func98, Tryz.ntmps98
  go_wp2
  clear hcv hne
  go_loopw [15] (fun iv wr => ∃ i : Nat, i ≤ s.size ∧ iv = .int .i64 (i : Int) ∧ Hid ((s.data.toList.take i).all okc = true) ∧ wr = W) (fun iv _ => s.size - (intOf iv).toNat)
  case atStart => exact ⟨0, Nat.zero_le _, rfl, rfl, rfl⟩
  case round =>
   obtain ⟨i, hi, rfl, HA, hw⟩ := hrel
   subst hw
   by_cases hlt : i < s.size
   ·obtain ⟨c, hcx⟩ : ∃ c : Nat, s[i].toNat = c := ⟨_, rfl⟩
    have hcb : c < 256 := by rw [← hcx]; exact s[i].toNat_lt
    have hcell := HC.out i hlt
    have hw := okc_ways s[i] c hcx
    rw [hcx] at hcell
    have hI : (0 : Int) ≤ (i : Int) ∧ (i : Int) < (s.size : Int) := by omega
    clear hcx
    rcases hw with ⟨ho, h1, h2⟩ | ⟨ho, h1, h2⟩ | ⟨ho, h1⟩ | ⟨ho, h1, h2⟩ | ⟨ho, h1⟩
    ·have HO := hid ho
     clear ho
     go_wp2
     go_roundw
     case rel => exact ⟨i + 1, by omega, by go_num, okc_take hlt HA.out HO.out, trivial⟩
     case measure => simp [intOf]; omega
    ·have HO := hid ho
     clear ho
     go_wp2
     go_roundw
     case rel => exact ⟨i + 1, by omega, by go_num, okc_take hlt HA.out HO.out, trivial⟩
     case measure => simp [intOf]; omega
    all_goals
     have HO := hid (nm_bad hlt ho)
     clear ho
     go_wp2
     go_ret
     exact ⟨by rw [HO.out]; rfl, HB.out⟩
   ·have HE2 : Hid (nmOk s = true) := by show _ = _; rw [nm_fin hlt HA.out]; simp only [hr.1, hr.2, decide_true, Bool.and_self]
    go_wp2
    go_ret
    exact ⟨by rw [HE2.out]; rfl, HB.out⟩
 ·have HE2 := hid (nm_len hr)
  by_cases h0 : s.size = 0
  ·obtain rfl : s = ⟨#[]⟩ := ByteArray.ext (Array.eq_empty_of_size_eq_zero h0)
   clear hr h0 hs
   go_enter Tryz.func98, Tryz.ntmps98
   go_wp2
   go_ret
   exact ⟨by rw [HE2.out]; rfl, bre _⟩
  ·have h12 : 12 < (s.size : Int) := by omega
   have hne : (s.toList == []) = false := by
    rw [beq_eq_false_iff_ne]
    intro e
    have e2 := congrArg List.length e
    rw [ByteArray.toList_eq, data_len] at e2
    simp only [List.length_nil] at e2
    omega
   clear hr
   go_enter Tryz.func98, Tryz.ntmps98
   go_wp2
   go_ret
   exact ⟨by rw [HE2.out]; rfl, bre _⟩
theorem name_l (s : ByteArray) (hs : s.size ≤ 1048576) : ∃ p : Bool, Hid (p = nmOk s) ∧ Hid (∀ w, Calls Tryz.prog 63 #[.string s] w fun e w' => e = .returned (.bool p) ∧ Below w.heap.size w w') ∧ Hid (∀ w, Calls Tryz.prog 98 #[.string s] w fun e w' => e = .returned (.bool p) ∧ Below w.heap.size w w') :=
 ⟨_, rfl, fun w => specName_any s w hs, fun w => implName_any s w hs⟩
def vi (n : Int) : ByteArray := ⟨(vbs n.toNat).toArray⟩
def vis : List Int → ByteArray
 | [] => ⟨#[]⟩
 | n :: l => vi n ++ vis l
def rt (p : R3) : ByteArray := vi p.1 ++ vi p.2.1 ++ vi p.2.2
def rts : List R3 → ByteArray
 | [] => ⟨#[]⟩
 | p :: l => rt p ++ rts l
def mtx (g u : Int) (l : List R3) (t : ByteArray) : ByteArray := vi g ++ vi u ++ rts l ++ vi t.size ++ t
theorem ba_nil (s : ByteArray) : (⟨#[]⟩ : ByteArray) ++ s = s := ByteArray.empty_append
theorem nil_ba (s : ByteArray) : s ++ (⟨#[]⟩ : ByteArray) = s := ByteArray.append_empty
theorem vis_snoc (l : List Int) (n : Int) : vis (l ++ [n]) = vis l ++ vi n := by
 induction l with
 | nil => simp only [List.nil_append, vis, ba_nil, nil_ba]
 | cons a l ih => simp only [List.cons_append, vis, ih, ByteArray.append_assoc]
theorem rts_snoc (l : List R3) (p : R3) : rts (l ++ [p]) = rts l ++ rt p := by
 induction l with
 | nil => simp only [List.nil_append, rts, ba_nil, nil_ba]
 | cons a l ih => simp only [List.cons_append, rts, ih, ByteArray.append_assoc]
theorem vi_size (n : Int) (h : n ≤ 1000000000) : (vi n).size ≤ 1000000001 := by
 have := vbs_len n.toNat
 show (vbs n.toNat).toArray.size ≤ _
 simp only [List.size_toArray]
 omega
theorem var_s (n : Int) (h0 : 0 ≤ n) (h1 : n ≤ 1000000000) : ∃ x : ByteArray, Hid (x = vi n) ∧ x.size ≤ 1000000001 ∧ Hid (∀ w, Calls Tryz.prog 88 #[.int .i64 n] w fun e w' => e = .returned (.string x) ∧ Below w.heap.size w w') := by
 obtain ⟨k, rfl⟩ : ∃ k : Nat, n = k := ⟨n.toNat, by omega⟩
 exact ⟨vi k, rfl, vi_size _ h1, fun w => l01Var_any k w (by omega)⟩
theorem take_next {α : Type} (l : List α) (i : Nat) (h : i < l.length) : l.take (i + 1) = l.take i ++ [l[i]] := List.take_succ_eq_append_getElem h
theorem okp_in {p : R3} (h : okp p = true) : (0 ≤ p.1 ∧ p.1 ≤ 1) ∧ (0 ≤ p.2.1 ∧ p.2.1 ≤ 100000) ∧ (0 ≤ p.2.2 ∧ p.2.2 ≤ 2) := by
 simp only [okp, rgOk, stOk, Bool.and_eq_true, decide_eq_true_eq] at h
 omega
theorem mlOk_in {g u : Int} {l : List R3} {t : ByteArray} (h : mlOk g u l t = true) : (1 ≤ g ∧ g ≤ 9999) ∧ (1 ≤ u ∧ u ≤ 9999) ∧ l.length = 3 ∧ (∀ p ∈ l, okp p = true) ∧ t.size ≤ 60 := by
 simp only [mlOk, gok, flOk, Bool.and_eq_true, decide_eq_true_eq, List.all_eq_true] at h
 exact ⟨h.1, h.2.1, h.2.2.1.1, h.2.2.1.2, by omega⟩
def mtR (g u : Int) (l : List R3) (t : ByteArray) : Value := if mlOk g u l t = true then .tuple #[.string (mtx g u l t), .bool true] else .tuple #[.string ⟨#[]⟩, .bool false]
theorem implMailOk_l (g u : Int) (ao : Option Addr) (n cap : Nat) (l : List R3) (t : ByteArray) (hl : l.length = n) (hn : n ≤ 1048576) : ∃ p : Bool, Hid (p = mlOk g u l t) ∧ Hid (∀ w, Rs w ao l → Calls Tryz.prog 101 #[.agg #[.int .i64 g, .int .i64 u, .slice ao n cap, .string t]] w fun e w' => e = .returned (.bool p) ∧ Below w.heap.size w w') :=
 ⟨_, rfl, fun w h => implMailOk_any g u ao n cap l t w hl hn h⟩
theorem specMailOk_l (g u : Int) (ao : Option Addr) (n cap : Nat) (l : List R3) (t : ByteArray) (hl : l.length = n) (hn : n ≤ 1048576) : ∃ p : Bool, Hid (p = mlOk g u l t) ∧ Hid (∀ w, Rs w ao l → Calls Tryz.prog 65 #[.agg #[.int .i64 g, .int .i64 u, .slice ao n cap, .string t]] w fun e w' => e = .returned (.bool p) ∧ Below w.heap.size w w') :=
 ⟨_, rfl, fun w h => specMailOk_any g u ao n cap l t w hl hn h⟩
set_option maxHeartbeats 1600000 in
set_option maxRecDepth 100000 in
theorem specMailText_any (g u : Int) (ao : Option Addr) (n cap : Nat) (l : List R3) (t : ByteArray) (w : World) (hl : l.length = n) (hn : n ≤ 1048576) (hr : Rs w ao l) :
  Calls Tryz.prog 108 #[.agg #[.int .i64 g, .int .i64 u, .slice ao n cap, .string t]] w fun e w' => e = .returned (mtR g u l t) ∧ Below w.heap.size w w' := by
 obtain ⟨q, hq, cq⟩ := specMailOk_l g u ao n cap l t hl hn
 obtain ⟨W0, hW0⟩ : ∃ W0, w.alloc (.cells #[.int .i64 g, .int .i64 u, .slice ao n cap, .string t] 78) = W0 := ⟨_, rfl⟩
 have A0 : Hid (Mg W0 w.heap.size 78 g u (.slice ao n cap) t) := by subst hW0; exact Mg.new _ _ _ _ _ _
 have B0 : Hid (Below w.heap.size w W0) := by subst hW0; exact bpush (bre _) _
 have HR := hid (hr.later B0.out)
 have HL := hid hl
 have c0 := A0.out.cells
 clear hr hl
 cases q
 ·have HE : Hid (mtR g u l t = .tuple #[.string ⟨#[]⟩, .bool false]) := by show _ = _; rw [mtR, ← hq.out]; rfl
  rw [HE.out]
  go_enter Tryz.func108, Tryz.ntmps108
  go_wp2_with fail
  refine (cq.out _ HR.out).mono ?_; rintro e w1 ⟨rfl, hb1⟩
  go_wp2
  go_ret2
  exact ⟨rfl, btr B0.out hb1⟩
 ·have HE : Hid (mtR g u l t = .tuple #[.string (mtx g u l t), .bool true]) := by show _ = _; rw [mtR, ← hq.out]; rfl
  rw [HE.out]
  obtain ⟨hg, hu, h3, hp, ht⟩ := mlOk_in hq.out.symm
  have HP := hid hp
  have HN : Hid (n = 3) := HL.out.symm.trans h3
  clear hp h3
  obtain ⟨s1, e1, z1, c1⟩ := var_s g (by omega) (by omega)
  obtain ⟨s2, e2, z2, c2⟩ := var_s u (by omega) (by omega)
  obtain ⟨s4, e4, z4, c4⟩ := var_s t.size (by omega) (by omega)
  go_enter Tryz.func108, Tryz.ntmps108
  go_wp2_with fail
  refine (cq.out _ HR.out).mono ?_; rintro e w1 ⟨rfl, hb1⟩
  have B1 := hid (btr B0.out hb1)
  have A1 := hid (A0.out.later hb1)
  have HR1 := hid (HR.out.later hb1)
  clear hb1 c0 hW0 A0 HR
  have HS : Hid (∀ W, Below w1.heap.size w1 W → (W.cell? ⟨w.heap.size, 0, none⟩ = some (.int .i64 g) ∧ W.cell? ⟨w.heap.size, 1, none⟩ = some (.int .i64 u) ∧ W.cell? ⟨w.heap.size, 2, none⟩ = some (.slice ao n cap) ∧ W.cell? ⟨w.heap.size, 3, none⟩ = some (.string t))) := fun W h => (A1.out.later h).cells
  go_wp2_with fail
  have n12 : (s1.size + s2.size > 9223372036854775807) = False := eq_false (by omega)
  go_region_held3 (fun W => (W.cell? ⟨w.heap.size, 0, none⟩ = some (.int .i64 g) ∧ W.cell? ⟨w.heap.size, 1, none⟩ = some (.int .i64 u) ∧ W.cell? ⟨w.heap.size, 2, none⟩ = some (.slice ao n cap) ∧ W.cell? ⟨w.heap.size, 3, none⟩ = some (.string t)))
   ((refine HS.out _ ?_; repeat (first | exact bdr (bre _) | refine btr ?_ (by assumption))))
   ((first
     | (go_at_call 88; (with_reducible refine (c1.out _).mono ?_); rintro e w2 ⟨rfl, hb2⟩)
     | (go_at_call 88; (with_reducible refine (c2.out _).mono ?_); rintro e w3 ⟨rfl, hb3⟩)))
  have B3' : Hid (Below w1.heap.size w1 w3) := by show Below _ _ _; repeat (first | exact bdr (bre _) | refine btr ?_ (by assumption))
  have B3 := hid (btr B1.out B3'.out)
  have A3 := hid (A1.out.later B3'.out)
  have HR3 := hid (HR1.out.later B3'.out)
  clear hb2 hb3 B3' A1 HR1 B1 HS
  go_wp2
  go_loopw [4, 5] (fun sv iv wr => ∃ (i : Nat) (s : ByteArray), i ≤ n ∧ iv = .int .i64 (i : Int) ∧ sv = .string s ∧ Hid (s = vi g ++ vi u ++ rts (l.take i)) ∧ s.size ≤ 2000000002 + i * 3000000003 ∧ Below w3.heap.size w3 wr) (fun _ iv _ => n - (intOf iv).toNat)
  case atStart => exact ⟨0, s1 ++ s2, Nat.zero_le _, rfl, rfl, by show _ = _; rw [List.take_zero, rts, nil_ba, e1.out, e2.out], by rw [ByteArray.size_append]; omega, bre _⟩
  case round =>
   obtain ⟨i, s, hi, rfl, rfl, HS, hs, hb⟩ := hrel
   have HB := hid hb
   have d := (A3.out.later hb).cells
   clear hb
   by_cases hlt : i < n
   ·have hil : i < l.length := by rw [HL.out]; exact hlt
    have HT : Hid (l.take (i + 1) = l.take i ++ [l[i]]) := take_next l i hil
    obtain ⟨k, o, rfl, hk, c⟩ := (HR3.out.later HB.out).at hil
    have hok := okp_in (HP.out l[i] (List.getElem_mem hil))
    obtain ⟨p, hp⟩ : ∃ p, l[i] = p := ⟨_, rfl⟩
    rw [hp] at c hok
    obtain ⟨v, x, y⟩ := p
    have HEP := hid hp
    clear hp
    simp only at hok
    obtain ⟨t1, f1, y1, d1⟩ := var_s v (by omega) (by omega)
    obtain ⟨t2, f2, y2, d2⟩ := var_s x (by omega) (by omega)
    obtain ⟨t3, f3, y3, d3⟩ := var_s y (by omega) (by omega)
    have hb9 : i < 3 := by have := HN.out; omega
    have hI : (0 : Int) ≤ (i : Int) ∧ (i : Int) < (n : Int) := by omega
    clear hok
    have HS3 : Hid (∀ W, Below wr.heap.size wr W → (W.cell? ⟨w.heap.size, 0, none⟩ = some (.int .i64 g) ∧ W.cell? ⟨w.heap.size, 1, none⟩ = some (.int .i64 u) ∧ W.cell? ⟨w.heap.size, 2, none⟩ = some (.slice (some ⟨k, o, none⟩) n cap) ∧ W.cell? ⟨w.heap.size, 3, none⟩ = some (.string t)) ∧ (W.cell? ⟨k, o + i * 3, none⟩ = some (.int .i64 v) ∧ W.cell? ⟨k, o + i * 3 + 1, none⟩ = some (.int .i64 x) ∧ W.cell? ⟨k, o + i * 3 + 2, none⟩ = some (.int .i64 y))) :=
     fun W h => ⟨(A3.out.later (btr HB.out h)).cells, (h.cell (p := ⟨k, _, none⟩) hk).trans c.1, (h.cell (p := ⟨k, _, none⟩) hk).trans c.2.1, (h.cell (p := ⟨k, _, none⟩) hk).trans c.2.2⟩
    clear c
    go_wp2_with fail
    clear d
    have n1 : (s.size + t1.size > 9223372036854775807) = False := eq_false (by omega)
    have n2 : (s.size + t1.size + t2.size > 9223372036854775807) = False := eq_false (by omega)
    have n3 : (s.size + t1.size + t2.size + t3.size > 9223372036854775807) = False := eq_false (by omega)
    go_region_held3 (fun W => (W.cell? ⟨w.heap.size, 0, none⟩ = some (.int .i64 g) ∧ W.cell? ⟨w.heap.size, 1, none⟩ = some (.int .i64 u) ∧ W.cell? ⟨w.heap.size, 2, none⟩ = some (.slice (some ⟨k, o, none⟩) n cap) ∧ W.cell? ⟨w.heap.size, 3, none⟩ = some (.string t)) ∧ (W.cell? ⟨k, o + i * 3, none⟩ = some (.int .i64 v) ∧ W.cell? ⟨k, o + i * 3 + 1, none⟩ = some (.int .i64 x) ∧ W.cell? ⟨k, o + i * 3 + 2, none⟩ = some (.int .i64 y)))
     ((refine HS3.out _ ?_; repeat (first | exact bdr (bre _) | refine btr ?_ (by assumption))))
     ((first
       | (go_at_call 88; (with_reducible refine (d1.out _).mono ?_); rintro e w4 ⟨rfl, hb4⟩)
       | (go_at_call 88; (with_reducible refine (d2.out _).mono ?_); rintro e w5 ⟨rfl, hb5⟩)
       | (go_at_call 88; (with_reducible refine (d3.out _).mono ?_); rintro e w6 ⟨rfl, hb6⟩)))
    have B6 : Hid (Below wr.heap.size wr w6) := by show Below _ _ _; repeat (first | exact bdr (bre _) | refine btr ?_ (by assumption))
    clear hb4 hb5 hb6 HS3
    go_wp2
    go_roundw
    case rel => exact ⟨i + 1, s ++ t1 ++ t2 ++ t3, by omega, by go_num, rfl, by show _ = _; rw [HT.out, HEP.out, rts_snoc, HS.out, f1.out, f2.out, f3.out, rt]; simp only [ByteArray.append_assoc], by simp only [ByteArray.size_append]; omega, btr HB.out B6.out⟩
    case measure => simp [intOf]; omega
   ·have HE : Hid (l.take i = l) := List.take_of_length_le (by rw [HL.out]; omega)
    have hs' : s.size ≤ 100000000000 := by have := HN.out; omega
    have HS3 : Hid (∀ W, Below wr.heap.size wr W → (W.cell? ⟨w.heap.size, 0, none⟩ = some (.int .i64 g) ∧ W.cell? ⟨w.heap.size, 1, none⟩ = some (.int .i64 u) ∧ W.cell? ⟨w.heap.size, 2, none⟩ = some (.slice ao n cap) ∧ W.cell? ⟨w.heap.size, 3, none⟩ = some (.string t))) := fun W h => (A3.out.later (btr HB.out h)).cells
    go_wp2_with fail
    clear d
    have n1 : (s.size + s4.size > 9223372036854775807) = False := eq_false (by omega)
    have n2 : (s.size + s4.size + t.size > 9223372036854775807) = False := eq_false (by omega)
    go_region_held3 (fun W => (W.cell? ⟨w.heap.size, 0, none⟩ = some (.int .i64 g) ∧ W.cell? ⟨w.heap.size, 1, none⟩ = some (.int .i64 u) ∧ W.cell? ⟨w.heap.size, 2, none⟩ = some (.slice ao n cap) ∧ W.cell? ⟨w.heap.size, 3, none⟩ = some (.string t)))
     ((refine HS3.out _ ?_; repeat (first | exact bdr (bre _) | refine btr ?_ (by assumption))))
     ((go_at_call 88; (with_reducible refine (c4.out _).mono ?_); rintro e w4 ⟨rfl, hb4⟩))
    have B4 : Hid (Below wr.heap.size wr w4) := by show Below _ _ _; repeat (first | exact bdr (bre _) | refine btr ?_ (by assumption))
    clear hb4 HS3
    go_wp2
    go_ret2
    exact ⟨ret_strok (by rw [HS.out, HE.out, e4.out, mtx]), btr B3.out (btr HB.out B4.out)⟩
def rd (s : ByteArray) (a : Int) : Option (Int × Int) :=
 if 0 ≤ a ∧ a ≤ s.size then (rv 5 (s.data.toList.drop a.toNat) 0 0).map fun p => ((p.1 : Int), a + (p.2 : Int)) else none
def rsh (s : ByteArray) (a : Int) : Option (ByteArray × Int) :=
 (rd s a).bind fun p => if p.1 ≤ 20000 ∧ p.2 + p.1 ≤ s.size then some (s.extract p.2.toNat (p.2 + p.1).toNat, p.2 + p.1) else none
def rdT (s : ByteArray) (a : Int) : Value := match rd s a with
 | some p => .tuple #[.int .i64 p.1, .int .i64 p.2, .bool true]
 | none => .tuple #[.int .i64 0, .int .i64 0, .bool false]
def rshT (s : ByteArray) (a : Int) : Value := match rsh s a with
 | some p => .tuple #[.string p.1, .int .i64 p.2, .bool true]
 | none => .tuple #[.string ⟨#[]⟩, .int .i64 0, .bool false]
theorem rd_out {s : ByteArray} {a : Int} (h : a < 0 ∨ s.size < a) : rd s a = none := by unfold rd; rw [if_neg (by omega)]
theorem rd_in {s : ByteArray} {a : Nat} (h : a ≤ s.size) : rd s a = (rv 5 (s.data.toList.drop a) 0 0).map fun p => ((p.1 : Int), (a : Int) + (p.2 : Int)) := by
 unfold rd; rw [if_pos (by omega)]; rfl
theorem rd_some {s : ByteArray} {a n c : Int} (h : rd s a = some (n, c)) : 0 ≤ n ∧ n ≤ 1000000000 ∧ 0 ≤ a ∧ a ≤ c ∧ c ≤ s.size := by
 by_cases ha : 0 ≤ a ∧ a ≤ s.size
 ·obtain ⟨k, rfl⟩ : ∃ k : Nat, a = k := ⟨a.toNat, by omega⟩
  rw [rd_in (by omega)] at h
  cases hr : rv 5 (s.data.toList.drop k) 0 0 with
  | none => rw [hr] at h; cases h
  | some p =>
   obtain ⟨m, d⟩ := p
   rw [hr] at h
   simp only [Option.map_some, Option.some.injEq, Prod.mk.injEq] at h
   have := rv_place (by omega) hr
   omega
 ·rw [rd_out (by omega)] at h; cases h
theorem rdT_rv {s : ByteArray} {a : Nat} {e : Ending} (h : a ≤ s.size) (he : RvEnd (rv 5 (s.data.toList.drop a) 0 0) a e) : e = .returned (rdT s a) := by
 unfold rdT
 rw [rd_in h]
 cases hr : rv 5 (s.data.toList.drop a) 0 0 with
 | none => rw [hr] at he; exact he
 | some p =>
  obtain ⟨m, d⟩ := p
  rw [hr] at he
  simp only [RvEnd] at he
  rw [he]; simp
theorem specRd (s : ByteArray) (a : Int) (w : World) (hs : s.size ≤ 1048576) : Calls Tryz.prog 92 #[.string s, .int .i64 a] w fun e w' => e = .returned (rdT s a) ∧ Below w.heap.size w w' := by
 by_cases ha : 0 ≤ a ∧ a ≤ s.size
 ·obtain ⟨k, rfl⟩ : ∃ k : Nat, a = k := ⟨a.toNat, by omega⟩
  exact (specRead_any s k w hs (by omega)).mono fun e w' h => ⟨rdT_rv (by omega) h.1, h.2⟩
 ·have e : rdT s a = .tuple #[.int .i64 0, .int .i64 0, .bool false] := by unfold rdT; rw [rd_out (by omega)]
  rw [e]
  exact (specRead_no s a w hs (by omega)).mono fun e w' h => ⟨h.1, h.2 ▸ bre _⟩
theorem implRd (s : ByteArray) (a : Int) (w : World) (hs : s.size ≤ 1048576) : Calls Tryz.prog 126 #[.string s, .int .i64 a] w fun e w' => e = .returned (rdT s a) ∧ Below w.heap.size w w' := by
 by_cases ha : 0 ≤ a ∧ a ≤ s.size
 ·obtain ⟨k, rfl⟩ : ∃ k : Nat, a = k := ⟨a.toNat, by omega⟩
  exact (implRead_any s k w hs (by omega)).mono fun e w' h => ⟨rdT_rv (by omega) h.1, h.2⟩
 ·have e : rdT s a = .tuple #[.int .i64 0, .int .i64 0, .bool false] := by unfold rdT; rw [rd_out (by omega)]
  rw [e]
  exact (implRead_no s a w (by omega)).mono fun e w' h => ⟨h.1, h.2 ▸ bre _⟩
theorem rsh_ways (s : ByteArray) (a : Int) :
  (((a < 0 ∨ s.size < a) ∨ (0 ≤ a ∧ a ≤ s.size ∧ rv 5 (s.data.toList.drop a.toNat) 0 0 = none)) ∧ rshT s a = .tuple #[.string ⟨#[]⟩, .int .i64 0, .bool false]) ∨
  (∃ k n d : Nat, a = k ∧ k ≤ s.size ∧ rv 5 (s.data.toList.drop k) 0 0 = some (n, d) ∧ (20000 < n ∨ s.size < k + d + n) ∧ rshT s a = .tuple #[.string ⟨#[]⟩, .int .i64 0, .bool false]) ∨
  (∃ k n d : Nat, a = k ∧ k ≤ s.size ∧ rv 5 (s.data.toList.drop k) 0 0 = some (n, d) ∧ n ≤ 20000 ∧ k + d + n ≤ s.size ∧ rshT s a = .tuple #[.string (s.extract (k + d) (k + d + n)), .int .i64 (k + d + n : Nat), .bool true]) := by
 by_cases ha : 0 ≤ a ∧ a ≤ s.size
 ·obtain ⟨k, rfl⟩ : ∃ k : Nat, a = k := ⟨a.toNat, by omega⟩
  have e := rd_in (s := s) (a := k) (by omega)
  cases hr : rv 5 (s.data.toList.drop k) 0 0 with
  | none =>
   rw [hr] at e
   exact Or.inl ⟨Or.inr ⟨by omega, by omega, by simpa using hr⟩, by unfold rshT rsh; rw [e]; rfl⟩
  | some p =>
   obtain ⟨n, d⟩ := p
   rw [hr] at e
   simp only [Option.map_some] at e
   by_cases h2 : n ≤ 20000 ∧ k + d + n ≤ s.size
   ·refine Or.inr (Or.inr ⟨k, n, d, rfl, by omega, hr, h2.1, h2.2, ?_⟩)
    unfold rshT rsh
    rw [e]
    simp only [Option.bind_some]
    rw [if_pos (by omega)]
    have e1 : ((k : Int) + (d : Int)).toNat = k + d := by omega
    have e2 : ((k : Int) + (d : Int) + (n : Int)).toNat = k + d + n := by omega
    have e3 : (k : Int) + (d : Int) + (n : Int) = ((k + d + n : Nat) : Int) := by omega
    rw [e1, e2, e3]
   ·refine Or.inr (Or.inl ⟨k, n, d, rfl, by omega, hr, by omega, ?_⟩)
    unfold rshT rsh
    rw [e]
    simp only [Option.bind_some]
    rw [if_neg (by omega)]
 ·exact Or.inl ⟨Or.inl (by omega), by unfold rshT rsh; rw [rd_out (by omega)]; rfl⟩
theorem specRsh (s : ByteArray) (a : Int) (w : World) (hs : s.size ≤ 1048576) : Calls Tryz.prog 109 #[.string s, .int .i64 a] w fun e w' => e = .returned (rshT s a) ∧ Below w.heap.size w w' := by
 rcases rsh_ways s a with ⟨h, e⟩ | ⟨k, n, d, rfl, hk, hr, hb, e⟩ | ⟨k, n, d, rfl, hk, hr, h2, h3, e⟩
 ·rw [e]; exact specRShort_no s a w hs h
 ·rw [e]; exact specRShort_bad s k n d w hs hk hr hb
 ·rw [e]; exact specRShort_yes s k n d w hs hk hr h2 h3
theorem implRsh (s : ByteArray) (a : Int) (w : World) (hs : s.size ≤ 1048576) : Calls Tryz.prog 143 #[.string s, .int .i64 a] w fun e w' => e = .returned (rshT s a) ∧ Below w.heap.size w w' := by
 rcases rsh_ways s a with ⟨h, e⟩ | ⟨k, n, d, rfl, hk, hr, hb, e⟩ | ⟨k, n, d, rfl, hk, hr, h2, h3, e⟩
 ·rw [e]; exact implRShort_no s a w hs h
 ·rw [e]; exact implRShort_bad s k n d w hs hk hr hb
 ·rw [e]; exact implRShort_yes s k n d w hs hk hr h2 h3
end Go.Proofs.YtdkedgedkgabnaaGreatDoor
