/- Mail, MailTo, MailEq, MailJoin, MailJoinB, MailJoinC, MailMk, Gpush, in one text. -/
import Derived.Test.YtmpcmllfgogegaaMd
import Derived.Lib.BufferMore
namespace Go.Proofs.Ytmpcmllfgogegaa
open Go.RowKit

/-- Block k holds a mail. -/
def Mg (W : World) (k ty : Nat) (g u : Int) (f : Value) (t : ByteArray) : Prop := W.heap[k]? = some (.cells #[.int .i64 g, .int .i64 u, f, .string t] ty (0, 0))
theorem Mg.new (w : World) (ty : Nat) (g u : Int) (f : Value) (t : ByteArray) : Mg (w.alloc (.cells #[.int .i64 g, .int .i64 u, f, .string t] ty)) w.heap.size ty g u f t := heap_alloc_new w _
theorem Mg.later {W W' : World} {k ty : Nat} {g u : Int} {f : Value} {t : ByteArray} (h : Mg W k ty g u f t) (hb : Below W.heap.size W W') : Mg W' k ty g u f t := (hb.block k (Array.getElem?_eq_some_iff.1 h).1).trans h
theorem Mg.lt {W : World} {k ty : Nat} {g u : Int} {f : Value} {t : ByteArray} (h : Mg W k ty g u f t) : k < W.heap.size := (Array.getElem?_eq_some_iff.1 h).1
theorem Mg.cells {W : World} {k ty : Nat} {g u : Int} {f : Value} {t : ByteArray} (h : Mg W k ty g u f t) : W.cell? ⟨k, 0, none⟩ = some (.int .i64 g) ∧ W.cell? ⟨k, 1, none⟩ = some (.int .i64 u) ∧ W.cell? ⟨k, 2, none⟩ = some f ∧ W.cell? ⟨k, 3, none⟩ = some (.string t) :=
  ⟨cell_of_row W k 0 _ _ _ h, cell_of_row W k 1 _ _ _ h, cell_of_row W k 2 _ _ _ h, cell_of_row W k 3 _ _ _ h⟩
theorem Mg.loose {W : World} {k ty : Nat} {g u : Int} {f : Value} {t : ByteArray} (h : Mg W k ty g u f t) : W.frozen? ⟨k, 0, none⟩ = false ∧ W.frozen? ⟨k, 1, none⟩ = false ∧ W.frozen? ⟨k, 2, none⟩ = false ∧ W.frozen? ⟨k, 3, none⟩ = false :=
  ⟨frozen_of_row W k 0 _ _ h, frozen_of_row W k 1 _ _ h, frozen_of_row W k 2 _ _ h, frozen_of_row W k 3 _ _ h⟩
theorem Mg.s0 {W : World} {k ty : Nat} {g u : Int} {f : Value} {t : ByteArray} (h : Mg W k ty g u f t) (g' : Int) : Mg (W.setCell ⟨k, 0, none⟩ (.int .i64 g')) k ty g' u f t := heap_setCell_same W k 0 _ _ (.int .i64 g') h
theorem Mg.s1 {W : World} {k ty : Nat} {g u : Int} {f : Value} {t : ByteArray} (h : Mg W k ty g u f t) (u' : Int) : Mg (W.setCell ⟨k, 1, none⟩ (.int .i64 u')) k ty g u' f t := heap_setCell_same W k 1 _ _ (.int .i64 u') h
theorem Mg.s2 {W : World} {k ty : Nat} {g u : Int} {f : Value} {t : ByteArray} (h : Mg W k ty g u f t) (f' : Value) : Mg (W.setCell ⟨k, 2, none⟩ f') k ty g u f' t := heap_setCell_same W k 2 _ _ f' h
theorem Mg.s3 {W : World} {k ty : Nat} {g u : Int} {f : Value} {t : ByteArray} (h : Mg W k ty g u f t) (t' : ByteArray) : Mg (W.setCell ⟨k, 3, none⟩ (.string t')) k ty g u f t' := heap_setCell_same W k 3 _ _ (.string t') h
/-- A store into another block. -/
theorem heap_setCell_far {W : World} {k j i : Nat} {o : Obj} (u : Value) (h : W.heap[k]? = some o) (hk : k ≠ j) : (W.setCell ⟨j, i, none⟩ u).heap[k]? = some o := (Below.heap_setCell _ _ _ _ hk).trans h
theorem Mg.far {W : World} {k j i ty : Nat} {g u : Int} {f : Value} {t : ByteArray} (h : Mg W k ty g u f t) (x : Value) (hk : k ≠ j) : Mg (W.setCell ⟨j, i, none⟩ x) k ty g u f t := heap_setCell_far x h hk

theorem bsk {a w : World} (h : Below a.heap.size a w) {k : Nat} (hk : a.heap.size ≤ k) (i : Nat) (x : Value) : Below a.heap.size a (w.setCell ⟨k, i, none⟩ x) := bset h hk x
def gok (n : Int) : Bool := decide (1 ≤ n) && decide (n ≤ 9999)
def mlOk (g u : Int) (l : List R3) (t : ByteArray) : Bool := gok g && (gok u && (flOk l && decide ((t.size : Int) ≤ 60)))

end Go.Proofs.Ytmpcmllfgogegaa

namespace Go.Proofs.Ytmpcmllfgogegaa
open Go.RowKit

/-- Three blocks: a mail as it came in, and two that are new. -/
theorem three_mails (w : World) (ta tb tc : Nat) (g u g1 u1 g2 u2 : Int) (f f1 f2 : Value) (t t1 t2 : ByteArray) (W0 : World) (h : (((w.alloc (.cells #[.int .i64 g, .int .i64 u, f, .string t] ta)).alloc (.cells #[.int .i64 g1, .int .i64 u1, f1, .string t1] tb)).alloc (.cells #[.int .i64 g2, .int .i64 u2, f2, .string t2] tc)) = W0) :
    Mg W0 w.heap.size ta g u f t ∧ Mg W0 (w.heap.size + 1) tb g1 u1 f1 t1 ∧ Mg W0 (w.heap.size + 1 + 1) tc g2 u2 f2 t2 ∧ Below w.heap.size w W0 := by
  subst h
  exact ⟨(Mg.new w ta g u f t).later (bpush (bpush (bre _) _) _), Mg.later (by simpa using Mg.new (w.alloc (.cells #[.int .i64 g, .int .i64 u, f, .string t] ta)) tb g1 u1 f1 t1) (bpush (bre _) _),
    by simpa using Mg.new ((w.alloc (.cells #[.int .i64 g, .int .i64 u, f, .string t] ta)).alloc (.cells #[.int .i64 g1, .int .i64 u1, f1, .string t1] tb)) tc g2 u2 f2 t2, bpush (bpush (bpush (bre _) _) _) _⟩

/-- Two blocks: two mails. -/
theorem two_mails (w : World) (ta tb : Nat) (g u g1 u1 : Int) (f f1 : Value) (t t1 : ByteArray) (W0 : World) (h : ((w.alloc (.cells #[.int .i64 g, .int .i64 u, f, .string t] ta)).alloc (.cells #[.int .i64 g1, .int .i64 u1, f1, .string t1] tb)) = W0) :
    Mg W0 w.heap.size ta g u f t ∧ Mg W0 (w.heap.size + 1) tb g1 u1 f1 t1 ∧ Below w.heap.size w W0 := by
  subst h
  exact ⟨(Mg.new w ta g u f t).later (bpush (bre _) _), by simpa using Mg.new (w.alloc (.cells #[.int .i64 g, .int .i64 u, f, .string t] ta)) tb g1 u1 f1 t1, bpush (bpush (bre _) _) _⟩

end Go.Proofs.Ytmpcmllfgogegaa

namespace Go.Proofs.Ytmpcmllfgogegaa
open Go.RowKit

theorem take_grow {l m : List R3} {i : Nat} (hl : i < l.length) (hm : i < m.length) (h : l.take i = m.take i) (e : l[i] = m[i]) : l.take (i + 1) = m.take (i + 1) := by
  rw [List.take_succ_eq_append_getElem hl, List.take_succ_eq_append_getElem hm, h, e]
theorem ne_at {l m : List R3} {i : Nat} (hl : i < l.length) (hm : i < m.length) (e : ¬ l[i] = m[i]) : decide (l = m) = false := by
  apply decide_eq_false; rintro rfl; exact e rfl

theorem ne_three {v t b v' t' b' : Int} (h : ¬ ((v, t, b) : R3) = (v', t', b')) : (v == v') = false ∨ (v = v' ∧ (t == t') = false) ∨ (v = v' ∧ t = t' ∧ (b == b') = false) := by
  by_cases h1 : v = v'
  · by_cases h2 : t = t'
    · by_cases h3 : b = b'
      · exact absurd (by rw [h1, h2, h3]) h
      · exact Or.inr (Or.inr ⟨h1, h2, beq_eq_false_iff_ne.2 h3⟩)
    · exact Or.inr (Or.inl ⟨h1, beq_eq_false_iff_ne.2 h2⟩)
  · exact Or.inl (beq_eq_false_iff_ne.2 h1)
def smail (g u : Int) (l : List R3) (t : ByteArray) (g' u' : Int) (m : List R3) (t' : ByteArray) : Bool := decide (g = g') && decide (u = u') && decide (l = m) && decide (t = t')

theorem bytes_inj {t t' : ByteArray} (h : t.toList = t'.toList) : t = t' := by
  rw [ByteArray.toList_eq, ByteArray.toList_eq] at h
  cases t; cases t'; simp only [ByteArray.mk.injEq]; exact Array.toList_inj.1 h
theorem bytes_ne {t t' : ByteArray} (h : ¬ t = t') : (t.toList == t'.toList) = false := beq_eq_false_iff_ne.2 fun e => h (bytes_inj e)

end Go.Proofs.Ytmpcmllfgogegaa

namespace Go.Proofs.Ytmpcmllfgogegaa
open Go.RowKit

/-- The greater text. -/
def mxs (x y : ByteArray) : ByteArray := if Op.bytesLess x.toList y.toList = true then y else x
theorem less_tri : ∀ (x y : List UInt8), Op.bytesLess x y = !(Op.bytesLess y x || y == x)
  | [], [] => rfl
  | _ :: _, [] => by simp [Op.bytesLess]
  | [], _ :: _ => by simp [Op.bytesLess]
  | a :: x, b :: y => by
    have ih := less_tri x y
    simp only [Op.bytesLess, List.cons_beq_cons]
    have h3 : a.toNat < b.toNat ∨ a.toNat = b.toNat ∨ b.toNat < a.toNat := by omega
    rcases h3 with h | h | h
    · have h1 : a < b := UInt8.lt_iff_toNat_lt.2 h
      have h2 : ¬ b < a := fun k => by have := UInt8.lt_iff_toNat_lt.1 k; omega
      have h4 : (b == a) = false := beq_eq_false_iff_ne.2 (fun e => by rw [e] at h; omega)
      simp [h1, h2, h4]
    · obtain rfl := UInt8.toNat_inj.1 h
      have h1 : ¬ a < a := fun k => by have := UInt8.lt_iff_toNat_lt.1 k; omega
      simp [h1, ih]
    · have h1 : b < a := UInt8.lt_iff_toNat_lt.2 h
      have h2 : ¬ a < b := fun k => by have := UInt8.lt_iff_toNat_lt.1 k; omega
      have h4 : (a == b) = false := beq_eq_false_iff_ne.2 (fun e => by rw [e] at h; omega)
      simp [h1, h2, h4]
theorem run_max_str {P : Program} (w : World) (ts : Array TypeId) (ty : TypeId) (x y : ByteArray) : (Builtin.max_ ts ty #[.string x, .string y]).run P w = .ok (.string (mxs x y)) w := by
  by_cases h : Op.bytesLess x.toList y.toList = true
  · simp [Builtin.max_, Builtin.max2, Op.stringOp, asBool, mxs, h]
  · simp [Builtin.max_, Builtin.max2, Op.stringOp, asBool, mxs, h]

end Go.Proofs.Ytmpcmllfgogegaa

namespace Go.Proofs.Ytmpcmllfgogegaa
open Go.RowKit

end Go.Proofs.Ytmpcmllfgogegaa

namespace Go.Proofs.Ytmpcmllfgogegaa
open Go.RowKit

def jmu (g u g' u' : Int) : Int := if g = g' then (if u < u' then u' else u) else u
def jml (g : Int) (l : List R3) (g' : Int) (m : List R3) : List R3 := if g = g' then jl l m else l
def jmt (g : Int) (t : ByteArray) (g' : Int) (t' : ByteArray) : ByteArray := if g = g' then mxs t t' else t

theorem far4 {W : World} {k j ty : Nat} {g u : Int} {f : Value} {t : ByteArray} (h : Mg W k ty g u f t) (hk : k ≠ j) (g' u' : Int) (f' : Value) (t' : ByteArray) : Mg ((((W.setCell ⟨j, 0, none⟩ (.int .i64 g')).setCell ⟨j, 1, none⟩ (.int .i64 u')).setCell ⟨j, 2, none⟩ f').setCell ⟨j, 3, none⟩ (.string t')) k ty g u f t :=
  (((h.far _ hk).far _ hk).far _ hk).far _ hk
theorem set4 {W : World} {k ty : Nat} {g u : Int} {f : Value} {t : ByteArray} (h : Mg W k ty g u f t) (g' u' : Int) (f' : Value) (t' : ByteArray) : Mg ((((W.setCell ⟨k, 0, none⟩ (.int .i64 g')).setCell ⟨k, 1, none⟩ (.int .i64 u')).setCell ⟨k, 2, none⟩ f').setCell ⟨k, 3, none⟩ (.string t')) k ty g' u' f' t' :=
  (((h.s0 g').s1 u').s2 f').s3 t'
theorem bel4 {a w : World} (h : Below a.heap.size a w) {k : Nat} (hk : a.heap.size ≤ k) (g' u' : Int) (f' : Value) (t' : ByteArray) : Below a.heap.size a ((((w.setCell ⟨k, 0, none⟩ (.int .i64 g')).setCell ⟨k, 1, none⟩ (.int .i64 u')).setCell ⟨k, 2, none⟩ f').setCell ⟨k, 3, none⟩ (.string t')) :=
  bsk (bsk (bsk (bsk h hk _ _) hk _ _) hk _ _) hk _ _

end Go.Proofs.Ytmpcmllfgogegaa

namespace Go.Proofs.Ytmpcmllfgogegaa
open Go.RowKit

theorem Mg.grown {W W' : World} {k ty : Nat} {g u : Int} {f : Value} {t : ByteArray} {r : Option Nat} (h : Mg W k ty g u f t) (hg : W.grownBy W' r) (hk : some k ≠ r) : Mg W' k ty g u f t := (hg.block k h.lt hk).trans h

theorem below_grownR {B : Nat} {a w : World} {r : Option Nat} (h : a.grownBy w r) (hB : ∀ j, r = some j → B ≤ j) (hs : B ≤ a.heap.size) : Below B a w :=
  ⟨h.os, h.tape, h.output, h.size, fun k hk => h.block k (by omega) (fun e => by have := hB k e.symm; omega)⟩
end Go.Proofs.Ytmpcmllfgogegaa

namespace Go.Proofs.Ytmpcmllfgogegaa
open Go.RowKit
theorem grown_push {a w : World} {o : Obj} {r : Option Nat} (h : (a.alloc o).grownBy w r) : a.grownBy w r := wtr (World.grownBy_alloc a o r) h
/-- A store into a block that is new. -/
theorem wst_new {a w : World} {r : Option Nat} (h : a.grownBy w r) {j : Nat} (hj : a.heap.size ≤ j) (i : Nat) (x : Value) : a.grownBy (w.setCell ⟨j, i, none⟩ x) r :=
  ⟨h.os, h.tape, h.output, by simpa [World.setCell] using h.size, fun k hk hr => (Below.heap_setCell w ⟨j, i, none⟩ x k (by show k ≠ j; omega)).trans (h.block k hk hr)⟩
theorem grown_below {a w : World} (h : Below a.heap.size a w) (r : Option Nat) : a.grownBy w r := ⟨h.os, h.tape, h.output, h.size, fun k hk _ => h.block k hk⟩
end Go.Proofs.Ytmpcmllfgogegaa

