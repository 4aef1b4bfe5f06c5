/- A mail as it lies: four cells. Whether it is right. -/
import Derived.Test.YtegdejhgamkkbaaFlagCopy
namespace Go.Proofs.Ytegdejhgamkkbaa
open Go.RowKit

/-- Block k holds a mail. -/
def Mg (W : World) (k ty : Nat) (g u : Int) (f : Value) (t : ByteArray) : Prop := W.heap[k]? = some (.cells #[.int .i64 g, .int .i64 u, f, .string t] ty (0, 0))
theorem Mg.new (w : World) (ty : Nat) (g u : Int) (f : Value) (t : ByteArray) : Mg (w.alloc (.cells #[.int .i64 g, .int .i64 u, f, .string t] ty)) w.heap.size ty g u f t := heap_alloc_new w _
theorem Mg.later {W W' : World} {k ty : Nat} {g u : Int} {f : Value} {t : ByteArray} (h : Mg W k ty g u f t) (hb : Below W.heap.size W W') : Mg W' k ty g u f t := (hb.block k (Array.getElem?_eq_some_iff.1 h).1).trans h
theorem Mg.lt {W : World} {k ty : Nat} {g u : Int} {f : Value} {t : ByteArray} (h : Mg W k ty g u f t) : k < W.heap.size := (Array.getElem?_eq_some_iff.1 h).1
theorem Mg.cells {W : World} {k ty : Nat} {g u : Int} {f : Value} {t : ByteArray} (h : Mg W k ty g u f t) : W.cell? ⟨k, 0, none⟩ = some (.int .i64 g) ∧ W.cell? ⟨k, 1, none⟩ = some (.int .i64 u) ∧ W.cell? ⟨k, 2, none⟩ = some f ∧ W.cell? ⟨k, 3, none⟩ = some (.string t) :=
  ⟨cell_of_row W k 0 _ _ _ h, cell_of_row W k 1 _ _ _ h, cell_of_row W k 2 _ _ _ h, cell_of_row W k 3 _ _ _ h⟩
theorem Mg.loose {W : World} {k ty : Nat} {g u : Int} {f : Value} {t : ByteArray} (h : Mg W k ty g u f t) : W.frozen? ⟨k, 0, none⟩ = false ∧ W.frozen? ⟨k, 1, none⟩ = false ∧ W.frozen? ⟨k, 2, none⟩ = false ∧ W.frozen? ⟨k, 3, none⟩ = false :=
  ⟨frozen_of_row W k 0 _ _ h, frozen_of_row W k 1 _ _ h, frozen_of_row W k 2 _ _ h, frozen_of_row W k 3 _ _ h⟩
theorem Mg.s0 {W : World} {k ty : Nat} {g u : Int} {f : Value} {t : ByteArray} (h : Mg W k ty g u f t) (g' : Int) : Mg (W.setCell ⟨k, 0, none⟩ (.int .i64 g')) k ty g' u f t := heap_setCell_same W k 0 _ _ (.int .i64 g') h
theorem Mg.s1 {W : World} {k ty : Nat} {g u : Int} {f : Value} {t : ByteArray} (h : Mg W k ty g u f t) (u' : Int) : Mg (W.setCell ⟨k, 1, none⟩ (.int .i64 u')) k ty g u' f t := heap_setCell_same W k 1 _ _ (.int .i64 u') h
theorem Mg.s2 {W : World} {k ty : Nat} {g u : Int} {f : Value} {t : ByteArray} (h : Mg W k ty g u f t) (f' : Value) : Mg (W.setCell ⟨k, 2, none⟩ f') k ty g u f' t := heap_setCell_same W k 2 _ _ f' h
theorem Mg.s3 {W : World} {k ty : Nat} {g u : Int} {f : Value} {t : ByteArray} (h : Mg W k ty g u f t) (t' : ByteArray) : Mg (W.setCell ⟨k, 3, none⟩ (.string t')) k ty g u f t' := heap_setCell_same W k 3 _ _ (.string t') h
/-- A store into another block. -/
theorem heap_setCell_far {W : World} {k j i : Nat} {o : Obj} (u : Value) (h : W.heap[k]? = some o) (hk : k ≠ j) : (W.setCell ⟨j, i, none⟩ u).heap[k]? = some o := (Below.heap_setCell _ _ _ _ hk).trans h
theorem Mg.far {W : World} {k j i ty : Nat} {g u : Int} {f : Value} {t : ByteArray} (h : Mg W k ty g u f t) (x : Value) (hk : k ≠ j) : Mg (W.setCell ⟨j, i, none⟩ x) k ty g u f t := heap_setCell_far x h hk

theorem bsk {a w : World} (h : Below a.heap.size a w) {k : Nat} (hk : a.heap.size ≤ k) (i : Nat) (x : Value) : Below a.heap.size a (w.setCell ⟨k, i, none⟩ x) := bset h hk x
theorem Ow.other {W W' : World} {B g n c k : Nat} {l : List R3} (h : Ow W B (.slice (some ⟨g, 0, none⟩) n c) l) (hg : W.grownBy W' (some k)) (hk : g ≠ k) : Ow W' B (.slice (some ⟨g, 0, none⟩) n c) l :=
  World.ownsRow.kept h hg (Or.inr (by simpa [Value.ownBlock] using hk))
theorem Ow.far {W : World} {B g n c j : Nat} {l : List R3} (h : Ow W B (.slice (some ⟨g, 0, none⟩) n c) l) (hk : g ≠ j) (i : Nat) (x : Value) : Ow (W.setCell ⟨j, i, none⟩ x) B (.slice (some ⟨g, 0, none⟩) n c) l :=
  h.other (wst (wre W (some j)) i x) hk

def gok (n : Int) : Bool := decide (1 ≤ n) && decide (n ≤ 9999)
def mlOk (g u : Int) (l : List R3) (t : ByteArray) : Bool := gok g && (gok u && (flOk l && decide ((t.size : Int) ≤ 60)))

end Go.Proofs.Ytegdejhgamkkbaa
