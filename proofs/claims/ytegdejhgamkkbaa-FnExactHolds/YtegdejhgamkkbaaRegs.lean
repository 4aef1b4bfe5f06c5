/- Registers: put, joined, held against each other. -/
import Derived.Test.YtegdejhgamkkbaaStamp
namespace Go.Proofs.Ytegdejhgamkkbaa
open Go.RowKit

def jreg (v t b v' t' b' : Int) : Value := if cb v' t' b' v t b = true then rgv v' t' b' else rgv v t b

/-- Block k holds a register; a stamp. -/
def Rg (W : World) (k ty : Nat) (v t b : Int) : Prop := W.heap[k]? = some (.cells #[.int .i64 v, .int .i64 t, .int .i64 b] ty (0, 0))
def Sg (W : World) (k ty : Nat) (t b : Int) : Prop := W.heap[k]? = some (.cells #[.int .i64 t, .int .i64 b] ty (0, 0))
theorem Rg.new (w : World) (ty : Nat) (v t b : Int) : Rg (w.alloc (.cells #[.int .i64 v, .int .i64 t, .int .i64 b] ty)) w.heap.size ty v t b := heap_alloc_new w _
theorem Rg.newd (w : World) (ty : Nat) (v t b : Int) : Rg (w.alloc (.cells #[.int .i64 v, .int .i64 t, .int .i64 b] ty)).drew w.heap.size ty v t b := heap_alloc_new w _
theorem Sg.new (w : World) (ty : Nat) (t b : Int) : Sg (w.alloc (.cells #[.int .i64 t, .int .i64 b] ty)) w.heap.size ty t b := heap_alloc_new w _
theorem Rg.later {W W' : World} {k ty : Nat} {v t b : Int} (h : Rg W k ty v t b) (hb : Below W.heap.size W W') : Rg W' k ty v t b := (hb.block k (Array.getElem?_eq_some_iff.1 h).1).trans h
theorem Sg.later {W W' : World} {k ty : Nat} {t b : Int} (h : Sg W k ty t b) (hb : Below W.heap.size W W') : Sg W' k ty t b := (hb.block k (Array.getElem?_eq_some_iff.1 h).1).trans h
theorem Rg.lt {W : World} {k ty : Nat} {v t b : Int} (h : Rg W k ty v t b) : k < W.heap.size := (Array.getElem?_eq_some_iff.1 h).1
theorem Sg.lt {W : World} {k ty : Nat} {t b : Int} (h : Sg W k ty t b) : k < W.heap.size := (Array.getElem?_eq_some_iff.1 h).1
theorem Rg.cells {W : World} {k ty : Nat} {v t b : Int} (h : Rg W k ty v t b) : W.cell? ⟨k, 0, none⟩ = some (.int .i64 v) ∧ W.cell? ⟨k, 1, none⟩ = some (.int .i64 t) ∧ W.cell? ⟨k, 2, none⟩ = some (.int .i64 b) :=
  ⟨cell_of_row W k 0 _ _ _ h, cell_of_row W k 1 _ _ _ h, cell_of_row W k 2 _ _ _ h⟩
theorem Sg.cells {W : World} {k ty : Nat} {t b : Int} (h : Sg W k ty t b) : W.cell? ⟨k, 0, none⟩ = some (.int .i64 t) ∧ W.cell? ⟨k, 1, none⟩ = some (.int .i64 b) :=
  ⟨cell_of_row W k 0 _ _ _ h, cell_of_row W k 1 _ _ _ h⟩
theorem Rg.loose {W : World} {k ty : Nat} {v t b : Int} (h : Rg W k ty v t b) : W.frozen? ⟨k, 0, none⟩ = false ∧ W.frozen? ⟨k, 1, none⟩ = false ∧ W.frozen? ⟨k, 2, none⟩ = false :=
  ⟨frozen_of_row W k 0 _ _ h, frozen_of_row W k 1 _ _ h, frozen_of_row W k 2 _ _ h⟩

/-- A register is stored whole. -/
def set3 (W : World) (k : Nat) (v t b : Int) : World := ((W.setCell ⟨k, 0, none⟩ (.int .i64 v)).setCell ⟨k, 1, none⟩ (.int .i64 t)).setCell ⟨k, 2, none⟩ (.int .i64 b)
def set2 (W : World) (k : Nat) (t b : Int) : World := (W.setCell ⟨k, 0, none⟩ (.int .i64 t)).setCell ⟨k, 1, none⟩ (.int .i64 b)
theorem Rg.set {W : World} {k ty : Nat} {v t b v' t' b' : Int} (h : Rg W k ty v t b) : Rg (set3 W k v' t' b') k ty v' t' b' := by
  have h1 := heap_setCell_same W k 0 _ _ (.int .i64 v') h
  have h2 := heap_setCell_same _ k 1 _ _ (.int .i64 t') h1
  have h3 := heap_setCell_same _ k 2 _ _ (.int .i64 b') h2
  exact h3
theorem Rg.set' {W : World} {k ty : Nat} {v t b v' t' b' : Int} (h : Rg W k ty v t b) : Rg (((W.setCell ⟨k, 0, none⟩ (.int .i64 v')).setCell ⟨k, 1, none⟩ (.int .i64 t')).setCell ⟨k, 2, none⟩ (.int .i64 b')) k ty v' t' b' := h.set
theorem Sg.set' {W : World} {k ty : Nat} {t b t' b' : Int} (h : Sg W k ty t b) : Sg ((W.setCell ⟨k, 0, none⟩ (.int .i64 t')).setCell ⟨k, 1, none⟩ (.int .i64 b')) k ty t' b' := by
  have h1 := heap_setCell_same W k 0 _ _ (.int .i64 t') h
  have h2 := heap_setCell_same _ k 1 _ _ (.int .i64 b') h1
  exact h2
theorem Sg.set {W : World} {k ty : Nat} {t b t' b' : Int} (h : Sg W k ty t b) : Sg (set2 W k t' b') k ty t' b' := by
  have h1 := heap_setCell_same W k 0 _ _ (.int .i64 t') h
  have h2 := heap_setCell_same _ k 1 _ _ (.int .i64 b') h1
  exact h2
theorem bset' {a w u : World} (h : Below a.heap.size a w) (hu : Below a.heap.size a u) (i : Nat) (x : Value) : Below a.heap.size a (w.setCell ⟨u.heap.size, i, none⟩ x) := bset h hu.size x
theorem bset3 {a w : World} (h : Below a.heap.size a w) {k : Nat} (hk : a.heap.size ≤ k) (v t b : Int) : Below a.heap.size a (set3 w k v t b) := bset (bset (bset h hk _) hk _) hk _
theorem bset2 {a w : World} (h : Below a.heap.size a w) {k : Nat} (hk : a.heap.size ≤ k) (t b : Int) : Below a.heap.size a (set2 w k t b) := bset (bset h hk _) hk _

end Go.Proofs.Ytegdejhgamkkbaa
