/- What the program reads whole or not at all: what stays as it was. -/
import Derived.Test.YtldcmfkmnjdfiaaMailCat
namespace Go.Proofs.Ytldcmfkmnjdfiaa
open Go.RowKit
/-- All that was there is as it was, but two blocks. -/
structure Kept2 (w w' : World) (kr km : Nat) : Prop where
  os : w'.os = w.os
  tape : w'.tape = w.tape
  output : w'.output = w.output
  size : w.heap.size ≤ w'.heap.size
  block : ∀ j, j < w.heap.size → j ≠ kr → j ≠ km → w'.heap[j]? = w.heap[j]?
theorem Kept2.of_grown {w w' : World} {kr km : Nat} (h : w.grownBy w' (some kr)) : Kept2 w w' kr km := ⟨h.os, h.tape, h.output, h.size, fun j hj h1 _ => h.block j hj (by simpa using h1)⟩
theorem Kept2.set {w w' : World} {kr km : Nat} (h : Kept2 w w' kr km) (i : Nat) (x : Value) : Kept2 w (w'.setCell ⟨km, i, none⟩ x) kr km :=
  ⟨h.os, h.tape, h.output, by simpa [World.setCell] using h.size, fun j hj h1 h2 => (Below.heap_setCell w' ⟨km, i, none⟩ x j h2).trans (h.block j hj h1 h2)⟩
theorem Kept2.new {w w' : World} {kr km : Nat} (h : Kept2 w w' kr km) {j : Nat} (hj : w.heap.size ≤ j) (i : Nat) (x : Value) : Kept2 w (w'.setCell ⟨j, i, none⟩ x) kr km :=
  ⟨h.os, h.tape, h.output, by simpa [World.setCell] using h.size, fun k hk h1 h2 => (Below.heap_setCell w' ⟨j, i, none⟩ x k (by show k ≠ j; omega)).trans (h.block k hk h1 h2)⟩
theorem Kept2.later {w w' w'' : World} {kr km : Nat} (h : Kept2 w w' kr km) (hb : Below w'.heap.size w' w'') : Kept2 w w'' kr km :=
  ⟨hb.os.trans h.os, hb.tape.trans h.tape, hb.output.trans h.output, Nat.le_trans h.size hb.size, fun k hk h1 h2 => (hb.block k (Nat.lt_of_lt_of_le hk h.size)).trans (h.block k hk h1 h2)⟩
theorem Kept2.push {w w' : World} {o : Obj} {kr km : Nat} (h : Kept2 (w.alloc o) w' kr km) : Kept2 w w' kr km := by
  have hb := bpush (bre w) o
  exact ⟨h.os.trans hb.os, h.tape.trans hb.tape, h.output.trans hb.output, Nat.le_trans hb.size h.size, fun k hk h1 h2 => (h.block k (Nat.lt_of_lt_of_le hk hb.size) h1 h2).trans (hb.block k hk)⟩
theorem Kept2.below {w w' : World} {B kr km : Nat} (h : Kept2 w w' kr km) (hr : B ≤ kr) (hm : B ≤ km) (hB : B ≤ w.heap.size) : Below B w w' :=
  ⟨h.os, h.tape, h.output, h.size, fun j hj => h.block j (by omega) (by omega) (by omega)⟩
theorem alloc_size (w : World) (o : Obj) : (w.alloc o).heap.size = w.heap.size + 1 := by simp
/-- Block k holds a function. -/
def Fg (W : World) (k ty f : Nat) : Prop := W.heap[k]? = some (.cells #[.func (.func f) #[] #[]] ty (0, 0))
theorem Fg.lt {W : World} {k ty f : Nat} (h : Fg W k ty f) : k < W.heap.size := (Array.getElem?_eq_some_iff.1 h).1
theorem Fg.later {W W' : World} {k ty f : Nat} (h : Fg W k ty f) (hb : Below W.heap.size W W') : Fg W' k ty f := (hb.block k h.lt).trans h
theorem Fg.cell {W : World} {k ty f : Nat} (h : Fg W k ty f) : W.cell? ⟨k, 0, none⟩ = some (.func (.func f) #[] #[]) := cell_of_row W k 0 _ _ _ h
theorem own_grown1 {W W' : World} {B k : Nat} {v : Value} {l : List R3} (h : Ow W B v l) (hg : W.grownBy W' (some k)) (hk : k < B) : Ow W' B v l :=
  own_kept h hg (fun j hj => by have := (World.ownsRow.lt h j hj).1; simp; omega)
end Go.Proofs.Ytldcmfkmnjdfiaa
