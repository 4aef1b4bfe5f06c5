/- A store in its block: four cells. -/
import Derived.Test.YtanahkieondboaaDoorSrowB
namespace Go.Proofs.YtanahkieondboaaDoor
open Go.RowKit Go.ChangeMaps

/-- Block k holds a store. -/
def Sx (W : World) (k ty : Nat) (y tm : Int) (bv gv : Value) : Prop := W.heap[k]? = some (.cells #[.int .i64 y, .int .i64 tm, bv, gv] ty (0, 0))
theorem Sx.new (w : World) (ty : Nat) (y tm : Int) (bv gv : Value) : Sx (w.alloc (.cells #[.int .i64 y, .int .i64 tm, bv, gv] ty)) w.heap.size ty y tm bv gv := heap_alloc_new w _
section
variable {W W' : World} {k ty : Nat} {y tm : Int} {bv gv : Value}
theorem Sx.lt (h : Sx W k ty y tm bv gv) : k < W.heap.size := (Array.getElem?_eq_some_iff.1 h).1
theorem Sx.later (h : Sx W k ty y tm bv gv) (hb : Below W.heap.size W W') : Sx W' k ty y tm bv gv := (hb.block k h.lt).trans h
theorem Sx.grown {r : Option Nat} (h : Sx W k ty y tm bv gv) (hg : W.grownBy W' r) (hk : some k ≠ r) : Sx W' k ty y tm bv gv := (hg.block k h.lt hk).trans h
theorem Sx.off {c : Nat} (h : Sx W k ty y tm bv gv) (hg : W.grownBy W' (some c)) (hk : k ≠ c) : Sx W' k ty y tm bv gv := h.grown hg (fun e => by simp only [Option.some.injEq] at e; omega)
theorem Sx.cells (h : Sx W k ty y tm bv gv) : W.cell? ⟨k, 0, none⟩ = some (.int .i64 y) ∧ W.cell? ⟨k, 1, none⟩ = some (.int .i64 tm) ∧ W.cell? ⟨k, 2, none⟩ = some bv ∧ W.cell? ⟨k, 3, none⟩ = some gv :=
  ⟨cell_of_row W k 0 _ _ _ h, cell_of_row W k 1 _ _ _ h, cell_of_row W k 2 _ _ _ h, cell_of_row W k 3 _ _ _ h⟩
theorem Sx.loose (h : Sx W k ty y tm bv gv) : W.frozen? ⟨k, 0, none⟩ = false ∧ W.frozen? ⟨k, 1, none⟩ = false ∧ W.frozen? ⟨k, 2, none⟩ = false ∧ W.frozen? ⟨k, 3, none⟩ = false :=
  ⟨frozen_of_row W k 0 _ _ h, frozen_of_row W k 1 _ _ h, frozen_of_row W k 2 _ _ h, frozen_of_row W k 3 _ _ h⟩
theorem Sx.s0 (h : Sx W k ty y tm bv gv) (x : Int) : Sx (W.setCell ⟨k, 0, none⟩ (.int .i64 x)) k ty x tm bv gv := heap_setCell_same W k 0 _ _ (.int .i64 x) h
theorem Sx.s1 (h : Sx W k ty y tm bv gv) (x : Int) : Sx (W.setCell ⟨k, 1, none⟩ (.int .i64 x)) k ty y x bv gv := heap_setCell_same W k 1 _ _ (.int .i64 x) h
theorem Sx.s2 (h : Sx W k ty y tm bv gv) (x : Value) : Sx (W.setCell ⟨k, 2, none⟩ x) k ty y tm x gv := heap_setCell_same W k 2 _ _ x h
theorem Sx.s3 (h : Sx W k ty y tm bv gv) (x : Value) : Sx (W.setCell ⟨k, 3, none⟩ x) k ty y tm bv x := heap_setCell_same W k 3 _ _ x h
end
/-- Four stores into one block. -/
def put4 (W : World) (k : Nat) (y tm : Int) (bv gv : Value) : World :=
  (((W.setCell ⟨k, 0, none⟩ (.int .i64 y)).setCell ⟨k, 1, none⟩ (.int .i64 tm)).setCell ⟨k, 2, none⟩ bv).setCell ⟨k, 3, none⟩ gv
theorem put4_grown (W : World) (k : Nat) (y tm : Int) (bv gv : Value) : W.grownBy (put4 W k y tm bv gv) (some k) := wst (wst (wst (wst (wre _ _) _ _) _ _) _ _) _ _
theorem Sx.put4 {W : World} {k ty : Nat} {y tm : Int} {bv gv : Value} (h : Sx W k ty y tm bv gv) (y' tm' : Int) (bv' gv' : Value) : Sx (Go.Proofs.YtanahkieondboaaDoor.put4 W k y' tm' bv' gv') k ty y' tm' bv' gv' :=
  (((h.s0 y').s1 tm').s2 bv').s3 gv'

/-- The lists of a store that a call owns: no two rows in one block. -/
structure OwT (W : World) (B : Nat) (bv gv : Value) (S : List X7) (G : List Int) : Prop where
  own : ∃ Y, Y.map yd = S ∧ OwS W B bv Y ∧ OwI W B gv G ∧ Dj gv bv ∧ ∀ y ∈ Y, ∀ j, gv.ownBlock = some j → j < y.lo ∨ y.hi ≤ j
theorem OwT.later {W W' : World} {B : Nat} {bv gv : Value} {S : List X7} {G : List Int} (h : OwT W B bv gv S G) (hb : Below W.heap.size W W') : OwT W' B bv gv S G := by
  obtain ⟨Y, h1, h2, h3, h4, h5⟩ := h.own
  exact ⟨Y, h1, h2.later hb, own_later h3 hb, h4, h5⟩
theorem OwT.base {W : World} {B B' : Nat} {bv gv : Value} {S : List X7} {G : List Int} (h : OwT W B' bv gv S G) (hB : B ≤ B') : OwT W B bv gv S G := by
  obtain ⟨Y, h1, h2, h3, h4, h5⟩ := h.own
  exact ⟨Y, h1, h2.base hB, own_base h3 hB, h4, h5⟩
theorem OwT.grown {W W' : World} {B k : Nat} {bv gv : Value} {S : List X7} {G : List Int} (h : OwT W B bv gv S G) (hg : W.grownBy W' (some k)) (hk : k < B) : OwT W' B bv gv S G := by
  obtain ⟨Y, h1, h2, h3, h4, h5⟩ := h.own
  exact ⟨Y, h1, h2.grown hg hk, OwI.grown h3 hg hk, h4, h5⟩
theorem OwT.reads {W : World} {B n c n' c' : Nat} {a a' : Option Addr} {S : List X7} {G : List Int} (h : OwT W B (.slice a n c) (.slice a' n' c') S G) : n = S.length ∧ n' = G.length ∧ Bs B W.heap.size W a S ∧ Is B W.heap.size W a' G := by
  obtain ⟨Y, rfl, h2, h3, _⟩ := h.own
  exact ⟨by rw [List.length_map]; exact h2.bs.1, (OwI.is h3).1, h2.bs.2, (OwI.is h3).2⟩
theorem OwT.shape {W : World} {B : Nat} {bv gv : Value} {S : List X7} {G : List Int} (h : OwT W B bv gv S G) : ∃ a c a' c', bv = .slice a S.length c ∧ gv = .slice a' G.length c' := by
  obtain ⟨Y, rfl, h2, h3, _⟩ := h.own
  obtain ⟨a, c, hv⟩ := h2.shape
  obtain ⟨a', c', hv', _⟩ := h3.shape
  exact ⟨a, c, a', c', by rw [List.length_map]; exact hv, hv'⟩
end Go.Proofs.YtanahkieondboaaDoor
