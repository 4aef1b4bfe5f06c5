/- Tir. -/

import Derived.Test.YtjobfolipbfhlaoGreatdTiq
namespace Go.Proofs.YtjobfolipbfhlaoGreat
open Go.RowKit Go.ChangeMaps

/-- The lists of a store that a call owns, none of them in a block of P. -/
structure OwN (W : World) (B : Nat) (P : Nat → Prop) (bv gv : Value) (S : List X7) (G : List Int) : Prop where
  own : ∃ Y, Y.map yd = S ∧ OwS W B bv Y ∧ OwI W B gv G ∧ Dj gv bv ∧ (∀ y ∈ Y, ∀ j, gv.ownBlock = some j → j < y.lo ∨ y.hi ≤ j) ∧ (∀ j, bv.ownBlock = some j → ¬ P j) ∧ (∀ j, gv.ownBlock = some j → ¬ P j) ∧ ∀ y ∈ Y, ∀ j, y.lo ≤ j → j < y.hi → ¬ P j
section
variable {W W' : World} {B B' : Nat} {P : Nat → Prop} {bv gv : Value} {S : List X7} {G : List Int}
theorem OwN.ot (h : OwN W B P bv gv S G) : OwT W B bv gv S G := by
  obtain ⟨Y, h1, h2, h3, h4, h5, _⟩ := h.own
  exact ⟨Y, h1, h2, h3, h4, h5⟩
theorem OwT.far (h : OwT W B bv gv S G) (hk : ∀ j, P j → W.heap.size ≤ j ∨ j < B) : OwN W B P bv gv S G := by
  obtain ⟨Y, h1, h2, h3, h4, h5⟩ := h.own
  exact ⟨Y, h1, h2, h3, h4, h5, fun j e hp => by have h6 := h2.row.lt j e; have h7 := hk j hp; omega, fun j e hp => by have h6 := h3.lt j e; have h7 := hk j hp; omega, fun y hy j j1 j2 hp => by have h6 := h2.each y hy; have h7 := hk j hp; have h8 := h6.1.top; have h9 := h6.2; omega⟩
theorem OwN.later (h : OwN W B P bv gv S G) (hb : Below W.heap.size W W') : OwN W' B P bv gv S G := by
  obtain ⟨Y, h1, h2, h3, h4, h5, h6⟩ := h.own
  exact ⟨Y, h1, h2.later hb, own_later h3 hb, h4, h5, h6⟩
/-- A store into the block beside. -/
theorem OwN.set {k : Nat} (h : OwN W B P bv gv S G) (hg : W.grownBy W' (some k)) (hk : P k) : OwN W' B P bv gv S G := by
  obtain ⟨Y, h1, h2, h3, h4, h5, h6, h7, h8⟩ := h.own
  refine ⟨Y, h1, h2.kept hg.size (fun j hj => hg.block j (h2.row.lt j hj).2 (fun e => by simp only [Option.some.injEq] at e; subst e; exact h6 _ hj hk)) (fun y hy j hj1 hj2 => hg.block j (Nat.lt_of_lt_of_le hj2 (h2.each y hy).1.top) (fun e => ?_)), World.ownsRow.kept h3 hg (.inr (fun e => h7 k e hk)), h4, h5, h6, h7, h8⟩
  simp only [Option.some.injEq] at e
  subst e
  exact h8 y hy _ hj1 hj2 hk
end
/-- A box stored anew: its lists are newer than the store. -/
theorem OwN.putn {W0 W : World} {B g n c : Nat} {P : Nat → Prop} {gv : Value} {S : List X7} {G : List Int} (h : OwN W0 B P (.slice (some ⟨g, 0, none⟩) n c) gv S G) (hb : Below W0.heap.size W0 W) (i : Nat) (hi : i < S.length) (y : Y9) (ho : OwX W y.lo y.hi y.mv y.gv y.L y.G) (hB : B ≤ W0.heap.size) (hW : W0.heap.size ≤ y.lo) (hk : ∀ j, y.lo ≤ j → j < y.hi → ¬ P j) :
    OwN (put7 W g (i * 7) y) B P (.slice (some ⟨g, 0, none⟩) n c) gv (S.set i (yd y)) G := by
  obtain ⟨Y, h1, h2, h3, h4, h5, h6, h7, h8⟩ := h.own
  have hlen : Y.length = S.length := by rw [← h1, List.length_map]
  have hgr := put7_grown W g (i * 7) y
  have k2 := h2.later hb
  have k3 := own_later h3 hb
  have hg := (h2.row.lt g rfl).2
  refine ⟨Y.set i y, ?_, k2.stored i (by omega) y ho (by omega) (.inl (by omega)) (fun x hx => .inl (Nat.le_trans (h2.each x hx).1.top hW)), ?_, h4, fun z hz j hj => ?_, h6, h7, fun z hz => ?_⟩
  · rw [← h1, List.map_set]
  · exact World.ownsRow.kept k3 hgr (by
      cases hv : Value.ownBlock gv with
      | none => exact Or.inl rfl
      | some j => exact Or.inr (fun e => by simp only [Option.some.injEq] at e; subst e; exact h4 _ hv rfl))
  · rcases mem_set hz with hz | rfl
    · exact h5 z hz j hj
    · have := (h3.lt j hj).2
      exact .inl (by omega)
  · rcases mem_set hz with hz | rfl
    · exact h8 z hz
    · exact hk
theorem OwN.lt {W : World} {B g n c : Nat} {P : Nat → Prop} {gv : Value} {S : List X7} {G : List Int} (h : OwN W B P (.slice (some ⟨g, 0, none⟩) n c) gv S G) : B ≤ g ∧ g < W.heap.size ∧ ¬ P g := by
  obtain ⟨Y, _, h2, _, _, _, h6, _⟩ := h.own
  have := h2.row.lt g rfl
  exact ⟨this.1, this.2, h6 g rfl⟩
end Go.Proofs.YtjobfolipbfhlaoGreat

