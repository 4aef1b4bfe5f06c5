/- Tir. -/

import Derived.Test.YtjobfolipbfhlaoGreatpTiq
namespace Go.Proofs.YtjobfolipbfhlaoGreat
open Go.RowKit Go.ChangeMaps

/-- The lists of a store that a call owns, none of them in a block of P. -/
structure OwN (W : World) (B : Nat) (P : Nat → Prop) (bv gv : Value) (S : List X7) (G : List Int) : Prop where
  own : ∃ Y, Y.map yd = S ∧ OwS W B bv Y ∧ OwI W B gv G ∧ Dj gv bv ∧ (∀ y ∈ Y, ∀ j, gv.ownBlock = some j → j < y.lo ∨ y.hi ≤ j) ∧ (∀ j, bv.ownBlock = some j → ¬ P j) ∧ (∀ j, gv.ownBlock = some j → ¬ P j) ∧ ∀ y ∈ Y, ∀ j, y.lo ≤ j → j < y.hi → ¬ P j
section
variable {W W' : World} {B B' : Nat} {P : Nat → Prop} {bv gv : Value} {S : List X7} {G : List Int}
theorem OwN.ot (h : OwN W B P bv gv S G) : OwT W B bv gv S G := by
  obtain ⟨Y, h1, h2, h3, h4, h5, _⟩ := h.own
  exact ⟨Y, h1, h2, h3, h4, h5⟩
theorem OwT.far (h : OwT W B bv gv S G) (hk : ∀ j, P j → W.heap.size ≤ j ∨ j < B) : OwN W B P bv gv S G := by
  obtain ⟨Y, h1, h2, h3, h4, h5⟩ := h.own
  exact ⟨Y, h1, h2, h3, h4, h5, fun j e hp => by have h6 := h2.row.lt j e; have h7 := hk j hp; omega, fun j e hp => by have h6 := h3.lt j e; have h7 := hk j hp; omega, fun y hy j j1 j2 hp => by have h6 := h2.each y hy; have h7 := hk j hp; have h8 := h6.1.top; have h9 := h6.2; omega⟩
theorem OwN.later (h : OwN W B P bv gv S G) (hb : Below W.heap.size W W') : OwN W' B P bv gv S G := by
  obtain ⟨Y, h1, h2, h3, h4, h5, h6⟩ := h.own
  exact ⟨Y, h1, h2.later hb, own_later h3 hb, h4, h5, h6⟩
theorem OwN.base (h : OwN W B' P bv gv S G) (hB : B ≤ B') : OwN W B P bv gv S G := by
  obtain ⟨Y, h1, h2, h3, h4, h5, h6⟩ := h.own
  exact ⟨Y, h1, h2.base hB, own_base h3 hB, h4, h5, h6⟩
/-- A store into the block beside. -/
theorem OwN.set {k : Nat} (h : OwN W B P bv gv S G) (hg : W.grownBy W' (some k)) (hk : P k) : OwN W' B P bv gv S G := by
  obtain ⟨Y, h1, h2, h3, h4, h5, h6, h7, h8⟩ := h.own
  refine ⟨Y, h1, h2.kept hg.size (fun j hj => hg.block j (h2.row.lt j hj).2 (fun e => by simp only [Option.some.injEq] at e; subst e; exact h6 _ hj hk)) (fun y hy j hj1 hj2 => hg.block j (Nat.lt_of_lt_of_le hj2 (h2.each y hy).1.top) (fun e => ?_)), World.ownsRow.kept h3 hg (.inr (fun e => h7 k e hk)), h4, h5, h6, h7, h8⟩
  simp only [Option.some.injEq] at e
  subst e
  exact h8 y hy _ hj1 hj2 hk
end
/-- A box stored anew: its lists are older than the store. -/
theorem OwN.put {W : World} {B B' g n c : Nat} {P : Nat → Prop} {gv : Value} {S : List X7} {G : List Int} (h : OwN W B' P (.slice (some ⟨g, 0, none⟩) n c) gv S G) (i : Nat) (hi : i < S.length) (y : Y9) (ho : OwX W y.lo y.hi y.mv y.gv y.L y.G) (hB : B ≤ y.lo) (hB2 : B ≤ B') (hy : y.hi ≤ B') (hk : ∀ j, y.lo ≤ j → j < y.hi → ¬ P j) :
    OwN (put7 W g (i * 7) y) B P (.slice (some ⟨g, 0, none⟩) n c) gv (S.set i (yd y)) G := by
  obtain ⟨Y, h1, h2, h3, h4, h5, h6, h7, h8⟩ := h.own
  have hlen : Y.length = S.length := by rw [← h1, List.length_map]
  have hgr := put7_grown W g (i * 7) y
  have hg := (h2.row.lt g rfl).1
  refine ⟨Y.set i y, ?_, (h2.base hB2).stored i (by omega) y ho hB (.inr (by omega)) (fun x hx => .inr (Nat.le_trans hy (h2.each x hx).2)), ?_, h4, fun z hz j hj => ?_, h6, h7, fun z hz => ?_⟩
  · rw [← h1, List.map_set]
  · exact World.ownsRow.kept (own_base h3 hB2) hgr (by
      cases hv : Value.ownBlock gv with
      | none => exact Or.inl rfl
      | some j => exact Or.inr (fun e => by simp only [Option.some.injEq] at e; subst e; exact h4 _ hv rfl))
  · rcases mem_set hz with hz | rfl
    · exact h5 z hz j hj
    · have := (h3.lt j hj).1
      exact .inr (by omega)
  · rcases mem_set hz with hz | rfl
    · exact h8 z hz
    · exact hk
theorem OwN.lt {W : World} {B g n c : Nat} {P : Nat → Prop} {gv : Value} {S : List X7} {G : List Int} (h : OwN W B P (.slice (some ⟨g, 0, none⟩) n c) gv S G) : B ≤ g ∧ g < W.heap.size ∧ ¬ P g := by
  obtain ⟨Y, _, h2, _, _, _, h6, _⟩ := h.own
  have := h2.row.lt g rfl
  exact ⟨this.1, this.2, h6 g rfl⟩
theorem store_box_store (w : World) (ta tb tc : Nat) (y tm y1 tm1 : Int) (bv gv bv1 gv1 : Value) (g : Int) (nm : ByteArray) (t b nx : Int) (mv lv : Value) (W0 : World)
    (h : ((w.alloc (.cells #[.int .i64 y, .int .i64 tm, bv, gv] ta)).alloc (.cells #[.int .i64 g, .string nm, .int .i64 t, .int .i64 b, .int .i64 nx, mv, lv] tb)).alloc (.cells #[.int .i64 y1, .int .i64 tm1, bv1, gv1] tc) = W0) :
    Sx W0 w.heap.size ta y tm bv gv ∧ Bx W0 (w.heap.size + 1) tb g nm t b nx mv lv ∧ Sx W0 (w.heap.size + 1 + 1) tc y1 tm1 bv1 gv1 ∧ Below w.heap.size w W0 ∧ W0.heap.size = w.heap.size + 1 + 1 + 1 := by
  have e1 : (w.alloc (.cells #[.int .i64 y, .int .i64 tm, bv, gv] ta)).heap.size = w.heap.size + 1 := by simp
  have e2 : ((w.alloc (.cells #[.int .i64 y, .int .i64 tm, bv, gv] ta)).alloc (.cells #[.int .i64 g, .string nm, .int .i64 t, .int .i64 b, .int .i64 nx, mv, lv] tb)).heap.size = w.heap.size + 1 + 1 := by simp
  have h1 := Bx.new (w.alloc (.cells #[.int .i64 y, .int .i64 tm, bv, gv] ta)) tb g nm t b nx mv lv
  have h2 := Sx.new ((w.alloc (.cells #[.int .i64 y, .int .i64 tm, bv, gv] ta)).alloc (.cells #[.int .i64 g, .string nm, .int .i64 t, .int .i64 b, .int .i64 nx, mv, lv] tb)) tc y1 tm1 bv1 gv1
  rw [e1] at h1
  rw [e2] at h2
  subst h
  exact ⟨(Sx.new w ta y tm bv gv).later (bpush (bpush (bre _) _) _), h1.later (bpush (bre _) _), h2, bpush (bpush (bpush (bre _) _) _) _, by simp⟩
end Go.Proofs.YtjobfolipbfhlaoGreat

