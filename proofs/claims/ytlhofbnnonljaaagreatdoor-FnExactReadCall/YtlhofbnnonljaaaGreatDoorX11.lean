/- Sapp. -/
import Derived.Test.YtlhofbnnonljaaaGreatDoorX9
namespace Go.Proofs.YtlhofbnnonljaaaGreatDoor
open Go.RowKit Go.ChangeMaps
theorem yc_one {y : Y9} (h1 : ∃ a k c, y.mv = .slice a k c) (h2 : ∃ a k c, y.gv = .slice a k c) : ∀ u ∈ yc [y], u.oneCell' = true := by
  obtain ⟨a, k, c, e1⟩ := h1
  obtain ⟨a', k', c', e2⟩ := h2
  intro u hu
  simp only [yc, List.mem_cons, List.not_mem_nil, or_false] at hu
  rcases hu with rfl | rfl | rfl | rfl | rfl | rfl | rfl
  · rfl
  · rfl
  · rfl
  · rfl
  · rfl
  · rw [e1]; rfl
  · rw [e2]; rfl
theorem OwX.slices {W : World} {lo hi : Nat} {mv gv : Value} {L : List M4} {G : List Int} (h : OwX W lo hi mv gv L G) : (∃ a k c, mv = .slice a k c) ∧ ∃ a k c, gv = .slice a k c := by
  obtain ⟨a, c, a', c', h1, h2, _⟩ := h.reads
  exact ⟨⟨_, _, _, h1⟩, ⟨_, _, _, h2⟩⟩
/-- The same where the order is given. -/
theorem wpList_append_bx {ops : Array Oper} {rest : List Oper} {o : Oper} {a : Act} {w : World} {Q : Exit → Act → World → Prop} (hgd : o.guard = none) (s x : Operand)
    (hop : o.op = .call { callee := .builtin .append, args := #[s, x], argTypes := #[54, 54] })
    (B : Nat) (v : Value) (Y : List Y9) (hs : a.eval s = v) (y : Y9) (hown : OwS w B v Y) (ho : OwX w y.lo y.hi y.mv y.gv y.L y.G) (hB : B ≤ y.lo) (hv : ∀ j, v.ownBlock = some j → j < y.lo ∨ y.hi ≤ j) (hd : ∀ x ∈ Y, x.hi ≤ y.lo ∨ y.hi ≤ x.lo)
    (hx : a.eval x = .slice (some ⟨w.heap.size, 0, none⟩) 1 1) (hlen : Y.length ≤ 1048576) (hBw : B ≤ w.heap.size)
    (hK : ∀ v' w', OwS w' B v' (Y ++ [y]) → Below B w w' → (w.alloc (.cells #[.int .i64 y.g, .string y.nm, .int .i64 y.t, .int .i64 y.b, .int .i64 y.nx, y.mv, y.gv] 77)).grownBy w' v.ownBlock → (∀ j, v'.ownBlock = some j → v.ownBlock = some j ∨ w.heap.size < j) → wpList Tryz.prog ops Q rest (a.put o.dst v') w') :
    wpList Tryz.prog ops Q (o :: rest) a (w.alloc (.cells #[.int .i64 y.g, .string y.nm, .int .i64 y.t, .int .i64 y.b, .int .i64 y.nx, y.mv, y.gv] 77)) := by
  obtain ⟨i0, hi, hz0, hz1, hz2⟩ := info_parts3 info_bx
  refine wpList_append_own_at _ hgd s x 54 hop B 77 i0 _ 7 96 Tryz.underlying54 hi hz0 hz1 hz2 rfl (by decide) v _ _ hs (hown.row.alloc _) ⟨w.heap.size, 0, none⟩ 1 1 (yc [y]) hx rfl (cells_new7 w y 77) (yc_one ho.slices.1 ho.slices.2) (by unfold maxLen; omega) (by omega) (by simp; omega) ?_
  intro v' w' h2 h3 h4 h5
  have hloc : ∀ j, v'.ownBlock = some j → v.ownBlock = some j ∨ w.heap.size < j := fun j hj => by
    rcases h5 with h5 | h5
    · exact .inl (by rw [← h5]; exact hj)
    · rw [h5] at hj; simp at hj; exact .inr (by omega)
  exact hK v' w' (hown.snoc y ho hB hv hd _ (by rw [yc_app]; simpa using h2) h3 hloc) (((Below.refl B w).alloc hBw _).grown h3 (by simp; omega) (fun k hk => (hown.row.lt k hk).1)) h3 hloc
end Go.Proofs.YtlhofbnnonljaaaGreatDoor
