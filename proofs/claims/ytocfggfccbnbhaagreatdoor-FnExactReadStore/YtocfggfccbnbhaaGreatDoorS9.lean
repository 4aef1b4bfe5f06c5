/- Sapp. -/
import Derived.Test.YtocfggfccbnbhaaGreatDoorS8
namespace Go.Proofs.YtocfggfccbnbhaaGreatDoor
open Go.RowKit Go.ChangeMaps
theorem yc_one {y : Y9} (h1 : ∃ a k c, y.mv = .slice a k c) (h2 : ∃ a k c, y.gv = .slice a k c) : ∀ u ∈ yc [y], u.oneCell' = true := by
  obtain ⟨a, k, c, e1⟩ := h1
  obtain ⟨a', k', c', e2⟩ := h2
  intro u hu
  simp only [yc, List.mem_cons, List.not_mem_nil, or_false] at hu
  rcases hu with rfl | rfl | rfl | rfl | rfl | rfl | rfl
  · rfl
  · rfl
  · rfl
  · rfl
  · rfl
  · rw [e1]; rfl
  · rw [e2]; rfl
theorem OwX.slices {W : World} {lo hi : Nat} {mv gv : Value} {L : List M4} {G : List Int} (h : OwX W lo hi mv gv L G) : (∃ a k c, mv = .slice a k c) ∧ ∃ a k c, gv = .slice a k c := by
  obtain ⟨a, c, a', c', h1, h2, _⟩ := h.reads
  exact ⟨⟨_, _, _, h1⟩, ⟨_, _, _, h2⟩⟩
end Go.Proofs.YtocfggfccbnbhaaGreatDoor

