/- A list of numbers as an argument: opened. -/
import Derived.Test.YtmpcmllfgogegaaGjn
import Derived.Test.YtmpcmllfgogegaaMg
import Derived.WalkKit
import Derived.ProofKit
import Derived.OpenShut
import Derived.Lib.SmallJoins
namespace Go.Proofs.Ytmpcmllfgogegaa
open Go.ChangeShapes Go.WideShapes Go.ChangeAt Go.RowKit Go.Joins

theorem cellsI1 : Try.prog.cellsOf 3 = 1 := by kernel_rfl
section
variable {H : Type} {enc : TypeId × Value → H} {w : World} {spr : Nat → Bool} {held : Bool}
theorem addr_at0 {a : Addr} {u : Value} (h : w.cell? (a.add 0) = some u) : ∃ k o, a = ⟨k, o, none⟩ := by
  obtain ⟨k, o, s⟩ := a
  have hs : s = none := by simpa [Addr.add] using World.cell?_spot h
  exact ⟨k, o, by rw [hs]⟩
set_option maxRecDepth 100000 in
theorem openIs {base : Nat} {v : Value} {d : DataW H} {p : List MemPlace} (hv : Value.okWide Try.prog w .any base 22 v) (h : DataW.Trod enc Try.prog w 0 spr held 22 v d p) :
    ∃ (ao : Option Addr) (n cap : Nat) (G : List Int), v = .slice ao n cap ∧ G.length = n ∧ Is 0 w.heap.size w ao G := by
  obtain ⟨ao, n, cap, rfl⟩ := okWide_slice Try.underlying22 hv
  obtain ⟨fuel, hf⟩ := h
  rcases Go.Deep.open_slice Try.underlying22 hf with ⟨hcs, _⟩ | ⟨a, len, cap', m, nf, D, Pl, hcs, _, hl, hm, hmm, _, hx⟩
  · simp [Value.cells] at hcs
    obtain ⟨rfl, rfl, rfl⟩ := hcs
    exact ⟨none, 0, 0, [], rfl, rfl, Nat.le_refl _, fun i hi => absurd hi (by simp)⟩
  · simp [Value.cells] at hcs
    obtain ⟨rfl, rfl, rfl⟩ := hcs
    have hlm : n ≤ m := by rw [hmm]; split <;> omega
    have hx' : ∀ i, i < n → ∃ z : Int, w.cell? (a.add i) = some (.int .i64 z) := by
      intro i hi
      obtain ⟨cs, h1, h2⟩ := hx i (by omega)
      rw [cellsI1] at h1
      obtain ⟨_, hlen, hcell⟩ := World.cells?_some h1
      match cs, hlen with
      | [c0], _ =>
        obtain ⟨z, e0, _, _⟩ := DataW.trod_int Try.underlying3 h2
        simp only [List.cons.injEq, and_true] at e0
        subst e0
        have e := hcell 0 (by omega)
        exact ⟨z, by simpa [Go.Deep.add_add] using e⟩
    obtain ⟨r, hr⟩ := Go.Deep.choose_lt hx'
    refine ⟨some a, n, cap, (List.range n).map r, rfl, by simp, Nat.le_refl _, ?_⟩
    intro i hi
    have hi' : i < n := by simpa using hi
    have e := hr i hi'
    obtain ⟨k, o, rfl⟩ := addr_at0 (a := a) (u := .int .i64 (r 0)) (hr 0 (by omega))
    have hb := World.block_lt_of_cell? w (Addr.add ⟨k, o, none⟩ i) e
    simp only [addr_add] at e hb
    refine ⟨k, o, rfl, Nat.zero_le _, hb, ?_⟩
    simp only [List.getElem_map, List.getElem_range]
    exact e
end
end Go.Proofs.Ytmpcmllfgogegaa
