/- Lists of registers as arguments: opened. -/
import Derived.Test.YtanahkieondboaaDoorOpen
import Derived.Deep.Slices
import Derived.Carry
namespace Go.Proofs.YtanahkieondboaaDoor
open Go.ChangeShapes Go.WideShapes Go.ChangeAt Go.RowKit Go.Joins

section
variable {H : Type} {enc : TypeId × Value → H} {w : World} {spr : Nat → Bool} {held : Bool}

set_option maxRecDepth 100000 in
theorem trodRg {fuel : Nat} {cs : List Value} {y : DataW H × List MemPlace} (hc : cs.length = 3) (hf : DataW.trod enc Tryd.prog w 0 spr held fuel 109 cs = some y) :
    ∃ x t b : Int, cs = [.int .i64 x, .int .i64 t, .int .i64 b] := by
  match cs, hc with
  | [c0, c1, c2], _ =>
    obtain ⟨y0, y1, n, hx, hl, h0, h1⟩ := trod_struct2 Tryd.underlying109 hf
    have k0 : DataW.trod enc Tryd.prog w 0 spr held n 3 [c0] = some y0 := by simpa [cellsInt] using h0
    have k1 : DataW.trod enc Tryd.prog w 0 spr held n 65 [c1, c2] = some y1 := by simpa [cellsSt] using h1
    obtain ⟨x, e0, rfl, _⟩ := DataW.trod_int Tryd.underlying3 k0
    obtain ⟨t, b, e, rfl, _, _⟩ := trodSt rfl k1
    simp at e0 e
    obtain ⟨rfl, rfl⟩ := e
    subst e0
    exact ⟨x, t, b, rfl⟩

set_option maxRecDepth 100000 in
theorem addr_at {a : Addr} {u : Value} (h : w.cell? (a.add 0) = some u) : ∃ k o, a = ⟨k, o, none⟩ := by
  obtain ⟨k, o, s⟩ := a
  have hs : s = none := by simpa [Addr.add] using World.cell?_spot h
  exact ⟨k, o, by rw [hs]⟩

set_option maxRecDepth 100000 in
theorem openRgS {base : Nat} {v : Value} {d : DataW H} {p : List MemPlace} (hv : Value.okWide Tryd.prog w .any base 86 v) (h : DataW.Trod enc Tryd.prog w 0 spr held 86 v d p) :
    ∃ (ao : Option Addr) (n cap : Nat) (l : List R3), v = .slice ao n cap ∧ l.length = n ∧ (n : Int) ≤ 9223372036854775807 ∧ Rs w ao l := by
  obtain ⟨ao, n, cap, rfl⟩ := okWide_slice Tryd.underlying86 hv
  obtain ⟨fuel, hf⟩ := h
  rcases Go.Deep.open_slice Tryd.underlying86 hf with ⟨hcs, _⟩ | ⟨a, len, cap', m, nf, D, Pl, hcs, _, hl, hm, hmm, _, hx⟩
  · simp [Value.cells] at hcs
    obtain ⟨rfl, rfl, rfl⟩ := hcs
    exact ⟨none, 0, 0, [], rfl, rfl, by decide, Rs.empty _ _⟩
  · simp [Value.cells] at hcs
    obtain ⟨rfl, rfl, rfl⟩ := hcs
    have hlm : n ≤ m := by rw [hmm]; split <;> omega
    have hx' : ∀ i, i < n → ∃ r : R3, w.cell? (a.add (i * 3)) = some (.int .i64 r.1) ∧ w.cell? (a.add (i * 3 + 1)) = some (.int .i64 r.2.1) ∧ w.cell? (a.add (i * 3 + 2)) = some (.int .i64 r.2.2) := by
      intro i hi
      obtain ⟨cs, h1, h2⟩ := hx i (by omega)
      rw [cellsRg] at h1
      obtain ⟨_, hlen, hcell⟩ := World.cells?_some h1
      obtain ⟨x, t, b, rfl⟩ := trodRg hlen h2
      have e0 := hcell 0 (by omega)
      have e1 := hcell 1 (by omega)
      have e2 := hcell 2 (by omega)
      simp only [Go.Deep.add_add, Nat.add_zero] at e0 e1 e2
      exact ⟨(x, t, b), by simpa using e0, by simpa using e1, by simpa using e2⟩
    obtain ⟨r, hr⟩ := Go.Deep.choose_lt hx'
    refine ⟨some a, n, cap, (List.range n).map r, rfl, by simp, by unfold maxLen at hm; omega, ?_⟩
    intro hn
    simp at hn
    obtain ⟨k, o, rfl⟩ := addr_at (u := .int .i64 (r 0).1) (by simpa using (hr 0 hn).1)
    refine ⟨k, o, rfl, World.block_lt_of_cell? w (Addr.add ⟨k, o, none⟩ (0 * 3)) (hr 0 hn).1, fun i hi => ?_⟩
    have hi' : i < n := by simpa using hi
    have e := hr i hi'
    simp only [addr_add] at e
    simp only [List.getElem_map, List.getElem_range, Nat.add_assoc]
    exact e
end
end Go.Proofs.YtanahkieondboaaDoor
