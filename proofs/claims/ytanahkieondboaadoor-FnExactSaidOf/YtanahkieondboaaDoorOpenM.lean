/- Mails as arguments: opened. -/
import Derived.Test.YtanahkieondboaaDoorOpenL
namespace Go.Proofs.YtanahkieondboaaDoor
open Go.ChangeShapes Go.WideShapes Go.ChangeAt Go.RowKit Go.Joins

theorem cellsMl : Tryd.prog.cellsOf 88 = 4 := by kernel_rfl
theorem cellsRs : Tryd.prog.cellsOf 86 = 1 := by kernel_rfl
theorem cellsTx : Tryd.prog.cellsOf 9 = 1 := by kernel_rfl

section
variable {H : Type} {enc : TypeId × Value → H} {w : World} {spr : Nat → Bool} {held : Bool}

set_option maxRecDepth 100000 in
theorem trodRgS {fuel : Nat} {cs : List Value} {y : DataW H × List MemPlace} (hf : DataW.trod enc Tryd.prog w 0 spr held fuel 86 cs = some y) :
    ∃ (ao : Option Addr) (n cap : Nat) (l : List R3), cs = [.slice ao n cap] ∧ l.length = n ∧ (n : Int) ≤ 9223372036854775807 ∧ Rs w ao l := by
  rcases Go.Deep.open_slice Tryd.underlying86 hf with ⟨hcs, _⟩ | ⟨a, n, cap, m, nf, D, Pl, hcs, _, hl, hm, hmm, _, hx⟩
  · exact ⟨none, 0, 0, [], hcs, rfl, by decide, Rs.empty _ _⟩
  · have hlm : n ≤ m := by rw [hmm]; split <;> omega
    have hx' : ∀ i, i < n → ∃ r : R3, w.cell? (a.add (i * 3)) = some (.int .i64 r.1) ∧ w.cell? (a.add (i * 3 + 1)) = some (.int .i64 r.2.1) ∧ w.cell? (a.add (i * 3 + 2)) = some (.int .i64 r.2.2) := by
      intro i hi
      obtain ⟨cs, h1, h2⟩ := hx i (by omega)
      rw [cellsRg] at h1
      obtain ⟨_, hlen, hcell⟩ := World.cells?_some h1
      obtain ⟨x, t, b, rfl⟩ := trodRg hlen h2
      have e0 := hcell 0 (by omega)
      have e1 := hcell 1 (by omega)
      have e2 := hcell 2 (by omega)
      simp only [Go.Deep.add_add, Nat.add_zero] at e0 e1 e2
      exact ⟨(x, t, b), by simpa using e0, by simpa using e1, by simpa using e2⟩
    obtain ⟨r, hr⟩ := Go.Deep.choose_lt hx'
    refine ⟨some a, n, cap, (List.range n).map r, hcs, by simp, by unfold maxLen at hm; omega, ?_⟩
    intro hn
    simp at hn
    obtain ⟨k, o, rfl⟩ := addr_at (u := .int .i64 (r 0).1) (by simpa using (hr 0 hn).1)
    refine ⟨k, o, rfl, World.block_lt_of_cell? w (Addr.add ⟨k, o, none⟩ (0 * 3)) (hr 0 hn).1, fun i hi => ?_⟩
    have hi' : i < n := by simpa using hi
    have e := hr i hi'
    simp only [addr_add] at e
    simp only [List.getElem_map, List.getElem_range, Nat.add_assoc]
    exact e

set_option maxRecDepth 100000 in
theorem openMl {base : Nat} {v : Value} {d : DataW H} {p : List MemPlace} (hv : Value.okWide Tryd.prog w .any base 88 v) (h : DataW.Trod enc Tryd.prog w 0 spr held 88 v d p) :
    ∃ (g u : Int) (ao : Option Addr) (n cap : Nat) (l : List R3) (t : ByteArray), v = .agg #[.int .i64 g, .int .i64 u, .slice ao n cap, .string t] ∧ l.length = n ∧ (n : Int) ≤ 9223372036854775807 ∧ (t.size : Int) ≤ 9223372036854775807 ∧ Rs w ao l := by
  obtain ⟨cs, rfl, hsz⟩ := okWide_struct Tryd.underlying88 hv
  obtain ⟨fuel, hf⟩ := h
  rw [cellsMl] at hsz
  obtain ⟨c0, c1, c2, c3, rfl⟩ := array4 hsz
  obtain ⟨y0, y1, y2, y3, n, hx, hl, h0, h1, h2, h3⟩ := trod_struct4 Tryd.underlying88 hf
  have k0 : DataW.trod enc Tryd.prog w 0 spr held n 3 [c0] = some y0 := by simpa [cellsInt, Value.cells] using h0
  have k1 : DataW.trod enc Tryd.prog w 0 spr held n 3 [c1] = some y1 := by simpa [cellsInt, Value.cells] using h1
  have k2 : DataW.trod enc Tryd.prog w 0 spr held n 86 [c2] = some y2 := by simpa [cellsRs, Value.cells] using h2
  have k3 : DataW.trod enc Tryd.prog w 0 spr held n 9 [c3] = some y3 := by simpa [cellsTx, Value.cells] using h3
  obtain ⟨g, e0, _, _⟩ := DataW.trod_int Tryd.underlying3 k0
  obtain ⟨u, e1, _, _⟩ := DataW.trod_int Tryd.underlying3 k1
  obtain ⟨ao, m, cap, l, e2, hl2, hm, hr⟩ := trodRgS k2
  obtain ⟨t, e3, _, ht⟩ := DataW.trod_string Tryd.underlying9 k3
  simp only [List.cons.injEq, and_true] at e0 e1 e2 e3
  subst e0 e1 e2 e3
  exact ⟨g, u, ao, m, cap, l, t, rfl, hl2, hm, by unfold maxLen at ht; omega, hr⟩
end
end Go.Proofs.YtanahkieondboaaDoor
