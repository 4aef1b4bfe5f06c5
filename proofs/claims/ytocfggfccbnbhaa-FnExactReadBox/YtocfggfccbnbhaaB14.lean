/- OpenB. -/
import Derived.Test.YtocfggfccbnbhaaB13
namespace Go.Proofs.Ytocfggfccbnbhaa
open Go.ChangeShapes Go.WideShapes Go.ChangeAt Go.RowKit Go.Joins
theorem cellsBx : Try.prog.cellsOf 27 = 7 := by kernel_rfl
theorem cellsMls : Try.prog.cellsOf 24 = 1 := by kernel_rfl
theorem cellsIs : Try.prog.cellsOf 25 = 1 := by kernel_rfl
section
variable {H : Type} {enc : TypeId × Value → H} {w : World} {spr : Nat → Bool} {held : Bool}
theorem trod_struct6 {P : Program} {base : Nat} {spare : Nat → Bool} {t : TypeId} {f0 f1 f2 f3 f4 f5 : Field} {fuel : Nat} {cs : List Value} {x : DataW H × List MemPlace} (ht : P.underlying t = some (.struct #[f0, f1, f2, f3, f4, f5])) (h : DataW.trod enc P w base spare held fuel t cs = some x) :
    ∃ y0 y1 y2 y3 y4 y5 n, cs.length = P.cellsOf t ∧ DataW.trod enc P w base spare held n f0.type ((cs.drop f0.offset).take (P.cellsOf f0.type)) = some y0 ∧
      DataW.trod enc P w base spare held n f1.type ((cs.drop f1.offset).take (P.cellsOf f1.type)) = some y1 ∧ DataW.trod enc P w base spare held n f2.type ((cs.drop f2.offset).take (P.cellsOf f2.type)) = some y2 ∧
      DataW.trod enc P w base spare held n f3.type ((cs.drop f3.offset).take (P.cellsOf f3.type)) = some y3 ∧ DataW.trod enc P w base spare held n f4.type ((cs.drop f4.offset).take (P.cellsOf f4.type)) = some y4 ∧
      DataW.trod enc P w base spare held n f5.type ((cs.drop f5.offset).take (P.cellsOf f5.type)) = some y5 := by
  obtain ⟨xs, n, _, rfl, hl, hlen, hf⟩ := DataW.trod_struct ht h
  match xs, hlen with
  | [y0, y1, y2, y3, y4, y5], _ => exact ⟨y0, y1, y2, y3, y4, y5, n, hl, by simpa using hf 0 f0 rfl, by simpa using hf 1 f1 rfl, by simpa using hf 2 f2 rfl, by simpa using hf 3 f3 rfl, by simpa using hf 4 f4 rfl, by simpa using hf 5 f5 rfl⟩
/-- A list of registers in a field: a nil one has no room. -/
theorem trodRgZ {fuel : Nat} {cs : List Value} {y : DataW H × List MemPlace} (hf : DataW.trod enc Try.prog w 0 spr held fuel 77 cs = some y) :
    ∃ (ao : Option Addr) (n cap : Nat) (l : List R3), cs = [.slice ao n cap] ∧ l.length = n ∧ (n : Int) ≤ 9223372036854775807 ∧ Rs w ao l ∧ (ao = none → cap = 0) := by
  obtain ⟨ao, n, cap, l, h1, h2, h3, h4⟩ := trodRgS hf
  refine ⟨ao, n, cap, l, h1, h2, h3, h4, fun h0 => ?_⟩
  subst h0
  rcases Go.Deep.open_slice Try.underlying77 hf with ⟨hcs, _⟩ | ⟨a, n', cap', m, nf, D, Pl, hcs, _⟩
  · rw [h1] at hcs
    simp only [List.cons.injEq, Value.slice.injEq, and_true, true_and] at hcs
    exact hcs.2
  · rw [h1] at hcs
    simp at hcs
set_option maxRecDepth 100000 in
theorem trodMl {fuel : Nat} {cs : List Value} {y : DataW H × List MemPlace} (hc : cs.length = 4) (hf : DataW.trod enc Try.prog w 0 spr held fuel 79 cs = some y) :
    ∃ (r : M4) (fa : Option Addr) (fc : Nat), cs = [.int .i64 r.1, .int .i64 r.2.1, .slice fa r.2.2.1.length fc, .string r.2.2.2] ∧ ((r.2.2.1.length : Int) ≤ 9223372036854775807 ∧ (r.2.2.2.size : Int) ≤ 9223372036854775807) ∧ Rs w fa r.2.2.1 ∧ (fa = none → fc = 0) := by
  match cs, hc with
  | [c0, c1, c2, c3], _ =>
    obtain ⟨y0, y1, y2, y3, n, hx, hl, h0, h1, h2, h3⟩ := trod_struct4 Try.underlying79 hf
    have k0 : DataW.trod enc Try.prog w 0 spr held n 3 [c0] = some y0 := by simpa [cellsInt] using h0
    have k1 : DataW.trod enc Try.prog w 0 spr held n 3 [c1] = some y1 := by simpa [cellsInt] using h1
    have k2 : DataW.trod enc Try.prog w 0 spr held n 77 [c2] = some y2 := by simpa [cellsRs] using h2
    have k3 : DataW.trod enc Try.prog w 0 spr held n 9 [c3] = some y3 := by simpa [cellsTx] using h3
    obtain ⟨g, e0, _, _⟩ := DataW.trod_int Try.underlying3 k0
    obtain ⟨u, e1, _, _⟩ := DataW.trod_int Try.underlying3 k1
    obtain ⟨ao, m, cap, l, e2, hl2, hm, hr, hz⟩ := trodRgZ k2
    obtain ⟨t, e3, _, ht⟩ := DataW.trod_string Try.underlying9 k3
    simp only [List.cons.injEq, and_true] at e0 e1 e2 e3
    subst e0 e1 e2 e3 hl2
    exact ⟨(g, u, l, t), ao, cap, rfl, ⟨hm, by unfold maxLen at ht; dsimp only; omega⟩, hr, hz⟩
set_option maxRecDepth 100000 in
theorem trodMlS {fuel : Nat} {cs : List Value} {y : DataW H × List MemPlace} (hf : DataW.trod enc Try.prog w 0 spr held fuel 24 cs = some y) :
    ∃ (ao : Option Addr) (n cap : Nat) (L : List M4), cs = [.slice ao n cap] ∧ L.length = n ∧ (n : Int) ≤ 9223372036854775807 ∧ Fit L ∧ Ms 0 w.heap.size w ao L := by
  rcases Go.Deep.open_slice Try.underlying24 hf with ⟨hcs, _⟩ | ⟨a, n, cap, m, nf, D, Pl, hcs, _, hl, hm, hmm, _, hx⟩
  · exact ⟨none, 0, 0, [], hcs, rfl, by decide, (fun m hm => by cases hm), Nat.le_refl _, fun i hi => absurd hi (by simp)⟩
  · have hlm : n ≤ m := by rw [hmm]; split <;> omega
    have hx' : ∀ i, i < n → ∃ z : M4 × Option Addr × Nat, (w.cell? (a.add (i * 4)) = some (.int .i64 z.1.1) ∧ w.cell? (a.add (i * 4 + 1)) = some (.int .i64 z.1.2.1) ∧ w.cell? (a.add (i * 4 + 2)) = some (.slice z.2.1 z.1.2.2.1.length z.2.2) ∧ w.cell? (a.add (i * 4 + 3)) = some (.string z.1.2.2.2)) ∧ ((z.1.2.2.1.length : Int) ≤ 9223372036854775807 ∧ (z.1.2.2.2.size : Int) ≤ 9223372036854775807) ∧ Rs w z.2.1 z.1.2.2.1 ∧ (z.2.1 = none → z.2.2 = 0) := by
      intro i hi
      obtain ⟨cs, h1, h2⟩ := hx i (by omega)
      rw [cellsMl] at h1
      obtain ⟨_, hlen, hcell⟩ := World.cells?_some h1
      obtain ⟨r, fa, fc, rfl, hf1, hf2, hf3⟩ := trodMl hlen h2
      have e0 := hcell 0 (by omega)
      have e1 := hcell 1 (by omega)
      have e2 := hcell 2 (by omega)
      have e3 := hcell 3 (by omega)
      simp only [Go.Deep.add_add, Nat.add_zero] at e0 e1 e2 e3
      exact ⟨(r, fa, fc), ⟨by simpa using e0, by simpa using e1, by simpa using e2, by simpa using e3⟩, hf1, hf2, hf3⟩
    obtain ⟨r, hr⟩ := Go.Deep.choose_lt hx'
    refine ⟨some a, n, cap, (List.range n).map (fun i => (r i).1), hcs, by simp, by unfold maxLen at hm; omega, ?_, Nat.le_refl _, ?_⟩
    · intro x hx
      obtain ⟨i, hi, rfl⟩ := List.mem_map.1 hx
      exact (hr i (List.mem_range.1 hi)).2.1
    · intro i hi
      have hi' : i < n := by simpa using hi
      obtain ⟨e, _, e2, e3⟩ := hr i hi'
      obtain ⟨k, o, rfl⟩ := addr_at (a := a) (u := .int .i64 (r 0).1.1) (by simpa using (hr 0 (by omega)).1.1)
      have hb := World.block_lt_of_cell? w (Addr.add ⟨k, o, none⟩ (i * 4)) e.1
      simp only [addr_add] at e hb
      refine ⟨k, o, (r i).2.1, (r i).2.2, rfl, Nat.zero_le _, hb, ?_, ?_, e3⟩
      · simp only [List.getElem_map, List.getElem_range, Nat.add_assoc]
        exact e
      · simp only [List.getElem_map, List.getElem_range]
        intro hn
        obtain ⟨k', o', h1, h2, h3⟩ := e2 hn
        exact ⟨k', o', h1, Nat.zero_le _, h2, h3⟩
set_option maxRecDepth 100000 in
theorem trodIS {fuel : Nat} {cs : List Value} {y : DataW H × List MemPlace} (hf : DataW.trod enc Try.prog w 0 spr held fuel 25 cs = some y) :
    ∃ (ao : Option Addr) (n cap : Nat) (G : List Int), cs = [.slice ao n cap] ∧ G.length = n ∧ (n : Int) ≤ 9223372036854775807 ∧ Is 0 w.heap.size w ao G := by
  rcases Go.Deep.open_slice Try.underlying25 hf with ⟨hcs, _⟩ | ⟨a, n, cap, m, nf, D, Pl, hcs, _, hl, hm, hmm, _, hx⟩
  · exact ⟨none, 0, 0, [], hcs, rfl, by decide, Nat.le_refl _, fun i hi => absurd hi (by simp)⟩
  · have hlm : n ≤ m := by rw [hmm]; split <;> omega
    have hx' : ∀ i, i < n → ∃ z : Int, w.cell? (a.add i) = some (.int .i64 z) := by
      intro i hi
      obtain ⟨cs, h1, h2⟩ := hx i (by omega)
      rw [cellsInt] at h1
      obtain ⟨_, hlen, hcell⟩ := World.cells?_some h1
      match cs, hlen with
      | [c0], _ =>
        obtain ⟨z, e0, _, _⟩ := DataW.trod_int Try.underlying3 h2
        simp only [List.cons.injEq, and_true] at e0
        subst e0
        have e := hcell 0 (by omega)
        exact ⟨z, by simpa [Go.Deep.add_add] using e⟩
    obtain ⟨r, hr⟩ := Go.Deep.choose_lt hx'
    refine ⟨some a, n, cap, (List.range n).map r, hcs, by simp, by unfold maxLen at hm; omega, Nat.le_refl _, ?_⟩
    intro i hi
    have hi' : i < n := by simpa using hi
    have e := hr i hi'
    obtain ⟨k, o, rfl⟩ := addr_at (a := a) (u := .int .i64 (r 0)) (hr 0 (by omega))
    have hb := World.block_lt_of_cell? w (Addr.add ⟨k, o, none⟩ i) e
    simp only [addr_add] at e hb
    refine ⟨k, o, rfl, Nat.zero_le _, hb, ?_⟩
    simp only [List.getElem_map, List.getElem_range]
    exact e
set_option maxRecDepth 100000 in
theorem openBx {base : Nat} {v : Value} {d : DataW H} {p : List MemPlace} (hv : Value.okWide Try.prog w .any base 27 v) (h : DataW.Trod enc Try.prog w 0 spr held 27 v d p) :
    ∃ (g : Int) (nm : ByteArray) (t b nx : Int) (ma : Option Addr) (mn mc : Nat) (ga : Option Addr) (gn gc : Nat) (L : List M4) (G : List Int), v = .agg #[.int .i64 g, .string nm, .int .i64 t, .int .i64 b, .int .i64 nx, .slice ma mn mc, .slice ga gn gc] ∧ (nm.size : Int) ≤ 9223372036854775807 ∧ L.length = mn ∧ (mn : Int) ≤ 9223372036854775807 ∧ Fit L ∧ Ms 0 w.heap.size w ma L ∧ G.length = gn ∧ (gn : Int) ≤ 9223372036854775807 ∧ Is 0 w.heap.size w ga G := by
  obtain ⟨cs, rfl, hsz⟩ := okWide_struct Try.underlying27 hv
  obtain ⟨fuel, hf⟩ := h
  rw [cellsBx] at hsz
  obtain ⟨l, rfl⟩ : ∃ l : List Value, cs = l.toArray := ⟨cs.toList, by simp⟩
  have hlen : l.length = 7 := by simpa using hsz
  match l, hlen with
  | [c0, c1, c2, c3, c4, c5, c6], _ =>
    obtain ⟨y0, y1, y2, y3, y4, y5, n, hl, h0, h1, h2, h3, h4, h5⟩ := trod_struct6 Try.underlying27 hf
    have k0 : DataW.trod enc Try.prog w 0 spr held n 3 [c0] = some y0 := by simpa [cellsInt, Value.cells] using h0
    have k1 : DataW.trod enc Try.prog w 0 spr held n 9 [c1] = some y1 := by simpa [cellsTx, Value.cells] using h1
    have k2 : DataW.trod enc Try.prog w 0 spr held n 23 [c2, c3] = some y2 := by simpa [cellsSt, Value.cells] using h2
    have k3 : DataW.trod enc Try.prog w 0 spr held n 3 [c4] = some y3 := by simpa [cellsInt, Value.cells] using h3
    have k4 : DataW.trod enc Try.prog w 0 spr held n 24 [c5] = some y4 := by simpa [cellsMls, Value.cells] using h4
    have k5 : DataW.trod enc Try.prog w 0 spr held n 25 [c6] = some y5 := by simpa [cellsIs, Value.cells] using h5
    obtain ⟨g, e0, _, _⟩ := DataW.trod_int Try.underlying3 k0
    obtain ⟨nm, e1, _, hnm⟩ := DataW.trod_string Try.underlying9 k1
    obtain ⟨t, b, e2, _, _, _⟩ := trodSt rfl k2
    obtain ⟨nx, e3, _, _⟩ := DataW.trod_int Try.underlying3 k3
    obtain ⟨ma, mn, mc, L, e4, i1, i2, i3, i4⟩ := trodMlS k4
    obtain ⟨ga, gn, gc, G, e5, j1, j2, j3⟩ := trodIS k5
    simp only [List.cons.injEq, and_true] at e0 e1 e2 e3 e4 e5
    obtain ⟨rfl, rfl⟩ := e2
    subst e0 e1 e3 e4 e5
    exact ⟨g, nm, t, b, nx, ma, mn, mc, ga, gn, gc, L, G, rfl, by unfold maxLen at hnm; omega, i1, i2, i3, i4, j1, j2, j3⟩
end
end Go.Proofs.Ytocfggfccbnbhaa

