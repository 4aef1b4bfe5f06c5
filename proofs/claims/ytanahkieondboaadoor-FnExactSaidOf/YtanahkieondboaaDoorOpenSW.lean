/- Stores as arguments: opened, with the bounds of their numbers. -/
import Derived.Test.YtanahkieondboaaDoorOpenS
namespace Go.Proofs.YtanahkieondboaaDoor
open Go.ChangeShapes Go.WideShapes Go.ChangeAt Go.RowKit Go.Joins

section
variable {H : Type} {enc : TypeId × Value → H} {w : World} {spr : Nat → Bool} {held : Bool}

set_option maxRecDepth 100000 in
theorem trodMlW {fuel : Nat} {cs : List Value} {y : DataW H × List MemPlace} (hc : cs.length = 4) (hf : DataW.trod enc Tryd.prog w 0 spr held fuel 88 cs = some y) :
    ∃ (r : M4) (fa : Option Addr) (fc : Nat), cs = [.int .i64 r.1, .int .i64 r.2.1, .slice fa r.2.2.1.length fc, .string r.2.2.2] ∧ ((r.2.2.1.length : Int) ≤ 9223372036854775807 ∧ (r.2.2.2.size : Int) ≤ 9223372036854775807) ∧ Rs w fa r.2.2.1 ∧ (fa = none → fc = 0) ∧ (-9223372036854775808 ≤ r.2.1 ∧ r.2.1 ≤ 9223372036854775807) := by
  match cs, hc with
  | [c0, c1, c2, c3], _ =>
    obtain ⟨y0, y1, y2, y3, n, hx, hl, h0, h1, h2, h3⟩ := trod_struct4 Tryd.underlying88 hf
    have k0 : DataW.trod enc Tryd.prog w 0 spr held n 3 [c0] = some y0 := by simpa [cellsInt] using h0
    have k1 : DataW.trod enc Tryd.prog w 0 spr held n 3 [c1] = some y1 := by simpa [cellsInt] using h1
    have k2 : DataW.trod enc Tryd.prog w 0 spr held n 86 [c2] = some y2 := by simpa [cellsRs] using h2
    have k3 : DataW.trod enc Tryd.prog w 0 spr held n 9 [c3] = some y3 := by simpa [cellsTx] using h3
    obtain ⟨g, e0, _, _⟩ := DataW.trod_int Tryd.underlying3 k0
    obtain ⟨u, e1, _, hwx⟩ := DataW.trod_int Tryd.underlying3 k1
    obtain ⟨ao, m, cap, l, e2, hl2, hm, hr, hz⟩ := trodRgZ k2
    obtain ⟨t, e3, _, ht⟩ := DataW.trod_string Tryd.underlying9 k3
    simp only [List.cons.injEq, and_true] at e0 e1 e2 e3
    subst e0 e1 e2 e3 hl2
    exact ⟨(g, u, l, t), ao, cap, rfl, ⟨hm, by unfold maxLen at ht; dsimp only; omega⟩, hr, hz, (by simpa [Lit.wf, IntKind.min, IntKind.max, IntKind.bits, IntKind.signed] using hwx)⟩

set_option maxRecDepth 100000 in
theorem trodMlSW {fuel : Nat} {cs : List Value} {y : DataW H × List MemPlace} (hf : DataW.trod enc Tryd.prog w 0 spr held fuel 66 cs = some y) :
    ∃ (ao : Option Addr) (n cap : Nat) (L : List M4), cs = [.slice ao n cap] ∧ L.length = n ∧ (n : Int) ≤ 9223372036854775807 ∧ Fit L ∧ Ms 0 w.heap.size w ao L ∧ (ao = none → cap = 0) ∧ ∀ m ∈ L, -9223372036854775808 ≤ m.2.1 ∧ m.2.1 ≤ 9223372036854775807 := by
  rcases Go.Deep.open_slice Tryd.underlying66 hf with ⟨hcs, _⟩ | ⟨a, n, cap, m, nf, D, Pl, hcs, _, hl, hm, hmm, _, hx⟩
  · exact ⟨none, 0, 0, [], hcs, rfl, by decide, (fun m hm => by cases hm), ⟨Nat.le_refl _, fun i hi => absurd hi (by simp)⟩, fun _ => rfl, (fun m hm => by cases hm)⟩
  · have hlm : n ≤ m := by rw [hmm]; split <;> omega
    have hx' : ∀ i, i < n → ∃ z : M4 × Option Addr × Nat, (w.cell? (a.add (i * 4)) = some (.int .i64 z.1.1) ∧ w.cell? (a.add (i * 4 + 1)) = some (.int .i64 z.1.2.1) ∧ w.cell? (a.add (i * 4 + 2)) = some (.slice z.2.1 z.1.2.2.1.length z.2.2) ∧ w.cell? (a.add (i * 4 + 3)) = some (.string z.1.2.2.2)) ∧ ((z.1.2.2.1.length : Int) ≤ 9223372036854775807 ∧ (z.1.2.2.2.size : Int) ≤ 9223372036854775807) ∧ Rs w z.2.1 z.1.2.2.1 ∧ (z.2.1 = none → z.2.2 = 0) ∧ (-9223372036854775808 ≤ z.1.2.1 ∧ z.1.2.1 ≤ 9223372036854775807) := by
      intro i hi
      obtain ⟨cs, h1, h2⟩ := hx i (by omega)
      rw [cellsMl] at h1
      obtain ⟨_, hlen, hcell⟩ := World.cells?_some h1
      obtain ⟨r, fa, fc, rfl, hf1, hf2, hf3, hf4⟩ := trodMlW hlen h2
      have e0 := hcell 0 (by omega)
      have e1 := hcell 1 (by omega)
      have e2 := hcell 2 (by omega)
      have e3 := hcell 3 (by omega)
      simp only [Go.Deep.add_add, Nat.add_zero] at e0 e1 e2 e3
      exact ⟨(r, fa, fc), ⟨by simpa using e0, by simpa using e1, by simpa using e2, by simpa using e3⟩, hf1, hf2, hf3, hf4⟩
    obtain ⟨r, hr⟩ := Go.Deep.choose_lt hx'
    refine ⟨some a, n, cap, (List.range n).map (fun i => (r i).1), hcs, by simp, by unfold maxLen at hm; omega, ?_, ⟨Nat.le_refl _, ?_⟩, (fun h => by cases h), ?_⟩
    · intro x hx
      obtain ⟨i, hi, rfl⟩ := List.mem_map.1 hx
      exact (hr i (List.mem_range.1 hi)).2.1
    · intro i hi
      have hi' : i < n := by simpa using hi
      obtain ⟨e, _, e2, e3, _⟩ := hr i hi'
      obtain ⟨k, o, rfl⟩ := addr_at (a := a) (u := .int .i64 (r 0).1.1) (by simpa using (hr 0 (by omega)).1.1)
      have hb := World.block_lt_of_cell? w (Addr.add ⟨k, o, none⟩ (i * 4)) e.1
      simp only [addr_add] at e hb
      refine ⟨k, o, (r i).2.1, (r i).2.2, rfl, Nat.zero_le _, hb, ?_, ?_, e3⟩
      · simp only [List.getElem_map, List.getElem_range, Nat.add_assoc]
        exact e
      · simp only [List.getElem_map, List.getElem_range]
        intro hn
        obtain ⟨k', o', h1, h2, h3⟩ := e2 hn
        exact ⟨k', o', h1, Nat.zero_le _, h2, h3⟩

    · intro x hx
      obtain ⟨i, hi, rfl⟩ := List.mem_map.1 hx
      exact (hr i (List.mem_range.1 hi)).2.2.2.2

set_option maxRecDepth 100000 in
theorem trodBxW {fuel : Nat} {cs : List Value} {y : DataW H × List MemPlace} (hc : cs.length = 7) (hf : DataW.trod enc Tryd.prog w 0 spr held fuel 68 cs = some y) :
    ∃ (x : X7) (ma : Option Addr) (mc : Nat) (ga : Option Addr) (gc : Nat), cs = [.int .i64 x.1, .string x.2.1, .int .i64 x.2.2.1, .int .i64 x.2.2.2.1, .int .i64 x.2.2.2.2.1, .slice ma x.2.2.2.2.2.1.length mc, .slice ga x.2.2.2.2.2.2.length gc] ∧ ((x.2.1.size : Int) ≤ 9223372036854775807 ∧ (x.2.2.2.2.2.1.length : Int) ≤ 9223372036854775807 ∧ Fit x.2.2.2.2.2.1 ∧ (x.2.2.2.2.2.2.length : Int) ≤ 9223372036854775807) ∧ Ms 0 w.heap.size w ma x.2.2.2.2.2.1 ∧ Is 0 w.heap.size w ga x.2.2.2.2.2.2 ∧ (ma = none → mc = 0) ∧ (ga = none → gc = 0) ∧ x.2.2.2.2.1 ≤ 9223372036854775807 ∧ ∀ m ∈ x.2.2.2.2.2.1, m.2.1 ≤ 9223372036854775807 := by
  match cs, hc with
  | [c0, c1, c2, c3, c4, c5, c6], _ =>
    obtain ⟨y0, y1, y2, y3, y4, y5, n, hl, h0, h1, h2, h3, h4, h5⟩ := trod_struct6 Tryd.underlying68 hf
    have k0 : DataW.trod enc Tryd.prog w 0 spr held n 3 [c0] = some y0 := by simpa [cellsInt] using h0
    have k1 : DataW.trod enc Tryd.prog w 0 spr held n 9 [c1] = some y1 := by simpa [cellsTx] using h1
    have k2 : DataW.trod enc Tryd.prog w 0 spr held n 65 [c2, c3] = some y2 := by simpa [cellsSt] using h2
    have k3 : DataW.trod enc Tryd.prog w 0 spr held n 3 [c4] = some y3 := by simpa [cellsInt] using h3
    have k4 : DataW.trod enc Tryd.prog w 0 spr held n 66 [c5] = some y4 := by simpa [cellsMls] using h4
    have k5 : DataW.trod enc Tryd.prog w 0 spr held n 25 [c6] = some y5 := by simpa [cellsIs] using h5
    obtain ⟨g, e0, _, _⟩ := DataW.trod_int Tryd.underlying3 k0
    obtain ⟨nm, e1, _, hnm⟩ := DataW.trod_string Tryd.underlying9 k1
    obtain ⟨t, b, e2, _, _, _⟩ := trodSt rfl k2
    obtain ⟨nx, e3, _, hwx⟩ := DataW.trod_int Tryd.underlying3 k3
    obtain ⟨ma, mn, mc, L, e4, i1, i2, i3, i4, i5, i6⟩ := trodMlSW k4
    obtain ⟨ga, gn, gc, G, e5, j1, j2, j3, j4⟩ := trodIZ k5
    simp only [List.cons.injEq, and_true] at e0 e1 e2 e3 e4 e5
    obtain ⟨rfl, rfl⟩ := e2
    subst e0 e1 e3 e4 e5 i1 j1
    exact ⟨(g, nm, t, b, nx, L, G), ma, mc, ga, gc, rfl, ⟨by unfold maxLen at hnm; dsimp only; omega, i2, i3, j2⟩, i4, j3, i5, j4, by have h : -9223372036854775808 ≤ nx ∧ nx ≤ 9223372036854775807 := by simpa [Lit.wf, IntKind.min, IntKind.max, IntKind.bits, IntKind.signed] using hwx
                                                                                                                                      exact h.2, fun m hm => (i6 m hm).2⟩

set_option maxRecDepth 100000 in
theorem trodBxSW {fuel : Nat} {cs : List Value} {y : DataW H × List MemPlace} (hf : DataW.trod enc Tryd.prog w 0 spr held fuel 24 cs = some y) :
    ∃ (ao : Option Addr) (n cap : Nat) (S : List X7), cs = [.slice ao n cap] ∧ S.length = n ∧ (n : Int) ≤ 9223372036854775807 ∧ FitB S ∧ Bs 0 w.heap.size w ao S ∧ ∀ x ∈ S, x.2.2.2.2.1 ≤ 9223372036854775807 ∧ ∀ m ∈ x.2.2.2.2.2.1, m.2.1 ≤ 9223372036854775807 := by
  rcases Go.Deep.open_slice Tryd.underlying24 hf with ⟨hcs, _⟩ | ⟨a, n, cap, m, nf, D, Pl, hcs, _, hl, hm, hmm, _, hx⟩
  · exact ⟨none, 0, 0, [], hcs, rfl, by decide, (fun m hm => by cases hm), ⟨Nat.le_refl _, fun i hi => absurd hi (by simp)⟩, (fun m hm => by cases hm)⟩
  · have hlm : n ≤ m := by rw [hmm]; split <;> omega
    have hx' : ∀ i, i < n → ∃ z : X7 × Option Addr × Nat × Option Addr × Nat, (w.cell? (a.add (i * 7)) = some (.int .i64 z.1.1) ∧ w.cell? (a.add (i * 7 + 1)) = some (.string z.1.2.1) ∧ w.cell? (a.add (i * 7 + 2)) = some (.int .i64 z.1.2.2.1) ∧ w.cell? (a.add (i * 7 + 3)) = some (.int .i64 z.1.2.2.2.1) ∧ w.cell? (a.add (i * 7 + 4)) = some (.int .i64 z.1.2.2.2.2.1) ∧ w.cell? (a.add (i * 7 + 5)) = some (.slice z.2.1 z.1.2.2.2.2.2.1.length z.2.2.1) ∧ w.cell? (a.add (i * 7 + 6)) = some (.slice z.2.2.2.1 z.1.2.2.2.2.2.2.length z.2.2.2.2)) ∧ ((z.1.2.1.size : Int) ≤ 9223372036854775807 ∧ (z.1.2.2.2.2.2.1.length : Int) ≤ 9223372036854775807 ∧ Fit z.1.2.2.2.2.2.1 ∧ (z.1.2.2.2.2.2.2.length : Int) ≤ 9223372036854775807) ∧ Ms 0 w.heap.size w z.2.1 z.1.2.2.2.2.2.1 ∧ Is 0 w.heap.size w z.2.2.2.1 z.1.2.2.2.2.2.2 ∧ (z.2.1 = none → z.2.2.1 = 0) ∧ (z.2.2.2.1 = none → z.2.2.2.2 = 0) ∧ z.1.2.2.2.2.1 ≤ 9223372036854775807 ∧ ∀ m ∈ z.1.2.2.2.2.2.1, m.2.1 ≤ 9223372036854775807 := by
      intro i hi
      obtain ⟨cs, h1, h2⟩ := hx i (by omega)
      rw [cellsBx] at h1
      obtain ⟨_, hlen, hcell⟩ := World.cells?_some h1
      obtain ⟨x, ma, mc, ga, gc, rfl, hf1, hf2, hf3, hf4, hf5, hf6⟩ := trodBxW hlen h2
      have e0 := hcell 0 (by omega)
      have e1 := hcell 1 (by omega)
      have e2 := hcell 2 (by omega)
      have e3 := hcell 3 (by omega)
      have e4 := hcell 4 (by omega)
      have e5 := hcell 5 (by omega)
      have e6 := hcell 6 (by omega)
      simp only [Go.Deep.add_add, Nat.add_zero] at e0 e1 e2 e3 e4 e5 e6
      exact ⟨(x, ma, mc, ga, gc), ⟨by simpa using e0, by simpa using e1, by simpa using e2, by simpa using e3, by simpa using e4, by simpa using e5, by simpa using e6⟩, hf1, hf2, hf3, hf4, hf5, hf6⟩
    obtain ⟨r, hr⟩ := Go.Deep.choose_lt hx'
    refine ⟨some a, n, cap, (List.range n).map (fun i => (r i).1), hcs, by simp, by unfold maxLen at hm; omega, ?_, ⟨Nat.le_refl _, ?_⟩, ?_⟩
    · intro x hx
      obtain ⟨i, hi, rfl⟩ := List.mem_map.1 hx
      exact (hr i (List.mem_range.1 hi)).2.1
    · intro i hi
      have hi' : i < n := by simpa using hi
      obtain ⟨e, _, e2, e3, e4, e5, _⟩ := hr i hi'
      obtain ⟨k, o, rfl⟩ := addr_at (a := a) (u := .int .i64 (r 0).1.1) (by simpa using (hr 0 (by omega)).1.1)
      have hb := World.block_lt_of_cell? w (Addr.add ⟨k, o, none⟩ (i * 7)) e.1
      simp only [addr_add] at e hb
      refine ⟨k, o, (r i).2.1, (r i).2.2.1, (r i).2.2.2.1, (r i).2.2.2.2, rfl, Nat.zero_le _, hb, ?_, ?_, ?_, e4, e5⟩
      · simp only [List.getElem_map, List.getElem_range]
        unfold C7
        simp only [Nat.add_assoc]
        exact e
      · simp only [List.getElem_map, List.getElem_range]
        exact e2
      · simp only [List.getElem_map, List.getElem_range]
        exact e3

    · intro x hx
      obtain ⟨i, hi, rfl⟩ := List.mem_map.1 hx
      exact (hr i (List.mem_range.1 hi)).2.2.2.2.2.2

set_option maxRecDepth 100000 in
theorem openSoW {base : Nat} {v : Value} {d : DataW H} {p : List MemPlace} (hv : Value.okWide Tryd.prog w .any base 27 v) (h : DataW.Trod enc Tryd.prog w 0 spr held 27 v d p) :
    ∃ (y tm : Int) (ba : Option Addr) (bn bc : Nat) (ga : Option Addr) (gn gc : Nat) (S : List X7) (G : List Int), v = .agg #[.int .i64 y, .int .i64 tm, .slice ba bn bc, .slice ga gn gc] ∧ S.length = bn ∧ (bn : Int) ≤ 9223372036854775807 ∧ FitB S ∧ Bs 0 w.heap.size w ba S ∧ G.length = gn ∧ (gn : Int) ≤ 9223372036854775807 ∧ Is 0 w.heap.size w ga G ∧ ∀ x ∈ S, x.2.2.2.2.1 ≤ 9223372036854775807 ∧ ∀ m ∈ x.2.2.2.2.2.1, m.2.1 ≤ 9223372036854775807 := by
  obtain ⟨cs, rfl, hsz⟩ := okWide_struct Tryd.underlying27 hv
  obtain ⟨fuel, hf⟩ := h
  rw [cellsSo] at hsz
  obtain ⟨l, rfl⟩ : ∃ l : List Value, cs = l.toArray := ⟨cs.toList, by simp⟩
  have hlen : l.length = 4 := by simpa using hsz
  match l, hlen with
  | [c0, c1, c2, c3], _ =>
    obtain ⟨y0, y1, y2, y3, n, hx, hl, h0, h1, h2, h3⟩ := trod_struct4 Tryd.underlying27 hf
    have k0 : DataW.trod enc Tryd.prog w 0 spr held n 3 [c0] = some y0 := by simpa [cellsInt, Value.cells] using h0
    have k1 : DataW.trod enc Tryd.prog w 0 spr held n 3 [c1] = some y1 := by simpa [cellsInt, Value.cells] using h1
    have k2 : DataW.trod enc Tryd.prog w 0 spr held n 24 [c2] = some y2 := by simpa [cellsBxs, Value.cells] using h2
    have k3 : DataW.trod enc Tryd.prog w 0 spr held n 25 [c3] = some y3 := by simpa [cellsIs, Value.cells] using h3
    obtain ⟨g, e0, _, _⟩ := DataW.trod_int Tryd.underlying3 k0
    obtain ⟨u, e1, _, _⟩ := DataW.trod_int Tryd.underlying3 k1
    obtain ⟨ba, bn, bc, S, e2, i1, i2, i3, i4, i5⟩ := trodBxSW k2
    obtain ⟨ga, gn, gc, G, e3, j1, j2, j3⟩ := trodIS k3
    simp only [List.cons.injEq, and_true] at e0 e1 e2 e3
    subst e0 e1 e2 e3
    exact ⟨g, u, ba, bn, bc, ga, gn, gc, S, G, rfl, i1, i2, i3, i4, j1, j2, j3, i5⟩
end
end Go.Proofs.YtanahkieondboaaDoor
