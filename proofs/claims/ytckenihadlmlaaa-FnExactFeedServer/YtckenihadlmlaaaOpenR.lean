/- Servers as arguments: opened. -/
import Derived.Test.YtckenihadlmlaaaXve
namespace Go.Proofs.Ytckenihadlmlaaa
open Go.ChangeShapes Go.WideShapes Go.ChangeAt Go.RowKit Go.Joins

theorem cellsKp16 : Try.prog.cellsOf 40 = 6 := by kernel_rfl
theorem cellsSo16 : Try.prog.cellsOf 38 = 4 := by kernel_rfl
theorem cellsSn16 : Try.prog.cellsOf 41 = 6 := by kernel_rfl
theorem cellsSv16 : Try.prog.cellsOf 43 = 13 := by kernel_rfl
theorem cellsTx16 : Try.prog.cellsOf 9 = 1 := by kernel_rfl
theorem cellsIn16 : Try.prog.cellsOf 3 = 1 := by kernel_rfl
theorem cellsBl16 : Try.prog.cellsOf 4 = 1 := by kernel_rfl
theorem cellsIs16 : Try.prog.cellsOf 23 = 1 := by kernel_rfl
theorem array13 {α : Type} {cs : Array α} (h : cs.size = 13) : ∃ c0 c1 c2 c3 c4 c5 c6 c7 c8 c9 d0 d1 d2, cs = #[c0, c1, c2, c3, c4, c5, c6, c7, c8, c9, d0, d1, d2] := by
  obtain ⟨l, rfl⟩ : ∃ l : List α, cs = l.toArray := ⟨cs.toList, by simp⟩
  have hl : l.length = 13 := by simpa using h
  match l, hl with
  | [c0, c1, c2, c3, c4, c5, c6, c7, c8, c9, d0, d1, d2], _ => exact ⟨c0, c1, c2, c3, c4, c5, c6, c7, c8, c9, d0, d1, d2, rfl⟩
section
variable {H : Type} {enc : TypeId × Value → H} {w : World} {spr : Nat → Bool} {held : Bool}
set_option maxRecDepth 100000 in
theorem trodKp16 {fuel : Nat} {c0 c1 c2 c3 c4 c5 : Value} {y : DataW H × List MemPlace} (hf : DataW.trod enc Try.prog w 0 spr held fuel 40 [c0, c1, c2, c3, c4, c5] = some y) :
    ∃ (y tm : Int) (ba : Option Addr) (bn bc : Nat) (ga : Option Addr) (gn gc : Nat) (S : List X7) (G : List Int) (jr : ByteArray) (sv : Int), (c0 = .int .i64 y ∧ c1 = .int .i64 tm ∧ c2 = .slice ba bn bc ∧ c3 = .slice ga gn gc ∧ c4 = .string jr ∧ c5 = .int .i64 sv) ∧ S.length = bn ∧ (bn : Int) ≤ 9223372036854775807 ∧ FitB S ∧ Bs 0 w.heap.size w ba S ∧ G.length = gn ∧ (gn : Int) ≤ 9223372036854775807 ∧ Is 0 w.heap.size w ga G ∧ jr.size ≤ maxLen := by
  obtain ⟨xs, n, _, _, _, hlen, hx⟩ := DataW.trod_struct Try.underlying40 hf
  match xs, hlen with
  | [y0, y1, y2], _ =>
    have k0 : DataW.trod enc Try.prog w 0 spr held n 38 [c0, c1, c2, c3] = some y0 := by simpa [cellsSo16, Value.cells] using hx 0 _ rfl
    have k1 : DataW.trod enc Try.prog w 0 spr held n 9 [c4] = some y1 := by simpa [cellsTx16, Value.cells] using hx 1 _ rfl
    have k2 : DataW.trod enc Try.prog w 0 spr held n 3 [c5] = some y2 := by simpa [cellsIn16, Value.cells] using hx 2 _ rfl
    obtain ⟨y, tm, ba, bn, bc, ga, gn, gc, S, G, ⟨rfl, rfl, rfl, rfl⟩, i1, i2, i3, i4, i5, i6, i7⟩ := trodSo k0
    obtain ⟨jr, e4, _, ht⟩ := DataW.trod_string Try.underlying9 k1
    obtain ⟨sv, e5, _, _⟩ := DataW.trod_int Try.underlying3 k2
    simp only [List.cons.injEq, and_true] at e4 e5
    subst e4 e5
    exact ⟨y, tm, ba, bn, bc, ga, gn, gc, S, G, jr, sv, ⟨rfl, rfl, rfl, rfl, rfl, rfl⟩, i1, i2, i3, i4, i5, i6, i7, ht⟩
set_option maxRecDepth 100000 in
theorem trodSn16 {fuel : Nat} {c0 c1 c2 c3 c4 c5 : Value} {y : DataW H × List MemPlace} (hf : DataW.trod enc Try.prog w 0 spr held fuel 41 [c0, c1, c2, c3, c4, c5] = some y) :
    ∃ (i o : ByteArray) (n r : Bool) (b : Int) (ga : Option Addr) (gn gc : Nat) (G : List Int), (c0 = .string i ∧ c1 = .string o ∧ c2 = .bool n ∧ c3 = .bool r ∧ c4 = .int .i64 b ∧ c5 = .slice ga gn gc) ∧ (i.size : Int) ≤ 9223372036854775807 ∧ (o.size : Int) ≤ 9223372036854775807 ∧ G.length = gn ∧ (gn : Int) ≤ 9223372036854775807 ∧ Is 0 w.heap.size w ga G := by
  obtain ⟨y0, y1, y2, y3, y4, y5, n, hl, h0, h1, h2, h3, h4, h5⟩ := trod_struct6n Try.underlying41 hf
  have k0 : DataW.trod enc Try.prog w 0 spr held n 9 [c0] = some y0 := by simpa [cellsTx16, Value.cells] using h0
  have k1 : DataW.trod enc Try.prog w 0 spr held n 9 [c1] = some y1 := by simpa [cellsTx16, Value.cells] using h1
  have k2 : DataW.trod enc Try.prog w 0 spr held n 4 [c2] = some y2 := by simpa [cellsBl16, Value.cells] using h2
  have k3 : DataW.trod enc Try.prog w 0 spr held n 4 [c3] = some y3 := by simpa [cellsBl16, Value.cells] using h3
  have k4 : DataW.trod enc Try.prog w 0 spr held n 3 [c4] = some y4 := by simpa [cellsIn16, Value.cells] using h4
  have k5 : DataW.trod enc Try.prog w 0 spr held n 23 [c5] = some y5 := by simpa [cellsIs16, Value.cells] using h5
  obtain ⟨i, e0, _, t0⟩ := DataW.trod_string Try.underlying9 k0
  obtain ⟨o, e1, _, t1⟩ := DataW.trod_string Try.underlying9 k1
  obtain ⟨n', e2, _⟩ := DataW.trod_bool Try.underlying4 k2
  obtain ⟨r, e3, _⟩ := DataW.trod_bool Try.underlying4 k3
  obtain ⟨b, e4, _, _⟩ := DataW.trod_int Try.underlying3 k4
  obtain ⟨ga, gn, gc, G, e5, j1, j2, j3⟩ := trodIS15 k5
  simp only [List.cons.injEq, and_true] at e0 e1 e2 e3 e4 e5
  subst e0 e1 e2 e3 e4 e5
  exact ⟨i, o, n', r, b, ga, gn, gc, G, ⟨rfl, rfl, rfl, rfl, rfl, rfl⟩, by unfold maxLen at t0; omega, by unfold maxLen at t1; omega, j1, j2, j3⟩
set_option maxRecDepth 100000 in
theorem openRv {base : Nat} {v : Value} {d : DataW H} {p : List MemPlace} (hv : Value.okWide Try.prog w .any base 43 v) (h : DataW.Trod enc Try.prog w 0 spr held 43 v d p) :
    ∃ (y tm : Int) (ba : Option Addr) (bn bc : Nat) (ga : Option Addr) (gn gc : Nat) (jr : ByteArray) (sv : Int) (i o : ByteArray) (n r : Bool) (b : Int) (va : Option Addr) (vn vc : Nat) (u : Bool) (S : List X7) (G V : List Int), v = svw y tm (.slice ba bn bc) (.slice ga gn gc) jr sv i o n r b (.slice va vn vc) u ∧ In16 w ba ga va bn gn vn S G V jr i o := by
  obtain ⟨cs, rfl, hsz⟩ := okWide_struct Try.underlying43 hv
  obtain ⟨fuel, hf⟩ := h
  rw [cellsSv16] at hsz
  obtain ⟨c0, c1, c2, c3, c4, c5, c6, c7, c8, c9, d0, d1, d2, rfl⟩ := array13 hsz
  obtain ⟨xs, n, _, _, _, hlen, hx⟩ := DataW.trod_struct Try.underlying43 hf
  match xs, hlen with
  | [y0, y1, y2], _ =>
    have k0 : DataW.trod enc Try.prog w 0 spr held n 40 [c0, c1, c2, c3, c4, c5] = some y0 := by simpa [cellsKp16, Value.cells] using hx 0 _ rfl
    have k1 : DataW.trod enc Try.prog w 0 spr held n 41 [c6, c7, c8, c9, d0, d1] = some y1 := by simpa [cellsSn16, Value.cells] using hx 1 _ rfl
    have k2 : DataW.trod enc Try.prog w 0 spr held n 4 [d2] = some y2 := by simpa [cellsBl16, Value.cells] using hx 2 _ rfl
    obtain ⟨y, tm, ba, bn, bc, ga, gn, gc, S, G, jr, sv, ⟨rfl, rfl, rfl, rfl, rfl, rfl⟩, i1, i2, i3, i4, i5, i6, i7, i8⟩ := trodKp16 k0
    obtain ⟨i, o, n', r, b, va, vn, vc, V, ⟨rfl, rfl, rfl, rfl, rfl, rfl⟩, j1, j2, j3, j4, j5⟩ := trodSn16 k1
    obtain ⟨u, e2, _⟩ := DataW.trod_bool Try.underlying4 k2
    simp only [List.cons.injEq, and_true] at e2
    subst e2
    exact ⟨y, tm, ba, bn, bc, ga, gn, gc, jr, sv, i, o, n', r, b, va, vn, vc, u, S, G, V, rfl, ⟨i1, i2, i3, i4, i5, i6, i7, j3, j4, j5, by unfold maxLen at i8; omega, j1, j2⟩⟩
end
end Go.Proofs.Ytckenihadlmlaaa
