/- Stamps and registers as arguments: opened and shut. -/
import Derived.Test.YtanahkieondboaaDoorSsz
import Derived.Test.YtanahkieondboaaDoorRows
import Derived.WalkKit
import Derived.ProofKit
import Derived.OpenShut
import Derived.Lib.SmallJoins
namespace Go.Proofs.YtanahkieondboaaDoor
open Go.ChangeShapes Go.WideShapes Go.ChangeAt Go.RowKit Go.Joins

theorem cellsInt : Tryd.prog.cellsOf 3 = 1 := by kernel_rfl
theorem cellsSt : Tryd.prog.cellsOf 65 = 2 := by kernel_rfl
theorem cellsRg : Tryd.prog.cellsOf 109 = 3 := by kernel_rfl

section
variable {H : Type} {enc : TypeId × Value → H} {w : World} {sp : Nat → Bool} {held : Bool}

set_option maxRecDepth 100000 in
theorem trodSt {fuel : Nat} {cs : List Value} {x : DataW H × List MemPlace} (hc : cs.length = 2) (h : DataW.trod enc Tryd.prog w 0 sp held fuel 65 cs = some x) :
    ∃ t b : Int, cs = [.int .i64 t, .int .i64 b] ∧ x = (.agg [.lit (.int .i64 t), .lit (.int .i64 b)], []) ∧ (Lit.int .i64 t).wf = true ∧ (Lit.int .i64 b).wf = true := by
  obtain ⟨y0, y1, n, hx, hl, h0, h1⟩ := trod_struct2 Tryd.underlying65 h
  match cs, hc with
  | [c0, c1], _ =>
    have k0 : DataW.trod enc Tryd.prog w 0 sp held n 3 [c0] = some y0 := by simpa [cellsInt] using h0
    have k1 : DataW.trod enc Tryd.prog w 0 sp held n 3 [c1] = some y1 := by simpa [cellsInt] using h1
    obtain ⟨t, e0, rfl, w0⟩ := DataW.trod_int Tryd.underlying3 k0
    obtain ⟨b, e1, rfl, w1⟩ := DataW.trod_int Tryd.underlying3 k1
    simp at e0 e1
    subst e0 e1
    exact ⟨t, b, rfl, hx, w0, w1⟩

set_option maxRecDepth 100000 in
theorem trodSt_mk (m : Nat) {t b : Int} (ht : (Lit.int .i64 t).wf = true) (hb : (Lit.int .i64 b).wf = true) :
    DataW.trod enc Tryd.prog w 0 sp held (m + 1 + 1) 65 [.int .i64 t, .int .i64 b] = some (.agg [.lit (.int .i64 t), .lit (.int .i64 b)], []) := by
  have h := trod_struct2_mk (enc := enc) (P := Tryd.prog) (w := w) (base := 0) (spare := sp) (held := held) (n := m + 1) (cs := [.int .i64 t, .int .i64 b]) (y0 := (.lit (.int .i64 t), [])) (y1 := (.lit (.int .i64 b), [])) Tryd.underlying65 (by rw [cellsSt]; rfl)
    (by simpa [cellsInt] using trod_int_mk m Tryd.underlying3 ht) (by simpa [cellsInt] using trod_int_mk m Tryd.underlying3 hb)
  simpa using h

set_option maxRecDepth 100000 in
theorem openSt {base : Nat} {v : Value} {d : DataW H} {p : List MemPlace} (hv : Value.okWide Tryd.prog w .any base 65 v) (h : DataW.Trod enc Tryd.prog w 0 sp held 65 v d p) :
    ∃ t b : Int, v = .agg #[.int .i64 t, .int .i64 b] ∧ d = .agg [.lit (.int .i64 t), .lit (.int .i64 b)] ∧ p = [] ∧ (Lit.int .i64 t).wf = true ∧ (Lit.int .i64 b).wf = true := by
  obtain ⟨cs, rfl, hsz⟩ := okWide_struct Tryd.underlying65 hv
  obtain ⟨fuel, hf⟩ := h
  rw [cellsSt] at hsz
  obtain ⟨t, b, e, hx, w0, w1⟩ := trodSt (by simpa [Value.cells] using hsz) hf
  simp only [Prod.mk.injEq] at hx
  refine ⟨t, b, ?_, hx.1, hx.2, w0, w1⟩
  cases cs with | mk l => simp [Value.cells] at e; rw [e]

set_option maxRecDepth 100000 in
theorem shutSt {t b : Int} (ht : (Lit.int .i64 t).wf = true) (hb : (Lit.int .i64 b).wf = true) :
    DataW.Trod enc Tryd.prog w 0 sp held 65 (.agg #[.int .i64 t, .int .i64 b]) (.agg [.lit (.int .i64 t), .lit (.int .i64 b)]) [] :=
  ⟨_, by simpa [Value.cells] using trodSt_mk 0 ht hb⟩

set_option maxRecDepth 100000 in
theorem openRg {base : Nat} {v : Value} {d : DataW H} {p : List MemPlace} (hv : Value.okWide Tryd.prog w .any base 109 v) (h : DataW.Trod enc Tryd.prog w 0 sp held 109 v d p) :
    ∃ x t b : Int, v = .agg #[.int .i64 x, .int .i64 t, .int .i64 b] ∧ d = .agg [.lit (.int .i64 x), .agg [.lit (.int .i64 t), .lit (.int .i64 b)]] ∧ p = [] ∧ (Lit.int .i64 x).wf = true ∧ (Lit.int .i64 t).wf = true ∧ (Lit.int .i64 b).wf = true := by
  obtain ⟨cs, rfl, hsz⟩ := okWide_struct Tryd.underlying109 hv
  obtain ⟨fuel, hf⟩ := h
  rw [cellsRg] at hsz
  obtain ⟨c0, c1, c2, rfl⟩ := array3 hsz
  obtain ⟨y0, y1, n, hx, hl, h0, h1⟩ := trod_struct2 Tryd.underlying109 hf
  have k0 : DataW.trod enc Tryd.prog w 0 sp held n 3 [c0] = some y0 := by simpa [cellsInt, Value.cells] using h0
  have k1 : DataW.trod enc Tryd.prog w 0 sp held n 65 [c1, c2] = some y1 := by simpa [cellsSt, Value.cells] using h1
  obtain ⟨x, e0, rfl, w0⟩ := DataW.trod_int Tryd.underlying3 k0
  obtain ⟨t, b, e, rfl, w1, w2⟩ := trodSt rfl k1
  simp at e0 e
  obtain ⟨rfl, rfl⟩ := e
  subst e0
  simp only [Prod.mk.injEq] at hx
  exact ⟨x, t, b, rfl, hx.1, hx.2, w0, w1, w2⟩

set_option maxRecDepth 100000 in
theorem shutRg {x t b : Int} (hx : (Lit.int .i64 x).wf = true) (ht : (Lit.int .i64 t).wf = true) (hb : (Lit.int .i64 b).wf = true) :
    DataW.Trod enc Tryd.prog w 0 sp held 109 (.agg #[.int .i64 x, .int .i64 t, .int .i64 b]) (.agg [.lit (.int .i64 x), .agg [.lit (.int .i64 t), .lit (.int .i64 b)]]) [] := by
  have h := trod_struct2_mk (enc := enc) (P := Tryd.prog) (w := w) (base := 0) (spare := sp) (held := held) (n := 2) (cs := [.int .i64 x, .int .i64 t, .int .i64 b]) (y0 := (.lit (.int .i64 x), [])) (y1 := (.agg [.lit (.int .i64 t), .lit (.int .i64 b)], [])) Tryd.underlying109 (by rw [cellsRg]; rfl)
    (by simpa [cellsInt] using trod_int_mk 1 Tryd.underlying3 hx) (by simpa [cellsSt] using trodSt_mk 0 ht hb)
  exact ⟨_, by simpa [Value.cells] using h⟩
end
end Go.Proofs.YtanahkieondboaaDoor
