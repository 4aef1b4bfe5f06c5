/- Mails copied. -/
import Derived.Test.YtfmacodnjhegcamGreatMailJoin
namespace Go.Proofs.YtfmacodnjhegcamGreat
open Go.RowKit

/-- An owned row, where another block below its base is stored into. -/
theorem own_far {W : World} {B j : Nat} {v : Value} {l : List R3} (h : Ow W B v l) (hj : j < B) (i : Nat) (x : Value) : Ow (W.setCell ⟨j, i, none⟩ x) B v l :=
  World.ownsRow.kept h (wst (wre W (some j)) i x) (by
    cases hv : v.ownBlock with
    | none => exact Or.inl rfl
    | some k => right; have := (World.ownsRow.lt h k hv).1; intro e; simp at e; omega)

set_option maxHeartbeats 400000 in
set_option maxRecDepth 100000 in
theorem l05Copy_any (g u : Int) (ao : Option Addr) (n cap : Nat) (l : List R3) (t : ByteArray) (w : World) (hl : l.length = n) (hn : n ≤ 1048576) (ht : t.size ≤ 1048576) (hr : Rs w ao l) (h0 : ao = none → cap = 0) :
    Calls Tryz.prog 43 #[.agg #[.int .i64 g, .int .i64 u, .slice ao n cap, .string t]] w fun e w' => ∃ v, e = .returned (.agg #[.int .i64 g, .int .i64 u, v, .string t]) ∧ Ow w' w.heap.size v l ∧ Below w.heap.size w w' := by
  obtain ⟨W0, hW0⟩ : ∃ W0, ((w.alloc (.cells #[.int .i64 g, .int .i64 u, .slice ao n cap, .string t] 51)).alloc (.cells #[.int .i64 0, .int .i64 0, .slice none 0 0, .string ⟨#[]⟩] 51)) = W0 := ⟨_, rfl⟩
  obtain ⟨a0, a1, b0⟩ := two_mails w _ _ _ _ _ _ _ _ _ _ W0 hW0
  have A0 := hid a0
  have A1 := hid a1
  have B0 := hid b0
  have HR := hid (hr.later b0)
  have HL := hid hl
  have HN := hid hn
  have H0 := hid h0
  have HT := hid ht
  have c0 := a0.cells
  have f0 := a0.loose
  clear a0 a1 b0 hr hl hn h0 ht
  go_enter Tryz.func43, Tryz.ntmps43
  go_wp2_with fail
  clear hW0
  refine (l04Copy_any ao n cap l _ HL.out HN.out HR.out H0.out).mono ?_; rintro e w1 ⟨v, rfl, hown, hb⟩
  obtain ⟨av, cv, hv, _⟩ := Ow.shape hown
  rw [HL.out] at hv
  subst hv
  have X0 := hid (A0.out.later hb)
  have X1 := hid (A1.out.later hb)
  have d0 := X0.out.cells
  have g0 := X0.out.loose
  have d1 := X1.out.cells
  have g1 := X1.out.loose
  have HO := hid hown
  have B1 := hid (btr B0.out hb)
  clear c0 f0 hown hb
  go_wp2
  have k1 := ((((X1.out.far (.slice av n cv) (j := w.heap.size) (i := 2) (by omega)).s0 g).s1 u).s2 (.slice av n cv)).s3 t
  have d1 := k1.cells
  refine bodyPost_ret (v := .agg #[.int .i64 g, .int .i64 u, .slice av n cv, .string t]) (by simp [results, Tryz.results43, go_sem, d1]) rfl ⟨_, rfl, ?_, ?_⟩
  · have hs := A1.out.lt
    exact own_base (own_far (own_far (own_far (own_far (own_far HO.out (by omega) 2 _) (by omega) 0 _) (by omega) 1 _) (by omega) 2 _) (by omega) 3 _) (by omega)
  · exact bsk (bsk (bsk (bsk (bsk B1.out (by omega) _ _) (by omega) _ _) (by omega) _ _) (by omega) _ _) (by omega) _ _


set_option maxHeartbeats 400000 in
set_option maxRecDepth 100000 in
theorem copyOf_any (g u : Int) (ao : Option Addr) (n cap : Nat) (l : List R3) (t : ByteArray) (w : World) (hl : l.length = n) (hn : n ≤ 1048576) (ht : t.size ≤ 1048576) (hr : Rs w ao l) (h0 : ao = none → cap = 0) :
    Calls Tryz.prog 52 #[.agg #[.int .i64 g, .int .i64 u, .slice ao n cap, .string t]] w fun e w' => ∃ v, e = .returned (.agg #[.int .i64 g, .int .i64 u, v, .string t]) ∧ Ow w' w.heap.size v l ∧ Below w.heap.size w w' := by
  obtain ⟨W0, hW0⟩ : ∃ W0, ((w.alloc (.cells #[.int .i64 g, .int .i64 u, .slice ao n cap, .string t] 51)).alloc (.cells #[.int .i64 0, .int .i64 0, .slice none 0 0, .string ⟨#[]⟩] 51)) = W0 := ⟨_, rfl⟩
  obtain ⟨a0, a1, b0⟩ := two_mails w _ _ _ _ _ _ _ _ _ _ W0 hW0
  have A0 := hid a0
  have A1 := hid a1
  have B0 := hid b0
  have HR := hid (hr.later b0)
  have HL := hid hl
  have HN := hid hn
  have H0 := hid h0
  have HT := hid ht
  have c0 := a0.cells
  have f0 := a0.loose
  clear a0 a1 b0 hr hl hn h0 ht
  go_enter Tryz.func52, Tryz.ntmps52
  go_wp2_with fail
  clear hW0
  refine (cloneRg_any ao n cap l _ HL.out HN.out HR.out H0.out).mono ?_; rintro e w1 ⟨v, rfl, hown, hb⟩
  obtain ⟨av, cv, hv, _⟩ := Ow.shape hown
  rw [HL.out] at hv
  subst hv
  have X0 := hid (A0.out.later hb)
  have X1 := hid (A1.out.later hb)
  have d0 := X0.out.cells
  have g0 := X0.out.loose
  have d1 := X1.out.cells
  have g1 := X1.out.loose
  have HO := hid hown
  have B1 := hid (btr B0.out hb)
  clear c0 f0 hown hb
  go_wp2_with fail
  have X0' := hid (X0.out.s2 (.slice av n cv))
  have X1' := hid (X1.out.far (.slice av n cv) (j := w.heap.size) (i := 2) (by omega))
  have hs := A1.out.lt
  have HO' := hid (own_far HO.out (j := w.heap.size) (by omega) 2 (.slice av n cv))
  have B1' := hid (bsk B1.out (Nat.le_refl _) 2 (.slice av n cv))
  refine (clone_any t _ HT.out).mono ?_; rintro e w2 ⟨rfl, hb⟩
  have Y0 := hid (X0'.out.later hb)
  have Y1 := hid (X1'.out.later hb)
  have HO2 := hid (own_later HO'.out hb)
  have B2 := hid (btr B1'.out hb)
  clear d0 d1 g0 g1 hb
  have d0 := Y0.out.cells
  have g0 := Y0.out.loose
  have d1 := Y1.out.cells
  have g1 := Y1.out.loose
  go_wp2
  have k1 := ((((Y1.out.far (.string t) (j := w.heap.size) (i := 3) (by omega)).s0 g).s1 u).s2 (.slice av n cv)).s3 t
  have d1 := k1.cells
  refine bodyPost_ret (v := .agg #[.int .i64 g, .int .i64 u, .slice av n cv, .string t]) (by simp [results, Tryz.results52, go_sem, d1]) rfl ⟨_, rfl, ?_, ?_⟩
  · exact own_base (own_far (own_far (own_far (own_far (own_far HO2.out (by omega) 3 _) (by omega) 0 _) (by omega) 1 _) (by omega) 2 _) (by omega) 3 _) (by omega)
  · exact bsk (bsk (bsk (bsk (bsk B2.out (by omega) _ _) (by omega) _ _) (by omega) _ _) (by omega) _ _) (by omega) _ _

end Go.Proofs.YtfmacodnjhegcamGreat
