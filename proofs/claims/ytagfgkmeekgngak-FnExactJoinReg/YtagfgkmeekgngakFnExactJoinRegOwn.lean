/- Proved: for every two registers, the law FnExactJoinReg returns true (JoinReg answers as its model, every field) and nothing that was there is changed; no condition. -/
import Derived.Test.YtagfgkmeekgngakRows
import Derived.WalkKit
import Derived.ProofKit
import Derived.OpenShut
import Derived.ChangeOld
import Derived.Below
import Derived.Test.YtagfgkmeekgngakJoin
import Derived.Test.YtagfgkmeekgngakOpen
namespace Go.Proofs.Ytagfgkmeekgngak
open Go.ChangeShapes Go.WideShapes Go.ChangeAt Go.RowKit
set_option linter.unusedVariables false

theorem fnExactJoinReg_own : ownKnob Try.prog.godebug = none := by kernel_rfl

set_option maxRecDepth 100000 in
theorem fnExactJoinReg_lifted (os : Os) (started : os.Started) (H : Type) (enc : TypeId × Value → H) :
    ReturnsInHanded {} Try.checked os 3 .any (Rows.fnExactJoinRegSpec.pre6 enc Try.prog Try.f3 Rows.fnExactJoinRegRow.domain false) (Rows.fnExactJoinRegSpec.post enc Try.prog Try.f3 false true false false) := by
  refine returnsInHanded_of_change (C := Try.checked) fnExactJoinReg_own started (by kernel_rfl) Try.func3
    (ChangeSpec.witness6 (enc := enc) (C := Try.checked) false ⟨#[], #[.agg #[.int .i64 0, .int .i64 0, .int .i64 0], .agg #[.int .i64 0, .int .i64 0, .int .i64 0]], []⟩ 8 (by kernel_rfl) (by kernel_rfl) (by kernel_rfl) (by kernel_rfl)) ?_
  intro W base args ds gs before hval0 hW hcnd _
  have hval : ∀ (j : Nat) t v, Try.f3.params[j]? = some t → args[j]? = some v → Value.okWide Try.prog W .any base t v := hval0
  have hW' := hW
  obtain ⟨p, q, hA0, hV, rfl, hfz, hnd⟩ := hW
  have hA : DataW.TrodAll enc Try.prog W 0 (fun _ => true) true Try.f3.params.toList args.toList ds p := hA0
  rw [Try.params3] at hA hval
  obtain ⟨v0, vs0, d0, ds0, p0, q0, hargs, rfl, rfl, h0, r0⟩ := trodAll_cons hA
  obtain ⟨v1, vs1, d1, ds1, p1, q1, rfl, rfl, rfl, h1, r1⟩ := trodAll_cons r0
  obtain ⟨rfl, rfl, rfl⟩ := trodAll_nil r1
  obtain rfl : args = #[v0, v1] := by cases args; simp_all
  obtain ⟨rfl, rfl⟩ := trodVars_none hV
  obtain ⟨x0, t0, b0, rfl, rfl, rfl, wx0, wt0, wb0⟩ := openRg (hval 0 25 v0 rfl rfl) h0
  obtain ⟨x1, t1, b1, rfl, rfl, rfl, wx1, wt1, wb1⟩ := openRg (hval 1 25 v1 rfl rfl) h1
  clear hA0 hval0
  refine (lawJoinReg_any x0 t0 b0 x1 t1 b1 W).mono fun e W' ⟨he, bel⟩ => ?_
  subst he
  exact ⟨_, rfl, _, _, _, [], _, [], hW', trodAll_mk1 (shut_bool Try.underlying4 _), (trodAll_cons_mk (shutRg wx0 wt0 wb0) (trodAll_cons_mk (shutRg wx1 wt1 wb1) trodAll_mk0)), rfl, bel.frame _, fun h => by cases h⟩

theorem fnExactJoinReg_over : Rows.fnExactJoinRegRow.holds Try.pinned (OpenSpec.ofChange Rows.fnExactJoinRegSpec) :=
  OpenClaim.holds_of_wide 3 Try.f3 rfl rfl rfl rfl rfl rfl rfl ⟨rfl, rfl, rfl, rfl, rfl⟩ rfl rfl rfl rfl rfl (by kernel_rfl) Try.func3 (by kernel_rfl)
    (of_decide_eq_true (by kernel_rfl)) (by unfold Func.isWrapper; first | (rw [if_pos (by decide +kernel)]; kernel_rfl) | (rw [if_neg (by decide +kernel)]; exact ⟨rfl, rfl⟩))
    (fun os started H enc _ => fnExactJoinReg_lifted os started H enc)

theorem fnExactJoinReg_proved : Rows.FnExactJoinRegSaid :=
  fnExactJoinReg_over
#print axioms fnExactJoinReg_proved
end Go.Proofs.Ytagfgkmeekgngak
