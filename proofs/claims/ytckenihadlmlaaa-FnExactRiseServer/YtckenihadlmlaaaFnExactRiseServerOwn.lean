/- RiseServer answers as the specification, at every server. -/
import Derived.Test.YtckenihadlmlaaaRows
import Derived.WalkKit
import Derived.ProofKit
import Derived.OpenShut
import Derived.ShutString
import Derived.ChangeOld
import Derived.Below
import Derived.Test.YtckenihadlmlaaaXvf
import Derived.Test.YtckenihadlmlaaaOpenR
namespace Go.Proofs.Ytckenihadlmlaaa
open Go.ChangeShapes Go.WideShapes Go.ChangeAt Go.RowKit
set_option linter.unusedVariables false

theorem fnExactRiseServer_own : ownKnob Try.prog.godebug = none := by kernel_rfl
theorem fnExactRiseServer_laidOut : laidOutB Try.prog = true := by kernel_rfl

set_option maxRecDepth 100000 in
theorem fnExactRiseServer_lifted (os : Os) (started : os.Started) (H : Type) (enc : TypeId × Value → H) :
    ReturnsInHanded {} Try.checked os 5 .any (Rows.fnExactRiseServerSpec.pre6 enc Try.prog Try.f5 Rows.fnExactRiseServerRow.domain false) (Rows.fnExactRiseServerSpec.post enc Try.prog Try.f5 false true false false) := by
  refine returnsInHanded_of_change (C := Try.checked) fnExactRiseServer_own started (by kernel_rfl) Try.func5
    (ChangeSpec.witness6 (enc := enc) (C := Try.checked) false ⟨#[], #[.agg #[.int .i64 0, .int .i64 0, .slice none 0 0, .slice none 0 0, .string ByteArray.empty, .int .i64 0, .string ByteArray.empty, .string ByteArray.empty, .bool false, .bool false, .int .i64 0, .slice none 0 0, .bool false]], []⟩ 8 (by kernel_rfl) (by kernel_rfl) (by kernel_rfl) (by kernel_rfl)) ?_
  intro W base args ds gs before hval0 hW hcnd _
  have hval : ∀ (j : Nat) t v, Try.f5.params[j]? = some t → args[j]? = some v → Value.okWide Try.prog W .any base t v := hval0
  have hW' := hW
  obtain ⟨p, q, hA0, hV, rfl, hfz, hnd⟩ := hW
  have hA : DataW.TrodAll enc Try.prog W 0 (fun _ => true) true Try.f5.params.toList args.toList ds p := hA0
  rw [Try.params5] at hA hval
  obtain ⟨v0, vs0, d0, ds0, p0, q0, hargs, rfl, rfl, h0, r0⟩ := trodAll_cons hA
  obtain ⟨rfl, rfl, rfl⟩ := trodAll_nil r0
  obtain rfl : args = #[v0] := by cases args; simp_all
  obtain ⟨rfl, rfl⟩ := trodVars_none hV
  have k0 := h0
  have lt0 : ∀ x ∈ p0, x.block < W.heap.size := by obtain ⟨m, hm⟩ := k0; exact DataW.trod_lt m _ _ _ hm
  obtain ⟨yx0, tmx0, bax0, bnx0, bcx0, gax0, gnx0, gcx0, jrx0, svx0, ix0, ox0, nx0, rx0, bx0, vax0, vnx0, vcx0, ux0, Sx0, Gx0, Vx0, rfl, hj0⟩ := openRv (hval 0 43 v0 rfl rfl) h0
  clear hA0 hval0
  refine (lawRiseServer_any yx0 tmx0 bax0 bnx0 bcx0 gax0 gnx0 gcx0 jrx0 svx0 ix0 ox0 nx0 rx0 bx0 vax0 vnx0 vcx0 ux0 Sx0 Gx0 Vx0 W hj0).mono fun e W' ⟨he, bel⟩ => ?_
  subst he
  exact ⟨_, rfl, _, _, _, [], _, [], hW', trodAll_mk1 (shut_bool Try.underlying4 _), (trodAll_cons_mk (Below.trod fnExactRiseServer_laidOut (by kernel_rfl) (of_decide_eq_true (by kernel_rfl)) k0 bel lt0) trodAll_mk0), rfl, bel.frame _, fun h => by cases h⟩

theorem fnExactRiseServer_over : Rows.fnExactRiseServerRow.holds Try.pinned (OpenSpec.ofChange Rows.fnExactRiseServerSpec) :=
  OpenClaim.holds_of_wide 5 Try.f5 rfl rfl rfl rfl rfl rfl rfl ⟨rfl, rfl, rfl, rfl, rfl⟩ rfl rfl rfl rfl rfl (by kernel_rfl) Try.func5 (by kernel_rfl)
    (of_decide_eq_true (by kernel_rfl)) (by unfold Func.isWrapper; first | (rw [if_pos (by decide +kernel)]; kernel_rfl) | (rw [if_neg (by decide +kernel)]; exact ⟨rfl, rfl⟩))
    (fun os started H enc _ => fnExactRiseServer_lifted os started H enc)

theorem fnExactRiseServer_proved : Rows.FnExactRiseServerSaid :=
  fnExactRiseServer_over
#print axioms fnExactRiseServer_proved
end Go.Proofs.Ytckenihadlmlaaa
