/- Proved: for every two boxes and number, the law FnExactKeepsUid returns true (KeepsUid answers as its model, and changes nothing) and nothing that was there is changed; no condition. -/
import Derived.Test.YtegdejhgamkkbaaRows
import Derived.WalkKit
import Derived.ProofKit
import Derived.OpenShut
import Derived.ShutString
import Derived.ChangeOld
import Derived.Below
import Derived.Test.YtegdejhgamkkbaaLkp
import Derived.Test.YtegdejhgamkkbaaOpenB
namespace Go.Proofs.Ytegdejhgamkkbaa
open Go.ChangeShapes Go.WideShapes Go.ChangeAt Go.RowKit
set_option linter.unusedVariables false

theorem fnExactKeepsUid_own : ownKnob Try.prog.godebug = none := by kernel_rfl
theorem fnExactKeepsUid_laidOut : laidOutB Try.prog = true := by kernel_rfl

set_option maxRecDepth 100000 in
theorem fnExactKeepsUid_lifted (os : Os) (started : os.Started) (H : Type) (enc : TypeId × Value → H) :
    ReturnsInHanded {} Try.checked os 5 .any (Rows.fnExactKeepsUidSpec.pre6 enc Try.prog Try.f5 Rows.fnExactKeepsUidRow.domain false) (Rows.fnExactKeepsUidSpec.post enc Try.prog Try.f5 false true false false) := by
  refine returnsInHanded_of_change (C := Try.checked) fnExactKeepsUid_own started (by kernel_rfl) Try.func5
    (ChangeSpec.witness6 (enc := enc) (C := Try.checked) false ⟨#[], #[.agg #[.int .i64 0, .string ByteArray.empty, .int .i64 0, .int .i64 0, .int .i64 0, .slice none 0 0, .slice none 0 0], .agg #[.int .i64 0, .string ByteArray.empty, .int .i64 0, .int .i64 0, .int .i64 0, .slice none 0 0, .slice none 0 0], .int .i64 0], []⟩ 8 (by kernel_rfl) (by kernel_rfl) (by kernel_rfl) (by kernel_rfl)) ?_
  intro W base args ds gs before hval0 hW hcnd _
  have hval : ∀ (j : Nat) t v, Try.f5.params[j]? = some t → args[j]? = some v → Value.okWide Try.prog W .any base t v := hval0
  have hW' := hW
  obtain ⟨p, q, hA0, hV, rfl, hfz, hnd⟩ := hW
  have hA : DataW.TrodAll enc Try.prog W 0 (fun _ => true) true Try.f5.params.toList args.toList ds p := hA0
  rw [Try.params5] at hA hval
  obtain ⟨v0, vs0, d0, ds0, p0, q0, hargs, rfl, rfl, h0, r0⟩ := trodAll_cons hA
  obtain ⟨v1, vs1, d1, ds1, p1, q1, rfl, rfl, rfl, h1, r1⟩ := trodAll_cons r0
  obtain ⟨v2, vs2, d2, ds2, p2, q2, rfl, rfl, rfl, h2, r2⟩ := trodAll_cons r1
  obtain ⟨rfl, rfl, rfl⟩ := trodAll_nil r2
  obtain rfl : args = #[v0, v1, v2] := by cases args; simp_all
  obtain ⟨rfl, rfl⟩ := trodVars_none hV
  have k0 := h0
  have lt0 : ∀ x ∈ p0, x.block < W.heap.size := by obtain ⟨m, hm⟩ := k0; exact DataW.trod_lt m _ _ _ hm
  obtain ⟨g0, nm0, t0, b0, nx0, ma0, mn0, mc0, ga0, gn0, gc0, L0, G0, rfl, hnm0, hl0, hn0, hft0, hm0, hgl0, hgn0, hs0⟩ := openBx (hval 0 31 v0 rfl rfl) h0
  have k1 := h1
  have lt1 : ∀ x ∈ p1, x.block < W.heap.size := by obtain ⟨m, hm⟩ := k1; exact DataW.trod_lt m _ _ _ hm
  obtain ⟨g1, nm1, t1, b1, nx1, ma1, mn1, mc1, ga1, gn1, gc1, L1, G1, rfl, hnm1, hl1, hn1, hft1, hm1, hgl1, hgn1, hs1⟩ := openBx (hval 1 31 v1 rfl rfl) h1
  obtain ⟨a2, rfl, rfl, rfl, w2⟩ := open_int Try.underlying3 (hval 2 3 v2 rfl rfl) h2
  clear hA0 hval0
  refine (lawKeeps_any 0 W.heap.size 0 W.heap.size g0 nm0 t0 b0 nx0 ma0 mn0 mc0 ga0 gn0 gc0 L0 G0 0 W.heap.size 0 W.heap.size g1 nm1 t1 b1 nx1 ma1 mn1 mc1 ga1 gn1 gc1 L1 G1 a2 W hnm0 hl0 hn0 hft0 hm0 hgl0 hgn0 hs0 hnm1 hl1 hn1 hft1 hm1 hgl1 hgn1 hs1).mono fun e W' ⟨he, bel⟩ => ?_
  subst he
  exact ⟨_, rfl, _, _, _, [], _, [], hW', trodAll_mk1 (shut_bool Try.underlying4 _), (trodAll_cons_mk (Below.trod fnExactKeepsUid_laidOut (by kernel_rfl) (of_decide_eq_true (by kernel_rfl)) k0 bel lt0) (trodAll_cons_mk (Below.trod fnExactKeepsUid_laidOut (by kernel_rfl) (of_decide_eq_true (by kernel_rfl)) k1 bel lt1) (trodAll_cons_mk (shut_int Try.underlying3 w2) trodAll_mk0))), rfl, bel.frame _, fun h => by cases h⟩

theorem fnExactKeepsUid_over : Rows.fnExactKeepsUidRow.holds Try.pinned (OpenSpec.ofChange Rows.fnExactKeepsUidSpec) :=
  OpenClaim.holds_of_wide 5 Try.f5 rfl rfl rfl rfl rfl rfl rfl ⟨rfl, rfl, rfl, rfl, rfl⟩ rfl rfl rfl rfl rfl (by kernel_rfl) Try.func5 (by kernel_rfl)
    (of_decide_eq_true (by kernel_rfl)) (by unfold Func.isWrapper; first | (rw [if_pos (by decide +kernel)]; kernel_rfl) | (rw [if_neg (by decide +kernel)]; exact ⟨rfl, rfl⟩))
    (fun os started H enc _ => fnExactKeepsUid_lifted os started H enc)

theorem fnExactKeepsUid_proved : Rows.FnExactKeepsUidSaid :=
  fnExactKeepsUid_over
#print axioms fnExactKeepsUid_proved
end Go.Proofs.Ytegdejhgamkkbaa
