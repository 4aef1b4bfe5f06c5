/- FitsBox: at every two boxes the program answers as the specification; it writes into no argument; no condition -/
import Derived.Test.YtmpcmllfgogegaaGreatRows
import Derived.WalkKit
import Derived.ProofKit
import Derived.OpenShut
import Derived.ShutString
import Derived.ChangeOld
import Derived.Below
import Derived.Test.YtmpcmllfgogegaaGreatyOpn
import Derived.Test.YtmpcmllfgogegaaGreatyLfb
namespace Go.Proofs.YtmpcmllfgogegaaGreat
open Go.ChangeShapes Go.WideShapes Go.ChangeAt Go.RowKit
set_option linter.unusedVariables false

theorem fnExactFitsBox_own : ownKnob Tryz.prog.godebug = none := by kernel_rfl
theorem fnExactFitsBox_laidOut : laidOutB Tryz.prog = true := by kernel_rfl

set_option maxRecDepth 100000 in
theorem fnExactFitsBox_lifted (os : Os) (started : os.Started) (H : Type) (enc : TypeId × Value → H) :
    ReturnsInHanded {} Tryz.checked os 7 .any (Rows.fnExactFitsBoxSpec.pre6 enc Tryz.prog Tryz.f7 Rows.fnExactFitsBoxRow.domain false) (Rows.fnExactFitsBoxSpec.post enc Tryz.prog Tryz.f7 false true false false) := by
  refine returnsInHanded_of_change (C := Tryz.checked) fnExactFitsBox_own started (by kernel_rfl) Tryz.func7
    (ChangeSpec.witness6 (enc := enc) (C := Tryz.checked) false ⟨#[], #[.agg #[.int .i64 0, .string ByteArray.empty, .int .i64 0, .int .i64 0, .int .i64 0, .slice none 0 0, .slice none 0 0], .agg #[.int .i64 0, .string ByteArray.empty, .int .i64 0, .int .i64 0, .int .i64 0, .slice none 0 0, .slice none 0 0]], []⟩ 8 (by kernel_rfl) (by kernel_rfl) (by kernel_rfl) (by kernel_rfl)) ?_
  intro W base args ds gs before hval0 hW hcnd _
  have hval : ∀ (j : Nat) t v, Tryz.f7.params[j]? = some t → args[j]? = some v → Value.okWide Tryz.prog W .any base t v := hval0
  have hW' := hW
  obtain ⟨p, q, hA0, hV, rfl, hfz, hnd⟩ := hW
  have hA : DataW.TrodAll enc Tryz.prog W 0 (fun _ => true) true Tryz.f7.params.toList args.toList ds p := hA0
  rw [Tryz.params7] at hA hval
  obtain ⟨v0, vs0, d0, ds0, p0, q0, hargs, rfl, rfl, h0, r0⟩ := trodAll_cons hA
  obtain ⟨v1, vs1, d1, ds1, p1, q1, rfl, rfl, rfl, h1, r1⟩ := trodAll_cons r0
  obtain ⟨rfl, rfl, rfl⟩ := trodAll_nil r1
  obtain rfl : args = #[v0, v1] := by cases args; simp_all
  obtain ⟨rfl, rfl⟩ := trodVars_none hV
  have k0 := h0
  have lt0 : ∀ x ∈ p0, x.block < W.heap.size := by obtain ⟨m, hm⟩ := k0; exact DataW.trod_lt m _ _ _ hm
  obtain ⟨g0, nm0, t0, b0, nx0, ma0, mn0, mc0, ga0, gn0, gc0, L0, G0, rfl, hnm0, hl0, hn0, hft0, hm0, hgl0, hgn0, hs0, hwx0⟩ := openBxW (hval 0 52 v0 rfl rfl) h0
  have k1 := h1
  have lt1 : ∀ x ∈ p1, x.block < W.heap.size := by obtain ⟨m, hm⟩ := k1; exact DataW.trod_lt m _ _ _ hm
  obtain ⟨g1, nm1, t1, b1, nx1, ma1, mn1, mc1, ga1, gn1, gc1, L1, G1, rfl, hnm1, hl1, hn1, hft1, hm1, hgl1, hgn1, hs1, hwx1⟩ := openBxW (hval 1 52 v1 rfl rfl) h1
  clear hA0 hval0
  refine (lawFits_any 0 W.heap.size 0 W.heap.size g0 nm0 t0 b0 nx0 ma0 mn0 mc0 ga0 gn0 gc0 L0 G0 0 W.heap.size 0 W.heap.size g1 nm1 t1 b1 nx1 ma1 mn1 mc1 ga1 gn1 gc1 L1 G1 W hnm0 hl0 hn0 hft0 hm0 hgl0 hgn0 hs0 hwx0 hnm1 hl1 hn1 hft1 hm1 hgl1 hgn1 hs1 hwx1).mono fun e W' ⟨he, bel⟩ => ?_
  subst he
  exact ⟨_, rfl, _, _, _, [], _, [], hW', trodAll_mk1 (shut_bool Tryz.underlying4 _), (trodAll_cons_mk (Below.trod fnExactFitsBox_laidOut (by kernel_rfl) (of_decide_eq_true (by kernel_rfl)) k0 bel lt0) (trodAll_cons_mk (Below.trod fnExactFitsBox_laidOut (by kernel_rfl) (of_decide_eq_true (by kernel_rfl)) k1 bel lt1) trodAll_mk0)), rfl, bel.frame _, fun h => by cases h⟩

theorem fnExactFitsBox_over : Rows.fnExactFitsBoxRow.holds Tryz.pinned (OpenSpec.ofChange Rows.fnExactFitsBoxSpec) :=
  OpenClaim.holds_of_wide 7 Tryz.f7 rfl rfl rfl rfl rfl rfl rfl ⟨rfl, rfl, rfl, rfl, rfl⟩ rfl rfl rfl rfl rfl (by kernel_rfl) Tryz.func7 (by kernel_rfl)
    (of_decide_eq_true (by kernel_rfl)) (by unfold Func.isWrapper; first | (rw [if_pos (by decide +kernel)]; kernel_rfl) | (rw [if_neg (by decide +kernel)]; exact ⟨rfl, rfl⟩))
    (fun os started H enc _ => fnExactFitsBox_lifted os started H enc)

theorem fnExactFitsBox_proved : Rows.FnExactFitsBoxSaid :=
  fnExactFitsBox_over
#print axioms fnExactFitsBox_proved
end Go.Proofs.YtmpcmllfgogegaaGreat
