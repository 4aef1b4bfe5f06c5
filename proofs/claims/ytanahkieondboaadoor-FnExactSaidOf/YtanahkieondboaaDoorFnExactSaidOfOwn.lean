/- Proved: for every store, the law FnExactSaidOf returns true (SaidOf answers as its model, and writes into no argument) and nothing that was there is changed; the library's three tables hold what the program's own text lays in them (the card ties this). -/
import Derived.Test.YtanahkieondboaaDoorCards
import Derived.Test.YtanahkieondboaaDoorTie
import Derived.WalkKit
import Derived.ProofKit
import Derived.OpenShut
import Derived.ShutString
import Derived.ChangeOld
import Derived.Below
import Derived.Deep.DeepHandedRow
import Derived.Deep.DeepWitnessRowRef
import Derived.Lib.LaidTab
import Derived.Stop.LaidErr
import Derived.LaidMore
import Derived.Test.YtanahkieondboaaDoorOpenSW
import Derived.Test.YtanahkieondboaaDoorLsa
namespace Go.Proofs.YtanahkieondboaaDoor
open Go.ChangeShapes Go.WideShapes Go.ChangeAt Go.RowKit
open Go.ChangeMaps (open_string shut_string)
set_option linter.unusedVariables false

theorem fnExactSaidOf_own : ownKnob Tryd.prog.godebug = none := by kernel_rfl
theorem fnExactSaidOf_laidOut : laidOutB Tryd.prog = true := by kernel_rfl
theorem fnExactSaidOf_gt : (Tryd.prog.globals[0]?).map (·.type) = some 102 := by kernel_rfl
theorem fnExactSaidOf_ca : Tryd.prog.cellsOf 102 = 20 := by kernel_rfl
theorem fnExactSaidOf_ce : Tryd.prog.cellsOf 92 = 1 := by kernel_rfl
theorem fnExactSaidOf_table {W : World} (h : laidMetH Tryd.prog Rows.fnExactSaidOfRow.laid W) : Lib.TabIs Tryd.prog W "internal/strconv.uint64pow10" .u64 Lib.pow10Tab :=
  Lib.tabIs_of_head (rest := []) gPow fnExactSaidOf_gt Tryd.underlying102 Tryd.underlying92 fnExactSaidOf_ce fnExactSaidOf_ca (laidMet.tail (laidMet.tail (show laidMet Tryd.prog Rows.fnExactSaidOfRow.laid W from h)))
theorem fnExactSaidOf_laid_met (os : Os) : laidMet Tryd.prog Rows.fnExactSaidOfRow.laid ((World.doorLaid Tryd.prog 24 os).forCall (fun _ _ => 0) ⟨#[], #[.agg #[.int .i64 0, .int .i64 0, .slice none 0 0, .slice none 0 0]], []⟩).memory :=
  laidMet_of_run' 8 (by kernel_rfl) (by kernel_rfl)
theorem i64_bounds {a : Int} (h : (Lit.int .i64 a).wf = true) : -9223372036854775808 ≤ a ∧ a ≤ 9223372036854775807 := by
  have hmin : IntKind.i64.min = -9223372036854775808 := rfl
  have hmax : IntKind.i64.max = 9223372036854775807 := rfl
  simp only [Lit.wf, Bool.and_eq_true, decide_eq_true_eq] at h
  omega

set_option maxRecDepth 100000 in
theorem fnExactSaidOf_contract (H : Type) (enc : TypeId × Value → H) (W : World) (base : Nat) (args : Array Value) (ds gs : List (DataW H)) (before : List MemPlace)
    (hval : ∀ (j : Nat) t v, Tryd.f4.params[j]? = some t → args[j]? = some v → Value.okWide Tryd.prog W .any base t v)
    (hW : DataW.Whole enc Tryd.prog Tryd.f4.params.toList Rows.fnExactSaidOfSpec.vars false W args.toList ds gs before) (hL : laidMetH Tryd.prog Rows.fnExactSaidOfRow.laid W) :
    Calls Tryd.prog 4 args W fun e W' => ∃ v, e = .returned v ∧ Rows.fnExactSaidOfSpec.post enc Tryd.prog Tryd.f4 false true false false W args v W' := by
  have hW' := hW
  obtain ⟨p, q, hA0, hV, rfl, hfz, hnd⟩ := hW
  have hA : DataW.TrodAll enc Tryd.prog W 0 (fun _ => true) true Tryd.f4.params.toList args.toList ds p := hA0
  rw [Tryd.params4] at hA hval
  obtain ⟨v0, vs0, d0, ds0, p0, q0, hargs, rfl, rfl, h0, r0⟩ := trodAll_cons hA
  obtain ⟨rfl, rfl, rfl⟩ := trodAll_nil r0
  obtain rfl : args = #[v0] := by cases args; simp_all
  obtain ⟨rfl, rfl⟩ := trodVars_none hV
  have k0 := h0
  have lt0 : ∀ x ∈ p0, x.block < W.heap.size := by obtain ⟨m, hm⟩ := k0; exact DataW.trod_lt m _ _ _ hm
  obtain ⟨y0, tm0, ba0, bn0, bc0, ga0, gn0, gc0, S0, G0, rfl, hl0, hn0, hft0, hm0, hgl0, hgn0, hs0, hwx0⟩ := openSoW (hval 0 27 v0 rfl rfl) h0
  clear hA0
  refine (lawSaidOf_any y0 tm0 ba0 bn0 bc0 ga0 gn0 gc0 S0 G0 W hl0 hn0 hft0 hm0 hgl0 hgn0 hs0 hwx0 (fnExactSaidOf_table hL)).mono fun e W' ⟨he, bel⟩ => ?_
  subst he
  exact ⟨_, rfl, _, _, _, [], _, [], hW', trodAll_mk1 (shut_bool Tryd.underlying4 _), (trodAll_cons_mk (Below.trod fnExactSaidOf_laidOut (by kernel_rfl) (of_decide_eq_true (by kernel_rfl)) k0 bel lt0) trodAll_mk0), rfl, bel.frame _, fun h => by cases h⟩

theorem fnExactSaidOf_reads (os : Os) {H : Type} (enc : TypeId × Value → H) : ∃ places, DataW.whole enc Tryd.prog ((World.doorLaid Tryd.prog 24 os).forCall (fun _ _ => 0) ⟨#[], #[.agg #[.int .i64 0, .int .i64 0, .slice none 0 0, .slice none 0 0]], []⟩).memory Tryd.f4.params.toList Rows.fnExactSaidOfSpec.vars false #[(.agg #[.int .i64 0, .int .i64 0, .slice none 0 0, .slice none 0 0] : Value)].toList 8 = some ([.agg [.lit (.int .i64 0), .lit (.int .i64 0), .nil, .nil]], [], places) :=
  ⟨[], by kernel_rfl⟩

set_option maxRecDepth 100000 in
theorem fnExactSaidOf_lifted (os : Os) (started : os.Started) (H : Type) (enc : TypeId × Value → H) (F : Stop.Interp) :
    ReturnsInHanded {} Tryd.checked os 4 .any ((OpenSpec.ofChange Rows.fnExactSaidOfSpec).preRow enc Tryd.prog Tryd.f4 Rows.fnExactSaidOfRow.domain false Rows.fnExactSaidOfRow.laid) (((OpenSpec.ofChange Rows.fnExactSaidOfSpec).at F).post enc Tryd.prog Tryd.f4 false true false false) := by
  obtain ⟨places, hx⟩ := fnExactSaidOf_reads os enc
  refine returnsInHanded_of_row (C := Tryd.checked) (s := OpenSpec.ofChange Rows.fnExactSaidOfSpec) fnExactSaidOf_own started (by kernel_rfl) Tryd.func4
    (witness_row_atRef (enc := enc) (C := Tryd.checked) false (World.doorLaid Tryd.prog 24 os) #[.agg #[.int .i64 0, .int .i64 0, .slice none 0 0, .slice none 0 0]] rfl (by kernel_rfl) (by kernel_rfl) (by kernel_rfl)
      (OpenSpec.preRow_of_cond 8 hx (by kernel_rfl) (fun k hk => by cases hk) (by kernel_rfl) (fnExactSaidOf_laid_met os))) ?_
  intro W base args ds gs before hval hW _ _ _ hL _ _
  exact fnExactSaidOf_contract H enc W base args ds gs before hval hW hL

theorem fnExactSaidOf_said : Rows.FnExactSaidOfSaid :=
  OpenClaim.holds_of_cond 4 Tryd.f4 rfl rfl rfl rfl rfl rfl rfl ⟨rfl, rfl, rfl, rfl, rfl⟩ rfl rfl rfl rfl rfl (by kernel_rfl) Tryd.func4 (by kernel_rfl)
    (of_decide_eq_true (by kernel_rfl)) (by unfold Func.isWrapper; first | (rw [if_pos (by decide +kernel)]; kernel_rfl) | (rw [if_neg (by decide +kernel)]; exact ⟨rfl, rfl⟩))
    (fun os started H enc _ F => by rw [OpenClaim.pre_eq_preRow]; exact fnExactSaidOf_lifted os started H enc F)

theorem fnExactSaidOf_plain (f : FuncId) (fn : Func) (hf : Tryd.pinned.checked.prog.funcNamed "loop.example/g00324/laws.FnExactSaidOf" = some f) (hfn : Tryd.pinned.checked.prog.funcs[f]? = some fn) :
    false = Tryd.pinned.checked.prog.looks [] ∧ ∀ (j : Nat) t, fn.params[j]? = some t → Tryd.pinned.checked.prog.wantsStandIn t = false := by
  obtain rfl : f = 4 := Option.some.inj ((show Tryd.prog.funcNamed "loop.example/g00324/laws.FnExactSaidOf" = some 4 by kernel_rfl).symm.trans hf) |>.symm
  obtain rfl : fn = Tryd.f4 := (Option.some.inj (Tryd.func4.symm.trans hfn)).symm
  refine ⟨by kernel_rfl, fun j t ht => ?_⟩
  rw [Tryd.params4] at ht
  have hd : t = 27 := by simpa using Array.mem_of_getElem? ht
  subst hd
  exact (show Tryd.prog.wantsStandIn 27 = false by kernel_rfl)

theorem fnExactSaidOf_proved : Rows.FnExactSaidOfCardSaid :=
  Claim7.holds_tied_plain_at .later [] _ _ _ _ fnExactSaidOf_said (fun _ h => by cases h) (by kernel_rfl) (fun _ h => by cases h) fnExactSaidOf_row_tie rfl ⟨rfl, rfl⟩ (by kernel_rfl) rfl fnExactSaidOf_plain (by kernel_rfl)
#print axioms fnExactSaidOf_proved
end Go.Proofs.YtanahkieondboaaDoor
