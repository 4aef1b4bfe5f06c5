/- At every text ReadCall of the program answers as the model, every field: for the laid table of the sums; the call starts no other goroutine that is left behind. -/
import Derived.Test.YtlhofbnnonljaaaGreatDoorCards
import Derived.Test.YtlhofbnnonljaaaGreatDoorTie
import Derived.WalkKit
import Derived.ProofKit
import Derived.OpenShut
import Derived.OpenVars
import Derived.ShutString
import Derived.ChangeOld
import Derived.Below
import Derived.Deep.DeepHandedRow
import Derived.Deep.DeepWitnessRowRef
import Derived.Lib.LaidTab
import Derived.Stop.LaidErr
import Derived.LaidMore
import Derived.Test.YtlhofbnnonljaaaGreatDoorX26
import Derived.Test.YtlhofbnnonljaaaGreatDoorLv
namespace Go.Proofs.YtlhofbnnonljaaaGreatDoor
open Go.ChangeShapes Go.WideShapes Go.ChangeAt Go.RowKit
open Go.ChangeMaps (open_string shut_string)
set_option linter.unusedVariables false

theorem fnExactReadCall_own : ownKnob Tryz.prog.godebug = none := by kernel_rfl
theorem fnExactReadCall_laidOut : laidOutB Tryz.prog = true := by kernel_rfl
theorem fnExactReadCall_gn : Tryz.prog.globalNamed "loop.example/g00324/impl.nibbleSteps" = some 0 := by kernel_rfl
theorem fnExactReadCall_gt : (Tryz.prog.globals[0]?).map (·.type) = some 269 := by kernel_rfl
theorem fnExactReadCall_cA : Tryz.prog.cellsOf 269 = 16 := by kernel_rfl
theorem fnExactReadCall_cE : Tryz.prog.cellsOf 99 = 1 := by kernel_rfl

theorem fnExactReadCall_table {W : World} (h : laidMetH Tryz.prog Rows.fnExactReadCallRow.laid W) : Lib.TabIs Tryz.prog W "loop.example/g00324/impl.nibbleSteps" .u32 (tabW.map Int.ofNat) :=
  Lib.tabIs_of_head (rest := []) fnExactReadCall_gn fnExactReadCall_gt Tryz.underlying269 Tryz.underlying99 fnExactReadCall_cE fnExactReadCall_cA (laidMet.tail (laidMet.tail (laidMet.tail (show laidMet Tryz.prog Rows.fnExactReadCallRow.laid W from h))))

theorem fnExactReadCall_nib {W : World} (h : laidMetH Tryz.prog Rows.fnExactReadCallRow.laid W) : Nib W := fun i hi => by
  rw [(fnExactReadCall_table h).cell fnExactReadCall_gn i hi]
  have : ∀ r : Fin 16, (tabW.map Int.ofNat).getD r.val 0 = ((tabW.getD r.val 0 : Nat) : Int) := by decide
  rw [this ⟨i, hi⟩]

theorem fnExactReadCall_glt {W : World} (h : laidMetH Tryz.prog Rows.fnExactReadCallRow.laid W) : 0 < W.heap.size :=
  World.block_lt_of_cell? _ ⟨0, 0, none⟩ (fnExactReadCall_nib h 0 (by decide))

theorem u32_bounds {a : Int} (h : (Lit.int .u32 a).wf = true) : ∃ x : Nat, a = (x : Int) ∧ x < 4294967296 := by
  have hmin : IntKind.u32.min = 0 := rfl
  have hmax : IntKind.u32.max = 4294967295 := rfl
  simp only [Lit.wf, Bool.and_eq_true, decide_eq_true_eq] at h
  exact ⟨a.toNat, by omega, by omega⟩

theorem fnExactReadCall_laid_met (os : Os) : laidMet Tryz.prog Rows.fnExactReadCallRow.laid ((World.doorLaid Tryz.prog 29 os).forCall (fun _ _ => 0) ⟨#[], #[.string ByteArray.empty], []⟩).memory :=
  laidMet_of_run' 8 (by kernel_rfl) (by kernel_rfl)

set_option maxRecDepth 100000 in
theorem fnExactReadCall_contract (H : Type) (enc : TypeId × Value → H) (W : World) (base : Nat) (args : Array Value) (ds gs : List (DataW H)) (before : List MemPlace)
    (hval : ∀ (j : Nat) t v, Tryz.f5.params[j]? = some t → args[j]? = some v → Value.okWide Tryz.prog W .any base t v)
    (hW : DataW.Whole enc Tryz.prog Tryz.f5.params.toList Rows.fnExactReadCallSpec.vars false W args.toList ds gs before) (hL : laidMetH Tryz.prog Rows.fnExactReadCallRow.laid W) :
    Calls Tryz.prog 5 args W fun e W' => ∃ v, e = .returned v ∧ Rows.fnExactReadCallSpec.post enc Tryz.prog Tryz.f5 false true false false W args v W' := by
  have hW' := hW
  obtain ⟨p, q, hA0, hV, rfl, hfz, hnd⟩ := hW
  have hA : DataW.TrodAll enc Tryz.prog W 0 (fun _ => true) true Tryz.f5.params.toList args.toList ds p := hA0
  rw [Tryz.params5] at hA hval
  obtain ⟨v0, vs0, d0, ds0, p0, q0, hargs0, rfl, rfl, h0, r0⟩ := trodAll_cons hA
  obtain ⟨rfl, rfl, rfl⟩ := trodAll_nil r0
  obtain rfl : args = #[v0] := by cases args; simp_all
  have hVs : DataW.TrodVars enc Tryz.prog W (fun _ => true) Rows.fnExactReadCallSpec.vars gs q := hV
  obtain ⟨gV, tV, csV, fuelV, dV, pV, rfl, hgV, htV, hvV, hdV, rfl⟩ := trodVars_one hV
  obtain ⟨a0, rfl, rfl, rfl, w0⟩ := open_string Tryz.underlying9 (hval 0 9 v0 rfl rfl) h0
  clear hA0
  refine (lawReadCall_any a0 W w0 (fnExactReadCall_nib hL)).mono fun e W' ⟨he, bel⟩ => ?_
  subst he
  exact ⟨_, rfl, _, _, _, [], _, _, hW', trodAll_mk1 (shut_bool Tryz.underlying4 _), (trodAll_cons_mk (shut_string Tryz.underlying9 w0) trodAll_mk0), Below.trodVars fnExactReadCall_laidOut bel (by kernel_rfl) hVs, bel.frame _, fun h => by cases h⟩

theorem fnExactReadCall_reads (os : Os) {H : Type} (enc : TypeId × Value → H) : DataW.whole enc Tryz.prog ((World.doorLaid Tryz.prog 29 os).forCall (fun _ _ => 0) ⟨#[], #[.string ByteArray.empty], []⟩).memory Tryz.f5.params.toList Rows.fnExactReadCallSpec.vars false (#[.string ByteArray.empty] : Array Value).toList 8 = some ([.lit (.string [])], [Rows.laid_loop_example_g00324_impl_nibbleSteps], MemPlace.row ⟨0, 0, none⟩ 16) := by
  kernel_rfl

set_option maxRecDepth 100000 in
theorem fnExactReadCall_lifted (os : Os) (started : os.Started) (H : Type) (enc : TypeId × Value → H) (F : Stop.Interp) :
    ReturnsInHanded {} Tryz.checked os 5 .any ((OpenSpec.ofChange Rows.fnExactReadCallSpec).preRow enc Tryz.prog Tryz.f5 Rows.fnExactReadCallRow.domain false Rows.fnExactReadCallRow.laid) (((OpenSpec.ofChange Rows.fnExactReadCallSpec).at F).post enc Tryz.prog Tryz.f5 false true false false) := by
  have hx := fnExactReadCall_reads os enc
  refine returnsInHanded_of_row (C := Tryz.checked) (s := OpenSpec.ofChange Rows.fnExactReadCallSpec) fnExactReadCall_own started (by kernel_rfl) Tryz.func5
    (witness_row_atRef (enc := enc) (C := Tryz.checked) false (World.doorLaid Tryz.prog 29 os) #[.string ByteArray.empty] rfl (by kernel_rfl) (by kernel_rfl) (by kernel_rfl)
      (OpenSpec.preRow_of_cond 8 hx (by kernel_rfl) (fun k hk => by cases hk) (by kernel_rfl) (fnExactReadCall_laid_met os))) ?_
  intro W base args ds gs before hval hW _ _ _ hL _ _
  exact fnExactReadCall_contract H enc W base args ds gs before hval hW hL

def fnExactReadCall_row0 : OpenClaim := { Rows.fnExactReadCallRow with leaving := false }
theorem fnExactReadCall_e1 : fnExactReadCall_row0.assume = {} := rfl
theorem fnExactReadCall_e2 : fnExactReadCall_row0.domain = Rows.fnExactReadCallRow.domain := rfl
theorem fnExactReadCall_e3 : fnExactReadCall_row0.apart = false := rfl
theorem fnExactReadCall_e4 : fnExactReadCall_row0.laid = Rows.fnExactReadCallRow.laid := rfl
theorem fnExactReadCall_e5 : fnExactReadCall_row0.fresh = true := rfl
theorem fnExactReadCall_e6 : fnExactReadCall_row0.handsOn = false := rfl
theorem fnExactReadCall_e7 : fnExactReadCall_row0.again = false := rfl
theorem fnExactReadCall_closed : joinedFacts Tryz.pinned.checked.prog 5 Tryz.f5 (OpenSpec.ofChange Rows.fnExactReadCallSpec).bare fnExactReadCall_row0 = true := by kernel_rfl
theorem fnExactReadCall_hands (os : Os) (started : os.Started) (H : Type) (enc : TypeId × Value → H) (F : Stop.Interp) :
    ReturnsInHanded fnExactReadCall_row0.assume Tryz.pinned.checked os 5 .any (fnExactReadCall_row0.pre enc Tryz.pinned.checked.prog Tryz.f5 (OpenSpec.ofChange Rows.fnExactReadCallSpec)) (((OpenSpec.ofChange Rows.fnExactReadCallSpec).at F).post enc Tryz.pinned.checked.prog Tryz.f5 fnExactReadCall_row0.apart fnExactReadCall_row0.fresh fnExactReadCall_row0.handsOn fnExactReadCall_row0.again) := by
  rw [OpenClaim.pre_eq_preRow, fnExactReadCall_e1, fnExactReadCall_e2, fnExactReadCall_e3, fnExactReadCall_e4, fnExactReadCall_e5, fnExactReadCall_e6, fnExactReadCall_e7]
  exact fnExactReadCall_lifted os started H enc F
theorem fnExactReadCall_said0 : fnExactReadCall_row0.holds Tryz.pinned (OpenSpec.ofChange Rows.fnExactReadCallSpec) :=
  OpenClaim.holds_of_cond 5 Tryz.f5 rfl rfl rfl rfl rfl rfl rfl ⟨rfl, rfl, rfl, rfl, rfl⟩ rfl rfl rfl rfl rfl (by kernel_rfl) Tryz.func5 fnExactReadCall_closed
    (of_decide_eq_true (by kernel_rfl)) (by unfold Func.isWrapper; first | (rw [if_pos (by decide +kernel)]; kernel_rfl) | (rw [if_neg (by decide +kernel)]; exact ⟨rfl, rfl⟩))
    (fun os started H enc _ F => fnExactReadCall_hands os started H enc F)
theorem fnExactReadCall_said : Rows.FnExactReadCallSaid := holds_leaving Rows.fnExactReadCallRow rfl rfl rfl fnExactReadCall_said0

theorem fnExactReadCall_plain (f : FuncId) (fn : Func) (hf : Tryz.pinned.checked.prog.funcNamed "loop.example/g00324/laws.FnExactReadCall" = some f) (hfn : Tryz.pinned.checked.prog.funcs[f]? = some fn) :
    true = Tryz.pinned.checked.prog.looks [] ∧ ∀ (j : Nat) t, fn.params[j]? = some t → Tryz.pinned.checked.prog.wantsStandIn t = false := by
  obtain rfl : f = 5 := Option.some.inj ((show Tryz.prog.funcNamed "loop.example/g00324/laws.FnExactReadCall" = some 5 by kernel_rfl).symm.trans hf) |>.symm
  obtain rfl : fn = Tryz.f5 := (Option.some.inj (Tryz.func5.symm.trans hfn)).symm
  refine ⟨by kernel_rfl, fun j t ht => ?_⟩
  rw [Tryz.params5] at ht
  have hd : t = 9 := by simpa using Array.mem_of_getElem? ht
  rcases hd with rfl
  · exact (show Tryz.prog.wantsStandIn 9 = false by kernel_rfl)

theorem fnExactReadCall_proved : Rows.FnExactReadCallCardSaid :=
  card_goes _ _ _ _ fnExactReadCall_said (by kernel_rfl) fnExactReadCall_row_tie rfl ⟨rfl, rfl⟩ (by kernel_rfl) rfl fnExactReadCall_plain (by kernel_rfl)
#print axioms fnExactReadCall_proved
end Go.Proofs.YtlhofbnnonljaaaGreatDoor
