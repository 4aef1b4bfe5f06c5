/- At every call CallOk of the program answers as the model: for the laid table of the sums; the call starts no other goroutine that is left behind. -/
import Derived.Test.YtlhofbnnonljaaaGreatDoorCards
import Derived.Test.YtlhofbnnonljaaaGreatDoorTie
import Derived.WalkKit
import Derived.ProofKit
import Derived.OpenShut
import Derived.OpenVars
import Derived.ShutString
import Derived.ChangeOld
import Derived.Below
import Derived.Deep.DeepHandedRow
import Derived.Deep.DeepWitnessRowRef
import Derived.Lib.LaidTab
import Derived.Stop.LaidErr
import Derived.LaidMore
import Derived.Test.YtlhofbnnonljaaaGreatDoorX26
import Derived.Test.YtlhofbnnonljaaaGreatDoorLv
namespace Go.Proofs.YtlhofbnnonljaaaGreatDoor
open Go.ChangeShapes Go.WideShapes Go.ChangeAt Go.RowKit
open Go.ChangeMaps (open_string shut_string)
set_option linter.unusedVariables false

theorem fnExactCallOk_own : ownKnob Tryz.prog.godebug = none := by kernel_rfl
theorem fnExactCallOk_laidOut : laidOutB Tryz.prog = true := by kernel_rfl
theorem fnExactCallOk_gn : Tryz.prog.globalNamed "loop.example/g00324/impl.nibbleSteps" = some 0 := by kernel_rfl
theorem fnExactCallOk_gt : (Tryz.prog.globals[0]?).map (·.type) = some 269 := by kernel_rfl
theorem fnExactCallOk_cA : Tryz.prog.cellsOf 269 = 16 := by kernel_rfl
theorem fnExactCallOk_cE : Tryz.prog.cellsOf 99 = 1 := by kernel_rfl

theorem fnExactCallOk_table {W : World} (h : laidMetH Tryz.prog Rows.fnExactCallOkRow.laid W) : Lib.TabIs Tryz.prog W "loop.example/g00324/impl.nibbleSteps" .u32 (tabW.map Int.ofNat) :=
  Lib.tabIs_of_head (rest := []) fnExactCallOk_gn fnExactCallOk_gt Tryz.underlying269 Tryz.underlying99 fnExactCallOk_cE fnExactCallOk_cA (laidMet.tail (laidMet.tail (laidMet.tail (show laidMet Tryz.prog Rows.fnExactCallOkRow.laid W from h))))

theorem fnExactCallOk_nib {W : World} (h : laidMetH Tryz.prog Rows.fnExactCallOkRow.laid W) : Nib W := fun i hi => by
  rw [(fnExactCallOk_table h).cell fnExactCallOk_gn i hi]
  have : ∀ r : Fin 16, (tabW.map Int.ofNat).getD r.val 0 = ((tabW.getD r.val 0 : Nat) : Int) := by decide
  rw [this ⟨i, hi⟩]

theorem fnExactCallOk_glt {W : World} (h : laidMetH Tryz.prog Rows.fnExactCallOkRow.laid W) : 0 < W.heap.size :=
  World.block_lt_of_cell? _ ⟨0, 0, none⟩ (fnExactCallOk_nib h 0 (by decide))

theorem u32_bounds {a : Int} (h : (Lit.int .u32 a).wf = true) : ∃ x : Nat, a = (x : Int) ∧ x < 4294967296 := by
  have hmin : IntKind.u32.min = 0 := rfl
  have hmax : IntKind.u32.max = 4294967295 := rfl
  simp only [Lit.wf, Bool.and_eq_true, decide_eq_true_eq] at h
  exact ⟨a.toNat, by omega, by omega⟩

theorem fnExactCallOk_laid_met (os : Os) : laidMet Tryz.prog Rows.fnExactCallOkRow.laid ((World.doorLaid Tryz.prog 29 os).forCall (fun _ _ => 0) ⟨#[], #[.agg #[.int .i64 0, .int .i64 0, .int .i64 0, .int .i64 0, .string ByteArray.empty]], []⟩).memory :=
  laidMet_of_run' 8 (by kernel_rfl) (by kernel_rfl)

set_option maxRecDepth 100000 in
theorem fnExactCallOk_contract (H : Type) (enc : TypeId × Value → H) (W : World) (base : Nat) (args : Array Value) (ds gs : List (DataW H)) (before : List MemPlace)
    (hval : ∀ (j : Nat) t v, Tryz.f3.params[j]? = some t → args[j]? = some v → Value.okWide Tryz.prog W .any base t v)
    (hW : DataW.Whole enc Tryz.prog Tryz.f3.params.toList Rows.fnExactCallOkSpec.vars false W args.toList ds gs before) (hL : laidMetH Tryz.prog Rows.fnExactCallOkRow.laid W) :
    Calls Tryz.prog 3 args W fun e W' => ∃ v, e = .returned v ∧ Rows.fnExactCallOkSpec.post enc Tryz.prog Tryz.f3 false true false false W args v W' := by
  have hW' := hW
  obtain ⟨p, q, hA0, hV, rfl, hfz, hnd⟩ := hW
  have hA : DataW.TrodAll enc Tryz.prog W 0 (fun _ => true) true Tryz.f3.params.toList args.toList ds p := hA0
  rw [Tryz.params3] at hA hval
  obtain ⟨v0, vs0, d0, ds0, p0, q0, hargs0, rfl, rfl, h0, r0⟩ := trodAll_cons hA
  obtain ⟨rfl, rfl, rfl⟩ := trodAll_nil r0
  obtain rfl : args = #[v0] := by cases args; simp_all
  have hVs : DataW.TrodVars enc Tryz.prog W (fun _ => true) Rows.fnExactCallOkSpec.vars gs q := hV
  obtain ⟨gV, tV, csV, fuelV, dV, pV, rfl, hgV, htV, hvV, hdV, rfl⟩ := trodVars_one hV
  have k0 := h0
  have lt0 : ∀ x ∈ p0, x.block < W.heap.size := by obtain ⟨m, hm⟩ := k0; exact DataW.trod_lt m _ _ _ hm
  obtain ⟨kd0, bx0, gd0, fl0, tx0, rfl, w0⟩ := openCl (hval 0 23 v0 rfl rfl) h0
  clear hA0
  refine (lawCallOk_any kd0 bx0 gd0 fl0 tx0 W w0 (fnExactCallOk_nib hL)).mono fun e W' ⟨he, bel⟩ => ?_
  subst he
  exact ⟨_, rfl, _, _, _, [], _, _, hW', trodAll_mk1 (shut_bool Tryz.underlying4 _), (trodAll_cons_mk (Below.trod fnExactCallOk_laidOut (by kernel_rfl) (of_decide_eq_true (by kernel_rfl)) k0 bel lt0) trodAll_mk0), Below.trodVars fnExactCallOk_laidOut bel (by kernel_rfl) hVs, bel.frame _, fun h => by cases h⟩

theorem fnExactCallOk_reads (os : Os) {H : Type} (enc : TypeId × Value → H) : DataW.whole enc Tryz.prog ((World.doorLaid Tryz.prog 29 os).forCall (fun _ _ => 0) ⟨#[], #[.agg #[.int .i64 0, .int .i64 0, .int .i64 0, .int .i64 0, .string ByteArray.empty]], []⟩).memory Tryz.f3.params.toList Rows.fnExactCallOkSpec.vars false (#[.agg #[.int .i64 0, .int .i64 0, .int .i64 0, .int .i64 0, .string ByteArray.empty]] : Array Value).toList 8 = some ([.agg [.lit (.int .i64 0), .lit (.int .i64 0), .lit (.int .i64 0), .lit (.int .i64 0), .lit (.string [])]], [Rows.laid_loop_example_g00324_impl_nibbleSteps], MemPlace.row ⟨0, 0, none⟩ 16) := by
  kernel_rfl

set_option maxRecDepth 100000 in
theorem fnExactCallOk_lifted (os : Os) (started : os.Started) (H : Type) (enc : TypeId × Value → H) (F : Stop.Interp) :
    ReturnsInHanded {} Tryz.checked os 3 .any ((OpenSpec.ofChange Rows.fnExactCallOkSpec).preRow enc Tryz.prog Tryz.f3 Rows.fnExactCallOkRow.domain false Rows.fnExactCallOkRow.laid) (((OpenSpec.ofChange Rows.fnExactCallOkSpec).at F).post enc Tryz.prog Tryz.f3 false true false false) := by
  have hx := fnExactCallOk_reads os enc
  refine returnsInHanded_of_row (C := Tryz.checked) (s := OpenSpec.ofChange Rows.fnExactCallOkSpec) fnExactCallOk_own started (by kernel_rfl) Tryz.func3
    (witness_row_atRef (enc := enc) (C := Tryz.checked) false (World.doorLaid Tryz.prog 29 os) #[.agg #[.int .i64 0, .int .i64 0, .int .i64 0, .int .i64 0, .string ByteArray.empty]] rfl (by kernel_rfl) (by kernel_rfl) (by kernel_rfl)
      (OpenSpec.preRow_of_cond 8 hx (by kernel_rfl) (fun k hk => by cases hk) (by kernel_rfl) (fnExactCallOk_laid_met os))) ?_
  intro W base args ds gs before hval hW _ _ _ hL _ _
  exact fnExactCallOk_contract H enc W base args ds gs before hval hW hL

def fnExactCallOk_row0 : OpenClaim := { Rows.fnExactCallOkRow with leaving := false }
theorem fnExactCallOk_e1 : fnExactCallOk_row0.assume = {} := rfl
theorem fnExactCallOk_e2 : fnExactCallOk_row0.domain = Rows.fnExactCallOkRow.domain := rfl
theorem fnExactCallOk_e3 : fnExactCallOk_row0.apart = false := rfl
theorem fnExactCallOk_e4 : fnExactCallOk_row0.laid = Rows.fnExactCallOkRow.laid := rfl
theorem fnExactCallOk_e5 : fnExactCallOk_row0.fresh = true := rfl
theorem fnExactCallOk_e6 : fnExactCallOk_row0.handsOn = false := rfl
theorem fnExactCallOk_e7 : fnExactCallOk_row0.again = false := rfl
theorem fnExactCallOk_closed : joinedFacts Tryz.pinned.checked.prog 3 Tryz.f3 (OpenSpec.ofChange Rows.fnExactCallOkSpec).bare fnExactCallOk_row0 = true := by kernel_rfl
theorem fnExactCallOk_hands (os : Os) (started : os.Started) (H : Type) (enc : TypeId × Value → H) (F : Stop.Interp) :
    ReturnsInHanded fnExactCallOk_row0.assume Tryz.pinned.checked os 3 .any (fnExactCallOk_row0.pre enc Tryz.pinned.checked.prog Tryz.f3 (OpenSpec.ofChange Rows.fnExactCallOkSpec)) (((OpenSpec.ofChange Rows.fnExactCallOkSpec).at F).post enc Tryz.pinned.checked.prog Tryz.f3 fnExactCallOk_row0.apart fnExactCallOk_row0.fresh fnExactCallOk_row0.handsOn fnExactCallOk_row0.again) := by
  rw [OpenClaim.pre_eq_preRow, fnExactCallOk_e1, fnExactCallOk_e2, fnExactCallOk_e3, fnExactCallOk_e4, fnExactCallOk_e5, fnExactCallOk_e6, fnExactCallOk_e7]
  exact fnExactCallOk_lifted os started H enc F
theorem fnExactCallOk_said0 : fnExactCallOk_row0.holds Tryz.pinned (OpenSpec.ofChange Rows.fnExactCallOkSpec) :=
  OpenClaim.holds_of_cond 3 Tryz.f3 rfl rfl rfl rfl rfl rfl rfl ⟨rfl, rfl, rfl, rfl, rfl⟩ rfl rfl rfl rfl rfl (by kernel_rfl) Tryz.func3 fnExactCallOk_closed
    (of_decide_eq_true (by kernel_rfl)) (by unfold Func.isWrapper; first | (rw [if_pos (by decide +kernel)]; kernel_rfl) | (rw [if_neg (by decide +kernel)]; exact ⟨rfl, rfl⟩))
    (fun os started H enc _ F => fnExactCallOk_hands os started H enc F)
theorem fnExactCallOk_said : Rows.FnExactCallOkSaid := holds_leaving Rows.fnExactCallOkRow rfl rfl rfl fnExactCallOk_said0

theorem fnExactCallOk_plain (f : FuncId) (fn : Func) (hf : Tryz.pinned.checked.prog.funcNamed "loop.example/g00324/laws.FnExactCallOk" = some f) (hfn : Tryz.pinned.checked.prog.funcs[f]? = some fn) :
    true = Tryz.pinned.checked.prog.looks [] ∧ ∀ (j : Nat) t, fn.params[j]? = some t → Tryz.pinned.checked.prog.wantsStandIn t = false := by
  obtain rfl : f = 3 := Option.some.inj ((show Tryz.prog.funcNamed "loop.example/g00324/laws.FnExactCallOk" = some 3 by kernel_rfl).symm.trans hf) |>.symm
  obtain rfl : fn = Tryz.f3 := (Option.some.inj (Tryz.func3.symm.trans hfn)).symm
  refine ⟨by kernel_rfl, fun j t ht => ?_⟩
  rw [Tryz.params3] at ht
  have hd : t = 23 := by simpa using Array.mem_of_getElem? ht
  rcases hd with rfl
  · exact (show Tryz.prog.wantsStandIn 23 = false by kernel_rfl)

theorem fnExactCallOk_proved : Rows.FnExactCallOkCardSaid :=
  card_goes _ _ _ _ fnExactCallOk_said (by kernel_rfl) fnExactCallOk_row_tie rfl ⟨rfl, rfl⟩ (by kernel_rfl) rfl fnExactCallOk_plain (by kernel_rfl)
#print axioms fnExactCallOk_proved
end Go.Proofs.YtlhofbnnonljaaaGreatDoor
