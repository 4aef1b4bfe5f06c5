/- At every call CallText of the program answers as the model, text and flag: for the laid table of the sums; the call starts no other goroutine that is left behind. -/
import Derived.Test.YtlhofbnnonljaaaGreatDoorCards
import Derived.Test.YtlhofbnnonljaaaGreatDoorTie
import Derived.WalkKit
import Derived.ProofKit
import Derived.OpenShut
import Derived.OpenVars
import Derived.ShutString
import Derived.ChangeOld
import Derived.Below
import Derived.Deep.DeepHandedRow
import Derived.Deep.DeepWitnessRowRef
import Derived.Lib.LaidTab
import Derived.Stop.LaidErr
import Derived.LaidMore
import Derived.Test.YtlhofbnnonljaaaGreatDoorX26
import Derived.Test.YtlhofbnnonljaaaGreatDoorLv
namespace Go.Proofs.YtlhofbnnonljaaaGreatDoor
open Go.ChangeShapes Go.WideShapes Go.ChangeAt Go.RowKit
open Go.ChangeMaps (open_string shut_string)
set_option linter.unusedVariables false

theorem fnExactCallText_own : ownKnob Tryz.prog.godebug = none := by kernel_rfl
theorem fnExactCallText_laidOut : laidOutB Tryz.prog = true := by kernel_rfl
theorem fnExactCallText_gn : Tryz.prog.globalNamed "loop.example/g00324/impl.nibbleSteps" = some 0 := by kernel_rfl
theorem fnExactCallText_gt : (Tryz.prog.globals[0]?).map (·.type) = some 269 := by kernel_rfl
theorem fnExactCallText_cA : Tryz.prog.cellsOf 269 = 16 := by kernel_rfl
theorem fnExactCallText_cE : Tryz.prog.cellsOf 99 = 1 := by kernel_rfl

theorem fnExactCallText_table {W : World} (h : laidMetH Tryz.prog Rows.fnExactCallTextRow.laid W) : Lib.TabIs Tryz.prog W "loop.example/g00324/impl.nibbleSteps" .u32 (tabW.map Int.ofNat) :=
  Lib.tabIs_of_head (rest := []) fnExactCallText_gn fnExactCallText_gt Tryz.underlying269 Tryz.underlying99 fnExactCallText_cE fnExactCallText_cA (laidMet.tail (laidMet.tail (laidMet.tail (show laidMet Tryz.prog Rows.fnExactCallTextRow.laid W from h))))

theorem fnExactCallText_nib {W : World} (h : laidMetH Tryz.prog Rows.fnExactCallTextRow.laid W) : Nib W := fun i hi => by
  rw [(fnExactCallText_table h).cell fnExactCallText_gn i hi]
  have : ∀ r : Fin 16, (tabW.map Int.ofNat).getD r.val 0 = ((tabW.getD r.val 0 : Nat) : Int) := by decide
  rw [this ⟨i, hi⟩]

theorem fnExactCallText_glt {W : World} (h : laidMetH Tryz.prog Rows.fnExactCallTextRow.laid W) : 0 < W.heap.size :=
  World.block_lt_of_cell? _ ⟨0, 0, none⟩ (fnExactCallText_nib h 0 (by decide))

theorem u32_bounds {a : Int} (h : (Lit.int .u32 a).wf = true) : ∃ x : Nat, a = (x : Int) ∧ x < 4294967296 := by
  have hmin : IntKind.u32.min = 0 := rfl
  have hmax : IntKind.u32.max = 4294967295 := rfl
  simp only [Lit.wf, Bool.and_eq_true, decide_eq_true_eq] at h
  exact ⟨a.toNat, by omega, by omega⟩

theorem fnExactCallText_laid_met (os : Os) : laidMet Tryz.prog Rows.fnExactCallTextRow.laid ((World.doorLaid Tryz.prog 29 os).forCall (fun _ _ => 0) ⟨#[], #[.agg #[.int .i64 0, .int .i64 0, .int .i64 0, .int .i64 0, .string ByteArray.empty]], []⟩).memory :=
  laidMet_of_run' 8 (by kernel_rfl) (by kernel_rfl)

set_option maxRecDepth 100000 in
theorem fnExactCallText_contract (H : Type) (enc : TypeId × Value → H) (W : World) (base : Nat) (args : Array Value) (ds gs : List (DataW H)) (before : List MemPlace)
    (hval : ∀ (j : Nat) t v, Tryz.f4.params[j]? = some t → args[j]? = some v → Value.okWide Tryz.prog W .any base t v)
    (hW : DataW.Whole enc Tryz.prog Tryz.f4.params.toList Rows.fnExactCallTextSpec.vars false W args.toList ds gs before) (hL : laidMetH Tryz.prog Rows.fnExactCallTextRow.laid W) :
    Calls Tryz.prog 4 args W fun e W' => ∃ v, e = .returned v ∧ Rows.fnExactCallTextSpec.post enc Tryz.prog Tryz.f4 false true false false W args v W' := by
  have hW' := hW
  obtain ⟨p, q, hA0, hV, rfl, hfz, hnd⟩ := hW
  have hA : DataW.TrodAll enc Tryz.prog W 0 (fun _ => true) true Tryz.f4.params.toList args.toList ds p := hA0
  rw [Tryz.params4] at hA hval
  obtain ⟨v0, vs0, d0, ds0, p0, q0, hargs0, rfl, rfl, h0, r0⟩ := trodAll_cons hA
  obtain ⟨rfl, rfl, rfl⟩ := trodAll_nil r0
  obtain rfl : args = #[v0] := by cases args; simp_all
  have hVs : DataW.TrodVars enc Tryz.prog W (fun _ => true) Rows.fnExactCallTextSpec.vars gs q := hV
  obtain ⟨gV, tV, csV, fuelV, dV, pV, rfl, hgV, htV, hvV, hdV, rfl⟩ := trodVars_one hV
  have k0 := h0
  have lt0 : ∀ x ∈ p0, x.block < W.heap.size := by obtain ⟨m, hm⟩ := k0; exact DataW.trod_lt m _ _ _ hm
  obtain ⟨kd0, bx0, gd0, fl0, tx0, rfl, w0⟩ := openCl (hval 0 23 v0 rfl rfl) h0
  clear hA0
  refine (lawCallText_any kd0 bx0 gd0 fl0 tx0 W w0 (fnExactCallText_nib hL)).mono fun e W' ⟨he, bel⟩ => ?_
  subst he
  exact ⟨_, rfl, _, _, _, [], _, _, hW', trodAll_mk1 (shut_bool Tryz.underlying4 _), (trodAll_cons_mk (Below.trod fnExactCallText_laidOut (by kernel_rfl) (of_decide_eq_true (by kernel_rfl)) k0 bel lt0) trodAll_mk0), Below.trodVars fnExactCallText_laidOut bel (by kernel_rfl) hVs, bel.frame _, fun h => by cases h⟩

theorem fnExactCallText_reads (os : Os) {H : Type} (enc : TypeId × Value → H) : DataW.whole enc Tryz.prog ((World.doorLaid Tryz.prog 29 os).forCall (fun _ _ => 0) ⟨#[], #[.agg #[.int .i64 0, .int .i64 0, .int .i64 0, .int .i64 0, .string ByteArray.empty]], []⟩).memory Tryz.f4.params.toList Rows.fnExactCallTextSpec.vars false (#[.agg #[.int .i64 0, .int .i64 0, .int .i64 0, .int .i64 0, .string ByteArray.empty]] : Array Value).toList 8 = some ([.agg [.lit (.int .i64 0), .lit (.int .i64 0), .lit (.int .i64 0), .lit (.int .i64 0), .lit (.string [])]], [Rows.laid_loop_example_g00324_impl_nibbleSteps], MemPlace.row ⟨0, 0, none⟩ 16) := by
  kernel_rfl

set_option maxRecDepth 100000 in
theorem fnExactCallText_lifted (os : Os) (started : os.Started) (H : Type) (enc : TypeId × Value → H) (F : Stop.Interp) :
    ReturnsInHanded {} Tryz.checked os 4 .any ((OpenSpec.ofChange Rows.fnExactCallTextSpec).preRow enc Tryz.prog Tryz.f4 Rows.fnExactCallTextRow.domain false Rows.fnExactCallTextRow.laid) (((OpenSpec.ofChange Rows.fnExactCallTextSpec).at F).post enc Tryz.prog Tryz.f4 false true false false) := by
  have hx := fnExactCallText_reads os enc
  refine returnsInHanded_of_row (C := Tryz.checked) (s := OpenSpec.ofChange Rows.fnExactCallTextSpec) fnExactCallText_own started (by kernel_rfl) Tryz.func4
    (witness_row_atRef (enc := enc) (C := Tryz.checked) false (World.doorLaid Tryz.prog 29 os) #[.agg #[.int .i64 0, .int .i64 0, .int .i64 0, .int .i64 0, .string ByteArray.empty]] rfl (by kernel_rfl) (by kernel_rfl) (by kernel_rfl)
      (OpenSpec.preRow_of_cond 8 hx (by kernel_rfl) (fun k hk => by cases hk) (by kernel_rfl) (fnExactCallText_laid_met os))) ?_
  intro W base args ds gs before hval hW _ _ _ hL _ _
  exact fnExactCallText_contract H enc W base args ds gs before hval hW hL

def fnExactCallText_row0 : OpenClaim := { Rows.fnExactCallTextRow with leaving := false }
theorem fnExactCallText_e1 : fnExactCallText_row0.assume = {} := rfl
theorem fnExactCallText_e2 : fnExactCallText_row0.domain = Rows.fnExactCallTextRow.domain := rfl
theorem fnExactCallText_e3 : fnExactCallText_row0.apart = false := rfl
theorem fnExactCallText_e4 : fnExactCallText_row0.laid = Rows.fnExactCallTextRow.laid := rfl
theorem fnExactCallText_e5 : fnExactCallText_row0.fresh = true := rfl
theorem fnExactCallText_e6 : fnExactCallText_row0.handsOn = false := rfl
theorem fnExactCallText_e7 : fnExactCallText_row0.again = false := rfl
theorem fnExactCallText_closed : joinedFacts Tryz.pinned.checked.prog 4 Tryz.f4 (OpenSpec.ofChange Rows.fnExactCallTextSpec).bare fnExactCallText_row0 = true := by kernel_rfl
theorem fnExactCallText_hands (os : Os) (started : os.Started) (H : Type) (enc : TypeId × Value → H) (F : Stop.Interp) :
    ReturnsInHanded fnExactCallText_row0.assume Tryz.pinned.checked os 4 .any (fnExactCallText_row0.pre enc Tryz.pinned.checked.prog Tryz.f4 (OpenSpec.ofChange Rows.fnExactCallTextSpec)) (((OpenSpec.ofChange Rows.fnExactCallTextSpec).at F).post enc Tryz.pinned.checked.prog Tryz.f4 fnExactCallText_row0.apart fnExactCallText_row0.fresh fnExactCallText_row0.handsOn fnExactCallText_row0.again) := by
  rw [OpenClaim.pre_eq_preRow, fnExactCallText_e1, fnExactCallText_e2, fnExactCallText_e3, fnExactCallText_e4, fnExactCallText_e5, fnExactCallText_e6, fnExactCallText_e7]
  exact fnExactCallText_lifted os started H enc F
theorem fnExactCallText_said0 : fnExactCallText_row0.holds Tryz.pinned (OpenSpec.ofChange Rows.fnExactCallTextSpec) :=
  OpenClaim.holds_of_cond 4 Tryz.f4 rfl rfl rfl rfl rfl rfl rfl ⟨rfl, rfl, rfl, rfl, rfl⟩ rfl rfl rfl rfl rfl (by kernel_rfl) Tryz.func4 fnExactCallText_closed
    (of_decide_eq_true (by kernel_rfl)) (by unfold Func.isWrapper; first | (rw [if_pos (by decide +kernel)]; kernel_rfl) | (rw [if_neg (by decide +kernel)]; exact ⟨rfl, rfl⟩))
    (fun os started H enc _ F => fnExactCallText_hands os started H enc F)
theorem fnExactCallText_said : Rows.FnExactCallTextSaid := holds_leaving Rows.fnExactCallTextRow rfl rfl rfl fnExactCallText_said0

theorem fnExactCallText_plain (f : FuncId) (fn : Func) (hf : Tryz.pinned.checked.prog.funcNamed "loop.example/g00324/laws.FnExactCallText" = some f) (hfn : Tryz.pinned.checked.prog.funcs[f]? = some fn) :
    true = Tryz.pinned.checked.prog.looks [] ∧ ∀ (j : Nat) t, fn.params[j]? = some t → Tryz.pinned.checked.prog.wantsStandIn t = false := by
  obtain rfl : f = 4 := Option.some.inj ((show Tryz.prog.funcNamed "loop.example/g00324/laws.FnExactCallText" = some 4 by kernel_rfl).symm.trans hf) |>.symm
  obtain rfl : fn = Tryz.f4 := (Option.some.inj (Tryz.func4.symm.trans hfn)).symm
  refine ⟨by kernel_rfl, fun j t ht => ?_⟩
  rw [Tryz.params4] at ht
  have hd : t = 23 := by simpa using Array.mem_of_getElem? ht
  rcases hd with rfl
  · exact (show Tryz.prog.wantsStandIn 23 = false by kernel_rfl)

theorem fnExactCallText_proved : Rows.FnExactCallTextCardSaid :=
  card_goes _ _ _ _ fnExactCallText_said (by kernel_rfl) fnExactCallText_row_tie rfl ⟨rfl, rfl⟩ (by kernel_rfl) rfl fnExactCallText_plain (by kernel_rfl)
#print axioms fnExactCallText_proved
end Go.Proofs.YtlhofbnnonljaaaGreatDoor
