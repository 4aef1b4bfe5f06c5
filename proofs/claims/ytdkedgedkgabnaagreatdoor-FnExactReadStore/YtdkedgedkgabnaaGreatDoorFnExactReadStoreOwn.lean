/- At every text ReadStore of the program answers as the model, every field; its answer owns its memory, behind another call too: for the laid table of the sums. -/
import Derived.Test.YtdkedgedkgabnaaGreatDoorCards
import Derived.Test.YtdkedgedkgabnaaGreatDoorTie
import Derived.WalkKit
import Derived.ProofKit
import Derived.OpenShut
import Derived.OpenVars
import Derived.ShutString
import Derived.ChangeOld
import Derived.Below
import Derived.Deep.DeepHandedRow
import Derived.Deep.DeepWitnessRowRef
import Derived.Lib.LaidTab
import Derived.Stop.LaidErr
import Derived.LaidMore
import Derived.Test.YtdkedgedkgabnaaGreatDoorR19
namespace Go.Proofs.YtdkedgedkgabnaaGreatDoor
open Go.ChangeShapes Go.WideShapes Go.ChangeAt Go.RowKit
open Go.ChangeMaps (open_string shut_string)
set_option linter.unusedVariables false

theorem fnExactReadStore_own : ownKnob Tryz.prog.godebug = none := by kernel_rfl
theorem fnExactReadStore_laidOut : laidOutB Tryz.prog = true := by kernel_rfl
theorem fnExactReadStore_gn : Tryz.prog.globalNamed "loop.example/g00324/impl.nibbleSteps" = some 0 := by kernel_rfl
theorem fnExactReadStore_gt : (Tryz.prog.globals[0]?).map (·.type) = some 209 := by kernel_rfl
theorem fnExactReadStore_cA : Tryz.prog.cellsOf 209 = 16 := by kernel_rfl
theorem fnExactReadStore_cE : Tryz.prog.cellsOf 103 = 1 := by kernel_rfl

theorem fnExactReadStore_table {W : World} (h : laidMetH Tryz.prog Rows.fnExactReadStoreRow.laid W) : Lib.TabIs Tryz.prog W "loop.example/g00324/impl.nibbleSteps" .u32 (tabW.map Int.ofNat) :=
  Lib.tabIs_of_head (rest := []) fnExactReadStore_gn fnExactReadStore_gt Tryz.underlying209 Tryz.underlying103 fnExactReadStore_cE fnExactReadStore_cA (show laidMet Tryz.prog Rows.fnExactReadStoreRow.laid W from h)

theorem fnExactReadStore_nib {W : World} (h : laidMetH Tryz.prog Rows.fnExactReadStoreRow.laid W) : Nib W := fun i hi => by
  rw [(fnExactReadStore_table h).cell fnExactReadStore_gn i hi]
  have : ∀ r : Fin 16, (tabW.map Int.ofNat).getD r.val 0 = ((tabW.getD r.val 0 : Nat) : Int) := by decide
  rw [this ⟨i, hi⟩]

theorem fnExactReadStore_glt {W : World} (h : laidMetH Tryz.prog Rows.fnExactReadStoreRow.laid W) : 0 < W.heap.size :=
  World.block_lt_of_cell? _ ⟨0, 0, none⟩ (fnExactReadStore_nib h 0 (by decide))

theorem u32_bounds {a : Int} (h : (Lit.int .u32 a).wf = true) : ∃ x : Nat, a = (x : Int) ∧ x < 4294967296 := by
  have hmin : IntKind.u32.min = 0 := rfl
  have hmax : IntKind.u32.max = 4294967295 := rfl
  simp only [Lit.wf, Bool.and_eq_true, decide_eq_true_eq] at h
  exact ⟨a.toNat, by omega, by omega⟩

theorem fnExactReadStore_laid_met (os : Os) : laidMet Tryz.prog Rows.fnExactReadStoreRow.laid ((World.doorLaid Tryz.prog 14 os).forCall (fun _ _ => 0) ⟨#[], #[.string ByteArray.empty], []⟩).memory :=
  laidMet_of_run' 8 (by kernel_rfl) (by kernel_rfl)

set_option maxRecDepth 100000 in
theorem fnExactReadStore_contract (H : Type) (enc : TypeId × Value → H) (W : World) (base : Nat) (args : Array Value) (ds gs : List (DataW H)) (before : List MemPlace)
    (hval : ∀ (j : Nat) t v, Tryz.f4.params[j]? = some t → args[j]? = some v → Value.okWide Tryz.prog W .any base t v)
    (hW : DataW.Whole enc Tryz.prog Tryz.f4.params.toList Rows.fnExactReadStoreSpec.vars false W args.toList ds gs before) (hL : laidMetH Tryz.prog Rows.fnExactReadStoreRow.laid W) :
    Calls Tryz.prog 4 args W fun e W' => ∃ v, e = .returned v ∧ Rows.fnExactReadStoreSpec.post enc Tryz.prog Tryz.f4 false true false false W args v W' := by
  have hW' := hW
  obtain ⟨p, q, hA0, hV, rfl, hfz, hnd⟩ := hW
  have hA : DataW.TrodAll enc Tryz.prog W 0 (fun _ => true) true Tryz.f4.params.toList args.toList ds p := hA0
  rw [Tryz.params4] at hA hval
  obtain ⟨v0, vs0, d0, ds0, p0, q0, hargs0, rfl, rfl, h0, r0⟩ := trodAll_cons hA
  obtain ⟨rfl, rfl, rfl⟩ := trodAll_nil r0
  obtain rfl : args = #[v0] := by cases args; simp_all
  have hVs : DataW.TrodVars enc Tryz.prog W (fun _ => true) Rows.fnExactReadStoreSpec.vars gs q := hV
  obtain ⟨gV, tV, csV, fuelV, dV, pV, rfl, hgV, htV, hvV, hdV, rfl⟩ := trodVars_one hV
  obtain ⟨a0, rfl, rfl, rfl, w0⟩ := open_string Tryz.underlying9 (hval 0 9 v0 rfl rfl) h0
  clear hA0
  refine (lawReadStore_any a0 W (by have h := w0; unfold maxLen at h; omega) (fnExactReadStore_nib hL)).mono fun e W' ⟨he, bel⟩ => ?_
  subst he
  exact ⟨_, rfl, _, _, _, [], _, _, hW', trodAll_mk1 (shut_bool Tryz.underlying4 _), (trodAll_cons_mk (shut_string Tryz.underlying9 w0) trodAll_mk0), Below.trodVars fnExactReadStore_laidOut bel (by kernel_rfl) hVs, bel.frame _, fun h => by cases h⟩

theorem fnExactReadStore_reads (os : Os) {H : Type} (enc : TypeId × Value → H) : DataW.whole enc Tryz.prog ((World.doorLaid Tryz.prog 14 os).forCall (fun _ _ => 0) ⟨#[], #[.string ByteArray.empty], []⟩).memory Tryz.f4.params.toList Rows.fnExactReadStoreSpec.vars false (#[.string ByteArray.empty] : Array Value).toList 8 = some ([.lit (.string [])], [Rows.laid_loop_example_g00324_impl_nibbleSteps], MemPlace.row ⟨0, 0, none⟩ 16) := by
  kernel_rfl

set_option maxRecDepth 100000 in
theorem fnExactReadStore_lifted (os : Os) (started : os.Started) (H : Type) (enc : TypeId × Value → H) (F : Stop.Interp) :
    ReturnsInHanded {} Tryz.checked os 4 .any ((OpenSpec.ofChange Rows.fnExactReadStoreSpec).preRow enc Tryz.prog Tryz.f4 Rows.fnExactReadStoreRow.domain false Rows.fnExactReadStoreRow.laid) (((OpenSpec.ofChange Rows.fnExactReadStoreSpec).at F).post enc Tryz.prog Tryz.f4 false true false false) := by
  have hx := fnExactReadStore_reads os enc
  refine returnsInHanded_of_row (C := Tryz.checked) (s := OpenSpec.ofChange Rows.fnExactReadStoreSpec) fnExactReadStore_own started (by kernel_rfl) Tryz.func4
    (witness_row_atRef (enc := enc) (C := Tryz.checked) false (World.doorLaid Tryz.prog 14 os) #[.string ByteArray.empty] rfl (by kernel_rfl) (by kernel_rfl) (by kernel_rfl)
      (OpenSpec.preRow_of_cond 8 hx (by kernel_rfl) (fun k hk => by cases hk) (by kernel_rfl) (fnExactReadStore_laid_met os))) ?_
  intro W base args ds gs before hval hW _ _ _ hL _ _
  exact fnExactReadStore_contract H enc W base args ds gs before hval hW hL

theorem fnExactReadStore_said : Rows.FnExactReadStoreSaid :=
  OpenClaim.holds_of_cond 4 Tryz.f4 rfl rfl rfl rfl rfl rfl rfl ⟨rfl, rfl, rfl, rfl, rfl⟩ rfl rfl rfl rfl rfl (by kernel_rfl) Tryz.func4 (by kernel_rfl)
    (of_decide_eq_true (by kernel_rfl)) (by unfold Func.isWrapper; first | (rw [if_pos (by decide +kernel)]; kernel_rfl) | (rw [if_neg (by decide +kernel)]; exact ⟨rfl, rfl⟩))
    (fun os started H enc _ F => by rw [OpenClaim.pre_eq_preRow]; exact fnExactReadStore_lifted os started H enc F)

theorem fnExactReadStore_plain (f : FuncId) (fn : Func) (hf : Tryz.pinned.checked.prog.funcNamed "loop.example/g00324/laws.FnExactReadStore" = some f) (hfn : Tryz.pinned.checked.prog.funcs[f]? = some fn) :
    true = Tryz.pinned.checked.prog.looks [] ∧ ∀ (j : Nat) t, fn.params[j]? = some t → Tryz.pinned.checked.prog.wantsStandIn t = false := by
  obtain rfl : f = 4 := Option.some.inj ((show Tryz.prog.funcNamed "loop.example/g00324/laws.FnExactReadStore" = some 4 by kernel_rfl).symm.trans hf) |>.symm
  obtain rfl : fn = Tryz.f4 := (Option.some.inj (Tryz.func4.symm.trans hfn)).symm
  refine ⟨by kernel_rfl, fun j t ht => ?_⟩
  rw [Tryz.params4] at ht
  have hd : t = 9 := by simpa using Array.mem_of_getElem? ht
  rcases hd with rfl
  · exact (show Tryz.prog.wantsStandIn 9 = false by kernel_rfl)

theorem fnExactReadStore_proved : Rows.FnExactReadStoreCardSaid :=
  Claim7.holds_tied_plain_at .later [] _ _ _ _ fnExactReadStore_said (fun _ h => by cases h) (by kernel_rfl) (fun _ h => by cases h) fnExactReadStore_row_tie rfl ⟨rfl, rfl⟩ (by kernel_rfl) rfl fnExactReadStore_plain (by kernel_rfl)
#print axioms fnExactReadStore_proved
end Go.Proofs.YtdkedgedkgabnaaGreatDoor
