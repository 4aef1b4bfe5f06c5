/- At every text RecordText of the program answers as the model, text and flag: for the laid table of the sums. -/
import Derived.Test.YtpannfkfaagflaaDoorCards
import Derived.Test.YtpannfkfaagflaaDoorTie
import Derived.WalkKit
import Derived.ProofKit
import Derived.OpenShut
import Derived.OpenVars
import Derived.ShutString
import Derived.ChangeOld
import Derived.Below
import Derived.Deep.DeepHandedRow
import Derived.Deep.DeepWitnessRowRef
import Derived.Lib.LaidTab
import Derived.Stop.LaidErr
import Derived.LaidMore
import Derived.Test.YtpannfkfaagflaaDoorR3
namespace Go.Proofs.YtpannfkfaagflaaDoor
open Go.ChangeShapes Go.WideShapes Go.ChangeAt Go.RowKit
open Go.ChangeMaps (open_string shut_string)
set_option linter.unusedVariables false

theorem fnExactRecordText_own : ownKnob Tryd.prog.godebug = none := by kernel_rfl
theorem fnExactRecordText_laidOut : laidOutB Tryd.prog = true := by kernel_rfl
theorem fnExactRecordText_gn : Tryd.prog.globalNamed "loop.example/g00324/impl.nibbleSteps" = some 0 := by kernel_rfl
theorem fnExactRecordText_gt : (Tryd.prog.globals[0]?).map (·.type) = some 50 := by kernel_rfl
theorem fnExactRecordText_cA : Tryd.prog.cellsOf 50 = 16 := by kernel_rfl
theorem fnExactRecordText_cE : Tryd.prog.cellsOf 35 = 1 := by kernel_rfl

theorem fnExactRecordText_table {W : World} (h : laidMetH Tryd.prog Rows.fnExactRecordTextRow.laid W) : Lib.TabIs Tryd.prog W "loop.example/g00324/impl.nibbleSteps" .u32 (tabW.map Int.ofNat) :=
  Lib.tabIs_of_head (rest := []) fnExactRecordText_gn fnExactRecordText_gt Tryd.underlying50 Tryd.underlying35 fnExactRecordText_cE fnExactRecordText_cA (show laidMet Tryd.prog Rows.fnExactRecordTextRow.laid W from h)

theorem fnExactRecordText_nib {W : World} (h : laidMetH Tryd.prog Rows.fnExactRecordTextRow.laid W) : Nib W := fun i hi => by
  rw [(fnExactRecordText_table h).cell fnExactRecordText_gn i hi]
  have : ∀ r : Fin 16, (tabW.map Int.ofNat).getD r.val 0 = ((tabW.getD r.val 0 : Nat) : Int) := by decide
  rw [this ⟨i, hi⟩]

theorem fnExactRecordText_glt {W : World} (h : laidMetH Tryd.prog Rows.fnExactRecordTextRow.laid W) : 0 < W.heap.size :=
  World.block_lt_of_cell? _ ⟨0, 0, none⟩ (fnExactRecordText_nib h 0 (by decide))

theorem u32_bounds {a : Int} (h : (Lit.int .u32 a).wf = true) : ∃ x : Nat, a = (x : Int) ∧ x < 4294967296 := by
  have hmin : IntKind.u32.min = 0 := rfl
  have hmax : IntKind.u32.max = 4294967295 := rfl
  simp only [Lit.wf, Bool.and_eq_true, decide_eq_true_eq] at h
  exact ⟨a.toNat, by omega, by omega⟩

theorem fnExactRecordText_laid_met (os : Os) : laidMet Tryd.prog Rows.fnExactRecordTextRow.laid ((World.doorLaid Tryd.prog 14 os).forCall (fun _ _ => 0) ⟨#[], #[.string ByteArray.empty], []⟩).memory :=
  laidMet_of_run' 8 (by kernel_rfl) (by kernel_rfl)

set_option maxRecDepth 100000 in
theorem fnExactRecordText_contract (H : Type) (enc : TypeId × Value → H) (W : World) (base : Nat) (args : Array Value) (ds gs : List (DataW H)) (before : List MemPlace)
    (hval : ∀ (j : Nat) t v, Tryd.f3.params[j]? = some t → args[j]? = some v → Value.okWide Tryd.prog W .any base t v)
    (hW : DataW.Whole enc Tryd.prog Tryd.f3.params.toList Rows.fnExactRecordTextSpec.vars false W args.toList ds gs before) (hL : laidMetH Tryd.prog Rows.fnExactRecordTextRow.laid W) :
    Calls Tryd.prog 3 args W fun e W' => ∃ v, e = .returned v ∧ Rows.fnExactRecordTextSpec.post enc Tryd.prog Tryd.f3 false true false false W args v W' := by
  have hW' := hW
  obtain ⟨p, q, hA0, hV, rfl, hfz, hnd⟩ := hW
  have hA : DataW.TrodAll enc Tryd.prog W 0 (fun _ => true) true Tryd.f3.params.toList args.toList ds p := hA0
  rw [Tryd.params3] at hA hval
  obtain ⟨v0, vs0, d0, ds0, p0, q0, hargs0, rfl, rfl, h0, r0⟩ := trodAll_cons hA
  obtain ⟨rfl, rfl, rfl⟩ := trodAll_nil r0
  obtain rfl : args = #[v0] := by cases args; simp_all
  have hVs : DataW.TrodVars enc Tryd.prog W (fun _ => true) Rows.fnExactRecordTextSpec.vars gs q := hV
  obtain ⟨gV, tV, csV, fuelV, dV, pV, rfl, hgV, htV, hvV, hdV, rfl⟩ := trodVars_one hV
  obtain ⟨a0, rfl, rfl, rfl, w0⟩ := open_string Tryd.underlying9 (hval 0 9 v0 rfl rfl) h0
  clear hA0
  refine (lawRecord_any a0 W w0 (fnExactRecordText_nib hL)).mono fun e W' ⟨he, bel⟩ => ?_
  subst he
  exact ⟨_, rfl, _, _, _, [], _, _, hW', trodAll_mk1 (shut_bool Tryd.underlying4 _), (trodAll_cons_mk (shut_string Tryd.underlying9 w0) trodAll_mk0), Below.trodVars fnExactRecordText_laidOut bel (by kernel_rfl) hVs, bel.frame _, fun h => by cases h⟩

theorem fnExactRecordText_reads (os : Os) {H : Type} (enc : TypeId × Value → H) : DataW.whole enc Tryd.prog ((World.doorLaid Tryd.prog 14 os).forCall (fun _ _ => 0) ⟨#[], #[.string ByteArray.empty], []⟩).memory Tryd.f3.params.toList Rows.fnExactRecordTextSpec.vars false (#[.string ByteArray.empty] : Array Value).toList 8 = some ([.lit (.string [])], [Rows.laid_loop_example_g00324_impl_nibbleSteps], MemPlace.row ⟨0, 0, none⟩ 16) := by
  kernel_rfl

set_option maxRecDepth 100000 in
theorem fnExactRecordText_lifted (os : Os) (started : os.Started) (H : Type) (enc : TypeId × Value → H) (F : Stop.Interp) :
    ReturnsInHanded {} Tryd.checked os 3 .any ((OpenSpec.ofChange Rows.fnExactRecordTextSpec).preRow enc Tryd.prog Tryd.f3 Rows.fnExactRecordTextRow.domain false Rows.fnExactRecordTextRow.laid) (((OpenSpec.ofChange Rows.fnExactRecordTextSpec).at F).post enc Tryd.prog Tryd.f3 false true false false) := by
  have hx := fnExactRecordText_reads os enc
  refine returnsInHanded_of_row (C := Tryd.checked) (s := OpenSpec.ofChange Rows.fnExactRecordTextSpec) fnExactRecordText_own started (by kernel_rfl) Tryd.func3
    (witness_row_atRef (enc := enc) (C := Tryd.checked) false (World.doorLaid Tryd.prog 14 os) #[.string ByteArray.empty] rfl (by kernel_rfl) (by kernel_rfl) (by kernel_rfl)
      (OpenSpec.preRow_of_cond 8 hx (by kernel_rfl) (fun k hk => by cases hk) (by kernel_rfl) (fnExactRecordText_laid_met os))) ?_
  intro W base args ds gs before hval hW _ _ _ hL _ _
  exact fnExactRecordText_contract H enc W base args ds gs before hval hW hL

theorem fnExactRecordText_said : Rows.FnExactRecordTextSaid :=
  OpenClaim.holds_of_cond 3 Tryd.f3 rfl rfl rfl rfl rfl rfl rfl ⟨rfl, rfl, rfl, rfl, rfl⟩ rfl rfl rfl rfl rfl (by kernel_rfl) Tryd.func3 (by kernel_rfl)
    (of_decide_eq_true (by kernel_rfl)) (by unfold Func.isWrapper; first | (rw [if_pos (by decide +kernel)]; kernel_rfl) | (rw [if_neg (by decide +kernel)]; exact ⟨rfl, rfl⟩))
    (fun os started H enc _ F => by rw [OpenClaim.pre_eq_preRow]; exact fnExactRecordText_lifted os started H enc F)

theorem fnExactRecordText_plain (f : FuncId) (fn : Func) (hf : Tryd.pinned.checked.prog.funcNamed "loop.example/g00324/laws.FnExactRecordText" = some f) (hfn : Tryd.pinned.checked.prog.funcs[f]? = some fn) :
    false = Tryd.pinned.checked.prog.looks [] ∧ ∀ (j : Nat) t, fn.params[j]? = some t → Tryd.pinned.checked.prog.wantsStandIn t = false := by
  obtain rfl : f = 3 := Option.some.inj ((show Tryd.prog.funcNamed "loop.example/g00324/laws.FnExactRecordText" = some 3 by kernel_rfl).symm.trans hf) |>.symm
  obtain rfl : fn = Tryd.f3 := (Option.some.inj (Tryd.func3.symm.trans hfn)).symm
  refine ⟨by kernel_rfl, fun j t ht => ?_⟩
  rw [Tryd.params3] at ht
  have hd : t = 9 := by simpa using Array.mem_of_getElem? ht
  rcases hd with rfl
  · exact (show Tryd.prog.wantsStandIn 9 = false by kernel_rfl)

theorem fnExactRecordText_proved : Rows.FnExactRecordTextCardSaid :=
  Claim7.holds_tied_plain_at .later [] _ _ _ _ fnExactRecordText_said (fun _ h => by cases h) (by kernel_rfl) (fun _ h => by cases h) fnExactRecordText_row_tie rfl ⟨rfl, rfl⟩ (by kernel_rfl) rfl fnExactRecordText_plain (by kernel_rfl)
#print axioms fnExactRecordText_proved
end Go.Proofs.YtpannfkfaagflaaDoor
