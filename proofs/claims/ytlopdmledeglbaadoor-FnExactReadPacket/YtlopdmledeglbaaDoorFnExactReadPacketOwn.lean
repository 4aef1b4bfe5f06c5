/- For every text, ReadPacket answers as the specification does; the table nibbleSteps is as the program lays it. -/
import Derived.Test.YtlopdmledeglbaaDoorCards
import Derived.Test.YtlopdmledeglbaaDoorTie
import Derived.WalkKit
import Derived.ProofKit
import Derived.OpenShut
import Derived.OpenVars
import Derived.ShutString
import Derived.ChangeOld
import Derived.Below
import Derived.Deep.DeepHandedRow
import Derived.Deep.DeepWitnessRowRef
import Derived.Lib.LaidTab
import Derived.Stop.LaidErr
import Derived.LaidMore
import Derived.Test.YtlopdmledeglbaaDoorV4
namespace Go.Proofs.YtlopdmledeglbaaDoor
open Go.ChangeShapes Go.WideShapes Go.ChangeAt Go.RowKit
open Go.ChangeMaps (open_string shut_string)
set_option linter.unusedVariables false

theorem fnExactReadPacket_own : ownKnob Tryd.prog.godebug = none := by kernel_rfl
theorem fnExactReadPacket_laidOut : laidOutB Tryd.prog = true := by kernel_rfl
theorem fnExactReadPacket_gn : Tryd.prog.globalNamed "loop.example/g00324/impl.nibbleSteps" = some 0 := by kernel_rfl
theorem fnExactReadPacket_gt : (Tryd.prog.globals[0]?).map (·.type) = some 76 := by kernel_rfl
theorem fnExactReadPacket_cA : Tryd.prog.cellsOf 76 = 16 := by kernel_rfl
theorem fnExactReadPacket_cE : Tryd.prog.cellsOf 49 = 1 := by kernel_rfl

theorem fnExactReadPacket_table {W : World} (h : laidMetH Tryd.prog Rows.fnExactReadPacketRow.laid W) : Lib.TabIs Tryd.prog W "loop.example/g00324/impl.nibbleSteps" .u32 (tabW.map Int.ofNat) :=
  Lib.tabIs_of_head (rest := []) fnExactReadPacket_gn fnExactReadPacket_gt Tryd.underlying76 Tryd.underlying49 fnExactReadPacket_cE fnExactReadPacket_cA (show laidMet Tryd.prog Rows.fnExactReadPacketRow.laid W from h)

theorem fnExactReadPacket_nib {W : World} (h : laidMetH Tryd.prog Rows.fnExactReadPacketRow.laid W) : Nib W := fun i hi => by
  rw [(fnExactReadPacket_table h).cell fnExactReadPacket_gn i hi]
  have : ∀ r : Fin 16, (tabW.map Int.ofNat).getD r.val 0 = ((tabW.getD r.val 0 : Nat) : Int) := by decide
  rw [this ⟨i, hi⟩]

theorem fnExactReadPacket_glt {W : World} (h : laidMetH Tryd.prog Rows.fnExactReadPacketRow.laid W) : 0 < W.heap.size :=
  World.block_lt_of_cell? _ ⟨0, 0, none⟩ (fnExactReadPacket_nib h 0 (by decide))

theorem u32_bounds {a : Int} (h : (Lit.int .u32 a).wf = true) : ∃ x : Nat, a = (x : Int) ∧ x < 4294967296 := by
  have hmin : IntKind.u32.min = 0 := rfl
  have hmax : IntKind.u32.max = 4294967295 := rfl
  simp only [Lit.wf, Bool.and_eq_true, decide_eq_true_eq] at h
  exact ⟨a.toNat, by omega, by omega⟩

theorem fnExactReadPacket_laid_met (os : Os) : laidMet Tryd.prog Rows.fnExactReadPacketRow.laid ((World.doorLaid Tryd.prog 14 os).forCall (fun _ _ => 0) ⟨#[], #[.string ByteArray.empty], []⟩).memory :=
  laidMet_of_run' 8 (by kernel_rfl) (by kernel_rfl)

set_option maxRecDepth 100000 in
theorem fnExactReadPacket_contract (H : Type) (enc : TypeId × Value → H) (W : World) (base : Nat) (args : Array Value) (ds gs : List (DataW H)) (before : List MemPlace)
    (hval : ∀ (j : Nat) t v, Tryd.f4.params[j]? = some t → args[j]? = some v → Value.okWide Tryd.prog W .any base t v)
    (hW : DataW.Whole enc Tryd.prog Tryd.f4.params.toList Rows.fnExactReadPacketSpec.vars false W args.toList ds gs before) (hL : laidMetH Tryd.prog Rows.fnExactReadPacketRow.laid W) :
    Calls Tryd.prog 4 args W fun e W' => ∃ v, e = .returned v ∧ Rows.fnExactReadPacketSpec.post enc Tryd.prog Tryd.f4 false true false false W args v W' := by
  have hW' := hW
  obtain ⟨p, q, hA0, hV, rfl, hfz, hnd⟩ := hW
  have hA : DataW.TrodAll enc Tryd.prog W 0 (fun _ => true) true Tryd.f4.params.toList args.toList ds p := hA0
  rw [Tryd.params4] at hA hval
  obtain ⟨v0, vs0, d0, ds0, p0, q0, hargs0, rfl, rfl, h0, r0⟩ := trodAll_cons hA
  obtain ⟨rfl, rfl, rfl⟩ := trodAll_nil r0
  obtain rfl : args = #[v0] := by cases args; simp_all
  have hVs : DataW.TrodVars enc Tryd.prog W (fun _ => true) Rows.fnExactReadPacketSpec.vars gs q := hV
  obtain ⟨gV, tV, csV, fuelV, dV, pV, rfl, hgV, htV, hvV, hdV, rfl⟩ := trodVars_one hV
  obtain ⟨a0, rfl, rfl, rfl, w0⟩ := open_string Tryd.underlying9 (hval 0 9 v0 rfl rfl) h0
  clear hA0
  refine (lawReadPacketN_any a0 W (fnExactReadPacket_nib hL)).mono fun e W' ⟨he, bel⟩ => ?_
  subst he
  exact ⟨_, rfl, _, _, _, [], _, _, hW', trodAll_mk1 (shut_bool Tryd.underlying4 _), (trodAll_cons_mk (shut_string Tryd.underlying9 w0) trodAll_mk0), Below.trodVars fnExactReadPacket_laidOut bel (by kernel_rfl) hVs, bel.frame _, fun h => by cases h⟩

theorem fnExactReadPacket_reads (os : Os) {H : Type} (enc : TypeId × Value → H) : DataW.whole enc Tryd.prog ((World.doorLaid Tryd.prog 14 os).forCall (fun _ _ => 0) ⟨#[], #[.string ByteArray.empty], []⟩).memory Tryd.f4.params.toList Rows.fnExactReadPacketSpec.vars false (#[.string ByteArray.empty] : Array Value).toList 8 = some ([.lit (.string [])], [Rows.laid_loop_example_g00324_impl_nibbleSteps], MemPlace.row ⟨0, 0, none⟩ 16) := by
  kernel_rfl

set_option maxRecDepth 100000 in
theorem fnExactReadPacket_lifted (os : Os) (started : os.Started) (H : Type) (enc : TypeId × Value → H) (F : Stop.Interp) :
    ReturnsInHanded {} Tryd.checked os 4 .any ((OpenSpec.ofChange Rows.fnExactReadPacketSpec).preRow enc Tryd.prog Tryd.f4 Rows.fnExactReadPacketRow.domain false Rows.fnExactReadPacketRow.laid) (((OpenSpec.ofChange Rows.fnExactReadPacketSpec).at F).post enc Tryd.prog Tryd.f4 false true false false) := by
  have hx := fnExactReadPacket_reads os enc
  refine returnsInHanded_of_row (C := Tryd.checked) (s := OpenSpec.ofChange Rows.fnExactReadPacketSpec) fnExactReadPacket_own started (by kernel_rfl) Tryd.func4
    (witness_row_atRef (enc := enc) (C := Tryd.checked) false (World.doorLaid Tryd.prog 14 os) #[.string ByteArray.empty] rfl (by kernel_rfl) (by kernel_rfl) (by kernel_rfl)
      (OpenSpec.preRow_of_cond 8 hx (by kernel_rfl) (fun k hk => by cases hk) (by kernel_rfl) (fnExactReadPacket_laid_met os))) ?_
  intro W base args ds gs before hval hW _ _ _ hL _ _
  exact fnExactReadPacket_contract H enc W base args ds gs before hval hW hL

theorem fnExactReadPacket_said : Rows.FnExactReadPacketSaid :=
  OpenClaim.holds_of_cond 4 Tryd.f4 rfl rfl rfl rfl rfl rfl rfl ⟨rfl, rfl, rfl, rfl, rfl⟩ rfl rfl rfl rfl rfl (by kernel_rfl) Tryd.func4 (by kernel_rfl)
    (of_decide_eq_true (by kernel_rfl)) (by unfold Func.isWrapper; first | (rw [if_pos (by decide +kernel)]; kernel_rfl) | (rw [if_neg (by decide +kernel)]; exact ⟨rfl, rfl⟩))
    (fun os started H enc _ F => by rw [OpenClaim.pre_eq_preRow]; exact fnExactReadPacket_lifted os started H enc F)

theorem fnExactReadPacket_plain (f : FuncId) (fn : Func) (hf : Tryd.pinned.checked.prog.funcNamed "loop.example/g00324/laws.FnExactReadPacket" = some f) (hfn : Tryd.pinned.checked.prog.funcs[f]? = some fn) :
    true = Tryd.pinned.checked.prog.looks [] ∧ ∀ (j : Nat) t, fn.params[j]? = some t → Tryd.pinned.checked.prog.wantsStandIn t = false := by
  obtain rfl : f = 4 := Option.some.inj ((show Tryd.prog.funcNamed "loop.example/g00324/laws.FnExactReadPacket" = some 4 by kernel_rfl).symm.trans hf) |>.symm
  obtain rfl : fn = Tryd.f4 := (Option.some.inj (Tryd.func4.symm.trans hfn)).symm
  refine ⟨by kernel_rfl, fun j t ht => ?_⟩
  rw [Tryd.params4] at ht
  have hd : t = 9 := by simpa using Array.mem_of_getElem? ht
  rcases hd with rfl
  · exact (show Tryd.prog.wantsStandIn 9 = false by kernel_rfl)

theorem fnExactReadPacket_proved : Rows.FnExactReadPacketCardSaid :=
  Claim7.holds_tied_plain_at .later [] _ _ _ _ fnExactReadPacket_said (fun _ h => by cases h) (by kernel_rfl) (fun _ h => by cases h) fnExactReadPacket_row_tie rfl ⟨rfl, rfl⟩ (by kernel_rfl) rfl fnExactReadPacket_plain (by kernel_rfl)
#print axioms fnExactReadPacket_proved
end Go.Proofs.YtlopdmledeglbaaDoor
