/- At every two stores SameStore of the program answers as the model; both read behind the call as they read before: for the laid table of the sums. -/
import Derived.Test.YtocfggfccbnbhaaGreatDoorCards
import Derived.Test.YtocfggfccbnbhaaGreatDoorTie
import Derived.WalkKit
import Derived.ProofKit
import Derived.OpenShut
import Derived.OpenVars
import Derived.ShutString
import Derived.ChangeOld
import Derived.Below
import Derived.Deep.DeepHandedRow
import Derived.Deep.DeepWitnessRowRef
import Derived.Lib.LaidTab
import Derived.Stop.LaidErr
import Derived.LaidMore
import Derived.Test.YtocfggfccbnbhaaGreatDoorW5
namespace Go.Proofs.YtocfggfccbnbhaaGreatDoor
open Go.ChangeShapes Go.WideShapes Go.ChangeAt Go.RowKit
open Go.ChangeMaps (open_string shut_string)
set_option linter.unusedVariables false

theorem fnExactSameStore_own : ownKnob Tryz.prog.godebug = none := by kernel_rfl
theorem fnExactSameStore_laidOut : laidOutB Tryz.prog = true := by kernel_rfl
theorem fnExactSameStore_gn : Tryz.prog.globalNamed "loop.example/g00324/impl.nibbleSteps" = some 0 := by kernel_rfl
theorem fnExactSameStore_gt : (Tryz.prog.globals[0]?).map (·.type) = some 233 := by kernel_rfl
theorem fnExactSameStore_cA : Tryz.prog.cellsOf 233 = 16 := by kernel_rfl
theorem fnExactSameStore_cE : Tryz.prog.cellsOf 115 = 1 := by kernel_rfl

theorem fnExactSameStore_table {W : World} (h : laidMetH Tryz.prog Rows.fnExactSameStoreRow.laid W) : Lib.TabIs Tryz.prog W "loop.example/g00324/impl.nibbleSteps" .u32 (tabW.map Int.ofNat) :=
  Lib.tabIs_of_head (rest := []) fnExactSameStore_gn fnExactSameStore_gt Tryz.underlying233 Tryz.underlying115 fnExactSameStore_cE fnExactSameStore_cA (show laidMet Tryz.prog Rows.fnExactSameStoreRow.laid W from h)

theorem fnExactSameStore_nib {W : World} (h : laidMetH Tryz.prog Rows.fnExactSameStoreRow.laid W) : Nib W := fun i hi => by
  rw [(fnExactSameStore_table h).cell fnExactSameStore_gn i hi]
  have : ∀ r : Fin 16, (tabW.map Int.ofNat).getD r.val 0 = ((tabW.getD r.val 0 : Nat) : Int) := by decide
  rw [this ⟨i, hi⟩]

theorem fnExactSameStore_glt {W : World} (h : laidMetH Tryz.prog Rows.fnExactSameStoreRow.laid W) : 0 < W.heap.size :=
  World.block_lt_of_cell? _ ⟨0, 0, none⟩ (fnExactSameStore_nib h 0 (by decide))

theorem u32_bounds {a : Int} (h : (Lit.int .u32 a).wf = true) : ∃ x : Nat, a = (x : Int) ∧ x < 4294967296 := by
  have hmin : IntKind.u32.min = 0 := rfl
  have hmax : IntKind.u32.max = 4294967295 := rfl
  simp only [Lit.wf, Bool.and_eq_true, decide_eq_true_eq] at h
  exact ⟨a.toNat, by omega, by omega⟩

theorem fnExactSameStore_laid_met (os : Os) : laidMet Tryz.prog Rows.fnExactSameStoreRow.laid ((World.doorLaid Tryz.prog 14 os).forCall (fun _ _ => 0) ⟨#[], #[.agg #[.int .i64 0, .int .i64 0, .slice none 0 0, .slice none 0 0], .agg #[.int .i64 0, .int .i64 0, .slice none 0 0, .slice none 0 0]], []⟩).memory :=
  laidMet_of_run' 8 (by kernel_rfl) (by kernel_rfl)

set_option maxRecDepth 100000 in
theorem fnExactSameStore_contract (H : Type) (enc : TypeId × Value → H) (W : World) (base : Nat) (args : Array Value) (ds gs : List (DataW H)) (before : List MemPlace)
    (hval : ∀ (j : Nat) t v, Tryz.f6.params[j]? = some t → args[j]? = some v → Value.okWide Tryz.prog W .any base t v)
    (hW : DataW.Whole enc Tryz.prog Tryz.f6.params.toList Rows.fnExactSameStoreSpec.vars false W args.toList ds gs before) (hL : laidMetH Tryz.prog Rows.fnExactSameStoreRow.laid W) :
    Calls Tryz.prog 6 args W fun e W' => ∃ v, e = .returned v ∧ Rows.fnExactSameStoreSpec.post enc Tryz.prog Tryz.f6 false true false false W args v W' := by
  have hW' := hW
  obtain ⟨p, q, hA0, hV, rfl, hfz, hnd⟩ := hW
  have hA : DataW.TrodAll enc Tryz.prog W 0 (fun _ => true) true Tryz.f6.params.toList args.toList ds p := hA0
  rw [Tryz.params6] at hA hval
  obtain ⟨v0, vs0, d0, ds0, p0, q0, hargs0, rfl, rfl, h0, r0⟩ := trodAll_cons hA
  obtain ⟨v1, vs1, d1, ds1, p1, q1, hargs1, rfl, rfl, h1, r1⟩ := trodAll_cons r0
  obtain ⟨rfl, rfl, rfl⟩ := trodAll_nil r1
  obtain rfl : args = #[v0, v1] := by cases args; simp_all
  have hVs : DataW.TrodVars enc Tryz.prog W (fun _ => true) Rows.fnExactSameStoreSpec.vars gs q := hV
  obtain ⟨gV, tV, csV, fuelV, dV, pV, rfl, hgV, htV, hvV, hdV, rfl⟩ := trodVars_one hV
  have k0 := h0
  have lt0 : ∀ x ∈ p0, x.block < W.heap.size := by obtain ⟨m, hm⟩ := k0; exact DataW.trod_lt m _ _ _ hm
  obtain ⟨y0, tm0, ba0, bn0, bc0, ga0, gn0, gc0, S0, G0, rfl, hl0, hn0, hft0, hm0, hgl0, hgn0, hs0⟩ := openSo (hval 0 53 v0 rfl rfl) h0
  have k1 := h1
  have lt1 : ∀ x ∈ p1, x.block < W.heap.size := by obtain ⟨m, hm⟩ := k1; exact DataW.trod_lt m _ _ _ hm
  obtain ⟨y1, tm1, ba1, bn1, bc1, ga1, gn1, gc1, S1, G1, rfl, hl1, hn1, hft1, hm1, hgl1, hgn1, hs1⟩ := openSo (hval 1 53 v1 rfl rfl) h1
  clear hA0
  refine (lawSameStore_any y0 tm0 ba0 bn0 bc0 ga0 gn0 gc0 S0 G0 y1 tm1 ba1 bn1 bc1 ga1 gn1 gc1 S1 G1 W hl0 hn0 hft0 hm0 hgl0 hgn0 hs0 hl1 hn1 hft1 hm1 hgl1 hgn1 hs1 (fnExactSameStore_nib hL)).mono fun e W' ⟨he, bel⟩ => ?_
  subst he
  exact ⟨_, rfl, _, _, _, [], _, _, hW', trodAll_mk1 (shut_bool Tryz.underlying4 _), (trodAll_cons_mk (Below.trod fnExactSameStore_laidOut (by kernel_rfl) (of_decide_eq_true (by kernel_rfl)) k0 bel lt0) (trodAll_cons_mk (Below.trod fnExactSameStore_laidOut (by kernel_rfl) (of_decide_eq_true (by kernel_rfl)) k1 bel lt1) trodAll_mk0)), Below.trodVars fnExactSameStore_laidOut bel (by kernel_rfl) hVs, bel.frame _, fun h => by cases h⟩

theorem fnExactSameStore_reads (os : Os) {H : Type} (enc : TypeId × Value → H) : DataW.whole enc Tryz.prog ((World.doorLaid Tryz.prog 14 os).forCall (fun _ _ => 0) ⟨#[], #[.agg #[.int .i64 0, .int .i64 0, .slice none 0 0, .slice none 0 0], .agg #[.int .i64 0, .int .i64 0, .slice none 0 0, .slice none 0 0]], []⟩).memory Tryz.f6.params.toList Rows.fnExactSameStoreSpec.vars false (#[.agg #[.int .i64 0, .int .i64 0, .slice none 0 0, .slice none 0 0], .agg #[.int .i64 0, .int .i64 0, .slice none 0 0, .slice none 0 0]] : Array Value).toList 8 = some ([.agg [.lit (.int .i64 0), .lit (.int .i64 0), .nil, .nil], .agg [.lit (.int .i64 0), .lit (.int .i64 0), .nil, .nil]], [Rows.laid_loop_example_g00324_impl_nibbleSteps], MemPlace.row ⟨0, 0, none⟩ 16) := by
  kernel_rfl

set_option maxRecDepth 100000 in
theorem fnExactSameStore_lifted (os : Os) (started : os.Started) (H : Type) (enc : TypeId × Value → H) (F : Stop.Interp) :
    ReturnsInHanded {} Tryz.checked os 6 .any ((OpenSpec.ofChange Rows.fnExactSameStoreSpec).preRow enc Tryz.prog Tryz.f6 Rows.fnExactSameStoreRow.domain false Rows.fnExactSameStoreRow.laid) (((OpenSpec.ofChange Rows.fnExactSameStoreSpec).at F).post enc Tryz.prog Tryz.f6 false true false false) := by
  have hx := fnExactSameStore_reads os enc
  refine returnsInHanded_of_row (C := Tryz.checked) (s := OpenSpec.ofChange Rows.fnExactSameStoreSpec) fnExactSameStore_own started (by kernel_rfl) Tryz.func6
    (witness_row_atRef (enc := enc) (C := Tryz.checked) false (World.doorLaid Tryz.prog 14 os) #[.agg #[.int .i64 0, .int .i64 0, .slice none 0 0, .slice none 0 0], .agg #[.int .i64 0, .int .i64 0, .slice none 0 0, .slice none 0 0]] rfl (by kernel_rfl) (by kernel_rfl) (by kernel_rfl)
      (OpenSpec.preRow_of_cond 8 hx (by kernel_rfl) (fun k hk => by cases hk) (by kernel_rfl) (fnExactSameStore_laid_met os))) ?_
  intro W base args ds gs before hval hW _ _ _ hL _ _
  exact fnExactSameStore_contract H enc W base args ds gs before hval hW hL

theorem fnExactSameStore_said : Rows.FnExactSameStoreSaid :=
  OpenClaim.holds_of_cond 6 Tryz.f6 rfl rfl rfl rfl rfl rfl rfl ⟨rfl, rfl, rfl, rfl, rfl⟩ rfl rfl rfl rfl rfl (by kernel_rfl) Tryz.func6 (by kernel_rfl)
    (of_decide_eq_true (by kernel_rfl)) (by unfold Func.isWrapper; first | (rw [if_pos (by decide +kernel)]; kernel_rfl) | (rw [if_neg (by decide +kernel)]; exact ⟨rfl, rfl⟩))
    (fun os started H enc _ F => by rw [OpenClaim.pre_eq_preRow]; exact fnExactSameStore_lifted os started H enc F)

theorem fnExactSameStore_plain (f : FuncId) (fn : Func) (hf : Tryz.pinned.checked.prog.funcNamed "loop.example/g00324/laws.FnExactSameStore" = some f) (hfn : Tryz.pinned.checked.prog.funcs[f]? = some fn) :
    true = Tryz.pinned.checked.prog.looks [] ∧ ∀ (j : Nat) t, fn.params[j]? = some t → Tryz.pinned.checked.prog.wantsStandIn t = false := by
  obtain rfl : f = 6 := Option.some.inj ((show Tryz.prog.funcNamed "loop.example/g00324/laws.FnExactSameStore" = some 6 by kernel_rfl).symm.trans hf) |>.symm
  obtain rfl : fn = Tryz.f6 := (Option.some.inj (Tryz.func6.symm.trans hfn)).symm
  refine ⟨by kernel_rfl, fun j t ht => ?_⟩
  rw [Tryz.params6] at ht
  have hd : t = 53 ∨ t = 53 := by simpa using Array.mem_of_getElem? ht
  rcases hd with rfl | rfl
  · exact (show Tryz.prog.wantsStandIn 53 = false by kernel_rfl)
  · exact (show Tryz.prog.wantsStandIn 53 = false by kernel_rfl)

theorem fnExactSameStore_proved : Rows.FnExactSameStoreCardSaid :=
  Claim7.holds_tied_plain_at .later [] _ _ _ _ fnExactSameStore_said (fun _ h => by cases h) (by kernel_rfl) (fun _ h => by cases h) fnExactSameStore_row_tie rfl ⟨rfl, rfl⟩ (by kernel_rfl) rfl fnExactSameStore_plain (by kernel_rfl)
#print axioms fnExactSameStore_proved
end Go.Proofs.YtocfggfccbnbhaaGreatDoor
