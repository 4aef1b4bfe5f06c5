/- At every store StoreText of the program answers as the model; the store reads behind the call as it read before: for the laid table of the sums. -/
import Derived.Test.YtocfggfccbnbhaaGreatDoorCards
import Derived.Test.YtocfggfccbnbhaaGreatDoorTie
import Derived.WalkKit
import Derived.ProofKit
import Derived.OpenShut
import Derived.OpenVars
import Derived.ShutString
import Derived.ChangeOld
import Derived.Below
import Derived.Deep.DeepHandedRow
import Derived.Deep.DeepWitnessRowRef
import Derived.Lib.LaidTab
import Derived.Stop.LaidErr
import Derived.LaidMore
import Derived.Test.YtocfggfccbnbhaaGreatDoorW5
namespace Go.Proofs.YtocfggfccbnbhaaGreatDoor
open Go.ChangeShapes Go.WideShapes Go.ChangeAt Go.RowKit
open Go.ChangeMaps (open_string shut_string)
set_option linter.unusedVariables false

theorem fnExactStoreText_own : ownKnob Tryz.prog.godebug = none := by kernel_rfl
theorem fnExactStoreText_laidOut : laidOutB Tryz.prog = true := by kernel_rfl
theorem fnExactStoreText_gn : Tryz.prog.globalNamed "loop.example/g00324/impl.nibbleSteps" = some 0 := by kernel_rfl
theorem fnExactStoreText_gt : (Tryz.prog.globals[0]?).map (·.type) = some 233 := by kernel_rfl
theorem fnExactStoreText_cA : Tryz.prog.cellsOf 233 = 16 := by kernel_rfl
theorem fnExactStoreText_cE : Tryz.prog.cellsOf 115 = 1 := by kernel_rfl

theorem fnExactStoreText_table {W : World} (h : laidMetH Tryz.prog Rows.fnExactStoreTextRow.laid W) : Lib.TabIs Tryz.prog W "loop.example/g00324/impl.nibbleSteps" .u32 (tabW.map Int.ofNat) :=
  Lib.tabIs_of_head (rest := []) fnExactStoreText_gn fnExactStoreText_gt Tryz.underlying233 Tryz.underlying115 fnExactStoreText_cE fnExactStoreText_cA (show laidMet Tryz.prog Rows.fnExactStoreTextRow.laid W from h)

theorem fnExactStoreText_nib {W : World} (h : laidMetH Tryz.prog Rows.fnExactStoreTextRow.laid W) : Nib W := fun i hi => by
  rw [(fnExactStoreText_table h).cell fnExactStoreText_gn i hi]
  have : ∀ r : Fin 16, (tabW.map Int.ofNat).getD r.val 0 = ((tabW.getD r.val 0 : Nat) : Int) := by decide
  rw [this ⟨i, hi⟩]

theorem fnExactStoreText_glt {W : World} (h : laidMetH Tryz.prog Rows.fnExactStoreTextRow.laid W) : 0 < W.heap.size :=
  World.block_lt_of_cell? _ ⟨0, 0, none⟩ (fnExactStoreText_nib h 0 (by decide))

theorem u32_bounds {a : Int} (h : (Lit.int .u32 a).wf = true) : ∃ x : Nat, a = (x : Int) ∧ x < 4294967296 := by
  have hmin : IntKind.u32.min = 0 := rfl
  have hmax : IntKind.u32.max = 4294967295 := rfl
  simp only [Lit.wf, Bool.and_eq_true, decide_eq_true_eq] at h
  exact ⟨a.toNat, by omega, by omega⟩

theorem fnExactStoreText_laid_met (os : Os) : laidMet Tryz.prog Rows.fnExactStoreTextRow.laid ((World.doorLaid Tryz.prog 14 os).forCall (fun _ _ => 0) ⟨#[], #[.agg #[.int .i64 0, .int .i64 0, .slice none 0 0, .slice none 0 0]], []⟩).memory :=
  laidMet_of_run' 8 (by kernel_rfl) (by kernel_rfl)

set_option maxRecDepth 100000 in
theorem fnExactStoreText_contract (H : Type) (enc : TypeId × Value → H) (W : World) (base : Nat) (args : Array Value) (ds gs : List (DataW H)) (before : List MemPlace)
    (hval : ∀ (j : Nat) t v, Tryz.f4.params[j]? = some t → args[j]? = some v → Value.okWide Tryz.prog W .any base t v)
    (hW : DataW.Whole enc Tryz.prog Tryz.f4.params.toList Rows.fnExactStoreTextSpec.vars false W args.toList ds gs before) (hL : laidMetH Tryz.prog Rows.fnExactStoreTextRow.laid W) :
    Calls Tryz.prog 4 args W fun e W' => ∃ v, e = .returned v ∧ Rows.fnExactStoreTextSpec.post enc Tryz.prog Tryz.f4 false true false false W args v W' := by
  have hW' := hW
  obtain ⟨p, q, hA0, hV, rfl, hfz, hnd⟩ := hW
  have hA : DataW.TrodAll enc Tryz.prog W 0 (fun _ => true) true Tryz.f4.params.toList args.toList ds p := hA0
  rw [Tryz.params4] at hA hval
  obtain ⟨v0, vs0, d0, ds0, p0, q0, hargs0, rfl, rfl, h0, r0⟩ := trodAll_cons hA
  obtain ⟨rfl, rfl, rfl⟩ := trodAll_nil r0
  obtain rfl : args = #[v0] := by cases args; simp_all
  have hVs : DataW.TrodVars enc Tryz.prog W (fun _ => true) Rows.fnExactStoreTextSpec.vars gs q := hV
  obtain ⟨g1, t1, cs1, fuel1, d1, p1, rfl, hg1, ht1, hv1, hd1, rfl⟩ := trodVars_one hV
  have k0 := h0
  have lt0 : ∀ x ∈ p0, x.block < W.heap.size := by obtain ⟨m, hm⟩ := k0; exact DataW.trod_lt m _ _ _ hm
  obtain ⟨y0, tm0, ba0, bn0, bc0, ga0, gn0, gc0, S0, G0, rfl, hl0, hn0, hft0, hm0, hgl0, hgn0, hs0⟩ := openSo (hval 0 53 v0 rfl rfl) h0
  clear hA0
  refine (lawStoreText_any y0 tm0 ba0 bn0 bc0 ga0 gn0 gc0 S0 G0 W hl0 hn0 hft0 hm0 hgl0 hgn0 hs0 (fnExactStoreText_nib hL)).mono fun e W' ⟨he, bel⟩ => ?_
  subst he
  exact ⟨_, rfl, _, _, _, [], _, _, hW', trodAll_mk1 (shut_bool Tryz.underlying4 _), (trodAll_cons_mk (Below.trod fnExactStoreText_laidOut (by kernel_rfl) (of_decide_eq_true (by kernel_rfl)) k0 bel lt0) trodAll_mk0), Below.trodVars fnExactStoreText_laidOut bel (by kernel_rfl) hVs, bel.frame _, fun h => by cases h⟩

theorem fnExactStoreText_reads (os : Os) {H : Type} (enc : TypeId × Value → H) : DataW.whole enc Tryz.prog ((World.doorLaid Tryz.prog 14 os).forCall (fun _ _ => 0) ⟨#[], #[.agg #[.int .i64 0, .int .i64 0, .slice none 0 0, .slice none 0 0]], []⟩).memory Tryz.f4.params.toList Rows.fnExactStoreTextSpec.vars false (#[.agg #[.int .i64 0, .int .i64 0, .slice none 0 0, .slice none 0 0]] : Array Value).toList 8 = some ([.agg [.lit (.int .i64 0), .lit (.int .i64 0), .nil, .nil]], [Rows.laid_loop_example_g00324_impl_nibbleSteps], MemPlace.row ⟨0, 0, none⟩ 16) := by
  kernel_rfl

set_option maxRecDepth 100000 in
theorem fnExactStoreText_lifted (os : Os) (started : os.Started) (H : Type) (enc : TypeId × Value → H) (F : Stop.Interp) :
    ReturnsInHanded {} Tryz.checked os 4 .any ((OpenSpec.ofChange Rows.fnExactStoreTextSpec).preRow enc Tryz.prog Tryz.f4 Rows.fnExactStoreTextRow.domain false Rows.fnExactStoreTextRow.laid) (((OpenSpec.ofChange Rows.fnExactStoreTextSpec).at F).post enc Tryz.prog Tryz.f4 false true false false) := by
  have hx := fnExactStoreText_reads os enc
  refine returnsInHanded_of_row (C := Tryz.checked) (s := OpenSpec.ofChange Rows.fnExactStoreTextSpec) fnExactStoreText_own started (by kernel_rfl) Tryz.func4
    (witness_row_atRef (enc := enc) (C := Tryz.checked) false (World.doorLaid Tryz.prog 14 os) #[.agg #[.int .i64 0, .int .i64 0, .slice none 0 0, .slice none 0 0]] rfl (by kernel_rfl) (by kernel_rfl) (by kernel_rfl)
      (OpenSpec.preRow_of_cond 8 hx (by kernel_rfl) (fun k hk => by cases hk) (by kernel_rfl) (fnExactStoreText_laid_met os))) ?_
  intro W base args ds gs before hval hW _ _ _ hL _ _
  exact fnExactStoreText_contract H enc W base args ds gs before hval hW hL

theorem fnExactStoreText_said : Rows.FnExactStoreTextSaid :=
  OpenClaim.holds_of_cond 4 Tryz.f4 rfl rfl rfl rfl rfl rfl rfl ⟨rfl, rfl, rfl, rfl, rfl⟩ rfl rfl rfl rfl rfl (by kernel_rfl) Tryz.func4 (by kernel_rfl)
    (of_decide_eq_true (by kernel_rfl)) (by unfold Func.isWrapper; first | (rw [if_pos (by decide +kernel)]; kernel_rfl) | (rw [if_neg (by decide +kernel)]; exact ⟨rfl, rfl⟩))
    (fun os started H enc _ F => by rw [OpenClaim.pre_eq_preRow]; exact fnExactStoreText_lifted os started H enc F)

theorem fnExactStoreText_plain (f : FuncId) (fn : Func) (hf : Tryz.pinned.checked.prog.funcNamed "loop.example/g00324/laws.FnExactStoreText" = some f) (hfn : Tryz.pinned.checked.prog.funcs[f]? = some fn) :
    true = Tryz.pinned.checked.prog.looks [] ∧ ∀ (j : Nat) t, fn.params[j]? = some t → Tryz.pinned.checked.prog.wantsStandIn t = false := by
  obtain rfl : f = 4 := Option.some.inj ((show Tryz.prog.funcNamed "loop.example/g00324/laws.FnExactStoreText" = some 4 by kernel_rfl).symm.trans hf) |>.symm
  obtain rfl : fn = Tryz.f4 := (Option.some.inj (Tryz.func4.symm.trans hfn)).symm
  refine ⟨by kernel_rfl, fun j t ht => ?_⟩
  rw [Tryz.params4] at ht
  have hd : t = 53 := by simpa using Array.mem_of_getElem? ht
  rcases hd with rfl
  · exact (show Tryz.prog.wantsStandIn 53 = false by kernel_rfl)

theorem fnExactStoreText_proved : Rows.FnExactStoreTextCardSaid :=
  Claim7.holds_tied_plain_at .later [] _ _ _ _ fnExactStoreText_said (fun _ h => by cases h) (by kernel_rfl) (fun _ h => by cases h) fnExactStoreText_row_tie rfl ⟨rfl, rfl⟩ (by kernel_rfl) rfl fnExactStoreText_plain (by kernel_rfl)
#print axioms fnExactStoreText_proved
end Go.Proofs.YtocfggfccbnbhaaGreatDoor
