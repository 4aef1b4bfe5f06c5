/- For every []byte, FnPackets answers true: drawn packets come back from their texts, and what drawn links say, hear and put is what the document tells; the table nibbleSteps is as the program lays it. -/
import Derived.Test.YtnbobidpmiieiaaDoorCards
import Derived.Test.YtnbobidpmiieiaaDoorTie
import Derived.WalkKit
import Derived.ProofKit
import Derived.OpenShut
import Derived.OpenVars
import Derived.ShutString
import Derived.ChangeOld
import Derived.Below
import Derived.Deep.DeepHandedRow
import Derived.Deep.DeepWitnessRowRef
import Derived.Lib.LaidTab
import Derived.Stop.LaidErr
import Derived.LaidMore
import Derived.Test.YtnbobidpmiieiaaDoorV10
namespace Go.Proofs.YtnbobidpmiieiaaDoor
open Go.ChangeShapes Go.WideShapes Go.ChangeAt Go.RowKit
open Go.ChangeMaps (open_string shut_string)
set_option linter.unusedVariables false

theorem fnPackets_own : ownKnob Tryd.prog.godebug = none := by kernel_rfl
theorem fnPackets_laidOut : laidOutB Tryd.prog = true := by kernel_rfl
theorem fnPackets_gn : Tryd.prog.globalNamed "loop.example/g00324/impl.nibbleSteps" = some 0 := by kernel_rfl
theorem fnPackets_gt : (Tryd.prog.globals[0]?).map (·.type) = some 112 := by kernel_rfl
theorem fnPackets_cA : Tryd.prog.cellsOf 112 = 16 := by kernel_rfl
theorem fnPackets_cE : Tryd.prog.cellsOf 82 = 1 := by kernel_rfl

theorem fnPackets_table {W : World} (h : laidMetH Tryd.prog Rows.fnPacketsRow.laid W) : Lib.TabIs Tryd.prog W "loop.example/g00324/impl.nibbleSteps" .u32 (tabW.map Int.ofNat) :=
  Lib.tabIs_of_head (rest := []) fnPackets_gn fnPackets_gt Tryd.underlying112 Tryd.underlying82 fnPackets_cE fnPackets_cA (show laidMet Tryd.prog Rows.fnPacketsRow.laid W from h)

theorem fnPackets_nib {W : World} (h : laidMetH Tryd.prog Rows.fnPacketsRow.laid W) : Nib W := fun i hi => by
  rw [(fnPackets_table h).cell fnPackets_gn i hi]
  have : ∀ r : Fin 16, (tabW.map Int.ofNat).getD r.val 0 = ((tabW.getD r.val 0 : Nat) : Int) := by decide
  rw [this ⟨i, hi⟩]

theorem fnPackets_glt {W : World} (h : laidMetH Tryd.prog Rows.fnPacketsRow.laid W) : 0 < W.heap.size :=
  World.block_lt_of_cell? _ ⟨0, 0, none⟩ (fnPackets_nib h 0 (by decide))

theorem u32_bounds {a : Int} (h : (Lit.int .u32 a).wf = true) : ∃ x : Nat, a = (x : Int) ∧ x < 4294967296 := by
  have hmin : IntKind.u32.min = 0 := rfl
  have hmax : IntKind.u32.max = 4294967295 := rfl
  simp only [Lit.wf, Bool.and_eq_true, decide_eq_true_eq] at h
  exact ⟨a.toNat, by omega, by omega⟩
/-- A slice of integers that came in: it is nil, or it leads to a row of cells. -/
def IsRow (k : IntKind) (w : World) (a : Option Addr) (len cap : Nat) (zs : List Int) : Prop :=
  (a = none ∧ len = 0 ∧ cap = 0 ∧ zs = []) ∨
  ∃ x, a = some x ∧ len ≤ cap ∧ cap ≤ maxLen ∧ zs.length = cap ∧ (∀ i, i < zs.length → w.cell? (x.add i) = some (.int k (zs.getD i 0))) ∧ ∀ n ∈ zs, (Lit.int k n).wf = true

theorem IsRow.len {w : World} {a : Option Addr} {len cap : Nat} {zs : List Int} (h : IsRow .u8 w a len cap zs) : len ≤ maxLen := by
  rcases h with ⟨_, h, _, _⟩ | ⟨x, _, h1, h2, _⟩
  · rw [h]; exact Nat.zero_le _
  · exact Nat.le_trans h1 h2

theorem IsRow.code {w : World} {a : Option Addr} {len cap : Nat} {zs : List Int} (h : IsRow .u8 w a len cap zs) : Code w w.heap.size a len := by
  intro hn
  rcases h with ⟨_, h, _, _⟩ | ⟨x, ha, h1, h2, h3, h4, h5⟩
  · omega
  · obtain ⟨b, off, spot⟩ := x
    have hc := h4 0 (by omega)
    have hspot : spot = none := by simpa [Addr.add] using World.cell?_spot hc
    subst hspot
    refine ⟨b, off, ha, World.block_lt_of_cell? _ _ hc, fun j hj => ?_⟩
    have hj' := h4 j (by omega)
    have hw := h5 (zs.getD j 0) (by rw [List.getD_eq_getElem?_getD, List.getElem?_eq_getElem (by omega)]; exact List.getElem_mem _)
    have hmin : IntKind.u8.min = 0 := rfl
    have hmax : IntKind.u8.max = 255 := rfl
    simp only [Lit.wf, Bool.and_eq_true, decide_eq_true_eq] at hw
    refine ⟨(zs.getD j 0).toNat, by omega, ?_⟩
    rw [show ((zs.getD j 0).toNat : Int) = zs.getD j 0 from by omega]
    rw [show (⟨b, off, none⟩ : Addr).add j = ⟨b, off + j, none⟩ from by by_cases h0 : j = 0 <;> simp [Addr.add, h0]] at hj'
    exact hj'

theorem fnPackets_laid_met (os : Os) : laidMet Tryd.prog Rows.fnPacketsRow.laid ((World.doorLaid Tryd.prog 14 os).forCall (fun _ _ => 0) ⟨#[], #[.slice none 0 0], []⟩).memory :=
  laidMet_of_run' 8 (by kernel_rfl) (by kernel_rfl)

set_option maxRecDepth 100000 in
theorem fnPackets_contract (H : Type) (enc : TypeId × Value → H) (W : World) (base : Nat) (args : Array Value) (ds gs : List (DataW H)) (before : List MemPlace)
    (hval : ∀ (j : Nat) t v, Tryd.f3.params[j]? = some t → args[j]? = some v → Value.okWide Tryd.prog W .any base t v)
    (hW : DataW.Whole enc Tryd.prog Tryd.f3.params.toList Rows.fnPacketsSpec.vars false W args.toList ds gs before) (hL : laidMetH Tryd.prog Rows.fnPacketsRow.laid W) :
    Calls Tryd.prog 3 args W fun e W' => ∃ v, e = .returned v ∧ Rows.fnPacketsSpec.post enc Tryd.prog Tryd.f3 false true false false W args v W' := by
  have hW' := hW
  obtain ⟨p, q, hA0, hV, rfl, hfz, hnd⟩ := hW
  have hA : DataW.TrodAll enc Tryd.prog W 0 (fun _ => true) true Tryd.f3.params.toList args.toList ds p := hA0
  rw [Tryd.params3] at hA hval
  obtain ⟨v0, vs0, d0, ds0, p0, q0, hargs0, rfl, rfl, h0, r0⟩ := trodAll_cons hA
  obtain ⟨rfl, rfl, rfl⟩ := trodAll_nil r0
  obtain rfl : args = #[v0] := by cases args; simp_all
  have hVs : DataW.TrodVars enc Tryd.prog W (fun _ => true) Rows.fnPacketsSpec.vars gs q := hV
  obtain ⟨gV, tV, csV, fuelV, dV, pV, rfl, hgV, htV, hvV, hdV, rfl⟩ := trodVars_one hV
  obtain ⟨a0, len0, cap0, rfl⟩ := okWide_slice Tryd.underlying22 (hval 0 22 v0 rfl rfl)
  have k0 := h0
  have lt0 : ∀ x ∈ p0, x.block < W.heap.size := by obtain ⟨m, hm⟩ := k0; exact DataW.trod_lt m _ _ _ hm
  obtain ⟨z0, w0⟩ : ∃ zs, IsRow .u8 W a0 len0 cap0 zs := by
    obtain ⟨fuel, hf⟩ := h0
    rcases open_ints Tryd.underlying22 Tryd.underlying5 (by kernel_rfl) hf with ⟨hcs, _⟩ | ⟨x, l, c, zs, hcs, _, hl, hm, hz, _, hcell, hwz⟩
    · simp [Value.cells] at hcs
      obtain ⟨rfl, rfl, rfl⟩ := hcs
      exact ⟨[], .inl ⟨rfl, rfl, rfl, rfl⟩⟩
    · simp [Value.cells] at hcs
      obtain ⟨rfl, rfl, rfl⟩ := hcs
      exact ⟨zs, .inr ⟨_, rfl, hl, hm, by simpa using hz, hcell, hwz⟩⟩
  clear hA0
  refine (fnPackets_any a0 len0 cap0 W w0.code (fnPackets_nib hL)).mono fun e W' ⟨he, bel⟩ => ?_
  subst he
  exact ⟨_, rfl, _, _, _, [], _, _, hW', trodAll_mk1 (shut_bool Tryd.underlying4 _), (trodAll_cons_mk (Below.trod fnPackets_laidOut (by kernel_rfl) (of_decide_eq_true (by kernel_rfl)) k0 bel lt0) trodAll_mk0), Below.trodVars fnPackets_laidOut bel (by kernel_rfl) hVs, bel.frame _, fun h => by cases h⟩

theorem fnPackets_reads (os : Os) {H : Type} (enc : TypeId × Value → H) : DataW.whole enc Tryd.prog ((World.doorLaid Tryd.prog 14 os).forCall (fun _ _ => 0) ⟨#[], #[.slice none 0 0], []⟩).memory Tryd.f3.params.toList Rows.fnPacketsSpec.vars false (#[.slice none 0 0] : Array Value).toList 8 = some ([.nil], [Rows.laid_loop_example_g00324_impl_nibbleSteps], MemPlace.row ⟨0, 0, none⟩ 16) := by
  kernel_rfl

set_option maxRecDepth 100000 in
theorem fnPackets_lifted (os : Os) (started : os.Started) (H : Type) (enc : TypeId × Value → H) (F : Stop.Interp) :
    ReturnsInHanded {} Tryd.checked os 3 .any ((OpenSpec.ofChange Rows.fnPacketsSpec).preRow enc Tryd.prog Tryd.f3 Rows.fnPacketsRow.domain false Rows.fnPacketsRow.laid) (((OpenSpec.ofChange Rows.fnPacketsSpec).at F).post enc Tryd.prog Tryd.f3 false true false false) := by
  have hx := fnPackets_reads os enc
  refine returnsInHanded_of_row (C := Tryd.checked) (s := OpenSpec.ofChange Rows.fnPacketsSpec) fnPackets_own started (by kernel_rfl) Tryd.func3
    (witness_row_atRef (enc := enc) (C := Tryd.checked) false (World.doorLaid Tryd.prog 14 os) #[.slice none 0 0] rfl (by kernel_rfl) (by kernel_rfl) (by kernel_rfl)
      (OpenSpec.preRow_of_cond 8 hx (by kernel_rfl) (fun k hk => by cases hk) (by kernel_rfl) (fnPackets_laid_met os))) ?_
  intro W base args ds gs before hval hW _ _ _ hL _ _
  exact fnPackets_contract H enc W base args ds gs before hval hW hL

theorem fnPackets_said : Rows.FnPacketsSaid :=
  OpenClaim.holds_of_cond 3 Tryd.f3 rfl rfl rfl rfl rfl rfl rfl ⟨rfl, rfl, rfl, rfl, rfl⟩ rfl rfl rfl rfl rfl (by kernel_rfl) Tryd.func3 (by kernel_rfl)
    (of_decide_eq_true (by kernel_rfl)) (by unfold Func.isWrapper; first | (rw [if_pos (by decide +kernel)]; kernel_rfl) | (rw [if_neg (by decide +kernel)]; exact ⟨rfl, rfl⟩))
    (fun os started H enc _ F => by rw [OpenClaim.pre_eq_preRow]; exact fnPackets_lifted os started H enc F)

theorem fnPackets_plain (f : FuncId) (fn : Func) (hf : Tryd.pinned.checked.prog.funcNamed "loop.example/g00324/laws.FnPackets" = some f) (hfn : Tryd.pinned.checked.prog.funcs[f]? = some fn) :
    true = Tryd.pinned.checked.prog.looks [] ∧ ∀ (j : Nat) t, fn.params[j]? = some t → Tryd.pinned.checked.prog.wantsStandIn t = false := by
  obtain rfl : f = 3 := Option.some.inj ((show Tryd.prog.funcNamed "loop.example/g00324/laws.FnPackets" = some 3 by kernel_rfl).symm.trans hf) |>.symm
  obtain rfl : fn = Tryd.f3 := (Option.some.inj (Tryd.func3.symm.trans hfn)).symm
  refine ⟨by kernel_rfl, fun j t ht => ?_⟩
  rw [Tryd.params3] at ht
  have hd : t = 22 := by simpa using Array.mem_of_getElem? ht
  rcases hd with rfl
  · exact (show Tryd.prog.wantsStandIn 22 = false by kernel_rfl)

theorem fnPackets_proved : Rows.FnPacketsCardSaid :=
  Claim7.holds_tied_plain_at .later [] _ _ _ _ fnPackets_said (fun _ h => by cases h) (by kernel_rfl) (fun _ h => by cases h) fnPackets_row_tie rfl ⟨rfl, rfl⟩ (by kernel_rfl) rfl fnPackets_plain (by kernel_rfl)
#print axioms fnPackets_proved
end Go.Proofs.YtnbobidpmiieiaaDoor
