/- The numbers of a map as they come, one by one, in whatever order. -/
import Derived.Test.YtmpcmllfgogegaaGma
import Derived.RangeFuncNested
import Derived.RangeFuncBound
import Derived.RangeFuncCalls
import Derived.RangeFuncLeaves
import Derived.RangeFuncBox
import Derived.Shelf.Abstract
import Derived.WalkKit
import Derived.OwnWalkIn
import Derived.TacticsInMore
import Derived.LoopNIn
import Derived.LoopIn
import Derived.Maps.AppendAt
namespace Go.Proofs.Ytmpcmllfgogegaa
open Go.RowKit Go.Shelf Go.ChangeMaps

attribute [local go_sem] Oper.semAt_some

/-- The numbers that have not come yet. -/
def lfI (E : List Ei) (seen : Array Nat) : List Ei := E.filter (fun e => !seen.contains e.2)
theorem lfi_of (E : List Ei) (seen : Array Nat) : leftOf (E.map enti).toArray seen = ((lfI E seen).map enti).toArray := by
  unfold leftOf lfI
  apply Array.ext'
  simp only [Array.toList_filter, List.filter_map]
  rfl
theorem lfi_push (E : List Ei) (seen : Array Nat) (b : Nat) : lfI E (seen.push b) = (lfI E seen).filter (fun e => !(e.2 == b)) := by
  unfold lfI
  rw [List.filter_filter]
  apply List.filter_congr
  intro e _
  simp only [Array.contains_push, Bool.not_or]
  rw [Bool.and_comm]
theorem permi_out (R : List Ei) (e : Ei) (he : e ∈ R) (hn : (R.map (·.2)).Nodup) : (e :: R.filter (fun x => !(x.2 == e.2))).Perm R := by
  induction R with
  | nil => cases he
  | cons x R ih =>
    rw [List.map_cons, List.nodup_cons] at hn
    rcases List.mem_cons.1 he with rfl | he
    · have hf : (e :: R).filter (fun x => !(x.2 == e.2)) = R := by
        rw [List.filter_cons_of_neg (by simp), List.filter_eq_self.2]
        intro y hy
        have : y.2 ≠ e.2 := fun h => hn.1 (h ▸ List.mem_map.2 ⟨y, hy, rfl⟩)
        simpa using this
      rw [hf]
    · have hx : x.2 ≠ e.2 := fun h => hn.1 (h ▸ List.mem_map.2 ⟨e, he, rfl⟩)
      rw [List.filter_cons_of_pos (by simpa using hx)]
      exact (List.Perm.swap x e _).trans ((ih he hn.2).cons x)
theorem lfi_nodup {E : List Ei} (h : (E.map (·.2)).Nodup) (seen : Array Nat) : ((lfI E seen).map (·.2)).Nodup :=
  List.Nodup.sublist (List.Sublist.map _ List.filter_sublist) h

/-- How many are left, read off the world. -/
def lfti (b r : Nat) (W : World) : Nat :=
  match W.heap[r]?, W.heap[b]? with
  | some (.mapIter _ _ seen _), some (.map es _) => (leftOf es seen).size
  | _, _ => 0

set_option maxRecDepth 100000 in
set_option maxHeartbeats 4000000 in
theorem values1i_in (F : Fence) (n : Nat) (h7 : F.fn 25) (hro : F.round = none) (hn : 1 ≤ n) (l Bm b c : Nat) (E : List Ei) (J Jx : List { e : Ei // e ∈ E } → World → Prop)
    (hY : ∀ pre x W, J pre W → pre.length < E.length → YieldAt F (n - 1) Try.prog l #[.int .i64 x.1.1] W fun e W' =>
      (e = .returned (.bool true) ∧ J (pre ++ [x]) W' ∧ KeepsWalks W W') ∨ (e = .returned (.bool false) ∧ Jx (pre ++ [x]) W'))
    (W : World) (hJ : AbidesFrom W.heap.size J) (hm : W.cell? ⟨Bm, 0, none⟩ = some (.map (some b))) (hlies : W.heap[b]? = some (.map (E.map enti).toArray c)) (hold : ∀ e ∈ E, e.2 < c) (hbir : (E.map (·.2)).Nodup) (h0 : J [] W) :
    CallsIn F n Try.prog 25 #[.func (.yield l) #[] #[], .pointer (some ⟨Bm, 0, none⟩)] W fun e W' => (∃ v, e = .returned v) ∧
      ((∃ xs, ((xs.map (·.1)).Perm E) ∧ J xs W') ∨ (∃ pre, True ∧ Jx pre W')) := by
  have hrg := run_range_gm hlies
  have hblt : b < W.heap.size := (Array.getElem?_eq_some_iff.1 hlies).1
  have HLI := hid hlies
  have HY := hid hY
  have HJ := hid hJ
  have H0 := hid h0
  have HBL := hid hblt
  have HOL : Hid (∀ x ∈ ((E.map enti).toArray).toList, x.born < c) := by
    intro x hx
    rw [List.toList_toArray] at hx
    obtain ⟨e, he, rfl⟩ := List.mem_map.1 hx
    exact hold e he
  have HBN : Hid ((((E.map enti).toArray).toList.map (·.born)).Nodup) := by
    show List.Nodup _
    rw [List.toList_toArray, List.map_map]
    exact hbir
  have HBI := hid hbir
  clear hlies hY hJ h0 hblt hold hbir
  refine callsIn_of_wp Try.func25 rfl h7 ?_ hro
  simp only [Try.ntmps25, List.size_toArray, List.length_cons, List.length_nil, Nat.reduceAdd, Nat.reduceSub, Array.replicate_succ, Array.replicate_zero, List.push_toArray, List.append_toArray, List.nil_append, List.cons_append]
  gi_wp2
  clear hrg hm
  gi_loopw [7] (fun _ wr => ∃ (seen : Array Nat) (ps : List { e : Ei // e ∈ E }), wr.heap[W.heap.size]? = some (.mapIter (some b) c seen c) ∧ wr.heap[b]? = some (.map (E.map enti).toArray c) ∧ (ps.map (·.1) ++ lfI E seen).Perm E ∧ J ps wr)
    (fun _ wr => lfti b W.heap.size wr)
  case atStart =>
    refine ⟨#[], [], heap_alloc_new W _, (Below.heap_alloc _ _ b HBL.out).trans HLI.out, ?_, HJ.out [] W _ none H0.out (World.grownBy_alloc W _ none) (fun r e => by cases e)⟩
    have : lfI E #[] = E := by unfold lfI; rw [List.filter_eq_self.2]; simp
    rw [this]; exact List.Perm.refl _
  case round =>
    obtain ⟨seen, ps, hr, hb, hP, hJs⟩ := hrel
    have HR := hid hr
    have HB := hid hb
    have HP := hid hP
    have HJS := hid hJs
    have hnx := run_next_at (P := Try.prog) wr 0 W.heap.size b c c seen (E.map enti).toArray c hr hb HOL.out (Nat.le_refl _)
    rw [lfi_of] at hnx
    clear hr hb hP hJs
    rcases hnx with ⟨hz, hrun⟩ | ⟨e, he, w1, hw1, hrun⟩
    · have HZ : Hid (lfI E seen = []) := by
        show _ = _
        rw [List.size_toArray, List.length_map] at hz
        exact List.eq_nil_of_length_eq_zero hz
      clear hz
      gi_wp2
      go_end0
      refine ⟨⟨_, rfl⟩, .inl ⟨ps, ?_, HJS.out⟩⟩
      have := HP.out
      rwa [HZ.out, List.append_nil] at this
    · rw [List.toList_toArray] at he
      obtain ⟨x, hx, rfl⟩ := List.mem_map.1 he
      have hxE : x ∈ E := (List.mem_filter.1 hx).1
      have HXL := hid hx
      have hwh : w1.heap = wr.heap := by rcases hw1 with rfl | rfl <;> rfl
      have hr1 : w1.heap[W.heap.size]? = some (.mapIter (some b) c seen c) := by rw [hwh]; exact HR.out
      obtain ⟨W2, hW2⟩ : ∃ W2, setBlock w1 W.heap.size (.mapIter (some b) c (seen.push x.2) c) = W2 := ⟨_, rfl⟩
      have hg2 : wr.grownBy W2 (some W.heap.size) := by
        subst hW2
        have hlt := (Array.getElem?_eq_some_iff.1 hr1).1
        refine ⟨?_, ?_, ?_, ?_, ?_⟩
        · rcases hw1 with rfl | rfl <;> rfl
        · rcases hw1 with rfl | rfl <;> rfl
        · rcases hw1 with rfl | rfl <;> rfl
        · simp [setBlock, hwh]
        · intro k hk hne
          simp only [setBlock, hwh]
          exact Array.getElem?_setIfInBounds_ne (fun e => hne (by rw [e]))
      have hr2 : W2.heap[W.heap.size]? = some (.mapIter (some b) c (seen.push x.2) c) := by
        subst hW2
        simp only [setBlock]
        rw [Array.getElem?_setIfInBounds_self_of_lt (Array.getElem?_eq_some_iff.1 hr1).1]
      have hb2 : W2.heap[b]? = some (.map (E.map enti).toArray c) := (hg2.block b (Array.getElem?_eq_some_iff.1 HB.out).1 (fun e => by have := HBL.out; simp at e; omega)).trans HB.out
      have hen := run_entry_at (P := Try.prog) W2 W.heap.size b c seen (E.map enti).toArray c (enti x) hr2 hb2 (by rw [List.toList_toArray]; exact List.mem_map.2 ⟨x, hxE, rfl⟩) HBN.out
      have hJ2 : J ps W2 := HJ.out ps wr W2 (some W.heap.size) HJS.out hg2 (fun r e => by cases e; exact ⟨Nat.le_refl _, _, HR.out, rfl⟩)
      have hrun' : (Instr.next (.pointer (some ⟨W.heap.size, 0, none⟩)) false 0).run Try.prog wr = .ok (.tuple #[.bool true, .int .i64 x.1, .int .i64 x.1]) W2 := by rw [← hW2]; exact hrun
      have hen' : (Instr.entry (.pointer (some ⟨W.heap.size, 0, none⟩))).run Try.prog W2 = .ok (.tuple #[.int .i64 x.1, .int .i64 x.1]) W2 := hen
      have HR2 := hid hr2
      have HB2 := hid hb2
      have HJ2 := hid hJ2
      have HXE := hid hxE
      clear hrun hen hr2 hb2 hJ2 hg2 hW2 hr1 hwh hw1 hx he w1
      obtain ⟨g, bo⟩ := x
      have hlen : ps.length < E.length := by
        have h1 := HP.out.length_eq
        have h2 : 0 < (lfI E seen).length := List.length_pos_of_mem HXL.out
        rw [List.length_append, List.length_map] at h1
        omega
      obtain ⟨fn, tmps, assign, body, hy, hR⟩ := HY.out ps ⟨(g, bo), HXE.out⟩ W2 HJ2.out hlen
      dsimp only at hy hrun' hen'
      have HRR := hid hR
      clear hlen hR
      gi_wp2
      refine HRR.out.mono ?_
      rintro e W4 (⟨rfl, hJ4, hk4⟩ | ⟨rfl, hJx4⟩)
      · have hr4 := hk4.same _ _ HR2.out rfl
        have hb4 := hk4.same _ _ HB2.out rfl
        have hP4 : ((ps ++ [(⟨(g, bo), HXE.out⟩ : { e : Ei // e ∈ E })]).map (fun e => e.1) ++ lfI E (seen.push bo)).Perm E := by
          rw [lfi_push, List.map_append, List.append_assoc]
          refine List.Perm.trans (List.Perm.append_left _ ?_) HP.out
          exact permi_out _ _ HXL.out (lfi_nodup HBI.out seen)
        have HM : Hid (lfti b W.heap.size W4 < lfti b W.heap.size wr) := by
          show _ < _
          unfold lfti
          rw [hr4, hb4, HR.out, HB.out]
          dsimp only
          rw [lfi_of, lfi_of, List.size_toArray, List.size_toArray, List.length_map, List.length_map, lfi_push]
          have := (permi_out _ _ HXL.out (lfi_nodup HBI.out seen)).length_eq
          rw [List.length_cons] at this
          exact Nat.lt_of_succ_le (Nat.le_of_eq this)
        have HR4 := hid hr4
        have HB4 := hid hb4
        have HP4 := hid hP4
        have HJ4 := hid hJ4
        clear hr4 hb4 hP4 hk4 hJ4 hrun' hen' hy
        gi_wp2
        go_roundw
        case rel => exact ⟨_, _, HR4.out, HB4.out, HP4.out, HJ4.out⟩
        case measure => exact HM.out
      · have HX4 := hid hJx4
        clear hJx4 hrun' hen' hy
        gi_wp2
        refine bodyPost_ret (results_none rfl _ _ _) rfl ?_
        exact ⟨⟨_, rfl⟩, .inr ⟨_, trivial, HX4.out⟩⟩
end Go.Proofs.Ytmpcmllfgogegaa
