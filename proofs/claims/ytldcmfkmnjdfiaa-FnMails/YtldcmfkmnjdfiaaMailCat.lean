/- A panic of the reader's own value is caught; any reading is told whole or not. -/
import Derived.Test.YtldcmfkmnjdfiaaMailMl
import Derived.Defers
import Derived.Recover
namespace Go.Proofs.Ytldcmfkmnjdfiaa
open Go.RowKit

theorem assert_yes (W : World) : (Instr.typeAssert (.iface 97 (.agg #[])) 20 97 true).run Try.prog W = .ok (.tuple #[.agg #[], .bool true]) W := by kernel_rfl
theorem assert_nil (W : World) : (Instr.typeAssert .nilIface 20 97 true).run Try.prog W = .ok (.tuple #[.agg #[], .bool false]) W := by kernel_rfl

/-- Block k holds a word. -/
def Bwd (W : World) (k : Nat) (b : Bool) : Prop := W.heap[k]? = some (.cells #[.bool b] 4 (0, 0))
theorem Bwd.new (w : World) (b : Bool) : Bwd (w.alloc (.cells #[.bool b] 4)) w.heap.size b := heap_alloc_new w _
theorem Bwd.lt {W : World} {k : Nat} {b : Bool} (h : Bwd W k b) : k < W.heap.size := (Array.getElem?_eq_some_iff.1 h).1
theorem Bwd.later {W W' : World} {k : Nat} {b : Bool} (h : Bwd W k b) (hb : Below W.heap.size W W') : Bwd W' k b := (hb.block k h.lt).trans h
theorem Bwd.grown {W W' : World} {k : Nat} {b : Bool} {r : Option Nat} (h : Bwd W k b) (hg : W.grownBy W' r) (hk : some k ≠ r) : Bwd W' k b := (hg.block k h.lt hk).trans h
theorem Bwd.cell {W : World} {k : Nat} {b : Bool} (h : Bwd W k b) : W.cell? ⟨k, 0, none⟩ = some (.bool b) := cell_of_row W k 0 _ _ _ h
theorem Bwd.loose {W : World} {k : Nat} {b : Bool} (h : Bwd W k b) : W.frozen? ⟨k, 0, none⟩ = false := frozen_of_row W k 0 _ _ h
theorem Bwd.set {W : World} {k : Nat} {b : Bool} (h : Bwd W k b) (b' : Bool) : Bwd (W.setCell ⟨k, 0, none⟩ (.bool b')) k b' := heap_setCell_same W k 0 _ _ (.bool b') h

set_option maxRecDepth 100000 in
theorem catch_panic (kb : Nat) (b0 : Bool) (older : List PanicEntry) (w : World) (hb : Bwd w kb b0) :
    CallsD Try.prog 73 #[.pointer (some ⟨kb, 0, none⟩)] (.panicking ({ v := .iface 97 (.agg #[]), recovered := false } :: older)) w fun e u' w' =>
      e = .returned (.tuple #[]) ∧ u' = .panicking ({ v := .iface 97 (.agg #[]), recovered := true } :: older) ∧ w' = (w.alloc (.cells #[] 97)).setCell ⟨kb, 0, none⟩ (.bool false) := by
  have h1 := hb.later (bpush (bre w) (.cells #[] 97))
  have hc := h1.cell
  have hz := h1.loose
  refine callsD_of_wpS Try.func73 rfl fun c₀ cs hu => ?_
  apply wpS_seq
  apply wpS_region
  simp [wpOpsS, go_sem, recoverD, hu, Try.ntmps73, Exit.thenS, assert_yes]
  apply wpS_seq
  apply wpS_region
  simp [wpOpsS, go_sem, Exit.thenS]
  refine wpS_cond (t := true) (by simp [Act.eval, Array.replicate]) ?_
  simp only [if_true]
  apply wpS_region
  simp [wpOpsS, go_sem, hc, hz, bodyPostS, results, Try.results73]

set_option maxRecDepth 100000 in
theorem catch_idle (kb : Nat) (w : World) :
    CallsD Try.prog 73 #[.pointer (some ⟨kb, 0, none⟩)] .returning w fun e u' w' => e = .returned (.tuple #[]) ∧ u' = .returning ∧ w' = w.alloc (.cells #[] 97) := by
  refine callsD_of_wpS Try.func73 rfl fun c₀ cs hu => ?_
  apply wpS_seq
  apply wpS_region
  simp [wpOpsS, go_sem, recoverD, hu, Try.ntmps73, Exit.thenS, assert_nil]
  apply wpS_seq
  apply wpS_region
  simp [wpOpsS, go_sem, Exit.thenS]
  refine wpS_cond (t := false) (by simp [Act.eval, Array.replicate]) ?_
  simp only [Bool.false_eq_true, if_false]
  refine wpS_of_wp (wp_skip ?_)
  cases c₀
  simp_all [bodyPostS, results, Try.results73]
end Go.Proofs.Ytldcmfkmnjdfiaa
