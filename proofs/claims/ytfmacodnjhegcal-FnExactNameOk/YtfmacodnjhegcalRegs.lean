/- Registers: put, joined, held against each other. -/
import Derived.Test.YtfmacodnjhegcalStamp
namespace Go.Proofs.Ytfmacodnjhegcal
open Go.RowKit

theorem registerOf_b (v t b : Int) (w : World) :
    Calls Try.prog 68 #[.agg #[.int .i64 v, .int .i64 t, .int .i64 b]] w fun e w' => e = .returned (.agg #[.int .i64 t, .int .i64 b, .int .i64 v]) ∧ Below w.heap.size w w' :=
  (registerOf_any v t b w).mono fun _ _ h => ⟨h.1, h.2 ▸ bpush (bpush (bre _) _) _⟩

def jreg (v t b v' t' b' : Int) : Value := if cb v' t' b' v t b = true then rgv v' t' b' else rgv v t b

theorem cb_letter (v t b v' t' b' : Int) : ∃ p : Bool, Hid (p = cb v t b v' t' b') ∧ Hid (∀ w, Calls Try.prog 72 #[.agg #[.int .i64 t, .int .i64 b, .int .i64 v], .agg #[.int .i64 t', .int .i64 b', .int .i64 v']] w fun e w' => e = .returned (.bool p) ∧ Below w.heap.size w w') := ⟨_, rfl, countsBefore_any v t b v' t' b'⟩

/-- Block k holds a register; a stamp. -/
def Rg (W : World) (k ty : Nat) (v t b : Int) : Prop := W.heap[k]? = some (.cells #[.int .i64 v, .int .i64 t, .int .i64 b] ty (0, 0))
def Sg (W : World) (k ty : Nat) (t b : Int) : Prop := W.heap[k]? = some (.cells #[.int .i64 t, .int .i64 b] ty (0, 0))
theorem Rg.new (w : World) (ty : Nat) (v t b : Int) : Rg (w.alloc (.cells #[.int .i64 v, .int .i64 t, .int .i64 b] ty)) w.heap.size ty v t b := heap_alloc_new w _
theorem Rg.newd (w : World) (ty : Nat) (v t b : Int) : Rg (w.alloc (.cells #[.int .i64 v, .int .i64 t, .int .i64 b] ty)).drew w.heap.size ty v t b := heap_alloc_new w _
theorem Sg.new (w : World) (ty : Nat) (t b : Int) : Sg (w.alloc (.cells #[.int .i64 t, .int .i64 b] ty)) w.heap.size ty t b := heap_alloc_new w _
theorem Rg.later {W W' : World} {k ty : Nat} {v t b : Int} (h : Rg W k ty v t b) (hb : Below W.heap.size W W') : Rg W' k ty v t b := (hb.block k (Array.getElem?_eq_some_iff.1 h).1).trans h
theorem Sg.later {W W' : World} {k ty : Nat} {t b : Int} (h : Sg W k ty t b) (hb : Below W.heap.size W W') : Sg W' k ty t b := (hb.block k (Array.getElem?_eq_some_iff.1 h).1).trans h
theorem Rg.lt {W : World} {k ty : Nat} {v t b : Int} (h : Rg W k ty v t b) : k < W.heap.size := (Array.getElem?_eq_some_iff.1 h).1
theorem Sg.lt {W : World} {k ty : Nat} {t b : Int} (h : Sg W k ty t b) : k < W.heap.size := (Array.getElem?_eq_some_iff.1 h).1
theorem Rg.cells {W : World} {k ty : Nat} {v t b : Int} (h : Rg W k ty v t b) : W.cell? ⟨k, 0, none⟩ = some (.int .i64 v) ∧ W.cell? ⟨k, 1, none⟩ = some (.int .i64 t) ∧ W.cell? ⟨k, 2, none⟩ = some (.int .i64 b) :=
  ⟨cell_of_row W k 0 _ _ _ h, cell_of_row W k 1 _ _ _ h, cell_of_row W k 2 _ _ _ h⟩
theorem Sg.cells {W : World} {k ty : Nat} {t b : Int} (h : Sg W k ty t b) : W.cell? ⟨k, 0, none⟩ = some (.int .i64 t) ∧ W.cell? ⟨k, 1, none⟩ = some (.int .i64 b) :=
  ⟨cell_of_row W k 0 _ _ _ h, cell_of_row W k 1 _ _ _ h⟩
theorem Rg.loose {W : World} {k ty : Nat} {v t b : Int} (h : Rg W k ty v t b) : W.frozen? ⟨k, 0, none⟩ = false ∧ W.frozen? ⟨k, 1, none⟩ = false ∧ W.frozen? ⟨k, 2, none⟩ = false :=
  ⟨frozen_of_row W k 0 _ _ h, frozen_of_row W k 1 _ _ h, frozen_of_row W k 2 _ _ h⟩

/-- A register is stored whole. -/
def set3 (W : World) (k : Nat) (v t b : Int) : World := ((W.setCell ⟨k, 0, none⟩ (.int .i64 v)).setCell ⟨k, 1, none⟩ (.int .i64 t)).setCell ⟨k, 2, none⟩ (.int .i64 b)
def set2 (W : World) (k : Nat) (t b : Int) : World := (W.setCell ⟨k, 0, none⟩ (.int .i64 t)).setCell ⟨k, 1, none⟩ (.int .i64 b)
theorem Rg.set {W : World} {k ty : Nat} {v t b v' t' b' : Int} (h : Rg W k ty v t b) : Rg (set3 W k v' t' b') k ty v' t' b' := by
  have h1 := heap_setCell_same W k 0 _ _ (.int .i64 v') h
  have h2 := heap_setCell_same _ k 1 _ _ (.int .i64 t') h1
  have h3 := heap_setCell_same _ k 2 _ _ (.int .i64 b') h2
  exact h3
theorem Rg.set' {W : World} {k ty : Nat} {v t b v' t' b' : Int} (h : Rg W k ty v t b) : Rg (((W.setCell ⟨k, 0, none⟩ (.int .i64 v')).setCell ⟨k, 1, none⟩ (.int .i64 t')).setCell ⟨k, 2, none⟩ (.int .i64 b')) k ty v' t' b' := h.set
theorem Sg.set' {W : World} {k ty : Nat} {t b t' b' : Int} (h : Sg W k ty t b) : Sg ((W.setCell ⟨k, 0, none⟩ (.int .i64 t')).setCell ⟨k, 1, none⟩ (.int .i64 b')) k ty t' b' := by
  have h1 := heap_setCell_same W k 0 _ _ (.int .i64 t') h
  have h2 := heap_setCell_same _ k 1 _ _ (.int .i64 b') h1
  exact h2
theorem Sg.set {W : World} {k ty : Nat} {t b t' b' : Int} (h : Sg W k ty t b) : Sg (set2 W k t' b') k ty t' b' := by
  have h1 := heap_setCell_same W k 0 _ _ (.int .i64 t') h
  have h2 := heap_setCell_same _ k 1 _ _ (.int .i64 b') h1
  exact h2
theorem bset' {a w u : World} (h : Below a.heap.size a w) (hu : Below a.heap.size a u) (i : Nat) (x : Value) : Below a.heap.size a (w.setCell ⟨u.heap.size, i, none⟩ x) := bset h hu.size x
theorem bset3 {a w : World} (h : Below a.heap.size a w) {k : Nat} (hk : a.heap.size ≤ k) (v t b : Int) : Below a.heap.size a (set3 w k v t b) := bset (bset (bset h hk _) hk _) hk _
theorem bset2 {a w : World} (h : Below a.heap.size a w) {k : Nat} (hk : a.heap.size ≤ k) (t b : Int) : Below a.heap.size a (set2 w k t b) := bset (bset h hk _) hk _

theorem joinReg_any (v t b v' t' b' : Int) (w : World) :
    Calls Try.prog 56 #[.agg #[.int .i64 v, .int .i64 t, .int .i64 b], .agg #[.int .i64 v', .int .i64 t', .int .i64 b']] w fun e w' => e = .returned (jreg v t b v' t' b') ∧ Below w.heap.size w w' := by
  obtain ⟨p, hp, cp⟩ := cb_letter v' t' b' v t b
  have hs : Hid (jreg v t b v' t' b' = if p = true then rgv v' t' b' else rgv v t b) := by show _ = _; rw [hp.out]; rfl
  rw [hs.out]
  obtain ⟨W0, hW0⟩ : ∃ W0, ((w.alloc (.cells #[.int .i64 v, .int .i64 t, .int .i64 b] 51)).alloc (.cells #[.int .i64 v', .int .i64 t', .int .i64 b'] 51)).alloc (.cells #[.int .i64 0, .int .i64 0, .int .i64 0] 51) = W0 := ⟨_, rfl⟩
  have A0 : Hid (Rg W0 w.heap.size 51 v t b) := by subst hW0; exact (Rg.new w 51 v t b).later (bpush (bpush (bre _) _) _)
  have A1 : Hid (Rg W0 (w.heap.size + 1) 51 v' t' b') := by subst hW0; exact Rg.later (by simpa using Rg.new (w.alloc (.cells #[.int .i64 v, .int .i64 t, .int .i64 b] 51)) 51 v' t' b') (bpush (bre _) _)
  have A2 : Hid (Rg W0 (w.heap.size + 1 + 1) 51 0 0 0) := by subst hW0; show Rg _ _ _ _ _ _; simpa using Rg.new ((w.alloc (.cells #[.int .i64 v, .int .i64 t, .int .i64 b] 51)).alloc (.cells #[.int .i64 v', .int .i64 t', .int .i64 b'] 51)) 51 0 0 0
  have B0 : Hid (Below w.heap.size w W0) := by subst hW0; exact bpush (bpush (bpush (bre _) _) _) _
  go_enter Try.func56, Try.ntmps56
  go_wp2_with fail
  clear hW0
  have HS : Hid (∀ W, Below W0.heap.size W0 W → (W.cell? ⟨w.heap.size, 0, none⟩ = some (.int .i64 v) ∧ W.cell? ⟨w.heap.size, 1, none⟩ = some (.int .i64 t) ∧ W.cell? ⟨w.heap.size, 2, none⟩ = some (.int .i64 b)) ∧ (W.cell? ⟨w.heap.size + 1, 0, none⟩ = some (.int .i64 v') ∧ W.cell? ⟨w.heap.size + 1, 1, none⟩ = some (.int .i64 t') ∧ W.cell? ⟨w.heap.size + 1, 2, none⟩ = some (.int .i64 b'))) :=
    fun W h => ⟨(A0.out.later h).cells, (A1.out.later h).cells⟩
  go_region_held3 (fun W => (W.cell? ⟨w.heap.size, 0, none⟩ = some (.int .i64 v) ∧ W.cell? ⟨w.heap.size, 1, none⟩ = some (.int .i64 t) ∧ W.cell? ⟨w.heap.size, 2, none⟩ = some (.int .i64 b)) ∧ (W.cell? ⟨w.heap.size + 1, 0, none⟩ = some (.int .i64 v') ∧ W.cell? ⟨w.heap.size + 1, 1, none⟩ = some (.int .i64 t') ∧ W.cell? ⟨w.heap.size + 1, 2, none⟩ = some (.int .i64 b')))
    ((refine HS.out _ ?_; repeat (first | exact bdr (bre _) | refine btr ?_ (by assumption))))
    ((first
      | (go_at_call 72; refine (cp.out _).mono ?_; rintro e w1 ⟨rfl, hb1⟩)
      | (go_at_call 68; refine (registerOf_b _ _ _ _).mono ?_; rintro e w1 ⟨rfl, hb1⟩)))
  have B1 : Hid (Below W0.heap.size W0 w1) := by show Below _ _ _; repeat (first | exact bdr (bre _) | refine btr ?_ (by assumption))
  have d2 := (A2.out.later B1.out).cells
  have f2 := (A2.out.later B1.out).loose
  cases p
  · go_wp2
    have c3 := (A2.out.later B1.out).set (v' := v) (t' := t) (b' := b) |>.cells
    exact bodyPost_ret (v := rgv v t b) (by simp only [set3] at c3; simp [results, Try.results56, go_sem, c3]) rfl ⟨rfl, bset3 (btr B0.out B1.out) (by omega) v t b⟩
  · go_wp2
    have c3 := (A2.out.later B1.out).set (v' := v') (t' := t') (b' := b') |>.cells
    exact bodyPost_ret (v := rgv v' t' b') (by simp only [set3] at c3; simp [results, Try.results56, go_sem, c3]) rfl ⟨rfl, bset3 (btr B0.out B1.out) (by omega) v' t' b'⟩
end Go.Proofs.Ytfmacodnjhegcal
