/- The law of StoreNew. -/
import Derived.Test.YtjobfolipbfhlamMa
namespace Go.Proofs.Ytjobfolipbfhlam
open Go.RowKit Go.ChangeMaps

theorem hid {p : Prop} (h : p) : Hid p := h
/-- Block k holds a store. -/
def Sx (W : World) (k ty : Nat) (y tm : Int) (bv gv : Value) : Prop := W.heap[k]? = some (.cells #[.int .i64 y, .int .i64 tm, bv, gv] ty (0, 0))
theorem Sx.new (w : World) (ty : Nat) (y tm : Int) (bv gv : Value) : Sx (w.alloc (.cells #[.int .i64 y, .int .i64 tm, bv, gv] ty)) w.heap.size ty y tm bv gv := heap_alloc_new w _
section
variable {W W' : World} {k ty : Nat} {y tm : Int} {bv gv : Value}
theorem Sx.lt (h : Sx W k ty y tm bv gv) : k < W.heap.size := (Array.getElem?_eq_some_iff.1 h).1
theorem Sx.later (h : Sx W k ty y tm bv gv) (hb : Below W.heap.size W W') : Sx W' k ty y tm bv gv := (hb.block k h.lt).trans h
theorem Sx.cells (h : Sx W k ty y tm bv gv) : W.cell? ⟨k, 0, none⟩ = some (.int .i64 y) ∧ W.cell? ⟨k, 1, none⟩ = some (.int .i64 tm) ∧ W.cell? ⟨k, 2, none⟩ = some bv ∧ W.cell? ⟨k, 3, none⟩ = some gv :=
  ⟨cell_of_row W k 0 _ _ _ h, cell_of_row W k 1 _ _ _ h, cell_of_row W k 2 _ _ _ h, cell_of_row W k 3 _ _ _ h⟩
theorem Sx.loose (h : Sx W k ty y tm bv gv) : W.frozen? ⟨k, 0, none⟩ = false ∧ W.frozen? ⟨k, 1, none⟩ = false ∧ W.frozen? ⟨k, 2, none⟩ = false ∧ W.frozen? ⟨k, 3, none⟩ = false :=
  ⟨frozen_of_row W k 0 _ _ h, frozen_of_row W k 1 _ _ h, frozen_of_row W k 2 _ _ h, frozen_of_row W k 3 _ _ h⟩
end
theorem eqBS0 (w : World) : Calls Try.prog 57 #[.slice none 0 0, .slice none 0 0] w fun e w' => e = .returned (.bool true) ∧ w' = w := by
  go_enter Try.func57, Try.ntmps57
  go_wp2
  go_loop [5] (fun iv => iv = .int .i64 0) (fun _ => 0)
  case atStart => exact rfl
  case round =>
    obtain rfl := hrel
    go_wp2
    go_ret
    exact ⟨rfl, rfl⟩
theorem eqIS0 (w : World) : Calls Try.prog 41 #[.slice none 0 0, .slice none 0 0] w fun e w' => e = .returned (.bool true) ∧ w' = w := by
  go_enter Try.func41, Try.ntmps41
  go_wp2
  go_loop [5] (fun iv => iv = .int .i64 0) (fun _ => 0)
  case atStart => exact rfl
  case round =>
    obtain rfl := hrel
    go_wp2
    go_ret
    exact ⟨rfl, rfl⟩
theorem markBS0 (w : World) : Calls Try.prog 58 #[.slice none 0 0, .int .i64 1] w fun e w' => e = .returned (.int .i64 1) ∧ w' = w := by
  go_enter Try.func58, Try.ntmps58
  go_wp2
  go_loop [1, 5] (fun kv iv => kv = .int .i64 1 ∧ iv = .int .i64 0) (fun _ _ => 0)
  case atStart => exact ⟨rfl, rfl⟩
  case round =>
    obtain ⟨rfl, rfl⟩ := hrel
    go_wp2
    go_ret
    exact ⟨rfl, rfl⟩
theorem markIS0 (w : World) : Calls Try.prog 54 #[.slice none 0 0, .int .i64 1] w fun e w' => e = .returned (.int .i64 1) ∧ w' = w := by
  go_enter Try.func54, Try.ntmps54
  go_wp2
  go_loop [1, 5] (fun kv iv => kv = .int .i64 1 ∧ iv = .int .i64 0) (fun _ _ => 0)
  case atStart => exact ⟨rfl, rfl⟩
  case round =>
    obtain ⟨rfl, rfl⟩ := hrel
    go_wp2
    go_ret
    exact ⟨rfl, rfl⟩
theorem heldBS0 (w : World) : Calls Try.prog 59 #[.slice none 0 0, .int .i64 1] w fun e w' => e = .returned (.int .i64 1) ∧ w' = w := by
  go_enter Try.func59, Try.ntmps59
  go_wp2
  go_loop [1, 5] (fun kv iv => kv = .int .i64 1 ∧ iv = .int .i64 0) (fun _ _ => 0)
  case atStart => exact ⟨rfl, rfl⟩
  case round =>
    obtain ⟨rfl, rfl⟩ := hrel
    go_wp2
    go_ret
    exact ⟨rfl, rfl⟩
theorem heldIS0 (w : World) : Calls Try.prog 56 #[.slice none 0 0, .int .i64 1] w fun e w' => e = .returned (.int .i64 1) ∧ w' = w := by
  go_enter Try.func56, Try.ntmps56
  go_wp2
  go_loop [1, 5] (fun kv iv => kv = .int .i64 1 ∧ iv = .int .i64 0) (fun _ _ => 0)
  case atStart => exact ⟨rfl, rfl⟩
  case round =>
    obtain ⟨rfl, rfl⟩ := hrel
    go_wp2
    go_ret
    exact ⟨rfl, rfl⟩
theorem markStore0 (y : Int) (w : World) : Calls Try.prog 22 #[.agg #[.int .i64 y, .int .i64 0, .slice none 0 0, .slice none 0 0], .int .i64 1] w fun e w' => e = .returned (.int .i64 1) ∧ Below w.heap.size w w' := by
  obtain ⟨W0, hW0⟩ : ∃ W0, w.alloc (.cells #[.int .i64 y, .int .i64 0, .slice none 0 0, .slice none 0 0] 45) = W0 := ⟨_, rfl⟩
  have a0 : Sx W0 w.heap.size 45 y 0 (.slice none 0 0) (.slice none 0 0) := by subst hW0; exact Sx.new w _ y 0 _ _
  have b0 : Below w.heap.size w W0 := by subst hW0; exact bpush (bre _) _
  have c0 := a0.cells
  have B0 := hid b0
  have h1 : ¬ ((1 : Int) < 0) := by omega
  clear a0 b0
  go_enter Try.func22, Try.ntmps22
  go_wp2_with fail
  clear hW0
  refine (markBS0 _).mono ?_; rintro e w1 ⟨rfl, hw1⟩
  subst hw1
  go_wp2_with fail
  refine (markIS0 _).mono ?_; rintro e w2 ⟨rfl, hw2⟩
  subst hw2
  go_wp2
  go_ret
  exact ⟨rfl, B0.out⟩
theorem heldStore0 (y : Int) (w : World) : Calls Try.prog 23 #[.agg #[.int .i64 y, .int .i64 0, .slice none 0 0, .slice none 0 0], .int .i64 1] w fun e w' => e = .returned (.int .i64 1) ∧ Below w.heap.size w w' := by
  obtain ⟨W0, hW0⟩ : ∃ W0, w.alloc (.cells #[.int .i64 y, .int .i64 0, .slice none 0 0, .slice none 0 0] 45) = W0 := ⟨_, rfl⟩
  have a0 : Sx W0 w.heap.size 45 y 0 (.slice none 0 0) (.slice none 0 0) := by subst hW0; exact Sx.new w _ y 0 _ _
  have b0 : Below w.heap.size w W0 := by subst hW0; exact bpush (bre _) _
  have c0 := a0.cells
  have B0 := hid b0
  have h1 : ¬ ((1 : Int) < 0) := by omega
  clear a0 b0
  go_enter Try.func23, Try.ntmps23
  go_wp2_with fail
  clear hW0
  refine (heldBS0 _).mono ?_; rintro e w1 ⟨rfl, hw1⟩
  subst hw1
  go_wp2_with fail
  refine (heldIS0 _).mono ?_; rintro e w2 ⟨rfl, hw2⟩
  subst hw2
  go_wp2
  go_ret
  exact ⟨rfl, B0.out⟩
theorem specNew0 (y : Int) (w : World) : Calls Try.prog 19 #[.int .i64 y] w fun e w' => e = .returned (.agg #[.int .i64 y, .int .i64 0, .slice none 0 0, .slice none 0 0]) ∧ Below w.heap.size w w' := by
  have a0 := Sx.new w 45 0 0 (.slice none 0 0) (.slice none 0 0)
  have c0 := a0.cells
  have f0 := a0.loose
  clear a0
  go_enter Try.func19, Try.ntmps19
  go_wp2
  have d1 := (Sx.new w 45 y 0 (.slice none 0 0) (.slice none 0 0)).cells
  exact bodyPost_ret (v := .agg #[.int .i64 y, .int .i64 0, .slice none 0 0, .slice none 0 0]) (by simp [results, Try.results19, go_sem, d1]) rfl ⟨rfl, bpush (bre _) _⟩
theorem implNew0 (y : Int) (w : World) : Calls Try.prog 20 #[.int .i64 y] w fun e w' => e = .returned (.agg #[.int .i64 y, .int .i64 0, .slice none 0 0, .slice none 0 0]) ∧ Below w.heap.size w w' := by
  have a0 := Sx.new w 45 0 0 (.slice none 0 0) (.slice none 0 0)
  have c0 := a0.cells
  have f0 := a0.loose
  clear a0
  go_enter Try.func20, Try.ntmps20
  go_wp2
  have d1 := (Sx.new w 45 y 0 (.slice none 0 0) (.slice none 0 0)).cells
  exact bodyPost_ret (v := .agg #[.int .i64 y, .int .i64 0, .slice none 0 0, .slice none 0 0]) (by simp [results, Try.results20, go_sem, d1]) rfl ⟨rfl, bpush (bre _) _⟩
theorem eqStore0 (y : Int) (w : World) : Calls Try.prog 21 #[.agg #[.int .i64 y, .int .i64 0, .slice none 0 0, .slice none 0 0], .agg #[.int .i64 y, .int .i64 0, .slice none 0 0, .slice none 0 0]] w fun e w' => e = .returned (.bool true) ∧ Below w.heap.size w w' := by
  obtain ⟨W0, hW0⟩ : ∃ W0, ((w.alloc (.cells #[.int .i64 y, .int .i64 0, .slice none 0 0, .slice none 0 0] 45)).alloc (.cells #[.int .i64 y, .int .i64 0, .slice none 0 0, .slice none 0 0] 45)) = W0 := ⟨_, rfl⟩
  have a0 : Sx W0 w.heap.size 45 y 0 (.slice none 0 0) (.slice none 0 0) := by subst hW0; exact (Sx.new w _ y 0 _ _).later (bpush (bre _) _)
  have a1 : Sx W0 (w.heap.size + 1) 45 y 0 (.slice none 0 0) (.slice none 0 0) := by
    have h := Sx.new (w.alloc (.cells #[.int .i64 y, .int .i64 0, .slice none 0 0, .slice none 0 0] 45)) 45 y 0 (.slice none 0 0) (.slice none 0 0)
    have e : (w.alloc (.cells #[.int .i64 y, .int .i64 0, .slice none 0 0, .slice none 0 0] 45)).heap.size = w.heap.size + 1 := by simp
    rw [e, hW0] at h
    exact h
  have b0 : Below w.heap.size w W0 := by subst hW0; exact bpush (bpush (bre _) _) _
  have c0 := a0.cells
  have c1 := a1.cells
  have B0 := hid b0
  have e1 : (y != y) = false := by simp
  clear a0 a1 b0
  go_enter Try.func21, Try.ntmps21
  go_wp2_with fail
  clear hW0
  refine (eqBS0 _).mono ?_; rintro e w1 ⟨rfl, hw1⟩
  subst hw1
  go_wp2_with fail
  refine (eqIS0 _).mono ?_; rintro e w2 ⟨rfl, hw2⟩
  subst hw2
  go_wp2
  go_ret
  exact ⟨rfl, B0.out⟩

set_option maxHeartbeats 3200000 in
set_option maxRecDepth 100000 in
theorem lawNew_any (y : Int) (w : World) : Calls Try.prog 6 #[.int .i64 y] w fun e w' => e = .returned (.bool true) ∧ Below w.heap.size w w' := by
  go_enter Try.func6, Try.ntmps6
  go_wp2_with fail
  refine (specNew0 y _).mono ?_; rintro e v1 ⟨rfl, hb1⟩
  obtain ⟨ka, hka⟩ : ∃ ka, v1.heap.size = ka := ⟨_, rfl⟩
  have xka : Sx (v1.alloc (.cells #[.int .i64 y, .int .i64 0, .slice none 0 0, .slice none 0 0] 45)) ka 45 y 0 (.slice none 0 0) (.slice none 0 0) := by rw [← hka]; exact Sx.new _ _ _ _ _ _
  have yka : Below v1.heap.size v1 (v1.alloc (.cells #[.int .i64 y, .int .i64 0, .slice none 0 0, .slice none 0 0] 45)) := bpush (bre _) _
  have mka := xka.cells
  have nka := xka.loose
  have B1 := hid (btr hb1 yka)
  have A1 := hid xka
  clear hb1 yka xka
  go_wp2_with fail
  obtain ⟨W1, hW1⟩ : ∃ W1, v1.alloc (.cells #[.int .i64 y, .int .i64 0, .slice none 0 0, .slice none 0 0] 45) = W1 := ⟨_, rfl⟩
  rw [hW1] at A1 B1 ⊢
  clear hW1 hka mka nka
  refine (implNew0 y _).mono ?_; rintro e v2 ⟨rfl, hb2⟩
  obtain ⟨kb, hkb⟩ : ∃ kb, v2.heap.size = kb := ⟨_, rfl⟩
  have xkb : Sx (v2.alloc (.cells #[.int .i64 y, .int .i64 0, .slice none 0 0, .slice none 0 0] 45)) kb 45 y 0 (.slice none 0 0) (.slice none 0 0) := by rw [← hkb]; exact Sx.new _ _ _ _ _ _
  have ykb : Below v2.heap.size v2 (v2.alloc (.cells #[.int .i64 y, .int .i64 0, .slice none 0 0, .slice none 0 0] 45)) := bpush (bre _) _
  have mkb := xkb.cells
  have nkb := xkb.loose
  have B2 := hid (btr B1.out (btr hb2 ykb))
  have A2 := hid (A1.out.later (btr hb2 ykb))
  have G2 := hid xkb
  have c0 := A2.out.cells
  have c1 := G2.out.cells
  clear hb2 ykb xkb A1 B1
  go_wp2_with fail
  obtain ⟨W2, hW2⟩ : ∃ W2, v2.alloc (.cells #[.int .i64 y, .int .i64 0, .slice none 0 0, .slice none 0 0] 45) = W2 := ⟨_, rfl⟩
  rw [hW2] at A2 B2 G2 ⊢
  clear hW2 hkb mkb nkb
  refine (eqStore0 y _).mono ?_; rintro e v3 ⟨rfl, hb3⟩
  have A3 := hid (A2.out.later hb3)
  have G3 := hid (G2.out.later hb3)
  have B3 := hid (btr B2.out hb3)
  have c1 := G3.out.cells
  clear hb3 A2 G2 B2 c0
  go_wp2_with fail
  refine (markStore0 y _).mono ?_; rintro e v4 ⟨rfl, hb4⟩
  have A4 := hid (A3.out.later hb4)
  have G4 := hid (G3.out.later hb4)
  have B4 := hid (btr B3.out hb4)
  have c1 := G4.out.cells
  clear hb4 A3 G3 B3
  go_wp2_with fail
  refine (heldStore0 y _).mono ?_; rintro e v5 ⟨rfl, hb5⟩
  have A5 := hid (A4.out.later hb5)
  have G5 := hid (G4.out.later hb5)
  have B5 := hid (btr B4.out hb5)
  have h1 : ¬ ((1 : Int) < 0) := by omega
  have h2 : ((1 : Int) != 1) = false := by decide
  clear hb5 A4 G4 B4 c1
  go_wp2_with fail
  refine (implNew0 y _).mono ?_; rintro e v6 ⟨rfl, hb6⟩
  obtain ⟨kc, hkc⟩ : ∃ kc, v6.heap.size = kc := ⟨_, rfl⟩
  have xkc : Sx (v6.alloc (.cells #[.int .i64 y, .int .i64 0, .slice none 0 0, .slice none 0 0] 45)) kc 45 y 0 (.slice none 0 0) (.slice none 0 0) := by rw [← hkc]; exact Sx.new _ _ _ _ _ _
  have ykc : Below v6.heap.size v6 (v6.alloc (.cells #[.int .i64 y, .int .i64 0, .slice none 0 0, .slice none 0 0] 45)) := bpush (bre _) _
  have mkc := xkc.cells
  have nkc := xkc.loose
  have B6 := hid (btr B5.out (btr hb6 ykc))
  have A6 := hid (A5.out.later (btr hb6 ykc))
  have G6 := hid (G5.out.later (btr hb6 ykc))
  have H6 := hid xkc
  have c0 := A6.out.cells
  have c1 := H6.out.cells
  clear hb6 ykc xkc A5 G5 B5
  go_wp2_with fail
  obtain ⟨W6, hW6⟩ : ∃ W6, v6.alloc (.cells #[.int .i64 y, .int .i64 0, .slice none 0 0, .slice none 0 0] 45) = W6 := ⟨_, rfl⟩
  rw [hW6] at A6 B6 G6 H6 ⊢
  clear hW6 hkc mkc nkc
  refine (eqStore0 y _).mono ?_; rintro e v7 ⟨rfl, hb7⟩
  have G7 := hid (G6.out.later hb7)
  have B7 := hid (btr B6.out hb7)
  have c1 := G7.out.cells
  clear hb7 A6 G6 B6 H6 c0
  go_wp2_with fail
  refine (heldStore0 y _).mono ?_; rintro e v8 ⟨rfl, hb8⟩
  go_wp2
  go_ret
  exact ⟨rfl, btr B7.out hb8⟩
end Go.Proofs.Ytjobfolipbfhlam
