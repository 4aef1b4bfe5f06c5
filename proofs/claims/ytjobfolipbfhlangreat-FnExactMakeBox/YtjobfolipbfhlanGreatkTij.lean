/- Tij. -/

import Derived.Test.YtjobfolipbfhlanGreatkTii
namespace Go.Proofs.YtjobfolipbfhlanGreat
open Go.RowKit Go.ChangeMaps

/-! One box of a store changed. -/
theorem fidx_cases {α : Type} (p : α → Bool) (S : List α) (k : Nat) : fidx p S k < 0 ∨ ∃ i, ∃ h : i < S.length, fidx p S k = ((k + i : Nat) : Int) ∧ p S[i] = true := by
  induction S generalizing k with
  | nil => exact .inl (by simp [fidx])
  | cons x S ih =>
    rw [fidx]
    by_cases hp : p x = true
    · rw [if_pos hp]
      exact .inr ⟨0, by simp, by simp, hp⟩
    · rw [if_neg hp]
      rcases ih (k + 1) with h | ⟨i, h, e, hq⟩
      · exact .inl h
      · exact .inr ⟨i + 1, by simpa using h, by rw [e]; congr 1; omega, by simpa using hq⟩
def chB (S : List X7) (box : Int) (ok : X7 → Bool) (f : X7 → X7) : Bool × List X7 :=
  if fidx (isG box) S 0 < 0 then (false, S) else
    match S[(fidx (isG box) S 0).toNat]? with
    | none => (false, S)
    | some x => (ok x, S.set (fidx (isG box) S 0).toNat (f x))
theorem chB_no {S : List X7} {box : Int} {ok : X7 → Bool} {f : X7 → X7} (h : fidx (isG box) S 0 < 0) : chB S box ok f = (false, S) := by rw [chB, if_pos h]
theorem chB_at {S : List X7} {box : Int} {ok : X7 → Bool} {f : X7 → X7} {i : Nat} (h : fidx (isG box) S 0 = (i : Int)) (hi : i < S.length) {x : X7} (hx : S[i] = x) : chB S box ok f = (ok x, S.set i (f x)) := by
  rw [chB, if_neg (by omega), h]
  simp only [Int.toNat_natCast]
  rw [List.getElem?_eq_getElem hi, hx]
def pmK (y tm gid fl : Int) (tx : ByteArray) (x : X7) : Bool := amOk x.1 x.2.1 x.2.2.1 x.2.2.2.1 x.2.2.2.2.1 x.2.2.2.2.2.1 x.2.2.2.2.2.2 gid fl tx (tm + 1) y
def pmF (y tm gid fl : Int) (tx : ByteArray) (x : X7) : X7 := (x.1, x.2.1, x.2.2.1, x.2.2.2.1, amN (pmK y tm gid fl tx x) x.2.2.2.2.1, amL (pmK y tm gid fl tx x) x.2.2.2.2.2.1 (nwm gid x.2.2.2.2.1 fl tx (tm + 1) y), x.2.2.2.2.2.2)
def mmK (y tm gid fl : Int) (x : X7) : Bool := fmOk x.1 x.2.1 x.2.2.1 x.2.2.2.1 x.2.2.2.2.1 x.2.2.2.2.2.1 x.2.2.2.2.2.2 gid fl (tm + 1) y
def mmF (y tm gid fl : Int) (x : X7) : X7 := (x.1, x.2.1, x.2.2.1, x.2.2.2.1, x.2.2.2.2.1, fmL (mmK y tm gid fl x) x.2.2.2.2.2.1 gid fl (tm + 1) y, x.2.2.2.2.2.2)
def dmK (gid : Int) (x : X7) : Bool := tkOk x.1 x.2.1 x.2.2.1 x.2.2.2.1 x.2.2.2.2.1 x.2.2.2.2.2.1 x.2.2.2.2.2.2 gid
def dmF (gid : Int) (x : X7) : X7 := (x.1, x.2.1, x.2.2.1, x.2.2.2.1, x.2.2.2.2.1, tkL (dmK gid x) x.2.2.2.2.2.1 gid, tkG (dmK gid x) x.2.2.2.2.2.2 gid)

/-! What is made is not too great. -/
def Sx1 (x : X7) : Prop := x.2.1.size ≤ 1048576 ∧ x.2.2.2.2.2.1.length ≤ 1048576 ∧ Sm x.2.2.2.2.2.1 ∧ x.2.2.2.2.2.2.length ≤ 1048576
theorem sb_set {S : List X7} (h : Sb S) (i : Nat) {x : X7} (hx : Sx1 x) : Sb (S.set i x) := by
  intro z hz
  rcases mem_set hz with hz | rfl
  · exact h z hz
  · exact hx
theorem sOk_tm {y tm : Int} {S : List X7} {G : List Int} (h : sOk y tm S G = true) : 0 ≤ tm ∧ tm ≤ 100000 := by
  unfold sOk at h
  simp only [Bool.and_eq_true, decide_eq_true_eq] at h
  exact h.2.1
theorem pm_small {y tm gid fl : Int} {tx : ByteArray} {x : X7} (hx : Sx1 x) (ht : tx.size ≤ 1048576) : Sx1 (pmF y tm gid fl tx x) := by
  obtain ⟨h1, h2, h3, h4⟩ := hx
  refine ⟨h1, ?_, ?_, h4⟩
  · show (amL _ _ _).length ≤ _
    cases h : pmK y tm gid fl tx x with
    | false => rw [amL, if_neg (by decide)]; exact h2
    | true =>
      unfold pmK amOk at h
      simp only [Bool.and_eq_true] at h
      have := (bx_parts h.1).1
      rw [amL, if_pos rfl, List.length_append]
      simp only [List.length_cons, List.length_nil]
      omega
  · show Sm (amL _ _ _)
    unfold amL
    split
    · exact sm_snoc h3 ht
    · exact h3
theorem mm_small {y tm gid fl : Int} {x : X7} (hx : Sx1 x) : Sx1 (mmF y tm gid fl x) := by
  obtain ⟨h1, h2, h3, h4⟩ := hx
  refine ⟨h1, ?_, ?_, h4⟩
  · show (fmL _ _ _ _ _ _).length ≤ _
    unfold fmL
    split
    · rw [List.length_map]; exact h2
    · exact h2
  · exact fm_sm _ h3
theorem dm_small {gid : Int} {x : X7} (hx : Sx1 x) : Sx1 (dmF gid x) := by
  obtain ⟨h1, h2, h3, h4⟩ := hx
  refine ⟨h1, Nat.le_trans (tk_sub _ _ _).length_le h2, fun m hm => h3 m ((tk_sub _ _ _).subset hm), ?_⟩
  show (tkG _ _ _).length ≤ _
  unfold tkG
  cases h : dmK gid x with
  | false => rw [if_neg (by decide)]; exact h4
  | true =>
    unfold dmK tkOk at h
    simp only [Bool.and_eq_true, decide_eq_true_eq] at h
    rw [if_pos rfl]
    have h5 := pin_len gid x.2.2.2.2.2.2
    omega

theorem store_caps2 (w : World) (ta tb t1 t2 : Nat) (y tm y1 tm1 : Int) (bv gv bv1 gv1 v1 v2 : Value) (W0 : World) (h : (((w.alloc (.cells #[.int .i64 y, .int .i64 tm, bv, gv] ta)).alloc (.cells #[v1] t1)).alloc (.cells #[v2] t2)).alloc (.cells #[.int .i64 y1, .int .i64 tm1, bv1, gv1] tb) = W0) :
    Sx W0 w.heap.size ta y tm bv gv ∧ W0.cell? ⟨w.heap.size + 1, 0, none⟩ = some v1 ∧ W0.cell? ⟨w.heap.size + 1 + 1, 0, none⟩ = some v2 ∧ Sx W0 (w.heap.size + 1 + 1 + 1) tb y1 tm1 bv1 gv1 ∧ Below w.heap.size w W0 ∧ W0.heap.size = w.heap.size + 1 + 1 + 1 + 1 := by
  have e1 : (w.alloc (.cells #[.int .i64 y, .int .i64 tm, bv, gv] ta)).heap.size = w.heap.size + 1 := by simp
  have h1 := heap_alloc_new (w.alloc (.cells #[.int .i64 y, .int .i64 tm, bv, gv] ta)) (.cells #[v1] t1)
  rw [e1] at h1
  have e2 : ((w.alloc (.cells #[.int .i64 y, .int .i64 tm, bv, gv] ta)).alloc (.cells #[v1] t1)).heap.size = w.heap.size + 1 + 1 := by simp
  have h2 := heap_alloc_new ((w.alloc (.cells #[.int .i64 y, .int .i64 tm, bv, gv] ta)).alloc (.cells #[v1] t1)) (.cells #[v2] t2)
  rw [e2] at h2
  have e3 : (((w.alloc (.cells #[.int .i64 y, .int .i64 tm, bv, gv] ta)).alloc (.cells #[v1] t1)).alloc (.cells #[v2] t2)).heap.size = w.heap.size + 1 + 1 + 1 := by simp
  have h3 := heap_alloc_new (((w.alloc (.cells #[.int .i64 y, .int .i64 tm, bv, gv] ta)).alloc (.cells #[v1] t1)).alloc (.cells #[v2] t2)) (.cells #[.int .i64 y1, .int .i64 tm1, bv1, gv1] tb)
  rw [e3] at h3
  subst h
  exact ⟨(Sx.new w ta y tm bv gv).later (bpush (bpush (bpush (bre _) _) _) _), cell_of_row _ _ 0 _ _ _ ((Below.block (bpush (bpush (bre _) _) _) _ (by rw [show ((w.alloc (.cells #[.int .i64 y, .int .i64 tm, bv, gv] ta)).alloc (.cells #[v1] t1)).heap.size = w.heap.size + 1 + 1 by simp]; omega)).trans h1), cell_of_row _ _ 0 _ _ _ ((Below.block (bpush (bre _) _) _ (by rw [show (((w.alloc (.cells #[.int .i64 y, .int .i64 tm, bv, gv] ta)).alloc (.cells #[v1] t1)).alloc (.cells #[v2] t2)).heap.size = w.heap.size + 1 + 1 + 1 by simp]; omega)).trans h2), h3, (bpush (bpush (bpush (bpush (bre _) _) _) _) _), by simp⟩
end Go.Proofs.YtjobfolipbfhlanGreat

