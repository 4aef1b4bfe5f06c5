/- Lists of registers: as the laws hand them over. -/
import Derived.Test.YtjnpohbljjlicabFlat
namespace Go.Proofs.Ytjnpohbljjlicab
open Go.RowKit

theorem info_parts3 {P : Program} {e : Nat} {z : Value} {s b : Nat} (h : (P.info? e).map (fun i => (i.zero, i.size, i.bytes)) = some (some z, s, b)) : ∃ i, P.info? e = some i ∧ i.zero = some z ∧ i.size = s ∧ i.bytes = b := by
  cases hi : P.info? e with
  | none => rw [hi] at h; cases h
  | some i =>
    rw [hi] at h
    simp only [Option.map_some, Option.some.injEq, Prod.mk.injEq] at h
    exact ⟨i, rfl, h.1, h.2.1, h.2.2⟩

theorem fl_rep (n : Nat) : fl (List.replicate n (0, 0, 0)) = List.replicate (n * 3) (.int .i64 0) := by
  induction n with
  | zero => rfl
  | succ n ih => rw [List.replicate_succ, show (n + 1) * 3 = n * 3 + 1 + 1 + 1 by omega]; simp only [fl, ih, List.replicate_succ]
theorem made3 (n : Nat) : (madeCells #[.int .i64 0, .int .i64 0, .int .i64 0] (n * 3)).toList = fl (List.replicate n (0, 0, 0)) := by
  rw [fl_rep]
  apply List.ext_getElem?
  intro j
  by_cases hj : j < n * 3
  · have h3 : j % 3 = 0 ∨ j % 3 = 1 ∨ j % 3 = 2 := by omega
    rcases h3 with h | h | h <;> simp [madeCells, hj, h]
  · simp [madeCells, hj]

/-- A new row of n registers. -/
theorem make_rg (n : Nat) (hn : n ≤ 1048576) : ∃ M : Array Value, Hid (∀ W : World, Ow (W.alloc (.cells M 47)) W.heap.size (.slice (some ⟨W.heap.size, 0, none⟩) n n) (List.replicate n (0, 0, 0))) ∧
    ∀ W : World, (Instr.makeSlice 24 (.int .i64 (n : Int)) (.int .i64 (n : Int))).run Try.prog W = .ok (.slice (some ⟨W.heap.size, 0, none⟩) n n) (W.alloc (.cells M 47)) := by
  obtain ⟨i0, hi, hz0, hz1, hz2⟩ := info_parts3 info_rg
  refine ⟨madeCells #[.int .i64 0, .int .i64 0, .int .i64 0] (n * 3), fun W => ?_, fun W => ?_⟩
  · have h := World.ownsRow_lit (base := W.heap.size) (e := 47) (size := 3) W (madeCells #[.int .i64 0, .int .i64 0, .int .i64 0] (n * 3)) n (Nat.le_refl _) (by unfold maxLen; omega) (size_madeCells _ _)
    rw [made3] at h
    simpa [Ow] using h
  · have h := run_make (P := Try.prog) W 24 47 i0 (.agg #[.int .i64 0, .int .i64 0, .int .i64 0]) Try.underlying24 hi hz0 .i64 .i64 (n : Int) (n : Int) (by omega) (by omega) (by rw [hz2]; omega) (by omega)
    rw [hz1, Int.toNat_natCast] at h
    exact h

/-- A row that is filled from the front: the first i places are l's. -/
def fil (l : List R3) (i : Nat) : List R3 := l.take i ++ List.replicate (l.length - i) (0, 0, 0)
theorem fil_len (l : List R3) (i : Nat) (h : i ≤ l.length) : (fil l i).length = l.length := by simp [fil]; omega
theorem fil_zero (l : List R3) : fil l 0 = List.replicate l.length (0, 0, 0) := by simp [fil]
theorem fil_all (l : List R3) : fil l l.length = l := by simp [fil]
theorem fil_set (l : List R3) (i : Nat) (h : i < l.length) : (fil l i).set i l[i] = fil l (i + 1) := by
  unfold fil
  rw [List.set_append_right _ _ (by simp; omega)]
  have e : i - (l.take i).length = 0 := by simp; omega
  rw [e]
  obtain ⟨m, hm⟩ : ∃ m, l.length - i = m + 1 := ⟨l.length - i - 1, by omega⟩
  rw [hm, show l.length - (i + 1) = m by omega, List.replicate_succ, List.set_cons_zero, List.take_succ_eq_append_getElem h, List.append_assoc]
  rfl

end Go.Proofs.Ytjnpohbljjlicab
