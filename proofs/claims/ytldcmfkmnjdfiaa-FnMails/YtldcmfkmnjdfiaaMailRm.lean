/- A mail read from a place on: what is answered. -/
import Derived.Test.YtldcmfkmnjdfiaaMailCur
namespace Go.Proofs.Ytldcmfkmnjdfiaa
open Go.RowKit

/-- k numbers, one behind another. -/
def rds (s : ByteArray) (a : Int) : Nat → Option (List Int × Int)
  | 0 => some ([], a)
  | k + 1 => (rds s a k).bind fun p => (rd s p.2).map fun q => (p.1 ++ [q.1], q.2)
/-- These numbers were read; or it went bad. -/
def SS (s : ByteArray) (a : Int) (nums : List Int) (b : Int) (bad : Bool) : Prop :=
  (bad = false ∧ rds s a nums.length = some (nums, b)) ∨ (bad = true ∧ rds s a nums.length = none)
theorem SS.start (s : ByteArray) (a : Int) : SS s a [] a false := Or.inl ⟨rfl, rfl⟩
theorem rds_some {s : ByteArray} {a : Int} {nums : List Int} {b n c : Int} (h : rds s a nums.length = some (nums, b)) (hr : rd s b = some (n, c)) : rds s a (nums ++ [n]).length = some (nums ++ [n], c) := by
  rw [List.length_append]; show rds s a (nums.length + 1) = _; rw [rds, h]; simp only [Option.bind_some]; rw [hr]; rfl
theorem rds_none {s : ByteArray} {a : Int} {nums : List Int} {b n : Int} (h : rds s a nums.length = some (nums, b)) (hr : rd s b = none) : rds s a (nums ++ [n]).length = none := by
  rw [List.length_append]; show rds s a (nums.length + 1) = _; rw [rds, h]; simp only [Option.bind_some]; rw [hr]; rfl
theorem rds_dead {s : ByteArray} {a : Int} {k : Nat} (h : rds s a k = none) (j : Nat) : rds s a (k + j) = none := by
  induction j with
  | zero => exact h
  | succ j ih => rw [← Nat.add_assoc, rds, ih]; rfl
theorem SS.next {s : ByteArray} {a : Int} {nums : List Int} {b : Int} {bad : Bool} {n b' : Int} {bad' : Bool} (h : SS s a nums b bad) (hn : nxt s b bad n b' bad') : SS s a (nums ++ [n]) b' bad' := by
  rcases hn with ⟨h1, h2, h3⟩ | ⟨h1, h2, h3, h4⟩
  · rcases h with ⟨k1, k2⟩ | ⟨k1, k2⟩
    · exact Or.inl ⟨h2, rds_some k2 h3⟩
    · rw [h1] at k1; cases k1
  · refine Or.inr ⟨h1, ?_⟩
    rcases h with ⟨k1, k2⟩ | ⟨k1, k2⟩
    · rcases h4 with h4 | h4
      · rw [k1] at h4; cases h4
      · exact rds_none k2 h4
    · rw [List.length_append]; exact rds_dead k2 1

def flat : List R3 → List Int
  | [] => []
  | p :: l => p.1 :: p.2.1 :: p.2.2 :: flat l
theorem flat_snoc (l : List R3) (p : R3) : flat (l ++ [p]) = flat l ++ [p.1] ++ [p.2.1] ++ [p.2.2] := by
  induction l with
  | nil => rfl
  | cons q l ih => simp only [List.cons_append, flat, ih]
theorem flat_len (l : List R3) : (flat l).length = l.length * 3 := by
  induction l with
  | nil => rfl
  | cons q l ih => simp only [flat, List.length_cons, ih]; omega
def regs : List Int → List R3
  | v :: t :: b :: r => (v, t, b) :: regs r
  | _ => []
theorem regs_flat (l : List R3) : regs (flat l) = l := by
  induction l with
  | nil => rfl
  | cons q l ih => simp only [flat, regs, ih]
theorem three_more {s : ByteArray} {a g u : Int} {l : List R3} {x y z b : Int} {bad : Bool} (h : SS s a (((g :: u :: flat l) ++ [x]) ++ [y] ++ [z]) b bad) : SS s a (g :: u :: flat (l ++ [(x, y, z)])) b bad := by
  rw [flat_snoc]; simpa using h

abbrev R6 := Int × Int × List R3 × ByteArray × Int × Bool
def zero6 : R6 := (0, 0, [], ⟨#[]⟩, 0, false)
/-- What ReadMail answers: number, number, flags, text, place, whether. -/
def rm6 (s : ByteArray) (a : Int) : R6 := match rds s a 11 with
  | some (g :: u :: r, b) => match rsh s b with
    | some (t, c) => if mlOk g u (regs r) t = true then (g, u, regs r, t, c, true) else zero6
    | none => zero6
  | _ => zero6
theorem rm6_dead {s : ByteArray} {a : Int} (h : rds s a 11 = none) : rm6 s a = zero6 := by unfold rm6; rw [h]
theorem rm6_short {s : ByteArray} {a g u b : Int} {l : List R3} (h : rds s a 11 = some (g :: u :: flat l, b)) (hs : rsh s b = none) : rm6 s a = zero6 := by unfold rm6; rw [h]; simp only [hs]
theorem rm6_wrong {s : ByteArray} {a g u b c : Int} {l : List R3} {t : ByteArray} (h : rds s a 11 = some (g :: u :: flat l, b)) (hs : rsh s b = some (t, c)) (hm : mlOk g u l t = false) : rm6 s a = zero6 := by
  unfold rm6; rw [h]; simp only [hs, regs_flat, hm]; rfl
theorem rm6_good {s : ByteArray} {a g u b c : Int} {l : List R3} {t : ByteArray} (h : rds s a 11 = some (g :: u :: flat l, b)) (hs : rsh s b = some (t, c)) (hm : mlOk g u l t = true) : rm6 s a = (g, u, l, t, c, true) := by
  unfold rm6; rw [h]; simp only [hs, regs_flat, hm]; rfl
/-- The cursor's end. -/
theorem rm6_bad {s : ByteArray} {a g u b b' : Int} {bad : Bool} {l : List R3} {t : ByteArray} (hl : l.length = 3) (h : SS s a (g :: u :: flat l) b bad) (hn : nxtS s b bad t b' true) : rm6 s a = zero6 := by
  have e : (g :: u :: flat l).length = 11 := by simp [flat_len, hl]
  rcases hn with ⟨_, h2, _⟩ | ⟨_, _, _, h4⟩
  · cases h2
  · rcases h with ⟨k1, k2⟩ | ⟨_, k2⟩
    · rcases h4 with h4 | h4
      · rw [k1] at h4; cases h4
      · rw [e] at k2; exact rm6_short k2 h4
    · rw [e] at k2; exact rm6_dead k2
theorem rm6_ok {s : ByteArray} {a g u b b' : Int} {bad : Bool} {l : List R3} {t : ByteArray} (hl : l.length = 3) (h : SS s a (g :: u :: flat l) b bad) (hn : nxtS s b bad t b' false) : rm6 s a = if mlOk g u l t = true then (g, u, l, t, b', true) else zero6 := by
  have e : (g :: u :: flat l).length = 11 := by simp [flat_len, hl]
  rcases hn with ⟨h1, _, h3⟩ | ⟨h1, _⟩
  · rcases h with ⟨_, k2⟩ | ⟨k1, _⟩
    · rw [e] at k2
      cases hm : mlOk g u l t with
      | true => rw [rm6_good k2 h3 hm]; rfl
      | false => rw [rm6_wrong k2 h3 hm]; rfl
    · rw [h1] at k1; cases k1
  · cases h1

/-- How a call of ReadMail ends. -/
def RmPost (s : ByteArray) (a : Int) (w : World) (e : Ending) (w' : World) : Prop :=
  ∃ g u l t c q v, rm6 s a = (g, u, l, t, c, q) ∧ e = .returned (.tuple #[.agg #[.int .i64 g, .int .i64 u, v, .string t], .int .i64 c, .bool q]) ∧ Ow w' w.heap.size v l ∧ Below w.heap.size w w'
theorem RmPost.zero {s : ByteArray} {a : Int} {w w' : World} (h : rm6 s a = zero6) (hb : Below w.heap.size w w') : RmPost s a w (.returned (.tuple #[.agg #[.int .i64 0, .int .i64 0, .slice none 0 0, .string ⟨#[]⟩], .int .i64 0, .bool false])) w' :=
  ⟨0, 0, [], ⟨#[]⟩, 0, false, .slice none 0 0, h, rfl, ⟨rfl, .inl ⟨rfl, rfl⟩⟩, hb⟩
end Go.Proofs.Ytldcmfkmnjdfiaa
