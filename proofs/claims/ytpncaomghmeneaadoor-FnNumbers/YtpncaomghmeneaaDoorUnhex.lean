/- The walks of the two functions that read figures back into bytes, and of the law over them. -/
import Derived.Test.YtpncaomghmeneaaDoorFigs
import Derived.Deep.RegionHeld3
namespace Go.Proofs.YtpncaomghmeneaaDoor
open Go.RowKit

/-- The bytes whose two figures each these are. -/
def unh : List UInt8 → Option (List UInt8)
  | [] => some []
  | [_] => none
  | a :: b :: l => match fv true a.toNat, fv true b.toNat with
    | some x, some y => (unh l).map (UInt8.ofNat (16 * x + y) :: ·)
    | _, _ => none

/-- Two by two. -/
def pairs : List UInt8 → List UInt8
  | a :: b :: l => UInt8.ofNat (16 * a.toNat + b.toNat) :: pairs l
  | _ => []

theorem fv_lt {lt : Bool} {c x : Nat} (h : fv lt c = some x) : x < 16 := by
  unfold fv at h
  split at h
  · simp at h; omega
  · split at h
    · simp at h; omega
    · simp at h

theorem unh_pairs : ∀ l : List UInt8, l.length % 2 = 0 → unh l = if (fvals true l).length = l.length then some (pairs (fvals true l)) else none
  | [], _ => by simp [unh, fvals, pairs]
  | [_], h => by simp at h
  | a :: b :: l, h => by
    have ih := unh_pairs l (by simp at h; omega)
    have hl := fvals_len true l
    cases ha : fv true a.toNat with
    | none => simp [unh, fvals, ha]
    | some x =>
      cases hb : fv true b.toNat with
      | none => simp [unh, fvals, ha, hb]
      | some y =>
        have hx := fv_lt ha
        have hy := fv_lt hb
        simp only [unh, fvals, ha, hb, List.length_cons, ih]
        have e1 : (UInt8.ofNat x).toNat = x := by have := u8_nat x (by omega); omega
        have e2 : (UInt8.ofNat y).toNat = y := by have := u8_nat y (by omega); omega
        by_cases hq : (fvals true l).length = l.length
        · simp [hq, pairs, e1, e2]
        · simp [hq]

/-- j figures (an even number) have been read into bs. -/
def UAt (s : ByteArray) (j : Nat) (bs : List UInt8) : Prop := j ≤ s.size ∧ j % 2 = 0 ∧ 2 * bs.length = j ∧ unh s.data.toList = (unh (s.data.toList.drop j)).map (bs ++ ·)
theorem UAt.start (s : ByteArray) : UAt s 0 [] := ⟨Nat.zero_le _, rfl, rfl, by simp⟩
theorem UAt.next {s : ByteArray} {j : Nat} {bs : List UInt8} (h : UAt s j bs) (h1 : j + 1 < s.size) {x y : Nat} (hx : fv true s[j].toNat = some x) (hy : fv true s[j + 1].toNat = some y) : UAt s (j + 2) (bs ++ [UInt8.ofNat (16 * x + y)]) := by
  refine ⟨h1, by have := h.2.1; omega, by have := h.2.2.1; simp; omega, ?_⟩
  rw [h.2.2.2, drop_here s j (by omega), drop_here s (j + 1) h1]
  simp only [unh, hx, hy, Option.map_map]
  congr 1
  funext l
  simp
theorem UAt.bad {s : ByteArray} {j : Nat} {bs : List UInt8} (h : UAt s j bs) (h1 : j + 1 < s.size) (hx : fv true s[j].toNat = none ∨ fv true s[j + 1].toNat = none) : unh s.data.toList = none := by
  rw [h.2.2.2, drop_here s j (by omega), drop_here s (j + 1) h1]
  rcases hx with hx | hx
  · simp [unh, hx]
  · cases hy : fv true s[j].toNat <;> simp [unh, hx, hy]
theorem UAt.fin {s : ByteArray} {j : Nat} {bs : List UInt8} (h : UAt s j bs) (h1 : ¬ j < s.size) : unh s.data.toList = some bs := by
  rw [h.2.2.2, List.drop_eq_nil_of_le (by rw [len_list]; omega)]; simp [unh]

/-- How a call ends that has read r. -/
def UEnd (r : Option (List UInt8)) (e : Ending) : Prop :=
  match r with
  | none => e = .returned (.tuple #[.string ⟨#[]⟩, .bool false])
  | some bs => e = .returned (.tuple #[.string ⟨bs.toArray⟩, .bool true])
theorem UEnd.no {r : Option (List UInt8)} (h : r = none) : UEnd r (.returned (.tuple #[.string ⟨#[]⟩, .bool false])) := by subst h; rfl
theorem UEnd.yes {r : Option (List UInt8)} {bs : List UInt8} (h : r = some bs) : UEnd r (.returned (.tuple #[.string ⟨bs.toArray⟩, .bool true])) := by subst h; rfl

end Go.Proofs.YtpncaomghmeneaaDoor
