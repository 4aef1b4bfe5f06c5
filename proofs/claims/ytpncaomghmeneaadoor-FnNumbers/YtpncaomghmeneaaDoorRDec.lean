/- The walks of the two functions that read decimal figures, and of the law over them. -/
import Derived.Test.YtpncaomghmeneaaDoorDec
namespace Go.Proofs.YtpncaomghmeneaaDoor
open Go.RowKit

abbrev isDig (c : UInt8) : Prop := 48 ≤ c.toNat ∧ c.toNat ≤ 57

/-- The number that figures make. -/
def num (l : List UInt8) : Nat := l.foldl (fun n c => 10 * n + (c.toNat - 48)) 0
theorem num_snoc (l : List UInt8) (c : UInt8) : num (l ++ [c]) = 10 * num l + (c.toNat - 48) := by simp [num]
theorem num_lt (k : Nat) : ∀ l : List UInt8, l.length = k → (∀ c ∈ l, isDig c) → num l < 10 ^ k := by
  induction k with
  | zero => intro l hl _; rw [List.eq_nil_of_length_eq_zero hl]; simp [num]
  | succ k ih =>
    intro l hl hd
    rcases List.eq_nil_or_concat l with rfl | ⟨p, c, rfl⟩
    · simp at hl
    · have h1 := ih p (by simpa using hl) (fun x hx => hd x (by simp [hx]))
      have h2 := hd c (by simp)
      rw [List.concat_eq_append, num_snoc, Nat.pow_succ]
      unfold isDig at h2
      omega

theorem head_app (l m : List UInt8) (h : l ≠ []) : (l ++ m).head? = l.head? := by cases l <;> simp at h ⊢

theorem dg_head (n : Nat) : (dg n).head? = some 48 → n = 0 := by
  induction n using Nat.strongRecOn with
  | _ n ih =>
    by_cases h : n < 10
    · rw [dg_small n h]
      simp only [List.head?_cons, Option.some.injEq]
      intro hl
      have := congrArg (fun x : UInt8 => (x.toNat : Int)) hl
      simp only [u8_48 n h] at this
      have e : (((48 : UInt8).toNat : Nat) : Int) = 48 := rfl
      omega
    · rw [dg_big n h]
      intro hl
      have hne : dg (n / 10) ≠ [] := by
        by_cases h2 : n / 10 < 10
        · rw [dg_small _ h2]; simp
        · rw [dg_big _ h2]; simp
      rw [head_app _ _ hne] at hl
      have := ih (n / 10) (by omega) hl
      omega

theorem dg_num (k : Nat) : ∀ l : List UInt8, l.length = k + 1 → (∀ c ∈ l, isDig c) → (k = 0 ∨ l.head? ≠ some 48) → dg (num l) = l ∧ (l.head? ≠ some 48 → 0 < num l) := by
  induction k with
  | zero =>
    intro l hl hd _
    match l, hl with
    | [c], _ =>
      have h2 := hd c (by simp)
      unfold isDig at h2
      have e : num [c] = c.toNat - 48 := by simp [num]
      rw [e, dg_small _ (by omega)]
      refine ⟨?_, fun h => ?_⟩
      · congr 1
        apply UInt8.toNat_inj.1
        rw [show 48 + (c.toNat - 48) = c.toNat by omega]; simp
      · simp at h
        have : c.toNat ≠ 48 := fun e => h (UInt8.toNat_inj.1 (by simpa using e))
        omega
  | succ k ih =>
    intro l hl hd hh
    rcases List.eq_nil_or_concat l with rfl | ⟨p, c, rfl⟩
    · simp at hl
    · have hpl : p.length = k + 1 := by simpa using hl
      have hpn : p ≠ [] := fun e => by rw [e] at hpl; simp at hpl
      rw [List.concat_eq_append] at hd hh ⊢
      have hh' : p.head? ≠ some 48 := by
        rcases hh with h | h
        · omega
        · rwa [head_app _ _ hpn] at h
      have h1 := ih p hpl (fun x hx => hd x (by simp [hx])) (.inr hh')
      have h2 := hd c (by simp)
      unfold isDig at h2
      have hpos := h1.2 hh'
      rw [num_snoc]
      refine ⟨?_, fun _ => by omega⟩
      rw [dg_big _ (by omega), show (10 * num p + (c.toNat - 48)) / 10 = num p by omega, h1.1, show 48 + (10 * num p + (c.toNat - 48)) % 10 = c.toNat by omega]
      simp

theorem dg_not (l : List UInt8) (h : l.head? = some 48) (h2 : 1 < l.length) : dg (num l) ≠ l := by
  intro e
  have hz := dg_head (num l) (by rw [e]; exact h)
  rw [hz, dg_small 0 (by decide)] at e
  rw [← e] at h2
  simp at h2

/-- What is read: at most ten figures, the number's own, not above the greatest number. -/
def rdec (l : List UInt8) : Option Nat :=
  if l.length ≤ 10 ∧ (∀ c ∈ l, isDig c) ∧ num l ≤ 1000000000 ∧ dg (num l) = l then some (num l) else none

theorem rdec_len {l : List UInt8} (h : ¬ l.length ≤ 10) : rdec l = none := by unfold rdec; rw [if_neg (fun x => h x.1)]
theorem rdec_dig {l : List UInt8} {c : UInt8} (hc : c ∈ l) (h : ¬ isDig c) : rdec l = none := by unfold rdec; rw [if_neg (fun x => h (x.2.1 c hc))]
theorem rdec_big {l : List UInt8} (h : 1000000000 < num l) : rdec l = none := by unfold rdec; rw [if_neg (fun x => by have := x.2.2.1; omega)]
theorem rdec_ne {l : List UInt8} (h : dg (num l) ≠ l) : rdec l = none := by unfold rdec; rw [if_neg (fun x => h x.2.2.2)]
theorem rdec_yes {l : List UInt8} (h1 : l.length ≤ 10) (h2 : ∀ c ∈ l, isDig c) (h3 : num l ≤ 1000000000) (h4 : dg (num l) = l) : rdec l = some (num l) := by unfold rdec; rw [if_pos ⟨h1, h2, h3, h4⟩]

/-- How a call ends that has read r. -/
def DEnd (r : Option Nat) (e : Ending) : Prop :=
  match r with
  | none => e = .returned (.tuple #[.int .i64 0, .bool false])
  | some n => e = .returned (.tuple #[.int .i64 n, .bool true])
theorem DEnd.no {r : Option Nat} (h : r = none) : DEnd r (.returned (.tuple #[.int .i64 0, .bool false])) := by subst h; rfl
theorem DEnd.yes {r : Option Nat} {n : Nat} {x : Int} (h : r = some n) (hx : x = n) : DEnd r (.returned (.tuple #[.int .i64 x, .bool true])) := by subst h hx; rfl

/-- k figures have been read; they make n. -/
def DAt (s : ByteArray) (k n : Nat) : Prop := k ≤ s.size ∧ (∀ c ∈ s.data.toList.take k, isDig c) ∧ n = num (s.data.toList.take k)
theorem DAt.start (s : ByteArray) : DAt s 0 0 := ⟨Nat.zero_le _, by simp, rfl⟩
theorem take_here (s : ByteArray) (k : Nat) (h : k < s.size) : s.data.toList.take (k + 1) = s.data.toList.take k ++ [s[k]] := by
  rw [List.take_succ_eq_append_getElem (by rw [len_list]; exact h)]; rfl
theorem DAt.next {s : ByteArray} {k n : Nat} (h : DAt s k n) (hk : k < s.size) (hd : 48 ≤ s[k].toNat ∧ s[k].toNat ≤ 57) : DAt s (k + 1) (10 * n + (s[k].toNat - 48)) := by
  refine ⟨hk, ?_, ?_⟩
  · rw [take_here s k hk]
    intro c hc
    rcases List.mem_append.1 hc with hc | hc
    · exact h.2.1 c hc
    · simp at hc; subst hc; exact hd
  · rw [take_here s k hk, num_snoc, ← h.2.2]
theorem DAt.lt {s : ByteArray} {k n : Nat} (h : DAt s k n) (hk : k ≤ 10) : n < 10000000000 := by
  have := num_lt k (s.data.toList.take k) (by rw [List.length_take, len_list]; have := h.1; omega) h.2.1
  rw [← h.2.2] at this
  exact Nat.lt_of_lt_of_le this (Nat.le_trans (Nat.pow_le_pow_right (by decide) hk) (by decide))
theorem DAt.fin {s : ByteArray} {k n : Nat} (h : DAt s k n) (hk : ¬ k < s.size) : (∀ c ∈ s.data.toList, isDig c) ∧ n = num s.data.toList := by
  have e : s.data.toList.take k = s.data.toList := List.take_of_length_le (by rw [len_list]; omega)
  have := h.2; rw [e] at this; exact this
theorem DAt.bad {s : ByteArray} {k : Nat} (hk : k < s.size) (hd : ¬ (48 ≤ s[k].toNat ∧ s[k].toNat ≤ 57)) : rdec s.data.toList = none := by
  refine rdec_dig (c := s[k]) ?_ hd
  have := drop_here s k hk
  exact List.mem_of_mem_drop (by rw [this]; simp)

/-- All the figures' values are read: they are figures, and their values add up to the number. -/
theorem fvals_all (l : List UInt8) (h : (fvals false l).length = l.length) : (∀ c ∈ l, isDig c) ∧ fvals false l = l.map (fun c => UInt8.ofNat (c.toNat - 48)) := by
  induction l with
  | nil => simp [fvals]
  | cons c l ih =>
    by_cases hd : 48 ≤ c.toNat ∧ c.toNat ≤ 57
    · have hv := fv_digit false c.toNat hd
      rw [fvals_some _ _ _ _ hv] at h ⊢
      have hi := ih (by simpa using h)
      refine ⟨fun x hx => ?_, ?_⟩
      · rcases List.mem_cons.1 hx with rfl | hx
        · exact hd
        · exact hi.1 x hx
      · rw [hi.2]; rfl
    · have hv := fv_no false c.toNat hd (fun x => by simp at x)
      rw [fvals_none _ _ _ hv] at h
      simp at h

theorem fvals_bad (l : List UInt8) (h : (fvals false l).length ≠ l.length) : ∃ c ∈ l, ¬ isDig c := by
  induction l with
  | nil => simp [fvals] at h
  | cons c l ih =>
    by_cases hd : 48 ≤ c.toNat ∧ c.toNat ≤ 57
    · have hv := fv_digit false c.toNat hd
      rw [fvals_some _ _ _ _ hv] at h
      obtain ⟨x, hx, hn⟩ := ih (by simpa using h)
      exact ⟨x, by simp [hx], hn⟩
    · exact ⟨c, by simp, hd⟩

end Go.Proofs.YtpncaomghmeneaaDoor
