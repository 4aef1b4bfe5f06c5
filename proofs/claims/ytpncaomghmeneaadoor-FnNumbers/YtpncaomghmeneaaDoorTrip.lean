/- What is written is read back: the plain part. -/
import Derived.Test.YtpncaomghmeneaaDoorDecD
namespace Go.Proofs.YtpncaomghmeneaaDoor
open Go.RowKit

theorem vbs_len_le : ∀ (f n : Nat), n < 128 ^ (f + 1) → (vbs n).length ≤ f + 1
  | 0, n, h => by rw [vbs_small n (by simp at h; omega)]; simp
  | f + 1, n, h => by
    by_cases hn : 127 < n
    · rw [vbs_big n hn]
      have := vbs_len_le f (n / 128) (by rw [Nat.pow_succ] at h; omega)
      simp; omega
    · rw [vbs_small n hn]; simp

theorem rv_vbs (m : Nat) : ∀ (f k acc : Nat) (rest : List UInt8), (vbs m).length ≤ f → acc + m * 128 ^ k ≤ 1000000000 → (0 < m ∨ k = 0) →
    rv f (vbs m ++ rest) k acc = some (acc + m * 128 ^ k, k + (vbs m).length) := by
  induction m using Nat.strongRecOn with
  | _ m ih =>
    intro f k acc rest hf hb hz
    by_cases h : 127 < m
    · rw [vbs_big m h] at hf ⊢
      obtain ⟨g, rfl⟩ : ∃ g, f = g + 1 := ⟨f - 1, by simp at hf; omega⟩
      have e0 : (UInt8.ofNat (m % 128 + 128)).toNat = m % 128 + 128 := by have := u8_nat (m % 128 + 128) (by omega); omega
      have hpow : 128 ^ (k + 1) = 128 ^ k * 128 := Nat.pow_succ ..
      have hsum : m * 128 ^ k = m % 128 * 128 ^ k + m / 128 * 128 ^ (k + 1) := by
        rw [hpow]
        have : m = m % 128 + m / 128 * 128 := by omega
        calc m * 128 ^ k = (m % 128 + m / 128 * 128) * 128 ^ k := by rw [← this]
          _ = m % 128 * 128 ^ k + m / 128 * (128 ^ k * 128) := by rw [Nat.add_mul, Nat.mul_assoc, Nat.mul_comm 128 (128 ^ k)]
      rw [List.cons_append, rv_more g k acc _ _ (by rw [e0]; omega), e0, show (m % 128 + 128) % 128 = m % 128 by omega]
      rw [ih (m / 128) (by omega) g (k + 1) _ rest (by simp at hf; omega) (by omega) (.inl (by omega))]
      simp only [List.length_cons, Option.some.injEq, Prod.mk.injEq]
      omega
    · rw [vbs_small m h] at hf ⊢
      obtain ⟨g, rfl⟩ : ∃ g, f = g + 1 := ⟨f - 1, by simp at hf; omega⟩
      have e0 : (UInt8.ofNat m).toNat = m := by have := u8_nat m (by omega); omega
      rw [List.cons_append, rv_good g k acc _ _ (by rw [e0]; omega) (by rw [e0, show m % 128 = m by omega]; omega), e0, show m % 128 = m by omega]
      simp

theorem dg_dig (n : Nat) : ∀ c ∈ dg n, isDig c := by
  induction n using Nat.strongRecOn with
  | _ n ih =>
    by_cases h : n < 10
    · rw [dg_small n h]
      intro c hc
      obtain rfl := List.mem_singleton.1 hc
      have := u8_48 n h
      show 48 ≤ _ ∧ _ ≤ 57
      omega
    · rw [dg_big n h]
      intro c hc
      rcases List.mem_append.1 hc with hc | hc
      · exact ih (n / 10) (by omega) c hc
      · obtain rfl := List.mem_singleton.1 hc
        have := u8_48 (n % 10) (by omega)
        show 48 ≤ _ ∧ _ ≤ 57
        omega
theorem num_dg (n : Nat) : num (dg n) = n := by
  induction n using Nat.strongRecOn with
  | _ n ih =>
    by_cases h : n < 10
    · rw [dg_small n h]
      have := u8_48 n h
      simp only [num, List.foldl_cons, List.foldl_nil]
      omega
    · rw [dg_big n h, num_snoc, ih (n / 10) (by omega)]
      have := u8_48 (n % 10) (by omega)
      omega
theorem rdec_dg (n : Nat) (h : n ≤ 1000000000) : rdec (dg n) = some n := by
  rw [rdec_yes (by have := dg_len 9 n (by omega); omega) (dg_dig n) (by rw [num_dg]; exact h) (by rw [num_dg]), num_dg]

theorem fig_back : ∀ x : Fin 16, fv true (fig x.val).toNat = some x.val := by decide
theorem unh_hex (l : List UInt8) : unh (hexOf l) = some l := by
  induction l with
  | nil => rfl
  | cons c l ih =>
    have hc := c.toNat_lt
    have h1 := fig_back ⟨c.toNat / 16, by omega⟩
    have h2 := fig_back ⟨c.toNat % 16, by omega⟩
    simp only at h1 h2
    simp only [hexOf, unh, h1, h2, ih, Option.map_some, Option.some.injEq]
    congr 1
    rw [show 16 * (c.toNat / 16) + c.toNat % 16 = c.toNat by omega]
    simp
end Go.Proofs.YtpncaomghmeneaaDoor
