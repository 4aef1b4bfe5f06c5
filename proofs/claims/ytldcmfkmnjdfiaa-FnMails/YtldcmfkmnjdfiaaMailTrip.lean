/- What is written of a mail is read back; what is read is what is written. -/
import Derived.Test.YtldcmfkmnjdfiaaLawMailR
import Derived.Test.YtldcmfkmnjdfiaaMailRm
namespace Go.Proofs.Ytldcmfkmnjdfiaa
open Go.RowKit

theorem vbs_len_le : ∀ (f n : Nat), n < 128 ^ (f + 1) → (vbs n).length ≤ f + 1
  | 0, n, h => by rw [vbs_small n (by simp at h; omega)]; simp
  | f + 1, n, h => by
    by_cases hn : 127 < n
    · rw [vbs_big n hn]
      have := vbs_len_le f (n / 128) (by rw [Nat.pow_succ] at h; omega)
      simp; omega
    · rw [vbs_small n hn]; simp

theorem rv_vbs (m : Nat) : ∀ (f k acc : Nat) (rest : List UInt8), (vbs m).length ≤ f → acc + m * 128 ^ k ≤ 1000000000 → (0 < m ∨ k = 0) →
    rv f (vbs m ++ rest) k acc = some (acc + m * 128 ^ k, k + (vbs m).length) := by
  induction m using Nat.strongRecOn with
  | _ m ih =>
    intro f k acc rest hf hb hz
    by_cases h : 127 < m
    · rw [vbs_big m h] at hf ⊢
      obtain ⟨g, rfl⟩ : ∃ g, f = g + 1 := ⟨f - 1, by simp at hf; omega⟩
      have e0 : (UInt8.ofNat (m % 128 + 128)).toNat = m % 128 + 128 := by have := u8_nat (m % 128 + 128) (by omega); omega
      have hpow : 128 ^ (k + 1) = 128 ^ k * 128 := Nat.pow_succ ..
      have hsum : m * 128 ^ k = m % 128 * 128 ^ k + m / 128 * 128 ^ (k + 1) := by
        rw [hpow]
        have e1 : m = m % 128 + m / 128 * 128 := by omega
        have e2 : m * 128 ^ k = (m % 128 + m / 128 * 128) * 128 ^ k := by rw [← e1]
        rw [e2, Nat.add_mul, Nat.mul_assoc, Nat.mul_comm 128 (128 ^ k)]
      rw [List.cons_append, rv_more g k acc _ _ (by rw [e0]; omega), e0, show (m % 128 + 128) % 128 = m % 128 by omega]
      rw [ih (m / 128) (by omega) g (k + 1) _ rest (by simp at hf; omega) (by omega) (.inl (by omega))]
      simp only [List.length_cons, Option.some.injEq, Prod.mk.injEq]
      omega
    · rw [vbs_small m h] at hf ⊢
      obtain ⟨g, rfl⟩ : ∃ g, f = g + 1 := ⟨f - 1, by simp at hf; omega⟩
      have e0 : (UInt8.ofNat m).toNat = m := by have := u8_nat m (by omega); omega
      rw [List.cons_append, rv_good g k acc _ _ (by rw [e0]; omega) (by rw [e0, show m % 128 = m by omega]; omega), e0, show m % 128 = m by omega]
      simp

/-- What is read as a number is the number's own bytes. -/
theorem rv_own : ∀ (f : Nat) (L p : List UInt8) (n d : Nat), (∀ b ∈ p, ¬ b.toNat < 128) → rv f L p.length (val p) = some (n, d) → vbs n = (p ++ L).take d ∧ d ≤ (p ++ L).length
  | 0, _, _, _, _, _, h => by simp [rv] at h
  | _ + 1, [], _, _, _, _, h => by simp [rv] at h
  | f + 1, c :: L, p, n, d, hp, h => by
    by_cases hc : c.toNat < 128
    · by_cases h2 : 1000000000 < val p + c.toNat % 128 * 128 ^ p.length ∨ (c.toNat = 0 ∧ 0 < p.length)
      · rw [rv_bad f _ _ c L hc h2] at h; cases h
      · rw [rv_good f _ _ c L hc h2] at h
        simp only [Option.some.injEq, Prod.mk.injEq] at h
        obtain ⟨rfl, rfl⟩ := h
        rw [← val_snoc, vbs_val p c hp hc (by
          by_cases hz : c.toNat = 0
          · left; exact List.eq_nil_of_length_eq_zero (by omega)
          · right; exact hz)]
        constructor
        · rw [show p ++ c :: L = (p ++ [c]) ++ L by simp, List.take_append_of_le_length (by simp), List.take_of_length_le (by simp)]
        · simp
    · rw [rv_more f _ _ c L hc] at h
      have e : rv f L (p ++ [c]).length (val (p ++ [c])) = some (n, d) := by rw [val_snoc, List.length_append]; exact h
      have := rv_own f L (p ++ [c]) n d (by intro b hb; rcases List.mem_append.1 hb with hb | hb; exact hp b hb; simp at hb; rw [hb]; exact hc) e
      simpa using this

/-- A text's bytes. -/
abbrev bl (s : ByteArray) : List UInt8 := s.data.toList
theorem bl_app (s t : ByteArray) : bl (s ++ t) = bl s ++ bl t := by simp [bl, ByteArray.data_append]
theorem bl_vi (n : Int) : bl (vi n) = vbs n.toNat := rfl
theorem bl_len (s : ByteArray) : (bl s).length = s.size := Array.length_toList
theorem bl_inj {s t : ByteArray} (h : bl s = bl t) : s = t := by cases s; cases t; simp only [ByteArray.mk.injEq]; exact Array.toList_inj.1 h

/-- A number stands at b. -/
theorem rd_here {s : ByteArray} {b n : Int} {R : List UInt8} (h0 : 0 ≤ b) (hb : b ≤ s.size) (hn : 0 ≤ n ∧ n ≤ 1000000000) (h : (bl s).drop b.toNat = vbs n.toNat ++ R) : rd s b = some (n, b + (vbs n.toNat).length) := by
  obtain ⟨k, rfl⟩ : ∃ k : Nat, b = k := ⟨b.toNat, by omega⟩
  rw [rd_in (by omega)]
  have h' : s.data.toList.drop k = vbs n.toNat ++ R := by simpa using h
  rw [h', rv_vbs n.toNat 5 0 0 R (vbs_len_le 4 _ (by omega)) (by omega) (.inr rfl)]
  simp only [Option.map_some, Option.some.injEq, Prod.mk.injEq]
  omega
/-- What was read as a number stood there. -/
theorem rd_stood {s : ByteArray} {b n c : Int} (h : rd s b = some (n, c)) : (bl s).drop b.toNat = vbs n.toNat ++ (bl s).drop c.toNat := by
  have hb := rd_some h
  obtain ⟨k, rfl⟩ : ∃ k : Nat, b = k := ⟨b.toNat, by omega⟩
  rw [rd_in (by omega)] at h
  cases hr : rv 5 (s.data.toList.drop k) 0 0 with
  | none => rw [hr] at h; cases h
  | some p =>
    obtain ⟨m, d⟩ := p
    rw [hr] at h
    simp only [Option.map_some, Option.some.injEq, Prod.mk.injEq] at h
    obtain ⟨rfl, rfl⟩ := h
    have o := rv_own 5 _ [] m d (by simp) hr
    have e : ((k : Int) + (d : Int)).toNat = k + d := by omega
    rw [e, Int.toNat_natCast, Int.toNat_natCast, ← List.drop_drop, o.1, List.nil_append]
    exact (List.take_append_drop d _).symm

def vil (nums : List Int) : List UInt8 := nums.flatMap fun n => vbs n.toNat
theorem vil_app (a b : List Int) : vil (a ++ b) = vil a ++ vil b := by simp [vil]
theorem vil_one (n : Int) : vil [n] = vbs n.toNat := by simp [vil]
theorem vil_rts (l : List R3) : vil (flat l) = bl (rts l) := by
  induction l with
  | nil => rfl
  | cons p l ih => simp only [flat, rts, rt, bl_app, bl_vi, ← ih]; simp [vil]
theorem mtx_bl (g u : Int) (l : List R3) (t : ByteArray) : bl (mtx g u l t) = vil (g :: u :: flat l) ++ (vbs t.size ++ bl t) := by
  unfold mtx
  simp only [bl_app, bl_vi, ← vil_rts, Int.toNat_natCast]
  simp [vil]

/-- Numbers stand from a on. -/
theorem rds_here {s : ByteArray} {a : Int} {nums : List Int} {R : List UInt8} (h0 : 0 ≤ a) (ha : a ≤ s.size) (hn : ∀ n ∈ nums, 0 ≤ n ∧ n ≤ 1000000000) (h : (bl s).drop a.toNat = vil nums ++ R) :
    ∀ k, k ≤ nums.length → rds s a k = some (nums.take k, a + (vil (nums.take k)).length) ∧ a + (vil (nums.take k)).length ≤ s.size
  | 0, _ => by simp [rds, vil]; exact ha
  | k + 1, hk => by
    have hkl : k < nums.length := by omega
    obtain ⟨ih, hs⟩ := rds_here h0 ha hn h k (by omega)
    have e : nums = nums.take k ++ ([nums[k]] ++ nums.drop (k + 1)) := by
      rw [List.singleton_append, ← List.drop_eq_getElem_cons hkl, List.take_append_drop]
    have hd : (bl s).drop (a + (vil (nums.take k)).length).toNat = vbs nums[k].toNat ++ (vil (nums.drop (k + 1)) ++ R) := by
      have e2 : (a + ((vil (nums.take k)).length : Int)).toNat = a.toNat + (vil (nums.take k)).length := by omega
      rw [e2, ← List.drop_drop, h]
      have e3 : vil nums = vil (nums.take k) ++ (vbs nums[k].toNat ++ vil (nums.drop (k + 1))) := by
        rw [← vil_one, ← vil_app, ← vil_app, ← e]
      rw [e3, List.append_assoc, List.drop_left, List.append_assoc]
    have hr := rd_here (s := s) (b := a + (vil (nums.take k)).length) (by omega) hs (hn _ (List.getElem_mem hkl)) hd
    have hb := rd_some hr
    have et : nums.take (k + 1) = nums.take k ++ [nums[k]] := take_next nums k hkl
    have el : (vil (nums.take (k + 1))).length = (vil (nums.take k)).length + (vbs nums[k].toNat).length := by rw [et, vil_app, vil_one, List.length_append]
    refine ⟨?_, by rw [el]; omega⟩
    rw [rds, ih]
    simp only [Option.bind_some]
    rw [hr, el, et]
    simp only [Option.map_some, Option.some.injEq, Prod.mk.injEq, true_and]
    omega
theorem rds_stood {s : ByteArray} {a : Int} : ∀ (k : Nat) {nums : List Int} {b : Int}, rds s a k = some (nums, b) → (bl s).drop a.toNat = vil nums ++ (bl s).drop b.toNat
  | 0, nums, b, h => by simp only [rds, Option.some.injEq, Prod.mk.injEq] at h; rw [← h.1, ← h.2]; rfl
  | k + 1, nums, b, h => by
    rw [rds] at h
    cases h1 : rds s a k with
    | none => rw [h1] at h; cases h
    | some p =>
      rw [h1] at h; simp only [Option.bind_some] at h
      cases h2 : rd s p.2 with
      | none => rw [h2] at h; cases h
      | some q =>
        rw [h2] at h
        simp only [Option.map_some, Option.some.injEq, Prod.mk.injEq] at h
        rw [← h.1, ← h.2, rds_stood k (nums := p.1) (b := p.2) h1, rd_stood (n := q.1) (c := q.2) h2, vil_app, vil_one, List.append_assoc]

/-- A short text stands at b. -/
theorem rsh_here {s t : ByteArray} {b : Int} {R : List UInt8} (h0 : 0 ≤ b) (hb : b ≤ s.size) (ht : t.size ≤ 20000) (h : (bl s).drop b.toNat = (vbs t.size ++ bl t) ++ R) : rsh s b = some (t, b + (vbs t.size).length + t.size) := by
  have hr := rd_here (s := s) (b := b) (n := t.size) h0 hb (by omega) (R := bl t ++ R) (by rw [h, Int.toNat_natCast, List.append_assoc])
  rw [Int.toNat_natCast] at hr
  have hs := rd_some hr
  have hst := rd_stood hr
  rw [h, Int.toNat_natCast, List.append_assoc] at hst
  have hd := (List.append_cancel_left hst).symm
  have hl := congrArg List.length hd
  rw [List.length_drop, List.length_append, bl_len, bl_len] at hl
  unfold rsh
  rw [hr]
  simp only [Option.bind_some]
  rw [if_pos (by omega)]
  have e : s.extract (b + ((vbs t.size).length : Int)).toNat (b + ((vbs t.size).length : Int) + (t.size : Int)).toNat = t := by
    apply bl_inj
    have e1 : (b + ((vbs t.size).length : Int) + (t.size : Int)).toNat = (b + ((vbs t.size).length : Int)).toNat + t.size := by omega
    rw [e1]
    simp only [bl, ByteArray.data_extract, Array.toList_extract, List.extract_eq_take_drop]
    have e2 : (b + ((vbs t.size).length : Int)).toNat + t.size - (b + ((vbs t.size).length : Int)).toNat = t.size := by omega
    rw [e2]
    have hd' : s.data.toList.drop (b + ((vbs t.size).length : Int)).toNat = bl t ++ R := hd
    rw [hd', List.take_append_of_le_length (by rw [bl_len]; exact Nat.le_refl _), List.take_of_length_le (by rw [bl_len]; exact Nat.le_refl _)]
  rw [e]
theorem rsh_stood {s t : ByteArray} {b c : Int} (h : rsh s b = some (t, c)) : (bl s).drop b.toNat = (vbs t.size ++ bl t) ++ (bl s).drop c.toNat ∧ 0 ≤ c ∧ c ≤ s.size := by
  unfold rsh at h
  cases hr : rd s b with
  | none => rw [hr] at h; cases h
  | some p =>
    obtain ⟨n, d⟩ := p
    rw [hr] at h
    simp only [Option.bind_some] at h
    split at h
    · next hc =>
      simp only [Option.some.injEq, Prod.mk.injEq] at h
      obtain ⟨rfl, rfl⟩ := h
      have hs := rd_some hr
      have e1 : (d + n).toNat = d.toNat + n.toNat := by omega
      have ht : (s.extract d.toNat (d + n).toNat).size = n.toNat := by rw [ByteArray.size_extract]; omega
      have hb : bl (s.extract d.toNat (d + n).toNat) = ((bl s).drop d.toNat).take n.toNat := by
        simp only [bl, ByteArray.data_extract, Array.toList_extract, List.extract_eq_take_drop]
        rw [e1, show d.toNat + n.toNat - d.toNat = n.toNat by omega]
      refine ⟨?_, by omega, by omega⟩
      rw [rd_stood hr, ht, hb, List.append_assoc, e1, ← List.drop_drop, List.take_append_drop]
    · cases h

theorem flat_in {l : List R3} (h : ∀ p ∈ l, okp p = true) : ∀ n ∈ flat l, 0 ≤ n ∧ n ≤ 1000000000 := by
  induction l with
  | nil => simp [flat]
  | cons p l ih =>
    have hp := okp_in (h p (List.mem_cons_self ..))
    intro n hn
    simp only [flat, List.mem_cons] at hn
    rcases hn with rfl | rfl | rfl | hn
    · omega
    · omega
    · omega
    · exact ih (fun q hq => h q (List.mem_cons_of_mem _ hq)) n hn

/-- A right mail whose text stands at a is read. -/
theorem rm6_here {s : ByteArray} {a g u : Int} {l : List R3} {t : ByteArray} {R : List UInt8} (hm : mlOk g u l t = true) (h0 : 0 ≤ a) (ha : a ≤ s.size) (h : (bl s).drop a.toNat = bl (mtx g u l t) ++ R) : rm6 s a = (g, u, l, t, a + (mtx g u l t).size, true) := by
  obtain ⟨hg, hu, h3, hp, ht⟩ := mlOk_in hm
  rw [mtx_bl, List.append_assoc] at h
  have hn : ∀ n ∈ (g :: u :: flat l), 0 ≤ n ∧ n ≤ 1000000000 := by
    intro n hn
    simp only [List.mem_cons] at hn
    rcases hn with rfl | rfl | hn
    · omega
    · omega
    · exact flat_in hp n hn
  have e11 : (g :: u :: flat l).length = 11 := by simp [flat_len, h3]
  obtain ⟨k1, k2⟩ := rds_here h0 ha hn h 11 (by omega)
  rw [List.take_of_length_le (by omega)] at k1 k2
  have hs := rsh_here (t := t) (s := s) (b := a + ((vil (g :: u :: flat l)).length : Int)) (R := R) (by omega) k2 (by omega) (by
    have e : (a + ((vil (g :: u :: flat l)).length : Int)).toNat = a.toNat + (vil (g :: u :: flat l)).length := by omega
    rw [e, ← List.drop_drop, h, List.drop_left])
  rw [rm6_good k1 hs hm]
  have el : (mtx g u l t).size = (vil (g :: u :: flat l)).length + ((vbs t.size).length + t.size) := by
    rw [← bl_len, mtx_bl, List.length_append, List.length_append, bl_len]
  simp only [Prod.mk.injEq, true_and, and_true]
  omega
theorem flat_regs : ∀ (r : List Int), r.length % 3 = 0 → flat (regs r) = r
  | [], _ => rfl
  | [_], h => by simp at h
  | [_, _], h => by simp at h
  | x :: y :: z :: r, h => by
    have := flat_regs r (by simp only [List.length_cons] at h; omega)
    simp only [regs, flat, this]
theorem rds_long {s : ByteArray} {a : Int} : ∀ (k : Nat) {r : List Int} {b : Int}, rds s a k = some (r, b) → r.length = k
  | 0, r, b, h => by simp only [rds, Option.some.injEq, Prod.mk.injEq] at h; rw [← h.1]; rfl
  | k + 1, r, b, h => by
    rw [rds] at h
    cases h1 : rds s a k with
    | none => rw [h1] at h; cases h
    | some p =>
      rw [h1] at h; simp only [Option.bind_some] at h
      cases h2 : rd s p.2 with
      | none => rw [h2] at h; cases h
      | some q =>
        rw [h2] at h
        simp only [Option.map_some, Option.some.injEq, Prod.mk.injEq] at h
        rw [← h.1, List.length_append, rds_long k h1]; rfl
/-- What is read as a mail is a right one, and its text stands there. -/
theorem rm6_stood {s : ByteArray} {a g u : Int} {l : List R3} {t : ByteArray} {c : Int} (h : rm6 s a = (g, u, l, t, c, true)) : mlOk g u l t = true ∧ ∃ R, (bl s).drop a.toNat = bl (mtx g u l t) ++ R := by
  unfold rm6 at h
  split at h
  · next g' u' r b hr =>
    split at h
    · next t' c' hs =>
      split at h
      · next hm =>
        simp only [Prod.mk.injEq] at h
        obtain ⟨rfl, rfl, rfl, rfl, rfl, _⟩ := h
        refine ⟨hm, (bl s).drop c'.toNat, ?_⟩
        have k := mlOk_in hm
        have hl := rds_stood 11 hr
        rw [hl, (rsh_stood hs).1, mtx_bl, List.append_assoc]
        have hrr : flat (regs r) = r := flat_regs r (by have := rds_long 11 hr; simp only [List.length_cons] at this; omega)
        rw [hrr]
        simp only [List.append_assoc]
      · simp [zero6] at h
    · simp [zero6] at h
  · simp [zero6] at h
end Go.Proofs.Ytldcmfkmnjdfiaa
