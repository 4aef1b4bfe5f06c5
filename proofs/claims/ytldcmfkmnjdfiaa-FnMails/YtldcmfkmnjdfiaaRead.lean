/- The walks of the two functions that read a number in sevens. -/
import Derived.Test.YtldcmfkmnjdfiaaMa
import Derived.BigQuiet
import Derived.Deep.QuietTactic
namespace Go.Proofs.Ytldcmfkmnjdfiaa
open Go.RowKit

/-- What is read of the bytes l, k bytes having come ahead that make n; at most f bytes more. -/
def rv : Nat → List UInt8 → Nat → Nat → Option (Nat × Nat)
  | 0, _, _, _ => none
  | _ + 1, [], _, _ => none
  | f + 1, c :: l, k, n =>
    let m := n + c.toNat % 128 * 128 ^ k
    if c.toNat < 128 then (if 1000000000 < m ∨ (c.toNat = 0 ∧ 0 < k) then none else some (m, k + 1)) else rv f l (k + 1) m

theorem rv_end (f k n : Nat) : rv f [] k n = none := by cases f <;> rfl
theorem rv_more (f k n : Nat) (c : UInt8) (l : List UInt8) (h : ¬ c.toNat < 128) : rv (f + 1) (c :: l) k n = rv f l (k + 1) (n + c.toNat % 128 * 128 ^ k) := by
  simp [rv, h]
theorem rv_bad (f k n : Nat) (c : UInt8) (l : List UInt8) (h : c.toNat < 128) (h2 : 1000000000 < n + c.toNat % 128 * 128 ^ k ∨ (c.toNat = 0 ∧ 0 < k)) : rv (f + 1) (c :: l) k n = none := by
  simp only [rv]; rw [if_pos h, if_pos h2]
theorem rv_good (f k n : Nat) (c : UInt8) (l : List UInt8) (h : c.toNat < 128) (h2 : ¬ (1000000000 < n + c.toNat % 128 * 128 ^ k ∨ (c.toNat = 0 ∧ 0 < k))) : rv (f + 1) (c :: l) k n = some (n + c.toNat % 128 * 128 ^ k, k + 1) := by
  simp only [rv]; rw [if_pos h, if_neg h2]

/-- The number that a row of bytes makes, seven bits each. -/
def val : List UInt8 → Nat
  | [] => 0
  | c :: r => c.toNat % 128 + 128 * val r

theorem val_snoc (p : List UInt8) (c : UInt8) : val (p ++ [c]) = val p + c.toNat % 128 * 128 ^ p.length := by
  induction p with
  | nil => simp [val]
  | cons b p ih => simp only [List.cons_append, val, ih, List.length_cons, Nat.pow_succ]; rw [Nat.mul_add]; have : 128 * (c.toNat % 128 * 128 ^ p.length) = c.toNat % 128 * (128 ^ p.length * 128) := by rw [Nat.mul_comm 128, Nat.mul_assoc]
                   omega

theorem vbs_last (n : Nat) : (vbs n).getLast? = some 0 → n = 0 := by
  induction n using Nat.strongRecOn with
  | _ n ih =>
    by_cases h : 127 < n
    · rw [vbs_big n h]
      intro hl
      have hne : vbs (n / 128) ≠ [] := by
        by_cases h2 : 127 < n / 128
        · rw [vbs_big _ h2]; simp
        · rw [vbs_small _ h2]; simp
      have := ih (n / 128) (by omega) (by simpa [List.getLast?_cons, List.getLast?_eq_some_getLast hne] using hl)
      omega
    · rw [vbs_small n h]
      simp only [List.getLast?_singleton, Option.some.injEq]
      intro hl
      have := congrArg UInt8.toNat hl
      simp [UInt8.toNat_ofNat'] at this
      omega

theorem vbs_val (p : List UInt8) (c : UInt8) (hp : ∀ b ∈ p, ¬ b.toNat < 128) (hc : c.toNat < 128) (h0 : p = [] ∨ c.toNat ≠ 0) : vbs (val (p ++ [c])) = p ++ [c] := by
  induction p with
  | nil =>
    simp only [List.nil_append, val]
    rw [vbs_small _ (by omega)]
    simp
    apply UInt8.toNat_inj.1
    simp [UInt8.toNat_ofNat']; omega
  | cons b p ih =>
    have hc0 : c.toNat ≠ 0 := by simpa using h0
    have hb := hp b (by simp)
    have hv : vbs (val (p ++ [c])) = p ++ [c] := ih (fun x hx => hp x (by simp [hx])) (.inr hc0)
    have hpos : 0 < val (p ++ [c]) := by
      rw [val_snoc]
      have : 0 < c.toNat % 128 * 128 ^ p.length := Nat.mul_pos (by omega) (Nat.pow_pos (by decide))
      omega
    simp only [List.cons_append, val]
    have hbl : b.toNat < 256 := b.toNat_lt
    rw [vbs_big _ (by omega)]
    rw [show (b.toNat % 128 + 128 * val (p ++ [c])) / 128 = val (p ++ [c]) by omega, hv]
    rw [show (b.toNat % 128 + 128 * val (p ++ [c])) % 128 + 128 = b.toNat by omega]
    simp

theorem vbs_not (p : List UInt8) (c : UInt8) (hc : c.toNat = 0) (hp : p ≠ []) : vbs (val (p ++ [c])) ≠ p ++ [c] := by
  intro h
  have hc' : c = 0 := UInt8.toNat_inj.1 (by simpa using hc)
  have hz := vbs_last (val (p ++ [c])) (by rw [h]; simp [hc'])
  rw [hz, vbs_small 0 (by decide)] at h
  have := congrArg List.length h
  simp at this
  exact hp this

/-- How a call ends that has read r from the place a on. -/
def RvEnd (r : Option (Nat × Nat)) (a : Nat) (e : Ending) : Prop :=
  match r with
  | none => e = .returned (.tuple #[.int .i64 0, .int .i64 0, .bool false])
  | some (n, k) => e = .returned (.tuple #[.int .i64 n, .int .i64 (a + k : Nat), .bool true])

theorem RvEnd.no {r : Option (Nat × Nat)} {a : Nat} (h : r = none) : RvEnd r a (.returned (.tuple #[.int .i64 0, .int .i64 0, .bool false])) := by subst h; rfl
theorem RvEnd.yes {r : Option (Nat × Nat)} {a n k : Nat} {x y : Int} (h : r = some (n, k)) (hx : x = n) (hy : y = (a + k : Nat)) : RvEnd r a (.returned (.tuple #[.int .i64 x, .int .i64 y, .bool true])) := by subst h hx hy; rfl

theorem wrap64_ok (x : Int) (h1 : -9223372036854775808 ≤ x) (h2 : x ≤ 9223372036854775807) : wrap64 x = x := by unfold wrap64; omega

theorem val_lt (p : List UInt8) : val p < 128 ^ p.length := by
  induction p with
  | nil => simp [val]
  | cons b p ih => simp only [val, List.length_cons, Nat.pow_succ]; omega

/-- k bytes that go on have been read from the place a on; they make n; what is left is read as the whole is. -/
def RvAt (s : ByteArray) (a k n : Nat) : Prop :=
  a + k ≤ s.size ∧ n = val ((s.data.toList.drop a).take k) ∧ (∀ b ∈ (s.data.toList.drop a).take k, ¬ b.toNat < 128) ∧ rv (5 - k) (s.data.toList.drop (a + k)) k n = rv 5 (s.data.toList.drop a) 0 0

theorem RvAt.start (s : ByteArray) (a : Nat) (h : a ≤ s.size) : RvAt s a 0 0 := ⟨h, rfl, by simp, rfl⟩

theorem len_list (s : ByteArray) : s.data.toList.length = s.size := Array.length_toList

theorem drop_here (s : ByteArray) (j : Nat) (h : j < s.size) : s.data.toList.drop j = s[j] :: s.data.toList.drop (j + 1) := by
  rw [List.drop_eq_getElem_cons (by rw [len_list]; exact h)]; rfl

theorem take_from (s : ByteArray) (a k : Nat) (h : a + k < s.size) : (s.data.toList.drop a).take (k + 1) = (s.data.toList.drop a).take k ++ [s[a + k]] := by
  rw [List.take_succ_eq_append_getElem (by rw [List.length_drop, len_list]; omega)]
  simp
  rfl

theorem RvAt.len {s : ByteArray} {a k n : Nat} (h : RvAt s a k n) : ((s.data.toList.drop a).take k).length = k := by
  rw [List.length_take, List.length_drop, len_list]; have := h.1; omega

theorem RvAt.lt {s : ByteArray} {a k n : Nat} (h : RvAt s a k n) : n < 128 ^ k := by
  have := val_lt ((s.data.toList.drop a).take k); rw [h.len, ← h.2.1] at this; exact this

theorem RvAt.val {s : ByteArray} {a k n m : Nat} (h : RvAt s a k n) (hj : a + k < s.size) (hm : n + s[a + k].toNat % 128 * 128 ^ k = m) : m = val ((s.data.toList.drop a).take k ++ [s[a + k]]) := by
  rw [val_snoc, h.len, ← h.2.1, hm]

theorem RvAt.next {s : ByteArray} {a k n m : Nat} (h : RvAt s a k n) (hk : k < 5) (hj : a + k < s.size) (hm : n + s[a + k].toNat % 128 * 128 ^ k = m) (hc : ¬ s[a + k].toNat < 128) : RvAt s a (k + 1) m := by
  refine ⟨hj, ?_, ?_, ?_⟩
  · rw [take_from s a k hj]; exact h.val hj hm
  · rw [take_from s a k hj]
    intro b hb
    rcases List.mem_append.1 hb with hb | hb
    · exact h.2.2.1 b hb
    · simp at hb; subst hb; exact hc
  · rw [← h.2.2.2, drop_here s (a + k) hj]
    obtain ⟨f, hf⟩ : ∃ f, 5 - k = f + 1 := ⟨4 - k, by omega⟩
    rw [hf, rv_more _ _ _ _ _ hc, hm, show 5 - (k + 1) = f by omega]; rfl

theorem RvAt.big {s : ByteArray} {a k n m : Nat} (h : RvAt s a k n) (hk : k < 5) (hj : a + k < s.size) (hm : n + s[a + k].toNat % 128 * 128 ^ k = m) (hc : s[a + k].toNat < 128) (hb : 1000000000 < m ∨ (s[a + k].toNat = 0 ∧ 0 < k)) : rv 5 (s.data.toList.drop a) 0 0 = none := by
  rw [← h.2.2.2, drop_here s (a + k) hj]
  obtain ⟨f, hf⟩ : ∃ f, 5 - k = f + 1 := ⟨4 - k, by omega⟩
  rw [hf, rv_bad _ _ _ _ _ hc (by rw [hm]; exact hb)]

theorem RvAt.good {s : ByteArray} {a k n m : Nat} (h : RvAt s a k n) (hk : k < 5) (hj : a + k < s.size) (hm : n + s[a + k].toNat % 128 * 128 ^ k = m) (hc : s[a + k].toNat < 128) (hb : ¬ (1000000000 < m ∨ (s[a + k].toNat = 0 ∧ 0 < k))) : rv 5 (s.data.toList.drop a) 0 0 = some (m, k + 1) := by
  rw [← h.2.2.2, drop_here s (a + k) hj]
  obtain ⟨f, hf⟩ : ∃ f, 5 - k = f + 1 := ⟨4 - k, by omega⟩
  rw [hf, rv_good _ _ _ _ _ hc (by rw [hm]; exact hb), hm]

theorem RvAt.out {s : ByteArray} {a k n : Nat} (h : RvAt s a k n) (hk : ¬ (k < 5 ∧ a + k < s.size)) : rv 5 (s.data.toList.drop a) 0 0 = none := by
  rw [← h.2.2.2]
  by_cases h5 : k < 5
  · rw [List.drop_eq_nil_of_le (by rw [len_list]; omega), rv_end]
  · rw [show 5 - k = 0 by omega]; rfl

theorem extract_here (s : ByteArray) (a k : Nat) (h : a + k < s.size) : (s.extract a (a + k + 1)).toList = (s.data.toList.drop a).take k ++ [s[a + k]] := by
  rw [ByteArray.toList_eq, ← take_from s a k h, ByteArray.data_extract]
  simp
  congr 1; omega

/-- The model's test: is what VarText writes of the number the very bytes that stand there? -/
theorem RvAt.test {s : ByteArray} {a k n m : Nat} (h : RvAt s a k n) (hj : a + k < s.size) (hm : n + s[a + k].toNat % 128 * 128 ^ k = m) (hc : s[a + k].toNat < 128) :
    (vbs m == (s.extract a (a + k + 1)).toList) = !decide (s[a + k].toNat = 0 ∧ 0 < k) := by
  rw [extract_here s a k hj, h.val hj hm]
  by_cases h0 : s[a + k].toNat = 0 ∧ 0 < k
  · have hne : (s.data.toList.drop a).take k ≠ [] := fun e => by have := h.len; rw [e] at this; simp at this; omega
    have := vbs_not _ _ h0.1 hne
    simp [h0, this]
  · have := vbs_val ((s.data.toList.drop a).take k) s[a + k] h.2.2.1 hc (by
      by_cases hz : s[a + k].toNat = 0
      · left; apply List.eq_nil_of_length_eq_zero; rw [h.len]; omega
      · right; exact hz)
    rw [this]
    simp only [beq_self_eq_true]
    simp [h0]

theorem RvAt.endNe {s : ByteArray} {a k n m : Nat} (h : RvAt s a k n) (hk : k < 5) (hj : a + k < s.size) (hm : n + s[a + k].toNat % 128 * 128 ^ k = m) (hc : s[a + k].toNat < 128)
    (ht : (!vbs m == (s.extract a (a + k + 1)).toList) = true) : rv 5 (s.data.toList.drop a) 0 0 = none := by
  rw [h.test hj hm hc] at ht
  exact h.big hk hj hm hc (.inr (by simpa using ht))

theorem RvAt.endEq {s : ByteArray} {a k n m : Nat} (h : RvAt s a k n) (hk : k < 5) (hj : a + k < s.size) (hm : n + s[a + k].toNat % 128 * 128 ^ k = m) (hc : s[a + k].toNat < 128) (hb : ¬ 1000000000 < m)
    (ht : (!vbs m == (s.extract a (a + k + 1)).toList) = false) : rv 5 (s.data.toList.drop a) 0 0 = some (m, k + 1) := by
  rw [h.test hj hm hc, Bool.not_not] at ht
  exact h.good hk hj hm hc (fun h => h.elim hb (of_decide_eq_false ht))

end Go.Proofs.Ytldcmfkmnjdfiaa
