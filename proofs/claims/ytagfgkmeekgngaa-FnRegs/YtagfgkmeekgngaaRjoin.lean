/- The walk of the law of registers. -/
import Derived.Test.YtagfgkmeekgngaaStamps
namespace Go.Proofs.Ytagfgkmeekgngaa
open Go.RowKit

/-- Which of two registers counts, as a choice. -/
theorem jreg_pick (v t b v' t' b' : Int) : (jreg v t b v' t' b' = rgv v t b ∧ ¬ ((t = t' ∧ b = b' ∧ v < v') ∨ t < t' ∨ (t = t' ∧ b < b'))) ∨ (jreg v t b v' t' b' = rgv v' t' b' ∧ ((t = t' ∧ b = b' ∧ v < v') ∨ t < t' ∨ (t = t' ∧ b < b'))) := by
  have e := cb_iff (v := v') (t := t') (b := b') (v' := v) (t' := t) (b' := b)
  unfold jreg
  by_cases h : cb v' t' b' v t b = true
  · right; rw [if_pos h]; exact ⟨rfl, by have := e.1 h; omega⟩
  · left; rw [if_neg h]; exact ⟨rfl, fun k => h (e.2 (by omega))⟩

theorem join_is {v t b v' t' b' v1 t1 b1 : Int} (h : jreg v t b v' t' b' = rgv v1 t1 b1) : Hid (∀ w, Calls Try.prog 13 #[.agg #[.int .i64 v, .int .i64 t, .int .i64 b], .agg #[.int .i64 v', .int .i64 t', .int .i64 b']] w fun e w' => e = .returned (.agg #[.int .i64 v1, .int .i64 t1, .int .i64 b1]) ∧ Below w.heap.size w w') := fun w =>
  (joinReg_any v t b v' t' b' w).mono fun _ _ k => ⟨by rw [k.1, h], k.2⟩

/-- The order of registers: by stamp, then by value. -/
def lxb (p q : Int × Int × Int) : Bool := decide ((p.2.1 = q.2.1 ∧ p.2.2 = q.2.2 ∧ p.1 < q.1) ∨ p.2.1 < q.2.1 ∨ (p.2.1 = q.2.1 ∧ p.2.2 < q.2.2))
def pick (p q : Int × Int × Int) : Int × Int × Int := if lxb p q = true then q else p
def rv (p : Int × Int × Int) : Value := rgv p.1 p.2.1 p.2.2
theorem lxb_iff {p q : Int × Int × Int} : lxb p q = true ↔ ((p.2.1 = q.2.1 ∧ p.2.2 = q.2.2 ∧ p.1 < q.1) ∨ p.2.1 < q.2.1 ∨ (p.2.1 = q.2.1 ∧ p.2.2 < q.2.2)) := by unfold lxb; exact decide_eq_true_iff
theorem lxb_tr {p q r : Int × Int × Int} (h : lxb p q = true) (k : lxb q r = true) : lxb p r = true := by
  rw [lxb_iff] at *; omega
theorem lxb_as {p q : Int × Int × Int} (h : lxb p q = true) (k : lxb q p = true) : False := by
  rw [lxb_iff] at *; omega
theorem lxb_to {p q : Int × Int × Int} (h : ¬ lxb p q = true) (k : ¬ lxb q p = true) : p = q := by
  rw [lxb_iff] at *
  obtain ⟨a, b, c⟩ := p
  obtain ⟨a', b', c'⟩ := q
  simp only at h k
  have h1 : b = b' := by omega
  have h2 : c = c' := by omega
  have h3 : a = a' := by omega
  rw [h1, h2, h3]
theorem pick_comm (p q : Int × Int × Int) : pick q p = pick p q := by
  unfold pick
  by_cases h : lxb p q = true
  · rw [if_pos h, if_neg (fun k => lxb_as h k)]
  · by_cases k : lxb q p = true
    · rw [if_pos k, if_neg h]
    · rw [if_neg k, if_neg h]; exact (lxb_to h k).symm
theorem pick_again (p q : Int × Int × Int) : pick (pick p q) p = pick p q := by
  unfold pick
  by_cases h : lxb p q = true
  · rw [if_pos h, if_neg (fun k => lxb_as h k)]
  · rw [if_neg h, if_neg (fun k => lxb_as k k)]
theorem pick_assoc (p q r : Int × Int × Int) : pick p (pick q r) = pick (pick p q) r := by
  unfold pick
  by_cases h : lxb p q = true
  · rw [if_pos h]
    by_cases k : lxb q r = true
    · rw [if_pos k, if_pos (lxb_tr h k)]
    · rw [if_neg k, if_pos h]
  · rw [if_neg h]
    by_cases k : lxb q r = true
    · rw [if_pos k]
    · rw [if_neg k, if_neg h]
      by_cases l : lxb p r = true
      · exfalso
        by_cases m : lxb r q = true
        · exact h (lxb_tr l m)
        · rw [lxb_to k m] at h; exact h l
      · rw [if_neg l]
theorem pick_or (p q : Int × Int × Int) : pick p q = p ∨ pick p q = q := by
  unfold pick; split
  · exact Or.inr rfl
  · exact Or.inl rfl
theorem jreg_rv (p q : Int × Int × Int) : jreg p.1 p.2.1 p.2.2 q.1 q.2.1 q.2.2 = rv (pick p q) := by
  unfold pick
  rcases jreg_pick p.1 p.2.1 p.2.2 q.1 q.2.1 q.2.2 with ⟨e, k⟩ | ⟨e, k⟩
  · rw [if_neg (fun h => k (lxb_iff.1 h)), e]; rfl
  · rw [if_pos (lxb_iff.2 k), e]; rfl

/-- All that the law joins, in letters: a, b, c; j of a and b; x of j and c, z of b and c. -/
theorem join_letters (v1 t1 b1 v2 t2 b2 v3 t3 b3 : Int) : ∃ v4 t4 b4 v5 t5 b5 v6 t6 b6 : Int,
    Hid (∀ w, Calls Try.prog 13 #[.agg #[.int .i64 v1, .int .i64 t1, .int .i64 b1], .agg #[.int .i64 v2, .int .i64 t2, .int .i64 b2]] w fun e w' => e = .returned (.agg #[.int .i64 v4, .int .i64 t4, .int .i64 b4]) ∧ Below w.heap.size w w') ∧ Hid (∀ w, Calls Try.prog 13 #[.agg #[.int .i64 v4, .int .i64 t4, .int .i64 b4], .agg #[.int .i64 v3, .int .i64 t3, .int .i64 b3]] w fun e w' => e = .returned (.agg #[.int .i64 v5, .int .i64 t5, .int .i64 b5]) ∧ Below w.heap.size w w') ∧ Hid (∀ w, Calls Try.prog 13 #[.agg #[.int .i64 v2, .int .i64 t2, .int .i64 b2], .agg #[.int .i64 v3, .int .i64 t3, .int .i64 b3]] w fun e w' => e = .returned (.agg #[.int .i64 v6, .int .i64 t6, .int .i64 b6]) ∧ Below w.heap.size w w') ∧ Hid (∀ w, Calls Try.prog 13 #[.agg #[.int .i64 v1, .int .i64 t1, .int .i64 b1], .agg #[.int .i64 v6, .int .i64 t6, .int .i64 b6]] w fun e w' => e = .returned (.agg #[.int .i64 v5, .int .i64 t5, .int .i64 b5]) ∧ Below w.heap.size w w') ∧ Hid (∀ w, Calls Try.prog 13 #[.agg #[.int .i64 v2, .int .i64 t2, .int .i64 b2], .agg #[.int .i64 v1, .int .i64 t1, .int .i64 b1]] w fun e w' => e = .returned (.agg #[.int .i64 v4, .int .i64 t4, .int .i64 b4]) ∧ Below w.heap.size w w') ∧ Hid (∀ w, Calls Try.prog 13 #[.agg #[.int .i64 v4, .int .i64 t4, .int .i64 b4], .agg #[.int .i64 v1, .int .i64 t1, .int .i64 b1]] w fun e w' => e = .returned (.agg #[.int .i64 v4, .int .i64 t4, .int .i64 b4]) ∧ Below w.heap.size w w') ∧ ((v4 = v1 ∧ t4 = t1 ∧ b4 = b1) ∨ (v4 = v2 ∧ t4 = t2 ∧ b4 = b2 ∧ ¬ (v4 = v1 ∧ t4 = t1 ∧ b4 = b1))) := by
  obtain ⟨p, hp⟩ : ∃ p : Int × Int × Int, p = (v1, t1, b1) := ⟨_, rfl⟩
  obtain ⟨q, hq⟩ : ∃ q : Int × Int × Int, q = (v2, t2, b2) := ⟨_, rfl⟩
  obtain ⟨r, hr⟩ : ∃ r : Int × Int × Int, r = (v3, t3, b3) := ⟨_, rfl⟩
  have hp1 : p.1 = v1 ∧ p.2.1 = t1 ∧ p.2.2 = b1 := by rw [hp]; exact ⟨rfl, rfl, rfl⟩
  have hq1 : q.1 = v2 ∧ q.2.1 = t2 ∧ q.2.2 = b2 := by rw [hq]; exact ⟨rfl, rfl, rfl⟩
  have hr1 : r.1 = v3 ∧ r.2.1 = t3 ∧ r.2.2 = b3 := by rw [hr]; exact ⟨rfl, rfl, rfl⟩
  obtain ⟨rfl, rfl, rfl⟩ := hp1
  obtain ⟨rfl, rfl, rfl⟩ := hq1
  obtain ⟨rfl, rfl, rfl⟩ := hr1
  clear hp hq hr
  refine ⟨(pick p q).1, (pick p q).2.1, (pick p q).2.2, (pick (pick p q) r).1, (pick (pick p q) r).2.1, (pick (pick p q) r).2.2, (pick q r).1, (pick q r).2.1, (pick q r).2.2, join_is (jreg_rv p q), join_is (jreg_rv (pick p q) r), join_is (jreg_rv q r), join_is ?_, join_is ?_, join_is ?_, ?_⟩
  · rw [jreg_rv p (pick q r), pick_assoc]; rfl
  · rw [jreg_rv q p, pick_comm]; rfl
  · rw [jreg_rv (pick p q) p, pick_again]; rfl
  · by_cases h : (pick p q).1 = p.1 ∧ (pick p q).2.1 = p.2.1 ∧ (pick p q).2.2 = p.2.2
    · exact Or.inl h
    · rcases pick_or p q with e | e
      · exact absurd (by rw [e]; exact ⟨rfl, rfl, rfl⟩) h
      · exact Or.inr ⟨by rw [e], by rw [e], by rw [e], h⟩

theorem preg_is {v t b n t' b' v1 t1 b1 : Int} (h : preg v t b n t' b' = rgv v1 t1 b1) : Hid (∀ w, Calls Try.prog 15 #[.agg #[.int .i64 v, .int .i64 t, .int .i64 b], .int .i64 n, .agg #[.int .i64 t', .int .i64 b']] w fun e w' => e = .returned (.agg #[.int .i64 v1, .int .i64 t1, .int .i64 b1]) ∧ Below w.heap.size w w') := fun w =>
  (implPut_any v t b n t' b' w).mono fun _ _ k => ⟨by rw [k.1, h], k.2⟩
theorem put_letters (v t b n t' b' : Int) : ∃ v1 t1 b1 : Int, Hid (∀ w, Calls Try.prog 15 #[.agg #[.int .i64 v, .int .i64 t, .int .i64 b], .int .i64 n, .agg #[.int .i64 t', .int .i64 b']] w fun e w' => e = .returned (.agg #[.int .i64 v1, .int .i64 t1, .int .i64 b1]) ∧ Below w.heap.size w w') ∧ Hid (∀ w, Calls Try.prog 16 #[.agg #[.int .i64 v, .int .i64 t, .int .i64 b], .int .i64 n, .agg #[.int .i64 t', .int .i64 b']] w fun e w' => e = .returned (.agg #[.int .i64 v1, .int .i64 t1, .int .i64 b1]) ∧ Below w.heap.size w w') := by
  have : ∃ v1 t1 b1, preg v t b n t' b' = rgv v1 t1 b1 := by
    unfold preg; split
    · exact ⟨_, _, _, rfl⟩
    · exact ⟨_, _, _, rfl⟩
  obtain ⟨v1, t1, b1, h⟩ := this
  exact ⟨v1, t1, b1, preg_is h, fun w => (specPut_any v t b n t' b' w).mono fun _ _ k => ⟨by rw [k.1, h], k.2⟩⟩
theorem put_later {v t b : Int} (h : (0 ≤ v ∧ v < 3) ∧ 0 ≤ t ∧ t < 12 ∧ 1 ≤ b ∧ b ≤ 2) : preg v t b 7 (t + 1) 1 = rgv 7 (t + 1) 1 := by
  have h1 : rgOk 7 (t + 1) 1 = true := by simp [rgOk, stOk]; omega
  have h2 : later (t + 1) 1 t b = true := later_iff.2 (by omega)
  unfold preg; rw [h1, h2]; rfl
theorem put_elder (t b : Int) : preg 7 (t + 1) 1 3 t b = rgv 7 (t + 1) 1 := by
  have h2 : ¬ later t b (t + 1) 1 = true := by rw [later_iff]; omega
  unfold preg; rw [if_neg (by simp [h2])]
end Go.Proofs.Ytagfgkmeekgngaa
