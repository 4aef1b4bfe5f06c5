/- Registers joined: the model's own answer, and the law's walk. -/
import Derived.Test.YtfmacodnjhegcalExact
import Derived.Deep.Cut
namespace Go.Proofs.Ytfmacodnjhegcal
open Go.RowKit

theorem later_iff {t b t' b' : Int} : later t b t' b' = true ↔ (t' < t ∨ (t = t' ∧ b' < b)) := by
  unfold later; split <;> simp <;> omega
theorem cb_iff {v t b v' t' b' : Int} : cb v t b v' t' b' = true ↔ ((t = t' ∧ b = b' ∧ v' < v) ∨ t' < t ∨ (t = t' ∧ b' < b)) := by
  unfold cb; split
  · simp; omega
  · rw [later_iff]; omega
theorem jreg_first {v t b v' t' b' : Int} (h : later t b t' b' = true ∨ (t = t' ∧ b = b' ∧ v' ≤ v)) : jreg v t b v' t' b' = rgv v t b := by
  have : ¬ cb v' t' b' v t b = true := by rw [cb_iff]; rw [later_iff] at h; omega
  unfold jreg; rw [if_neg this]
theorem jreg_second {v t b v' t' b' : Int} (h : later t b t' b' = false) (k : ¬ (t = t' ∧ b = b' ∧ v' ≤ v)) : jreg v t b v' t' b' = rgv v' t' b' := by
  have h' : ¬ later t b t' b' = true := by simp [h]
  have : cb v' t' b' v t b = true := by rw [cb_iff]; rw [later_iff] at h'; omega
  unfold jreg; rw [if_pos this]

theorem specJoin_any (v t b v' t' b' : Int) (w : World) :
    Calls Try.prog 54 #[.agg #[.int .i64 v, .int .i64 t, .int .i64 b], .agg #[.int .i64 v', .int .i64 t', .int .i64 b']] w fun e w' => e = .returned (jreg v t b v' t' b') ∧ Below w.heap.size w w' := by
  obtain ⟨q, hq, cq⟩ := specLater_letter t b t' b'
  cases q
  · by_cases k : t = t' ∧ b = b'
    · obtain ⟨rfl, rfl⟩ := k
      by_cases kv : v' ≤ v
      · rw [jreg_first (Or.inr ⟨rfl, rfl, kv⟩)]
        go_enter Try.func54, Try.ntmps54
        go_wp2_with fail
        refine (cq.out _).mono ?_; rintro e w1 ⟨rfl, rfl⟩
        go_wp2_with fail
        exact bodyPost_ret (v := rgv v t b) (by simp [results, Try.results54, go_sem]) rfl ⟨rfl, by repeat (first | exact bre _ | refine bpush ?_ _)⟩
      · rw [jreg_second hq.out.symm (by omega)]
        go_enter Try.func54, Try.ntmps54
        go_wp2_with fail
        refine (cq.out _).mono ?_; rintro e w1 ⟨rfl, rfl⟩
        go_wp2_with fail
        exact bodyPost_ret (v := rgv v' t b) (by simp [results, Try.results54, go_sem]) rfl ⟨rfl, by repeat (first | exact bre _ | refine bpush ?_ _)⟩
    · rw [jreg_second hq.out.symm (by omega)]
      go_enter Try.func54, Try.ntmps54
      go_wp2_with fail
      refine (cq.out _).mono ?_; rintro e w1 ⟨rfl, rfl⟩
      go_wp2_with fail
      all_goals exact bodyPost_ret (v := rgv v' t' b') (by simp [results, Try.results54, go_sem]) rfl ⟨rfl, by repeat (first | exact bre _ | refine bpush ?_ _)⟩
  · rw [jreg_first (Or.inl hq.out.symm)]
    go_enter Try.func54, Try.ntmps54
    go_wp2_with fail
    refine (cq.out _).mono ?_; rintro e w1 ⟨rfl, rfl⟩
    go_wp2_with fail
    exact bodyPost_ret (v := rgv v t b) (by simp [results, Try.results54, go_sem]) rfl ⟨rfl, by repeat (first | exact bre _ | refine bpush ?_ _)⟩

theorem jreg_or (v t b v' t' b' : Int) : ∃ v1 t1 b1, jreg v t b v' t' b' = rgv v1 t1 b1 := by
  unfold jreg; split
  · exact ⟨_, _, _, rfl⟩
  · exact ⟨_, _, _, rfl⟩
theorem join_b (v t b v' t' b' : Int) : ∃ v1 t1 b1 : Int, Hid (∀ w, Calls Try.prog 54 #[.agg #[.int .i64 v, .int .i64 t, .int .i64 b], .agg #[.int .i64 v', .int .i64 t', .int .i64 b']] w fun e w' => e = .returned (.agg #[.int .i64 v1, .int .i64 t1, .int .i64 b1]) ∧ Below w.heap.size w w') ∧ Hid (∀ w, Calls Try.prog 56 #[.agg #[.int .i64 v, .int .i64 t, .int .i64 b], .agg #[.int .i64 v', .int .i64 t', .int .i64 b']] w fun e w' => e = .returned (.agg #[.int .i64 v1, .int .i64 t1, .int .i64 b1]) ∧ Below w.heap.size w w') := by
  obtain ⟨v1, t1, b1, h⟩ := jreg_or v t b v' t' b'
  exact ⟨v1, t1, b1, fun w => (specJoin_any v t b v' t' b' w).mono fun _ _ k => ⟨by rw [k.1, h], k.2⟩, fun w => (joinReg_any v t b v' t' b' w).mono fun _ _ k => ⟨by rw [k.1, h], k.2⟩⟩

end Go.Proofs.Ytfmacodnjhegcal
