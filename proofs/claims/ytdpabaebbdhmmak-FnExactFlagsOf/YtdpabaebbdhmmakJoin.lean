/- Registers joined: the model's own answer, and the law's walk. -/
import Derived.Test.YtdpabaebbdhmmakExact
import Derived.Deep.Cut
namespace Go.Proofs.Ytdpabaebbdhmmak
open Go.RowKit

theorem later_iff {t b t' b' : Int} : later t b t' b' = true ↔ (t' < t ∨ (t = t' ∧ b' < b)) := by
  unfold later; split <;> simp <;> omega
theorem cb_iff {v t b v' t' b' : Int} : cb v t b v' t' b' = true ↔ ((t = t' ∧ b = b' ∧ v' < v) ∨ t' < t ∨ (t = t' ∧ b' < b)) := by
  unfold cb; split
  · simp; omega
  · rw [later_iff]; omega
theorem jreg_first {v t b v' t' b' : Int} (h : later t b t' b' = true ∨ (t = t' ∧ b = b' ∧ v' ≤ v)) : jreg v t b v' t' b' = rgv v t b := by
  have : ¬ cb v' t' b' v t b = true := by rw [cb_iff]; rw [later_iff] at h; omega
  unfold jreg; rw [if_neg this]
theorem jreg_second {v t b v' t' b' : Int} (h : later t b t' b' = false) (k : ¬ (t = t' ∧ b = b' ∧ v' ≤ v)) : jreg v t b v' t' b' = rgv v' t' b' := by
  have h' : ¬ later t b t' b' = true := by simp [h]
  have : cb v' t' b' v t b = true := by rw [cb_iff]; rw [later_iff] at h'; omega
  unfold jreg; rw [if_pos this]

theorem specJoin_any (v t b v' t' b' : Int) (w : World) :
    Calls Try.prog 9 #[.agg #[.int .i64 v, .int .i64 t, .int .i64 b], .agg #[.int .i64 v', .int .i64 t', .int .i64 b']] w fun e w' => e = .returned (jreg v t b v' t' b') ∧ Below w.heap.size w w' := by
  obtain ⟨q, hq, cq⟩ := specLater_letter t b t' b'
  cases q
  · by_cases k : t = t' ∧ b = b'
    · obtain ⟨rfl, rfl⟩ := k
      by_cases kv : v' ≤ v
      · rw [jreg_first (Or.inr ⟨rfl, rfl, kv⟩)]
        go_enter Try.func9, Try.ntmps9
        go_wp2_with fail
        refine (cq.out _).mono ?_; rintro e w1 ⟨rfl, rfl⟩
        go_wp2_with fail
        exact bodyPost_ret (v := rgv v t b) (by simp [results, Try.results9, go_sem]) rfl ⟨rfl, by repeat (first | exact bre _ | refine bpush ?_ _)⟩
      · rw [jreg_second hq.out.symm (by omega)]
        go_enter Try.func9, Try.ntmps9
        go_wp2_with fail
        refine (cq.out _).mono ?_; rintro e w1 ⟨rfl, rfl⟩
        go_wp2_with fail
        exact bodyPost_ret (v := rgv v' t b) (by simp [results, Try.results9, go_sem]) rfl ⟨rfl, by repeat (first | exact bre _ | refine bpush ?_ _)⟩
    · rw [jreg_second hq.out.symm (by omega)]
      go_enter Try.func9, Try.ntmps9
      go_wp2_with fail
      refine (cq.out _).mono ?_; rintro e w1 ⟨rfl, rfl⟩
      go_wp2_with fail
      all_goals exact bodyPost_ret (v := rgv v' t' b') (by simp [results, Try.results9, go_sem]) rfl ⟨rfl, by repeat (first | exact bre _ | refine bpush ?_ _)⟩
  · rw [jreg_first (Or.inl hq.out.symm)]
    go_enter Try.func9, Try.ntmps9
    go_wp2_with fail
    refine (cq.out _).mono ?_; rintro e w1 ⟨rfl, rfl⟩
    go_wp2_with fail
    exact bodyPost_ret (v := rgv v t b) (by simp [results, Try.results9, go_sem]) rfl ⟨rfl, by repeat (first | exact bre _ | refine bpush ?_ _)⟩

theorem jreg_or (v t b v' t' b' : Int) : ∃ v1 t1 b1, jreg v t b v' t' b' = rgv v1 t1 b1 := by
  unfold jreg; split
  · exact ⟨_, _, _, rfl⟩
  · exact ⟨_, _, _, rfl⟩
theorem join_b (v t b v' t' b' : Int) : ∃ v1 t1 b1 : Int, Hid (∀ w, Calls Try.prog 9 #[.agg #[.int .i64 v, .int .i64 t, .int .i64 b], .agg #[.int .i64 v', .int .i64 t', .int .i64 b']] w fun e w' => e = .returned (.agg #[.int .i64 v1, .int .i64 t1, .int .i64 b1]) ∧ Below w.heap.size w w') ∧ Hid (∀ w, Calls Try.prog 11 #[.agg #[.int .i64 v, .int .i64 t, .int .i64 b], .agg #[.int .i64 v', .int .i64 t', .int .i64 b']] w fun e w' => e = .returned (.agg #[.int .i64 v1, .int .i64 t1, .int .i64 b1]) ∧ Below w.heap.size w w') := by
  obtain ⟨v1, t1, b1, h⟩ := jreg_or v t b v' t' b'
  exact ⟨v1, t1, b1, fun w => (specJoin_any v t b v' t' b' w).mono fun _ _ k => ⟨by rw [k.1, h], k.2⟩, fun w => (joinReg_any v t b v' t' b' w).mono fun _ _ k => ⟨by rw [k.1, h], k.2⟩⟩

set_option maxHeartbeats 1000000 in
theorem lawJoinReg_any (v t b v' t' b' : Int) (w : World) :
    Calls Try.prog 3 #[.agg #[.int .i64 v, .int .i64 t, .int .i64 b], .agg #[.int .i64 v', .int .i64 t', .int .i64 b']] w fun e w' => e = .returned (.bool true) ∧ Below w.heap.size w w' := by
  obtain ⟨v1, t1, b1, cs, ci⟩ := join_b v t b v' t' b'
  obtain ⟨W0, hW0⟩ : ∃ W0, (w.alloc (.cells #[.int .i64 v, .int .i64 t, .int .i64 b] 25)).alloc (.cells #[.int .i64 v', .int .i64 t', .int .i64 b'] 25) = W0 := ⟨_, rfl⟩
  have A0 : Hid (Rg W0 w.heap.size 25 v t b) := by subst hW0; exact (Rg.new w 25 v t b).later (bpush (bre _) _)
  have A1 : Hid (Rg W0 (w.heap.size + 1) 25 v' t' b') := by subst hW0; show Rg _ _ _ _ _ _; simpa using Rg.new (w.alloc (.cells #[.int .i64 v, .int .i64 t, .int .i64 b] 25)) 25 v' t' b'
  have B0 : Hid (Below w.heap.size w W0) := by subst hW0; exact bpush (bpush (bre _) _) _
  have HS : Hid (∀ W, Below W0.heap.size W0 W → (W.cell? ⟨w.heap.size, 0, none⟩ = some (.int .i64 v) ∧ W.cell? ⟨w.heap.size, 1, none⟩ = some (.int .i64 t) ∧ W.cell? ⟨w.heap.size, 2, none⟩ = some (.int .i64 b)) ∧ (W.cell? ⟨w.heap.size + 1, 0, none⟩ = some (.int .i64 v') ∧ W.cell? ⟨w.heap.size + 1, 1, none⟩ = some (.int .i64 t') ∧ W.cell? ⟨w.heap.size + 1, 2, none⟩ = some (.int .i64 b'))) :=
    fun W h => ⟨(A0.out.later h).cells, (A1.out.later h).cells⟩
  go_enter Try.func3, Try.ntmps3
  go_wp2_with fail
  clear hW0
  go_cut [5] from 7 (fun s5 wx => ∃ k : Nat, s5 = .pointer (some ⟨k, 0, none⟩) ∧ W0.heap.size ≤ k ∧ Rg wx k 28 v1 t1 b1 ∧ Below W0.heap.size W0 wx)
  case first =>
    go_region_held3 (fun W => (W.cell? ⟨w.heap.size, 0, none⟩ = some (.int .i64 v) ∧ W.cell? ⟨w.heap.size, 1, none⟩ = some (.int .i64 t) ∧ W.cell? ⟨w.heap.size, 2, none⟩ = some (.int .i64 b)) ∧ (W.cell? ⟨w.heap.size + 1, 0, none⟩ = some (.int .i64 v') ∧ W.cell? ⟨w.heap.size + 1, 1, none⟩ = some (.int .i64 t') ∧ W.cell? ⟨w.heap.size + 1, 2, none⟩ = some (.int .i64 b')))
      ((refine HS.out _ ?_; repeat (first | exact bre _ | refine bdr ?_ | refine btr ?_ (by assumption) | refine bpush ?_ _ | refine bset' ?_ ?_ _ _)))
      ((first
        | (go_at_call 9; refine (cs.out _).mono ?_; rintro e w1 ⟨rfl, hb1⟩; (first | (have R1 := (Rg.newd _ 28 0 0 0).later hb1; have d1 := R1.cells; have f1 := R1.loose) | (have R1 := (Rg.new _ 28 0 0 0).later hb1; have d1 := R1.cells; have f1 := R1.loose) | (have R1 := Rg.later (ty := 28) (v := 0) (t := 0) (b := 0) (by assumption) hb1; have d1 := R1.cells; have f1 := R1.loose) | skip))
        | (go_at_call 10; refine (toReg_any _ _ _ _).mono ?_; rintro e w1 ⟨rfl, hb1⟩; (first | (have R1 := (Rg.newd _ 28 0 0 0).later hb1; have d1 := R1.cells; have f1 := R1.loose) | (have R1 := (Rg.new _ 28 0 0 0).later hb1; have d1 := R1.cells; have f1 := R1.loose) | (have R1 := Rg.later (ty := 28) (v := 0) (t := 0) (b := 0) (by assumption) hb1; have d1 := R1.cells; have f1 := R1.loose) | skip))))
    all_goals (try go_wp2_with fail)
    all_goals go_meet
    all_goals
      refine ⟨_, rfl, ?_, ?_, ?_⟩
      · first | exact Nat.le_refl _ | (refine Below.size (B := W0.heap.size) ?_; repeat (first | exact bre _ | refine bdr ?_ | refine btr ?_ (by assumption) | refine bpush ?_ _ | refine bset' ?_ ?_ _ _))
      · first | with_reducible exact Rg.set' (by assumption) | with_reducible exact Rg.new _ 28 v1 t1 b1
      · repeat (first | exact bre _ | refine bdr ?_ | refine btr ?_ (by assumption) | refine bpush ?_ _ | refine bset' ?_ ?_ _ _)
  case rest =>
  obtain ⟨k1, rfl, hk1, R1, B1⟩ := hcut
  have A2 : Hid (Rg wc k1 28 v1 t1 b1) := R1
  have B1 : Hid (Below W0.heap.size W0 wc) := B1
  clear hk1 R1
  have HS2 : Hid (∀ W, Below wc.heap.size wc W → (W.cell? ⟨w.heap.size, 0, none⟩ = some (.int .i64 v) ∧ W.cell? ⟨w.heap.size, 1, none⟩ = some (.int .i64 t) ∧ W.cell? ⟨w.heap.size, 2, none⟩ = some (.int .i64 b)) ∧ (W.cell? ⟨w.heap.size + 1, 0, none⟩ = some (.int .i64 v') ∧ W.cell? ⟨w.heap.size + 1, 1, none⟩ = some (.int .i64 t') ∧ W.cell? ⟨w.heap.size + 1, 2, none⟩ = some (.int .i64 b'))) :=
    fun W h => HS.out W (btr B1.out h)
  go_wp2_with fail
  go_cut [6] from 7 (fun s6 wx => ∃ k : Nat, s6 = .pointer (some ⟨k, 0, none⟩) ∧ wc.heap.size ≤ k ∧ Rg wx k 28 v1 t1 b1 ∧ Below wc.heap.size wc wx)
  case first =>
    go_region_held3 (fun W => (W.cell? ⟨w.heap.size, 0, none⟩ = some (.int .i64 v) ∧ W.cell? ⟨w.heap.size, 1, none⟩ = some (.int .i64 t) ∧ W.cell? ⟨w.heap.size, 2, none⟩ = some (.int .i64 b)) ∧ (W.cell? ⟨w.heap.size + 1, 0, none⟩ = some (.int .i64 v') ∧ W.cell? ⟨w.heap.size + 1, 1, none⟩ = some (.int .i64 t') ∧ W.cell? ⟨w.heap.size + 1, 2, none⟩ = some (.int .i64 b')))
      ((refine HS2.out _ ?_; repeat (first | exact bre _ | refine bdr ?_ | refine btr ?_ (by assumption) | refine bpush ?_ _ | refine bset' ?_ ?_ _ _)))
      ((first
        | (go_at_call 11; refine (ci.out _).mono ?_; rintro e w1 ⟨rfl, hb1⟩; (first | (have R1 := (Rg.newd _ 28 0 0 0).later hb1; have d1 := R1.cells; have f1 := R1.loose) | (have R1 := (Rg.new _ 28 0 0 0).later hb1; have d1 := R1.cells; have f1 := R1.loose) | (have R1 := Rg.later (ty := 28) (v := 0) (t := 0) (b := 0) (by assumption) hb1; have d1 := R1.cells; have f1 := R1.loose) | skip))
        | (go_at_call 10; refine (toReg_any _ _ _ _).mono ?_; rintro e w1 ⟨rfl, hb1⟩; (first | (have R1 := (Rg.newd _ 28 0 0 0).later hb1; have d1 := R1.cells; have f1 := R1.loose) | (have R1 := (Rg.new _ 28 0 0 0).later hb1; have d1 := R1.cells; have f1 := R1.loose) | (have R1 := Rg.later (ty := 28) (v := 0) (t := 0) (b := 0) (by assumption) hb1; have d1 := R1.cells; have f1 := R1.loose) | skip))))
    all_goals (try go_wp2_with fail)
    all_goals go_meet
    all_goals
      refine ⟨_, rfl, ?_, ?_, ?_⟩
      · first | exact Nat.le_refl _ | (refine Below.size (B := wc.heap.size) ?_; repeat (first | exact bre _ | refine bdr ?_ | refine btr ?_ (by assumption) | refine bpush ?_ _ | refine bset' ?_ ?_ _ _))
      · first | with_reducible exact Rg.set' (by assumption) | with_reducible exact Rg.new _ 28 v1 t1 b1
      · repeat (first | exact bre _ | refine bdr ?_ | refine btr ?_ (by assumption) | refine bpush ?_ _ | refine bset' ?_ ?_ _ _)
  case rest =>
  obtain ⟨k2, rfl, hk2, R2, B2⟩ := hcut
  have c1 := (A2.out.later B2).cells
  have c2 := R2.cells
  have B3 : Hid (Below _ _ wc) := B2
  clear hk2 R2 B2
  go_wp2_with fail
  refine (eqReg_same _ _ _ _).mono ?_; rintro e w3 ⟨rfl, hb3⟩
  go_wp2_with fail
  go_ret
  exact ⟨rfl, btr B0.out (btr B1.out (btr B3.out hb3))⟩
end Go.Proofs.Ytdpabaebbdhmmak
