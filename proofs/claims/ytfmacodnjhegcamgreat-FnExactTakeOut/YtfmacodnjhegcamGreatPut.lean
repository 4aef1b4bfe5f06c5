/- Registers: put; as the laws hand them over and hold them against each other. -/
import Derived.Test.YtfmacodnjhegcamGreatRegs
namespace Go.Proofs.YtfmacodnjhegcamGreat
open Go.RowKit

def preg (v t b n t' b' : Int) : Value := if (rgOk n t' b' && later t' b' t b) = true then rgv n t' b' else rgv v t b

theorem right_letter (v t b : Int) : ∃ p : Bool, Hid (p = rgOk v t b) ∧ Hid (∀ w, Calls Tryz.prog 80 #[.agg #[.int .i64 t, .int .i64 b, .int .i64 v]] w fun e w' => e = .returned (.bool p) ∧ w' = (w.alloc (.cells #[.int .i64 t, .int .i64 b, .int .i64 v] 97)).alloc (.cells #[.int .i64 t, .int .i64 b] 29)) := ⟨_, rfl, right_any v t b⟩
theorem laterThan_letter (t b t' b' : Int) : ∃ p : Bool, Hid (p = later t b t' b') ∧ Hid (∀ w, Calls Tryz.prog 81 #[.agg #[.int .i64 t, .int .i64 b], .agg #[.int .i64 t', .int .i64 b']] w fun e w' => e = .returned (.bool p) ∧ w' = (w.alloc (.cells #[.int .i64 t, .int .i64 b] 29)).alloc (.cells #[.int .i64 t', .int .i64 b'] 29)) := ⟨_, rfl, laterThan_any t b t' b'⟩
theorem specLater_letter (t b t' b' : Int) : ∃ p : Bool, Hid (p = later t b t' b') ∧ Hid (∀ w, Calls Tryz.prog 73 #[.agg #[.int .i64 t, .int .i64 b], .agg #[.int .i64 t', .int .i64 b']] w fun e w' => e = .returned (.bool p) ∧ w' = (w.alloc (.cells #[.int .i64 t, .int .i64 b] 29)).alloc (.cells #[.int .i64 t', .int .i64 b'] 29)) := ⟨_, rfl, specLater_any t b t' b'⟩
theorem specRegOk_letter (v t b : Int) : ∃ p : Bool, Hid (p = rgOk v t b) ∧ Hid (∀ w, Calls Tryz.prog 72 #[.agg #[.int .i64 v, .int .i64 t, .int .i64 b]] w fun e w' => e = .returned (.bool p) ∧ w' = (w.alloc (.cells #[.int .i64 v, .int .i64 t, .int .i64 b] 78)).alloc (.cells #[.int .i64 t, .int .i64 b] 29)) := ⟨_, rfl, specRegOk_any v t b⟩
theorem eqStamp_letter (t b t' b' : Int) : ∃ p : Bool, Hid (p = decide (t = t' ∧ b = b')) ∧ Hid (∀ w, Calls Tryz.prog 33 #[.agg #[.int .i64 t, .int .i64 b], .agg #[.int .i64 t', .int .i64 b']] w fun e w' => e = .returned (.bool p) ∧ w' = (w.alloc (.cells #[.int .i64 t, .int .i64 b] 29)).alloc (.cells #[.int .i64 t', .int .i64 b'] 29)) := ⟨_, rfl, eqStamp_any t b t' b'⟩

theorem implPut_any (v t b n t' b' : Int) (w : World) :
    Calls Tryz.prog 63 #[.agg #[.int .i64 v, .int .i64 t, .int .i64 b], .int .i64 n, .agg #[.int .i64 t', .int .i64 b']] w fun e w' => e = .returned (preg v t b n t' b') ∧ Below w.heap.size w w' := by
  obtain ⟨p, hp, cp⟩ := right_letter n t' b'
  obtain ⟨q, hq, cq⟩ := laterThan_letter t' b' t b
  have hs : Hid (preg v t b n t' b' = if (p && q) = true then rgv n t' b' else rgv v t b) := by show _ = _; rw [hp.out, hq.out]; rfl
  rw [hs.out]
  cases p
  · go_enter Tryz.func63, Tryz.ntmps63
    go_wp2_with fail
    refine (cp.out _).mono ?_; rintro e w1 ⟨rfl, rfl⟩
    go_wp2_with fail
    exact bodyPost_ret (v := rgv v t b) (by simp [results, Tryz.results63, go_sem]) rfl ⟨rfl, by repeat (first | exact bre _ | refine bpush ?_ _)⟩
  · cases q
    · go_enter Tryz.func63, Tryz.ntmps63
      go_wp2_with fail
      refine (cp.out _).mono ?_; rintro e w1 ⟨rfl, rfl⟩
      go_wp2_with fail
      refine (cq.out _).mono ?_; rintro e w1 ⟨rfl, rfl⟩
      go_wp2_with fail
      exact bodyPost_ret (v := rgv v t b) (by simp [results, Tryz.results63, go_sem]) rfl ⟨rfl, by repeat (first | exact bre _ | refine bpush ?_ _)⟩
    · go_enter Tryz.func63, Tryz.ntmps63
      go_wp2_with fail
      refine (cp.out _).mono ?_; rintro e w1 ⟨rfl, rfl⟩
      go_wp2_with fail
      refine (cq.out _).mono ?_; rintro e w1 ⟨rfl, rfl⟩
      go_wp2_with fail
      refine (reg_any n t' b' _).mono ?_; rintro e w1 ⟨rfl, rfl⟩
      go_wp2_with fail
      exact bodyPost_ret (v := rgv n t' b') (by simp [results, Tryz.results63, go_sem]) rfl ⟨rfl, by repeat (first | exact bre _ | refine bpush ?_ _)⟩

theorem specPut_any (v t b n t' b' : Int) (w : World) :
    Calls Tryz.prog 50 #[.agg #[.int .i64 v, .int .i64 t, .int .i64 b], .int .i64 n, .agg #[.int .i64 t', .int .i64 b']] w fun e w' => e = .returned (preg v t b n t' b') ∧ Below w.heap.size w w' := by
  obtain ⟨p, hp, cp⟩ := specRegOk_letter n t' b'
  obtain ⟨q, hq, cq⟩ := specLater_letter t' b' t b
  have hs : Hid (preg v t b n t' b' = if (p && q) = true then rgv n t' b' else rgv v t b) := by show _ = _; rw [hp.out, hq.out]; rfl
  rw [hs.out]
  cases q
  · rw [Bool.and_false]
    go_enter Tryz.func50, Tryz.ntmps50
    go_wp2_with fail
    refine (cq.out _).mono ?_; rintro e w1 ⟨rfl, rfl⟩
    go_wp2_with fail
    exact bodyPost_ret (v := rgv v t b) (by simp [results, Tryz.results50, go_sem]) rfl ⟨rfl, by repeat (first | exact bre _ | refine bpush ?_ _)⟩
  · cases p
    · go_enter Tryz.func50, Tryz.ntmps50
      go_wp2_with fail
      refine (cq.out _).mono ?_; rintro e w1 ⟨rfl, rfl⟩
      go_wp2_with fail
      refine (cp.out _).mono ?_; rintro e w1 ⟨rfl, rfl⟩
      go_wp2_with fail
      exact bodyPost_ret (v := rgv v t b) (by simp [results, Tryz.results50, go_sem]) rfl ⟨rfl, by repeat (first | exact bre _ | refine bpush ?_ _)⟩
    · go_enter Tryz.func50, Tryz.ntmps50
      go_wp2_with fail
      refine (cq.out _).mono ?_; rintro e w1 ⟨rfl, rfl⟩
      go_wp2_with fail
      refine (cp.out _).mono ?_; rintro e w1 ⟨rfl, rfl⟩
      go_wp2_with fail
      exact bodyPost_ret (v := rgv n t' b') (by simp [results, Tryz.results50, go_sem]) rfl ⟨rfl, by repeat (first | exact bre _ | refine bpush ?_ _)⟩

theorem toReg_any (v t b : Int) (w : World) :
    Calls Tryz.prog 92 #[.agg #[.int .i64 v, .int .i64 t, .int .i64 b]] w fun e w' => e = .returned (.agg #[.int .i64 v, .int .i64 t, .int .i64 b]) ∧ Below w.heap.size w w' := by
  go_enter Tryz.func92, Tryz.ntmps92
  go_wp2_with fail
  refine (toStamp_any t b _).mono ?_; rintro e w1 ⟨rfl, rfl⟩
  go_wp2_with fail
  exact bodyPost_ret (v := rgv v t b) (by simp [results, Tryz.results92, go_sem]) rfl ⟨rfl, by repeat (first | exact bre _ | refine bpush ?_ _)⟩

theorem eqReg_same (v t b : Int) (w : World) :
    Calls Tryz.prog 99 #[.agg #[.int .i64 v, .int .i64 t, .int .i64 b], .agg #[.int .i64 v, .int .i64 t, .int .i64 b]] w fun e w' => e = .returned (.bool true) ∧ Below w.heap.size w w' := by
  obtain ⟨p, hp, cp⟩ := eqStamp_letter t b t b
  have hp1 : p = true := by rw [hp.out]; simp
  subst hp1
  go_enter Tryz.func99, Tryz.ntmps99
  go_wp2_with fail
  refine (cp.out _).mono ?_; rintro e w1 ⟨rfl, rfl⟩
  go_wp2_with fail
  go_ret
  exact ⟨rfl, by repeat (first | exact bre _ | refine bpush ?_ _)⟩
end Go.Proofs.YtfmacodnjhegcamGreat
