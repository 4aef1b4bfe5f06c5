/- Registers: put; as the laws hand them over and hold them against each other. -/
import Derived.Test.YtdpabaebbdhmmaaRegs
namespace Go.Proofs.Ytdpabaebbdhmmaa
open Go.RowKit

def preg (v t b n t' b' : Int) : Value := if (rgOk n t' b' && later t' b' t b) = true then rgv n t' b' else rgv v t b

theorem right_letter (v t b : Int) : ∃ p : Bool, Hid (p = rgOk v t b) ∧ Hid (∀ w, Calls Try.prog 37 #[.agg #[.int .i64 t, .int .i64 b, .int .i64 v]] w fun e w' => e = .returned (.bool p) ∧ w' = (w.alloc (.cells #[.int .i64 t, .int .i64 b, .int .i64 v] 58)).alloc (.cells #[.int .i64 t, .int .i64 b] 25)) := ⟨_, rfl, right_any v t b⟩
theorem laterThan_letter (t b t' b' : Int) : ∃ p : Bool, Hid (p = later t b t' b') ∧ Hid (∀ w, Calls Try.prog 34 #[.agg #[.int .i64 t, .int .i64 b], .agg #[.int .i64 t', .int .i64 b']] w fun e w' => e = .returned (.bool p) ∧ w' = (w.alloc (.cells #[.int .i64 t, .int .i64 b] 25)).alloc (.cells #[.int .i64 t', .int .i64 b'] 25)) := ⟨_, rfl, laterThan_any t b t' b'⟩
theorem specLater_letter (t b t' b' : Int) : ∃ p : Bool, Hid (p = later t b t' b') ∧ Hid (∀ w, Calls Try.prog 44 #[.agg #[.int .i64 t, .int .i64 b], .agg #[.int .i64 t', .int .i64 b']] w fun e w' => e = .returned (.bool p) ∧ w' = (w.alloc (.cells #[.int .i64 t, .int .i64 b] 25)).alloc (.cells #[.int .i64 t', .int .i64 b'] 25)) := ⟨_, rfl, specLater_any t b t' b'⟩
theorem specRegOk_letter (v t b : Int) : ∃ p : Bool, Hid (p = rgOk v t b) ∧ Hid (∀ w, Calls Try.prog 11 #[.agg #[.int .i64 v, .int .i64 t, .int .i64 b]] w fun e w' => e = .returned (.bool p) ∧ w' = (w.alloc (.cells #[.int .i64 v, .int .i64 t, .int .i64 b] 27)).alloc (.cells #[.int .i64 t, .int .i64 b] 25)) := ⟨_, rfl, specRegOk_any v t b⟩
theorem implPut_any (v t b n t' b' : Int) (w : World) :
    Calls Try.prog 16 #[.agg #[.int .i64 v, .int .i64 t, .int .i64 b], .int .i64 n, .agg #[.int .i64 t', .int .i64 b']] w fun e w' => e = .returned (preg v t b n t' b') ∧ Below w.heap.size w w' := by
  obtain ⟨p, hp, cp⟩ := right_letter n t' b'
  obtain ⟨q, hq, cq⟩ := laterThan_letter t' b' t b
  have hs : Hid (preg v t b n t' b' = if (p && q) = true then rgv n t' b' else rgv v t b) := by show _ = _; rw [hp.out, hq.out]; rfl
  rw [hs.out]
  cases p
  · go_enter Try.func16, Try.ntmps16
    go_wp2_with fail
    refine (cp.out _).mono ?_; rintro e w1 ⟨rfl, rfl⟩
    go_wp2_with fail
    exact bodyPost_ret (v := rgv v t b) (by simp [results, Try.results16, go_sem]) rfl ⟨rfl, by repeat (first | exact bre _ | refine bpush ?_ _)⟩
  · cases q
    · go_enter Try.func16, Try.ntmps16
      go_wp2_with fail
      refine (cp.out _).mono ?_; rintro e w1 ⟨rfl, rfl⟩
      go_wp2_with fail
      refine (cq.out _).mono ?_; rintro e w1 ⟨rfl, rfl⟩
      go_wp2_with fail
      exact bodyPost_ret (v := rgv v t b) (by simp [results, Try.results16, go_sem]) rfl ⟨rfl, by repeat (first | exact bre _ | refine bpush ?_ _)⟩
    · go_enter Try.func16, Try.ntmps16
      go_wp2_with fail
      refine (cp.out _).mono ?_; rintro e w1 ⟨rfl, rfl⟩
      go_wp2_with fail
      refine (cq.out _).mono ?_; rintro e w1 ⟨rfl, rfl⟩
      go_wp2_with fail
      refine (reg_any n t' b' _).mono ?_; rintro e w1 ⟨rfl, rfl⟩
      go_wp2_with fail
      exact bodyPost_ret (v := rgv n t' b') (by simp [results, Try.results16, go_sem]) rfl ⟨rfl, by repeat (first | exact bre _ | refine bpush ?_ _)⟩

theorem specPut_any (v t b n t' b' : Int) (w : World) :
    Calls Try.prog 17 #[.agg #[.int .i64 v, .int .i64 t, .int .i64 b], .int .i64 n, .agg #[.int .i64 t', .int .i64 b']] w fun e w' => e = .returned (preg v t b n t' b') ∧ Below w.heap.size w w' := by
  obtain ⟨p, hp, cp⟩ := specRegOk_letter n t' b'
  obtain ⟨q, hq, cq⟩ := specLater_letter t' b' t b
  have hs : Hid (preg v t b n t' b' = if (p && q) = true then rgv n t' b' else rgv v t b) := by show _ = _; rw [hp.out, hq.out]; rfl
  rw [hs.out]
  cases q
  · rw [Bool.and_false]
    go_enter Try.func17, Try.ntmps17
    go_wp2_with fail
    refine (cq.out _).mono ?_; rintro e w1 ⟨rfl, rfl⟩
    go_wp2_with fail
    exact bodyPost_ret (v := rgv v t b) (by simp [results, Try.results17, go_sem]) rfl ⟨rfl, by repeat (first | exact bre _ | refine bpush ?_ _)⟩
  · cases p
    · go_enter Try.func17, Try.ntmps17
      go_wp2_with fail
      refine (cq.out _).mono ?_; rintro e w1 ⟨rfl, rfl⟩
      go_wp2_with fail
      refine (cp.out _).mono ?_; rintro e w1 ⟨rfl, rfl⟩
      go_wp2_with fail
      exact bodyPost_ret (v := rgv v t b) (by simp [results, Try.results17, go_sem]) rfl ⟨rfl, by repeat (first | exact bre _ | refine bpush ?_ _)⟩
    · go_enter Try.func17, Try.ntmps17
      go_wp2_with fail
      refine (cq.out _).mono ?_; rintro e w1 ⟨rfl, rfl⟩
      go_wp2_with fail
      refine (cp.out _).mono ?_; rintro e w1 ⟨rfl, rfl⟩
      go_wp2_with fail
      exact bodyPost_ret (v := rgv n t' b') (by simp [results, Try.results17, go_sem]) rfl ⟨rfl, by repeat (first | exact bre _ | refine bpush ?_ _)⟩

end Go.Proofs.Ytdpabaebbdhmmaa
