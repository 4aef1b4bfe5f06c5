/- Registers: put; as the laws hand them over and hold them against each other. -/
import Derived.Test.YtegdejhgamkkbaaRegs
namespace Go.Proofs.Ytegdejhgamkkbaa
open Go.RowKit

def preg (v t b n t' b' : Int) : Value := if (rgOk n t' b' && later t' b' t b) = true then rgv n t' b' else rgv v t b

theorem eqStamp_letter (t b t' b' : Int) : ∃ p : Bool, Hid (p = decide (t = t' ∧ b = b')) ∧ Hid (∀ w, Calls Try.prog 31 #[.agg #[.int .i64 t, .int .i64 b], .agg #[.int .i64 t', .int .i64 b']] w fun e w' => e = .returned (.bool p) ∧ w' = (w.alloc (.cells #[.int .i64 t, .int .i64 b] 34)).alloc (.cells #[.int .i64 t', .int .i64 b'] 34)) := ⟨_, rfl, eqStamp_any t b t' b'⟩

theorem toReg_any (v t b : Int) (w : World) :
    Calls Try.prog 51 #[.agg #[.int .i64 v, .int .i64 t, .int .i64 b]] w fun e w' => e = .returned (.agg #[.int .i64 v, .int .i64 t, .int .i64 b]) ∧ Below w.heap.size w w' := by
  go_enter Try.func51, Try.ntmps51
  go_wp2_with fail
  refine (toStamp_any t b _).mono ?_; rintro e w1 ⟨rfl, rfl⟩
  go_wp2_with fail
  exact bodyPost_ret (v := rgv v t b) (by simp [results, Try.results51, go_sem]) rfl ⟨rfl, by repeat (first | exact bre _ | refine bpush ?_ _)⟩

theorem eqReg_same (v t b : Int) (w : World) :
    Calls Try.prog 52 #[.agg #[.int .i64 v, .int .i64 t, .int .i64 b], .agg #[.int .i64 v, .int .i64 t, .int .i64 b]] w fun e w' => e = .returned (.bool true) ∧ Below w.heap.size w w' := by
  obtain ⟨p, hp, cp⟩ := eqStamp_letter t b t b
  have hp1 : p = true := by rw [hp.out]; simp
  subst hp1
  go_enter Try.func52, Try.ntmps52
  go_wp2_with fail
  refine (cp.out _).mono ?_; rintro e w1 ⟨rfl, rfl⟩
  go_wp2_with fail
  go_ret
  exact ⟨rfl, by repeat (first | exact bre _ | refine bpush ?_ _)⟩
end Go.Proofs.Ytegdejhgamkkbaa
