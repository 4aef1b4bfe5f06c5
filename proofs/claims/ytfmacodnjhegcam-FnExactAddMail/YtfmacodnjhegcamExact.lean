/- The walks of the laws of stamps and registers. -/
import Derived.Test.YtfmacodnjhegcamPut
namespace Go.Proofs.Ytfmacodnjhegcam
open Go.RowKit

theorem specStampOk_b (t b : Int) : ∃ p : Bool, Hid (∀ w, Calls Try.prog 22 #[.agg #[.int .i64 t, .int .i64 b]] w fun e w' => e = .returned (.bool p) ∧ Below w.heap.size w w') ∧ Hid (∀ w, Calls Try.prog 30 #[.agg #[.int .i64 t, .int .i64 b]] w fun e w' => e = .returned (.bool p) ∧ Below w.heap.size w w') :=
  ⟨stOk t b, fun w => (specStampOk_any t b w).mono fun _ _ h => ⟨h.1, h.2 ▸ bpush (bre _) _⟩, implStampOk_any t b⟩
theorem toStamp_b (t b : Int) (w : World) :
    Calls Try.prog 14 #[.agg #[.int .i64 t, .int .i64 b]] w fun e w' => e = .returned (.agg #[.int .i64 t, .int .i64 b]) ∧ Below w.heap.size w w' :=
  (toStamp_any t b w).mono fun _ _ h => ⟨h.1, h.2 ▸ bpush (bpush (bpush (bre _) _) _) _⟩

theorem regOk_b (v t b : Int) : ∃ p : Bool, Hid (∀ w, Calls Try.prog 69 #[.agg #[.int .i64 v, .int .i64 t, .int .i64 b]] w fun e w' => e = .returned (.bool p) ∧ Below w.heap.size w w') ∧ Hid (∀ w, Calls Try.prog 81 #[.agg #[.int .i64 v, .int .i64 t, .int .i64 b]] w fun e w' => e = .returned (.bool p) ∧ Below w.heap.size w w') :=
  ⟨rgOk v t b, fun w => (specRegOk_any v t b w).mono fun _ _ h => ⟨h.1, h.2 ▸ bpush (bpush (bre _) _) _⟩, implRegOk_any v t b⟩
theorem preg_or (v t b n t' b' : Int) : ∃ v1 t1 b1, preg v t b n t' b' = rgv v1 t1 b1 := by
  unfold preg; split
  · exact ⟨_, _, _, rfl⟩
  · exact ⟨_, _, _, rfl⟩
end Go.Proofs.Ytfmacodnjhegcam
