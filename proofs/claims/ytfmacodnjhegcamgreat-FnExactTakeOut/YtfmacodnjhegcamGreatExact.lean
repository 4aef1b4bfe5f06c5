/- The walks of the laws of stamps and registers. -/
import Derived.Test.YtfmacodnjhegcamGreatPut
namespace Go.Proofs.YtfmacodnjhegcamGreat
open Go.RowKit

theorem specStampOk_b (t b : Int) : ∃ p : Bool, Hid (∀ w, Calls Tryz.prog 21 #[.agg #[.int .i64 t, .int .i64 b]] w fun e w' => e = .returned (.bool p) ∧ Below w.heap.size w w') ∧ Hid (∀ w, Calls Tryz.prog 29 #[.agg #[.int .i64 t, .int .i64 b]] w fun e w' => e = .returned (.bool p) ∧ Below w.heap.size w w') :=
  ⟨stOk t b, fun w => (specStampOk_any t b w).mono fun _ _ h => ⟨h.1, h.2 ▸ bpush (bre _) _⟩, implStampOk_any t b⟩
theorem toStamp_b (t b : Int) (w : World) :
    Calls Tryz.prog 8 #[.agg #[.int .i64 t, .int .i64 b]] w fun e w' => e = .returned (.agg #[.int .i64 t, .int .i64 b]) ∧ Below w.heap.size w w' :=
  (toStamp_any t b w).mono fun _ _ h => ⟨h.1, h.2 ▸ bpush (bpush (bpush (bre _) _) _) _⟩

theorem regOk_b (v t b : Int) : ∃ p : Bool, Hid (∀ w, Calls Tryz.prog 72 #[.agg #[.int .i64 v, .int .i64 t, .int .i64 b]] w fun e w' => e = .returned (.bool p) ∧ Below w.heap.size w w') ∧ Hid (∀ w, Calls Tryz.prog 79 #[.agg #[.int .i64 v, .int .i64 t, .int .i64 b]] w fun e w' => e = .returned (.bool p) ∧ Below w.heap.size w w') :=
  ⟨rgOk v t b, fun w => (specRegOk_any v t b w).mono fun _ _ h => ⟨h.1, h.2 ▸ bpush (bpush (bre _) _) _⟩, implRegOk_any v t b⟩
theorem preg_or (v t b n t' b' : Int) : ∃ v1 t1 b1, preg v t b n t' b' = rgv v1 t1 b1 := by
  unfold preg; split
  · exact ⟨_, _, _, rfl⟩
  · exact ⟨_, _, _, rfl⟩
theorem put_b (v t b n t' b' : Int) : ∃ v1 t1 b1 : Int, Hid (∀ w, Calls Tryz.prog 50 #[.agg #[.int .i64 v, .int .i64 t, .int .i64 b], .int .i64 n, .agg #[.int .i64 t', .int .i64 b']] w fun e w' => e = .returned (.agg #[.int .i64 v1, .int .i64 t1, .int .i64 b1]) ∧ Below w.heap.size w w') ∧ Hid (∀ w, Calls Tryz.prog 63 #[.agg #[.int .i64 v, .int .i64 t, .int .i64 b], .int .i64 n, .agg #[.int .i64 t', .int .i64 b']] w fun e w' => e = .returned (.agg #[.int .i64 v1, .int .i64 t1, .int .i64 b1]) ∧ Below w.heap.size w w') := by
  obtain ⟨v1, t1, b1, h⟩ := preg_or v t b n t' b'
  exact ⟨v1, t1, b1, fun w => (specPut_any v t b n t' b' w).mono fun _ _ k => ⟨by rw [k.1, h], k.2⟩, fun w => (implPut_any v t b n t' b' w).mono fun _ _ k => ⟨by rw [k.1, h], k.2⟩⟩

end Go.Proofs.YtfmacodnjhegcamGreat
