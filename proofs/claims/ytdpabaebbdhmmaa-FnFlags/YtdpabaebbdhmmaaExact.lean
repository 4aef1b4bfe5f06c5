/- The walks of the laws of stamps and registers. -/
import Derived.Test.YtdpabaebbdhmmaaPut
namespace Go.Proofs.Ytdpabaebbdhmmaa
open Go.RowKit

theorem specStampOk_b (t b : Int) : ∃ p : Bool, Hid (∀ w, Calls Try.prog 13 #[.agg #[.int .i64 t, .int .i64 b]] w fun e w' => e = .returned (.bool p) ∧ Below w.heap.size w w') ∧ Hid (∀ w, Calls Try.prog 12 #[.agg #[.int .i64 t, .int .i64 b]] w fun e w' => e = .returned (.bool p) ∧ Below w.heap.size w w') :=
  ⟨stOk t b, fun w => (specStampOk_any t b w).mono fun _ _ h => ⟨h.1, h.2 ▸ bpush (bre _) _⟩, implStampOk_any t b⟩
theorem regOk_b (v t b : Int) : ∃ p : Bool, Hid (∀ w, Calls Try.prog 11 #[.agg #[.int .i64 v, .int .i64 t, .int .i64 b]] w fun e w' => e = .returned (.bool p) ∧ Below w.heap.size w w') ∧ Hid (∀ w, Calls Try.prog 10 #[.agg #[.int .i64 v, .int .i64 t, .int .i64 b]] w fun e w' => e = .returned (.bool p) ∧ Below w.heap.size w w') :=
  ⟨rgOk v t b, fun w => (specRegOk_any v t b w).mono fun _ _ h => ⟨h.1, h.2 ▸ bpush (bpush (bre _) _) _⟩, implRegOk_any v t b⟩
theorem later_b (t b t' b' : Int) : ∃ p : Bool, Hid (∀ w, Calls Try.prog 44 #[.agg #[.int .i64 t, .int .i64 b], .agg #[.int .i64 t', .int .i64 b']] w fun e w' => e = .returned (.bool p) ∧ Below w.heap.size w w') ∧ Hid (∀ w, Calls Try.prog 8 #[.agg #[.int .i64 t, .int .i64 b], .agg #[.int .i64 t', .int .i64 b']] w fun e w' => e = .returned (.bool p) ∧ Below w.heap.size w w') :=
  ⟨later t b t' b', fun w => (specLater_any t b t' b' w).mono fun _ _ h => ⟨h.1, h.2 ▸ bpush (bpush (bre _) _) _⟩, implLater_any t b t' b'⟩
theorem preg_or (v t b n t' b' : Int) : ∃ v1 t1 b1, preg v t b n t' b' = rgv v1 t1 b1 := by
  unfold preg; split
  · exact ⟨_, _, _, rfl⟩
  · exact ⟨_, _, _, rfl⟩
theorem put_b (v t b n t' b' : Int) : ∃ v1 t1 b1 : Int, Hid (∀ w, Calls Try.prog 17 #[.agg #[.int .i64 v, .int .i64 t, .int .i64 b], .int .i64 n, .agg #[.int .i64 t', .int .i64 b']] w fun e w' => e = .returned (.agg #[.int .i64 v1, .int .i64 t1, .int .i64 b1]) ∧ Below w.heap.size w w') ∧ Hid (∀ w, Calls Try.prog 16 #[.agg #[.int .i64 v, .int .i64 t, .int .i64 b], .int .i64 n, .agg #[.int .i64 t', .int .i64 b']] w fun e w' => e = .returned (.agg #[.int .i64 v1, .int .i64 t1, .int .i64 b1]) ∧ Below w.heap.size w w') := by
  obtain ⟨v1, t1, b1, h⟩ := preg_or v t b n t' b'
  exact ⟨v1, t1, b1, fun w => (specPut_any v t b n t' b' w).mono fun _ _ k => ⟨by rw [k.1, h], k.2⟩, fun w => (implPut_any v t b n t' b' w).mono fun _ _ k => ⟨by rw [k.1, h], k.2⟩⟩

end Go.Proofs.Ytdpabaebbdhmmaa
