/- The walks of the laws of stamps and registers. -/
import Derived.Test.YtegdejhgamkkbaaPut
namespace Go.Proofs.Ytegdejhgamkkbaa
open Go.RowKit

theorem toStamp_b (t b : Int) (w : World) :
    Calls Try.prog 28 #[.agg #[.int .i64 t, .int .i64 b]] w fun e w' => e = .returned (.agg #[.int .i64 t, .int .i64 b]) ∧ Below w.heap.size w w' :=
  (toStamp_any t b w).mono fun _ _ h => ⟨h.1, h.2 ▸ bpush (bpush (bpush (bre _) _) _) _⟩

theorem preg_or (v t b n t' b' : Int) : ∃ v1 t1 b1, preg v t b n t' b' = rgv v1 t1 b1 := by
  unfold preg; split
  · exact ⟨_, _, _, rfl⟩
  · exact ⟨_, _, _, rfl⟩
end Go.Proofs.Ytegdejhgamkkbaa
