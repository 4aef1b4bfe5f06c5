/- The walks of the two functions that write a short text, and of the law over them. -/
import Derived.Test.YtldcmfkmnjdfiaaReadB
namespace Go.Proofs.Ytldcmfkmnjdfiaa
open Go.RowKit

theorem implShort_yes (s : ByteArray) (w : World) (hs : s.size ≤ 20000) :
    Calls Try.prog 25 #[.string s] w fun e w' => e = .returned (.tuple #[.string (⟨(vbs s.size).toArray⟩ ++ s), .bool true]) ∧ Below w.heap.size w w' := by
  have hl := vbs_len s.size
  go_enter Try.func25, Try.ntmps25
  go_wp2_with fail
  refine (implVar_any s.size _ (by omega)).mono ?_; rintro e w1 ⟨rfl, hb1⟩
  go_wp2
  go_ret2
  exact ⟨rfl, hb1⟩

theorem implShort_no (s : ByteArray) (w : World) (hm : s.size ≤ 1048576) (hs : ¬ s.size ≤ 20000) :
    Calls Try.prog 25 #[.string s] w fun e w' => e = .returned (.tuple #[.string ⟨#[]⟩, .bool false]) ∧ w = w' := by
  go_enter Try.func25, Try.ntmps25
  go_wp2
  go_ret2
  exact ⟨rfl, rfl⟩

end Go.Proofs.Ytldcmfkmnjdfiaa
