/- The walks of the two functions that write a short text, and of the law over them. -/
import Derived.Test.YtpncaomghmeneahVar
namespace Go.Proofs.Ytpncaomghmeneah
open Go.RowKit

theorem specShort_yes (s : ByteArray) (w : World) (hs : s.size ≤ 20000) :
    Calls Try.prog 12 #[.string s] w fun e w' => e = .returned (.tuple #[.string (⟨(vbs s.size).toArray⟩ ++ s), .bool true]) ∧ Below w.heap.size w w' := by
  have hl := vbs_len s.size
  go_enter Try.func12, Try.ntmps12
  go_wp2_with fail
  refine (l01Var_any s.size _ (by omega)).mono ?_; rintro e w1 ⟨rfl, hb1⟩
  go_wp2
  go_ret2
  exact ⟨rfl, hb1⟩

theorem specShort_no (s : ByteArray) (w : World) (hm : s.size ≤ 1048576) (hs : ¬ s.size ≤ 20000) :
    Calls Try.prog 12 #[.string s] w fun e w' => e = .returned (.tuple #[.string ⟨#[]⟩, .bool false]) ∧ w = w' := by
  go_enter Try.func12, Try.ntmps12
  go_wp2
  go_ret2
  exact ⟨rfl, rfl⟩

theorem implShort_yes (s : ByteArray) (w : World) (hs : s.size ≤ 20000) :
    Calls Try.prog 13 #[.string s] w fun e w' => e = .returned (.tuple #[.string (⟨(vbs s.size).toArray⟩ ++ s), .bool true]) ∧ Below w.heap.size w w' := by
  have hl := vbs_len s.size
  go_enter Try.func13, Try.ntmps13
  go_wp2_with fail
  refine (implVar_any s.size _ (by omega)).mono ?_; rintro e w1 ⟨rfl, hb1⟩
  go_wp2
  go_ret2
  exact ⟨rfl, hb1⟩

theorem implShort_no (s : ByteArray) (w : World) (hm : s.size ≤ 1048576) (hs : ¬ s.size ≤ 20000) :
    Calls Try.prog 13 #[.string s] w fun e w' => e = .returned (.tuple #[.string ⟨#[]⟩, .bool false]) ∧ w = w' := by
  go_enter Try.func13, Try.ntmps13
  go_wp2
  go_ret2
  exact ⟨rfl, rfl⟩

theorem lawShort_any (s : ByteArray) (w : World) (hm : s.size ≤ maxLen) :
    Calls Try.prog 5 #[.string s] w fun e w' => e = .returned (.bool true) ∧ Below w.heap.size w w' := by
  unfold maxLen at hm
  by_cases hs : s.size ≤ 1048576
  · by_cases h : s.size ≤ 20000
    · go_enter Try.func5, Try.ntmps5
      go_wp2_with fail
      refine (specShort_yes s _ h).mono ?_; rintro e w1 ⟨rfl, hb1⟩
      go_wp2_with fail
      refine (implShort_yes s _ h).mono ?_; rintro e w2 ⟨rfl, hb2⟩
      go_wp2
      go_ret
      exact ⟨rfl, hb1.trans (hb2.mono hb1.size)⟩
    · go_enter Try.func5, Try.ntmps5
      go_wp2_with fail
      refine (specShort_no s _ hs h).mono ?_; rintro e w1 ⟨rfl, rfl⟩
      go_wp2_with fail
      refine (implShort_no s _ hs h).mono ?_; rintro e w2 ⟨rfl, rfl⟩
      go_wp2
      go_ret
      exact ⟨rfl, Below.refl _ _⟩
  · go_enter Try.func5, Try.ntmps5
    go_wp2
    go_ret
    exact ⟨rfl, Below.refl _ _⟩
end Go.Proofs.Ytpncaomghmeneah
