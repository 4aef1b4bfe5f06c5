/- The law of names. -/
import Derived.Test.YtfmacodnjhegcalName
namespace Go.Proofs.Ytfmacodnjhegcal
open Go.RowKit

theorem lawName_any (s : ByteArray) (w : World) (hm : s.size ≤ 9223372036854775807) :
    Calls Try.prog 8 #[.string s] w fun e w' => e = .returned (.bool true) ∧ Below w.heap.size w w' := by
  by_cases hs : s.size ≤ 1048576
  · obtain ⟨p, hp, c1, c2⟩ := name_l s hs
    have e1 : (p != p) = false := by cases p <;> rfl
    go_enter Try.func8, Try.ntmps8
    go_wp2_with fail
    refine (c1.out _).mono ?_; rintro e w1 ⟨rfl, hb1⟩
    go_wp2_with fail
    refine (c2.out _).mono ?_; rintro e w2 ⟨rfl, hb2⟩
    have HB := hid (btr hb1 hb2)
    clear hb1 hb2
    go_wp2
    go_ret
    exact ⟨rfl, HB.out⟩
  · have h1 : 1048576 < (s.size : Int) := by omega
    clear hs
    go_enter Try.func8, Try.ntmps8
    go_wp2
    go_ret
    exact ⟨rfl, bre _⟩
end Go.Proofs.Ytfmacodnjhegcal
