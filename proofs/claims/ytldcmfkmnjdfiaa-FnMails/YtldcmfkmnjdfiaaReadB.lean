/- The walk of the program's function that reads a number in sevens. -/
import Derived.Test.YtldcmfkmnjdfiaaReadA
import Derived.Test.YtldcmfkmnjdfiaaRead
namespace Go.Proofs.Ytldcmfkmnjdfiaa
open Go.RowKit

set_option maxHeartbeats 1000000 in
set_option maxRecDepth 100000 in
theorem implRead_any (s : ByteArray) (a : Nat) (w : World) (hs : s.size ≤ 1048576) (ha : a ≤ s.size) :
    Calls Try.prog 74 #[.string s, .int .i64 a] w fun e w' => RvEnd (rv 5 (s.data.toList.drop a) 0 0) a e ∧ Below w.heap.size w w' := by
  go_enter Try.func74, Try.ntmps74
  go_wp2_with fail
  go_loopw [7, 8] (fun nv iv wr => ∃ (k n : Nat), k ≤ 5 ∧ nv = .int .i64 n ∧ iv = .int .i64 (k : Int) ∧ RvAt s a k n ∧ Below w.heap.size w wr) (fun _ iv _ => 5 - (intOf iv).toNat)
  case atStart => exact ⟨0, 0, by omega, rfl, rfl, RvAt.start s a ha, Below.refl _ _⟩
  case round =>
    obtain ⟨k, n, hk, rfl, rfl, hR, hb⟩ := hrel
    have hj := hR.1
    have hnb := hR.lt
    have HR : Hid (RvAt s a k n) := hR
    clear hR
    by_cases hlt : a + k < s.size
    · by_cases h5 : k < 5
      · obtain ⟨c, hcx⟩ : ∃ c : Nat, s[a + k].toNat = c := ⟨_, rfl⟩
        have hcb : c < 256 := by rw [← hcx]; exact s[a + k].toNat_lt
        have HC : Hid (s[a + k].toNat = c) := hcx
        obtain ⟨m, hm⟩ : ∃ m : Nat, n + c % 128 * 128 ^ k = m := ⟨_, rfl⟩
        have HM : Hid (n + s[a + k].toNat % 128 * 128 ^ k = m) := by show _ = _; rw [HC.out]; exact hm
        have hI : (0 : Int) ≤ (a : Int) + (k : Int) ∧ (a : Int) + (k : Int) < (s.size : Int) := by omega
        have hk' : k = 0 ∨ k = 1 ∨ k = 2 ∨ k = 3 ∨ k = 4 := by omega
        clear hk
        rcases hk' with rfl | rfl | rfl | rfl | rfl
        all_goals
          try simp only [Nat.add_zero] at hcx
          simp only [Int.cast_ofNat_Int, Int.add_zero] at hI
          simp only [Nat.reducePow, Nat.mul_one] at hm hnb
          have hmb : m ≤ 68450000000 := by omega
          have HM2 := hide hm
          clear hm
          by_cases hc : c < 128
          · go_wp2_with fail
            all_goals
              go_ret3
              have hm := unhide HM2
              first
                | exact ⟨RvEnd.no (HR.out.big (by decide) hlt HM.out (by rw [HC.out]; omega) (by rw [HC.out]; omega)), hb⟩
                | exact ⟨RvEnd.yes (HR.out.good (by decide) hlt HM.out (by rw [HC.out]; omega) (by rw [HC.out]; omega)) (by omega) (by omega), hb⟩
          · go_wp2_with fail
            go_roundw
            case rel =>
              refine ⟨_, m, ?h1, ?h2, ?h3, HR.out.next (by decide) hlt HM.out (by rw [HC.out]; exact hc), hb⟩
              case h1 => decide
              case h2 => have hm := unhide HM2; go_num
              case h3 => rfl
            case measure => simp [intOf]
      · go_wp2_with fail
        go_ret3
        exact ⟨RvEnd.no (HR.out.out (by omega)), hb⟩
    · by_cases h5 : k < 5
      all_goals
        go_wp2_with fail
        go_ret3
        exact ⟨RvEnd.no (HR.out.out (by omega)), hb⟩

theorem implRead_no (s : ByteArray) (a : Int) (w : World) (ha : a < 0 ∨ s.size < a) :
    Calls Try.prog 74 #[.string s, .int .i64 a] w fun e w' => e = .returned (.tuple #[.int .i64 0, .int .i64 0, .bool false]) ∧ w = w' := by
  rcases ha with ha | ha
  · go_enter Try.func74, Try.ntmps74
    go_wp2
    go_ret3
    exact ⟨rfl, rfl⟩
  · have h0 : ¬ a < 0 := by omega
    go_enter Try.func74, Try.ntmps74
    go_wp2
    go_ret3
    exact ⟨rfl, rfl⟩
end Go.Proofs.Ytldcmfkmnjdfiaa
