/- The walk of the model's function that reads a number in sevens. -/
import Derived.Test.YtldcmfkmnjdfiaaRead
import Derived.Deep.RegionWith
import Derived.Deep.RegionHeld3
namespace Go.Proofs.Ytldcmfkmnjdfiaa
open Go.RowKit

set_option maxHeartbeats 400000 in
set_option maxRecDepth 100000 in
theorem specRead_any (s : ByteArray) (a : Nat) (w : World) (hs : s.size ≤ 1048576) (ha : a ≤ s.size) :
    Calls Try.prog 60 #[.string s, .int .i64 a] w fun e w' => RvEnd (rv 5 (s.data.toList.drop a) 0 0) a e ∧ Below w.heap.size w w' := by
  go_enter Try.func60, Try.ntmps60
  go_wp2_with fail
  refine (l01In_yes _ _ _ _ (by omega) (by omega)).mono ?_; rintro e w' ⟨rfl, rfl⟩
  go_wp2_with fail
  go_loopw [7, 8, 9] (fun nv sv iv wr => ∃ (k n : Nat), k ≤ 5 ∧ nv = .int .i64 n ∧ sv = .int .i64 ((128 ^ k : Nat) : Int) ∧ iv = .int .i64 ((a + k : Nat) : Int) ∧ RvAt s a k n ∧ Below w.heap.size w wr) (fun _ _ iv _ => s.size - (intOf iv).toNat)
  case atStart => exact ⟨0, 0, by omega, rfl, rfl, rfl, RvAt.start s a ha, Below.refl _ _⟩
  case round =>
    obtain ⟨k, n, hk, rfl, rfl, rfl, hR, hb⟩ := hrel
    obtain ⟨j, hja⟩ : ∃ j, j = a + k := ⟨_, rfl⟩
    have hj := hR.1
    have hnb := hR.lt
    have HA : Hid (j = a + k) := hja
    have HR : Hid (RvAt s a k n) := hR
    rw [← hja] at hj ⊢
    clear hja hR
    have haj : a ≤ j := by have := HA.out; omega
    have hbsz := hb.size
    by_cases hlt : j < s.size
    · by_cases h5 : k < 5
      · have h5' : j < a + 5 := by have := HA.out; omega
        obtain ⟨c, hcx⟩ : ∃ c : Nat, s[j].toNat = c := ⟨_, rfl⟩
        have hcb : c < 256 := by rw [← hcx]; exact s[j].toNat_lt
        have hak : a + k < s.size := by have := HA.out; omega
        have HC : Hid (s[a + k].toNat = c) := by have e := HA.out; subst e; exact hcx
        have hI1 : (0 : Int) ≤ (j : Int) + 1 := by omega
        have hI2 : (j : Int) + 1 ≤ (s.size : Int) := by omega
        have hI4 : IntKind.i64.wrap ((j : Int) + 1) = (j : Int) + 1 := by rw [IntKind.wrap_i64]; omega
        have hI3 : (a : Int) ≤ (j : Int) + 1 := by omega
        obtain ⟨m, hm⟩ : ∃ m : Nat, n + c % 128 * 128 ^ k = m := ⟨_, rfl⟩
        have HM : Hid (n + s[a + k].toNat % 128 * 128 ^ k = m) := by show _ = _; rw [HC.out]; exact hm
        have HE : Hid ((s.extract a (a + k + 1)).toList = (s.extract a (j + 1)).toList) := by show _ = _; rw [HA.out]
        have hk' : k = 0 ∨ k = 1 ∨ k = 2 ∨ k = 3 ∨ k = 4 := by omega
        clear hk
        rcases hk' with rfl | rfl | rfl | rfl | rfl
        all_goals
          simp only [Nat.reducePow, Nat.mul_one] at hm hnb ⊢
          have hmi := congrArg (Nat.cast (R := Int)) hm
          simp only [Int.natCast_add, Int.natCast_mul, Int.natCast_emod, Int.cast_ofNat_Int] at hmi
          have hmb : m ≤ 68450000000 := by omega
          clear hm
          by_cases hc : c < 128
          · by_cases hbig : 1000000000 < m
            · first
                | (exfalso; omega)
                | (have hd : decide (1000000000 < (m : Int)) = true := by simp; omega
                   go_wp2_with fail
                   go_region
                   all_goals go_wp2
                   all_goals go_ret3
                   all_goals exact ⟨RvEnd.no (HR.out.big (by decide) hak HM.out (by rw [HC.out]; exact hc) (.inl hbig)), hb.drew⟩)
            · have hd : decide (1000000000 < (m : Int)) = false := by simp; omega
              go_wp2_with fail
              go_region_held3 (fun _ => True) (trivial) ((go_at_call 58; refine (l01Var_any m _ (by omega)).mono ?_; rintro e w1 ⟨rfl, hb1⟩))
              all_goals go_wp2
              · have ht : (!vbs m == (s.extract a (j + 1)).toList) = true := by assumption
                go_ret3
                exact ⟨RvEnd.no (HR.out.endNe (by decide) hak HM.out (by rw [HC.out]; exact hc) (by rw [HE.out]; exact ht)), hb.drew.trans (hb1.mono hbsz)⟩
              · have ht : (!vbs m == (s.extract a (j + 1)).toList) = false := by assumption
                go_ret3
                exact ⟨RvEnd.yes (HR.out.endEq (by decide) hak HM.out (by rw [HC.out]; exact hc) hbig (by rw [HE.out]; exact ht)) rfl (by have := HA.out; omega), hb.drew.trans (hb1.mono hbsz)⟩
          · go_wp2_with fail
            go_roundw
            case rel => exact ⟨_, m, by omega, rfl, rfl, by have := HA.out; go_num, HR.out.next (by decide) hak HM.out (by rw [HC.out]; exact hc), hb⟩
            case measure => simp [intOf]; omega
      · have h5' : ¬ j < a + 5 := by have := HA.out; omega
        go_wp2
        go_ret3
        exact ⟨RvEnd.no (HR.out.out (by omega)), hb⟩
    · go_wp2
      go_ret3
      exact ⟨RvEnd.no (HR.out.out (by have := HA.out; omega)), hb⟩

theorem specRead_no (s : ByteArray) (a : Int) (w : World) (_hs : s.size ≤ 1048576) (ha : a < 0 ∨ s.size < a) :
    Calls Try.prog 60 #[.string s, .int .i64 a] w fun e w' => e = .returned (.tuple #[.int .i64 0, .int .i64 0, .bool false]) ∧ w = w' := by
  go_enter Try.func60, Try.ntmps60
  go_wp2_with fail
  refine (l01In_no _ _ _ _ (by omega)).mono ?_; rintro e w' ⟨rfl, rfl⟩
  go_wp2
  go_ret3
  exact ⟨rfl, rfl⟩
end Go.Proofs.Ytldcmfkmnjdfiaa
