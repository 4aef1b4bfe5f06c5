/- The walks of the model's sealed texts, and of the laws over sealed texts. -/
import Derived.Test.YtjjbjpilheedjajDoorSeal
import Derived.Test.YtjjbjpilheedjajDoorSpecSum
namespace Go.Proofs.YtjjbjpilheedjajDoor
open Go.RowKit

theorem specFour_any (x : Nat) (w : World) (hx : x < 4294967296) :
    Calls Tryd.prog 9 #[.int .u32 (x : Int)] w fun e w' => e = .returned (.string ⟨(f4 x).toArray⟩) ∧ Below w.heap.size w w' := by
  have hcv := f4_conv x w hx
  go_enter Tryd.func9, Tryd.ntmps9
  go_wp2
  go_ret
  exact ⟨rfl, (Below.refl _ _).alloc (Nat.le_refl _) _⟩

theorem specSealed_yes (s : ByteArray) (w : World) (hs : s.size ≤ 20000) :
    Calls Tryd.prog 5 #[.string s] w fun e w' => e = .returned (.tuple #[.string (s ++ tail4 s), .bool true]) ∧ Below w.heap.size w w' := by
  have hz := tail4_size s
  go_enter Tryd.func5, Tryd.ntmps5
  go_wp2_with fail
  refine (specOf_any s _ (by omega)).mono ?_; rintro e w1 ⟨rfl, rfl⟩
  go_wp2_with fail
  refine (specFour_any (sof s) _ (sof_lt s)).mono ?_; rintro e w1 ⟨he, hb1⟩
  obtain rfl : e = .returned (.string (tail4 s)) := he
  go_wp2
  go_ret2
  exact ⟨rfl, hb1⟩

theorem specSealed_no (s : ByteArray) (w : World) (hm : s.size ≤ 1048576) (hs : ¬ s.size ≤ 20000) :
    Calls Tryd.prog 5 #[.string s] w fun e w' => e = .returned (.tuple #[.string ⟨#[]⟩, .bool false]) ∧ w = w' := by
  go_enter Tryd.func5, Tryd.ntmps5
  go_wp2
  go_ret2
  exact ⟨rfl, rfl⟩

/-- What the two callees of the model answer, all as letters. -/
theorem specSeal_parts (u : ByteArray) (hu : u.size ≤ 1048577) : ∃ (z : Nat) (t : ByteArray), tail4 u = t ∧
    (∀ W : World, Calls Tryd.prog 10 #[.string u] W fun e w' => e = .returned (.int .u32 (z : Int)) ∧ W = w') ∧
    (∀ W : World, Calls Tryd.prog 9 #[.int .u32 (z : Int)] W fun e w' => e = .returned (.string t) ∧ Below W.heap.size W w') :=
  ⟨sof u, tail4 u, rfl, fun W => specOf_any u W hu, fun W => specFour_any (sof u) W (sof_lt u)⟩

theorem specUnsealed_size (s : ByteArray) (w : World) (hm : s.size ≤ 1048576) (h : s.size < 4 ∨ 20004 < s.size) :
    Calls Tryd.prog 7 #[.string s] w fun e w' => e = .returned (.tuple #[.string ⟨#[]⟩, .bool false]) ∧ Below w.heap.size w w' := by
  have hlm : s.size ≤ 1048576 := hm
  obtain ⟨m, hmi⟩ : ∃ m : Int, (s.size : Int) - 4 = m := ⟨_, rfl⟩
  rcases h with h | h
  · have hd0 : decide (m < 0) = true := by simp; omega
    clear h hm
    go_enter Tryd.func7, Tryd.ntmps7
    go_wp2_with fail
    go_region
    all_goals go_wp2
    all_goals go_ret2
    all_goals exact ⟨rfl, (Below.refl _ _).drew⟩
  · have hd0 : decide (m < 0) = false := by simp; omega
    have hd1 : decide ((20000 : Int) < m) = true := by simp; omega
    clear h hm
    go_enter Tryd.func7, Tryd.ntmps7
    go_wp2_with fail
    go_region
    all_goals go_wp2
    all_goals go_ret2
    all_goals exact ⟨rfl, (Below.refl _ _).drew⟩

theorem specUnsealed_yes (s : ByteArray) (n : Nat) (w : World) (hl : s.size = n + 4) (hs : n ≤ 20000) (he : tail4 (s.extract 0 n) = s.extract n s.size) :
    Calls Tryd.prog 7 #[.string s] w fun e w' => e = .returned (.tuple #[.string (s.extract 0 n), .bool true]) ∧ Below w.heap.size w w' := by
  have hcut : (s.extract 0 n).size = n := size_cut s n (by omega)
  obtain ⟨z, t, ht, h21, h32⟩ := specSeal_parts (s.extract 0 n) (by omega)
  rw [ht] at he
  obtain ⟨u, hu⟩ : ∃ u, s.extract 0 n = u := ⟨_, rfl⟩
  rw [hu] at hcut h21 ht
  have H21 := hide h21
  have H32 := hide h32
  have hli : (s.size : Int) - 4 = (n : Int) := by omega
  have hle : n ≤ s.size := by omega
  have hlm : s.size ≤ 20004 := by omega
  have hv : s.extract n s.size = t := he.symm
  have htt : (!t.toList == t.toList) = false := by simp
  have hd0 : decide ((n : Int) < 0) = false := by simp
  have hd1 : decide ((20000 : Int) < (n : Int)) = false := by simp; omega
  clear hl he h21 h32 ht hcut
  go_enter Tryd.func7, Tryd.ntmps7
  go_wp2_with fail
  go_region_held3 (fun _ => True) (trivial) ((first
    | (go_at_call 10; refine (unhide H21 _).mono ?_; rintro e w1 ⟨rfl, rfl⟩)
    | (go_at_call 9; refine (unhide H32 _).mono ?_; rintro e w1 ⟨rfl, hb1⟩)))
  go_wp2
  go_ret2
  exact ⟨by rw [hu]; rfl, (Below.refl _ w).drew.trans hb1⟩

theorem specUnsealed_no (s : ByteArray) (n : Nat) (w : World) (hl : s.size = n + 4) (hs : n ≤ 20000) (he : tail4 (s.extract 0 n) ≠ s.extract n s.size) :
    Calls Tryd.prog 7 #[.string s] w fun e w' => e = .returned (.tuple #[.string ⟨#[]⟩, .bool false]) ∧ Below w.heap.size w w' := by
  have hcut : (s.extract 0 n).size = n := size_cut s n (by omega)
  obtain ⟨z, t, ht, h21, h32⟩ := specSeal_parts (s.extract 0 n) (by omega)
  rw [ht] at he
  obtain ⟨u, hu⟩ : ∃ u, s.extract 0 n = u := ⟨_, rfl⟩
  rw [hu] at hcut h21 ht
  obtain ⟨v, hv⟩ : ∃ v, s.extract n s.size = v := ⟨_, rfl⟩
  rw [hv] at he
  have H21 := hide h21
  have H32 := hide h32
  have hli : (s.size : Int) - 4 = (n : Int) := by omega
  have hle : n ≤ s.size := by omega
  have hlm : s.size ≤ 20004 := by omega
  have htt : (!v.toList == t.toList) = true := by simp; intro h; exact he (bytes_eq h).symm
  have hd0 : decide ((n : Int) < 0) = false := by simp
  have hd1 : decide ((20000 : Int) < (n : Int)) = false := by simp; omega
  clear hl he h21 h32 ht hcut
  go_enter Tryd.func7, Tryd.ntmps7
  go_wp2_with fail
  go_region_held3 (fun _ => True) (trivial) ((first
    | (go_at_call 10; refine (unhide H21 _).mono ?_; rintro e w1 ⟨rfl, rfl⟩)
    | (go_at_call 9; refine (unhide H32 _).mono ?_; rintro e w1 ⟨rfl, hb1⟩)))
  go_wp2
  go_ret2
  exact ⟨rfl, (Below.refl _ w).drew.trans hb1⟩

theorem lawSealed_any (s : ByteArray) (w : World) (hm : s.size ≤ maxLen) (hg : 0 < w.heap.size) (hn : Nib w) :
    Calls Tryd.prog 3 #[.string s] w fun e w' => e = .returned (.bool true) ∧ Below w.heap.size w w' := by
  unfold maxLen at hm
  have HN := hide hn
  clear hn
  by_cases hs : s.size ≤ 1048576
  · by_cases h : s.size ≤ 20000
    · obtain ⟨t, ht⟩ : ∃ t, s ++ tail4 s = t := ⟨_, rfl⟩
      go_enter Tryd.func3, Tryd.ntmps3
      go_wp2_with fail
      refine (specSealed_yes s _ h).mono ?_; rintro e w1 ⟨rfl, hb1⟩
      rw [ht]
      go_wp2_with fail
      refine (implSealed_yes s _ h ((unhide HN).later hb1 hg)).mono ?_; rintro e w2 ⟨rfl, hb2⟩
      rw [ht]
      go_wp2
      go_ret
      exact ⟨rfl, hb1.trans (hb2.mono hb1.size)⟩
    · go_enter Tryd.func3, Tryd.ntmps3
      go_wp2_with fail
      refine (specSealed_no s _ hs h).mono ?_; rintro e w1 ⟨rfl, rfl⟩
      go_wp2_with fail
      refine (implSealed_no s _ hs h).mono ?_; rintro e w2 ⟨rfl, rfl⟩
      go_wp2
      go_ret
      exact ⟨rfl, Below.refl _ _⟩
  · go_enter Tryd.func3, Tryd.ntmps3
    go_wp2
    go_ret
    exact ⟨rfl, Below.refl _ _⟩

theorem lawUnsealed_any (s : ByteArray) (w : World) (hm : s.size ≤ maxLen) (hg : 0 < w.heap.size) (hn : Nib w) :
    Calls Tryd.prog 4 #[.string s] w fun e w' => e = .returned (.bool true) ∧ Below w.heap.size w w' := by
  unfold maxLen at hm
  have HN := hide hn
  clear hn
  by_cases hs : s.size ≤ 1048576
  · by_cases h : s.size < 4 ∨ 20004 < s.size
    · go_enter Tryd.func4, Tryd.ntmps4
      go_wp2_with fail
      refine (specUnsealed_size s _ hs h).mono ?_; rintro e w1 ⟨rfl, hb1⟩
      go_wp2_with fail
      refine (implUnsealed_size s _ hs h).mono ?_; rintro e w2 ⟨rfl, rfl⟩
      go_wp2
      go_ret
      exact ⟨rfl, hb1⟩
    · obtain ⟨n, hn⟩ : ∃ n, s.size = n + 4 := ⟨s.size - 4, by omega⟩
      have hn2 : n ≤ 20000 := by omega
      have HL := hide hn
      by_cases he : tail4 (s.extract 0 n) = s.extract n s.size
      · obtain ⟨t, ht⟩ : ∃ t, s.extract 0 n = t := ⟨_, rfl⟩
        have HE := hide he
        clear he h hn
        go_enter Tryd.func4, Tryd.ntmps4
        go_wp2_with fail
        refine (specUnsealed_yes s n _ (unhide HL) hn2 (unhide HE)).mono ?_; rintro e w1 ⟨rfl, hb1⟩
        rw [ht]
        go_wp2_with fail
        refine (implUnsealed_yes s n _ (unhide HL) hn2 ((unhide HN).later hb1 hg) (unhide HE)).mono ?_; rintro e w2 ⟨rfl, hb2⟩
        rw [ht]
        go_wp2
        go_ret
        exact ⟨rfl, hb1.trans (hb2.mono hb1.size)⟩
      · have HE := hide he
        clear he h hn
        go_enter Tryd.func4, Tryd.ntmps4
        go_wp2_with fail
        refine (specUnsealed_no s n _ (unhide HL) hn2 (unhide HE)).mono ?_; rintro e w1 ⟨rfl, hb1⟩
        go_wp2_with fail
        refine (implUnsealed_no s n _ (unhide HL) hn2 ((unhide HN).later hb1 hg) (unhide HE)).mono ?_; rintro e w2 ⟨rfl, hb2⟩
        go_wp2
        go_ret
        exact ⟨rfl, hb1.trans (hb2.mono hb1.size)⟩
  · go_enter Tryd.func4, Tryd.ntmps4
    go_wp2
    go_ret
    exact ⟨rfl, Below.refl _ _⟩
end Go.Proofs.YtjjbjpilheedjajDoor
