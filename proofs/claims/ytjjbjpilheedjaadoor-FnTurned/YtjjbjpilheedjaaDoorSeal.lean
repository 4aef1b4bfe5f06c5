/- The walks of the program's sealed texts. -/
import Derived.Test.YtjjbjpilheedjaaDoorFour
import Derived.Test.YtjjbjpilheedjaaDoorClone
import Derived.Deep.RegionHeld3
namespace Go.Proofs.YtjjbjpilheedjaaDoor
open Go.RowKit

/-- The sum of a text. -/
def sof (s : ByteArray) : Nat := smore 4294967295 s.data.toList
theorem sof_lt (s : ByteArray) : sof s < 4294967296 := smore_lt _ (by decide)
/-- The four bytes of its sum. -/
def tail4 (s : ByteArray) : ByteArray := ⟨(f4 (sof s)).toArray⟩
theorem tail4_size (s : ByteArray) : (tail4 s).size = 4 := rfl

theorem implSealed_yes (s : ByteArray) (w : World) (hs : s.size ≤ 20000) (hn : Nib w) :
    Calls Tryd.prog 18 #[.string s] w fun e w' => e = .returned (.tuple #[.string (s ++ tail4 s), .bool true]) ∧ Below w.heap.size w w' := by
  have HN := hide hn
  clear hn
  have hz := tail4_size s
  go_enter Tryd.func18, Tryd.ntmps18
  go_wp2_with fail
  refine (implOf_any s _ (by omega) (unhide HN)).mono ?_; rintro e w1 ⟨rfl, rfl⟩
  go_wp2_with fail
  refine (implBytes_any (sof s) _ (sof_lt s)).mono ?_; rintro e w1 ⟨he, hb1⟩
  obtain rfl : e = .returned (.string (tail4 s)) := he
  go_wp2
  go_ret2
  exact ⟨rfl, hb1⟩

theorem implSealed_no (s : ByteArray) (w : World) (hm : s.size ≤ 1048576) (hs : ¬ s.size ≤ 20000) :
    Calls Tryd.prog 18 #[.string s] w fun e w' => e = .returned (.tuple #[.string ⟨#[]⟩, .bool false]) ∧ w = w' := by
  go_enter Tryd.func18, Tryd.ntmps18
  go_wp2
  go_ret2
  exact ⟨rfl, rfl⟩

theorem bytes_eq {a b : ByteArray} (h : a.toList = b.toList) : a = b := by
  rw [ByteArray.toList_eq, ByteArray.toList_eq] at h
  exact ByteArray.ext (Array.toList_inj.mp h)

theorem size_cut (s : ByteArray) (n : Nat) (h : n ≤ s.size) : (s.extract 0 n).size = n := by simp; omega

/-- What the two callees answer at a text u whose sum is z, in the four bytes t: all as letters. -/
theorem seal_parts (u : ByteArray) (hu : u.size ≤ 1048577) : ∃ (z : Nat) (t : ByteArray), sof u = z ∧ tail4 u = t ∧ t.size = 4 ∧
    (∀ W : World, Nib W → Calls Tryd.prog 21 #[.string u] W fun e w' => e = .returned (.int .u32 (z : Int)) ∧ W = w') ∧
    (∀ W : World, Calls Tryd.prog 32 #[.int .u32 (z : Int)] W fun e w' => e = .returned (.string t) ∧ Below W.heap.size W w') :=
  ⟨sof u, tail4 u, rfl, rfl, rfl, fun W hW => implOf_any u W hu hW, fun W => implBytes_any (sof u) W (sof_lt u)⟩

theorem Nib.drew {w : World} (h : Nib w) : Nib w.drew := h

theorem implUnsealed_yes (s : ByteArray) (n : Nat) (w : World) (hl : s.size = n + 4) (hs : n ≤ 20000) (hn : Nib w) (he : tail4 (s.extract 0 n) = s.extract n s.size) :
    Calls Tryd.prog 19 #[.string s] w fun e w' => e = .returned (.tuple #[.string (s.extract 0 n), .bool true]) ∧ Below w.heap.size w w' := by
  have hcut : (s.extract 0 n).size = n := size_cut s n (by omega)
  obtain ⟨z, t, hz, ht, hts, h21, h32⟩ := seal_parts (s.extract 0 n) (by omega)
  rw [ht] at he
  obtain ⟨u, hu⟩ : ∃ u, s.extract 0 n = u := ⟨_, rfl⟩
  rw [hu] at hcut h21 hz ht
  have hcl : ∀ W : World, Calls Tryd.prog 30 #[.string u] W fun e w' => e = .returned (.string u) ∧ Below W.heap.size W w' := fun W => clone_any u W (by omega)
  have HN := hide hn
  have H21 := hide h21
  have H32 := hide h32
  have HCL := hide hcl
  have hli : (s.size : Int) - 4 = (n : Int) := by omega
  have hle : n ≤ s.size := by omega
  have hlm : s.size ≤ 20004 := by omega
  have hv : s.extract n s.size = t := he.symm
  have htt : (!t.toList == t.toList) = false := by simp
  clear hl hn he h21 h32 hcl hz ht hts hcut
  go_enter Tryd.func19, Tryd.ntmps19
  go_wp2_with fail
  go_region_held3 (fun _ => True) (trivial) ((first
    | (go_at_call 21; refine (unhide H21 _ (by exact unhide HN)).mono ?_; rintro e w1 ⟨rfl, rfl⟩)
    | (go_at_call 32; refine (unhide H32 _).mono ?_; rintro e w1 ⟨rfl, hb1⟩)))
  go_wp2_with fail
  refine (unhide HCL _).mono ?_; rintro e w2 ⟨rfl, hb2⟩
  go_wp2
  go_ret2
  exact ⟨by rw [hu]; rfl, (Below.refl _ w).drew.trans (hb1.trans (hb2.mono hb1.size))⟩

theorem implUnsealed_size (s : ByteArray) (w : World) (hm : s.size ≤ 1048576) (h : s.size < 4 ∨ 20004 < s.size) :
    Calls Tryd.prog 19 #[.string s] w fun e w' => e = .returned (.tuple #[.string ⟨#[]⟩, .bool false]) ∧ w = w' := by
  rcases h with h | h
  · have h1 : (s.size : Int) - 4 < 0 := by omega
    go_enter Tryd.func19, Tryd.ntmps19
    go_wp2
    go_ret2
    exact ⟨rfl, rfl⟩
  · have h0 : ¬ (s.size : Int) - 4 < 0 := by omega
    have h1 : (20000 : Int) < (s.size : Int) - 4 := by omega
    go_enter Tryd.func19, Tryd.ntmps19
    go_wp2
    go_ret2
    exact ⟨rfl, rfl⟩

theorem implUnsealed_no (s : ByteArray) (n : Nat) (w : World) (hl : s.size = n + 4) (hs : n ≤ 20000) (hn : Nib w) (he : tail4 (s.extract 0 n) ≠ s.extract n s.size) :
    Calls Tryd.prog 19 #[.string s] w fun e w' => e = .returned (.tuple #[.string ⟨#[]⟩, .bool false]) ∧ Below w.heap.size w w' := by
  have hcut : (s.extract 0 n).size = n := size_cut s n (by omega)
  obtain ⟨z, t, hz, ht, hts, h21, h32⟩ := seal_parts (s.extract 0 n) (by omega)
  rw [ht] at he
  obtain ⟨u, hu⟩ : ∃ u, s.extract 0 n = u := ⟨_, rfl⟩
  rw [hu] at hcut h21 hz ht
  obtain ⟨v, hv⟩ : ∃ v, s.extract n s.size = v := ⟨_, rfl⟩
  rw [hv] at he
  have HN := hide hn
  have H21 := hide h21
  have H32 := hide h32
  have hli : (s.size : Int) - 4 = (n : Int) := by omega
  have hle : n ≤ s.size := by omega
  have hlm : s.size ≤ 20004 := by omega
  have htt : (!t.toList == v.toList) = true := by simp; intro h; exact he (bytes_eq h)
  clear hl hn he h21 h32 hz ht hts hcut
  go_enter Tryd.func19, Tryd.ntmps19
  go_wp2_with fail
  go_region_held3 (fun _ => True) (trivial) ((first
    | (go_at_call 21; refine (unhide H21 _ (by exact unhide HN)).mono ?_; rintro e w1 ⟨rfl, rfl⟩)
    | (go_at_call 32; refine (unhide H32 _).mono ?_; rintro e w1 ⟨rfl, hb1⟩)))
  go_wp2
  go_ret2
  exact ⟨rfl, (Below.refl _ w).drew.trans hb1⟩
end Go.Proofs.YtjjbjpilheedjaaDoor
