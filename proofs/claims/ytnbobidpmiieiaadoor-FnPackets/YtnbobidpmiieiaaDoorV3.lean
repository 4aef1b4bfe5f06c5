/- Sum, SpecSum, Four, Seal, SpecSeal, MailNum, MailCat, Wk, K7a, K7b, K7c, K7d. -/
import Derived.Test.YtnbobidpmiieiaaDoorV2
namespace Go.Proofs.YtnbobidpmiieiaaDoor
open Go.RowKit
/-- The program's table lies at its block. -/
def Nib (w : World) : Prop := ∀ i, i < 16 → w.cell? ⟨0, i, none⟩ = some (.int .u32 (tabW.getD i 0 : Nat))
theorem Nib.later {w w' : World} {B : Nat} (h : Nib w) (hb : Below B w w') (hB : 0 < B) : Nib w' := fun i hi => by
  rw [hb.cell (p := ⟨0, i, none⟩) hB]; exact h i hi
theorem tab_lt (i : Nat) (h : i < 16) : tabW.getD i 0 < 4294967296 := by
  have : ∀ r : Fin 16, tabW.getD r.val 0 < 4294967296 := by decide
  exact this ⟨i, h⟩
theorem four_lt {x : Nat} (h : x < 4294967296) : four x < 4294967296 := by
  have := tab_lt (x % 16) (Nat.mod_lt _ (by omega))
  exact Nat.xor_lt_two_pow (n := 32) (by omega) (by omega)
theorem four_any (x : Nat) (w : World) (hx : x < 4294967296) (hn : Nib w) :
    Calls Tryd.prog 77 #[.int .u32 (x : Int)] w fun e w' => e = .returned (.int .u32 (four x : Nat)) ∧ w = w' := by
  have hc := hn (x % 16) (Nat.mod_lt _ (by omega))
  clear hn
  go_enter Tryd.func77, Tryd.ntmps77
  go_wp2
  go_ret
  exact ⟨ret_int (by rw [show (x : Int) / 16 = ((x / 16 : Nat) : Int) from by omega]; exact u32_xor_nat _ _ (by omega) (tab_lt _ (Nat.mod_lt _ (by omega)))), rfl⟩
theorem smore_step (x : Nat) (s : ByteArray) (k : Nat) (h : k < s.size) : smore x (s.data.toList.take (k + 1)) = st8 (smore x (s.data.toList.take k) ^^^ s[k].toNat) := by
  rw [List.take_succ_eq_append_getElem (by rw [Array.length_toList]; exact h), smore_append]; rfl
theorem more_any (x : Nat) (s : ByteArray) (w : World) (hx : x < 4294967296) (hs : s.size ≤ 1048577) (hn : Nib w) :
    Calls Tryd.prog 75 #[.int .u32 (x : Int), .string s] w fun e w' => e = .returned (.int .u32 (smore x s.data.toList : Nat)) ∧ w = w' := by
  have HN := hide hn
  clear hn
  go_enter Tryd.func75, Tryd.ntmps75
  go_wp2
  go_loop [0, 8] (fun sv iv => ∃ (k y : Nat), k ≤ s.size ∧ y = smore x (s.data.toList.take k) ∧ sv = .int .u32 (y : Int) ∧ iv = .int .i64 (k : Int)) (fun _ iv => s.size - (intOf iv).toNat)
  case atStart => exact ⟨0, x, Nat.zero_le _, rfl, rfl, rfl⟩
  case round =>
    obtain ⟨k, y, hk, hy, rfl, rfl⟩ := hrel
    have hyl : y < 4294967296 := by rw [hy]; exact smore_lt _ hx
    have HY := hide hy
    clear hy
    by_cases hlt : k < s.size
    · obtain ⟨c, hcx⟩ : ∃ c : Nat, s[k].toNat = c := ⟨_, rfl⟩
      have hcb : c < 256 := by rw [← hcx]; exact s[k].toNat_lt
      have HC := hide hcx
      have hI : (0 : Int) ≤ (k : Int) ∧ (k : Int) < (s.size : Int) := by omega
      obtain ⟨z, hz⟩ : ∃ z : Nat, y ^^^ c = z := ⟨_, rfl⟩
      have hzl : z < 4294967296 := by rw [← hz]; exact Nat.xor_lt_two_pow (n := 32) (by omega) (by omega)
      have hxr : bits .xor .u32 (y : Int) (c : Int) = (z : Int) := by rw [u32_xor_nat y c hyl (by omega), hz]
      have HZ := hide hz
      clear hz
      go_wp2_with fail
      refine (four_any z _ hzl (unhide HN)).mono ?_; rintro e w' ⟨rfl, rfl⟩
      go_wp2_with fail
      refine (four_any (four z) _ (four_lt hzl) (unhide HN)).mono ?_; rintro e w' ⟨rfl, rfl⟩
      go_wp2
      go_round
      case rel => exact ⟨k + 1, four (four z), by omega, by rw [smore_step x s k hlt, ← unhide HY, unhide HC, unhide HZ, st8_four], rfl, by go_num⟩
      case measure => simp [intOf]; omega
    · go_wp2
      go_ret
      exact ⟨ret_int (by rw [unhide HY, List.take_of_length_le (by rw [Array.length_toList]; exact Nat.le_of_not_lt hlt)]), rfl⟩
theorem implMore_any (x : Nat) (s : ByteArray) (w : World) (hx : x < 4294967296) (hs : s.size ≤ 1048577) (hn : Nib w) :
    Calls Tryd.prog 67 #[.int .u32 (x : Int), .string s] w fun e w' => e = .returned (.int .u32 (smore x s.data.toList : Nat)) ∧ w = w' := by
  have HN := hide hn
  clear hn
  go_enter Tryd.func67, Tryd.ntmps67
  go_wp2_with fail
  refine (more_any x s _ hx hs (unhide HN)).mono ?_; rintro e w' ⟨rfl, rfl⟩
  go_wp2
  go_ret
  exact ⟨rfl, rfl⟩
theorem implOf_any (s : ByteArray) (w : World) (hs : s.size ≤ 1048577) (hn : Nib w) :
    Calls Tryd.prog 47 #[.string s] w fun e w' => e = .returned (.int .u32 (smore 4294967295 s.data.toList : Nat)) ∧ w = w' := by
  have HN := hide hn
  clear hn
  go_enter Tryd.func47, Tryd.ntmps47
  go_wp2_with fail
  refine (implMore_any 4294967295 s _ (by decide) hs (unhide HN)).mono ?_; rintro e w' ⟨rfl, rfl⟩
  go_wp2
  go_ret
  exact ⟨rfl, rfl⟩
def stN : Nat → Nat → Nat
  | 0, x => x
  | k + 1, x => st (stN k x)
theorem stN_lt : ∀ (k : Nat) {x : Nat}, x < 4294967296 → stN k x < 4294967296
  | 0, _, h => h
  | k + 1, _, h => st_lt (stN_lt k h)
theorem specMore_any (x : Nat) (s : ByteArray) (w : World) (hx : x < 4294967296) (hs : s.size ≤ 1048577) :
    Calls Tryd.prog 68 #[.int .u32 (x : Int), .string s] w fun e w' => e = .returned (.int .u32 (smore x s.data.toList : Nat)) ∧ w = w' := by
  go_enter Tryd.func68, Tryd.ntmps68
  go_wp2
  go_loop [0, 5] (fun sv iv => ∃ (k y : Nat), k ≤ s.size ∧ y = smore x (s.data.toList.take k) ∧ sv = .int .u32 (y : Int) ∧ iv = .int .i64 (k : Int)) (fun _ iv => s.size - (intOf iv).toNat)
  case atStart => exact ⟨0, x, Nat.zero_le _, rfl, rfl, rfl⟩
  case round =>
    obtain ⟨k, y, hk, hy, rfl, rfl⟩ := hrel
    have hyl : y < 4294967296 := by rw [hy]; exact smore_lt _ hx
    have HY := hide hy
    clear hy
    by_cases hlt : k < s.size
    · obtain ⟨c, hcx⟩ : ∃ c : Nat, s[k].toNat = c := ⟨_, rfl⟩
      have hcb : c < 256 := by rw [← hcx]; exact s[k].toNat_lt
      have HC := hide hcx
      have hI : (0 : Int) ≤ (k : Int) ∧ (k : Int) < (s.size : Int) := by omega
      obtain ⟨z, hz⟩ : ∃ z : Nat, y ^^^ c = z := ⟨_, rfl⟩
      have hzl : z < 4294967296 := by rw [← hz]; exact Nat.xor_lt_two_pow (n := 32) (by omega) (by omega)
      have hxr : bits .xor .u32 (y : Int) (c : Int) = (z : Int) := by rw [u32_xor_nat y c hyl (by omega), hz]
      have HZ := hide hz
      clear hz
      go_wp2
      go_loop [0, 6] (fun sv iv => ∃ (j v : Nat), j ≤ 8 ∧ v = stN j z ∧ sv = .int .u32 (v : Int) ∧ iv = .int .i64 (j : Int)) (fun _ iv => 8 - (intOf iv).toNat)
      case atStart => exact ⟨0, z, by omega, rfl, rfl, rfl⟩
      case round =>
        obtain ⟨j, v, hj, hv, rfl, rfl⟩ := hrel
        have hvl : v < 4294967296 := by rw [hv]; exact stN_lt j hzl
        have HV := hide hv
        clear hv
        by_cases hj8 : j < 8
        · obtain ⟨q, hq⟩ : ∃ q : Nat, v / 2 = q := ⟨_, rfl⟩
          have hqi : (v : Int) / 2 = (q : Int) := by omega
          have hql : q < 4294967296 := by omega
          have HQ := hide hq
          clear hq
          by_cases ho : v % 2 = 1
          · have hoi : ((v : Int) % 2 == 1) = true := by simp; omega
            obtain ⟨r, hr⟩ : ∃ r : Nat, q ^^^ 3558460437 = r := ⟨_, rfl⟩
            have hri : bits .xor .u32 (q : Int) 3558460437 = (r : Int) := by rw [← hr]; exact u32_xor_nat q 3558460437 hql (by omega)
            have HR := hide hr
            have HO := hide ho
            clear hr ho
            go_wp2
            go_round
            case rel => exact ⟨j + 1, r, by omega, by rw [stN, ← unhide HV, st, if_pos (unhide HO), unhide HQ, unhide HR], rfl, by go_num⟩
            case measure => simp [intOf]; omega
          · have hoi : ((v : Int) % 2 == 1) = false := by simp; omega
            have HO := hide ho
            clear ho
            go_wp2
            go_round
            case rel => exact ⟨j + 1, q, by omega, by rw [stN, ← unhide HV, st, if_neg (unhide HO), unhide HQ], rfl, by go_num⟩
            case measure => simp [intOf]; omega
        · have hj' : j = 8 := by omega
          subst hj'
          go_wp2
          go_round
          case rel => exact ⟨k + 1, v, by omega, by rw [smore_step x s k hlt, ← unhide HY, unhide HC, unhide HZ, unhide HV]; rfl, rfl, by go_num⟩
          case measure => simp [intOf]; omega
    · go_wp2
      go_ret
      exact ⟨ret_int (by rw [unhide HY, List.take_of_length_le (by rw [Array.length_toList]; exact Nat.le_of_not_lt hlt)]), rfl⟩
theorem specOf_any (s : ByteArray) (w : World) (hs : s.size ≤ 1048577) :
    Calls Tryd.prog 50 #[.string s] w fun e w' => e = .returned (.int .u32 (smore 4294967295 s.data.toList : Nat)) ∧ w = w' := by
  go_enter Tryd.func50, Tryd.ntmps50
  go_wp2_with fail
  refine (specMore_any 4294967295 s _ (by decide) hs).mono ?_; rintro e w' ⟨rfl, rfl⟩
  go_wp2
  go_ret
  exact ⟨rfl, rfl⟩
theorem f4_conv (x : Nat) (w : World) (hx : x < 4294967296) :
    (convert 22 9 (.slice (some ⟨w.heap.size, 0, none⟩) 4 4)).run Tryd.prog (w.alloc (.cells #[.int .u8 ((x : Int) / 16777216), .int .u8 ((x : Int) / 65536 % 256), .int .u8 ((x : Int) / 256 % 256), .int .u8 ((x : Int) % 256)] 5)) = .ok (.string ⟨(f4 x).toArray⟩) (w.alloc (.cells #[.int .u8 ((x : Int) / 16777216), .int .u8 ((x : Int) / 65536 % 256), .int .u8 ((x : Int) / 256 % 256), .int .u8 ((x : Int) % 256)] 5)) := by
  refine run_convert_bytes_back (P := Tryd.prog) _ 22 9 5 ⟨w.heap.size, 0, none⟩ 4 (f4 x) Tryd.underlying22 Tryd.underlying5 Tryd.underlying9 (fun j hj => ?_)
  have hj' : j < 4 := hj
  have key : ∀ (i : Nat) (v : Value), (#[.int .u8 ((x : Int) / 16777216), .int .u8 ((x : Int) / 65536 % 256), .int .u8 ((x : Int) / 256 % 256), .int .u8 ((x : Int) % 256)] : Array Value)[i]? = some v →
      (w.alloc (.cells #[.int .u8 ((x : Int) / 16777216), .int .u8 ((x : Int) / 65536 % 256), .int .u8 ((x : Int) / 256 % 256), .int .u8 ((x : Int) % 256)] 5)).cell? ((⟨w.heap.size, 0, none⟩ : Addr).add i) = some v := by
    intro i v h
    rw [show (⟨w.heap.size, 0, none⟩ : Addr).add i = ⟨w.heap.size, i, none⟩ from by by_cases h0 : i = 0 <;> simp [Addr.add, h0]]
    rw [cell_of_row _ w.heap.size i _ _ (0, 0) (heap_alloc_new w _)]
    exact h
  match j, hj' with
  | 0, _ => exact key 0 _ (congrArg some (congrArg (Value.int .u8) (by show (x : Int) / 16777216 = ((UInt8.ofNat (x / 16777216)).toNat : Nat); rw [u8_of]; omega)))
  | 1, _ => exact key 1 _ (congrArg some (congrArg (Value.int .u8) (by show (x : Int) / 65536 % 256 = ((UInt8.ofNat (x / 65536)).toNat : Nat); rw [u8_of]; omega)))
  | 2, _ => exact key 2 _ (congrArg some (congrArg (Value.int .u8) (by show (x : Int) / 256 % 256 = ((UInt8.ofNat (x / 256)).toNat : Nat); rw [u8_of]; omega)))
  | 3, _ => exact key 3 _ (congrArg some (congrArg (Value.int .u8) (by show (x : Int) % 256 = ((UInt8.ofNat x).toNat : Nat); rw [u8_of]; omega)))
theorem implBytes_any (x : Nat) (w : World) (hx : x < 4294967296) :
    Calls Tryd.prog 48 #[.int .u32 (x : Int)] w fun e w' => e = .returned (.string ⟨(f4 x).toArray⟩) ∧ Below w.heap.size w w' := by
  have hcv := f4_conv x w hx
  go_enter Tryd.func48, Tryd.ntmps48
  go_wp2
  go_ret
  exact ⟨rfl, (Below.refl _ _).alloc (Nat.le_refl _) _⟩
/-- The sum of a text. -/
def sof (s : ByteArray) : Nat := smore 4294967295 s.data.toList
theorem sof_lt (s : ByteArray) : sof s < 4294967296 := smore_lt _ (by decide)
/-- The four bytes of its sum. -/
def tail4 (s : ByteArray) : ByteArray := ⟨(f4 (sof s)).toArray⟩
theorem tail4_size (s : ByteArray) : (tail4 s).size = 4 := rfl
theorem implSealed_yes (s : ByteArray) (w : World) (hs : s.size ≤ 20000) (hn : Nib w) :
    Calls Tryd.prog 24 #[.string s] w fun e w' => e = .returned (.tuple #[.string (s ++ tail4 s), .bool true]) ∧ Below w.heap.size w w' := by
  have HN := hide hn
  clear hn
  have hz := tail4_size s
  go_enter Tryd.func24, Tryd.ntmps24
  go_wp2_with fail
  refine (implOf_any s _ (by omega) (unhide HN)).mono ?_; rintro e w1 ⟨rfl, rfl⟩
  go_wp2_with fail
  refine (implBytes_any (sof s) _ (sof_lt s)).mono ?_; rintro e w1 ⟨he, hb1⟩
  obtain rfl : e = .returned (.string (tail4 s)) := he
  go_wp2
  go_ret2
  exact ⟨rfl, hb1⟩
theorem bytes_eq {a b : ByteArray} (h : a.toList = b.toList) : a = b := by
  rw [ByteArray.toList_eq, ByteArray.toList_eq] at h
  exact ByteArray.ext (Array.toList_inj.mp h)
theorem size_cut (s : ByteArray) (n : Nat) (h : n ≤ s.size) : (s.extract 0 n).size = n := by simp; omega
/-- What the two callees answer at a text u whose sum is z, in the four bytes t: all as letters. -/
theorem seal_parts (u : ByteArray) (hu : u.size ≤ 1048577) : ∃ (z : Nat) (t : ByteArray), sof u = z ∧ tail4 u = t ∧ t.size = 4 ∧
    (∀ W : World, Nib W → Calls Tryd.prog 47 #[.string u] W fun e w' => e = .returned (.int .u32 (z : Int)) ∧ W = w') ∧
    (∀ W : World, Calls Tryd.prog 48 #[.int .u32 (z : Int)] W fun e w' => e = .returned (.string t) ∧ Below W.heap.size W w') :=
  ⟨sof u, tail4 u, rfl, rfl, rfl, fun W hW => implOf_any u W hu hW, fun W => implBytes_any (sof u) W (sof_lt u)⟩
theorem Nib.drew {w : World} (h : Nib w) : Nib w.drew := h
theorem implUnsealed_yes (s : ByteArray) (n : Nat) (w : World) (hl : s.size = n + 4) (hs : n ≤ 20000) (hn : Nib w) (he : tail4 (s.extract 0 n) = s.extract n s.size) :
    Calls Tryd.prog 29 #[.string s] w fun e w' => e = .returned (.tuple #[.string (s.extract 0 n), .bool true]) ∧ Below w.heap.size w w' := by
  have hcut : (s.extract 0 n).size = n := size_cut s n (by omega)
  obtain ⟨z, t, hz, ht, hts, h21, h32⟩ := seal_parts (s.extract 0 n) (by omega)
  rw [ht] at he
  obtain ⟨u, hu⟩ : ∃ u, s.extract 0 n = u := ⟨_, rfl⟩
  rw [hu] at hcut h21 hz ht
  have hcl : ∀ W : World, Calls Tryd.prog 51 #[.string u] W fun e w' => e = .returned (.string u) ∧ Below W.heap.size W w' := fun W => clone_any u W (by omega)
  have HN := hide hn
  have H21 := hide h21
  have H32 := hide h32
  have HCL := hide hcl
  have hli : (s.size : Int) - 4 = (n : Int) := by omega
  have hle : n ≤ s.size := by omega
  have hlm : s.size ≤ 20004 := by omega
  have hv : s.extract n s.size = t := he.symm
  have htt : (!t.toList == t.toList) = false := by simp
  clear hl hn he h21 h32 hcl hz ht hts hcut
  go_enter Tryd.func29, Tryd.ntmps29
  go_wp2_with fail
  go_region_held3 (fun _ => True) (trivial) ((first
    | (go_at_call 47; refine (unhide H21 _ (by exact unhide HN)).mono ?_; rintro e w1 ⟨rfl, rfl⟩)
    | (go_at_call 48; refine (unhide H32 _).mono ?_; rintro e w1 ⟨rfl, hb1⟩)))
  go_wp2_with fail
  refine (unhide HCL _).mono ?_; rintro e w2 ⟨rfl, hb2⟩
  go_wp2
  go_ret2
  exact ⟨by rw [hu]; rfl, (Below.refl _ w).drew.trans (hb1.trans (hb2.mono hb1.size))⟩
theorem implUnsealed_size (s : ByteArray) (w : World) (hm : s.size ≤ 1048576) (h : s.size < 4 ∨ 20004 < s.size) :
    Calls Tryd.prog 29 #[.string s] w fun e w' => e = .returned (.tuple #[.string ⟨#[]⟩, .bool false]) ∧ w = w' := by
  rcases h with h | h
  · have h1 : (s.size : Int) - 4 < 0 := by omega
    go_enter Tryd.func29, Tryd.ntmps29
    go_wp2
    go_ret2
    exact ⟨rfl, rfl⟩
  · have h0 : ¬ (s.size : Int) - 4 < 0 := by omega
    have h1 : (20000 : Int) < (s.size : Int) - 4 := by omega
    go_enter Tryd.func29, Tryd.ntmps29
    go_wp2
    go_ret2
    exact ⟨rfl, rfl⟩
theorem implUnsealed_no (s : ByteArray) (n : Nat) (w : World) (hl : s.size = n + 4) (hs : n ≤ 20000) (hn : Nib w) (he : tail4 (s.extract 0 n) ≠ s.extract n s.size) :
    Calls Tryd.prog 29 #[.string s] w fun e w' => e = .returned (.tuple #[.string ⟨#[]⟩, .bool false]) ∧ Below w.heap.size w w' := by
  have hcut : (s.extract 0 n).size = n := size_cut s n (by omega)
  obtain ⟨z, t, hz, ht, hts, h21, h32⟩ := seal_parts (s.extract 0 n) (by omega)
  rw [ht] at he
  obtain ⟨u, hu⟩ : ∃ u, s.extract 0 n = u := ⟨_, rfl⟩
  rw [hu] at hcut h21 hz ht
  obtain ⟨v, hv⟩ : ∃ v, s.extract n s.size = v := ⟨_, rfl⟩
  rw [hv] at he
  have HN := hide hn
  have H21 := hide h21
  have H32 := hide h32
  have hli : (s.size : Int) - 4 = (n : Int) := by omega
  have hle : n ≤ s.size := by omega
  have hlm : s.size ≤ 20004 := by omega
  have htt : (!t.toList == v.toList) = true := by simp; intro h; exact he (bytes_eq h)
  clear hl hn he h21 h32 hz ht hts hcut
  go_enter Tryd.func29, Tryd.ntmps29
  go_wp2_with fail
  go_region_held3 (fun _ => True) (trivial) ((first
    | (go_at_call 47; refine (unhide H21 _ (by exact unhide HN)).mono ?_; rintro e w1 ⟨rfl, rfl⟩)
    | (go_at_call 48; refine (unhide H32 _).mono ?_; rintro e w1 ⟨rfl, hb1⟩)))
  go_wp2
  go_ret2
  exact ⟨rfl, (Below.refl _ w).drew.trans hb1⟩
theorem specFour_any (x : Nat) (w : World) (hx : x < 4294967296) :
    Calls Tryd.prog 49 #[.int .u32 (x : Int)] w fun e w' => e = .returned (.string ⟨(f4 x).toArray⟩) ∧ Below w.heap.size w w' := by
  have hcv := f4_conv x w hx
  go_enter Tryd.func49, Tryd.ntmps49
  go_wp2
  go_ret
  exact ⟨rfl, (Below.refl _ _).alloc (Nat.le_refl _) _⟩
theorem specSealed_yes (s : ByteArray) (w : World) (hs : s.size ≤ 20000) :
    Calls Tryd.prog 27 #[.string s] w fun e w' => e = .returned (.tuple #[.string (s ++ tail4 s), .bool true]) ∧ Below w.heap.size w w' := by
  have hz := tail4_size s
  go_enter Tryd.func27, Tryd.ntmps27
  go_wp2_with fail
  refine (specOf_any s _ (by omega)).mono ?_; rintro e w1 ⟨rfl, rfl⟩
  go_wp2_with fail
  refine (specFour_any (sof s) _ (sof_lt s)).mono ?_; rintro e w1 ⟨he, hb1⟩
  obtain rfl : e = .returned (.string (tail4 s)) := he
  go_wp2
  go_ret2
  exact ⟨rfl, hb1⟩
theorem specSealed_no (s : ByteArray) (w : World) (hm : s.size ≤ 1048576) (hs : ¬ s.size ≤ 20000) :
    Calls Tryd.prog 27 #[.string s] w fun e w' => e = .returned (.tuple #[.string ⟨#[]⟩, .bool false]) ∧ w = w' := by
  go_enter Tryd.func27, Tryd.ntmps27
  go_wp2
  go_ret2
  exact ⟨rfl, rfl⟩
/-- What the two callees of the model answer, all as letters. -/
theorem specSeal_parts (u : ByteArray) (hu : u.size ≤ 1048577) : ∃ (z : Nat) (t : ByteArray), tail4 u = t ∧
    (∀ W : World, Calls Tryd.prog 50 #[.string u] W fun e w' => e = .returned (.int .u32 (z : Int)) ∧ W = w') ∧
    (∀ W : World, Calls Tryd.prog 49 #[.int .u32 (z : Int)] W fun e w' => e = .returned (.string t) ∧ Below W.heap.size W w') :=
  ⟨sof u, tail4 u, rfl, fun W => specOf_any u W hu, fun W => specFour_any (sof u) W (sof_lt u)⟩
theorem specUnsealed_size (s : ByteArray) (w : World) (hm : s.size ≤ 1048576) (h : s.size < 4 ∨ 20004 < s.size) :
    Calls Tryd.prog 33 #[.string s] w fun e w' => e = .returned (.tuple #[.string ⟨#[]⟩, .bool false]) ∧ Below w.heap.size w w' := by
  have hlm : s.size ≤ 1048576 := hm
  obtain ⟨m, hmi⟩ : ∃ m : Int, (s.size : Int) - 4 = m := ⟨_, rfl⟩
  rcases h with h | h
  · have hd0 : decide (m < 0) = true := by simp; omega
    clear h hm
    go_enter Tryd.func33, Tryd.ntmps33
    go_wp2_with fail
    go_region
    all_goals go_wp2
    all_goals go_ret2
    all_goals exact ⟨rfl, (Below.refl _ _).drew⟩
  · have hd0 : decide (m < 0) = false := by simp; omega
    have hd1 : decide ((20000 : Int) < m) = true := by simp; omega
    clear h hm
    go_enter Tryd.func33, Tryd.ntmps33
    go_wp2_with fail
    go_region
    all_goals go_wp2
    all_goals go_ret2
    all_goals exact ⟨rfl, (Below.refl _ _).drew⟩
theorem specUnsealed_yes (s : ByteArray) (n : Nat) (w : World) (hl : s.size = n + 4) (hs : n ≤ 20000) (he : tail4 (s.extract 0 n) = s.extract n s.size) :
    Calls Tryd.prog 33 #[.string s] w fun e w' => e = .returned (.tuple #[.string (s.extract 0 n), .bool true]) ∧ Below w.heap.size w w' := by
  have hcut : (s.extract 0 n).size = n := size_cut s n (by omega)
  obtain ⟨z, t, ht, h21, h32⟩ := specSeal_parts (s.extract 0 n) (by omega)
  rw [ht] at he
  obtain ⟨u, hu⟩ : ∃ u, s.extract 0 n = u := ⟨_, rfl⟩
  rw [hu] at hcut h21 ht
  have H21 := hide h21
  have H32 := hide h32
  have hli : (s.size : Int) - 4 = (n : Int) := by omega
  have hle : n ≤ s.size := by omega
  have hlm : s.size ≤ 20004 := by omega
  have hv : s.extract n s.size = t := he.symm
  have htt : (!t.toList == t.toList) = false := by simp
  have hd0 : decide ((n : Int) < 0) = false := by simp
  have hd1 : decide ((20000 : Int) < (n : Int)) = false := by simp; omega
  clear hl he h21 h32 ht hcut
  go_enter Tryd.func33, Tryd.ntmps33
  go_wp2_with fail
  go_region_held3 (fun _ => True) (trivial) ((first
    | (go_at_call 50; refine (unhide H21 _).mono ?_; rintro e w1 ⟨rfl, rfl⟩)
    | (go_at_call 49; refine (unhide H32 _).mono ?_; rintro e w1 ⟨rfl, hb1⟩)))
  go_wp2
  go_ret2
  exact ⟨by rw [hu]; rfl, (Below.refl _ w).drew.trans hb1⟩
theorem specUnsealed_no (s : ByteArray) (n : Nat) (w : World) (hl : s.size = n + 4) (hs : n ≤ 20000) (he : tail4 (s.extract 0 n) ≠ s.extract n s.size) :
    Calls Tryd.prog 33 #[.string s] w fun e w' => e = .returned (.tuple #[.string ⟨#[]⟩, .bool false]) ∧ Below w.heap.size w w' := by
  have hcut : (s.extract 0 n).size = n := size_cut s n (by omega)
  obtain ⟨z, t, ht, h21, h32⟩ := specSeal_parts (s.extract 0 n) (by omega)
  rw [ht] at he
  obtain ⟨u, hu⟩ : ∃ u, s.extract 0 n = u := ⟨_, rfl⟩
  rw [hu] at hcut h21 ht
  obtain ⟨v, hv⟩ : ∃ v, s.extract n s.size = v := ⟨_, rfl⟩
  rw [hv] at he
  have H21 := hide h21
  have H32 := hide h32
  have hli : (s.size : Int) - 4 = (n : Int) := by omega
  have hle : n ≤ s.size := by omega
  have hlm : s.size ≤ 20004 := by omega
  have htt : (!v.toList == t.toList) = true := by simp; intro h; exact he (bytes_eq h).symm
  have hd0 : decide ((n : Int) < 0) = false := by simp
  have hd1 : decide ((20000 : Int) < (n : Int)) = false := by simp; omega
  clear hl he h21 h32 ht hcut
  go_enter Tryd.func33, Tryd.ntmps33
  go_wp2_with fail
  go_region_held3 (fun _ => True) (trivial) ((first
    | (go_at_call 50; refine (unhide H21 _).mono ?_; rintro e w1 ⟨rfl, rfl⟩)
    | (go_at_call 49; refine (unhide H32 _).mono ?_; rintro e w1 ⟨rfl, hb1⟩)))
  go_wp2
  go_ret2
  exact ⟨rfl, (Below.refl _ w).drew.trans hb1⟩
/-- Block k holds a reader. -/
def Dg (W : World) (k : Nat) (s : ByteArray) (b : Int) : Prop := W.heap[k]? = some (.cells #[.string s, .int .i64 b] 103 (0, 0))
theorem Dg.lt {W : World} {k : Nat} {s : ByteArray} {b : Int} (h : Dg W k s b) : k < W.heap.size := (Array.getElem?_eq_some_iff.1 h).1
theorem Dg.new (w : World) (s : ByteArray) (b : Int) : Dg (w.alloc (.cells #[.string s, .int .i64 b] 103)) w.heap.size s b := heap_alloc_new w _
theorem Dg.later {W W' : World} {k : Nat} {s : ByteArray} {b : Int} (h : Dg W k s b) (hb : Below W.heap.size W W') : Dg W' k s b := (hb.block k h.lt).trans h
theorem Dg.below {W W' : World} {B k : Nat} {s : ByteArray} {b : Int} (h : Dg W k s b) (hb : Below B W W') (hk : k < B) : Dg W' k s b := (hb.block k hk).trans h
theorem Dg.cells {W : World} {k : Nat} {s : ByteArray} {b : Int} (h : Dg W k s b) : W.cell? ⟨k, 0, none⟩ = some (.string s) ∧ W.cell? ⟨k, 1, none⟩ = some (.int .i64 b) :=
  ⟨cell_of_row W k 0 _ _ _ h, cell_of_row W k 1 _ _ _ h⟩
theorem Dg.loose {W : World} {k : Nat} {s : ByteArray} {b : Int} (h : Dg W k s b) : W.frozen? ⟨k, 0, none⟩ = false ∧ W.frozen? ⟨k, 1, none⟩ = false :=
  ⟨frozen_of_row W k 0 _ _ h, frozen_of_row W k 1 _ _ h⟩
theorem Dg.s1 {W : World} {k : Nat} {s : ByteArray} {b : Int} (h : Dg W k s b) (b' : Int) : Dg (W.setCell ⟨k, 1, none⟩ (.int .i64 b')) k s b' := heap_setCell_same W k 1 _ _ (.int .i64 b') h
theorem Dg.far {W : World} {k j i : Nat} {s : ByteArray} {b : Int} (h : Dg W k s b) (x : Value) (hk : k ≠ j) : Dg (W.setCell ⟨j, i, none⟩ x) k s b := heap_setCell_far x h hk
/-- What it panics with. -/
abbrev notHere : List PanicEntry := [{ v := .iface 106 (.agg #[]), recovered := false }]
theorem must_yes (w : World) : Calls Tryd.prog 55 #[.bool true] w fun e w' => e = .returned (.tuple #[]) ∧ w' = w := by
  go_enter Tryd.func55, Tryd.ntmps55
  go_wp2
  go_end0
  exact ⟨rfl, rfl⟩
theorem must_no (w : World) : Calls Tryd.prog 55 #[.bool false] w fun e w' => e = .panicked notHere ∧ w' = w := by
  go_enter Tryd.func55, Tryd.ntmps55
  go_wp2
  exact ⟨rfl, rfl, rfl⟩
/-- How a call ends that reads a number, a text, a register, by the reader at block k. -/
def Num1 (w : World) (k : Nat) (s : ByteArray) (b : Int) (e : Ending) (w' : World) : Prop :=
  (∃ n c, rd s b = some (n, c) ∧ e = .returned (.int .i64 n) ∧ Dg w' k s c ∧ w.grownBy w' (some k)) ∨ (rd s b = none ∧ e = .panicked notHere ∧ w.grownBy w' (some k))
def Txt1 (w : World) (k : Nat) (s : ByteArray) (b : Int) (e : Ending) (w' : World) : Prop :=
  (∃ t c, rsh s b = some (t, c) ∧ e = .returned (.string t) ∧ Dg w' k s c ∧ w.grownBy w' (some k)) ∨ (rsh s b = none ∧ e = .panicked notHere ∧ w.grownBy w' (some k))
theorem rdi_l (s : ByteArray) (b : Int) (hs : s.size ≤ 1048576) : ∃ (n c : Int) (ok : Bool), Hid ((ok = true ∧ rd s b = some (n, c)) ∨ (ok = false ∧ rd s b = none)) ∧ Hid (∀ w, Calls Tryd.prog 72 #[.string s, .int .i64 b] w fun e w' => e = .returned (.tuple #[.int .i64 n, .int .i64 c, .bool ok]) ∧ Below w.heap.size w w') := by
  have h := implRd s b (hs := hs)
  unfold rdT at h
  cases hr : rd s b with
  | none => rw [hr] at h; exact ⟨0, 0, false, Or.inr ⟨rfl, rfl⟩, h⟩
  | some p => rw [hr] at h; exact ⟨p.1, p.2, true, Or.inl ⟨rfl, rfl⟩, h⟩
theorem rshi_l (s : ByteArray) (b : Int) (hs : s.size ≤ 1048576) : ∃ (t : ByteArray) (c : Int) (ok : Bool), Hid ((ok = true ∧ rsh s b = some (t, c)) ∨ (ok = false ∧ rsh s b = none)) ∧ Hid (∀ w, Calls Tryd.prog 73 #[.string s, .int .i64 b] w fun e w' => e = .returned (.tuple #[.string t, .int .i64 c, .bool ok]) ∧ Below w.heap.size w w') := by
  have h := implRsh s b (hs := hs)
  unfold rshT at h
  cases hr : rsh s b with
  | none => rw [hr] at h; exact ⟨⟨#[]⟩, 0, false, Or.inr ⟨rfl, rfl⟩, h⟩
  | some p => rw [hr] at h; exact ⟨p.1, p.2, true, Or.inl ⟨rfl, rfl⟩, h⟩
set_option maxHeartbeats 800000 in
set_option maxRecDepth 100000 in
theorem numr_any (k : Nat) (s : ByteArray) (b : Int) (w : World) (hs : s.size ≤ 1048576) (hc : Dg w k s b) :
    Calls Tryd.prog 53 #[.pointer (some ⟨k, 0, none⟩)] w fun e w' => Num1 w k s b e w' := by
  obtain ⟨n, c, ok, hr, cr⟩ := rdi_l s b hs
  have HC := hid hc
  clear hc hs
  have HS : Hid (∀ W, Below w.heap.size w W → (W.cell? ⟨k, 0, none⟩ = some (.string s) ∧ W.cell? ⟨k, 1, none⟩ = some (.int .i64 b))) := fun W h => (HC.out.later h).cells
  go_enter Tryd.func53, Tryd.ntmps53
  go_wp2_with fail
  go_region_held3 (fun W => (W.cell? ⟨k, 0, none⟩ = some (.string s) ∧ W.cell? ⟨k, 1, none⟩ = some (.int .i64 b)))
    ((refine HS.out _ ?_; repeat (first | exact bdr (bre _) | refine btr ?_ (by assumption))))
    ((go_at_call 72; refine (cr.out _).mono ?_; rintro e w1 ⟨rfl, hb1⟩))
  have B1 : Hid (Below w.heap.size w w1) := by show Below _ _ _; repeat (first | exact bdr (bre _) | refine btr ?_ (by assumption))
  have K1 := hid (HC.out.later B1.out)
  have d := K1.out.cells
  have f := K1.out.loose
  clear hb1 HS
  cases ok
  · go_wp2_with fail
    refine (must_no _).mono ?_; rintro e w2 ⟨rfl, h2⟩
    subst h2
    go_wp2_with fail
    exact ⟨rfl, Or.inr ⟨(by rcases hr.out with ⟨h, _⟩ | ⟨_, h⟩; (cases h); exact h), rfl, grown_below B1.out _⟩⟩
  · go_wp2_with fail
    refine (must_yes _).mono ?_; rintro e w2 ⟨rfl, h2⟩
    subst h2
    go_wp2
    go_ret
    exact Or.inl ⟨n, c, (by rcases hr.out with ⟨_, h⟩ | ⟨h, _⟩; (exact h); cases h), rfl, K1.out.s1 c, wst (grown_below B1.out _) 1 _⟩
set_option maxHeartbeats 800000 in
set_option maxRecDepth 100000 in
theorem short_any (k : Nat) (s : ByteArray) (b : Int) (w : World) (hs : s.size ≤ 1048576) (hc : Dg w k s b) :
    Calls Tryd.prog 54 #[.pointer (some ⟨k, 0, none⟩)] w fun e w' => Txt1 w k s b e w' := by
  obtain ⟨t, c, ok, hr, cr⟩ := rshi_l s b hs
  have HC := hid hc
  clear hc hs
  have HS : Hid (∀ W, Below w.heap.size w W → (W.cell? ⟨k, 0, none⟩ = some (.string s) ∧ W.cell? ⟨k, 1, none⟩ = some (.int .i64 b))) := fun W h => (HC.out.later h).cells
  go_enter Tryd.func54, Tryd.ntmps54
  go_wp2_with fail
  go_region_held3 (fun W => (W.cell? ⟨k, 0, none⟩ = some (.string s) ∧ W.cell? ⟨k, 1, none⟩ = some (.int .i64 b)))
    ((refine HS.out _ ?_; repeat (first | exact bdr (bre _) | refine btr ?_ (by assumption))))
    ((go_at_call 73; refine (cr.out _).mono ?_; rintro e w1 ⟨rfl, hb1⟩))
  have B1 : Hid (Below w.heap.size w w1) := by show Below _ _ _; repeat (first | exact bdr (bre _) | refine btr ?_ (by assumption))
  have K1 := hid (HC.out.later B1.out)
  have d := K1.out.cells
  have f := K1.out.loose
  clear hb1 HS
  cases ok
  · go_wp2_with fail
    refine (must_no _).mono ?_; rintro e w2 ⟨rfl, h2⟩
    subst h2
    go_wp2_with fail
    exact ⟨rfl, Or.inr ⟨(by rcases hr.out with ⟨h, _⟩ | ⟨_, h⟩; (cases h); exact h), rfl, grown_below B1.out _⟩⟩
  · go_wp2_with fail
    refine (must_yes _).mono ?_; rintro e w2 ⟨rfl, h2⟩
    subst h2
    go_wp2
    go_ret
    exact Or.inl ⟨t, c, (by rcases hr.out with ⟨_, h⟩ | ⟨h, _⟩; (exact h); cases h), rfl, K1.out.s1 c, wst (grown_below B1.out _) 1 _⟩
theorem assert_yes (W : World) : (Instr.typeAssert (.iface 106 (.agg #[])) 20 106 true).run Tryd.prog W = .ok (.tuple #[.agg #[], .bool true]) W := by kernel_rfl
theorem assert_nil (W : World) : (Instr.typeAssert .nilIface 20 106 true).run Tryd.prog W = .ok (.tuple #[.agg #[], .bool false]) W := by kernel_rfl
/-- Block k holds a word. -/
def Bwd (W : World) (k : Nat) (b : Bool) : Prop := W.heap[k]? = some (.cells #[.bool b] 4 (0, 0))
theorem Bwd.new (w : World) (b : Bool) : Bwd (w.alloc (.cells #[.bool b] 4)) w.heap.size b := heap_alloc_new w _
theorem Bwd.lt {W : World} {k : Nat} {b : Bool} (h : Bwd W k b) : k < W.heap.size := (Array.getElem?_eq_some_iff.1 h).1
theorem Bwd.later {W W' : World} {k : Nat} {b : Bool} (h : Bwd W k b) (hb : Below W.heap.size W W') : Bwd W' k b := (hb.block k h.lt).trans h
theorem Bwd.grown {W W' : World} {k : Nat} {b : Bool} {r : Option Nat} (h : Bwd W k b) (hg : W.grownBy W' r) (hk : some k ≠ r) : Bwd W' k b := (hg.block k h.lt hk).trans h
theorem Bwd.cell {W : World} {k : Nat} {b : Bool} (h : Bwd W k b) : W.cell? ⟨k, 0, none⟩ = some (.bool b) := cell_of_row W k 0 _ _ _ h
theorem Bwd.loose {W : World} {k : Nat} {b : Bool} (h : Bwd W k b) : W.frozen? ⟨k, 0, none⟩ = false := frozen_of_row W k 0 _ _ h
theorem Bwd.set {W : World} {k : Nat} {b : Bool} (h : Bwd W k b) (b' : Bool) : Bwd (W.setCell ⟨k, 0, none⟩ (.bool b')) k b' := heap_setCell_same W k 0 _ _ (.bool b') h
set_option maxRecDepth 100000 in
theorem catch_panic (kb : Nat) (b0 : Bool) (older : List PanicEntry) (w : World) (hb : Bwd w kb b0) :
    CallsD Tryd.prog 76 #[.pointer (some ⟨kb, 0, none⟩)] (.panicking ({ v := .iface 106 (.agg #[]), recovered := false } :: older)) w fun e u' w' =>
      e = .returned (.tuple #[]) ∧ u' = .panicking ({ v := .iface 106 (.agg #[]), recovered := true } :: older) ∧ w' = (w.alloc (.cells #[] 106)).setCell ⟨kb, 0, none⟩ (.bool false) := by
  have h1 := hb.later (bpush (bre w) (.cells #[] 106))
  have hc := h1.cell
  have hz := h1.loose
  refine callsD_of_wpS Tryd.func76 rfl fun c₀ cs hu => ?_
  apply wpS_seq
  apply wpS_region
  simp [wpOpsS, go_sem, recoverD, hu, Tryd.ntmps76, Exit.thenS, assert_yes]
  apply wpS_seq
  apply wpS_region
  simp [wpOpsS, go_sem, Exit.thenS]
  refine wpS_cond (t := true) (by simp [Act.eval, Array.replicate]) ?_
  simp only [if_true]
  apply wpS_region
  simp [wpOpsS, go_sem, hc, hz, bodyPostS, results, Tryd.results76]
set_option maxRecDepth 100000 in
theorem catch_idle (kb : Nat) (w : World) :
    CallsD Tryd.prog 76 #[.pointer (some ⟨kb, 0, none⟩)] .returning w fun e u' w' => e = .returned (.tuple #[]) ∧ u' = .returning ∧ w' = w.alloc (.cells #[] 106) := by
  refine callsD_of_wpS Tryd.func76 rfl fun c₀ cs hu => ?_
  apply wpS_seq
  apply wpS_region
  simp [wpOpsS, go_sem, recoverD, hu, Tryd.ntmps76, Exit.thenS, assert_nil]
  apply wpS_seq
  apply wpS_region
  simp [wpOpsS, go_sem, Exit.thenS]
  refine wpS_cond (t := false) (by simp [Act.eval, Array.replicate]) ?_
  simp only [Bool.false_eq_true, if_false]
  refine wpS_of_wp (wp_skip ?_)
  cases c₀
  simp_all [bodyPostS, results, Tryd.results76]
/-- All that was there is as it was, but two blocks. -/
structure Kept2 (w w' : World) (kr km : Nat) : Prop where
  os : w'.os = w.os
  tape : w'.tape = w.tape
  output : w'.output = w.output
  size : w.heap.size ≤ w'.heap.size
  block : ∀ j, j < w.heap.size → j ≠ kr → j ≠ km → w'.heap[j]? = w.heap[j]?
theorem Kept2.of_grown {w w' : World} {kr km : Nat} (h : w.grownBy w' (some kr)) : Kept2 w w' kr km := ⟨h.os, h.tape, h.output, h.size, fun j hj h1 _ => h.block j hj (by simpa using h1)⟩
theorem Kept2.set {w w' : World} {kr km : Nat} (h : Kept2 w w' kr km) (i : Nat) (x : Value) : Kept2 w (w'.setCell ⟨km, i, none⟩ x) kr km :=
  ⟨h.os, h.tape, h.output, by simpa [World.setCell] using h.size, fun j hj h1 h2 => (Below.heap_setCell w' ⟨km, i, none⟩ x j h2).trans (h.block j hj h1 h2)⟩
theorem Kept2.new {w w' : World} {kr km : Nat} (h : Kept2 w w' kr km) {j : Nat} (hj : w.heap.size ≤ j) (i : Nat) (x : Value) : Kept2 w (w'.setCell ⟨j, i, none⟩ x) kr km :=
  ⟨h.os, h.tape, h.output, by simpa [World.setCell] using h.size, fun k hk h1 h2 => (Below.heap_setCell w' ⟨j, i, none⟩ x k (by show k ≠ j; omega)).trans (h.block k hk h1 h2)⟩
theorem Kept2.later {w w' w'' : World} {kr km : Nat} (h : Kept2 w w' kr km) (hb : Below w'.heap.size w' w'') : Kept2 w w'' kr km :=
  ⟨hb.os.trans h.os, hb.tape.trans h.tape, hb.output.trans h.output, Nat.le_trans h.size hb.size, fun k hk h1 h2 => (hb.block k (Nat.lt_of_lt_of_le hk h.size)).trans (h.block k hk h1 h2)⟩
theorem Kept2.push {w w' : World} {o : Obj} {kr km : Nat} (h : Kept2 (w.alloc o) w' kr km) : Kept2 w w' kr km := by
  have hb := bpush (bre w) o
  exact ⟨h.os.trans hb.os, h.tape.trans hb.tape, h.output.trans hb.output, Nat.le_trans hb.size h.size, fun k hk h1 h2 => (h.block k (Nat.lt_of_lt_of_le hk hb.size) h1 h2).trans (hb.block k hk)⟩
theorem Kept2.below {w w' : World} {B kr km : Nat} (h : Kept2 w w' kr km) (hr : B ≤ kr) (hm : B ≤ km) (hB : B ≤ w.heap.size) : Below B w w' :=
  ⟨h.os, h.tape, h.output, h.size, fun j hj => h.block j (by omega) (by omega) (by omega)⟩
theorem alloc_size (w : World) (o : Obj) : (w.alloc o).heap.size = w.heap.size + 1 := by simp
/-- Block k holds a function. -/
def Fg (W : World) (k ty f : Nat) : Prop := W.heap[k]? = some (.cells #[.func (.func f) #[] #[]] ty (0, 0))
theorem Fg.lt {W : World} {k ty f : Nat} (h : Fg W k ty f) : k < W.heap.size := (Array.getElem?_eq_some_iff.1 h).1
theorem Fg.later {W W' : World} {k ty f : Nat} (h : Fg W k ty f) (hb : Below W.heap.size W W') : Fg W' k ty f := (hb.block k h.lt).trans h
theorem Fg.cell {W : World} {k ty f : Nat} (h : Fg W k ty f) : W.cell? ⟨k, 0, none⟩ = some (.func (.func f) #[] #[]) := cell_of_row W k 0 _ _ _ h
end Go.Proofs.YtnbobidpmiieiaaDoor
namespace Go.Proofs.YtnbobidpmiieiaaDoor
open Go.RowKit Go.ChangeMaps
theorem cell_sameT {w w' : World} {p : Addr} (h : w'.heap[p.block]? = w.heap[p.block]?) : w'.cell? p = w.cell? p := by unfold World.cell?; rw [h]
/-- The slice of address a is the texts of G, in blocks from lo on, below hi. -/
def Ss (lo hi : Nat) (W : World) (a : Option Addr) (G : List ByteArray) : Prop :=
  hi ≤ W.heap.size ∧ ∀ i (h : i < G.length), ∃ k o, a = some ⟨k, o, none⟩ ∧ lo ≤ k ∧ k < hi ∧ W.cell? ⟨k, o + i, none⟩ = some (.string G[i])
theorem Ss.same {lo hi : Nat} {W W' : World} {a : Option Addr} {G : List ByteArray} (h : Ss lo hi W a G) (hs : hi ≤ W'.heap.size) (hk : ∀ k, lo ≤ k → k < hi → W'.heap[k]? = W.heap[k]?) : Ss lo hi W' a G := by
  refine ⟨hs, fun i hi' => ?_⟩
  obtain ⟨k, o, h1, h2, h3, c⟩ := h.2 i hi'
  exact ⟨k, o, h1, h2, h3, (cell_sameT (p := ⟨k, _, none⟩) (hk k h2 h3)).trans c⟩
theorem Ss.later {lo hi : Nat} {W W' : World} {a : Option Addr} {G : List ByteArray} (h : Ss lo hi W a G) (hb : Below W.heap.size W W') : Ss lo hi W' a G :=
  h.same (Nat.le_trans h.1 hb.size) (fun k _ hk => hb.block k (Nat.lt_of_lt_of_le hk h.1))
theorem Ss.at {lo hi : Nat} {W : World} {a : Option Addr} {G : List ByteArray} (h : Ss lo hi W a G) {i : Nat} (hi' : i < G.length) : ∃ k o, a = some ⟨k, o, none⟩ ∧ k < W.heap.size ∧ W.cell? ⟨k, o + i, none⟩ = some (.string G[i]) := by
  obtain ⟨k, o, e1, e2, e3, e4⟩ := h.2 i hi'
  exact ⟨k, o, e1, Nat.lt_of_lt_of_le e3 h.1, e4⟩
/-- A row of texts that a call owns. -/
abbrev OwV (W : World) (B : Nat) (v : Value) (G : List ByteArray) : Prop := W.ownsRow B 9 1 v G.length (G.map (Value.string))
theorem OwV.is {W : World} {B n c : Nat} {a : Option Addr} {G : List ByteArray} (h : OwV W B (.slice a n c) G) : n = G.length ∧ Ss B W.heap.size W a G := by
  have hw := h
  rcases h.2 with ⟨h1, h2⟩ | ⟨g, cap, cur, h1, h2, h3, h4, h5, h6, h7⟩
  · simp only [Value.slice.injEq] at h1
    exact ⟨by omega, Nat.le_refl _, fun i hi => by omega⟩
  · simp only [Value.slice.injEq] at h1
    obtain ⟨rfl, rfl, rfl⟩ := h1
    refine ⟨rfl, Nat.le_refl _, fun i hi => ⟨g, 0, rfl, h2, (Array.getElem?_eq_some_iff.1 h3).1, ?_⟩⟩
    simp only [Nat.zero_add]
    rw [hw.cellAt i (by omega), List.getElem?_map, List.getElem?_eq_getElem hi]
    rfl
theorem OwV.shape {W : World} {B : Nat} {v : Value} {G : List ByteArray} (h : OwV W B v G) : ∃ a c, v = .slice a G.length c ∧ (a = none → c = 0) := by
  rcases h.2 with ⟨h1, h2⟩ | ⟨g, cap, cur, h1, _⟩
  · exact ⟨none, 0, by rw [h1, h2], fun _ => rfl⟩
  · exact ⟨_, _, h1, fun h => by simp at h⟩
theorem OwV.stored {W : World} {B g n c : Nat} {G : List ByteArray} (h : OwV W B (.slice (some ⟨g, 0, none⟩) n c) G) (i : Nat) (x : ByteArray) :
    OwV (W.setCell ⟨g, i, none⟩ (.string x)) B (.slice (some ⟨g, 0, none⟩) n c) (G.set i x) := by
  obtain rfl := (OwV.is h).1
  have h1 := (World.ownsRow.stored h i (.string x)).1
  rw [← List.map_set] at h1
  simpa [OwV] using h1
theorem info_str17 : (Tryd.prog.info? 9).map (fun i => (i.zero, i.size, i.bytes)) = some (some (.string ⟨#[]⟩), 1, 16) := by kernel_rfl
theorem str_rep (n : Nat) : (madeCells #[.string ⟨#[]⟩] (n * 1)).toList = (List.replicate n (⟨#[]⟩ : ByteArray)).map Value.string := by
  apply List.ext_getElem?
  intro j
  by_cases hj : j < n <;> simp [madeCells, hj, Nat.mod_one]
/-- A new row of n texts. -/
theorem make_str (n : Nat) (hn : n ≤ 1048576) : ∃ M : Array Value, Hid (∀ W : World, OwV (W.alloc (.cells M 9)) W.heap.size (.slice (some ⟨W.heap.size, 0, none⟩) n n) (List.replicate n ⟨#[]⟩)) ∧
    ∀ W : World, (Instr.makeSlice 32 (.int .i64 (n : Int)) (.int .i64 (n : Int))).run Tryd.prog W = .ok (.slice (some ⟨W.heap.size, 0, none⟩) n n) (W.alloc (.cells M 9)) := by
  obtain ⟨i0, hi, hz0, hz1, hz2⟩ := info_parts3 info_str17
  refine ⟨madeCells #[.string ⟨#[]⟩] (n * 1), fun W => ?_, fun W => ?_⟩
  · have h := World.ownsRow_lit (base := W.heap.size) (e := 9) (size := 1) W (madeCells #[.string ⟨#[]⟩] (n * 1)) n (Nat.le_refl _) (by unfold maxLen; omega) (size_madeCells _ _)
    rw [str_rep] at h
    simpa [OwV] using h
  · have h := run_make (P := Tryd.prog) W 32 9 i0 (.string ⟨#[]⟩) Tryd.underlying32 hi hz0 .i64 .i64 (n : Int) (n : Int) (by omega) (by omega) (by rw [hz2]; omega) (by omega)
    rw [hz1, Int.toNat_natCast] at h
    exact h
theorem OwV.later {w w' : World} {B : Nat} {v : Value} {l : List ByteArray} (h : OwV w B v l) (hb : Below w.heap.size w w') : OwV w' B v l :=
  World.ownsRow.kept (row := none) h ⟨hb.os, hb.tape, hb.output, hb.size, fun k hk _ => hb.block k hk⟩ (by cases v.ownBlock <;> simp)
theorem gof {w w' : World} (r : Option Nat) (hb : Below w.heap.size w w') : w.grownBy w' r := ⟨hb.os, hb.tape, hb.output, hb.size, fun k hk _ => hb.block k hk⟩
/-- Block k holds a link. -/
def Lk (W : World) (k ty : Nat) (ep : Int) (gv : Value) (nx wt : Int) : Prop := W.heap[k]? = some (.cells #[.int .i64 ep, gv, .int .i64 nx, .int .i64 wt] ty (0, 0))
section
variable {W W' : World} {k ty : Nat} {ep nx wt : Int} {gv : Value}
theorem Lk.new (w : World) (ty : Nat) (ep : Int) (gv : Value) (nx wt : Int) : Lk (w.alloc (.cells #[.int .i64 ep, gv, .int .i64 nx, .int .i64 wt] ty)) w.heap.size ty ep gv nx wt := heap_alloc_new w _
theorem Lk.lt (h : Lk W k ty ep gv nx wt) : k < W.heap.size := (Array.getElem?_eq_some_iff.1 h).1
theorem Lk.later (h : Lk W k ty ep gv nx wt) (hb : Below W.heap.size W W') : Lk W' k ty ep gv nx wt := (hb.block k h.lt).trans h
theorem Lk.grown {r : Option Nat} (h : Lk W k ty ep gv nx wt) (hg : W.grownBy W' r) (hk : some k ≠ r) : Lk W' k ty ep gv nx wt := (hg.block k h.lt hk).trans h
theorem Lk.cells (h : Lk W k ty ep gv nx wt) : W.cell? ⟨k, 0, none⟩ = some (.int .i64 ep) ∧ W.cell? ⟨k, 1, none⟩ = some gv ∧ W.cell? ⟨k, 2, none⟩ = some (.int .i64 nx) ∧ W.cell? ⟨k, 3, none⟩ = some (.int .i64 wt) :=
  ⟨cell_of_row W k 0 _ _ _ h, cell_of_row W k 1 _ _ _ h, cell_of_row W k 2 _ _ _ h, cell_of_row W k 3 _ _ _ h⟩
theorem Lk.loose (h : Lk W k ty ep gv nx wt) : W.frozen? ⟨k, 0, none⟩ = false ∧ W.frozen? ⟨k, 1, none⟩ = false ∧ W.frozen? ⟨k, 2, none⟩ = false ∧ W.frozen? ⟨k, 3, none⟩ = false :=
  ⟨frozen_of_row W k 0 _ _ h, frozen_of_row W k 1 _ _ h, frozen_of_row W k 2 _ _ h, frozen_of_row W k 3 _ _ h⟩
theorem Lk.s0 (h : Lk W k ty ep gv nx wt) (x : Int) : Lk (W.setCell ⟨k, 0, none⟩ (.int .i64 x)) k ty x gv nx wt := heap_setCell_same W k 0 _ _ _ h
theorem Lk.s1 (h : Lk W k ty ep gv nx wt) (x : Value) : Lk (W.setCell ⟨k, 1, none⟩ x) k ty ep x nx wt := heap_setCell_same W k 1 _ _ _ h
theorem Lk.s2 (h : Lk W k ty ep gv nx wt) (x : Int) : Lk (W.setCell ⟨k, 2, none⟩ (.int .i64 x)) k ty ep gv x wt := heap_setCell_same W k 2 _ _ _ h
theorem Lk.s3 (h : Lk W k ty ep gv nx wt) (x : Int) : Lk (W.setCell ⟨k, 3, none⟩ (.int .i64 x)) k ty ep gv nx x := heap_setCell_same W k 3 _ _ _ h
end
/-- A block's four cells, all put. -/
def putL (W : World) (k : Nat) (ep : Int) (gv : Value) (nx wt : Int) : World := (((W.setCell ⟨k, 0, none⟩ (.int .i64 ep)).setCell ⟨k, 1, none⟩ gv).setCell ⟨k, 2, none⟩ (.int .i64 nx)).setCell ⟨k, 3, none⟩ (.int .i64 wt)
theorem Lk.put {W : World} {k ty : Nat} {e0 n0 w0 : Int} {gv0 : Value} (h : Lk W k ty e0 gv0 n0 w0) (ep : Int) (gv : Value) (nx wt : Int) : Lk (putL W k ep gv nx wt) k ty ep gv nx wt := (((h.s0 ep).s1 gv).s2 nx).s3 wt
theorem putL_grown (W : World) (k : Nat) (ep : Int) (gv : Value) (nx wt : Int) : W.grownBy (putL W k ep gv nx wt) (some k) := wst (wst (wst (wst (wre W (some k)) 0 _) 1 _) 2 _) 3 _
abbrev lkv (ep : Int) (gv : Value) (nx wt : Int) : Value := .agg #[.int .i64 ep, gv, .int .i64 nx, .int .i64 wt]
abbrev lk0 : Array Value := #[.int .i64 0, .slice none 0 0, .int .i64 0, .int .i64 0]
theorem OwV.grown {W W' : World} {B k : Nat} {v : Value} {G : List ByteArray} (h : OwV W B v G) (hg : W.grownBy W' (some k)) (hk : k < B) : OwV W' B v G :=
  World.ownsRow.kept h hg (by
    cases hv : v.ownBlock with
    | none => exact Or.inl rfl
    | some j => exact Or.inr (fun e => by have := (World.ownsRow.lt h j hv).1; simp at e; omega))
theorem own_off17 {W W' : World} {B : Nat} {r : Option Nat} {v : Value} {G : List ByteArray} (h : OwV W B v G) (hg : W.grownBy W' r) (hk : ∀ j, v.ownBlock = some j → r ≠ some j) : OwV W' B v G := World.ownsRow.kept h hg (by
  cases hv : Value.ownBlock v with
  | none => exact Or.inl rfl
  | some j => exact Or.inr (fun e => hk j hv e.symm))
theorem ss_all17 {lo hi : Nat} {W : World} {ad : Addr} {G : List ByteArray} (h : Ss lo hi W (some ad) G) : ∀ j u, (G.map Value.string)[j]? = some u → W.cell? (ad.add j) = some u := by
  intro j u hu
  have hj : j < G.length := by have := (List.getElem?_eq_some_iff.1 hu).1; simpa using this
  obtain ⟨k, o, h1, _, hc⟩ := h.at hj
  simp only [Option.some.injEq] at h1
  subst h1
  rw [addr_add, hc]
  rw [List.getElem?_map, List.getElem?_eq_getElem hj] at hu
  simpa using hu
theorem str_one17 (G : List ByteArray) : ∀ u ∈ G.map Value.string, u.oneCell' = true := by
  intro u hu
  obtain ⟨x, _, rfl⟩ := List.mem_map.1 hu
  rfl
theorem ownV_empty17 (W : World) (B : Nat) (hB : B ≤ W.heap.size) : OwV (W.alloc (.cells #[] 9)) B (.slice (some ⟨W.heap.size, 0, none⟩) 0 0) [] :=
  World.ownsRow_lit (base := B) (e := 9) (size := 1) W #[] 0 hB (by unfold maxLen; omega) rfl
theorem info_parts17 {x : Option TypeInfo} {a : Option Value} {b c : Nat} (h : x.map (fun i => (i.zero, i.size, i.bytes)) = some (a, b, c)) : ∃ i, x = some i ∧ i.zero = a ∧ i.size = b ∧ i.bytes = c := by
  cases x with
  | none => cases h
  | some i => simp only [Option.map_some, Option.some.injEq, Prod.mk.injEq] at h; exact ⟨i, rfl, h⟩
/-- A row of texts appended to a row of one's own, as one step of a region that draws its order. -/
theorem step_append_strs17 {ops : Array Oper} {o : Oper} {a : Act} {w : World} {K : Act → World → Prop} {Q : Exit → Act → World → Prop} {E : Prop}
    (hg : o.guard = none) (s x : Operand) (hop : o.op = Op.call { callee := Callee.builtin Builtin.append, args := #[s, x], argTypes := #[32, 32] })
    (B : Nat) (v : Value) (L : List ByteArray) (hs : a.eval s = v) (hown : OwV w B v L) (ad : Addr) (n c : Nat) (G : List ByteArray)
    (hx : a.eval x = .slice (some ad) n c) (hl : G.length = n) (hG : ∀ j u, (G.map Value.string)[j]? = some u → w.cell? (ad.add j) = some u) (hlen : L.length ≤ 2000000) (hlen2 : n ≤ 2000000) (hB : B ≤ w.heap.size)
    (hK : ∀ v' w', OwV w' B v' (L ++ G) → w.grownBy w' v.ownBlock → K (a.put o.dst v') w') :
    if Region.wanted o (yielded ops a.tmps) = true then Oper.wp Tryd.prog o a w K Q else E := by
  have hw : Region.wanted o (yielded ops a.tmps) = true := by simp [Region.wanted, hg]
  rw [if_pos hw]
  obtain ⟨i0, hi, hz0, hz1, hz2⟩ := info_parts17 info_str17
  obtain ⟨v', w', hr, h2, h3, h4, h5⟩ := run_append_own_at (P := Tryd.prog) w B 32 o.type 9 i0 (.string ⟨#[]⟩) 1 16 Tryd.underlying32 hi hz0 hz1 hz2 rfl (by decide) v _ _ hown ad n c (G.map Value.string) (by rw [List.length_map, hl, Nat.mul_one]) hG (str_one17 G) (by unfold maxLen; omega) (by omega) hB
  unfold Oper.wp execOp
  simp only [hop, resolve, invoke, builtin, Sem.run_bind, Sem.run_pure, Result.andThen_ok, List.map_toArray, List.map_cons, List.map_nil, hs, hx, hr]
  exact hK v' w' (by unfold OwV; rw [List.length_append, List.map_append, hl]; exact h2) h3
set_option maxHeartbeats 1600000 in
set_option maxRecDepth 100000 in
theorem copy17_any (lo hi : Nat) (ep nx wt : Int) (ga : Option Addr) (gn gc : Nat) (G : List ByteArray) (w : World) (hgl : G.length = gn) (hgn : gn ≤ 1048577) (hs : Ss lo hi w ga G) (hg0 : ga = none → gc = 0) :
    Calls Tryd.prog 39 #[lkv ep (.slice ga gn gc) nx wt] w fun e w' => ∃ ag cg, e = .returned (lkv ep (.slice ag gn cg) nx wt) ∧ OwV w' w.heap.size (.slice ag gn cg) G ∧ Below w.heap.size w w' := by
  obtain ⟨W0, hW0⟩ : ∃ W0, (w.alloc (.cells #[.int .i64 ep, .slice ga gn gc, .int .i64 nx, .int .i64 wt] 34)).alloc (.cells lk0 34) = W0 := ⟨_, rfl⟩
  have b0 : Below w.heap.size w W0 := by subst hW0; exact bpush (bpush (bre _) _) _
  have x0 : Lk W0 w.heap.size 34 ep (.slice ga gn gc) nx wt := by subst hW0; exact (Lk.new w _ _ _ _ _).later (bpush (bre _) _)
  have x1 : Lk W0 (w.heap.size + 1) 34 0 (.slice none 0 0) 0 0 := by
    subst hW0
    have h := Lk.new (w.alloc (.cells #[.int .i64 ep, .slice ga gn gc, .int .i64 nx, .int .i64 wt] 34)) 34 0 (.slice none 0 0) 0 0
    simpa using h
  have HIS := hid (hs.later b0)
  have HGL := hid hgl
  have HGN := hid hgn
  have HG0 := hid hg0
  have A0 := hid x0
  have A1 := hid x1
  have B0 := hid b0
  have HW := hid hW0
  have HSS : Hid (∀ W, Lk W w.heap.size 34 ep (.slice ga gn gc) nx wt → (W.cell? ⟨w.heap.size, 0, none⟩ = some (.int .i64 ep) ∧ W.cell? ⟨w.heap.size, 1, none⟩ = some (.slice ga gn gc) ∧ W.cell? ⟨w.heap.size, 2, none⟩ = some (.int .i64 nx) ∧ W.cell? ⟨w.heap.size, 3, none⟩ = some (.int .i64 wt))) := hid (fun W h => h.cells)
  clear x0 x1 b0 hW0 hs hgl hgn hg0
  go_enter Tryd.func39, Tryd.ntmps39
  go_upto_region 1 with fail
  rw [HW.out]
  clear HW
  refine wp_region_noPanic ?_
  refine wp_region_held_drew (S := (fun W => (W.cell? ⟨w.heap.size, 0, none⟩ = some (.int .i64 ep) ∧ W.cell? ⟨w.heap.size, 1, none⟩ = some (.slice ga gn gc) ∧ W.cell? ⟨w.heap.size, 2, none⟩ = some (.int .i64 nx) ∧ W.cell? ⟨w.heap.size, 3, none⟩ = some (.int .i64 wt)))) (by kernel_rfl) (HSS.out _ A0.out) (fun hHeld => ?_)
  obtain ⟨v0, hv0⟩ : ∃ x, W0.drew = x := ⟨_, rfl⟩
  replace A0 := hid (A0.out.later (bdr (bre _)))
  replace A1 := hid (A1.out.later (bdr (bre _)))
  replace B0 := hid (btr B0.out (bdr (bre _)))
  replace HIS := hid (HIS.out.later (bdr (bre _)))
  rw [hv0] at A0 A1 B0 hHeld HIS
  rw [hv0]
  clear hv0
  refine tk 0 ?_
  refine tk 1 ?_
  refine tk 3 ?_
  refine tk 4 ?_
  refine tk 6 ?_
  refine tk 7 ?_
  refine tk 8 ?_
  refine tk 9 ?_
  clear hHeld
  refine ry 2 (fun K hK => ?_)
  go_simp
  have LW : Hid (w.heap.size + 1 < v0.heap.size) := hid A1.out.lt
  have b1 := bpush (bre v0) (.cells #[] 9)
  refine hK.out _ _ (HSS.out _ (A0.out.later b1)) (fun hHeld => ?_)
  clear hK K hHeld
  try simp only [Act.put, List.setIfInBounds_toArray, List.set_cons_zero, List.set_cons_succ]
  replace A0 := hid (A0.out.later b1)
  replace A1 := hid (A1.out.later b1)
  replace HIS := hid (HIS.out.later b1)
  have O0 := hid (ownV_empty17 v0 v0.heap.size (Nat.le_refl _))
  replace B0 := hid (btr B0.out b1)
  have HL : Hid (v0.heap.size ≤ (v0.alloc (.cells #[] 9)).heap.size) := b1.size
  have HLT : Hid (v0.heap.size < (v0.alloc (.cells #[] 9)).heap.size) := hid (by simp)
  clear b1
  cases ga with
  | none =>
    obtain rfl := HG0.out rfl
    have hz : gn = 0 := by
      rcases Nat.eq_zero_or_pos gn with h | h
      · exact h
      · obtain ⟨k, o, h1, _⟩ := HIS.out.at (i := 0) (by rw [HGL.out]; exact h)
        cases h1
    subst hz
    have hge : G = [] := List.eq_nil_of_length_eq_zero HGL.out
    subst hge
    refine ry 5 (fun K hK => ?_)
    go_simp
    refine hK.out _ _ (HSS.out _ A0.out) (fun hHeld => ?_)
    clear hK K
    try simp only [Act.put, List.setIfInBounds_toArray, List.set_cons_zero, List.set_cons_succ]
    obtain ⟨w1, hw1⟩ : ∃ W, v0.alloc (.cells #[] 9) = W := ⟨_, rfl⟩
    rw [hw1] at A0 A1 B0 O0 hHeld ⊢
    clear hw1 HL HIS HLT
    refine tk 10 ?_
    clear hHeld
    have c1 := A1.out.cells
    have f1 := A1.out.loose
    refine ry 11 (fun K hK => ?_)
    go_simp
    obtain ⟨V1, hV1⟩ : ∃ W, putL w1 (w.heap.size + 1) ep (.slice (some ⟨v0.heap.size, 0, none⟩) 0 0) nx wt = W := ⟨_, rfl⟩
    have g1 := putL_grown w1 (w.heap.size + 1) ep (.slice (some ⟨v0.heap.size, 0, none⟩) 0 0) nx wt
    have x1 := A1.out.put ep (.slice (some ⟨v0.heap.size, 0, none⟩) 0 0) nx wt
    rw [hV1] at g1 x1
    unfold putL at hV1
    rw [hV1]
    clear hV1 c1 f1
    have x0 := A0.out.grown g1 (by simp)
    have O1 := hid (O0.out.grown g1 LW.out)
    have B1 := hid (B0.out.trans (below_of_grown g1 (by omega) B0.out.size))
    refine hK.out _ _ (HSS.out _ x0) (fun hHeld => ?_)
    clear hK K hHeld
    refine wpAnyH_done (by kernel_rfl) ?_ _
    refine NoPanic.normal ?_
    go_wp2
    have d := x1.cells
    refine bodyPost_ret (v := lkv ep (.slice (some ⟨v0.heap.size, 0, none⟩) 0 0) nx wt) (by simp [results, Tryd.results39, go_sem, d]) rfl ⟨_, _, rfl, own_base O1.out (by have := LW.out; omega), B1.out⟩
  | some ad =>
    refine ry 5 (fun K hK => ?_)
    refine step_append_strs17 rfl (.tmp 5) (.tmp 7) rfl v0.heap.size _ [] (by rfl) O0.out ad gn gc G (by rfl) HGL.out (ss_all17 HIS.out) (by simp) (by have := HGN.out; omega) HL.out ?_
    intro v1 w1 ho1 hg1
    have own1 : OwV w1 v0.heap.size v1 G := by simpa [OwV] using ho1
    obtain ⟨ag, cg, hvg, _⟩ := own1.shape
    rw [HGL.out] at hvg
    subst hvg
    have b1 : Below v0.heap.size (v0.alloc (.cells #[] 9)) w1 := below_grownR hg1 (by intro j hj; simp [Value.ownBlock] at hj; omega) HL.out
    have lw := LW.out
    have hA0 : Lk w1 w.heap.size 34 ep (.slice (some ad) gn gc) nx wt := A0.out.grown hg1 (by simp [Value.ownBlock]; omega)
    have hA1 : Lk w1 (w.heap.size + 1) 34 0 (.slice none 0 0) 0 0 := A1.out.grown hg1 (by simp [Value.ownBlock]; omega)
    replace A0 := hid hA0
    replace A1 := hid hA1
    replace B0 := hid (B0.out.trans (b1.mono (by omega)))
    have O1 := hid own1
    clear hA0 hA1 b1 ho1 hg1 own1 lw O0 HIS
    refine hK.out _ _ (HSS.out _ A0.out) (fun hHeld => ?_)
    clear hK K
    try simp only [Act.put, List.setIfInBounds_toArray, List.set_cons_zero, List.set_cons_succ]
    refine tk 10 ?_
    clear hHeld
    have c1 := A1.out.cells
    have f1 := A1.out.loose
    refine ry 11 (fun K hK => ?_)
    go_simp
    obtain ⟨V1, hV1⟩ : ∃ W, putL w1 (w.heap.size + 1) ep (.slice ag gn cg) nx wt = W := ⟨_, rfl⟩
    have g1 := putL_grown w1 (w.heap.size + 1) ep (.slice ag gn cg) nx wt
    have x1 := A1.out.put ep (.slice ag gn cg) nx wt
    rw [hV1] at g1 x1
    unfold putL at hV1
    rw [hV1]
    clear hV1 c1 f1
    have x0 := A0.out.grown g1 (by simp)
    have O1 := hid (O1.out.grown g1 LW.out)
    have B1 := hid (B0.out.trans (below_of_grown g1 (by omega) B0.out.size))
    refine hK.out _ _ (HSS.out _ x0) (fun hHeld => ?_)
    clear hK K hHeld
    refine wpAnyH_done (by kernel_rfl) ?_ _
    refine NoPanic.normal ?_
    go_wp2
    have d := x1.cells
    refine bodyPost_ret (v := lkv ep (.slice ag gn cg) nx wt) (by simp [results, Tryd.results39, go_sem, d]) rfl ⟨_, _, rfl, own_base O1.out (by have := LW.out; omega), B1.out⟩
end Go.Proofs.YtnbobidpmiieiaaDoor
