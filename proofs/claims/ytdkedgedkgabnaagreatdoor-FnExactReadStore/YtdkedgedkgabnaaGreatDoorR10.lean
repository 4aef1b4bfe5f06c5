/- Crc, Sum, SpecSum, Four, Seal, SpecSeal, Mkz, Tkz. -/
import Derived.Test.YtdkedgedkgabnaaGreatDoorR8
namespace Go.Proofs.YtdkedgedkgabnaaGreatDoor
def st (x : Nat) : Nat := if x % 2 = 1 then x / 2 ^^^ 3558460437 else x / 2
def st8 (x : Nat) : Nat := st (st (st (st (st (st (st (st x)))))))
def st4 (x : Nat) : Nat := st (st (st (st x)))
def smore (x : Nat) (l : List UInt8) : Nat := l.foldl (fun x b => st8 (x ^^^ b.toNat)) x
def tabW : List Nat := [0, 1166650509, 2333301018, 3466261911, 3189058079, 4221339282, 889615109, 1888477064, 3558460437, 2442158232, 1594529039, 444807554, 1779230218, 797264519, 3776954128, 2761298845]
def four (x : Nat) : Nat := x / 16 ^^^ tabW.getD (x % 16) 0
theorem st_lin (x y : Nat) : st (x ^^^ y) = st x ^^^ st y := by
 have hm := @Nat.xor_mod_two_eq_one x y
 have hd := @Nat.xor_div_two x y
 unfold st
 rw [hd]
 by_cases hx : x % 2 = 1 <;> by_cases hy : y % 2 = 1
 ·rw [if_neg (by rw [hm]; simp [hx, hy]), if_pos hx, if_pos hy]
  rw [Nat.xor_assoc, Nat.xor_comm 3558460437 (y / 2 ^^^ 3558460437), Nat.xor_assoc, Nat.xor_self]; simp
 ·rw [if_pos (by rw [hm]; simp [hx, hy]), if_pos hx, if_neg hy]
  rw [Nat.xor_assoc, Nat.xor_assoc, Nat.xor_comm (y / 2)]
 ·rw [if_pos (by rw [hm]; simp [hx, hy]), if_neg hx, if_pos hy, Nat.xor_assoc]
 ·rw [if_neg (by rw [hm]; simp [hx, hy]), if_neg hx, if_neg hy]
theorem st4_lin (x y : Nat) : st4 (x ^^^ y) = st4 x ^^^ st4 y := by
 unfold st4; rw [st_lin, st_lin, st_lin, st_lin]
theorem split16 (x : Nat) : x = (16 * (x / 16)) ^^^ (x % 16) := by
 apply Nat.eq_of_testBit_eq; intro i
 rw [Nat.testBit_xor, show (16 : Nat) = 2 ^ 4 from rfl, Nat.testBit_two_pow_mul, Nat.testBit_mod_two_pow, Nat.testBit_div_two_pow]
 by_cases h : i < 4
 ·have h' : ¬ i ≥ 4 := by omega
  simp [h, h']
 ·have h' : i ≥ 4 := by omega
  simp [h, h']
theorem st_even (q : Nat) : st (2 * q) = q := by unfold st; rw [if_neg (by omega)]; omega
theorem st4_16 (q : Nat) : st4 (16 * q) = q := by
 unfold st4
 rw [show 16 * q = 2 * (2 * (2 * (2 * q))) by omega, st_even, st_even, st_even, st_even]
theorem st4_tab : ∀ r : Fin 16, st4 r.val = tabW.getD r.val 0 := by decide
theorem st4_four (x : Nat) : st4 x = four x := by
 conv => lhs; rw [split16 x]
 rw [st4_lin, st4_16]
 unfold four
 rw [st4_tab ⟨x % 16, Nat.mod_lt _ (by omega)⟩]
theorem st8_four (x : Nat) : st8 x = four (four x) := by
 rw [← st4_four, ← st4_four]; rfl
theorem st_lt {x : Nat} (h : x < 4294967296) : st x < 4294967296 := by
 unfold st
 split
 ·exact Nat.xor_lt_two_pow (n := 32) (by omega) (by omega)
 ·omega
theorem st8_lt {x : Nat} (h : x < 4294967296) : st8 x < 4294967296 := by
 unfold st8; exact st_lt (st_lt (st_lt (st_lt (st_lt (st_lt (st_lt (st_lt h)))))))
theorem xor_byte_lt {x : Nat} (h : x < 4294967296) (b : UInt8) : x ^^^ b.toNat < 4294967296 := by
 have := b.toNat_lt
 exact Nat.xor_lt_two_pow (n := 32) (by omega) (by omega)
theorem smore_lt (l : List UInt8) : ∀ {x : Nat}, x < 4294967296 → smore x l < 4294967296 := by
 induction l with
 | nil => intro x h; exact h
 | cons b l ih => intro x h; exact ih (st8_lt (xor_byte_lt h b))
theorem smore_append (x : Nat) (l m : List UInt8) : smore x (l ++ m) = smore (smore x l) m := by
 unfold smore; rw [List.foldl_append]
def f4 (x : Nat) : List UInt8 := [UInt8.ofNat (x / 16777216), UInt8.ofNat (x / 65536), UInt8.ofNat (x / 256), UInt8.ofNat x]
theorem u8_of (n : Nat) : (UInt8.ofNat n).toNat = n % 256 := by simp
end Go.Proofs.YtdkedgedkgabnaaGreatDoor
namespace Go.Proofs.YtdkedgedkgabnaaGreatDoor
open Go.RowKit
def Nib (w : World) : Prop := ∀ i, i < 16 → w.cell? ⟨0, i, none⟩ = some (.int .u32 (tabW.getD i 0 : Nat))
theorem Nib.later {w w' : World} {B : Nat} (h : Nib w) (hb : Below B w w') (hB : 0 < B) : Nib w' := fun i hi => by
 rw [hb.cell (p := ⟨0, i, none⟩) hB]; exact h i hi
theorem tab_lt (i : Nat) (h : i < 16) : tabW.getD i 0 < 4294967296 := by
 have : ∀ r : Fin 16, tabW.getD r.val 0 < 4294967296 := by decide
 exact this ⟨i, h⟩
theorem four_lt {x : Nat} (h : x < 4294967296) : four x < 4294967296 := by
 have := tab_lt (x % 16) (Nat.mod_lt _ (by omega))
 exact Nat.xor_lt_two_pow (n := 32) (by omega) (by omega)
theorem four_any (x : Nat) (w : World) (hx : x < 4294967296) (hn : Nib w) :
  Calls Tryz.prog 186 #[.int .u32 (x : Int)] w fun e w' => e = .returned (.int .u32 (four x : Nat)) ∧ w = w' := by
 have hc := hn (x % 16) (Nat.mod_lt _ (by omega))
 clear hn
 go_enter Tryz.func186, Tryz.ntmps186
 go_wp2
 go_ret
 exact ⟨ret_int (by rw [show (x : Int) / 16 = ((x / 16 : Nat) : Int) from by omega]; exact u32_xor_nat _ _ (by omega) (tab_lt _ (Nat.mod_lt _ (by omega)))), rfl⟩
theorem smore_step (x : Nat) (s : ByteArray) (k : Nat) (h : k < s.size) : smore x (s.data.toList.take (k + 1)) = st8 (smore x (s.data.toList.take k) ^^^ s[k].toNat) := by
 rw [List.take_succ_eq_append_getElem (by rw [Array.length_toList]; exact h), smore_append]; rfl
theorem more_any (x : Nat) (s : ByteArray) (w : World) (hx : x < 4294967296) (hs : s.size ≤ 1048577) (hn : Nib w) :
  Calls Tryz.prog 161 #[.int .u32 (x : Int), .string s] w fun e w' => e = .returned (.int .u32 (smore x s.data.toList : Nat)) ∧ w = w' := by
 have HN := hide hn
 clear hn
 go_enter Tryz.func161, Tryz.ntmps161
 go_wp2
 go_loop [0, 8] (fun sv iv => ∃ (k y : Nat), k ≤ s.size ∧ y = smore x (s.data.toList.take k) ∧ sv = .int .u32 (y : Int) ∧ iv = .int .i64 (k : Int)) (fun _ iv => s.size - (intOf iv).toNat)
 case atStart => exact ⟨0, x, Nat.zero_le _, rfl, rfl, rfl⟩
 case round =>
  obtain ⟨k, y, hk, hy, rfl, rfl⟩ := hrel
  have hyl : y < 4294967296 := by rw [hy]; exact smore_lt _ hx
  have HY := hide hy
  clear hy
  by_cases hlt : k < s.size
  ·obtain ⟨c, hcx⟩ : ∃ c : Nat, s[k].toNat = c := ⟨_, rfl⟩
   have hcb : c < 256 := by rw [← hcx]; exact s[k].toNat_lt
   have HC := hide hcx
   have hI : (0 : Int) ≤ (k : Int) ∧ (k : Int) < (s.size : Int) := by omega
   obtain ⟨z, hz⟩ : ∃ z : Nat, y ^^^ c = z := ⟨_, rfl⟩
   have hzl : z < 4294967296 := by rw [← hz]; exact Nat.xor_lt_two_pow (n := 32) (by omega) (by omega)
   have hxr : bits .xor .u32 (y : Int) (c : Int) = (z : Int) := by rw [u32_xor_nat y c hyl (by omega), hz]
   have HZ := hide hz
   clear hz
   go_wp2_with fail
   refine (four_any z _ hzl (unhide HN)).mono ?_; rintro e w' ⟨rfl, rfl⟩
   go_wp2_with fail
   refine (four_any (four z) _ (four_lt hzl) (unhide HN)).mono ?_; rintro e w' ⟨rfl, rfl⟩
   go_wp2
   go_round
   case rel => exact ⟨k + 1, four (four z), by omega, by rw [smore_step x s k hlt, ← unhide HY, unhide HC, unhide HZ, st8_four], rfl, by go_num⟩
   case measure => simp [intOf]; omega
  ·go_wp2
   go_ret
   exact ⟨ret_int (by rw [unhide HY, List.take_of_length_le (by rw [Array.length_toList]; exact Nat.le_of_not_lt hlt)]), rfl⟩
theorem implMore_any (x : Nat) (s : ByteArray) (w : World) (hx : x < 4294967296) (hs : s.size ≤ 1048577) (hn : Nib w) :
  Calls Tryz.prog 123 #[.int .u32 (x : Int), .string s] w fun e w' => e = .returned (.int .u32 (smore x s.data.toList : Nat)) ∧ w = w' := by
 have HN := hide hn
 clear hn
 go_enter Tryz.func123, Tryz.ntmps123
 go_wp2_with fail
 refine (more_any x s _ hx hs (unhide HN)).mono ?_; rintro e w' ⟨rfl, rfl⟩
 go_wp2
 go_ret
 exact ⟨rfl, rfl⟩
theorem implOf_any (s : ByteArray) (w : World) (hs : s.size ≤ 1048577) (hn : Nib w) :
  Calls Tryz.prog 79 #[.string s] w fun e w' => e = .returned (.int .u32 (smore 4294967295 s.data.toList : Nat)) ∧ w = w' := by
 have HN := hide hn
 clear hn
 go_enter Tryz.func79, Tryz.ntmps79
 go_wp2_with fail
 refine (implMore_any 4294967295 s _ (by decide) hs (unhide HN)).mono ?_; rintro e w' ⟨rfl, rfl⟩
 go_wp2
 go_ret
 exact ⟨rfl, rfl⟩
def stN : Nat → Nat → Nat
 | 0, x => x
 | k + 1, x => st (stN k x)
theorem stN_lt : ∀ (k : Nat) {x : Nat}, x < 4294967296 → stN k x < 4294967296
 | 0, _, h => h
 | k + 1, _, h => st_lt (stN_lt k h)
theorem specMore_any (x : Nat) (s : ByteArray) (w : World) (hx : x < 4294967296) (hs : s.size ≤ 1048577) :
  Calls Tryz.prog 127 #[.int .u32 (x : Int), .string s] w fun e w' => e = .returned (.int .u32 (smore x s.data.toList : Nat)) ∧ w = w' := by
 go_enter Tryz.func127, Tryz.ntmps127
 go_wp2
 go_loop [0, 5] (fun sv iv => ∃ (k y : Nat), k ≤ s.size ∧ y = smore x (s.data.toList.take k) ∧ sv = .int .u32 (y : Int) ∧ iv = .int .i64 (k : Int)) (fun _ iv => s.size - (intOf iv).toNat)
 case atStart => exact ⟨0, x, Nat.zero_le _, rfl, rfl, rfl⟩
 case round =>
  obtain ⟨k, y, hk, hy, rfl, rfl⟩ := hrel
  have hyl : y < 4294967296 := by rw [hy]; exact smore_lt _ hx
  have HY := hide hy
  clear hy
  by_cases hlt : k < s.size
  ·obtain ⟨c, hcx⟩ : ∃ c : Nat, s[k].toNat = c := ⟨_, rfl⟩
   have hcb : c < 256 := by rw [← hcx]; exact s[k].toNat_lt
   have HC := hide hcx
   have hI : (0 : Int) ≤ (k : Int) ∧ (k : Int) < (s.size : Int) := by omega
   obtain ⟨z, hz⟩ : ∃ z : Nat, y ^^^ c = z := ⟨_, rfl⟩
   have hzl : z < 4294967296 := by rw [← hz]; exact Nat.xor_lt_two_pow (n := 32) (by omega) (by omega)
   have hxr : bits .xor .u32 (y : Int) (c : Int) = (z : Int) := by rw [u32_xor_nat y c hyl (by omega), hz]
   have HZ := hide hz
   clear hz
   go_wp2
   go_loop [0, 6] (fun sv iv => ∃ (j v : Nat), j ≤ 8 ∧ v = stN j z ∧ sv = .int .u32 (v : Int) ∧ iv = .int .i64 (j : Int)) (fun _ iv => 8 - (intOf iv).toNat)
   case atStart => exact ⟨0, z, by omega, rfl, rfl, rfl⟩
   case round =>
    obtain ⟨j, v, hj, hv, rfl, rfl⟩ := hrel
    have hvl : v < 4294967296 := by rw [hv]; exact stN_lt j hzl
    have HV := hide hv
    clear hv
    by_cases hj8 : j < 8
    ·obtain ⟨q, hq⟩ : ∃ q : Nat, v / 2 = q := ⟨_, rfl⟩
     have hqi : (v : Int) / 2 = (q : Int) := by omega
     have hql : q < 4294967296 := by omega
     have HQ := hide hq
     clear hq
     by_cases ho : v % 2 = 1
     ·have hoi : ((v : Int) % 2 == 1) = true := by simp; omega
      obtain ⟨r, hr⟩ : ∃ r : Nat, q ^^^ 3558460437 = r := ⟨_, rfl⟩
      have hri : bits .xor .u32 (q : Int) 3558460437 = (r : Int) := by rw [← hr]; exact u32_xor_nat q 3558460437 hql (by omega)
      have HR := hide hr
      have HO := hide ho
      clear hr ho
      go_wp2
      go_round
      case rel => exact ⟨j + 1, r, by omega, by rw [stN, ← unhide HV, st, if_pos (unhide HO), unhide HQ, unhide HR], rfl, by go_num⟩
      case measure => simp [intOf]; omega
     ·have hoi : ((v : Int) % 2 == 1) = false := by simp; omega
      have HO := hide ho
      clear ho
      go_wp2
      go_round
      case rel => exact ⟨j + 1, q, by omega, by rw [stN, ← unhide HV, st, if_neg (unhide HO), unhide HQ], rfl, by go_num⟩
      case measure => simp [intOf]; omega
    ·have hj' : j = 8 := by omega
     subst hj'
     go_wp2
     go_round
     case rel => exact ⟨k + 1, v, by omega, by rw [smore_step x s k hlt, ← unhide HY, unhide HC, unhide HZ, unhide HV]; rfl, rfl, by go_num⟩
     case measure => simp [intOf]; omega
  ·go_wp2
   go_ret
   exact ⟨ret_int (by rw [unhide HY, List.take_of_length_le (by rw [Array.length_toList]; exact Nat.le_of_not_lt hlt)]), rfl⟩
theorem specOf_any (s : ByteArray) (w : World) (hs : s.size ≤ 1048577) :
  Calls Tryz.prog 90 #[.string s] w fun e w' => e = .returned (.int .u32 (smore 4294967295 s.data.toList : Nat)) ∧ w = w' := by
 go_enter Tryz.func90, Tryz.ntmps90
 go_wp2_with fail
 refine (specMore_any 4294967295 s _ (by decide) hs).mono ?_; rintro e w' ⟨rfl, rfl⟩
 go_wp2
 go_ret
 exact ⟨rfl, rfl⟩
theorem f4_conv (x : Nat) (w : World) (hx : x < 4294967296) :
  (convert 22 9 (.slice (some ⟨w.heap.size, 0, none⟩) 4 4)).run Tryz.prog (w.alloc (.cells #[.int .u8 ((x : Int) / 16777216), .int .u8 ((x : Int) / 65536 % 256), .int .u8 ((x : Int) / 256 % 256), .int .u8 ((x : Int) % 256)] 5)) = .ok (.string ⟨(f4 x).toArray⟩) (w.alloc (.cells #[.int .u8 ((x : Int) / 16777216), .int .u8 ((x : Int) / 65536 % 256), .int .u8 ((x : Int) / 256 % 256), .int .u8 ((x : Int) % 256)] 5)) := by
 refine run_convert_bytes_back (P := Tryz.prog) _ 22 9 5 ⟨w.heap.size, 0, none⟩ 4 (f4 x) Tryz.underlying22 Tryz.underlying5 Tryz.underlying9 (fun j hj => ?_)
 have hj' : j < 4 := hj
 have key : ∀ (i : Nat) (v : Value), (#[.int .u8 ((x : Int) / 16777216), .int .u8 ((x : Int) / 65536 % 256), .int .u8 ((x : Int) / 256 % 256), .int .u8 ((x : Int) % 256)] : Array Value)[i]? = some v →
   (w.alloc (.cells #[.int .u8 ((x : Int) / 16777216), .int .u8 ((x : Int) / 65536 % 256), .int .u8 ((x : Int) / 256 % 256), .int .u8 ((x : Int) % 256)] 5)).cell? ((⟨w.heap.size, 0, none⟩ : Addr).add i) = some v := by
  intro i v h
  rw [show (⟨w.heap.size, 0, none⟩ : Addr).add i = ⟨w.heap.size, i, none⟩ from by by_cases h0 : i = 0 <;> simp [Addr.add, h0]]
  rw [cell_of_row _ w.heap.size i _ _ (0, 0) (heap_alloc_new w _)]
  exact h
 match j, hj' with
 | 0, _ => exact key 0 _ (congrArg some (congrArg (Value.int .u8) (by show (x : Int) / 16777216 = ((UInt8.ofNat (x / 16777216)).toNat : Nat); rw [u8_of]; omega)))
 | 1, _ => exact key 1 _ (congrArg some (congrArg (Value.int .u8) (by show (x : Int) / 65536 % 256 = ((UInt8.ofNat (x / 65536)).toNat : Nat); rw [u8_of]; omega)))
 | 2, _ => exact key 2 _ (congrArg some (congrArg (Value.int .u8) (by show (x : Int) / 256 % 256 = ((UInt8.ofNat (x / 256)).toNat : Nat); rw [u8_of]; omega)))
 | 3, _ => exact key 3 _ (congrArg some (congrArg (Value.int .u8) (by show (x : Int) % 256 = ((UInt8.ofNat x).toNat : Nat); rw [u8_of]; omega)))
theorem implBytes_any (x : Nat) (w : World) (hx : x < 4294967296) :
  Calls Tryz.prog 80 #[.int .u32 (x : Int)] w fun e w' => e = .returned (.string ⟨(f4 x).toArray⟩) ∧ Below w.heap.size w w' := by
 have hcv := f4_conv x w hx
 go_enter Tryz.func80, Tryz.ntmps80
 go_wp2
 go_ret
 exact ⟨rfl, (Below.refl _ _).alloc (Nat.le_refl _) _⟩
def sof (s : ByteArray) : Nat := smore 4294967295 s.data.toList
theorem sof_lt (s : ByteArray) : sof s < 4294967296 := smore_lt _ (by decide)
def tail4 (s : ByteArray) : ByteArray := ⟨(f4 (sof s)).toArray⟩
theorem tail4_size (s : ByteArray) : (tail4 s).size = 4 := rfl
theorem bytes_eq {a b : ByteArray} (h : a.toList = b.toList) : a = b := by
 rw [ByteArray.toList_eq, ByteArray.toList_eq] at h
 exact ByteArray.ext (Array.toList_inj.mp h)
theorem size_cut (s : ByteArray) (n : Nat) (h : n ≤ s.size) : (s.extract 0 n).size = n := by simp; omega
theorem seal_parts (u : ByteArray) (hu : u.size ≤ 1048577) : ∃ (z : Nat) (t : ByteArray), sof u = z ∧ tail4 u = t ∧ t.size = 4 ∧
  (∀ W : World, Nib W → Calls Tryz.prog 79 #[.string u] W fun e w' => e = .returned (.int .u32 (z : Int)) ∧ W = w') ∧
  (∀ W : World, Calls Tryz.prog 80 #[.int .u32 (z : Int)] W fun e w' => e = .returned (.string t) ∧ Below W.heap.size W w') :=
 ⟨sof u, tail4 u, rfl, rfl, rfl, fun W hW => implOf_any u W hu hW, fun W => implBytes_any (sof u) W (sof_lt u)⟩
theorem Nib.drew {w : World} (h : Nib w) : Nib w.drew := h
theorem implUnsealed_yes (s : ByteArray) (n : Nat) (w : World) (hl : s.size = n + 4) (hs : n ≤ 20000) (hn : Nib w) (he : tail4 (s.extract 0 n) = s.extract n s.size) :
  Calls Tryz.prog 35 #[.string s] w fun e w' => e = .returned (.tuple #[.string (s.extract 0 n), .bool true]) ∧ Below w.heap.size w w' := by
 have hcut : (s.extract 0 n).size = n := size_cut s n (by omega)
 obtain ⟨z, t, hz, ht, hts, h21, h32⟩ := seal_parts (s.extract 0 n) (by omega)
 rw [ht] at he
 obtain ⟨u, hu⟩ : ∃ u, s.extract 0 n = u := ⟨_, rfl⟩
 rw [hu] at hcut h21 hz ht
 have hcl : ∀ W : World, Calls Tryz.prog 81 #[.string u] W fun e w' => e = .returned (.string u) ∧ Below W.heap.size W w' := fun W => clone_any u W (by omega)
 have HN := hide hn
 have H21 := hide h21
 have H32 := hide h32
 have HCL := hide hcl
 have hli : (s.size : Int) - 4 = (n : Int) := by omega
 have hle : n ≤ s.size := by omega
 have hlm : s.size ≤ 20004 := by omega
 have hv : s.extract n s.size = t := he.symm
 have htt : (!t.toList == t.toList) = false := by simp
 clear hl hn he h21 h32 hcl hz ht hts hcut
 go_enter Tryz.func35, Tryz.ntmps35
 go_wp2_with fail
 go_region_held3 (fun _ => True) (trivial) ((first
   | (go_at_call 79; refine (unhide H21 _ (by exact unhide HN)).mono ?_; rintro e w1 ⟨rfl, rfl⟩)
   | (go_at_call 80; refine (unhide H32 _).mono ?_; rintro e w1 ⟨rfl, hb1⟩)))
 go_wp2_with fail
 refine (unhide HCL _).mono ?_; rintro e w2 ⟨rfl, hb2⟩
 go_wp2
 go_ret2
 exact ⟨by rw [hu]; rfl, (Below.refl _ w).drew.trans (hb1.trans (hb2.mono hb1.size))⟩
theorem implUnsealed_size (s : ByteArray) (w : World) (hm : s.size ≤ 1048576) (h : s.size < 4 ∨ 20004 < s.size) :
  Calls Tryz.prog 35 #[.string s] w fun e w' => e = .returned (.tuple #[.string ⟨#[]⟩, .bool false]) ∧ w = w' := by
 rcases h with h | h
 ·have h1 : (s.size : Int) - 4 < 0 := by omega
  go_enter Tryz.func35, Tryz.ntmps35
  go_wp2
  go_ret2
  exact ⟨rfl, rfl⟩
 ·have h0 : ¬ (s.size : Int) - 4 < 0 := by omega
  have h1 : (20000 : Int) < (s.size : Int) - 4 := by omega
  go_enter Tryz.func35, Tryz.ntmps35
  go_wp2
  go_ret2
  exact ⟨rfl, rfl⟩
theorem implUnsealed_no (s : ByteArray) (n : Nat) (w : World) (hl : s.size = n + 4) (hs : n ≤ 20000) (hn : Nib w) (he : tail4 (s.extract 0 n) ≠ s.extract n s.size) :
  Calls Tryz.prog 35 #[.string s] w fun e w' => e = .returned (.tuple #[.string ⟨#[]⟩, .bool false]) ∧ Below w.heap.size w w' := by
 have hcut : (s.extract 0 n).size = n := size_cut s n (by omega)
 obtain ⟨z, t, hz, ht, hts, h21, h32⟩ := seal_parts (s.extract 0 n) (by omega)
 rw [ht] at he
 obtain ⟨u, hu⟩ : ∃ u, s.extract 0 n = u := ⟨_, rfl⟩
 rw [hu] at hcut h21 hz ht
 obtain ⟨v, hv⟩ : ∃ v, s.extract n s.size = v := ⟨_, rfl⟩
 rw [hv] at he
 have HN := hide hn
 have H21 := hide h21
 have H32 := hide h32
 have hli : (s.size : Int) - 4 = (n : Int) := by omega
 have hle : n ≤ s.size := by omega
 have hlm : s.size ≤ 20004 := by omega
 have htt : (!t.toList == v.toList) = true := by simp; intro h; exact he (bytes_eq h)
 clear hl hn he h21 h32 hz ht hts hcut
 go_enter Tryz.func35, Tryz.ntmps35
 go_wp2_with fail
 go_region_held3 (fun _ => True) (trivial) ((first
   | (go_at_call 79; refine (unhide H21 _ (by exact unhide HN)).mono ?_; rintro e w1 ⟨rfl, rfl⟩)
   | (go_at_call 80; refine (unhide H32 _).mono ?_; rintro e w1 ⟨rfl, hb1⟩)))
 go_wp2
 go_ret2
 exact ⟨rfl, (Below.refl _ w).drew.trans hb1⟩
theorem specFour_any (x : Nat) (w : World) (hx : x < 4294967296) :
  Calls Tryz.prog 89 #[.int .u32 (x : Int)] w fun e w' => e = .returned (.string ⟨(f4 x).toArray⟩) ∧ Below w.heap.size w w' := by
 have hcv := f4_conv x w hx
 go_enter Tryz.func89, Tryz.ntmps89
 go_wp2
 go_ret
 exact ⟨rfl, (Below.refl _ _).alloc (Nat.le_refl _) _⟩
theorem specSealed_yes (s : ByteArray) (w : World) (hs : s.size ≤ 20000) :
  Calls Tryz.prog 41 #[.string s] w fun e w' => e = .returned (.tuple #[.string (s ++ tail4 s), .bool true]) ∧ Below w.heap.size w w' := by
 have hz := tail4_size s
 go_enter Tryz.func41, Tryz.ntmps41
 go_wp2_with fail
 refine (specOf_any s _ (by omega)).mono ?_; rintro e w1 ⟨rfl, rfl⟩
 go_wp2_with fail
 refine (specFour_any (sof s) _ (sof_lt s)).mono ?_; rintro e w1 ⟨he, hb1⟩
 obtain rfl : e = .returned (.string (tail4 s)) := he
 go_wp2
 go_ret2
 exact ⟨rfl, hb1⟩
theorem specSeal_parts (u : ByteArray) (hu : u.size ≤ 1048577) : ∃ (z : Nat) (t : ByteArray), tail4 u = t ∧
  (∀ W : World, Calls Tryz.prog 90 #[.string u] W fun e w' => e = .returned (.int .u32 (z : Int)) ∧ W = w') ∧
  (∀ W : World, Calls Tryz.prog 89 #[.int .u32 (z : Int)] W fun e w' => e = .returned (.string t) ∧ Below W.heap.size W w') :=
 ⟨sof u, tail4 u, rfl, fun W => specOf_any u W hu, fun W => specFour_any (sof u) W (sof_lt u)⟩
theorem specUnsealed_size (s : ByteArray) (w : World) (hm : s.size ≤ 1048576) (h : s.size < 4 ∨ 20004 < s.size) :
  Calls Tryz.prog 40 #[.string s] w fun e w' => e = .returned (.tuple #[.string ⟨#[]⟩, .bool false]) ∧ Below w.heap.size w w' := by
 have hlm : s.size ≤ 1048576 := hm
 obtain ⟨m, hmi⟩ : ∃ m : Int, (s.size : Int) - 4 = m := ⟨_, rfl⟩
 rcases h with h | h
 ·have hd0 : decide (m < 0) = true := by simp; omega
  clear h hm
  go_enter Tryz.func40, Tryz.ntmps40
  go_wp2_with fail
  go_region
  all_goals go_wp2
  all_goals go_ret2
  all_goals exact ⟨rfl, (Below.refl _ _).drew⟩
 ·have hd0 : decide (m < 0) = false := by simp; omega
  have hd1 : decide ((20000 : Int) < m) = true := by simp; omega
  clear h hm
  go_enter Tryz.func40, Tryz.ntmps40
  go_wp2_with fail
  go_region
  all_goals go_wp2
  all_goals go_ret2
  all_goals exact ⟨rfl, (Below.refl _ _).drew⟩
theorem specUnsealed_yes (s : ByteArray) (n : Nat) (w : World) (hl : s.size = n + 4) (hs : n ≤ 20000) (he : tail4 (s.extract 0 n) = s.extract n s.size) :
  Calls Tryz.prog 40 #[.string s] w fun e w' => e = .returned (.tuple #[.string (s.extract 0 n), .bool true]) ∧ Below w.heap.size w w' := by
 have hcut : (s.extract 0 n).size = n := size_cut s n (by omega)
 obtain ⟨z, t, ht, h21, h32⟩ := specSeal_parts (s.extract 0 n) (by omega)
 rw [ht] at he
 obtain ⟨u, hu⟩ : ∃ u, s.extract 0 n = u := ⟨_, rfl⟩
 rw [hu] at hcut h21 ht
 have H21 := hide h21
 have H32 := hide h32
 have hli : (s.size : Int) - 4 = (n : Int) := by omega
 have hle : n ≤ s.size := by omega
 have hlm : s.size ≤ 20004 := by omega
 have hv : s.extract n s.size = t := he.symm
 have htt : (!t.toList == t.toList) = false := by simp
 have hd0 : decide ((n : Int) < 0) = false := by simp
 have hd1 : decide ((20000 : Int) < (n : Int)) = false := by simp; omega
 clear hl he h21 h32 ht hcut
 go_enter Tryz.func40, Tryz.ntmps40
 go_wp2_with fail
 go_region_held3 (fun _ => True) (trivial) ((first
   | (go_at_call 90; refine (unhide H21 _).mono ?_; rintro e w1 ⟨rfl, rfl⟩)
   | (go_at_call 89; refine (unhide H32 _).mono ?_; rintro e w1 ⟨rfl, hb1⟩)))
 go_wp2
 go_ret2
 exact ⟨by rw [hu]; rfl, (Below.refl _ w).drew.trans hb1⟩
theorem specUnsealed_no (s : ByteArray) (n : Nat) (w : World) (hl : s.size = n + 4) (hs : n ≤ 20000) (he : tail4 (s.extract 0 n) ≠ s.extract n s.size) :
  Calls Tryz.prog 40 #[.string s] w fun e w' => e = .returned (.tuple #[.string ⟨#[]⟩, .bool false]) ∧ Below w.heap.size w w' := by
 have hcut : (s.extract 0 n).size = n := size_cut s n (by omega)
 obtain ⟨z, t, ht, h21, h32⟩ := specSeal_parts (s.extract 0 n) (by omega)
 rw [ht] at he
 obtain ⟨u, hu⟩ : ∃ u, s.extract 0 n = u := ⟨_, rfl⟩
 rw [hu] at hcut h21 ht
 obtain ⟨v, hv⟩ : ∃ v, s.extract n s.size = v := ⟨_, rfl⟩
 rw [hv] at he
 have H21 := hide h21
 have H32 := hide h32
 have hli : (s.size : Int) - 4 = (n : Int) := by omega
 have hle : n ≤ s.size := by omega
 have hlm : s.size ≤ 20004 := by omega
 have htt : (!v.toList == t.toList) = true := by simp; intro h; exact he (bytes_eq h).symm
 have hd0 : decide ((n : Int) < 0) = false := by simp
 have hd1 : decide ((20000 : Int) < (n : Int)) = false := by simp; omega
 clear hl he h21 h32 ht hcut
 go_enter Tryz.func40, Tryz.ntmps40
 go_wp2_with fail
 go_region_held3 (fun _ => True) (trivial) ((first
   | (go_at_call 90; refine (unhide H21 _).mono ?_; rintro e w1 ⟨rfl, rfl⟩)
   | (go_at_call 89; refine (unhide H32 _).mono ?_; rintro e w1 ⟨rfl, hb1⟩)))
 go_wp2
 go_ret2
 exact ⟨rfl, (Below.refl _ w).drew.trans hb1⟩
end Go.Proofs.YtdkedgedkgabnaaGreatDoor
namespace Go.Proofs.YtdkedgedkgabnaaGreatDoor
open Go.RowKit Go.ChangeMaps
def mdg (n : Nat) : List UInt8 := Lib.decDigits n
theorem mdg_small (n : Nat) (h : n < 10) : mdg n = [UInt8.ofNat (48 + n)] := by unfold mdg; rw [Lib.decDigits, dif_pos h]
theorem mdg_big (n : Nat) (h : ¬ n < 10) : mdg n = mdg (n / 10) ++ [UInt8.ofNat (48 + n % 10)] := by unfold mdg; rw [Lib.decDigits, dif_neg h]
theorem mdg_len : ∀ (k n : Nat), n < 10 ^ (k + 1) → (mdg n).length ≤ k + 1
 | 0, n, h => by rw [mdg_small n (by simpa using h)]; simp
 | k + 1, n, h => by
  by_cases hn : n < 10
  ·rw [mdg_small n hn]; simp
  ·rw [mdg_big n hn]
   have := mdg_len k (n / 10) (by rw [Nat.pow_succ] at h; omega)
   simp; omega
def mdz (n : Nat) : List UInt8 := if n = 0 then [] else mdg n
theorem mdz_pos (n : Nat) (h : n ≠ 0) : mdz n = mdg n := by simp [mdz, h]
theorem mdz_step (m : Nat) (h : m ≠ 0) : mdz m = mdz (m / 10) ++ [UInt8.ofNat (48 + m % 10)] := by
 rw [mdz_pos m h]
 by_cases h1 : m < 10
 ·rw [mdg_small m h1, show m / 10 = 0 by omega, show mdz 0 = [] from rfl, show m % 10 = m by omega]; rfl
 ·rw [mdg_big m h1, mdz_pos _ (by omega)]
theorem mu8 (x : Nat) (h : x < 10) : ((UInt8.ofNat (48 + x)).toNat : Int) = 48 + (x : Int) := by rw [u8_nat _ (by omega)]; omega
theorem mrun_one (b : UInt8) (w : World) : (convert 22 9 (.slice (some ⟨w.heap.size, 0, none⟩) 1 1)).run Tryz.prog (w.alloc (.cells #[.int .u8 (b.toNat : Int)] 5)) = .ok (.string ⟨#[b]⟩) (w.alloc (.cells #[.int .u8 (b.toNat : Int)] 5)) :=
 run_string_own (P := Tryz.prog) _ 22 9 5 Tryz.underlying22 Tryz.underlying5 Tryz.underlying9 [b] (World.ownsRow_lit (base := 0) w #[bv b] 1 (Nat.zero_le _) (by decide) rfl)
theorem mba_cons (b : UInt8) (t : List UInt8) : (⟨#[b]⟩ ++ ⟨t.toArray⟩ : ByteArray) = ⟨(b :: t).toArray⟩ := by
 apply ByteArray.ext
 rw [ByteArray.data_append]
 simp
def mtx6 (k : Nat) : ByteArray := ⟨(109 :: mdg k).toArray⟩
set_option maxHeartbeats 400000 in
theorem markText_any (k : Nat) (w : World) (hk : 0 < k) (hk2 : k ≤ 9000000) :
  Calls Tryz.prog 113 #[.int .i64 k] w fun e w' => e = .returned (.string (mtx6 k)) ∧ Below w.heap.size w w' := by
 have hl := mdg_len 7 k (by omega)
 have hk0 : k ≠ 0 := by omega
 go_enter Tryz.func113, Tryz.ntmps113
 go_wp2
 go_loopw [0, 3] (fun nv tv wr => ∃ (m : Nat) (t : List UInt8), nv = .int .i64 (m : Int) ∧ tv = .string ⟨t.toArray⟩ ∧ m ≤ k ∧ Hid (mdz m ++ t = mdg k) ∧ t.length ≤ 8 ∧ Below w.heap.size w wr) (fun nv _ _ => (intOf nv).toNat)
 case atStart => exact ⟨k, [], rfl, rfl, Nat.le_refl _, (by show _ = _; rw [mdz_pos k hk0]; simp), by simp, bre _⟩
 case round =>
  obtain ⟨m, t, rfl, rfl, hm, HT, htl, hb⟩ := hrel
  have HB := hid hb
  have hsz := hb.size
  have HSZ := hid hsz
  clear hb hk0 hsz
  by_cases hz : 0 < m
  ·obtain ⟨d, hd⟩ : ∃ d : Nat, m % 10 = d := ⟨_, rfl⟩
   have hdi : (m : Int) % 10 = (d : Int) := by omega
   have hdb : d < 10 := by omega
   have HD := hid hd
   obtain ⟨b, hbb⟩ : ∃ b, b = UInt8.ofNat (48 + d) := ⟨_, rfl⟩
   have hbi : (48 : Int) + (d : Int) = (b.toNat : Int) := by rw [hbb, mu8 d hdb]
   have HBB := hid hbb
   have hone := mrun_one b wr
   have HT2 : Hid (mdz (m / 10) ++ (b :: t) = mdg k) := by show _ = _; rw [← HT.out, mdz_step m (by omega), HD.out, ← HBB.out]; simp
   have HTL : Hid ((b :: t).length ≤ 8) := by
    show _ ≤ _
    have h1 := congrArg List.length HT2.out
    simp only [List.length_append] at h1
    omega
   clear hd hbb
   go_wp2
   go_roundw
   case rel => exact ⟨m / 10, b :: t, by go_num, by rw [mba_cons], by omega, HT2, HTL.out, HB.out.alloc HSZ.out _⟩
   case measure => simp [intOf]; omega
  ·have HZ : Hid (m = 0) := by show m = 0; omega
   go_wp2
   go_ret
   exact ⟨ret_str (by rw [mba_cons, mtx6, ← HT.out, HZ.out]; rfl), HB.out⟩
def mki (k n : Nat) : List Int := (List.range n).map fun i => ((k + i : Nat) : Int)
theorem mki_len (k n : Nat) : (mki k n).length = n := by simp [mki]
theorem mki_at (k n i : Nat) (h : i < (mki k n).length) : (mki k n)[i] = ((k + i : Nat) : Int) := by simp [mki]
theorem mki_succ (k n : Nat) : mki k (n + 1) = mki k n ++ [((k + n : Nat) : Int)] := by simp [mki, List.range_succ]
set_option maxHeartbeats 800000 in
set_option maxRecDepth 100000 in
theorem markIS_any (B : Nat) (a : Option Addr) (n cap k : Nat) (G : List Int) (w : World) (hown : OwI w B (.slice a n cap) G) (hl : G.length = n) (hn : n ≤ 1048576) (hk : k ≤ 8000000) :
  Calls Tryz.prog 72 #[.slice a n cap, .int .i64 (k : Int)] w fun e w' => e = .returned (.int .i64 ((k + n : Nat) : Int)) ∧ OwI w' B (.slice a n cap) (mki k n) ∧ w.grownBy w' (Value.ownBlock (.slice a n cap)) := by
 have HO := hid hown
 have HL := hid hl
 clear hown hl
 go_enter Tryz.func72, Tryz.ntmps72
 go_wp2
 go_loopw [1, 5] (fun kv iv wr => ∃ i : Nat, i ≤ n ∧ kv = .int .i64 ((k + i : Nat) : Int) ∧ iv = .int .i64 (i : Int) ∧ OwI wr B (.slice a n cap) (mki k i ++ G.drop i) ∧ w.grownBy wr (Value.ownBlock (.slice a n cap))) (fun _ iv _ => n - (intOf iv).toNat)
 case atStart => exact ⟨0, Nat.zero_le _, by simp, rfl, by simpa [mki] using HO.out, wre _ _⟩
 case round =>
  obtain ⟨i, hi, rfl, rfl, hown, hg⟩ := hrel
  have HOW := hid hown
  have HG := hid hg
  clear hown hg
  by_cases hlt : i < n
  ·have hil : i < G.length := by rw [HL.out]; exact hlt
   rcases HOW.out.2 with ⟨h1, h2⟩ | ⟨g, cap', cur, h1, hB, _⟩
   ·have := HOW.out.1
    rw [List.length_append, mki_len, List.length_drop] at h2
    omega
   simp only [Value.slice.injEq] at h1
   obtain ⟨rfl, -, rfl⟩ := h1
   have hyl : i < (mki k i ++ G.drop i).length := by rw [List.length_append, mki_len, List.length_drop]; omega
   obtain ⟨k', o', e', hk', c1⟩ := (OwI.is HOW.out).2.at hyl
   simp only [Option.some.injEq, Addr.mk.injEq, and_true] at e'
   obtain ⟨rfl, rfl⟩ := e'
   simp only [Nat.zero_add] at c1
   obtain ⟨x, hx⟩ : ∃ x, (mki k i ++ G.drop i)[i] = x := ⟨_, rfl⟩
   rw [hx] at c1
   have hnn := (OwI.is HOW.out).1
   have hfz := World.ownsRow.frozenAt (n := (mki k i ++ G.drop i).length) (by have h := HOW.out; rw [hnn] at h; exact h) i
   have hst := OwI.stored HOW.out i ((k + i : Nat) : Int)
   have hnew : (mki k i ++ G.drop i).set i ((k + i : Nat) : Int) = mki k (i + 1) ++ G.drop (i + 1) := by
    rw [List.set_append_right _ _ (by rw [mki_len]; omega), mki_len, Nat.sub_self, List.drop_eq_getElem_cons hil, List.set_cons_zero, mki_succ, List.append_assoc]
    rfl
   rw [hnew] at hst
   have HST := hid hst
   obtain ⟨q, hq⟩ : ∃ q : Nat, k + i = q := ⟨_, rfl⟩
   have HQ := hid hq
   have hqb : q ≤ 9100000 := by omega
   rw [hq] at HST ⊢
   clear hq hst hnew hx hnn hyl
   go_wp2
   go_roundw
   case rel => exact ⟨i + 1, by omega, by rw [show ((k + (i + 1) : Nat) : Int) = (q : Int) + 1 by have := HQ.out; omega], by go_num, HST.out, wst HG.out _ _⟩
   case measure => simp [intOf]; omega
  ·have HN : Hid (i = n) := by show _ = _; omega
   have HD : Hid (G.drop i = []) := List.drop_of_length_le (by rw [HL.out]; omega)
   go_wp2
   go_ret
   refine ⟨by rw [HN.out]; rfl, ?_, HG.out⟩
   have h := HOW.out
   rw [HD.out, List.append_nil, HN.out] at h
   exact h
set_option maxHeartbeats 800000 in
set_option maxRecDepth 100000 in
theorem heldIS_any (B : Nat) (a : Option Addr) (n cap k : Nat) (w : World) (hown : OwI w B (.slice a n cap) (mki k n)) (hn : n ≤ 1048576) (hk : k ≤ 8000000) :
  Calls Tryz.prog 74 #[.slice a n cap, .int .i64 (k : Int)] w fun e w' => e = .returned (.int .i64 ((k + n : Nat) : Int)) ∧ w' = w := by
 have HO := hid hown
 clear hown
 go_enter Tryz.func74, Tryz.ntmps74
 go_wp2
 go_loop [1, 5] (fun kv iv => ∃ i : Nat, i ≤ n ∧ kv = .int .i64 ((k + i : Nat) : Int) ∧ iv = .int .i64 (i : Int)) (fun _ iv => n - (intOf iv).toNat)
 case atStart => exact ⟨0, Nat.zero_le _, by simp, rfl⟩
 case round =>
  obtain ⟨i, hi, rfl, rfl⟩ := hrel
  by_cases hlt : i < n
  ·have hil : i < (mki k n).length := by rw [mki_len]; exact hlt
   obtain ⟨k', o', rfl, hk', c⟩ := (OwI.is HO.out).2.at hil
   rw [mki_at] at c
   obtain ⟨q, hq⟩ : ∃ q : Nat, k + i = q := ⟨_, rfl⟩
   have HQ := hid hq
   have hqb : q ≤ 9100000 := by omega
   rw [hq] at c ⊢
   have e1 : ((q : Int) != (q : Int)) = false := by simp
   clear hq
   go_wp2
   go_round
   case rel => exact ⟨i + 1, by omega, by rw [show ((k + (i + 1) : Nat) : Int) = (q : Int) + 1 by have := HQ.out; omega], by go_num⟩
   case measure => simp [intOf]; omega
  ·have HN : Hid (i = n) := by show _ = _; omega
   go_wp2
   go_ret
   exact ⟨by rw [HN.out]; rfl, rfl⟩
end Go.Proofs.YtdkedgedkgabnaaGreatDoor
namespace Go.Proofs.YtdkedgedkgabnaaGreatDoor
open Go.RowKit Go.ChangeMaps
structure Chg (P : Nat → Prop) (W W' : World) : Prop where
 os : W'.os = W.os
 tape : W'.tape = W.tape
 output : W'.output = W.output
 size : W.heap.size ≤ W'.heap.size
 block : ∀ k, k < W.heap.size → ¬ P k → W'.heap[k]? = W.heap[k]?
theorem Chg.refl (P : Nat → Prop) (W : World) : Chg P W W := ⟨rfl, rfl, rfl, Nat.le_refl _, fun _ _ _ => rfl⟩
theorem Chg.trans {P : Nat → Prop} {A B C : World} (h : Chg P A B) (k : Chg P B C) : Chg P A C :=
 ⟨k.os.trans h.os, k.tape.trans h.tape, k.output.trans h.output, Nat.le_trans h.size k.size, fun i hi' hr => (k.block i (Nat.lt_of_lt_of_le hi' h.size) hr).trans (h.block i hi' hr)⟩
theorem Chg.of_below {P : Nat → Prop} {A B : World} (h : Below A.heap.size A B) : Chg P A B := ⟨h.os, h.tape, h.output, h.size, fun k hk _ => h.block k hk⟩
theorem Chg.of_grown {P : Nat → Prop} {A B : World} {r : Option Nat} (h : A.grownBy B r) (hr : ∀ j, r = some j → P j) : Chg P A B :=
 ⟨h.os, h.tape, h.output, h.size, fun k hk hl => h.block k hk (fun e => hl (hr k e.symm))⟩
theorem Chg.mono {P Q : Nat → Prop} {A B : World} (h : Chg P A B) (hq : ∀ j, P j → Q j) : Chg Q A B := ⟨h.os, h.tape, h.output, h.size, fun k hk hl => h.block k hk (fun e => hl (hq k e))⟩
theorem Chg.below {P : Nat → Prop} {lo : Nat} {A B : World} (h : Chg P A B) (hl : lo ≤ A.heap.size) (hp : ∀ j, P j → lo ≤ j) : Below lo A B := ⟨h.os, h.tape, h.output, h.size, fun k hk => h.block k (by omega) (fun e => by have := hp k e; omega)⟩
theorem row_chg {P : Nat → Prop} {W W' : World} {B e size n : Nat} {v : Value} {xs : List Value} (h : W.ownsRow B e size v n xs) (hc : Chg P W W') (hp : ∀ j, v.ownBlock = some j → ¬ P j) : W'.ownsRow B e size v n xs := by
 refine ⟨h.1, h.2.imp id ?_⟩
 rintro ⟨g, cap, cur, h1, h2, h3, h4⟩
 have hv : v.ownBlock = some g := by rw [h1]; rfl
 exact ⟨g, cap, cur, h1, h2, (hc.block g (h.lt g hv).2 (hp g hv)).trans h3, h4⟩
def mz1 (k : Nat) (z : Z5) : Z5 := ((k : Int), ((k + 1 : Nat) : Int), z.2.2.1, mks (k + 2) z.2.2.2.1.length, mtx6 (k + 2 + z.2.2.2.1.length * 3))
def kz1 (k : Nat) (z : Z5) : Nat := k + 2 + z.2.2.2.1.length * 3 + 1
def mzs (k : Nat) : List Z5 → List Z5
 | [] => []
 | z :: Z => mz1 k z :: mzs (kz1 k z) Z
def kz (k : Nat) : List Z5 → Nat
 | [] => k
 | z :: Z => kz (kz1 k z) Z
theorem mzs_len (k : Nat) (Z : List Z5) : (mzs k Z).length = Z.length := by
 induction Z generalizing k with
 | nil => rfl
 | cons z Z ih => simp [mzs, ih]
theorem mzs_snoc (k : Nat) (Z : List Z5) (z : Z5) : mzs k (Z ++ [z]) = mzs k Z ++ [mz1 (kz k Z) z] := by
 induction Z generalizing k with
 | nil => rfl
 | cons y Z ih => simp [mzs, kz, ih]
theorem kz_snoc (k : Nat) (Z : List Z5) (z : Z5) : kz k (Z ++ [z]) = kz1 (kz k Z) z := by
 induction Z generalizing k with
 | nil => rfl
 | cons y Z ih => simp [kz, ih]
theorem kz_le (k : Nat) (Z : List Z5) : k ≤ kz k Z := by
 induction Z generalizing k with
 | nil => exact Nat.le_refl _
 | cons z Z ih =>
  have h := ih (kz1 k z)
  have e2 : kz1 k z = k + 2 + z.2.2.2.1.length * 3 + 1 := rfl
  show k ≤ kz (kz1 k z) Z
  omega
def fz : List M4 → Nat
 | [] => 0
 | m :: L => 1 + m.2.2.1.length + fz L
theorem kz_fz (k : Nat) (Z : List Z5) : kz k Z = k + 3 * fz (Z.map md) := by
 induction Z generalizing k with
 | nil => simp [kz, fz]
 | cons z Z ih =>
  have h := ih (kz1 k z)
  have e : fz ((z :: Z).map md) = 1 + z.2.2.2.1.length + fz (Z.map md) := rfl
  have e2 : kz1 k z = k + 2 + z.2.2.2.1.length * 3 + 1 := rfl
  rw [e]
  show kz (kz1 k z) Z = _
  omega
theorem kz_take (k : Nat) (Z : List Z5) (i : Nat) : kz k (Z.take i) ≤ kz k Z := by
 induction Z generalizing k i with
 | nil => simp [kz]
 | cons z Z ih =>
  cases i with
  | zero =>
   have h := kz_le (kz1 k z) Z
   have e2 : kz1 k z = k + 2 + z.2.2.2.1.length * 3 + 1 := rfl
   show k ≤ kz (kz1 k z) Z
   omega
  | succ i => simp only [List.take_succ_cons, kz]; exact ih _ _
theorem zc_set3 (Z : List Z5) (i : Nat) (z : Z5) (h : i < Z.length) (hf : z.2.2.1 = Z[i].2.2.1) :
  (((zc Z).set (i * 4) (.int .i64 z.1)).set (i * 4 + 1) (.int .i64 z.2.1)).set (i * 4 + 3) (.string z.2.2.2.2) = zc (Z.set i z) := by
 induction Z generalizing i with
 | nil => simp at h
 | cons y Z ih =>
  cases i with
  | zero =>
   simp only [List.getElem_cons_zero] at hf
   simp [zc, hf]
  | succ i =>
   have h' : i < Z.length := by simpa using h
   have := ih i h' (by simpa using hf)
   have e : (i + 1) * 4 = i * 4 + 1 + 1 + 1 + 1 := by omega
   rw [e]
   simpa [zc] using this
theorem OwZ.marked {W W' : World} {B gr n cap : Nat} {P C : List Z5} {z z' : Z5} (h : OwZ W B (.slice (some ⟨gr, 0, none⟩) n cap) (P ++ z :: C)) (hrow : W'.ownsRow B 78 4 (.slice (some ⟨gr, 0, none⟩) n cap) (P ++ z' :: C).length (zc (P ++ z' :: C))) (hf : z'.2.2.1 = z.2.2.1) (ho : Ow W' B z'.2.2.1 z'.2.2.2.1)
  (hk : ∀ {x : Value} {l : List R3}, Ow W B x l → x.ownBlock ≠ some gr → Dj x z.2.2.1 → Ow W' B x l) : OwZ W' B (.slice (some ⟨gr, 0, none⟩) n cap) (P ++ z' :: C) := by
 have hap := List.pairwise_append.1 h.apart
 have hap2 := List.pairwise_cons.1 hap.2.1
 have hmem : ∀ y ∈ P ++ z' :: C, y = z' ∨ (y ∈ P ++ z :: C ∧ Dj y.2.2.1 z.2.2.1) := by
  intro y hy
  rcases List.mem_append.1 hy with hy | hy
  ·exact .inr ⟨by simp [hy], hap.2.2 y hy z (by simp)⟩
  ·rcases List.mem_cons.1 hy with hy | hy
   ·exact .inl hy
   ·exact .inr ⟨by simp [hy], (hap2.1 y hy).symm⟩
 refine ⟨hrow, fun y hy => ?_, fun y hy => ?_, ?_⟩
 ·rcases hmem y hy with rfl | ⟨hy, hd⟩
  ·exact ho
  ·exact hk (h.each y hy) (far_of h hy) hd
 ·rcases hmem y hy with rfl | ⟨hy, _⟩
  ·rw [hf]; exact h.off z (by simp)
  ·exact h.off y hy
 ·rw [List.pairwise_append, List.pairwise_cons]
  refine ⟨hap.1, ⟨fun y hy => by rw [hf]; exact hap2.1 y hy, hap2.2⟩, fun x hx y hy => ?_⟩
  rcases List.mem_cons.1 hy with rfl | hy
  ·rw [hf]; exact hap.2.2 x hx z (by simp)
  ·exact hap.2.2 x hx y (by simp [hy])
theorem row_kept {W W' : World} {B e size n : Nat} {v : Value} {xs : List Value} {r : Option Nat} (h : W.ownsRow B e size v n xs) (hg : W.grownBy W' r) (hne : ∀ j, v.ownBlock = some j → r ≠ some j) : W'.ownsRow B e size v n xs :=
 World.ownsRow.kept h hg (by
   cases hv : v.ownBlock with
   | none => exact Or.inl rfl
   | some j => exact Or.inr (fun e => hne j hv e.symm))
theorem OwZ.three {W W1 W2 : World} {B g n c i : Nat} {P C : List Z5} {z z' : Z5} (h : OwZ W B (.slice (some ⟨g, 0, none⟩) n c) (P ++ z :: C)) (hp : P.length = i) (hf : z'.2.2.1 = z.2.2.1)
  (hg1 : ((W.setCell ⟨g, i * 4, none⟩ (.int .i64 z'.1)).setCell ⟨g, i * 4 + 1, none⟩ (.int .i64 z'.2.1)).grownBy W1 z.2.2.1.ownBlock) (ho : Ow W1 B z'.2.2.1 z'.2.2.2.1) (hb : Below W1.heap.size W1 W2) :
  (W2.cell? ⟨g, i * 4 + 3, none⟩ = some (.string z.2.2.2.2) ∧ W2.frozen? ⟨g, i * 4 + 3, none⟩ = false) ∧ OwZ (W2.setCell ⟨g, i * 4 + 3, none⟩ (.string z'.2.2.2.2)) B (.slice (some ⟨g, 0, none⟩) n c) (P ++ z' :: C) := by
 have hmem : z ∈ P ++ z :: C := List.mem_append.2 (.inr (List.mem_cons_self ..))
 have hoff := far_of h hmem
 have hil : i < (P ++ z :: C).length := by rw [List.length_append, hp, List.length_cons]; omega
 have hzi : (P ++ z :: C)[i] = z := by
  rw [List.getElem_append_right (by omega)]
  simp [hp]
 obtain rfl := h.ms.1
 have h1 := (World.ownsRow.stored h.row (i * 4) (.int .i64 z'.1)).1
 have h2 := (World.ownsRow.stored h1 (i * 4 + 1) (.int .i64 z'.2.1)).1
 have h3 := row_kept h2 hg1 (fun j hj e => hoff (by simp only [Value.ownBlock, Option.some.injEq] at hj; rw [hj]; exact e))
 have h4 := own_later h3 hb
 have h5 := (World.ownsRow.stored h4 (i * 4 + 3) (.string z'.2.2.2.2)).1
 rw [zc_set3 _ i z' hil (by rw [hzi]; exact hf)] at h5
 have hms : (P ++ z :: C).set i z' = P ++ z' :: C := by rw [← hp]; exact mid_set
 rw [hms] at h5
 have e3 := (zc_at (P ++ z :: C) i hil).2.2.2
 rw [hzi] at e3
 have hlen : (P ++ z' :: C).length = (P ++ z :: C).length := by simp
 refine ⟨⟨(h4.cellAt _ (by omega)).trans ?_, h4.frozenAt _⟩, OwZ.marked h (by rw [hlen]; exact h5) hf ?_ ?_⟩
 ·rw [List.getElem?_set_ne (by omega), List.getElem?_set_ne (by omega)]; exact e3
 ·exact World.ownsRow.kept (own_later ho hb) (wst (wre _ _) _ _) (Or.inr (by rw [hf]; exact hoff))
 ·intro x l hx hxg hxd
  have k1 : Ow ((W.setCell ⟨g, i * 4, none⟩ (.int .i64 z'.1)).setCell ⟨g, i * 4 + 1, none⟩ (.int .i64 z'.2.1)) B x l := World.ownsRow.kept hx (wst (wst (wre _ _) _ _) _ _) (Or.inr hxg)
  exact World.ownsRow.kept (own_later (own_kept k1 hg1 (fun j hj => hxd j hj)) hb) (wst (wre _ _) _ _) (Or.inr hxg)
theorem mzs_at (k : Nat) (Z : List Z5) (i : Nat) (h : i < Z.length) (h' : i < (mzs k Z).length) : (mzs k Z)[i] = mz1 (kz k (Z.take i)) Z[i] := by
 induction Z generalizing k i with
 | nil => simp at h
 | cons z Z ih =>
  cases i with
  | zero => rfl
  | succ i => exact ih (kz1 k z) i (by simpa using h) (by simpa [mzs] using h')
end Go.Proofs.YtdkedgedkgabnaaGreatDoor
namespace Go.Proofs.YtdkedgedkgabnaaGreatDoor
open Go.RowKit Go.ChangeMaps
theorem mzs_own (k : Nat) (Z : List Z5) : ∀ z ∈ mzs k Z, ∃ y ∈ Z, z.2.2.1 = y.2.2.1 := by
 induction Z generalizing k with
 | nil => intro z hz; simp [mzs] at hz
 | cons y Z ih =>
  intro z hz
  simp only [mzs, List.mem_cons] at hz
  rcases hz with rfl | hz
  ·exact ⟨y, by simp, rfl⟩
  ·obtain ⟨x, hx, e⟩ := ih _ z hz
   exact ⟨x, by simp [hx], e⟩
theorem OwZ.chg {P : Nat → Prop} {W W' : World} {B : Nat} {v : Value} {Z : List Z5} (h : OwZ W B v Z) (hc : Chg P W W') (hv : ∀ j, v.ownBlock = some j → ¬ P j) (he : ∀ z ∈ Z, ∀ j, z.2.2.1.ownBlock = some j → ¬ P j) : OwZ W' B v Z :=
 h.kept hc.size (fun j hj => hc.block j (h.row.lt j hj).2 (hv j hj)) (fun z hz j hj => hc.block j ((h.each z hz).lt j hj).2 (he z hz j hj))
theorem Bx.chg {P : Nat → Prop} {W W' : World} {k ty : Nat} {g : Int} {nm : ByteArray} {t b nx : Int} {ms gs : Value} (h : Bx W k ty g nm t b nx ms gs) (hc : Chg P W W') (hk : ¬ P k) : Bx W' k ty g nm t b nx ms gs := (hc.block k h.lt hk).trans h
end Go.Proofs.YtdkedgedkgabnaaGreatDoor
namespace Go.Proofs.YtdkedgedkgabnaaGreatDoor
open Go.RowKit Go.ChangeMaps
end Go.Proofs.YtdkedgedkgabnaaGreatDoor
namespace Go.Proofs.YtdkedgedkgabnaaGreatDoor
open Go.RowKit Go.ChangeMaps
theorem asc_low {G : List Int} {a : Int} (h : asc a G = true) : ∀ y ∈ G, a < y := by
 induction G generalizing a with
 | nil => intro y hy; simp at hy
 | cons x G ih =>
  simp only [asc, Bool.and_eq_true, decide_eq_true_eq] at h
  intro y hy
  rcases List.mem_cons.1 hy with rfl | hy
  ·exact h.1.1
  ·have := ih h.2 y hy
   omega
theorem asc_pair {G : List Int} {a : Int} (h : asc a G = true) : G.Pairwise (· < ·) := by
 induction G generalizing a with
 | nil => exact List.Pairwise.nil
 | cons x G ih =>
  simp only [asc, Bool.and_eq_true, decide_eq_true_eq] at h
  exact List.pairwise_cons.2 ⟨fun y hy => asc_low h.2 y hy, ih h.2⟩
theorem OwMp.drop {W : World} {B b c : Nat} {E1 : List En} {e0 : En} {E2 : List En} (h : OwMp W B b (E1 ++ e0 :: E2) c) : OwMp (setBlock W b (.map ((E1 ++ E2).map ent).toArray c)) B b (E1 ++ E2) c := by
 have hsub : (E1 ++ E2).Sublist (E1 ++ e0 :: E2) := (List.Sublist.refl E1).append (List.sublist_cons_self ..)
 refine ⟨heap_setBlock_same h.lies _, h.base, fun e he => h.old e (hsub.subset he), h.births.sublist (hsub.map _), h.keys.sublist (hsub.map _), fun e he => ?_, List.Pairwise.sublist hsub h.apart⟩
 have ho := h.each e (hsub.subset he)
 exact World.ownsRow.kept ho (setBlock_grown h.lies _) (Or.inr (h.off ho))
end Go.Proofs.YtdkedgedkgabnaaGreatDoor
namespace Go.Proofs.YtdkedgedkgabnaaGreatDoor
open Go.RowKit Go.ChangeMaps
end Go.Proofs.YtdkedgedkgabnaaGreatDoor
namespace Go.Proofs.YtdkedgedkgabnaaGreatDoor
open Go.RowKit Go.ChangeMaps
theorem OwZ.cell {W : World} {B g n c : Nat} {Z : List Z5} (h : OwZ W B (.slice (some ⟨g, 0, none⟩) n c) Z) (j : Nat) (hj : j < Z.length * 4) : W.cell? ⟨g, j, none⟩ = (zc Z)[j]? := by
 obtain rfl := h.ms.1
 exact h.row.cellAt j hj
end Go.Proofs.YtdkedgedkgabnaaGreatDoor
namespace Go.Proofs.YtdkedgedkgabnaaGreatDoor
open Go.RowKit Go.ChangeMaps
end Go.Proofs.YtdkedgedkgabnaaGreatDoor
namespace Go.Proofs.YtdkedgedkgabnaaGreatDoor
open Go.RowKit Go.ChangeMaps
end Go.Proofs.YtdkedgedkgabnaaGreatDoor
