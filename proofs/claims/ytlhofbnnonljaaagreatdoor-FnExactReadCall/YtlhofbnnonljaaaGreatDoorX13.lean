/- Sto, Crc, Sum, SpecSum, Four, Seal, SpecSeal, MailNum, MailReg. -/
import Derived.Test.YtlhofbnnonljaaaGreatDoorX9
namespace Go.Proofs.YtlhofbnnonljaaaGreatDoor
open Go.RowKit Go.ChangeMaps
def y0 (B : Nat) : Y9 := ⟨0, ⟨#[]⟩, 0, 0, 0, .slice none 0 0, .slice none 0 0, [], [], B, B⟩
end Go.Proofs.YtlhofbnnonljaaaGreatDoor
namespace Go.Proofs.YtlhofbnnonljaaaGreatDoor
def st (x : Nat) : Nat := if x % 2 = 1 then x / 2 ^^^ 3558460437 else x / 2
def st8 (x : Nat) : Nat := st (st (st (st (st (st (st (st x)))))))
def st4 (x : Nat) : Nat := st (st (st (st x)))
def smore (x : Nat) (l : List UInt8) : Nat := l.foldl (fun x b => st8 (x ^^^ b.toNat)) x
def tabW : List Nat := [0, 1166650509, 2333301018, 3466261911, 3189058079, 4221339282, 889615109, 1888477064, 3558460437, 2442158232, 1594529039, 444807554, 1779230218, 797264519, 3776954128, 2761298845]
def four (x : Nat) : Nat := x / 16 ^^^ tabW.getD (x % 16) 0
theorem st_lin (x y : Nat) : st (x ^^^ y) = st x ^^^ st y := by
  have hm := @Nat.xor_mod_two_eq_one x y
  have hd := @Nat.xor_div_two x y
  unfold st
  rw [hd]
  by_cases hx : x % 2 = 1 <;> by_cases hy : y % 2 = 1
  · rw [if_neg (by rw [hm]; simp [hx, hy]), if_pos hx, if_pos hy]
    rw [Nat.xor_assoc, Nat.xor_comm 3558460437 (y / 2 ^^^ 3558460437), Nat.xor_assoc, Nat.xor_self]; simp
  · rw [if_pos (by rw [hm]; simp [hx, hy]), if_pos hx, if_neg hy]
    rw [Nat.xor_assoc, Nat.xor_assoc, Nat.xor_comm (y / 2)]
  · rw [if_pos (by rw [hm]; simp [hx, hy]), if_neg hx, if_pos hy, Nat.xor_assoc]
  · rw [if_neg (by rw [hm]; simp [hx, hy]), if_neg hx, if_neg hy]
theorem st4_lin (x y : Nat) : st4 (x ^^^ y) = st4 x ^^^ st4 y := by
  unfold st4; rw [st_lin, st_lin, st_lin, st_lin]
theorem split16 (x : Nat) : x = (16 * (x / 16)) ^^^ (x % 16) := by
  apply Nat.eq_of_testBit_eq; intro i
  rw [Nat.testBit_xor, show (16 : Nat) = 2 ^ 4 from rfl, Nat.testBit_two_pow_mul, Nat.testBit_mod_two_pow, Nat.testBit_div_two_pow]
  by_cases h : i < 4
  · have h' : ¬ i ≥ 4 := by omega
    simp [h, h']
  · have h' : i ≥ 4 := by omega
    simp [h, h']
theorem st_even (q : Nat) : st (2 * q) = q := by unfold st; rw [if_neg (by omega)]; omega
theorem st4_16 (q : Nat) : st4 (16 * q) = q := by
  unfold st4
  rw [show 16 * q = 2 * (2 * (2 * (2 * q))) by omega, st_even, st_even, st_even, st_even]
theorem st4_tab : ∀ r : Fin 16, st4 r.val = tabW.getD r.val 0 := by decide
theorem st4_four (x : Nat) : st4 x = four x := by
  conv => lhs; rw [split16 x]
  rw [st4_lin, st4_16]
  unfold four
  rw [st4_tab ⟨x % 16, Nat.mod_lt _ (by omega)⟩]
theorem st8_four (x : Nat) : st8 x = four (four x) := by
  rw [← st4_four, ← st4_four]; rfl
theorem st_lt {x : Nat} (h : x < 4294967296) : st x < 4294967296 := by
  unfold st
  split
  · exact Nat.xor_lt_two_pow (n := 32) (by omega) (by omega)
  · omega
theorem st8_lt {x : Nat} (h : x < 4294967296) : st8 x < 4294967296 := by
  unfold st8; exact st_lt (st_lt (st_lt (st_lt (st_lt (st_lt (st_lt (st_lt h)))))))
theorem xor_byte_lt {x : Nat} (h : x < 4294967296) (b : UInt8) : x ^^^ b.toNat < 4294967296 := by
  have := b.toNat_lt
  exact Nat.xor_lt_two_pow (n := 32) (by omega) (by omega)
theorem smore_lt (l : List UInt8) : ∀ {x : Nat}, x < 4294967296 → smore x l < 4294967296 := by
  induction l with
  | nil => intro x h; exact h
  | cons b l ih => intro x h; exact ih (st8_lt (xor_byte_lt h b))
theorem smore_append (x : Nat) (l m : List UInt8) : smore x (l ++ m) = smore (smore x l) m := by
  unfold smore; rw [List.foldl_append]
def f4 (x : Nat) : List UInt8 := [UInt8.ofNat (x / 16777216), UInt8.ofNat (x / 65536), UInt8.ofNat (x / 256), UInt8.ofNat x]
theorem u8_of (n : Nat) : (UInt8.ofNat n).toNat = n % 256 := by simp
end Go.Proofs.YtlhofbnnonljaaaGreatDoor
namespace Go.Proofs.YtlhofbnnonljaaaGreatDoor
open Go.RowKit
/-- The program's table lies at its block. -/
def Nib (w : World) : Prop := ∀ i, i < 16 → w.cell? ⟨0, i, none⟩ = some (.int .u32 (tabW.getD i 0 : Nat))
theorem Nib.later {w w' : World} {B : Nat} (h : Nib w) (hb : Below B w w') (hB : 0 < B) : Nib w' := fun i hi => by
  rw [hb.cell (p := ⟨0, i, none⟩) hB]; exact h i hi
theorem tab_lt (i : Nat) (h : i < 16) : tabW.getD i 0 < 4294967296 := by
  have : ∀ r : Fin 16, tabW.getD r.val 0 < 4294967296 := by decide
  exact this ⟨i, h⟩
theorem four_lt {x : Nat} (h : x < 4294967296) : four x < 4294967296 := by
  have := tab_lt (x % 16) (Nat.mod_lt _ (by omega))
  exact Nat.xor_lt_two_pow (n := 32) (by omega) (by omega)
theorem four_any (x : Nat) (w : World) (hx : x < 4294967296) (hn : Nib w) :
    Calls Tryz.prog 223 #[.int .u32 (x : Int)] w fun e w' => e = .returned (.int .u32 (four x : Nat)) ∧ w = w' := by
  have hc := hn (x % 16) (Nat.mod_lt _ (by omega))
  clear hn
  go_enter Tryz.func223, Tryz.ntmps223
  go_wp2
  go_ret
  exact ⟨ret_int (by rw [show (x : Int) / 16 = ((x / 16 : Nat) : Int) from by omega]; exact u32_xor_nat _ _ (by omega) (tab_lt _ (Nat.mod_lt _ (by omega)))), rfl⟩
theorem smore_step (x : Nat) (s : ByteArray) (k : Nat) (h : k < s.size) : smore x (s.data.toList.take (k + 1)) = st8 (smore x (s.data.toList.take k) ^^^ s[k].toNat) := by
  rw [List.take_succ_eq_append_getElem (by rw [Array.length_toList]; exact h), smore_append]; rfl
theorem more_any (x : Nat) (s : ByteArray) (w : World) (hx : x < 4294967296) (hs : s.size ≤ 1048577) (hn : Nib w) :
    Calls Tryz.prog 202 #[.int .u32 (x : Int), .string s] w fun e w' => e = .returned (.int .u32 (smore x s.data.toList : Nat)) ∧ w = w' := by
  have HN := hide hn
  clear hn
  go_enter Tryz.func202, Tryz.ntmps202
  go_wp2
  go_loop [0, 8] (fun sv iv => ∃ (k y : Nat), k ≤ s.size ∧ y = smore x (s.data.toList.take k) ∧ sv = .int .u32 (y : Int) ∧ iv = .int .i64 (k : Int)) (fun _ iv => s.size - (intOf iv).toNat)
  case atStart => exact ⟨0, x, Nat.zero_le _, rfl, rfl, rfl⟩
  case round =>
    obtain ⟨k, y, hk, hy, rfl, rfl⟩ := hrel
    have hyl : y < 4294967296 := by rw [hy]; exact smore_lt _ hx
    have HY := hide hy
    clear hy
    by_cases hlt : k < s.size
    · obtain ⟨c, hcx⟩ : ∃ c : Nat, s[k].toNat = c := ⟨_, rfl⟩
      have hcb : c < 256 := by rw [← hcx]; exact s[k].toNat_lt
      have HC := hide hcx
      have hI : (0 : Int) ≤ (k : Int) ∧ (k : Int) < (s.size : Int) := by omega
      obtain ⟨z, hz⟩ : ∃ z : Nat, y ^^^ c = z := ⟨_, rfl⟩
      have hzl : z < 4294967296 := by rw [← hz]; exact Nat.xor_lt_two_pow (n := 32) (by omega) (by omega)
      have hxr : bits .xor .u32 (y : Int) (c : Int) = (z : Int) := by rw [u32_xor_nat y c hyl (by omega), hz]
      have HZ := hide hz
      clear hz
      go_wp2_with fail
      refine (four_any z _ hzl (unhide HN)).mono ?_; rintro e w' ⟨rfl, rfl⟩
      go_wp2_with fail
      refine (four_any (four z) _ (four_lt hzl) (unhide HN)).mono ?_; rintro e w' ⟨rfl, rfl⟩
      go_wp2
      go_round
      case rel => exact ⟨k + 1, four (four z), by omega, by rw [smore_step x s k hlt, ← unhide HY, unhide HC, unhide HZ, st8_four], rfl, by go_num⟩
      case measure => simp [intOf]; omega
    · go_wp2
      go_ret
      exact ⟨ret_int (by rw [unhide HY, List.take_of_length_le (by rw [Array.length_toList]; exact Nat.le_of_not_lt hlt)]), rfl⟩
theorem implMore_any (x : Nat) (s : ByteArray) (w : World) (hx : x < 4294967296) (hs : s.size ≤ 1048577) (hn : Nib w) :
    Calls Tryz.prog 174 #[.int .u32 (x : Int), .string s] w fun e w' => e = .returned (.int .u32 (smore x s.data.toList : Nat)) ∧ w = w' := by
  have HN := hide hn
  clear hn
  go_enter Tryz.func174, Tryz.ntmps174
  go_wp2_with fail
  refine (more_any x s _ hx hs (unhide HN)).mono ?_; rintro e w' ⟨rfl, rfl⟩
  go_wp2
  go_ret
  exact ⟨rfl, rfl⟩
theorem implOf_any (s : ByteArray) (w : World) (hs : s.size ≤ 1048577) (hn : Nib w) :
    Calls Tryz.prog 138 #[.string s] w fun e w' => e = .returned (.int .u32 (smore 4294967295 s.data.toList : Nat)) ∧ w = w' := by
  have HN := hide hn
  clear hn
  go_enter Tryz.func138, Tryz.ntmps138
  go_wp2_with fail
  refine (implMore_any 4294967295 s _ (by decide) hs (unhide HN)).mono ?_; rintro e w' ⟨rfl, rfl⟩
  go_wp2
  go_ret
  exact ⟨rfl, rfl⟩
def stN : Nat → Nat → Nat
  | 0, x => x
  | k + 1, x => st (stN k x)
theorem stN_lt : ∀ (k : Nat) {x : Nat}, x < 4294967296 → stN k x < 4294967296
  | 0, _, h => h
  | k + 1, _, h => st_lt (stN_lt k h)
theorem specMore_any (x : Nat) (s : ByteArray) (w : World) (hx : x < 4294967296) (hs : s.size ≤ 1048577) :
    Calls Tryz.prog 109 #[.int .u32 (x : Int), .string s] w fun e w' => e = .returned (.int .u32 (smore x s.data.toList : Nat)) ∧ w = w' := by
  go_enter Tryz.func109, Tryz.ntmps109
  go_wp2
  go_loop [0, 5] (fun sv iv => ∃ (k y : Nat), k ≤ s.size ∧ y = smore x (s.data.toList.take k) ∧ sv = .int .u32 (y : Int) ∧ iv = .int .i64 (k : Int)) (fun _ iv => s.size - (intOf iv).toNat)
  case atStart => exact ⟨0, x, Nat.zero_le _, rfl, rfl, rfl⟩
  case round =>
    obtain ⟨k, y, hk, hy, rfl, rfl⟩ := hrel
    have hyl : y < 4294967296 := by rw [hy]; exact smore_lt _ hx
    have HY := hide hy
    clear hy
    by_cases hlt : k < s.size
    · obtain ⟨c, hcx⟩ : ∃ c : Nat, s[k].toNat = c := ⟨_, rfl⟩
      have hcb : c < 256 := by rw [← hcx]; exact s[k].toNat_lt
      have HC := hide hcx
      have hI : (0 : Int) ≤ (k : Int) ∧ (k : Int) < (s.size : Int) := by omega
      obtain ⟨z, hz⟩ : ∃ z : Nat, y ^^^ c = z := ⟨_, rfl⟩
      have hzl : z < 4294967296 := by rw [← hz]; exact Nat.xor_lt_two_pow (n := 32) (by omega) (by omega)
      have hxr : bits .xor .u32 (y : Int) (c : Int) = (z : Int) := by rw [u32_xor_nat y c hyl (by omega), hz]
      have HZ := hide hz
      clear hz
      go_wp2
      go_loop [0, 6] (fun sv iv => ∃ (j v : Nat), j ≤ 8 ∧ v = stN j z ∧ sv = .int .u32 (v : Int) ∧ iv = .int .i64 (j : Int)) (fun _ iv => 8 - (intOf iv).toNat)
      case atStart => exact ⟨0, z, by omega, rfl, rfl, rfl⟩
      case round =>
        obtain ⟨j, v, hj, hv, rfl, rfl⟩ := hrel
        have hvl : v < 4294967296 := by rw [hv]; exact stN_lt j hzl
        have HV := hide hv
        clear hv
        by_cases hj8 : j < 8
        · obtain ⟨q, hq⟩ : ∃ q : Nat, v / 2 = q := ⟨_, rfl⟩
          have hqi : (v : Int) / 2 = (q : Int) := by omega
          have hql : q < 4294967296 := by omega
          have HQ := hide hq
          clear hq
          by_cases ho : v % 2 = 1
          · have hoi : ((v : Int) % 2 == 1) = true := by simp; omega
            obtain ⟨r, hr⟩ : ∃ r : Nat, q ^^^ 3558460437 = r := ⟨_, rfl⟩
            have hri : bits .xor .u32 (q : Int) 3558460437 = (r : Int) := by rw [← hr]; exact u32_xor_nat q 3558460437 hql (by omega)
            have HR := hide hr
            have HO := hide ho
            clear hr ho
            go_wp2
            go_round
            case rel => exact ⟨j + 1, r, by omega, by rw [stN, ← unhide HV, st, if_pos (unhide HO), unhide HQ, unhide HR], rfl, by go_num⟩
            case measure => simp [intOf]; omega
          · have hoi : ((v : Int) % 2 == 1) = false := by simp; omega
            have HO := hide ho
            clear ho
            go_wp2
            go_round
            case rel => exact ⟨j + 1, q, by omega, by rw [stN, ← unhide HV, st, if_neg (unhide HO), unhide HQ], rfl, by go_num⟩
            case measure => simp [intOf]; omega
        · have hj' : j = 8 := by omega
          subst hj'
          go_wp2
          go_round
          case rel => exact ⟨k + 1, v, by omega, by rw [smore_step x s k hlt, ← unhide HY, unhide HC, unhide HZ, unhide HV]; rfl, rfl, by go_num⟩
          case measure => simp [intOf]; omega
    · go_wp2
      go_ret
      exact ⟨ret_int (by rw [unhide HY, List.take_of_length_le (by rw [Array.length_toList]; exact Nat.le_of_not_lt hlt)]), rfl⟩
theorem specOf_any (s : ByteArray) (w : World) (hs : s.size ≤ 1048577) :
    Calls Tryz.prog 69 #[.string s] w fun e w' => e = .returned (.int .u32 (smore 4294967295 s.data.toList : Nat)) ∧ w = w' := by
  go_enter Tryz.func69, Tryz.ntmps69
  go_wp2_with fail
  refine (specMore_any 4294967295 s _ (by decide) hs).mono ?_; rintro e w' ⟨rfl, rfl⟩
  go_wp2
  go_ret
  exact ⟨rfl, rfl⟩
theorem f4_conv (x : Nat) (w : World) (hx : x < 4294967296) :
    (convert 41 9 (.slice (some ⟨w.heap.size, 0, none⟩) 4 4)).run Tryz.prog (w.alloc (.cells #[.int .u8 ((x : Int) / 16777216), .int .u8 ((x : Int) / 65536 % 256), .int .u8 ((x : Int) / 256 % 256), .int .u8 ((x : Int) % 256)] 5)) = .ok (.string ⟨(f4 x).toArray⟩) (w.alloc (.cells #[.int .u8 ((x : Int) / 16777216), .int .u8 ((x : Int) / 65536 % 256), .int .u8 ((x : Int) / 256 % 256), .int .u8 ((x : Int) % 256)] 5)) := by
  refine run_convert_bytes_back (P := Tryz.prog) _ 41 9 5 ⟨w.heap.size, 0, none⟩ 4 (f4 x) Tryz.underlying41 Tryz.underlying5 Tryz.underlying9 (fun j hj => ?_)
  have hj' : j < 4 := hj
  have key : ∀ (i : Nat) (v : Value), (#[.int .u8 ((x : Int) / 16777216), .int .u8 ((x : Int) / 65536 % 256), .int .u8 ((x : Int) / 256 % 256), .int .u8 ((x : Int) % 256)] : Array Value)[i]? = some v →
      (w.alloc (.cells #[.int .u8 ((x : Int) / 16777216), .int .u8 ((x : Int) / 65536 % 256), .int .u8 ((x : Int) / 256 % 256), .int .u8 ((x : Int) % 256)] 5)).cell? ((⟨w.heap.size, 0, none⟩ : Addr).add i) = some v := by
    intro i v h
    rw [show (⟨w.heap.size, 0, none⟩ : Addr).add i = ⟨w.heap.size, i, none⟩ from by by_cases h0 : i = 0 <;> simp [Addr.add, h0]]
    rw [cell_of_row _ w.heap.size i _ _ (0, 0) (heap_alloc_new w _)]
    exact h
  match j, hj' with
  | 0, _ => exact key 0 _ (congrArg some (congrArg (Value.int .u8) (by show (x : Int) / 16777216 = ((UInt8.ofNat (x / 16777216)).toNat : Nat); rw [u8_of]; omega)))
  | 1, _ => exact key 1 _ (congrArg some (congrArg (Value.int .u8) (by show (x : Int) / 65536 % 256 = ((UInt8.ofNat (x / 65536)).toNat : Nat); rw [u8_of]; omega)))
  | 2, _ => exact key 2 _ (congrArg some (congrArg (Value.int .u8) (by show (x : Int) / 256 % 256 = ((UInt8.ofNat (x / 256)).toNat : Nat); rw [u8_of]; omega)))
  | 3, _ => exact key 3 _ (congrArg some (congrArg (Value.int .u8) (by show (x : Int) % 256 = ((UInt8.ofNat x).toNat : Nat); rw [u8_of]; omega)))
theorem implBytes_any (x : Nat) (w : World) (hx : x < 4294967296) :
    Calls Tryz.prog 139 #[.int .u32 (x : Int)] w fun e w' => e = .returned (.string ⟨(f4 x).toArray⟩) ∧ Below w.heap.size w w' := by
  have hcv := f4_conv x w hx
  go_enter Tryz.func139, Tryz.ntmps139
  go_wp2
  go_ret
  exact ⟨rfl, (Below.refl _ _).alloc (Nat.le_refl _) _⟩
/-- The sum of a text. -/
def sof (s : ByteArray) : Nat := smore 4294967295 s.data.toList
theorem sof_lt (s : ByteArray) : sof s < 4294967296 := smore_lt _ (by decide)
/-- The four bytes of its sum. -/
def tail4 (s : ByteArray) : ByteArray := ⟨(f4 (sof s)).toArray⟩
theorem tail4_size (s : ByteArray) : (tail4 s).size = 4 := rfl
theorem bytes_eq {a b : ByteArray} (h : a.toList = b.toList) : a = b := by
  rw [ByteArray.toList_eq, ByteArray.toList_eq] at h
  exact ByteArray.ext (Array.toList_inj.mp h)
theorem size_cut (s : ByteArray) (n : Nat) (h : n ≤ s.size) : (s.extract 0 n).size = n := by simp; omega
/-- What the two callees answer at a text u whose sum is z, in the four bytes t: all as letters. -/
theorem seal_parts (u : ByteArray) (hu : u.size ≤ 1048577) : ∃ (z : Nat) (t : ByteArray), sof u = z ∧ tail4 u = t ∧ t.size = 4 ∧
    (∀ W : World, Nib W → Calls Tryz.prog 138 #[.string u] W fun e w' => e = .returned (.int .u32 (z : Int)) ∧ W = w') ∧
    (∀ W : World, Calls Tryz.prog 139 #[.int .u32 (z : Int)] W fun e w' => e = .returned (.string t) ∧ Below W.heap.size W w') :=
  ⟨sof u, tail4 u, rfl, rfl, rfl, fun W hW => implOf_any u W hu hW, fun W => implBytes_any (sof u) W (sof_lt u)⟩
theorem Nib.drew {w : World} (h : Nib w) : Nib w.drew := h
theorem implUnsealed_yes (s : ByteArray) (n : Nat) (w : World) (hl : s.size = n + 4) (hs : n ≤ 20000) (hn : Nib w) (he : tail4 (s.extract 0 n) = s.extract n s.size) :
    Calls Tryz.prog 98 #[.string s] w fun e w' => e = .returned (.tuple #[.string (s.extract 0 n), .bool true]) ∧ Below w.heap.size w w' := by
  have hcut : (s.extract 0 n).size = n := size_cut s n (by omega)
  obtain ⟨z, t, hz, ht, hts, h21, h32⟩ := seal_parts (s.extract 0 n) (by omega)
  rw [ht] at he
  obtain ⟨u, hu⟩ : ∃ u, s.extract 0 n = u := ⟨_, rfl⟩
  rw [hu] at hcut h21 hz ht
  have hcl : ∀ W : World, Calls Tryz.prog 80 #[.string u] W fun e w' => e = .returned (.string u) ∧ Below W.heap.size W w' := fun W => clone_any u W (by omega)
  have HN := hide hn
  have H21 := hide h21
  have H32 := hide h32
  have HCL := hide hcl
  have hli : (s.size : Int) - 4 = (n : Int) := by omega
  have hle : n ≤ s.size := by omega
  have hlm : s.size ≤ 20004 := by omega
  have hv : s.extract n s.size = t := he.symm
  have htt : (!t.toList == t.toList) = false := by simp
  clear hl hn he h21 h32 hcl hz ht hts hcut
  go_enter Tryz.func98, Tryz.ntmps98
  go_wp2_with fail
  go_region_held3 (fun _ => True) (trivial) ((first
    | (go_at_call 138; refine (unhide H21 _ (by exact unhide HN)).mono ?_; rintro e w1 ⟨rfl, rfl⟩)
    | (go_at_call 139; refine (unhide H32 _).mono ?_; rintro e w1 ⟨rfl, hb1⟩)))
  go_wp2_with fail
  refine (unhide HCL _).mono ?_; rintro e w2 ⟨rfl, hb2⟩
  go_wp2
  go_ret2
  exact ⟨by rw [hu]; rfl, (Below.refl _ w).drew.trans (hb1.trans (hb2.mono hb1.size))⟩
theorem implUnsealed_size (s : ByteArray) (w : World) (hm : s.size ≤ 1048576) (h : s.size < 4 ∨ 20004 < s.size) :
    Calls Tryz.prog 98 #[.string s] w fun e w' => e = .returned (.tuple #[.string ⟨#[]⟩, .bool false]) ∧ w = w' := by
  rcases h with h | h
  · have h1 : (s.size : Int) - 4 < 0 := by omega
    go_enter Tryz.func98, Tryz.ntmps98
    go_wp2
    go_ret2
    exact ⟨rfl, rfl⟩
  · have h0 : ¬ (s.size : Int) - 4 < 0 := by omega
    have h1 : (20000 : Int) < (s.size : Int) - 4 := by omega
    go_enter Tryz.func98, Tryz.ntmps98
    go_wp2
    go_ret2
    exact ⟨rfl, rfl⟩
theorem implUnsealed_no (s : ByteArray) (n : Nat) (w : World) (hl : s.size = n + 4) (hs : n ≤ 20000) (hn : Nib w) (he : tail4 (s.extract 0 n) ≠ s.extract n s.size) :
    Calls Tryz.prog 98 #[.string s] w fun e w' => e = .returned (.tuple #[.string ⟨#[]⟩, .bool false]) ∧ Below w.heap.size w w' := by
  have hcut : (s.extract 0 n).size = n := size_cut s n (by omega)
  obtain ⟨z, t, hz, ht, hts, h21, h32⟩ := seal_parts (s.extract 0 n) (by omega)
  rw [ht] at he
  obtain ⟨u, hu⟩ : ∃ u, s.extract 0 n = u := ⟨_, rfl⟩
  rw [hu] at hcut h21 hz ht
  obtain ⟨v, hv⟩ : ∃ v, s.extract n s.size = v := ⟨_, rfl⟩
  rw [hv] at he
  have HN := hide hn
  have H21 := hide h21
  have H32 := hide h32
  have hli : (s.size : Int) - 4 = (n : Int) := by omega
  have hle : n ≤ s.size := by omega
  have hlm : s.size ≤ 20004 := by omega
  have htt : (!t.toList == v.toList) = true := by simp; intro h; exact he (bytes_eq h)
  clear hl hn he h21 h32 hz ht hts hcut
  go_enter Tryz.func98, Tryz.ntmps98
  go_wp2_with fail
  go_region_held3 (fun _ => True) (trivial) ((first
    | (go_at_call 138; refine (unhide H21 _ (by exact unhide HN)).mono ?_; rintro e w1 ⟨rfl, rfl⟩)
    | (go_at_call 139; refine (unhide H32 _).mono ?_; rintro e w1 ⟨rfl, hb1⟩)))
  go_wp2
  go_ret2
  exact ⟨rfl, (Below.refl _ w).drew.trans hb1⟩
theorem specFour_any (x : Nat) (w : World) (hx : x < 4294967296) :
    Calls Tryz.prog 68 #[.int .u32 (x : Int)] w fun e w' => e = .returned (.string ⟨(f4 x).toArray⟩) ∧ Below w.heap.size w w' := by
  have hcv := f4_conv x w hx
  go_enter Tryz.func68, Tryz.ntmps68
  go_wp2
  go_ret
  exact ⟨rfl, (Below.refl _ _).alloc (Nat.le_refl _) _⟩
theorem specSealed_yes (s : ByteArray) (w : World) (hs : s.size ≤ 20000) :
    Calls Tryz.prog 74 #[.string s] w fun e w' => e = .returned (.tuple #[.string (s ++ tail4 s), .bool true]) ∧ Below w.heap.size w w' := by
  have hz := tail4_size s
  go_enter Tryz.func74, Tryz.ntmps74
  go_wp2_with fail
  refine (specOf_any s _ (by omega)).mono ?_; rintro e w1 ⟨rfl, rfl⟩
  go_wp2_with fail
  refine (specFour_any (sof s) _ (sof_lt s)).mono ?_; rintro e w1 ⟨he, hb1⟩
  obtain rfl : e = .returned (.string (tail4 s)) := he
  go_wp2
  go_ret2
  exact ⟨rfl, hb1⟩
/-- What the two callees of the model answer, all as letters. -/
theorem specSeal_parts (u : ByteArray) (hu : u.size ≤ 1048577) : ∃ (z : Nat) (t : ByteArray), tail4 u = t ∧
    (∀ W : World, Calls Tryz.prog 69 #[.string u] W fun e w' => e = .returned (.int .u32 (z : Int)) ∧ W = w') ∧
    (∀ W : World, Calls Tryz.prog 68 #[.int .u32 (z : Int)] W fun e w' => e = .returned (.string t) ∧ Below W.heap.size W w') :=
  ⟨sof u, tail4 u, rfl, fun W => specOf_any u W hu, fun W => specFour_any (sof u) W (sof_lt u)⟩
theorem specUnsealed_size (s : ByteArray) (w : World) (hm : s.size ≤ 1048576) (h : s.size < 4 ∨ 20004 < s.size) :
    Calls Tryz.prog 47 #[.string s] w fun e w' => e = .returned (.tuple #[.string ⟨#[]⟩, .bool false]) ∧ Below w.heap.size w w' := by
  have hlm : s.size ≤ 1048576 := hm
  obtain ⟨m, hmi⟩ : ∃ m : Int, (s.size : Int) - 4 = m := ⟨_, rfl⟩
  rcases h with h | h
  · have hd0 : decide (m < 0) = true := by simp; omega
    clear h hm
    go_enter Tryz.func47, Tryz.ntmps47
    go_wp2_with fail
    go_region
    all_goals go_wp2
    all_goals go_ret2
    all_goals exact ⟨rfl, (Below.refl _ _).drew⟩
  · have hd0 : decide (m < 0) = false := by simp; omega
    have hd1 : decide ((20000 : Int) < m) = true := by simp; omega
    clear h hm
    go_enter Tryz.func47, Tryz.ntmps47
    go_wp2_with fail
    go_region
    all_goals go_wp2
    all_goals go_ret2
    all_goals exact ⟨rfl, (Below.refl _ _).drew⟩
theorem specUnsealed_yes (s : ByteArray) (n : Nat) (w : World) (hl : s.size = n + 4) (hs : n ≤ 20000) (he : tail4 (s.extract 0 n) = s.extract n s.size) :
    Calls Tryz.prog 47 #[.string s] w fun e w' => e = .returned (.tuple #[.string (s.extract 0 n), .bool true]) ∧ Below w.heap.size w w' := by
  have hcut : (s.extract 0 n).size = n := size_cut s n (by omega)
  obtain ⟨z, t, ht, h21, h32⟩ := specSeal_parts (s.extract 0 n) (by omega)
  rw [ht] at he
  obtain ⟨u, hu⟩ : ∃ u, s.extract 0 n = u := ⟨_, rfl⟩
  rw [hu] at hcut h21 ht
  have H21 := hide h21
  have H32 := hide h32
  have hli : (s.size : Int) - 4 = (n : Int) := by omega
  have hle : n ≤ s.size := by omega
  have hlm : s.size ≤ 20004 := by omega
  have hv : s.extract n s.size = t := he.symm
  have htt : (!t.toList == t.toList) = false := by simp
  have hd0 : decide ((n : Int) < 0) = false := by simp
  have hd1 : decide ((20000 : Int) < (n : Int)) = false := by simp; omega
  clear hl he h21 h32 ht hcut
  go_enter Tryz.func47, Tryz.ntmps47
  go_wp2_with fail
  go_region_held3 (fun _ => True) (trivial) ((first
    | (go_at_call 69; refine (unhide H21 _).mono ?_; rintro e w1 ⟨rfl, rfl⟩)
    | (go_at_call 68; refine (unhide H32 _).mono ?_; rintro e w1 ⟨rfl, hb1⟩)))
  go_wp2
  go_ret2
  exact ⟨by rw [hu]; rfl, (Below.refl _ w).drew.trans hb1⟩
theorem specUnsealed_no (s : ByteArray) (n : Nat) (w : World) (hl : s.size = n + 4) (hs : n ≤ 20000) (he : tail4 (s.extract 0 n) ≠ s.extract n s.size) :
    Calls Tryz.prog 47 #[.string s] w fun e w' => e = .returned (.tuple #[.string ⟨#[]⟩, .bool false]) ∧ Below w.heap.size w w' := by
  have hcut : (s.extract 0 n).size = n := size_cut s n (by omega)
  obtain ⟨z, t, ht, h21, h32⟩ := specSeal_parts (s.extract 0 n) (by omega)
  rw [ht] at he
  obtain ⟨u, hu⟩ : ∃ u, s.extract 0 n = u := ⟨_, rfl⟩
  rw [hu] at hcut h21 ht
  obtain ⟨v, hv⟩ : ∃ v, s.extract n s.size = v := ⟨_, rfl⟩
  rw [hv] at he
  have H21 := hide h21
  have H32 := hide h32
  have hli : (s.size : Int) - 4 = (n : Int) := by omega
  have hle : n ≤ s.size := by omega
  have hlm : s.size ≤ 20004 := by omega
  have htt : (!v.toList == t.toList) = true := by simp; intro h; exact he (bytes_eq h).symm
  have hd0 : decide ((n : Int) < 0) = false := by simp
  have hd1 : decide ((20000 : Int) < (n : Int)) = false := by simp; omega
  clear hl he h21 h32 ht hcut
  go_enter Tryz.func47, Tryz.ntmps47
  go_wp2_with fail
  go_region_held3 (fun _ => True) (trivial) ((first
    | (go_at_call 69; refine (unhide H21 _).mono ?_; rintro e w1 ⟨rfl, rfl⟩)
    | (go_at_call 68; refine (unhide H32 _).mono ?_; rintro e w1 ⟨rfl, hb1⟩)))
  go_wp2
  go_ret2
  exact ⟨rfl, (Below.refl _ w).drew.trans hb1⟩
/-- Block k holds a reader. -/
def Dg (W : World) (k : Nat) (s : ByteArray) (b : Int) : Prop := W.heap[k]? = some (.cells #[.string s, .int .i64 b] 94 (0, 0))
theorem Dg.lt {W : World} {k : Nat} {s : ByteArray} {b : Int} (h : Dg W k s b) : k < W.heap.size := (Array.getElem?_eq_some_iff.1 h).1
theorem Dg.new (w : World) (s : ByteArray) (b : Int) : Dg (w.alloc (.cells #[.string s, .int .i64 b] 94)) w.heap.size s b := heap_alloc_new w _
theorem Dg.later {W W' : World} {k : Nat} {s : ByteArray} {b : Int} (h : Dg W k s b) (hb : Below W.heap.size W W') : Dg W' k s b := (hb.block k h.lt).trans h
theorem Dg.below {W W' : World} {B k : Nat} {s : ByteArray} {b : Int} (h : Dg W k s b) (hb : Below B W W') (hk : k < B) : Dg W' k s b := (hb.block k hk).trans h
theorem Dg.cells {W : World} {k : Nat} {s : ByteArray} {b : Int} (h : Dg W k s b) : W.cell? ⟨k, 0, none⟩ = some (.string s) ∧ W.cell? ⟨k, 1, none⟩ = some (.int .i64 b) :=
  ⟨cell_of_row W k 0 _ _ _ h, cell_of_row W k 1 _ _ _ h⟩
theorem Dg.loose {W : World} {k : Nat} {s : ByteArray} {b : Int} (h : Dg W k s b) : W.frozen? ⟨k, 0, none⟩ = false ∧ W.frozen? ⟨k, 1, none⟩ = false :=
  ⟨frozen_of_row W k 0 _ _ h, frozen_of_row W k 1 _ _ h⟩
theorem Dg.s1 {W : World} {k : Nat} {s : ByteArray} {b : Int} (h : Dg W k s b) (b' : Int) : Dg (W.setCell ⟨k, 1, none⟩ (.int .i64 b')) k s b' := heap_setCell_same W k 1 _ _ (.int .i64 b') h
theorem Dg.far {W : World} {k j i : Nat} {s : ByteArray} {b : Int} (h : Dg W k s b) (x : Value) (hk : k ≠ j) : Dg (W.setCell ⟨j, i, none⟩ x) k s b := heap_setCell_far x h hk
/-- What it panics with. -/
abbrev notHere : List PanicEntry := [{ v := .iface 97 (.agg #[]), recovered := false }]
theorem must_yes (w : World) : Calls Tryz.prog 46 #[.bool true] w fun e w' => e = .returned (.tuple #[]) ∧ w' = w := by
  go_enter Tryz.func46, Tryz.ntmps46
  go_wp2
  go_end0
  exact ⟨rfl, rfl⟩
theorem must_no (w : World) : Calls Tryz.prog 46 #[.bool false] w fun e w' => e = .panicked notHere ∧ w' = w := by
  go_enter Tryz.func46, Tryz.ntmps46
  go_wp2
  exact ⟨rfl, rfl, rfl⟩
/-- How a call ends that reads a number, a text, a register, by the reader at block k. -/
def Num1 (w : World) (k : Nat) (s : ByteArray) (b : Int) (e : Ending) (w' : World) : Prop :=
  (∃ n c, rd s b = some (n, c) ∧ e = .returned (.int .i64 n) ∧ Dg w' k s c ∧ w.grownBy w' (some k)) ∨ (rd s b = none ∧ e = .panicked notHere ∧ w.grownBy w' (some k))
def Txt1 (w : World) (k : Nat) (s : ByteArray) (b : Int) (e : Ending) (w' : World) : Prop :=
  (∃ t c, rsh s b = some (t, c) ∧ e = .returned (.string t) ∧ Dg w' k s c ∧ w.grownBy w' (some k)) ∨ (rsh s b = none ∧ e = .panicked notHere ∧ w.grownBy w' (some k))
theorem rdi_l (s : ByteArray) (b : Int) (hs : s.size ≤ 1048576) : ∃ (n c : Int) (ok : Bool), Hid ((ok = true ∧ rd s b = some (n, c)) ∨ (ok = false ∧ rd s b = none)) ∧ Hid (∀ w, Calls Tryz.prog 66 #[.string s, .int .i64 b] w fun e w' => e = .returned (.tuple #[.int .i64 n, .int .i64 c, .bool ok]) ∧ Below w.heap.size w w') := by
  have h := implRd s b (hs := hs)
  unfold rdT at h
  cases hr : rd s b with
  | none => rw [hr] at h; exact ⟨0, 0, false, Or.inr ⟨rfl, rfl⟩, h⟩
  | some p => rw [hr] at h; exact ⟨p.1, p.2, true, Or.inl ⟨rfl, rfl⟩, h⟩
theorem rshi_l (s : ByteArray) (b : Int) (hs : s.size ≤ 1048576) : ∃ (t : ByteArray) (c : Int) (ok : Bool), Hid ((ok = true ∧ rsh s b = some (t, c)) ∨ (ok = false ∧ rsh s b = none)) ∧ Hid (∀ w, Calls Tryz.prog 67 #[.string s, .int .i64 b] w fun e w' => e = .returned (.tuple #[.string t, .int .i64 c, .bool ok]) ∧ Below w.heap.size w w') := by
  have h := implRsh s b (hs := hs)
  unfold rshT at h
  cases hr : rsh s b with
  | none => rw [hr] at h; exact ⟨⟨#[]⟩, 0, false, Or.inr ⟨rfl, rfl⟩, h⟩
  | some p => rw [hr] at h; exact ⟨p.1, p.2, true, Or.inl ⟨rfl, rfl⟩, h⟩
set_option maxHeartbeats 800000 in
set_option maxRecDepth 100000 in
theorem numr_any (k : Nat) (s : ByteArray) (b : Int) (w : World) (hs : s.size ≤ 1048576) (hc : Dg w k s b) :
    Calls Tryz.prog 44 #[.pointer (some ⟨k, 0, none⟩)] w fun e w' => Num1 w k s b e w' := by
  obtain ⟨n, c, ok, hr, cr⟩ := rdi_l s b hs
  have HC := hid hc
  clear hc hs
  have HS : Hid (∀ W, Below w.heap.size w W → (W.cell? ⟨k, 0, none⟩ = some (.string s) ∧ W.cell? ⟨k, 1, none⟩ = some (.int .i64 b))) := fun W h => (HC.out.later h).cells
  go_enter Tryz.func44, Tryz.ntmps44
  go_wp2_with fail
  go_region_held3 (fun W => (W.cell? ⟨k, 0, none⟩ = some (.string s) ∧ W.cell? ⟨k, 1, none⟩ = some (.int .i64 b)))
    ((refine HS.out _ ?_; repeat (first | exact bdr (bre _) | refine btr ?_ (by assumption))))
    ((go_at_call 66; refine (cr.out _).mono ?_; rintro e w1 ⟨rfl, hb1⟩))
  have B1 : Hid (Below w.heap.size w w1) := by show Below _ _ _; repeat (first | exact bdr (bre _) | refine btr ?_ (by assumption))
  have K1 := hid (HC.out.later B1.out)
  have d := K1.out.cells
  have f := K1.out.loose
  clear hb1 HS
  cases ok
  · go_wp2_with fail
    refine (must_no _).mono ?_; rintro e w2 ⟨rfl, h2⟩
    subst h2
    go_wp2_with fail
    exact ⟨rfl, Or.inr ⟨(by rcases hr.out with ⟨h, _⟩ | ⟨_, h⟩; (cases h); exact h), rfl, grown_below B1.out _⟩⟩
  · go_wp2_with fail
    refine (must_yes _).mono ?_; rintro e w2 ⟨rfl, h2⟩
    subst h2
    go_wp2
    go_ret
    exact Or.inl ⟨n, c, (by rcases hr.out with ⟨_, h⟩ | ⟨h, _⟩; (exact h); cases h), rfl, K1.out.s1 c, wst (grown_below B1.out _) 1 _⟩
set_option maxHeartbeats 800000 in
set_option maxRecDepth 100000 in
theorem short_any (k : Nat) (s : ByteArray) (b : Int) (w : World) (hs : s.size ≤ 1048576) (hc : Dg w k s b) :
    Calls Tryz.prog 45 #[.pointer (some ⟨k, 0, none⟩)] w fun e w' => Txt1 w k s b e w' := by
  obtain ⟨t, c, ok, hr, cr⟩ := rshi_l s b hs
  have HC := hid hc
  clear hc hs
  have HS : Hid (∀ W, Below w.heap.size w W → (W.cell? ⟨k, 0, none⟩ = some (.string s) ∧ W.cell? ⟨k, 1, none⟩ = some (.int .i64 b))) := fun W h => (HC.out.later h).cells
  go_enter Tryz.func45, Tryz.ntmps45
  go_wp2_with fail
  go_region_held3 (fun W => (W.cell? ⟨k, 0, none⟩ = some (.string s) ∧ W.cell? ⟨k, 1, none⟩ = some (.int .i64 b)))
    ((refine HS.out _ ?_; repeat (first | exact bdr (bre _) | refine btr ?_ (by assumption))))
    ((go_at_call 67; refine (cr.out _).mono ?_; rintro e w1 ⟨rfl, hb1⟩))
  have B1 : Hid (Below w.heap.size w w1) := by show Below _ _ _; repeat (first | exact bdr (bre _) | refine btr ?_ (by assumption))
  have K1 := hid (HC.out.later B1.out)
  have d := K1.out.cells
  have f := K1.out.loose
  clear hb1 HS
  cases ok
  · go_wp2_with fail
    refine (must_no _).mono ?_; rintro e w2 ⟨rfl, h2⟩
    subst h2
    go_wp2_with fail
    exact ⟨rfl, Or.inr ⟨(by rcases hr.out with ⟨h, _⟩ | ⟨_, h⟩; (cases h); exact h), rfl, grown_below B1.out _⟩⟩
  · go_wp2_with fail
    refine (must_yes _).mono ?_; rintro e w2 ⟨rfl, h2⟩
    subst h2
    go_wp2
    go_ret
    exact Or.inl ⟨t, c, (by rcases hr.out with ⟨_, h⟩ | ⟨h, _⟩; (exact h); cases h), rfl, K1.out.s1 c, wst (grown_below B1.out _) 1 _⟩
def rg3 (s : ByteArray) (b : Int) : Option (R3 × Int) := (rd s b).bind fun p => (rd s p.2).bind fun q => (rd s q.2).map fun r => ((p.1, q.1, r.1), r.2)
theorem rg3_some {s : ByteArray} {b x b1 y b2 z b3 : Int} (h1 : rd s b = some (x, b1)) (h2 : rd s b1 = some (y, b2)) (h3 : rd s b2 = some (z, b3)) : rg3 s b = some ((x, y, z), b3) := by
  unfold rg3; rw [h1]; simp only [Option.bind_some]; rw [h2]; simp only [Option.bind_some]; rw [h3]; rfl
theorem rg3_no1 {s : ByteArray} {b : Int} (h1 : rd s b = none) : rg3 s b = none := by unfold rg3; rw [h1]; rfl
theorem rg3_no2 {s : ByteArray} {b x b1 : Int} (h1 : rd s b = some (x, b1)) (h2 : rd s b1 = none) : rg3 s b = none := by
  unfold rg3; rw [h1]; simp only [Option.bind_some]; rw [h2]; rfl
theorem rg3_no3 {s : ByteArray} {b x b1 y b2 : Int} (h1 : rd s b = some (x, b1)) (h2 : rd s b1 = some (y, b2)) (h3 : rd s b2 = none) : rg3 s b = none := by
  unfold rg3; rw [h1]; simp only [Option.bind_some]; rw [h2]; simp only [Option.bind_some]; rw [h3]; rfl
def Reg1 (w : World) (k : Nat) (s : ByteArray) (b : Int) (e : Ending) (w' : World) : Prop :=
  (∃ x y z c, rg3 s b = some ((x, y, z), c) ∧ e = .returned (.agg #[.int .i64 x, .int .i64 y, .int .i64 z]) ∧ Dg w' k s c ∧ w.grownBy w' (some k)) ∨ (rg3 s b = none ∧ e = .panicked notHere ∧ w.grownBy w' (some k))
/-- A stamp that is read. -/
def rg2 (s : ByteArray) (b : Int) : Option ((Int × Int) × Int) := (rd s b).bind fun p => (rd s p.2).map fun q => ((p.1, q.1), q.2)
theorem rg2_some {s : ByteArray} {b x b1 y b2 : Int} (h1 : rd s b = some (x, b1)) (h2 : rd s b1 = some (y, b2)) : rg2 s b = some ((x, y), b2) := by
  unfold rg2; rw [h1]; simp only [Option.bind_some]; rw [h2]; rfl
theorem rg2_no1 {s : ByteArray} {b : Int} (h1 : rd s b = none) : rg2 s b = none := by unfold rg2; rw [h1]; rfl
theorem rg2_no2 {s : ByteArray} {b x b1 : Int} (h1 : rd s b = some (x, b1)) (h2 : rd s b1 = none) : rg2 s b = none := by
  unfold rg2; rw [h1]; simp only [Option.bind_some]; rw [h2]; rfl
theorem rg3_two {s : ByteArray} {b x b1 y z c : Int} (h1 : rd s b = some (x, b1)) (h2 : rg2 s b1 = some ((y, z), c)) : rg3 s b = some ((x, y, z), c) := by
  unfold rg2 at h2
  cases h3 : rd s b1 with
  | none => rw [h3] at h2; cases h2
  | some p =>
    rw [h3] at h2
    simp only [Option.bind_some] at h2
    cases h4 : rd s p.2 with
    | none => rw [h4] at h2; cases h2
    | some q =>
      rw [h4] at h2
      simp only [Option.map_some, Option.some.injEq, Prod.mk.injEq] at h2
      obtain ⟨⟨rfl, rfl⟩, rfl⟩ := h2
      exact rg3_some h1 h3 h4
theorem rg3_two_no {s : ByteArray} {b x b1 : Int} (h1 : rd s b = some (x, b1)) (h2 : rg2 s b1 = none) : rg3 s b = none := by
  cases h3 : rd s b1 with
  | none => exact rg3_no2 h1 h3
  | some p =>
    cases h4 : rd s p.2 with
    | none => exact rg3_no3 h1 h3 h4
    | some q => rw [rg2_some h3 h4] at h2; cases h2
def Stm1 (w : World) (k : Nat) (s : ByteArray) (b : Int) (e : Ending) (w' : World) : Prop :=
  (∃ x y c, rg2 s b = some ((x, y), c) ∧ e = .returned (.agg #[.int .i64 x, .int .i64 y]) ∧ Dg w' k s c ∧ w.grownBy w' (some k)) ∨ (rg2 s b = none ∧ e = .panicked notHere ∧ w.grownBy w' (some k))
theorem Sg.grown {W W' : World} {k ty : Nat} {t b : Int} {r : Option Nat} (h : Sg W k ty t b) (hg : W.grownBy W' r) (hk : some k ≠ r) : Sg W' k ty t b := (hg.block k h.lt hk).trans h
theorem Sg.free {W : World} {k ty : Nat} {t b : Int} (h : Sg W k ty t b) : W.frozen? ⟨k, 0, none⟩ = false ∧ W.frozen? ⟨k, 1, none⟩ = false :=
  ⟨frozen_of_row W k 0 _ _ h, frozen_of_row W k 1 _ _ h⟩
set_option maxHeartbeats 800000 in
set_option maxRecDepth 100000 in
theorem stmr_any (k : Nat) (s : ByteArray) (b : Int) (w : World) (hs : s.size ≤ 1048576) (hc : Dg w k s b) :
    Calls Tryz.prog 176 #[.pointer (some ⟨k, 0, none⟩)] w fun e w' => Stm1 w k s b e w' := by
  have HSZ := hid hs
  have LK : Hid (k < w.heap.size) := hc.lt
  have R0 := hid (Sg.new w 74 0 0)
  have C0 := hid (hc.later (bpush (bre w) (.cells #[.int .i64 0, .int .i64 0] 74)))
  clear hc hs
  go_enter Tryz.func176, Tryz.ntmps176
  go_wp2_with fail
  refine (numr_any k s b _ HSZ.out C0.out).mono ?_; rintro e w1 (⟨x, b1, hr, rfl, hd, hg⟩ | ⟨hr, rfl, hg⟩)
  case inr =>
    have H := hid hr
    have G := hid (grown_push hg)
    clear hr hg
    go_wp2_with fail
    exact ⟨rfl, Or.inr ⟨rg2_no1 H.out, rfl, G.out⟩⟩
  have H1 := hid hr
  have C1 := hid hd
  have l := LK.out
  have R1 := hid (R0.out.grown hg (by simp; omega))
  have G1 := hid (grown_push hg)
  clear hr hd hg l R0 C0
  go_wp2_with fail
  refine (numr_any k s b1 _ HSZ.out C1.out).mono ?_; rintro e w2 (⟨y, b2, hr, rfl, hd, hg⟩ | ⟨hr, rfl, hg⟩)
  case inr =>
    have H := hid hr
    have G := hid (wtr G1.out hg)
    clear hr hg
    go_wp2_with fail
    exact ⟨rfl, Or.inr ⟨rg2_no2 H1.out H.out, rfl, G.out⟩⟩
  have H2 := hid hr
  have C2 := hid hd
  have l := LK.out
  have R2 := hid (R1.out.grown hg (by simp; omega))
  have G2 := hid (wtr G1.out hg)
  have d := R2.out.cells
  have f := R2.out.free
  clear hr hd hg l R1 C1 G1
  go_wp2
  have l := LK.out
  have d3 := (R2.out.set' (t' := x) (b' := y)).cells
  refine bodyPost_ret (v := .agg #[.int .i64 x, .int .i64 y]) (by simp [results, Tryz.results176, go_sem, d3]) rfl (Or.inl ⟨x, y, b2, rg2_some H1.out H2.out, rfl, ?_, ?_⟩)
  · exact (C2.out.far _ (by omega)).far _ (by omega)
  · exact wst_new (wst_new G2.out (Nat.le_refl _) 0 _) (Nat.le_refl _) 1 _
set_option maxHeartbeats 800000 in
set_option maxRecDepth 100000 in
theorem regr_any (k : Nat) (s : ByteArray) (b : Int) (w : World) (hs : s.size ≤ 1048576) (hc : Dg w k s b) :
    Calls Tryz.prog 203 #[.pointer (some ⟨k, 0, none⟩)] w fun e w' => Reg1 w k s b e w' := by
  have HSZ := hid hs
  have LK : Hid (k < w.heap.size) := hc.lt
  have R0 := hid (Rg.new w 140 0 0 0)
  have C0 := hid (hc.later (bpush (bre w) (.cells #[.int .i64 0, .int .i64 0, .int .i64 0] 140)))
  clear hc hs
  go_enter Tryz.func203, Tryz.ntmps203
  go_wp2_with fail
  refine (numr_any k s b _ HSZ.out C0.out).mono ?_; rintro e w1 (⟨x, b1, hr, rfl, hd, hg⟩ | ⟨hr, rfl, hg⟩)
  case inr =>
    have H := hid hr
    have G := hid (grown_push hg)
    clear hr hg
    go_wp2_with fail
    exact ⟨rfl, Or.inr ⟨rg3_no1 H.out, rfl, G.out⟩⟩
  have H1 := hid hr
  have C1 := hid hd
  have l := LK.out
  have R1 := hid (R0.out.grown hg (by simp; omega))
  have G1 := hid (grown_push hg)
  clear hr hd hg l R0 C0
  go_wp2_with fail
  refine (stmr_any k s b1 _ HSZ.out C1.out).mono ?_; rintro e w2 (⟨y, z, b3, hr, rfl, hd, hg⟩ | ⟨hr, rfl, hg⟩)
  case inr =>
    have H := hid hr
    have G := hid (wtr G1.out hg)
    clear hr hg
    go_wp2_with fail
    exact ⟨rfl, Or.inr ⟨rg3_two_no H1.out H.out, rfl, G.out⟩⟩
  have H3 := hid hr
  have l := LK.out
  have N3 := hid (bpush (bre w2) (.cells #[.int .i64 y, .int .i64 z] 74))
  have C3 := hid (hd.later N3.out)
  have R3 := hid ((R1.out.grown hg (by simp; omega)).later N3.out)
  have S3 := hid (Sg.new w2 74 y z)
  have G3 := hid (wtr (wtr G1.out hg) (World.grownBy_alloc w2 (.cells #[.int .i64 y, .int .i64 z] 74) (some k)))
  have d := R3.out.cells
  have f := R3.out.loose
  have d2 := S3.out.cells
  clear hr hd hg l R1 C1 G1 N3
  go_wp2
  have l := LK.out
  have d3 := (R3.out.set' (v' := x) (t' := y) (b' := z)).cells
  refine bodyPost_ret (v := .agg #[.int .i64 x, .int .i64 y, .int .i64 z]) (by simp [results, Tryz.results203, go_sem, d3]) rfl (Or.inl ⟨x, y, z, b3, rg3_two H1.out H3.out, rfl, ?_, ?_⟩)
  · exact ((C3.out.far _ (by omega)).far _ (by omega)).far _ (by omega)
  · exact wst_new (wst_new (wst_new G3.out (Nat.le_refl _) 0 _) (Nat.le_refl _) 1 _) (Nat.le_refl _) 2 _
theorem regr_ok (k : Nat) (s : ByteArray) (b x y z c : Int) (w : World) (hs : s.size ≤ 1048576) (hc : Dg w k s b) (h : rg3 s b = some ((x, y, z), c)) :
    Calls Tryz.prog 203 #[.pointer (some ⟨k, 0, none⟩)] w fun e w' => e = .returned (.agg #[.int .i64 x, .int .i64 y, .int .i64 z]) ∧ Dg w' k s c ∧ w.grownBy w' (some k) := by
  refine (regr_any k s b w hs hc).mono ?_
  rintro e w1 (⟨x', y', z', c', hr, rfl, hd, hg⟩ | ⟨hr, _⟩)
  · rw [h] at hr
    simp only [Option.some.injEq, Prod.mk.injEq] at hr
    obtain ⟨⟨rfl, rfl, rfl⟩, rfl⟩ := hr
    exact ⟨rfl, hd, hg⟩
  · rw [h] at hr; cases hr
theorem regr_no (k : Nat) (s : ByteArray) (b : Int) (w : World) (hs : s.size ≤ 1048576) (hc : Dg w k s b) (h : rg3 s b = none) :
    Calls Tryz.prog 203 #[.pointer (some ⟨k, 0, none⟩)] w fun e w' => e = .panicked notHere ∧ w.grownBy w' (some k) := by
  refine (regr_any k s b w hs hc).mono ?_
  rintro e w1 (⟨x', y', z', c', hr, _⟩ | ⟨_, rfl, hg⟩)
  · rw [h] at hr; cases hr
  · exact ⟨rfl, hg⟩
end Go.Proofs.YtlhofbnnonljaaaGreatDoor
