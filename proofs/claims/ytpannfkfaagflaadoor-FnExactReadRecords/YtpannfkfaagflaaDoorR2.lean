/- MailRd, MailCur, MailTrip, Crc, Sum, SpecSum, Four, Seal, SpecSeal, Dec, Strs, Ea, Eb. -/
import Derived.Test.YtpannfkfaagflaaDoorR1
namespace Go.Proofs.YtpannfkfaagflaaDoor
open Go.RowKit
def rd (s : ByteArray) (a : Int) : Option (Int × Int) :=
  if 0 ≤ a ∧ a ≤ s.size then (rv 5 (s.data.toList.drop a.toNat) 0 0).map fun p => ((p.1 : Int), a + (p.2 : Int)) else none
def rsh (s : ByteArray) (a : Int) : Option (ByteArray × Int) :=
  (rd s a).bind fun p => if p.1 ≤ 20000 ∧ p.2 + p.1 ≤ s.size then some (s.extract p.2.toNat (p.2 + p.1).toNat, p.2 + p.1) else none
def rshT (s : ByteArray) (a : Int) : Value := match rsh s a with
  | some p => .tuple #[.string p.1, .int .i64 p.2, .bool true]
  | none => .tuple #[.string ⟨#[]⟩, .int .i64 0, .bool false]
theorem rd_out {s : ByteArray} {a : Int} (h : a < 0 ∨ s.size < a) : rd s a = none := by unfold rd; rw [if_neg (by omega)]
theorem rd_in {s : ByteArray} {a : Nat} (h : a ≤ s.size) : rd s a = (rv 5 (s.data.toList.drop a) 0 0).map fun p => ((p.1 : Int), (a : Int) + (p.2 : Int)) := by
  unfold rd; rw [if_pos (by omega)]; rfl
theorem rd_some {s : ByteArray} {a n c : Int} (h : rd s a = some (n, c)) : 0 ≤ n ∧ n ≤ 1000000000 ∧ 0 ≤ a ∧ a ≤ c ∧ c ≤ s.size := by
  by_cases ha : 0 ≤ a ∧ a ≤ s.size
  · obtain ⟨k, rfl⟩ : ∃ k : Nat, a = k := ⟨a.toNat, by omega⟩
    rw [rd_in (by omega)] at h
    cases hr : rv 5 (s.data.toList.drop k) 0 0 with
    | none => rw [hr] at h; cases h
    | some p =>
      obtain ⟨m, d⟩ := p
      rw [hr] at h
      simp only [Option.map_some, Option.some.injEq, Prod.mk.injEq] at h
      have := rv_place (by omega) hr
      omega
  · rw [rd_out (by omega)] at h; cases h
/-- The three ways in which a short text is read. -/
theorem rsh_ways (s : ByteArray) (a : Int) :
    (((a < 0 ∨ s.size < a) ∨ (0 ≤ a ∧ a ≤ s.size ∧ rv 5 (s.data.toList.drop a.toNat) 0 0 = none)) ∧ rshT s a = .tuple #[.string ⟨#[]⟩, .int .i64 0, .bool false]) ∨
    (∃ k n d : Nat, a = k ∧ k ≤ s.size ∧ rv 5 (s.data.toList.drop k) 0 0 = some (n, d) ∧ (20000 < n ∨ s.size < k + d + n) ∧ rshT s a = .tuple #[.string ⟨#[]⟩, .int .i64 0, .bool false]) ∨
    (∃ k n d : Nat, a = k ∧ k ≤ s.size ∧ rv 5 (s.data.toList.drop k) 0 0 = some (n, d) ∧ n ≤ 20000 ∧ k + d + n ≤ s.size ∧ rshT s a = .tuple #[.string (s.extract (k + d) (k + d + n)), .int .i64 (k + d + n : Nat), .bool true]) := by
  by_cases ha : 0 ≤ a ∧ a ≤ s.size
  · obtain ⟨k, rfl⟩ : ∃ k : Nat, a = k := ⟨a.toNat, by omega⟩
    have e := rd_in (s := s) (a := k) (by omega)
    cases hr : rv 5 (s.data.toList.drop k) 0 0 with
    | none =>
      rw [hr] at e
      exact Or.inl ⟨Or.inr ⟨by omega, by omega, by simpa using hr⟩, by unfold rshT rsh; rw [e]; rfl⟩
    | some p =>
      obtain ⟨n, d⟩ := p
      rw [hr] at e
      simp only [Option.map_some] at e
      by_cases h2 : n ≤ 20000 ∧ k + d + n ≤ s.size
      · refine Or.inr (Or.inr ⟨k, n, d, rfl, by omega, hr, h2.1, h2.2, ?_⟩)
        unfold rshT rsh
        rw [e]
        simp only [Option.bind_some]
        rw [if_pos (by omega)]
        have e1 : ((k : Int) + (d : Int)).toNat = k + d := by omega
        have e2 : ((k : Int) + (d : Int) + (n : Int)).toNat = k + d + n := by omega
        have e3 : (k : Int) + (d : Int) + (n : Int) = ((k + d + n : Nat) : Int) := by omega
        rw [e1, e2, e3]
      · refine Or.inr (Or.inl ⟨k, n, d, rfl, by omega, hr, by omega, ?_⟩)
        unfold rshT rsh
        rw [e]
        simp only [Option.bind_some]
        rw [if_neg (by omega)]
  · exact Or.inl ⟨Or.inl (by omega), by unfold rshT rsh; rw [rd_out (by omega)]; rfl⟩
theorem specRsh (s : ByteArray) (a : Int) (w : World) (hs : s.size ≤ 1048576) : Calls Tryd.prog 25 #[.string s, .int .i64 a] w fun e w' => e = .returned (rshT s a) ∧ Below w.heap.size w w' := by
  rcases rsh_ways s a with ⟨h, e⟩ | ⟨k, n, d, rfl, hk, hr, hb, e⟩ | ⟨k, n, d, rfl, hk, hr, h2, h3, e⟩
  · rw [e]; exact specRShort_no s a w hs h
  · rw [e]; exact specRShort_bad s k n d w hs hk hr hb
  · rw [e]; exact specRShort_yes s k n d w hs hk hr h2 h3
theorem implRsh (s : ByteArray) (a : Int) (w : World) (hs : s.size ≤ 1048576) : Calls Tryd.prog 26 #[.string s, .int .i64 a] w fun e w' => e = .returned (rshT s a) ∧ Below w.heap.size w w' := by
  rcases rsh_ways s a with ⟨h, e⟩ | ⟨k, n, d, rfl, hk, hr, hb, e⟩ | ⟨k, n, d, rfl, hk, hr, h2, h3, e⟩
  · rw [e]; exact implRShort_no s a w hs h
  · rw [e]; exact implRShort_bad s k n d w hs hk hr hb
  · rw [e]; exact implRShort_yes s k n d w hs hk hr h2 h3
theorem rsh_l (s : ByteArray) (b : Int) (hs : s.size ≤ 1048576) : ∃ (t : ByteArray) (c : Int) (ok : Bool), Hid ((ok = true ∧ rsh s b = some (t, c)) ∨ (ok = false ∧ rsh s b = none)) ∧ Hid (∀ w, Calls Tryd.prog 25 #[.string s, .int .i64 b] w fun e w' => e = .returned (.tuple #[.string t, .int .i64 c, .bool ok]) ∧ Below w.heap.size w w') := by
  have h := specRsh s b (hs := hs)
  unfold rshT at h
  cases hr : rsh s b with
  | none => rw [hr] at h; exact ⟨⟨#[]⟩, 0, false, Or.inr ⟨rfl, rfl⟩, h⟩
  | some p => rw [hr] at h; exact ⟨p.1, p.2, true, Or.inl ⟨rfl, rfl⟩, h⟩
/-- What is read as a number is the number's own bytes. -/
theorem rv_own : ∀ (f : Nat) (L p : List UInt8) (n d : Nat), (∀ b ∈ p, ¬ b.toNat < 128) → rv f L p.length (val p) = some (n, d) → vbs n = (p ++ L).take d ∧ d ≤ (p ++ L).length
  | 0, _, _, _, _, _, h => by simp [rv] at h
  | _ + 1, [], _, _, _, _, h => by simp [rv] at h
  | f + 1, c :: L, p, n, d, hp, h => by
    by_cases hc : c.toNat < 128
    · by_cases h2 : 1000000000 < val p + c.toNat % 128 * 128 ^ p.length ∨ (c.toNat = 0 ∧ 0 < p.length)
      · rw [rv_bad f _ _ c L hc h2] at h; cases h
      · rw [rv_good f _ _ c L hc h2] at h
        simp only [Option.some.injEq, Prod.mk.injEq] at h
        obtain ⟨rfl, rfl⟩ := h
        rw [← val_snoc, vbs_val p c hp hc (by
          by_cases hz : c.toNat = 0
          · left; exact List.eq_nil_of_length_eq_zero (by omega)
          · right; exact hz)]
        constructor
        · rw [show p ++ c :: L = (p ++ [c]) ++ L by simp, List.take_append_of_le_length (by simp), List.take_of_length_le (by simp)]
        · simp
    · rw [rv_more f _ _ c L hc] at h
      have e : rv f L (p ++ [c]).length (val (p ++ [c])) = some (n, d) := by rw [val_snoc, List.length_append]; exact h
      have := rv_own f L (p ++ [c]) n d (by intro b hb; rcases List.mem_append.1 hb with hb | hb; exact hp b hb; simp at hb; rw [hb]; exact hc) e
      simpa using this
/-- A text's bytes. -/
abbrev bl (s : ByteArray) : List UInt8 := s.data.toList
theorem bl_len (s : ByteArray) : (bl s).length = s.size := Array.length_toList
theorem bl_inj {s t : ByteArray} (h : bl s = bl t) : s = t := by cases s; cases t; simp only [ByteArray.mk.injEq]; exact Array.toList_inj.1 h
/-- What was read as a number stood there. -/
theorem rd_stood {s : ByteArray} {b n c : Int} (h : rd s b = some (n, c)) : (bl s).drop b.toNat = vbs n.toNat ++ (bl s).drop c.toNat := by
  have hb := rd_some h
  obtain ⟨k, rfl⟩ : ∃ k : Nat, b = k := ⟨b.toNat, by omega⟩
  rw [rd_in (by omega)] at h
  cases hr : rv 5 (s.data.toList.drop k) 0 0 with
  | none => rw [hr] at h; cases h
  | some p =>
    obtain ⟨m, d⟩ := p
    rw [hr] at h
    simp only [Option.map_some, Option.some.injEq, Prod.mk.injEq] at h
    obtain ⟨rfl, rfl⟩ := h
    have o := rv_own 5 _ [] m d (by simp) hr
    have e : ((k : Int) + (d : Int)).toNat = k + d := by omega
    rw [e, Int.toNat_natCast, Int.toNat_natCast, ← List.drop_drop, o.1, List.nil_append]
    exact (List.take_append_drop d _).symm
theorem rsh_stood {s t : ByteArray} {b c : Int} (h : rsh s b = some (t, c)) : (bl s).drop b.toNat = (vbs t.size ++ bl t) ++ (bl s).drop c.toNat ∧ 0 ≤ c ∧ c ≤ s.size := by
  unfold rsh at h
  cases hr : rd s b with
  | none => rw [hr] at h; cases h
  | some p =>
    obtain ⟨n, d⟩ := p
    rw [hr] at h
    simp only [Option.bind_some] at h
    split at h
    · next hc =>
      simp only [Option.some.injEq, Prod.mk.injEq] at h
      obtain ⟨rfl, rfl⟩ := h
      have hs := rd_some hr
      have e1 : (d + n).toNat = d.toNat + n.toNat := by omega
      have ht : (s.extract d.toNat (d + n).toNat).size = n.toNat := by rw [ByteArray.size_extract]; omega
      have hb : bl (s.extract d.toNat (d + n).toNat) = ((bl s).drop d.toNat).take n.toNat := by
        simp only [bl, ByteArray.data_extract, Array.toList_extract, List.extract_eq_take_drop]
        rw [e1, show d.toNat + n.toNat - d.toNat = n.toNat by omega]
      refine ⟨?_, by omega, by omega⟩
      rw [rd_stood hr, ht, hb, List.append_assoc, e1, ← List.drop_drop, List.take_append_drop]
    · cases h
end Go.Proofs.YtpannfkfaagflaaDoor
namespace Go.Proofs.YtpannfkfaagflaaDoor
def st (x : Nat) : Nat := if x % 2 = 1 then x / 2 ^^^ 3558460437 else x / 2
def st8 (x : Nat) : Nat := st (st (st (st (st (st (st (st x)))))))
def st4 (x : Nat) : Nat := st (st (st (st x)))
def smore (x : Nat) (l : List UInt8) : Nat := l.foldl (fun x b => st8 (x ^^^ b.toNat)) x
def tabW : List Nat := [0, 1166650509, 2333301018, 3466261911, 3189058079, 4221339282, 889615109, 1888477064, 3558460437, 2442158232, 1594529039, 444807554, 1779230218, 797264519, 3776954128, 2761298845]
def four (x : Nat) : Nat := x / 16 ^^^ tabW.getD (x % 16) 0
theorem st_lin (x y : Nat) : st (x ^^^ y) = st x ^^^ st y := by
  have hm := @Nat.xor_mod_two_eq_one x y
  have hd := @Nat.xor_div_two x y
  unfold st
  rw [hd]
  by_cases hx : x % 2 = 1 <;> by_cases hy : y % 2 = 1
  · rw [if_neg (by rw [hm]; simp [hx, hy]), if_pos hx, if_pos hy]
    rw [Nat.xor_assoc, Nat.xor_comm 3558460437 (y / 2 ^^^ 3558460437), Nat.xor_assoc, Nat.xor_self]; simp
  · rw [if_pos (by rw [hm]; simp [hx, hy]), if_pos hx, if_neg hy]
    rw [Nat.xor_assoc, Nat.xor_assoc, Nat.xor_comm (y / 2)]
  · rw [if_pos (by rw [hm]; simp [hx, hy]), if_neg hx, if_pos hy, Nat.xor_assoc]
  · rw [if_neg (by rw [hm]; simp [hx, hy]), if_neg hx, if_neg hy]
theorem st4_lin (x y : Nat) : st4 (x ^^^ y) = st4 x ^^^ st4 y := by
  unfold st4; rw [st_lin, st_lin, st_lin, st_lin]
theorem split16 (x : Nat) : x = (16 * (x / 16)) ^^^ (x % 16) := by
  apply Nat.eq_of_testBit_eq; intro i
  rw [Nat.testBit_xor, show (16 : Nat) = 2 ^ 4 from rfl, Nat.testBit_two_pow_mul, Nat.testBit_mod_two_pow, Nat.testBit_div_two_pow]
  by_cases h : i < 4
  · have h' : ¬ i ≥ 4 := by omega
    simp [h, h']
  · have h' : i ≥ 4 := by omega
    simp [h, h']
theorem st_even (q : Nat) : st (2 * q) = q := by unfold st; rw [if_neg (by omega)]; omega
theorem st4_16 (q : Nat) : st4 (16 * q) = q := by
  unfold st4
  rw [show 16 * q = 2 * (2 * (2 * (2 * q))) by omega, st_even, st_even, st_even, st_even]
theorem st4_tab : ∀ r : Fin 16, st4 r.val = tabW.getD r.val 0 := by decide
theorem st4_four (x : Nat) : st4 x = four x := by
  conv => lhs; rw [split16 x]
  rw [st4_lin, st4_16]
  unfold four
  rw [st4_tab ⟨x % 16, Nat.mod_lt _ (by omega)⟩]
theorem st8_four (x : Nat) : st8 x = four (four x) := by
  rw [← st4_four, ← st4_four]; rfl
theorem st_lt {x : Nat} (h : x < 4294967296) : st x < 4294967296 := by
  unfold st
  split
  · exact Nat.xor_lt_two_pow (n := 32) (by omega) (by omega)
  · omega
theorem st8_lt {x : Nat} (h : x < 4294967296) : st8 x < 4294967296 := by
  unfold st8; exact st_lt (st_lt (st_lt (st_lt (st_lt (st_lt (st_lt (st_lt h)))))))
theorem xor_byte_lt {x : Nat} (h : x < 4294967296) (b : UInt8) : x ^^^ b.toNat < 4294967296 := by
  have := b.toNat_lt
  exact Nat.xor_lt_two_pow (n := 32) (by omega) (by omega)
theorem smore_lt (l : List UInt8) : ∀ {x : Nat}, x < 4294967296 → smore x l < 4294967296 := by
  induction l with
  | nil => intro x h; exact h
  | cons b l ih => intro x h; exact ih (st8_lt (xor_byte_lt h b))
theorem smore_append (x : Nat) (l m : List UInt8) : smore x (l ++ m) = smore (smore x l) m := by
  unfold smore; rw [List.foldl_append]
def f4 (x : Nat) : List UInt8 := [UInt8.ofNat (x / 16777216), UInt8.ofNat (x / 65536), UInt8.ofNat (x / 256), UInt8.ofNat x]
theorem u8_of (n : Nat) : (UInt8.ofNat n).toNat = n % 256 := by simp
end Go.Proofs.YtpannfkfaagflaaDoor
namespace Go.Proofs.YtpannfkfaagflaaDoor
open Go.RowKit
/-- The program's table lies at its block. -/
def Nib (w : World) : Prop := ∀ i, i < 16 → w.cell? ⟨0, i, none⟩ = some (.int .u32 (tabW.getD i 0 : Nat))
theorem Nib.later {w w' : World} {B : Nat} (h : Nib w) (hb : Below B w w') (hB : 0 < B) : Nib w' := fun i hi => by
  rw [hb.cell (p := ⟨0, i, none⟩) hB]; exact h i hi
theorem tab_lt (i : Nat) (h : i < 16) : tabW.getD i 0 < 4294967296 := by
  have : ∀ r : Fin 16, tabW.getD r.val 0 < 4294967296 := by decide
  exact this ⟨i, h⟩
theorem four_lt {x : Nat} (h : x < 4294967296) : four x < 4294967296 := by
  have := tab_lt (x % 16) (Nat.mod_lt _ (by omega))
  exact Nat.xor_lt_two_pow (n := 32) (by omega) (by omega)
theorem four_any (x : Nat) (w : World) (hx : x < 4294967296) (hn : Nib w) :
    Calls Tryd.prog 36 #[.int .u32 (x : Int)] w fun e w' => e = .returned (.int .u32 (four x : Nat)) ∧ w = w' := by
  have hc := hn (x % 16) (Nat.mod_lt _ (by omega))
  clear hn
  go_enter Tryd.func36, Tryd.ntmps36
  go_wp2
  go_ret
  exact ⟨ret_int (by rw [show (x : Int) / 16 = ((x / 16 : Nat) : Int) from by omega]; exact u32_xor_nat _ _ (by omega) (tab_lt _ (Nat.mod_lt _ (by omega)))), rfl⟩
theorem smore_step (x : Nat) (s : ByteArray) (k : Nat) (h : k < s.size) : smore x (s.data.toList.take (k + 1)) = st8 (smore x (s.data.toList.take k) ^^^ s[k].toNat) := by
  rw [List.take_succ_eq_append_getElem (by rw [Array.length_toList]; exact h), smore_append]; rfl
theorem more_any (x : Nat) (s : ByteArray) (w : World) (hx : x < 4294967296) (hs : s.size ≤ 1048577) (hn : Nib w) :
    Calls Tryd.prog 34 #[.int .u32 (x : Int), .string s] w fun e w' => e = .returned (.int .u32 (smore x s.data.toList : Nat)) ∧ w = w' := by
  have HN := hide hn
  clear hn
  go_enter Tryd.func34, Tryd.ntmps34
  go_wp2
  go_loop [0, 8] (fun sv iv => ∃ (k y : Nat), k ≤ s.size ∧ y = smore x (s.data.toList.take k) ∧ sv = .int .u32 (y : Int) ∧ iv = .int .i64 (k : Int)) (fun _ iv => s.size - (intOf iv).toNat)
  case atStart => exact ⟨0, x, Nat.zero_le _, rfl, rfl, rfl⟩
  case round =>
    obtain ⟨k, y, hk, hy, rfl, rfl⟩ := hrel
    have hyl : y < 4294967296 := by rw [hy]; exact smore_lt _ hx
    have HY := hide hy
    clear hy
    by_cases hlt : k < s.size
    · obtain ⟨c, hcx⟩ : ∃ c : Nat, s[k].toNat = c := ⟨_, rfl⟩
      have hcb : c < 256 := by rw [← hcx]; exact s[k].toNat_lt
      have HC := hide hcx
      have hI : (0 : Int) ≤ (k : Int) ∧ (k : Int) < (s.size : Int) := by omega
      obtain ⟨z, hz⟩ : ∃ z : Nat, y ^^^ c = z := ⟨_, rfl⟩
      have hzl : z < 4294967296 := by rw [← hz]; exact Nat.xor_lt_two_pow (n := 32) (by omega) (by omega)
      have hxr : bits .xor .u32 (y : Int) (c : Int) = (z : Int) := by rw [u32_xor_nat y c hyl (by omega), hz]
      have HZ := hide hz
      clear hz
      go_wp2_with fail
      refine (four_any z _ hzl (unhide HN)).mono ?_; rintro e w' ⟨rfl, rfl⟩
      go_wp2_with fail
      refine (four_any (four z) _ (four_lt hzl) (unhide HN)).mono ?_; rintro e w' ⟨rfl, rfl⟩
      go_wp2
      go_round
      case rel => exact ⟨k + 1, four (four z), by omega, by rw [smore_step x s k hlt, ← unhide HY, unhide HC, unhide HZ, st8_four], rfl, by go_num⟩
      case measure => simp [intOf]; omega
    · go_wp2
      go_ret
      exact ⟨ret_int (by rw [unhide HY, List.take_of_length_le (by rw [Array.length_toList]; exact Nat.le_of_not_lt hlt)]), rfl⟩
theorem implMore_any (x : Nat) (s : ByteArray) (w : World) (hx : x < 4294967296) (hs : s.size ≤ 1048577) (hn : Nib w) :
    Calls Tryd.prog 29 #[.int .u32 (x : Int), .string s] w fun e w' => e = .returned (.int .u32 (smore x s.data.toList : Nat)) ∧ w = w' := by
  have HN := hide hn
  clear hn
  go_enter Tryd.func29, Tryd.ntmps29
  go_wp2_with fail
  refine (more_any x s _ hx hs (unhide HN)).mono ?_; rintro e w' ⟨rfl, rfl⟩
  go_wp2
  go_ret
  exact ⟨rfl, rfl⟩
theorem implOf_any (s : ByteArray) (w : World) (hs : s.size ≤ 1048577) (hn : Nib w) :
    Calls Tryd.prog 23 #[.string s] w fun e w' => e = .returned (.int .u32 (smore 4294967295 s.data.toList : Nat)) ∧ w = w' := by
  have HN := hide hn
  clear hn
  go_enter Tryd.func23, Tryd.ntmps23
  go_wp2_with fail
  refine (implMore_any 4294967295 s _ (by decide) hs (unhide HN)).mono ?_; rintro e w' ⟨rfl, rfl⟩
  go_wp2
  go_ret
  exact ⟨rfl, rfl⟩
def stN : Nat → Nat → Nat
  | 0, x => x
  | k + 1, x => st (stN k x)
theorem stN_lt : ∀ (k : Nat) {x : Nat}, x < 4294967296 → stN k x < 4294967296
  | 0, _, h => h
  | k + 1, _, h => st_lt (stN_lt k h)
theorem specMore_any (x : Nat) (s : ByteArray) (w : World) (hx : x < 4294967296) (hs : s.size ≤ 1048577) :
    Calls Tryd.prog 28 #[.int .u32 (x : Int), .string s] w fun e w' => e = .returned (.int .u32 (smore x s.data.toList : Nat)) ∧ w = w' := by
  go_enter Tryd.func28, Tryd.ntmps28
  go_wp2
  go_loop [0, 5] (fun sv iv => ∃ (k y : Nat), k ≤ s.size ∧ y = smore x (s.data.toList.take k) ∧ sv = .int .u32 (y : Int) ∧ iv = .int .i64 (k : Int)) (fun _ iv => s.size - (intOf iv).toNat)
  case atStart => exact ⟨0, x, Nat.zero_le _, rfl, rfl, rfl⟩
  case round =>
    obtain ⟨k, y, hk, hy, rfl, rfl⟩ := hrel
    have hyl : y < 4294967296 := by rw [hy]; exact smore_lt _ hx
    have HY := hide hy
    clear hy
    by_cases hlt : k < s.size
    · obtain ⟨c, hcx⟩ : ∃ c : Nat, s[k].toNat = c := ⟨_, rfl⟩
      have hcb : c < 256 := by rw [← hcx]; exact s[k].toNat_lt
      have HC := hide hcx
      have hI : (0 : Int) ≤ (k : Int) ∧ (k : Int) < (s.size : Int) := by omega
      obtain ⟨z, hz⟩ : ∃ z : Nat, y ^^^ c = z := ⟨_, rfl⟩
      have hzl : z < 4294967296 := by rw [← hz]; exact Nat.xor_lt_two_pow (n := 32) (by omega) (by omega)
      have hxr : bits .xor .u32 (y : Int) (c : Int) = (z : Int) := by rw [u32_xor_nat y c hyl (by omega), hz]
      have HZ := hide hz
      clear hz
      go_wp2
      go_loop [0, 6] (fun sv iv => ∃ (j v : Nat), j ≤ 8 ∧ v = stN j z ∧ sv = .int .u32 (v : Int) ∧ iv = .int .i64 (j : Int)) (fun _ iv => 8 - (intOf iv).toNat)
      case atStart => exact ⟨0, z, by omega, rfl, rfl, rfl⟩
      case round =>
        obtain ⟨j, v, hj, hv, rfl, rfl⟩ := hrel
        have hvl : v < 4294967296 := by rw [hv]; exact stN_lt j hzl
        have HV := hide hv
        clear hv
        by_cases hj8 : j < 8
        · obtain ⟨q, hq⟩ : ∃ q : Nat, v / 2 = q := ⟨_, rfl⟩
          have hqi : (v : Int) / 2 = (q : Int) := by omega
          have hql : q < 4294967296 := by omega
          have HQ := hide hq
          clear hq
          by_cases ho : v % 2 = 1
          · have hoi : ((v : Int) % 2 == 1) = true := by simp; omega
            obtain ⟨r, hr⟩ : ∃ r : Nat, q ^^^ 3558460437 = r := ⟨_, rfl⟩
            have hri : bits .xor .u32 (q : Int) 3558460437 = (r : Int) := by rw [← hr]; exact u32_xor_nat q 3558460437 hql (by omega)
            have HR := hide hr
            have HO := hide ho
            clear hr ho
            go_wp2
            go_round
            case rel => exact ⟨j + 1, r, by omega, by rw [stN, ← unhide HV, st, if_pos (unhide HO), unhide HQ, unhide HR], rfl, by go_num⟩
            case measure => simp [intOf]; omega
          · have hoi : ((v : Int) % 2 == 1) = false := by simp; omega
            have HO := hide ho
            clear ho
            go_wp2
            go_round
            case rel => exact ⟨j + 1, q, by omega, by rw [stN, ← unhide HV, st, if_neg (unhide HO), unhide HQ], rfl, by go_num⟩
            case measure => simp [intOf]; omega
        · have hj' : j = 8 := by omega
          subst hj'
          go_wp2
          go_round
          case rel => exact ⟨k + 1, v, by omega, by rw [smore_step x s k hlt, ← unhide HY, unhide HC, unhide HZ, unhide HV]; rfl, rfl, by go_num⟩
          case measure => simp [intOf]; omega
    · go_wp2
      go_ret
      exact ⟨ret_int (by rw [unhide HY, List.take_of_length_le (by rw [Array.length_toList]; exact Nat.le_of_not_lt hlt)]), rfl⟩
theorem specOf_any (s : ByteArray) (w : World) (hs : s.size ≤ 1048577) :
    Calls Tryd.prog 21 #[.string s] w fun e w' => e = .returned (.int .u32 (smore 4294967295 s.data.toList : Nat)) ∧ w = w' := by
  go_enter Tryd.func21, Tryd.ntmps21
  go_wp2_with fail
  refine (specMore_any 4294967295 s _ (by decide) hs).mono ?_; rintro e w' ⟨rfl, rfl⟩
  go_wp2
  go_ret
  exact ⟨rfl, rfl⟩
theorem f4_conv (x : Nat) (w : World) (hx : x < 4294967296) :
    (convert 37 9 (.slice (some ⟨w.heap.size, 0, none⟩) 4 4)).run Tryd.prog (w.alloc (.cells #[.int .u8 ((x : Int) / 16777216), .int .u8 ((x : Int) / 65536 % 256), .int .u8 ((x : Int) / 256 % 256), .int .u8 ((x : Int) % 256)] 5)) = .ok (.string ⟨(f4 x).toArray⟩) (w.alloc (.cells #[.int .u8 ((x : Int) / 16777216), .int .u8 ((x : Int) / 65536 % 256), .int .u8 ((x : Int) / 256 % 256), .int .u8 ((x : Int) % 256)] 5)) := by
  refine run_convert_bytes_back (P := Tryd.prog) _ 37 9 5 ⟨w.heap.size, 0, none⟩ 4 (f4 x) Tryd.underlying37 Tryd.underlying5 Tryd.underlying9 (fun j hj => ?_)
  have hj' : j < 4 := hj
  have key : ∀ (i : Nat) (v : Value), (#[.int .u8 ((x : Int) / 16777216), .int .u8 ((x : Int) / 65536 % 256), .int .u8 ((x : Int) / 256 % 256), .int .u8 ((x : Int) % 256)] : Array Value)[i]? = some v →
      (w.alloc (.cells #[.int .u8 ((x : Int) / 16777216), .int .u8 ((x : Int) / 65536 % 256), .int .u8 ((x : Int) / 256 % 256), .int .u8 ((x : Int) % 256)] 5)).cell? ((⟨w.heap.size, 0, none⟩ : Addr).add i) = some v := by
    intro i v h
    rw [show (⟨w.heap.size, 0, none⟩ : Addr).add i = ⟨w.heap.size, i, none⟩ from by by_cases h0 : i = 0 <;> simp [Addr.add, h0]]
    rw [cell_of_row _ w.heap.size i _ _ (0, 0) (heap_alloc_new w _)]
    exact h
  match j, hj' with
  | 0, _ => exact key 0 _ (congrArg some (congrArg (Value.int .u8) (by show (x : Int) / 16777216 = ((UInt8.ofNat (x / 16777216)).toNat : Nat); rw [u8_of]; omega)))
  | 1, _ => exact key 1 _ (congrArg some (congrArg (Value.int .u8) (by show (x : Int) / 65536 % 256 = ((UInt8.ofNat (x / 65536)).toNat : Nat); rw [u8_of]; omega)))
  | 2, _ => exact key 2 _ (congrArg some (congrArg (Value.int .u8) (by show (x : Int) / 256 % 256 = ((UInt8.ofNat (x / 256)).toNat : Nat); rw [u8_of]; omega)))
  | 3, _ => exact key 3 _ (congrArg some (congrArg (Value.int .u8) (by show (x : Int) % 256 = ((UInt8.ofNat x).toNat : Nat); rw [u8_of]; omega)))
theorem implBytes_any (x : Nat) (w : World) (hx : x < 4294967296) :
    Calls Tryd.prog 24 #[.int .u32 (x : Int)] w fun e w' => e = .returned (.string ⟨(f4 x).toArray⟩) ∧ Below w.heap.size w w' := by
  have hcv := f4_conv x w hx
  go_enter Tryd.func24, Tryd.ntmps24
  go_wp2
  go_ret
  exact ⟨rfl, (Below.refl _ _).alloc (Nat.le_refl _) _⟩
/-- The sum of a text. -/
def sof (s : ByteArray) : Nat := smore 4294967295 s.data.toList
theorem sof_lt (s : ByteArray) : sof s < 4294967296 := smore_lt _ (by decide)
/-- The four bytes of its sum. -/
def tail4 (s : ByteArray) : ByteArray := ⟨(f4 (sof s)).toArray⟩
theorem tail4_size (s : ByteArray) : (tail4 s).size = 4 := rfl
theorem implSealed_yes (s : ByteArray) (w : World) (hs : s.size ≤ 20000) (hn : Nib w) :
    Calls Tryd.prog 16 #[.string s] w fun e w' => e = .returned (.tuple #[.string (s ++ tail4 s), .bool true]) ∧ Below w.heap.size w w' := by
  have HN := hide hn
  clear hn
  have hz := tail4_size s
  go_enter Tryd.func16, Tryd.ntmps16
  go_wp2_with fail
  refine (implOf_any s _ (by omega) (unhide HN)).mono ?_; rintro e w1 ⟨rfl, rfl⟩
  go_wp2_with fail
  refine (implBytes_any (sof s) _ (sof_lt s)).mono ?_; rintro e w1 ⟨he, hb1⟩
  obtain rfl : e = .returned (.string (tail4 s)) := he
  go_wp2
  go_ret2
  exact ⟨rfl, hb1⟩
theorem Nib.drew {w : World} (h : Nib w) : Nib w.drew := h
theorem specFour_any (x : Nat) (w : World) (hx : x < 4294967296) :
    Calls Tryd.prog 20 #[.int .u32 (x : Int)] w fun e w' => e = .returned (.string ⟨(f4 x).toArray⟩) ∧ Below w.heap.size w w' := by
  have hcv := f4_conv x w hx
  go_enter Tryd.func20, Tryd.ntmps20
  go_wp2
  go_ret
  exact ⟨rfl, (Below.refl _ _).alloc (Nat.le_refl _) _⟩
theorem specSealed_yes (s : ByteArray) (w : World) (hs : s.size ≤ 20000) :
    Calls Tryd.prog 13 #[.string s] w fun e w' => e = .returned (.tuple #[.string (s ++ tail4 s), .bool true]) ∧ Below w.heap.size w w' := by
  have hz := tail4_size s
  go_enter Tryd.func13, Tryd.ntmps13
  go_wp2_with fail
  refine (specOf_any s _ (by omega)).mono ?_; rintro e w1 ⟨rfl, rfl⟩
  go_wp2_with fail
  refine (specFour_any (sof s) _ (sof_lt s)).mono ?_; rintro e w1 ⟨he, hb1⟩
  obtain rfl : e = .returned (.string (tail4 s)) := he
  go_wp2
  go_ret2
  exact ⟨rfl, hb1⟩
/-- Decimal figures of a number: the library's own word for them. -/
def dg (n : Nat) : List UInt8 := Lib.decDigits n
theorem dg_small (n : Nat) (h : n < 10) : dg n = [UInt8.ofNat (48 + n)] := by unfold dg; rw [Lib.decDigits, dif_pos h]
theorem dg_big (n : Nat) (h : ¬ n < 10) : dg n = dg (n / 10) ++ [UInt8.ofNat (48 + n % 10)] := by unfold dg; rw [Lib.decDigits, dif_neg h]
theorem dg_len : ∀ (k n : Nat), n < 10 ^ (k + 1) → (dg n).length ≤ k + 1
  | 0, n, h => by rw [dg_small n (by simpa using h)]; simp
  | k + 1, n, h => by
    by_cases hn : n < 10
    · rw [dg_small n hn]; simp
    · rw [dg_big n hn]
      have := dg_len k (n / 10) (by rw [Nat.pow_succ] at h; omega)
      simp; omega
/-- The figures of what is left, nothing of 0. -/
def dgz (n : Nat) : List UInt8 := if n = 0 then [] else dg n
theorem dgz_zero : dgz 0 = [] := rfl
theorem dgz_pos (n : Nat) (h : n ≠ 0) : dgz n = dg n := by simp [dgz, h]
theorem dgz_step (m : Nat) (h : m ≠ 0) : dgz m = dgz (m / 10) ++ [UInt8.ofNat (48 + m % 10)] := by
  rw [dgz_pos m h]
  by_cases h1 : m < 10
  · rw [dg_small m h1, show m / 10 = 0 by omega, dgz_zero, show m % 10 = m by omega]; rfl
  · rw [dg_big m h1, dgz_pos _ (by omega)]
theorem u8_48 (x : Nat) (h : x < 10) : ((UInt8.ofNat (48 + x)).toNat : Int) = 48 + (x : Int) := by rw [u8_nat _ (by omega)]; omega
theorem run_one (b : UInt8) (w : World) : (convert 37 9 (.slice (some ⟨w.heap.size, 0, none⟩) 1 1)).run Tryd.prog (w.alloc (.cells #[.int .u8 (b.toNat : Int)] 5)) = .ok (.string ⟨#[b]⟩) (w.alloc (.cells #[.int .u8 (b.toNat : Int)] 5)) :=
  run_string_own (P := Tryd.prog) _ 37 9 5 Tryd.underlying37 Tryd.underlying5 Tryd.underlying9 [b] (World.ownsRow_lit (base := 0) w #[bv b] 1 (Nat.zero_le _) (by decide) rfl)
theorem ba_cons (b : UInt8) (t : List UInt8) : (⟨#[b]⟩ ++ ⟨t.toArray⟩ : ByteArray) = ⟨(b :: t).toArray⟩ := by
  apply ByteArray.ext
  rw [ByteArray.data_append]
  simp
theorem Tryd.info9 : (Tryd.prog.info? 9).map (fun i => (i.zero, i.size, i.bytes)) = some (some (.string ⟨#[]⟩), 1, 16) := by kernel_rfl
/-- A text as a value. -/
def sv (l : List UInt8) : Value := .string ⟨l.toArray⟩
/-- One text appended to a row of texts that the call owns: the text lies in a block of its own, laid just ahead. -/
theorem wpList_append_str {P : Program} (w : World) {ops : Array Oper} {rest : List Oper} {o : Oper} {a : Act} {Q : Exit → Act → World → Prop} (hgd : o.guard = none) (s x : Operand) (t : TypeId)
    (ho : o.op = .call { callee := .builtin .append, args := #[s, x], argTypes := #[t, t] })
    (base : Nat) (e : TypeId) (hinfo : (P.info? e).map (fun i => (i.zero, i.size, i.bytes)) = some (some (.string ⟨#[]⟩), 1, 16)) (ht : P.underlying t = some (.slice e))
    (v : Value) (xs : List (List UInt8)) (hs : a.eval s = v) (hown : w.ownsRow base e 1 v xs.length (xs.map sv)) (n : ByteArray) (b : List UInt8) (hb : n = ⟨b.toArray⟩)
    (hx : a.eval x = .slice (some ⟨w.heap.size, 0, none⟩) 1 1) (hlen : xs.length ≤ 1000000) (hbase : base ≤ w.heap.size)
    (h : ∀ v' w', w'.ownsRow base e 1 v' (xs ++ [b]).length ((xs ++ [b]).map sv) → Below base w w' → wpList P ops Q rest (a.put o.dst v') w') :
    wpList P ops Q (o :: rest) a (w.alloc (.cells #[.string n] e)) := by
  obtain ⟨i0, hi, hz0, hz1, hz2⟩ := info_parts hinfo
  subst hb
  refine wpList_append_own _ hgd s x t ho base e i0 (.string ⟨#[]⟩) 1 16 ht hi hz0 hz1 hz2 rfl (by decide) v _ _ hs (hown.alloc _) ⟨w.heap.size, 0, none⟩ 1 1 [sv b] hx rfl (cell_one_new _ _ _) (by intro u hu; simp at hu; subst hu; rfl) (by unfold maxLen; omega) (by omega) (by simp; omega) ?_
  intro v' w' hown' hg _
  refine h v' w' (by simpa using hown') (((Below.refl base w).alloc hbase _).grown hg (by simp; omega) (fun k hk => (hown.lt k hk).1))
set_option maxHeartbeats 400000 in
set_option maxRecDepth 100000 in
/-- Two rows of the same texts are told alike. -/
theorem eqS_any (ao bo : Option Addr) (n ca cb ga gb : Nat) (xs : List (List UInt8)) (w : World) (hn : xs.length = n) (hnm : n ≤ 1000000)
    (ha : 0 < n → ao = some ⟨ga, 0, none⟩) (hb : 0 < n → bo = some ⟨gb, 0, none⟩)
    (hca : ∀ i (h : i < xs.length), w.cell? ⟨ga, i, none⟩ = some (sv xs[i])) (hcb : ∀ i (h : i < xs.length), w.cell? ⟨gb, i, none⟩ = some (sv xs[i])) :
    Calls Tryd.prog 9 #[.slice ao n ca, .slice bo n cb] w fun e w' => e = .returned (.bool true) ∧ ∃ k, w' = w.drewN k := by
  have hnn : ((n : Int) != (n : Int)) = false := by simp
  have HA := hide ha
  have HB := hide hb
  have HCA := hide hca
  have HCB := hide hcb
  have HN := hide hn
  clear ha hb hca hcb hn
  go_enter Tryd.func9, Tryd.ntmps9
  go_wp2
  go_loopw [5] (fun iv wr => ∃ i k : Nat, i ≤ n ∧ iv = .int .i64 (i : Int) ∧ wr = w.drewN k) (fun iv _ => n - (intOf iv).toNat)
  case atStart => exact ⟨0, 0, Nat.zero_le _, rfl, rfl⟩
  case round =>
    obtain ⟨i, k, hi, rfl, rfl⟩ := hrel
    clear hnn
    by_cases hlt : i < n
    · obtain rfl := unhide HA (by omega)
      obtain rfl := unhide HB (by omega)
      have hx : i < xs.length := by rw [unhide HN]; exact hlt
      obtain ⟨z, hz⟩ : ∃ z, z = (⟨xs[i].toArray⟩ : ByteArray) := ⟨_, rfl⟩
      have c1 : w.cell? ⟨ga, i, none⟩ = some (.string z) := by rw [unhide HCA i hx, hz]; rfl
      have c2 : w.cell? ⟨gb, i, none⟩ = some (.string z) := by rw [unhide HCB i hx, hz]; rfl
      have hI : (0 : Int) ≤ (i : Int) ∧ (i : Int) < (n : Int) := by omega
      have hzz : (!z.toList == z.toList) = false := by simp
      clear hz
      go_wp2_with fail
      go_quiet (fail)
      go_wp2
      go_roundw
      case rel => exact ⟨i + 1, _, by omega, by go_num, rfl⟩
      case measure => simp [intOf]; omega
    · go_wp2
      go_ret
      exact ⟨rfl, k, rfl⟩
/-- The mark of number k. -/
def mk (k : Nat) : List UInt8 := 109 :: dg k
set_option maxHeartbeats 400000 in
theorem markText_any (k : Nat) (w : World) (hk : 0 < k) (hk2 : k ≤ 1000000) :
    Calls Tryd.prog 19 #[.int .i64 k] w fun e w' => e = .returned (sv (mk k)) ∧ Below w.heap.size w w' := by
  have hl := dg_len 7 k (by omega)
  have hk0 : k ≠ 0 := by omega
  go_enter Tryd.func19, Tryd.ntmps19
  go_wp2
  go_loopw [0, 3] (fun nv tv wr => ∃ (m : Nat) (t : List UInt8), nv = .int .i64 (m : Int) ∧ tv = .string ⟨t.toArray⟩ ∧ m ≤ k ∧ dgz m ++ t = dg k ∧ Below w.heap.size w wr) (fun nv _ _ => (intOf nv).toNat)
  case atStart => exact ⟨k, [], rfl, rfl, Nat.le_refl _, by rw [dgz_pos k hk0]; simp, Below.refl _ _⟩
  case round =>
    obtain ⟨m, t, rfl, rfl, hm, ht, hb⟩ := hrel
    have hsz := hb.size
    have htl : t.length ≤ 8 := by have := congrArg List.length ht; simp at this; omega
    have HT := hide ht
    clear ht hl hk0
    by_cases hz : 0 < m
    · obtain ⟨d, hd⟩ : ∃ d : Nat, m % 10 = d := ⟨_, rfl⟩
      have hdi : (m : Int) % 10 = (d : Int) := by omega
      have hdb : d < 10 := by omega
      have HD := hide hd
      obtain ⟨b, hbb⟩ : ∃ b, b = UInt8.ofNat (48 + d) := ⟨_, rfl⟩
      have hbi : (48 : Int) + (d : Int) = (b.toNat : Int) := by rw [hbb, u8_48 d hdb]
      have HBB := hide hbb
      have hone := run_one b wr
      clear hd hbb
      go_wp2
      go_roundw
      case rel => exact ⟨m / 10, b :: t, by go_num, by rw [ba_cons], by omega, by rw [← unhide HT, dgz_step m (by omega), unhide HD, ← unhide HBB]; simp, hb.alloc hsz _⟩
      case measure => simp [intOf]; omega
    · have HZ : Hid (m = 0) := by show m = 0; omega
      go_wp2
      go_ret
      exact ⟨ret_str (by rw [ba_cons, mk, ← unhide HT, unhide HZ]; rfl), hb⟩
/-- The marks from k on, n of them. -/
def marks (k n : Nat) : List (List UInt8) := (List.range n).map fun i => mk (k + i)
theorem marks_len (k n : Nat) : (marks k n).length = n := by simp [marks]
theorem marks_at (k n i : Nat) (h : i < n) : (marks k n)[i]? = some (mk (k + i)) := by simp [marks, h]
set_option maxHeartbeats 400000 in
set_option maxRecDepth 100000 in
theorem markS_any (B g n cap k : Nat) (xs : List Value) (w : World) (hown : w.ownsRow B 9 1 (.slice (some ⟨g, 0, none⟩) n cap) n xs) (hk : 0 < k) (hkn : k + n ≤ 1000000) (hB : B ≤ g) :
    Calls Tryd.prog 10 #[.slice (some ⟨g, 0, none⟩) n cap, .int .i64 k] w fun e w' => e = .returned (.int .i64 (k + n : Nat)) ∧ w'.ownsRow B 9 1 (.slice (some ⟨g, 0, none⟩) n cap) n ((marks k n).map sv) ∧ Below B w w' := by
  have hgl := (hown.lt g rfl).2
  have HO := hide hown
  clear hown
  go_enter Tryd.func10, Tryd.ntmps10
  go_wp2
  go_loopw [1, 5] (fun kv iv wr => ∃ (i : Nat) (ys : List Value), i ≤ n ∧ kv = .int .i64 ((k + i : Nat) : Int) ∧ iv = .int .i64 (i : Int) ∧ wr.ownsRow B 9 1 (.slice (some ⟨g, 0, none⟩) n cap) n ys ∧ (∀ j, j < i → ys[j]? = some (sv (mk (k + j)))) ∧ Below B w wr) (fun _ iv _ => n - (intOf iv).toNat)
  case atStart => exact ⟨0, xs, Nat.zero_le _, rfl, rfl, unhide HO, by intro j hj; omega, Below.refl _ _⟩
  case round =>
    obtain ⟨i, ys, hi, rfl, rfl, hown, hys, hb⟩ := hrel
    have hyl : ys.length = n := by have := hown.1; simpa using this
    have HY := hide hys
    have HYL := hide hyl
    clear hys hyl
    have hsz := hb.size
    by_cases hlt : i < n
    · have hgr := (hown.lt g rfl).2
      have HOW := hide hown
      clear hown
      go_wp2_with fail
      refine (markText_any (k + i) _ (by omega) (by omega)).mono ?_; rintro e w1 ⟨rfl, hb1⟩
      have hown1 := own_later (unhide HOW) hb1
      have hil : i < ys.length := by rw [unhide HYL]; exact hlt
      obtain ⟨y, hy⟩ : ∃ y, ys[i] = y := ⟨_, rfl⟩
      have hc : w1.cell? ⟨g, i, none⟩ = some y := by rw [hown1.cellAt i (by omega), List.getElem?_eq_getElem hil, hy]
      have hf := hown1.frozenAt i
      have hst := hown1.stored i (sv (mk (k + i)))
      have hset : ∀ j, j < i + 1 → (ys.set i (sv (mk (k + i))))[j]? = some (sv (mk (k + j))) := by
        intro j hj
        by_cases hji : j = i
        · subst hji; rw [List.getElem?_set_self hil]
        · rw [List.getElem?_set_ne (Ne.symm hji)]; exact unhide HY j (by omega)
      have HST := hide hst
      have HSET := hide hset
      have HB1 := hide hb1
      clear hy hst hset hown1 hb1
      obtain ⟨u, hu⟩ : ∃ u : ByteArray, (⟨(mk (k + i)).toArray⟩ : ByteArray) = u := ⟨_, rfl⟩
      have e1 : sv (mk (k + i)) = .string u := by rw [← hu]; rfl
      have HU := hide e1
      rw [e1]
      clear hu e1
      go_wp2
      go_roundw
      case rel => exact ⟨i + 1, _, by omega, by go_num, by go_num, by rw [← unhide HU]; exact (unhide HST).1, unhide HSET, (hb.trans ((unhide HB1).mono (by omega))).setCell hB _⟩
      case measure => simp [intOf]; omega
    · have hin : i = n := by omega
      have hys : ys = (marks k n).map sv := by
        apply List.ext_getElem?
        intro j
        by_cases hj : j < n
        · rw [unhide HY j (by omega), List.getElem?_map, marks_at k n j hj]; rfl
        · rw [List.getElem?_eq_none (by rw [unhide HYL]; omega), List.getElem?_eq_none (by rw [List.length_map, marks_len]; omega)]
      have HYS := hide hys
      have HIN := hide hin
      clear hys hin
      go_wp2
      go_ret
      exact ⟨ret_int (by have := unhide HIN; omega), by rw [← unhide HYS]; exact hown, hb⟩
set_option maxHeartbeats 400000 in
set_option maxRecDepth 100000 in
theorem heldS_any (B g n cap k : Nat) (w : World) (hown : w.ownsRow B 9 1 (.slice (some ⟨g, 0, none⟩) n cap) n ((marks k n).map sv)) (hk : 0 < k) (hkn : k + n ≤ 1000000) :
    Calls Tryd.prog 11 #[.slice (some ⟨g, 0, none⟩) n cap, .int .i64 k] w fun e w' => e = .returned (.int .i64 (k + n : Nat)) ∧ Below w.heap.size w w' := by
  have hgl := (hown.lt g rfl).2
  have HO := hide hown
  clear hown
  go_enter Tryd.func11, Tryd.ntmps11
  go_wp2
  go_loopw [1, 5] (fun kv iv wr => ∃ i : Nat, i ≤ n ∧ kv = .int .i64 ((k + i : Nat) : Int) ∧ iv = .int .i64 (i : Int) ∧ Below w.heap.size w wr) (fun _ iv _ => n - (intOf iv).toNat)
  case atStart => exact ⟨0, Nat.zero_le _, rfl, rfl, Below.refl _ _⟩
  case round =>
    obtain ⟨i, hi, rfl, rfl, hb⟩ := hrel
    have hsz := hb.size
    by_cases hlt : i < n
    · obtain ⟨u, hu⟩ : ∃ u : ByteArray, (⟨(mk (k + i)).toArray⟩ : ByteArray) = u := ⟨_, rfl⟩
      have e1 : sv (mk (k + i)) = .string u := by rw [← hu]; rfl
      have hc : wr.cell? ⟨g, i, none⟩ = some (.string u) := by
        rw [hb.cell (p := ⟨g, i, none⟩) hgl, (unhide HO).cellAt i (by omega), List.getElem?_map, marks_at k n i hlt, ← e1]; rfl
      have hm : ∀ W : World, wr.heap.size ≤ W.heap.size → Calls Tryd.prog 19 #[.int .i64 ((k : Int) + (i : Int))] W fun e w' => e = .returned (.string u) ∧ Below wr.heap.size W w' := fun W hW => by
        have := (markText_any (k + i) W (by omega) (by omega)).mono (fun e w' h => (⟨h.1, h.2.mono hW⟩ : e = .returned (sv (mk (k + i))) ∧ Below wr.heap.size W w'))
        rw [e1] at this
        simpa using this
      have HM := hide hm
      have hI : (0 : Int) ≤ (i : Int) ∧ (i : Int) < (n : Int) := by omega
      have hgr : g < wr.heap.size := by omega
      have HGR := hide hgr
      have huu : (!u.toList == u.toList) = false := by simp
      clear hu e1 hm hgr
      go_wp2_with fail
      go_region_held3 (fun W => W.cell? ⟨g, i, none⟩ = some (.string u))
        (first
          | exact hc
          | exact (Below.cell (B := wr.heap.size) (w := wr.drew) (by assumption) (p := ⟨g, i, none⟩) (unhide HGR)).trans hc)
        ((go_at_call 19; refine (unhide HM _ (by exact Nat.le_refl _)).mono ?_; rintro e w1 ⟨rfl, hb1⟩))
      go_wp2
      go_roundw
      case rel => exact ⟨i + 1, by omega, by go_num, by go_num, (hb.drew).trans (hb1.mono hsz)⟩
      case measure => simp [intOf]; omega
    · have hin : i = n := by omega
      have HIN := hide hin
      clear hin
      go_wp2
      go_ret
      exact ⟨ret_int (by have := unhide HIN; omega), hb⟩
/-- A record. -/
def rtx (t : ByteArray) : ByteArray := (vi t.size ++ t) ++ tail4 (vi t.size ++ t)
def rtOk (t : ByteArray) : Bool := decide (1 ≤ t.size ∧ t.size ≤ 6000)
/-- What RecordText answers. -/
def rtR (t : ByteArray) : Value := if rtOk t = true then .tuple #[.string (rtx t), .bool true] else .tuple #[.string ⟨#[]⟩, .bool false]
theorem vi_5 (n : Nat) (h : n ≤ 6000) : (vi n).size ≤ 2 := by
  have h2 : (vi n).size = (vbs n).length := by show (vbs ((n : Int).toNat)).toArray.size = _; simp
  rw [h2]
  by_cases h1 : 127 < n
  · rw [vbs_big _ h1, List.length_cons, vbs_small _ (by omega)]
    exact Nat.le_refl 2
  · rw [vbs_small _ h1]
    exact Nat.le_succ 1
set_option maxHeartbeats 400000 in
set_option maxRecDepth 100000 in
theorem specRecord_any (t : ByteArray) (w : World) (ht : t.size ≤ 1048576) :
    Calls Tryd.prog 5 #[.string t] w fun e w' => e = .returned (rtR t) ∧ Below w.heap.size w w' := by
  by_cases h : 1 ≤ t.size ∧ t.size ≤ 6000
  · have HA : Hid (rtR t = .tuple #[.string (rtx t), .bool true]) := hid (if_pos (by simpa [rtOk] using h))
    have C1 := hid (fun (W : World) => l01In_yes (t.size : Int) 1 6000 W (by omega) (by omega))
    obtain ⟨x, hx, hz, CV⟩ := var_s (t.size : Int) (by omega) (by omega)
    have hz2 : x.size ≤ 2 := by rw [hx.out]; exact vi_5 _ h.2
    have hs : x.size + t.size ≤ 6002 := by omega
    have CS := hid (fun (W : World) => specSealed_yes (x ++ t) W (by rw [ByteArray.size_append]; omega))
    clear h ht hz hz2
    rw [HA.out]
    go_enter Tryd.func5, Tryd.ntmps5
    go_wp2_with fail
    refine (C1.out _).mono ?_; rintro e w1 ⟨rfl, rfl⟩
    go_wp2_with fail
    refine (CV.out _).mono ?_; rintro e w1 ⟨rfl, hb1⟩
    have B1 := hid hb1
    clear hb1
    go_wp2_with fail
    refine (CS.out _).mono ?_; rintro e w2 ⟨rfl, hb2⟩
    have B2 := hid (btr B1.out hb2)
    clear hb2
    go_wp2
    refine bodyPost_ret (v := .tuple #[.string ((x ++ t) ++ tail4 (x ++ t)), .bool true]) (by simp [results, Tryd.results5, go_sem]) rfl ⟨?_, B2.out⟩
    rw [hx.out]
    rfl
  · have HA : Hid (rtR t = .tuple #[.string ⟨#[]⟩, .bool false]) := hid (if_neg (by simpa [rtOk] using h))
    have C1 := hid (fun (W : World) => l01In_no (t.size : Int) 1 6000 W (by omega))
    clear h ht
    rw [HA.out]
    go_enter Tryd.func5, Tryd.ntmps5
    go_wp2_with fail
    refine (C1.out _).mono ?_; rintro e w1 ⟨rfl, rfl⟩
    go_wp2
    exact bodyPost_ret (v := .tuple #[.string ⟨#[]⟩, .bool false]) (by simp [results, Tryd.results5, go_sem]) rfl ⟨rfl, bre _⟩
/-- The record that stands at a place: its text, and the place behind it. -/
def rrd (j : ByteArray) (a : Int) : Option (ByteArray × Int) :=
  (rsh j a).bind fun p => if p.2 + 4 ≤ (j.size : Int) ∧ rtOk p.1 = true ∧ rtx p.1 = j.extract a.toNat (p.2 + 4).toNat then some (p.1, p.2 + 4) else none
def rrR (j : ByteArray) (a : Int) : Value := match rrd j a with
  | some p => .tuple #[.string p.1, .int .i64 p.2, .bool true]
  | none => .tuple #[.string ⟨#[]⟩, .int .i64 0, .bool false]
theorem rsh_in {s : ByteArray} {a : Int} {t : ByteArray} {c : Int} (h : rsh s a = some (t, c)) : 0 ≤ a ∧ a ≤ c ∧ c ≤ s.size ∧ t.size ≤ 20000 := by
  unfold rsh at h
  cases hr : rd s a with
  | none => rw [hr] at h; cases h
  | some p =>
    obtain ⟨n, d⟩ := p
    rw [hr] at h
    simp only [Option.bind_some] at h
    have h1 := rd_some hr
    split at h
    · simp only [Option.some.injEq, Prod.mk.injEq] at h
      obtain ⟨rfl, rfl⟩ := h
      rw [ByteArray.size_extract]
      omega
    · cases h
theorem rrd_in {j : ByteArray} {a : Int} {t : ByteArray} {c : Int} (h : rrd j a = some (t, c)) : 0 ≤ a ∧ a + 4 ≤ c ∧ c ≤ j.size := by
  unfold rrd at h
  cases hr : rsh j a with
  | none => rw [hr] at h; cases h
  | some p =>
    obtain ⟨t', d⟩ := p
    rw [hr] at h
    simp only [Option.bind_some] at h
    have h1 := rsh_in hr
    split at h
    · rename_i h2
      simp only [Option.some.injEq, Prod.mk.injEq] at h
      obtain ⟨rfl, rfl⟩ := h
      omega
    · cases h
theorem rrd_n1 {j : ByteArray} {a : Int} (h : rsh j a = none) : rrR j a = .tuple #[.string ⟨#[]⟩, .int .i64 0, .bool false] := by unfold rrR rrd; rw [h]; rfl
theorem rrd_n2 {j : ByteArray} {a : Int} {t : ByteArray} {c : Int} (h : rsh j a = some (t, c)) (hn : ¬ (c + 4 ≤ (j.size : Int) ∧ rtOk t = true ∧ rtx t = j.extract a.toNat (c + 4).toNat)) : rrR j a = .tuple #[.string ⟨#[]⟩, .int .i64 0, .bool false] := by
  unfold rrR rrd; rw [h]; simp only [Option.bind_some]; rw [if_neg hn]
theorem rrd_y {j : ByteArray} {a : Int} {t : ByteArray} {c : Int} (h : rsh j a = some (t, c)) (hn : c + 4 ≤ (j.size : Int) ∧ rtOk t = true ∧ rtx t = j.extract a.toNat (c + 4).toNat) : rrR j a = .tuple #[.string t, .int .i64 (c + 4), .bool true] := by
  unfold rrR rrd; rw [h]; simp only [Option.bind_some]; rw [if_pos hn]
set_option maxHeartbeats 800000 in
set_option maxRecDepth 100000 in
theorem specRead12_any (j : ByteArray) (a : Int) (w : World) (hj : j.size ≤ 1048576) :
    Calls Tryd.prog 17 #[.string j, .int .i64 a] w fun e w' => e = .returned (rrR j a) ∧ Below w.heap.size w w' := by
  obtain ⟨t, c, ok, hr, CR⟩ := rsh_l j a hj
  rcases hr.out with ⟨rfl, hh⟩ | ⟨rfl, hh⟩
  · obtain ⟨h1, h2, h3, h4⟩ := rsh_in hh
    have HH := hid hh
    by_cases hc : c + 4 ≤ (j.size : Int)
    · have CT := hid (fun (W : World) => specRecord_any t W (by omega))
      have hg : ¬ (j.size : Int) - 4 < c := by omega
      have hw1 : wrap64 ((j.size : Int) - 4) = (j.size : Int) - 4 := by unfold wrap64; omega
      have hw2 : wrap64 (c + 4) = c + 4 := by unfold wrap64; omega
      cases hk : rtOk t
      · have HA := hid (rrd_n2 hh (by rw [hk]; simp))
        have ht : rtR t = .tuple #[.string ⟨#[]⟩, .bool false] := by unfold rtR; rw [hk]; rfl
        rw [ht] at CT
        rw [HA.out]
        clear hr hh hk ht
        go_enter Tryd.func17, Tryd.ntmps17
        go_wp2_with fail
        refine (CR.out _).mono ?_; rintro e w1 ⟨rfl, hb1⟩
        have B1 := hid hb1
        clear hb1
        go_wp2_with fail
        refine (CT.out _).mono ?_; rintro e w2 ⟨rfl, hb2⟩
        have B2 := hid (btr B1.out hb2)
        clear hb2
        go_wp2
        exact bodyPost_ret (v := .tuple #[.string ⟨#[]⟩, .int .i64 0, .bool false]) (by simp [results, Tryd.results17, go_sem]) rfl ⟨rfl, B2.out⟩
      · have ht : rtR t = .tuple #[.string (rtx t), .bool true] := by unfold rtR; rw [hk]; rfl
        rw [ht] at CT
        obtain ⟨x, hx⟩ : ∃ x, rtx t = x := ⟨_, rfl⟩
        obtain ⟨y, hy⟩ : ∃ y, j.extract a.toNat (c + 4).toNat = y := ⟨_, rfl⟩
        rw [hx] at CT
        have HY := hid hy
        by_cases he : x = y
        · have HA := hid (rrd_y hh ⟨hc, hk, by rw [hx, hy, he]⟩)
          rw [HA.out]
          clear hr hh hk ht hx hy
          subst he
          go_enter Tryd.func17, Tryd.ntmps17
          go_wp2_with fail
          refine (CR.out _).mono ?_; rintro e w1 ⟨rfl, hb1⟩
          have B1 := hid hb1
          clear hb1
          go_wp2_with fail
          refine (CT.out _).mono ?_; rintro e w2 ⟨rfl, hb2⟩
          have B2 := hid (btr B1.out hb2)
          clear hb2
          go_upto_region 5 with fail
          have hy2 := HY.out
          go_wp2
          exact bodyPost_ret (v := .tuple #[.string t, .int .i64 (c + 4), .bool true]) (by simp [results, Tryd.results17, go_sem]) rfl ⟨rfl, B2.out⟩
        · have HA := hid (rrd_n2 hh (fun h => he (by rw [← hx, ← hy]; exact h.2.2)))
          have hne : (x.toList == y.toList) = false := bytes_ne he
          rw [HA.out]
          clear hr hh hk ht hx hy he
          go_enter Tryd.func17, Tryd.ntmps17
          go_wp2_with fail
          refine (CR.out _).mono ?_; rintro e w1 ⟨rfl, hb1⟩
          have B1 := hid hb1
          clear hb1
          go_wp2_with fail
          refine (CT.out _).mono ?_; rintro e w2 ⟨rfl, hb2⟩
          have B2 := hid (btr B1.out hb2)
          clear hb2
          go_upto_region 5 with fail
          have hy2 := HY.out
          go_wp2
          exact bodyPost_ret (v := .tuple #[.string ⟨#[]⟩, .int .i64 0, .bool false]) (by simp [results, Tryd.results17, go_sem]) rfl ⟨rfl, B2.out⟩
    · have HA := hid (rrd_n2 hh (fun h => hc h.1))
      have hg : (j.size : Int) - 4 < c := by omega
      have hw1 : wrap64 ((j.size : Int) - 4) = (j.size : Int) - 4 := by unfold wrap64; omega
      rw [HA.out]
      clear hr hh hc h1 h2 h3 h4
      go_enter Tryd.func17, Tryd.ntmps17
      go_wp2_with fail
      refine (CR.out _).mono ?_; rintro e w1 ⟨rfl, hb1⟩
      have B1 := hid hb1
      clear hb1
      go_wp2
      exact bodyPost_ret (v := .tuple #[.string ⟨#[]⟩, .int .i64 0, .bool false]) (by simp [results, Tryd.results17, go_sem]) rfl ⟨rfl, B1.out⟩
  · have HA := hid (rrd_n1 hh)
    rw [HA.out]
    clear hr hh
    go_enter Tryd.func17, Tryd.ntmps17
    go_wp2_with fail
    refine (CR.out _).mono ?_; rintro e w1 ⟨rfl, hb1⟩
    have B1 := hid hb1
    clear hb1
    go_wp2
    exact bodyPost_ret (v := .tuple #[.string ⟨#[]⟩, .int .i64 0, .bool false]) (by simp [results, Tryd.results17, go_sem]) rfl ⟨rfl, B1.out⟩
end Go.Proofs.YtpannfkfaagflaaDoor
