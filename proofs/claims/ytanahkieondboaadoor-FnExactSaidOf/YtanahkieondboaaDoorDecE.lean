/- The walks of the two functions that write decimal figures, and of the law over them. -/
import Derived.Test.YtanahkieondboaaDoorTkk
import Derived.Test.YtanahkieondboaaDoorMa
import Derived.Test.YtanahkieondboaaDoorItoa
import Derived.WalkSpells
import Derived.WalkLawsBesides
namespace Go.Proofs.YtanahkieondboaaDoor
open Go.RowKit

/-- Decimal figures of a number: the library's own word for them. -/
def dg (n : Nat) : List UInt8 := Lib.decDigits n
theorem dg_small (n : Nat) (h : n < 10) : dg n = [UInt8.ofNat (48 + n)] := by unfold dg; rw [Lib.decDigits, dif_pos h]
theorem dg_big (n : Nat) (h : ¬ n < 10) : dg n = dg (n / 10) ++ [UInt8.ofNat (48 + n % 10)] := by unfold dg; rw [Lib.decDigits, dif_neg h]
theorem dg_len : ∀ (k n : Nat), n < 10 ^ (k + 1) → (dg n).length ≤ k + 1
  | 0, n, h => by rw [dg_small n (by simpa using h)]; simp
  | k + 1, n, h => by
    by_cases hn : n < 10
    · rw [dg_small n hn]; simp
    · rw [dg_big n hn]
      have := dg_len k (n / 10) (by rw [Nat.pow_succ] at h; omega)
      simp; omega

def dgz (n : Nat) : List UInt8 := if n = 0 then [] else dg n
theorem dgz_zero : dgz 0 = [] := rfl
theorem dgz_pos (n : Nat) (h : n ≠ 0) : dgz n = dg n := by simp [dgz, h]
theorem dgz_step (m : Nat) (h : m ≠ 0) : dgz m = dgz (m / 10) ++ [UInt8.ofNat (48 + m % 10)] := by
  rw [dgz_pos m h]
  by_cases h1 : m < 10
  · rw [dg_small m h1, show m / 10 = 0 by omega, dgz_zero, show m % 10 = m by omega]; rfl
  · rw [dg_big m h1, dgz_pos _ (by omega)]

theorem u8_48 (x : Nat) (h : x < 10) : ((UInt8.ofNat (48 + x)).toNat : Int) = 48 + (x : Int) := by rw [u8_nat _ (by omega)]; omega

theorem figure_dec (x : Nat) (b : UInt8) (w : World) (h : x < 10) (hb : b = UInt8.ofNat (48 + x)) :
    Calls Tryd.prog 28 #[.int .i64 x] w fun e w' => e = .returned (.int .u8 b.toNat) ∧ w = w' := by
  subst hb
  go_enter Tryd.func28, Tryd.ntmps28
  go_wp2
  go_ret
  exact ⟨ret_int (by rw [u8_48 x h]), rfl⟩

theorem run_one (b : UInt8) (w : World) : (convert 53 9 (.slice (some ⟨w.heap.size, 0, none⟩) 1 1)).run Tryd.prog (w.alloc (.cells #[.int .u8 (b.toNat : Int)] 5)) = .ok (.string ⟨#[b]⟩) (w.alloc (.cells #[.int .u8 (b.toNat : Int)] 5)) :=
  run_string_own (P := Tryd.prog) _ 53 9 5 Tryd.underlying53 Tryd.underlying5 Tryd.underlying9 [b] (World.ownsRow_lit (base := 0) w #[bv b] 1 (Nat.zero_le _) (by decide) rfl)

theorem ba_cons (b : UInt8) (t : List UInt8) : (⟨#[b]⟩ ++ ⟨t.toArray⟩ : ByteArray) = ⟨(b :: t).toArray⟩ := by
  apply ByteArray.ext
  rw [ByteArray.data_append]
  simp

set_option maxHeartbeats 4000000 in
set_option maxRecDepth 100000 in
theorem decimal_pos (n : Nat) (w : World) (hn : n ≤ 9223372036854775807) :
    Calls Tryd.prog 12 #[.int .i64 n] w fun e w' => e = .returned (.string ⟨(dg n).toArray⟩) ∧ Below w.heap.size w w' := by
  by_cases h0 : n = 0
  · subst h0
    go_enter Tryd.func12, Tryd.ntmps12
    go_wp2
    go_ret
    exact ⟨ret_str (by rw [dg_small 0 (by decide)]; rfl), Below.refl _ _⟩
  · have h0' : ((n : Int) == 0) = false := by simp; omega
    have hl := dg_len 18 n (by omega)
    go_enter Tryd.func12, Tryd.ntmps12
    go_wp2
    go_loopw [0, 4] (fun nv sv wr => ∃ (m : Nat) (t : List UInt8), nv = .int .i64 (m : Int) ∧ sv = .string ⟨t.toArray⟩ ∧ m ≤ n ∧ dgz m ++ t = dg n ∧ Below w.heap.size w wr) (fun nv _ _ => (intOf nv).toNat)
    case atStart => exact ⟨n, [], rfl, rfl, Nat.le_refl _, by rw [dgz_pos n h0]; simp, Below.refl _ _⟩
    case round =>
      clear h0'
      obtain ⟨m, t, rfl, rfl, hm, ht, hb⟩ := hrel
      have hsz := hb.size
      have htl : t.length ≤ 19 := by have := congrArg List.length ht; simp at this; omega
      have HT := (show Hid (dgz m ++ t = dg n) from ht)
      clear ht hl
      by_cases hz : m = 0
      · have hz' : ((m : Int) != 0) = false := by simp; omega
        have HZ := (show Hid (m = 0) from hz)
        clear hz
        go_wp2
        go_ret
        exact ⟨ret_str (by rw [← HT.out, HZ.out]; rfl), hb⟩
      · have hz' : ((m : Int) != 0) = true := by simp; omega
        obtain ⟨d, hd⟩ : ∃ d : Nat, m % 10 = d := ⟨_, rfl⟩
        have hdi : (m : Int) % 10 = (d : Int) := by omega
        have hdb : d < 10 := by omega
        have HD := (show Hid (m % 10 = d) from hd)
        obtain ⟨b, hbb⟩ : ∃ b, b = UInt8.ofNat (48 + d) := ⟨_, rfl⟩
        have HBB := (show Hid (b = UInt8.ofNat (48 + d)) from hbb)
        have hone := run_one b wr
        clear hd hbb
        go_wp2_with fail
        refine (figure_dec d b _ hdb HBB.out).mono ?_; rintro e w1 ⟨rfl, rfl⟩
        go_wp2
        go_roundw
        case rel => exact ⟨m / 10, b :: t, by go_num, by rw [ba_cons], by omega, by rw [← HT.out, dgz_step m hz, HD.out, ← HBB.out]; simp, hb.alloc hsz _⟩
        case measure => simp [intOf]; omega

theorem abs_quo (x : Int) (h : x ≤ 0) : (x.tdiv 10).natAbs = x.natAbs / 10 := by
  obtain ⟨k, rfl⟩ : ∃ k : Nat, x = -(k : Int) := ⟨x.natAbs, by omega⟩
  rw [Int.neg_tdiv, Int.tdiv_eq_ediv_of_nonneg (by omega)]; omega
theorem quo_le (x : Int) (h : x ≤ 0) : x.tdiv 10 ≤ 0 ∧ x ≤ x.tdiv 10 := by
  obtain ⟨k, rfl⟩ : ∃ k : Nat, x = -(k : Int) := ⟨x.natAbs, by omega⟩
  rw [Int.neg_tdiv, Int.tdiv_eq_ediv_of_nonneg (by omega)]; omega
theorem rem_of (x : Int) (h : x ≤ 0) : x.tmod 10 = -((x.natAbs % 10 : Nat) : Int) := by
  obtain ⟨k, rfl⟩ : ∃ k : Nat, x = -(k : Int) := ⟨x.natAbs, by omega⟩
  rw [Int.neg_tmod, Int.tmod_eq_emod_of_nonneg (by omega)]; omega

set_option maxHeartbeats 4000000 in
set_option maxRecDepth 100000 in
theorem decimal_neg (n : Int) (w : World) (hn : n < 0) (hn2 : -9223372036854775808 ≤ n) :
    Calls Tryd.prog 12 #[.int .i64 n] w fun e w' => e = .returned (.string ⟨(45 :: dg n.natAbs).toArray⟩) ∧ Below w.heap.size w w' := by
  have h0' : (n == 0) = false := by simp; omega
  have hl := dg_len 18 n.natAbs (by omega)
  go_enter Tryd.func12, Tryd.ntmps12
  go_wp2
  go_loopw [0, 4] (fun nv sv wr => ∃ (x : Int) (t : List UInt8), nv = .int .i64 x ∧ sv = .string ⟨t.toArray⟩ ∧ x ≤ 0 ∧ n ≤ x ∧ dgz x.natAbs ++ t = dg n.natAbs ∧ Below w.heap.size w wr) (fun nv _ _ => (intOf nv).natAbs)
  case atStart => exact ⟨n, [], rfl, rfl, by omega, by omega, by rw [dgz_pos _ (by omega)]; simp, Below.refl _ _⟩
  case round =>
    clear h0'
    obtain ⟨x, t, rfl, rfl, hx, hxn, ht, hb⟩ := hrel
    have hsz := hb.size
    have htl : t.length ≤ 19 := by have := congrArg List.length ht; simp at this; omega
    have HT := (show Hid (dgz x.natAbs ++ t = dg n.natAbs) from ht)
    clear ht hl
    by_cases hz : x = 0
    · have hz' : (x != 0) = false := by simp; omega
      have HZ := (show Hid (x = 0) from hz)
      clear hz
      go_wp2
      go_ret
      exact ⟨ret_str (by rw [ba_cons, ← HT.out, HZ.out]; rfl), hb⟩
    · have hz' : (x != 0) = true := by simp; omega
      obtain ⟨d, hd⟩ : ∃ d : Nat, x.natAbs % 10 = d := ⟨_, rfl⟩
      have hdi : x.tmod 10 = -(d : Int) := by rw [rem_of x hx, hd]
      have hdb : d < 10 := by omega
      have HD := (show Hid (x.natAbs % 10 = d) from hd)
      obtain ⟨b, hbb⟩ : ∃ b, b = UInt8.ofNat (48 + d) := ⟨_, rfl⟩
      have HBB := (show Hid (b = UInt8.ofNat (48 + d)) from hbb)
      have hone := run_one b wr
      have hq := quo_le x hx
      obtain ⟨q, hqe⟩ : ∃ q, x.tdiv 10 = q := ⟨_, rfl⟩
      have HQ := hide hqe
      have hqa := abs_quo x hx
      rw [hqe] at hq hqa
      have HQA := hide hqa
      clear hd hbb hqa
      go_wp2_with fail
      · refine (figure_dec d b _ hdb HBB.out).mono ?_; rintro e w1 ⟨rfl, rfl⟩
        go_wp2
        go_roundw
        case rel => exact ⟨q, b :: t, by go_num, by rw [ba_cons], hq.1, by omega, by rw [← HT.out, dgz_step x.natAbs (by omega), HD.out, ← HBB.out, unhide HQA]; simp, hb.alloc hsz _⟩
        case measure => have := unhide HQA; simp [intOf]; omega
      · rw [show (-(d : Int)) = (d : Int) from by omega]
        refine (figure_dec d b _ hdb HBB.out).mono ?_; rintro e w1 ⟨rfl, rfl⟩
        go_wp2
        go_roundw
        case rel => exact ⟨q, b :: t, by go_num, by rw [ba_cons], hq.1, by omega, by rw [← HT.out, dgz_step x.natAbs (by omega), HD.out, ← HBB.out, unhide HQA]; simp, hb.alloc hsz _⟩
        case measure => have := unhide HQA; simp [intOf]; omega

theorem itoa_pos (n : Nat) : Lib.itoa (n : Int) = dg n := by unfold Lib.itoa dg; rw [if_neg (by omega)]; rfl
theorem itoa_neg (n : Int) (h : n < 0) : Lib.itoa n = 45 :: dg n.natAbs := by unfold Lib.itoa dg; rw [if_pos h]

theorem below_grow (w : World) (k : Nat) (os : Array Obj) : Below w.heap.size w (Sort.grow (w.drewN k) os) :=
  ⟨rfl, rfl, rfl, by show w.heap.size ≤ (w.heap ++ os).size; simp, fun i hi => by show (w.heap ++ os)[i]? = w.heap[i]?; rw [Array.getElem?_append_left hi]⟩

theorem implDecimal_any (n : Int) (w : World) (h0 : -9223372036854775808 ≤ n) (h1 : n ≤ 9223372036854775807) (htab : Lib.TabIs Tryd.prog w "internal/strconv.uint64pow10" .u64 Lib.pow10Tab) :
    Calls Tryd.prog 13 #[.int .i64 n] w fun e w' => e = .returned (.string ⟨(Lib.itoa n).toArray⟩) ∧ Below w.heap.size w w' := by
  have HT := hide htab
  clear htab
  go_enter Tryd.func13, Tryd.ntmps13
  go_wp2_with fail
  refine (Tryd.strconv_Itoa n h0 h1 _ (unhide HT)).mono ?_; rintro e w1 ⟨rfl, k, os, rfl⟩
  go_wp2
  go_ret
  exact ⟨rfl, below_grow _ _ _⟩

theorem gPow : Tryd.prog.globalNamed "internal/strconv.uint64pow10" = some 0 := by kernel_rfl

theorem tab_later {w w1 : World} (hb : Below w.heap.size w w1) (htab : Lib.TabIs Tryd.prog w "internal/strconv.uint64pow10" .u64 Lib.pow10Tab) : Lib.TabIs Tryd.prog w1 "internal/strconv.uint64pow10" .u64 Lib.pow10Tab := by
  have hc := htab.cell gPow 0 (by decide)
  exact var?_below hb gPow (World.block_lt_of_cell? _ _ hc) htab

end Go.Proofs.YtanahkieondboaaDoor
