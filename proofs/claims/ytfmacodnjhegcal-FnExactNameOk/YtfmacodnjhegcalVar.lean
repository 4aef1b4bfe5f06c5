/- The walks of the two functions that write a number in sevens. -/
import Derived.Test.YtfmacodnjhegcalRows
import Derived.Test.YtfmacodnjhegcalPure
import Derived.WalkKit
import Derived.WalkSpells
import Derived.WalkLawsBesides
namespace Go.Proofs.Ytfmacodnjhegcal
open Go.RowKit

theorem Try.info5 : (Try.prog.info? 5).map (fun i => (i.zero, i.size, i.bytes)) = some (some (.int .u8 0), 1, 1) := by kernel_rfl

theorem ret_str {a b : ByteArray} (h : a = b) : Ending.returned (.string a) = .returned (.string b) := by rw [h]

theorem ret_strok {a b : ByteArray} {t : Bool} (h : a = b) : Ending.returned (.tuple #[.string a, .bool t]) = .returned (.tuple #[.string b, .bool t]) := by rw [h]

set_option maxHeartbeats 400000 in
set_option maxRecDepth 100000 in
theorem l01Var_any (n : Nat) (w : World) (hn : n ≤ 1000000000000) :
    Calls Try.prog 41 #[.int .i64 n] w fun e w' => e = .returned (.string ⟨(vbs n).toArray⟩) ∧ Below w.heap.size w w' := by
  go_enter Try.func41, Try.ntmps41
  go_wp2
  go_loopw [0, 3] (fun nv v wr => ∃ (m : Nat) (bs : List UInt8), nv = .int .i64 m ∧ m ≤ n ∧ bs ++ vbs m = vbs n ∧ wr.ownsRow w.heap.size 5 1 v bs.length (bs.map bv) ∧ Below w.heap.size w wr)
    (fun nv _ _ => (intOf nv).toNat)
  case atStart => exact ⟨n, [], rfl, Nat.le_refl _, rfl, World.ownsRow_made w #[] 0 (Nat.le_refl _) (by decide) rfl, (Below.refl _ _).alloc (Nat.le_refl _) _⟩
  case round =>
    obtain ⟨m, bs, rfl, hm, hbs, hown, hnx⟩ := hrel
    have HB : Hid (bs ++ vbs m = vbs n) := hbs
    clear hbs
    have hsz := hnx.size
    have hlen : bs.length ≤ 1000000000001 := by have := congrArg List.length HB.out; have := vbs_len n; simp at *; omega
    by_cases hlt : 127 < m
    · go_wp2_with (at_builtin; (refine wpList_append_byte wr rfl (.tmp 7) (.tmp 12) 68 rfl w.heap.size 5 Try.info5 Try.underlying68 _ bs (by rfl) hown _ (UInt8.ofNat (m % 128 + 128)) ?c1 rfl (by omega) hsz ?_); rotate_right; intro v1 w1 hown1 hb1)
      case c1 => rw [u8_nat _ (by omega)]; omega
      go_roundw
      case rel => exact ⟨m / 128, bs ++ [UInt8.ofNat (m % 128 + 128)], by go_num, by omega, by rw [← HB.out, vbs_big m hlt]; simp, hown1, hnx.trans hb1⟩
      case measure => simp [intOf]; omega
    · go_wp2_with (first | (at_builtin; (refine wpList_append_byte wr rfl (.tmp 16) (.tmp 19) 68 rfl w.heap.size 5 Try.info5 Try.underlying68 _ bs (by rfl) hown _ (UInt8.ofNat m) ?c2 rfl (by omega) hsz ?_); rotate_right; intro v1 w1 hown1 hb1; have hcv := run_string_own (P := Try.prog) w1 68 9 5 Try.underlying68 Try.underlying5 Try.underlying9 _ hown1))
      case c2 => rw [u8_nat _ (by omega)]
      go_ret
      exact ⟨ret_str (by rw [← HB.out, vbs_small m hlt]), hnx.trans hb1⟩

set_option maxHeartbeats 400000 in
set_option maxRecDepth 100000 in
theorem implVar_any (n : Nat) (w : World) (hn : n ≤ 1000000000) :
    Calls Try.prog 58 #[.int .i64 n] w fun e w' => e = .returned (.tuple #[.string ⟨(vbs n).toArray⟩, .bool true]) ∧ Below w.heap.size w w' := by
  obtain ⟨i0, hi, hz0, hz1, hz2⟩ := info_parts Try.info5
  go_enter Try.func58, Try.ntmps58
  go_wp2_with (at_make; refine wpList_make_own w rfl _ _ 68 rfl w.heap.size 5 i0 (.int .u8 0) 1 Try.underlying68 hi hz0 hz1 .i64 .i64 5 5 (by rfl) (by rfl) rfl (by rw [hz2]; decide) (by decide) (Nat.le_refl _) ?_; intro w0 hown0 hg0)
  clear hi hz0 hz1 hz2 i0
  go_loopw [0, 4] (fun nv v wr => ∃ (m : Nat) (bs : List UInt8), nv = .int .i64 m ∧ m ≤ n ∧ bs ++ vbs m = vbs n ∧ wr.ownsRow w.heap.size 5 1 v bs.length (bs.map bv) ∧ Below w.heap.size w wr)
    (fun nv _ _ => (intOf nv).toNat)
  case atStart => exact ⟨n, [], rfl, Nat.le_refl _, rfl, hown0, (Below.refl _ _).grown hg0 (Nat.le_refl _) (by simp)⟩
  case round =>
    clear hown0 hg0
    obtain ⟨m, bs, rfl, hm, hbs, hown, hnx⟩ := hrel
    have HB : Hid (bs ++ vbs m = vbs n) := hbs
    clear hbs
    have hsz := hnx.size
    have hlen : bs.length ≤ 1000000000001 := by have := congrArg List.length HB.out; have := vbs_len n; simp at *; omega
    by_cases hlt : 127 < m
    · go_wp2_with (at_builtin; (refine wpList_append_byte wr rfl (.tmp 14) (.tmp 19) 68 rfl w.heap.size 5 Try.info5 Try.underlying68 _ bs (by rfl) hown _ (UInt8.ofNat (m % 128 + 128)) ?c1 rfl (by omega) hsz ?_); rotate_right; intro v1 w1 hown1 hb1)
      case c1 => rw [u8_nat _ (by omega)]; omega
      go_roundw
      case rel => exact ⟨m / 128, bs ++ [UInt8.ofNat (m % 128 + 128)], by go_num, by omega, by rw [← HB.out, vbs_big m hlt]; simp, hown1, hnx.trans hb1⟩
      case measure => simp [intOf]; omega
    · go_wp2_with (first | (at_builtin; (refine wpList_append_byte wr rfl (.tmp 23) (.tmp 26) 68 rfl w.heap.size 5 Try.info5 Try.underlying68 _ bs (by rfl) hown _ (UInt8.ofNat m) ?c2 rfl (by omega) hsz ?_); rotate_right; intro v1 w1 hown1 hb1; have hcv := run_string_own (P := Try.prog) w1 68 9 5 Try.underlying68 Try.underlying5 Try.underlying9 _ hown1))
      case c2 => rw [u8_nat _ (by omega)]
      go_ret2
      exact ⟨ret_strok (by rw [← HB.out, vbs_small m hlt]), hnx.trans hb1⟩

theorem implVar_no (n : Int) (w : World) (hn : n < 0 ∨ 1000000000 < n) :
    Calls Try.prog 58 #[.int .i64 n] w fun e w' => e = .returned (.tuple #[.string ⟨#[]⟩, .bool false]) ∧ w' = w := by
  rcases hn with hn | hn
  · go_enter Try.func58, Try.ntmps58
    go_wp2
    go_ret2
    exact ⟨rfl, rfl⟩
  · have h0 : ¬ n < 0 := by omega
    go_enter Try.func58, Try.ntmps58
    go_wp2
    go_ret2
    exact ⟨rfl, rfl⟩

theorem l01In_yes (x a b : Int) (w : World) (h1 : a ≤ x) (h2 : x ≤ b) :
    Calls Try.prog 27 #[.int .i64 x, .int .i64 a, .int .i64 b] w fun e w' => e = .returned (.bool true) ∧ w = w' := by
  go_enter Try.func27, Try.ntmps27
  go_wp2
  go_ret
  exact ⟨rfl, rfl⟩

theorem l01In_no (x a b : Int) (w : World) (h : x < a ∨ b < x) :
    Calls Try.prog 27 #[.int .i64 x, .int .i64 a, .int .i64 b] w fun e w' => e = .returned (.bool false) ∧ w = w' := by
  by_cases h1 : a ≤ x
  · have h2 : ¬ x ≤ b := by omega
    go_enter Try.func27, Try.ntmps27
    go_wp2
    go_ret
    exact ⟨rfl, rfl⟩
  · go_enter Try.func27, Try.ntmps27
    go_wp2
    go_ret
    exact ⟨rfl, rfl⟩

end Go.Proofs.Ytfmacodnjhegcal
