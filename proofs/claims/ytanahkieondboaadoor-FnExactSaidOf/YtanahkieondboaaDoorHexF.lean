/- The walk of the program's function that writes figures for bytes, and of the law over both. -/
import Derived.Test.YtanahkieondboaaDoorHexE
namespace Go.Proofs.YtanahkieondboaaDoor
open Go.RowKit

/-- The figures as the program's text has them. -/
theorem figs_at : ∀ x : Fin 16, ((⟨#[48, 49, 50, 51, 52, 53, 54, 55, 56, 57, 97, 98, 99, 100, 101, 102]⟩ : ByteArray)[x.val]'(x.isLt)) = fig x.val := by decide

theorem run_figs (x : Nat) (h : x < 16) (w : World) :
    (Instr.index 9 (.string ⟨#[48, 49, 50, 51, 52, 53, 54, 55, 56, 57, 97, 98, 99, 100, 101, 102]⟩) (.int .u8 (x : Int))).run Tryd.prog w = .ok (.int .u8 ((fig x).toNat : Int)) w := by
  have h2 : (0 : Int) ≤ (x : Int) ∧ (x : Int) < ((⟨#[48, 49, 50, 51, 52, 53, 54, 55, 56, 57, 97, 98, 99, 100, 101, 102]⟩ : ByteArray).size : Int) := ⟨by omega, by show (x : Int) < 16; omega⟩
  rw [run_index_string (P := Tryd.prog) w 9 _ .u8 (x : Int) Tryd.underlying9, dif_pos h2]
  have := figs_at ⟨x, h⟩
  simp only [Int.toNat_natCast]
  rw [← this]

set_option maxHeartbeats 400000 in
set_option maxRecDepth 100000 in
theorem implHex_yes (s : ByteArray) (w : World) (hs : s.size ≤ 20000) :
    Calls Tryd.prog 23 #[.string s] w fun e w' => e = .returned (.tuple #[.string ⟨(hexOf s.data.toList).toArray⟩, .bool true]) ∧ Below w.heap.size w w' := by
  obtain ⟨i0, hi, hz0, hz1, hz2⟩ := info_parts Tryd.info5
  have hmk : (i0.bytes * (2 * s.size)) ≤ 281474976710656 := by rw [hz2]; omega
  go_enter Tryd.func23, Tryd.ntmps23
  go_wp2_with (at_make; refine wpList_make_own w rfl _ _ 53 rfl w.heap.size 5 i0 (.int .u8 0) 1 Tryd.underlying53 hi hz0 hz1 .i64 .i64 (2 * (s.size : Int)) (2 * s.size) (by rfl) (by rfl) (by omega) hmk (by unfold maxLen; omega) (Nat.le_refl _) ?_; intro w0 hown0 hg0)
  clear hi hz0 hz1 hz2 hmk i0
  go_loopw [4, 16] (fun v iv wr => ∃ (k : Nat) (bs : List UInt8), k ≤ s.size ∧ iv = .int .i64 (k : Int) ∧ bs = hexOf (s.data.toList.take k) ∧ wr.ownsRow w.heap.size 5 1 v bs.length (bs.map bv) ∧ Below w.heap.size w wr)
    (fun _ iv _ => s.size - (intOf iv).toNat)
  case atStart => exact ⟨0, [], Nat.zero_le _, rfl, rfl, hown0, (Below.refl _ _).grown hg0 (Nat.le_refl _) (by simp)⟩
  case round =>
    clear hown0 hg0
    obtain ⟨k, bs, hk, rfl, hbs, hown, hnx⟩ := hrel
    have HB : Hid (bs = hexOf (s.data.toList.take k)) := hbs
    clear hbs
    have hsz := hnx.size
    have hlen : bs.length ≤ 40000 := by rw [HB.out, hexOf_len, List.length_take]; omega
    have HL : Hid (bs.length ≤ 70368744177664) := by show _ ≤ _; omega
    have HZ : Hid (w.heap.size ≤ wr.heap.size + 1) := by show _ ≤ _; omega
    have HX : Hid (Below w.heap.size w wr) := hnx
    have HS : Hid (w.heap.size ≤ wr.heap.size) := hsz
    by_cases hlt : k < s.size
    · obtain ⟨c, hcx⟩ : ∃ c : Nat, s[k].toNat = c := ⟨_, rfl⟩
      have hcb : c < 256 := by rw [← hcx]; exact s[k].toNat_lt
      have HC : Hid (s[k].toNat = c) := hcx
      have hI : (0 : Int) ≤ (k : Int) ∧ (k : Int) < (s.size : Int) := by omega
      obtain ⟨q, hq⟩ : ∃ q : Nat, c / 16 = q := ⟨_, rfl⟩
      obtain ⟨r, hr⟩ : ∃ r : Nat, c % 16 = r := ⟨_, rfl⟩
      have hqb : q < 16 := by omega
      have hrb : r < 16 := by omega
      have HQ : Hid (c / 16 = q) := hq
      have HRr : Hid (c % 16 = r) := hr
      clear hq hr
      go_wp2_with fail
      have hfq := run_figs q hqb
      have hfr := run_figs r hrb
      have hw1 : IntKind.u8.wrap ((c : Int) / 16) = (q : Int) := by have := HQ.out; rw [show (c : Int) / 16 = (q : Int) by omega]; rw [IntKind.wrap_u8]; omega
      have hw2 : (c : Int).tmod 16 = (r : Int) := by have := HRr.out; rw [Int.tmod_eq_emod_of_nonneg (by omega)]; omega
      clear hcb hlen hnx hsz
      go_region_held3 (fun _ => True) (trivial) ((first
        | (refine step_append_two rfl (.tmp 22) (.tmp 29) 53 rfl w.heap.size 5 Tryd.info5 Tryd.underlying53 _ bs (by rfl) (by exact hown.alloc _) ⟨wr.heap.size, 0, none⟩ (fig q) (fig r) (by rfl) (by exact cell_two_new _ _ _ _) HL.out (by have := HZ.out; simp; exact this) ?_; intro v1 w1 hown1 hb1)))
      all_goals
        go_wp2
        go_roundw
        case rel => exact ⟨k + 1, bs ++ [fig q, fig r], by omega, by go_num, by rw [HB.out, ← HQ.out, ← HRr.out, ← HC.out]; exact (hex_step s k hlt).symm, hown1, ((HX.out.alloc HS.out _).drew).trans hb1⟩
        case measure => simp [intOf]; omega
    · have hcv := run_string_own (P := Tryd.prog) wr 53 9 5 Tryd.underlying53 Tryd.underlying5 Tryd.underlying9 _ hown
      go_wp2
      go_ret2
      exact ⟨ret_strok (by rw [HB.out, List.take_of_length_le (by rw [Array.length_toList]; exact Nat.le_of_not_lt hlt)]), hnx⟩

theorem implHex_no (s : ByteArray) (w : World) (hm : s.size ≤ 1048576) (hs : ¬ s.size ≤ 20000) :
    Calls Tryd.prog 23 #[.string s] w fun e w' => e = .returned (.tuple #[.string ⟨#[]⟩, .bool false]) ∧ w = w' := by
  go_enter Tryd.func23, Tryd.ntmps23
  go_wp2
  go_ret2
  exact ⟨rfl, rfl⟩
end Go.Proofs.YtanahkieondboaaDoor
