/- The walk of the program's function that reads figures one by one. -/
import Derived.Test.YtpncaomghmeneaaDoorHexB
import Derived.Test.YtpncaomghmeneaaDoorProg
import Derived.Test.YtpncaomghmeneaaDoorPure
import Derived.WalkSpells
import Derived.WalkLawsBesides
namespace Go.Proofs.YtpncaomghmeneaaDoor
open Go.RowKit

/-- The value of a figure; letters count where lt says so. -/
def fv (lt : Bool) (c : Nat) : Option Nat := if 48 ≤ c ∧ c ≤ 57 then some (c - 48) else if lt = true ∧ 97 ≤ c ∧ c ≤ 102 then some (c - 87) else none

/-- The values of the figures ahead of the first byte that is none. -/
def fvals (lt : Bool) : List UInt8 → List UInt8
  | [] => []
  | c :: l => match fv lt c.toNat with
    | some x => UInt8.ofNat x :: fvals lt l
    | none => []

theorem fvals_some (lt : Bool) (c : UInt8) (l : List UInt8) (x : Nat) (h : fv lt c.toNat = some x) : fvals lt (c :: l) = UInt8.ofNat x :: fvals lt l := by simp [fvals, h]
theorem fvals_none (lt : Bool) (c : UInt8) (l : List UInt8) (h : fv lt c.toNat = none) : fvals lt (c :: l) = [] := by simp [fvals, h]
theorem fvals_len (lt : Bool) (l : List UInt8) : (fvals lt l).length ≤ l.length := by
  induction l with
  | nil => simp [fvals]
  | cons c l ih => cases h : fv lt c.toNat <;> simp [fvals, h]; exact ih
/-- k figures have been read. -/
def FAt (lt : Bool) (s : ByteArray) (k : Nat) (bs : List UInt8) : Prop := k ≤ s.size ∧ bs.length = k ∧ bs ++ fvals lt (s.data.toList.drop k) = fvals lt s.data.toList
theorem FAt.next {lt : Bool} {s : ByteArray} {k : Nat} {bs : List UInt8} (h : FAt lt s k bs) (hk : k < s.size) (x : Nat) (hx : fv lt s[k].toNat = some x) : FAt lt s (k + 1) (bs ++ [UInt8.ofNat x]) := by
  refine ⟨hk, by simp [h.2.1], ?_⟩
  rw [← h.2.2, drop_here s k hk, fvals_some _ _ _ _ hx]; simp
theorem FAt.stop {lt : Bool} {s : ByteArray} {k : Nat} {bs : List UInt8} (h : FAt lt s k bs) (hk : k < s.size) (hx : fv lt s[k].toNat = none) : bs = fvals lt s.data.toList := by
  rw [← h.2.2, drop_here s k hk, fvals_none _ _ _ hx]; simp
theorem FAt.fin {lt : Bool} {s : ByteArray} {k : Nat} {bs : List UInt8} (h : FAt lt s k bs) (hk : ¬ k < s.size) : bs = fvals lt s.data.toList := by
  rw [← h.2.2, List.drop_eq_nil_of_le (by rw [len_list]; omega)]; simp [fvals]
theorem fv_digit (lt : Bool) (c : Nat) (h : 48 ≤ c ∧ c ≤ 57) : fv lt c = some (c - 48) := by simp [fv, h]
theorem fv_letter (c : Nat) (h : 97 ≤ c ∧ c ≤ 102) : fv true c = some (c - 87) := by simp [fv, h]; omega
theorem fv_no (lt : Bool) (c : Nat) (h : ¬ (48 ≤ c ∧ c ≤ 57)) (h2 : ¬ (lt = true ∧ 97 ≤ c ∧ c ≤ 102)) : fv lt c = none := by simp only [fv]; rw [if_neg h, if_neg h2]

set_option maxHeartbeats 1000000 in
set_option maxRecDepth 100000 in
theorem figs_true (s : ByteArray) (w : World) (hs : s.size ≤ 40000) :
    Calls Tryd.prog 17 #[.string s, .bool true] w fun e w' => (∃ n : Nat, n = (fvals true s.data.toList).length ∧ e = .returned (.tuple #[.slice (some ⟨w.heap.size, 0, none⟩) n s.size, .bool ((n : Int) == (s.size : Int))]) ∧
      w'.ownsRow w.heap.size 5 1 (.slice (some ⟨w.heap.size, 0, none⟩) n s.size) n ((fvals true s.data.toList).map bv)) ∧ Below w.heap.size w w' := by
  obtain ⟨i0, hi, hz0, hz1, hz2⟩ := info_parts Tryd.info5
  have hmk : i0.bytes * s.size ≤ 281474976710656 := by rw [hz2]; omega
  go_enter Tryd.func17, Tryd.ntmps17
  go_wp2
  go_step3
  go_wp2_with (at_make; refine wpList_make_own w rfl _ _ 22 rfl w.heap.size 5 i0 (.int .u8 0) 1 Tryd.underlying22 hi hz0 hz1 .i64 .i64 (s.size : Int) s.size (by rfl) (by rfl) rfl hmk (by unfold maxLen; omega) (Nat.le_refl _) ?_; intro w0 hown0 hg0)
  go_step3
  go_wp2
  clear hi hz0 hz1 hz2 hmk
  go_loopw [6, 14] (fun v iv wr => ∃ (k : Nat) (bs : List UInt8), iv = .int .i64 (k : Int) ∧ v = .slice (some ⟨w.heap.size, 0, none⟩) k s.size ∧ FAt true s k bs ∧ wr.ownsRow w.heap.size 5 1 (.slice (some ⟨w.heap.size, 0, none⟩) k s.size) k (bs.map bv) ∧ Below w.heap.size w wr)
    (fun _ iv _ => s.size - (intOf iv).toNat)
  case atStart => exact ⟨0, [], rfl, rfl, ⟨Nat.zero_le _, rfl, rfl⟩, hown0, (Below.refl _ _).grown hg0 (Nat.le_refl _) (by simp)⟩
  case round =>
    clear hown0 hg0
    obtain ⟨k, bs, rfl, rfl, hF, hown, hnx⟩ := hrel
    have hk := hF.1
    have HF := hide hF
    clear hF
    have hsz := hnx.size
    by_cases hlt : k < s.size
    · obtain ⟨c, hcx⟩ : ∃ c : Nat, s[k].toNat = c := ⟨_, rfl⟩
      have hcb : c < 256 := by rw [← hcx]; exact s[k].toNat_lt
      have HC := hide hcx
      by_cases hd : 48 ≤ c ∧ c ≤ 57
      · go_wp2_with (at_builtin; refine wpList_append_byte_fits wr rfl (.tmp 27) (.tmp 30) 22 rfl w.heap.size 5 Tryd.info5 Tryd.underlying22 w.heap.size k s.size bs (by rfl) hown _ (UInt8.ofNat (c - 48)) ?c1 rfl (by omega) hsz ?_; rotate_right; intro w1 hown1 hb1)
        case c1 => rw [u8_nat _ (by omega)]; omega
        go_roundw
        case rel => exact ⟨k + 1, bs ++ [UInt8.ofNat (c - 48)], by go_num, rfl, (unhide HF).next hlt _ (by rw [unhide HC]; exact fv_digit true c hd), hown1, hnx.trans hb1⟩
        case measure => simp [intOf]; omega
      · by_cases hl : 97 ≤ c ∧ c ≤ 102
        · go_wp2_with (at_builtin; refine wpList_append_byte_fits wr rfl (.tmp 42) (.tmp 46) 22 rfl w.heap.size 5 Tryd.info5 Tryd.underlying22 w.heap.size k s.size bs (by rfl) hown _ (UInt8.ofNat (c - 87)) ?c2 rfl (by omega) hsz ?_; rotate_right; intro w1 hown1 hb1)
          case c2 => rw [u8_nat _ (by omega)]; omega
          go_roundw
          case rel => exact ⟨k + 1, bs ++ [UInt8.ofNat (c - 87)], by go_num, rfl, (unhide HF).next hlt _ (by rw [unhide HC]; exact fv_letter c hl), hown1, hnx.trans hb1⟩
          case measure => simp [intOf]; omega
        · have hno : fv true c = none := fv_no true c hd (fun h => hl h.2)
          have HN := hide hno
          clear hno
          go_wp2
          all_goals
            try rw [Exit.noGoto_ret]
            go_ret2
            have hB := (unhide HF).stop hlt (by rw [unhide HC]; exact unhide HN)
            have hL := (unhide HF).2.1
            subst hB
            exact ⟨⟨k, hL.symm, rfl, hown⟩, hnx⟩
    · go_wp2
      try rw [Exit.noGoto_ret]
      go_ret2
      have hB := (unhide HF).fin hlt
      have hL := (unhide HF).2.1
      subst hB
      exact ⟨⟨k, hL.symm, rfl, hown⟩, hnx⟩

set_option maxHeartbeats 1000000 in
set_option maxRecDepth 100000 in
theorem figs_false (s : ByteArray) (w : World) (hs : s.size ≤ 40000) :
    Calls Tryd.prog 17 #[.string s, .bool false] w fun e w' => (∃ n : Nat, n = (fvals false s.data.toList).length ∧ e = .returned (.tuple #[.slice (some ⟨w.heap.size, 0, none⟩) n s.size, .bool ((n : Int) == (s.size : Int))]) ∧
      w'.ownsRow w.heap.size 5 1 (.slice (some ⟨w.heap.size, 0, none⟩) n s.size) n ((fvals false s.data.toList).map bv)) ∧ Below w.heap.size w w' := by
  obtain ⟨i0, hi, hz0, hz1, hz2⟩ := info_parts Tryd.info5
  have hmk : i0.bytes * s.size ≤ 281474976710656 := by rw [hz2]; omega
  go_enter Tryd.func17, Tryd.ntmps17
  go_wp2
  go_step3
  go_wp2_with (at_make; refine wpList_make_own w rfl _ _ 22 rfl w.heap.size 5 i0 (.int .u8 0) 1 Tryd.underlying22 hi hz0 hz1 .i64 .i64 (s.size : Int) s.size (by rfl) (by rfl) rfl hmk (by unfold maxLen; omega) (Nat.le_refl _) ?_; intro w0 hown0 hg0)
  go_step3
  go_wp2
  clear hi hz0 hz1 hz2 hmk
  go_loopw [6, 14] (fun v iv wr => ∃ (k : Nat) (bs : List UInt8), iv = .int .i64 (k : Int) ∧ v = .slice (some ⟨w.heap.size, 0, none⟩) k s.size ∧ FAt false s k bs ∧ wr.ownsRow w.heap.size 5 1 (.slice (some ⟨w.heap.size, 0, none⟩) k s.size) k (bs.map bv) ∧ Below w.heap.size w wr)
    (fun _ iv _ => s.size - (intOf iv).toNat)
  case atStart => exact ⟨0, [], rfl, rfl, ⟨Nat.zero_le _, rfl, rfl⟩, hown0, (Below.refl _ _).grown hg0 (Nat.le_refl _) (by simp)⟩
  case round =>
    clear hown0 hg0
    obtain ⟨k, bs, rfl, rfl, hF, hown, hnx⟩ := hrel
    have hk := hF.1
    have HF := hide hF
    clear hF
    have hsz := hnx.size
    by_cases hlt : k < s.size
    · obtain ⟨c, hcx⟩ : ∃ c : Nat, s[k].toNat = c := ⟨_, rfl⟩
      have hcb : c < 256 := by rw [← hcx]; exact s[k].toNat_lt
      have HC := hide hcx
      by_cases hd : 48 ≤ c ∧ c ≤ 57
      · go_wp2_with (at_builtin; refine wpList_append_byte_fits wr rfl (.tmp 27) (.tmp 30) 22 rfl w.heap.size 5 Tryd.info5 Tryd.underlying22 w.heap.size k s.size bs (by rfl) hown _ (UInt8.ofNat (c - 48)) ?c1 rfl (by omega) hsz ?_; rotate_right; intro w1 hown1 hb1)
        case c1 => rw [u8_nat _ (by omega)]; omega
        go_roundw
        case rel => exact ⟨k + 1, bs ++ [UInt8.ofNat (c - 48)], by go_num, rfl, (unhide HF).next hlt _ (by rw [unhide HC]; exact fv_digit false c hd), hown1, hnx.trans hb1⟩
        case measure => simp [intOf]; omega
      · have hno : fv false c = none := fv_no false c hd (fun h => by simp at h)
        have HN := hide hno
        clear hno
        go_wp2
        all_goals
          try rw [Exit.noGoto_ret]
          go_ret2
          have hB := (unhide HF).stop hlt (by rw [unhide HC]; exact unhide HN)
          have hL := (unhide HF).2.1
          subst hB
          exact ⟨⟨k, hL.symm, rfl, hown⟩, hnx⟩
    · go_wp2
      try rw [Exit.noGoto_ret]
      go_ret2
      have hB := (unhide HF).fin hlt
      have hL := (unhide HF).2.1
      subst hB
      exact ⟨⟨k, hL.symm, rfl, hown⟩, hnx⟩

end Go.Proofs.YtpncaomghmeneaaDoor
