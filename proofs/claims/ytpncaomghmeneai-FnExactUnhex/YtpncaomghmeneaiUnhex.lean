/- The walks of the two functions that read figures back into bytes, and of the law over them. -/
import Derived.Test.YtpncaomghmeneaiFigs
import Derived.Deep.RegionHeld3
namespace Go.Proofs.Ytpncaomghmeneai
open Go.RowKit

/-- The bytes whose two figures each these are. -/
def unh : List UInt8 → Option (List UInt8)
  | [] => some []
  | [_] => none
  | a :: b :: l => match fv true a.toNat, fv true b.toNat with
    | some x, some y => (unh l).map (UInt8.ofNat (16 * x + y) :: ·)
    | _, _ => none

/-- Two by two. -/
def pairs : List UInt8 → List UInt8
  | a :: b :: l => UInt8.ofNat (16 * a.toNat + b.toNat) :: pairs l
  | _ => []

theorem fv_lt {lt : Bool} {c x : Nat} (h : fv lt c = some x) : x < 16 := by
  unfold fv at h
  split at h
  · simp at h; omega
  · split at h
    · simp at h; omega
    · simp at h

theorem unh_pairs : ∀ l : List UInt8, l.length % 2 = 0 → unh l = if (fvals true l).length = l.length then some (pairs (fvals true l)) else none
  | [], _ => by simp [unh, fvals, pairs]
  | [_], h => by simp at h
  | a :: b :: l, h => by
    have ih := unh_pairs l (by simp at h; omega)
    have hl := fvals_len true l
    cases ha : fv true a.toNat with
    | none => simp [unh, fvals, ha]
    | some x =>
      cases hb : fv true b.toNat with
      | none => simp [unh, fvals, ha, hb]
      | some y =>
        have hx := fv_lt ha
        have hy := fv_lt hb
        simp only [unh, fvals, ha, hb, List.length_cons, ih]
        have e1 : (UInt8.ofNat x).toNat = x := by have := u8_nat x (by omega); omega
        have e2 : (UInt8.ofNat y).toNat = y := by have := u8_nat y (by omega); omega
        by_cases hq : (fvals true l).length = l.length
        · simp [hq, pairs, e1, e2]
        · simp [hq]

/-- j figures (an even number) have been read into bs. -/
def UAt (s : ByteArray) (j : Nat) (bs : List UInt8) : Prop := j ≤ s.size ∧ j % 2 = 0 ∧ 2 * bs.length = j ∧ unh s.data.toList = (unh (s.data.toList.drop j)).map (bs ++ ·)
theorem UAt.start (s : ByteArray) : UAt s 0 [] := ⟨Nat.zero_le _, rfl, rfl, by simp⟩
theorem UAt.next {s : ByteArray} {j : Nat} {bs : List UInt8} (h : UAt s j bs) (h1 : j + 1 < s.size) {x y : Nat} (hx : fv true s[j].toNat = some x) (hy : fv true s[j + 1].toNat = some y) : UAt s (j + 2) (bs ++ [UInt8.ofNat (16 * x + y)]) := by
  refine ⟨h1, by have := h.2.1; omega, by have := h.2.2.1; simp; omega, ?_⟩
  rw [h.2.2.2, drop_here s j (by omega), drop_here s (j + 1) h1]
  simp only [unh, hx, hy, Option.map_map]
  congr 1
  funext l
  simp
theorem UAt.bad {s : ByteArray} {j : Nat} {bs : List UInt8} (h : UAt s j bs) (h1 : j + 1 < s.size) (hx : fv true s[j].toNat = none ∨ fv true s[j + 1].toNat = none) : unh s.data.toList = none := by
  rw [h.2.2.2, drop_here s j (by omega), drop_here s (j + 1) h1]
  rcases hx with hx | hx
  · simp [unh, hx]
  · cases hy : fv true s[j].toNat <;> simp [unh, hx, hy]
theorem UAt.fin {s : ByteArray} {j : Nat} {bs : List UInt8} (h : UAt s j bs) (h1 : ¬ j < s.size) : unh s.data.toList = some bs := by
  rw [h.2.2.2, List.drop_eq_nil_of_le (by rw [len_list]; omega)]; simp [unh]

/-- How a call ends that has read r. -/
def UEnd (r : Option (List UInt8)) (e : Ending) : Prop :=
  match r with
  | none => e = .returned (.tuple #[.string ⟨#[]⟩, .bool false])
  | some bs => e = .returned (.tuple #[.string ⟨bs.toArray⟩, .bool true])
theorem UEnd.no {r : Option (List UInt8)} (h : r = none) : UEnd r (.returned (.tuple #[.string ⟨#[]⟩, .bool false])) := by subst h; rfl
theorem UEnd.yes {r : Option (List UInt8)} {bs : List UInt8} (h : r = some bs) : UEnd r (.returned (.tuple #[.string ⟨bs.toArray⟩, .bool true])) := by subst h; rfl

theorem value_some (c x : Nat) (w : World) (hc : c < 256) (h : fv true c = some x) :
    Calls Try.prog 9 #[.int .u8 c] w fun e w' => e = .returned (.int .i64 x) ∧ w = w' := by
  by_cases hd : 48 ≤ c ∧ c ≤ 57
  · rw [fv_digit true c hd] at h
    obtain rfl : c - 48 = x := by simpa using h
    clear h
    go_enter Try.func9, Try.ntmps9
    go_wp2
    go_ret
    exact ⟨ret_int (by omega), rfl⟩
  · by_cases hl : 97 ≤ c ∧ c ≤ 102
    · rw [fv_letter c hl] at h
      obtain rfl : c - 87 = x := by simpa using h
      clear h
      go_enter Try.func9, Try.ntmps9
      go_wp2
      go_ret
      exact ⟨ret_int (by omega), rfl⟩
    · rw [fv_no true c hd (fun h => hl h.2)] at h; simp at h

theorem value_none (c : Nat) (w : World) (hc : c < 256) (h : fv true c = none) :
    Calls Try.prog 9 #[.int .u8 c] w fun e w' => e = .returned (.int .i64 (-1)) ∧ w = w' := by
  have hd : ¬ (48 ≤ c ∧ c ≤ 57) := fun hd => by rw [fv_digit true c hd] at h; simp at h
  have hl : ¬ (97 ≤ c ∧ c ≤ 102) := fun hl => by rw [fv_letter c hl] at h; simp at h
  clear h
  go_enter Try.func9, Try.ntmps9
  go_wp2
  all_goals
    go_ret
    exact ⟨rfl, rfl⟩

set_option maxHeartbeats 1000000 in
set_option maxRecDepth 100000 in
theorem specUnhex_any (s : ByteArray) (w : World) (hs : s.size ≤ 40000) (h2 : s.size % 2 = 0) :
    Calls Try.prog 5 #[.string s] w fun e w' => UEnd (unh s.data.toList) e ∧ Below w.heap.size w w' := by
  have hg0 : (((s.size : Int) % 2) != 0) = false := by simp; omega
  go_enter Try.func5, Try.ntmps5
  go_wp2
  go_loopw [4, 5] (fun v iv wr => ∃ (j : Nat) (bs : List UInt8), iv = .int .i64 (j : Int) ∧ UAt s j bs ∧ wr.ownsRow w.heap.size 5 1 v bs.length (bs.map bv) ∧ Below w.heap.size w wr)
    (fun _ iv _ => s.size - (intOf iv).toNat)
  case atStart => exact ⟨0, [], rfl, UAt.start s, World.ownsRow_made w #[] 0 (Nat.le_refl _) (by decide) rfl, (Below.refl _ _).alloc (Nat.le_refl _) _⟩
  case round =>
    obtain ⟨j, bs, rfl, hU, hown, hnx⟩ := hrel
    have hj := hU.1
    have hj2 := hU.2.1
    have hbl := hU.2.2.1
    have HU := hide hU
    clear hU hg0
    have hsz := hnx.size
    by_cases hlt : j < s.size
    · have h1 : j + 1 < s.size := by omega
      obtain ⟨c, hcx⟩ : ∃ c : Nat, s[j].toNat = c := ⟨_, rfl⟩
      obtain ⟨d, hdx⟩ : ∃ d : Nat, s[j + 1].toNat = d := ⟨_, rfl⟩
      have hcb : c < 256 := by rw [← hcx]; exact s[j].toNat_lt
      have hdb : d < 256 := by rw [← hdx]; exact s[j + 1].toNat_lt
      have HC := hide hcx
      have HD := hide hdx
      clear hj2
      cases hx : fv true c with
      | none =>
        have HX := hide hx
        clear hx
        cases hy : fv true d with
        | none =>
          have HY := hide hy
          clear hy
          go_wp2_with fail
          refine (value_none c _ hcb (unhide HX)).mono ?_; rintro e w1 ⟨rfl, rfl⟩
          go_wp2_with fail
          refine (value_none d _ hdb (unhide HY)).mono ?_; rintro e w1 ⟨rfl, rfl⟩
          go_wp2
          go_ret2
          exact ⟨UEnd.no ((unhide HU).bad h1 (.inl (by rw [unhide HC]; exact unhide HX))), hnx⟩
        | some y =>
          have HY := hide hy
          have hyb := fv_lt hy
          clear hy
          go_wp2_with fail
          refine (value_none c _ hcb (unhide HX)).mono ?_; rintro e w1 ⟨rfl, rfl⟩
          go_wp2_with fail
          refine (value_some d y _ hdb (unhide HY)).mono ?_; rintro e w1 ⟨rfl, rfl⟩
          go_wp2
          go_ret2
          exact ⟨UEnd.no ((unhide HU).bad h1 (.inl (by rw [unhide HC]; exact unhide HX))), hnx⟩
      | some x =>
        have HX := hide hx
        have hxb := fv_lt hx
        clear hx
        cases hy : fv true d with
        | none =>
          have HY := hide hy
          clear hy
          go_wp2_with fail
          refine (value_some c x _ hcb (unhide HX)).mono ?_; rintro e w1 ⟨rfl, rfl⟩
          go_wp2_with fail
          refine (value_none d _ hdb (unhide HY)).mono ?_; rintro e w1 ⟨rfl, rfl⟩
          go_wp2
          go_ret2
          exact ⟨UEnd.no ((unhide HU).bad h1 (.inr (by rw [unhide HD]; exact unhide HY))), hnx⟩
        | some y =>
          have HY := hide hy
          have hyb := fv_lt hy
          clear hy
          go_wp2_with fail
          refine (value_some c x _ hcb (unhide HX)).mono ?_; rintro e w1 ⟨rfl, rfl⟩
          go_wp2_with fail
          refine (value_some d y _ hdb (unhide HY)).mono ?_; rintro e w1 ⟨rfl, rfl⟩
          go_wp2_with (at_builtin; refine wpList_append_byte wr rfl (.tmp 39) (.tmp 45) 27 rfl w.heap.size 5 Try.info5 Try.underlying27 _ bs (by rfl) hown _ (UInt8.ofNat (16 * x + y)) ?c1 rfl (by omega) hsz ?_; rotate_right; intro v1 w1 hown1 hb1)
          case c1 => rw [u8_nat _ (by omega)]; omega
          go_roundw
          case rel => exact ⟨j + 2, bs ++ [UInt8.ofNat (16 * x + y)], by go_num, (unhide HU).next h1 (by rw [unhide HC]; exact unhide HX) (by rw [unhide HD]; exact unhide HY), hown1, hnx.trans hb1⟩
          case measure => simp [intOf]; omega
    · have hcv := run_string_own (P := Try.prog) wr 27 9 5 Try.underlying27 Try.underlying5 Try.underlying9 _ hown
      go_wp2
      go_ret2
      exact ⟨UEnd.yes ((unhide HU).fin hlt), hnx⟩
end Go.Proofs.Ytpncaomghmeneai
