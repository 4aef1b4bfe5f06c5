/- Ma, Mc, Qa, Qb, Qpa, Qpb, Qpc, Qpd, Qoa. -/
import Derived.Test.YtlbigamdlfigpaaProg
import Derived.WalkKit
import Derived.Laws.IdiomStrings
import Derived.WalkSpells
import Derived.WalkLawsBesides
import Derived.Lib.Strings
import Derived.Lib.BufferWrite
import Derived.Lib.UnsafeStr
import Derived.Laws.MakeOwn
import Derived.Below
import Derived.BigQuiet
import Derived.Deep.QuietTactic
import Derived.Deep.RegionHeld3
import Derived.Deep.Cut
import Derived.Laws.ShiftsVarLaws
import Derived.Laws.RangeAny
import Derived.Laws.Runes
import Derived.Lib.OthersKept
import Derived.Lib.Bytealg
import Derived.Shelf.Abstract
namespace Go.Proofs.Ytlbigamdlfigpaa
open Go.RowKit
end Go.Proofs.Ytlbigamdlfigpaa
namespace Go.Proofs.Ytlbigamdlfigpaa
open Go.RowKit
theorem l01In_yes (x a b : Int) (w : World) (h1 : a ≤ x) (h2 : x ≤ b) :
    Calls Try.prog 15 #[.int .i64 x, .int .i64 a, .int .i64 b] w fun e w' => e = .returned (.bool true) ∧ w = w' := by
  go_enter Try.func15, Try.ntmps15
  go_wp2
  go_ret
  exact ⟨rfl, rfl⟩
theorem l01In_no (x a b : Int) (w : World) (h : x < a ∨ b < x) :
    Calls Try.prog 15 #[.int .i64 x, .int .i64 a, .int .i64 b] w fun e w' => e = .returned (.bool false) ∧ w = w' := by
  by_cases h1 : a ≤ x
  · have h2 : ¬ x ≤ b := by omega
    go_enter Try.func15, Try.ntmps15
    go_wp2
    go_ret
    exact ⟨rfl, rfl⟩
  · go_enter Try.func15, Try.ntmps15
    go_wp2
    go_ret
    exact ⟨rfl, rfl⟩
end Go.Proofs.Ytlbigamdlfigpaa
namespace Go.Proofs.Ytlbigamdlfigpaa
open Go.RowKit
end Go.Proofs.Ytlbigamdlfigpaa
namespace Go.Proofs.Ytlbigamdlfigpaa
open Go.RowKit
theorem bpush {a w : World} (h : Below a.heap.size a w) (o : Obj) : Below a.heap.size a (w.alloc o) := h.alloc h.size o
theorem bre (a : World) : Below a.heap.size a a := Below.refl _ _
end Go.Proofs.Ytlbigamdlfigpaa
namespace Go.Proofs.Ytlbigamdlfigpaa
open Go.RowKit
end Go.Proofs.Ytlbigamdlfigpaa
namespace Go.Proofs.Ytlbigamdlfigpaa
open Go.RowKit
end Go.Proofs.Ytlbigamdlfigpaa
namespace Go.Proofs.Ytlbigamdlfigpaa
open Go.RowKit
end Go.Proofs.Ytlbigamdlfigpaa
namespace Go.Proofs.Ytlbigamdlfigpaa
open Go.RowKit
theorem hid {p : Prop} (h : p) : Hid p := h
end Go.Proofs.Ytlbigamdlfigpaa
namespace Go.Proofs.Ytlbigamdlfigpaa
open Go.RowKit
end Go.Proofs.Ytlbigamdlfigpaa
namespace Go.Proofs.Ytlbigamdlfigpaa
open Go.RowKit
end Go.Proofs.Ytlbigamdlfigpaa
namespace Go.Proofs.Ytlbigamdlfigpaa
open Go.RowKit
end Go.Proofs.Ytlbigamdlfigpaa
namespace Go.Proofs.Ytlbigamdlfigpaa
open Go.RowKit
end Go.Proofs.Ytlbigamdlfigpaa
namespace Go.Proofs.Ytlbigamdlfigpaa
open Go.RowKit
/-- A sign of an atom. -/
def ato (c : UInt8) : Bool := decide (33 ≤ c.toNat) && decide (c.toNat ≤ 126) && !(c.toNat == 34) && !(c.toNat == 40) && !(c.toNat == 41) && !(c.toNat == 123) && !(c.toNat == 125) && !(c.toNat == 92)
def atk (s : ByteArray) : Bool := s.data.toList.all ato && (decide (1 ≤ (s.size : Int)) && decide ((s.size : Int) ≤ 40))
theorem dat_len (s : ByteArray) : s.data.toList.length = s.size := Array.length_toList
theorem dat_take (s : ByteArray) (k : Nat) (h : k < s.size) : s.data.toList.take (k + 1) = s.data.toList.take k ++ [s[k]] := by
  rw [List.take_succ_eq_append_getElem (by rw [dat_len]; exact h)]; rfl
theorem ato_take {s : ByteArray} {k : Nat} (h : k < s.size) (ha : (s.data.toList.take k).all ato = true) (hc : ato s[k] = true) : (s.data.toList.take (k + 1)).all ato = true := by
  rw [dat_take s k h, List.all_append, ha, Bool.true_and]
  show (ato s[k] && true) = true
  rw [hc]; rfl
theorem at_bad {s : ByteArray} {k : Nat} (h : k < s.size) (hc : ato s[k] = false) : atk s = false := by
  have : s.data.toList.all ato = false := by
    rw [List.all_eq_false]
    refine ⟨s[k], ?_, by simp [hc]⟩
    exact List.getElem_mem (l := s.data.toList) (n := k) (by rw [dat_len]; exact h)
  rw [atk, this]; rfl
theorem at_fin {s : ByteArray} {k : Nat} (h : ¬ k < s.size) (ha : (s.data.toList.take k).all ato = true) : atk s = (decide (1 ≤ (s.size : Int)) && decide ((s.size : Int) ≤ 40)) := by
  rw [List.take_of_length_le (by rw [dat_len]; omega)] at ha
  rw [atk, ha]; rfl
theorem at_len {s : ByteArray} (h : ¬ (1 ≤ (s.size : Int) ∧ (s.size : Int) ≤ 40)) : atk s = false := by
  have : (decide (1 ≤ (s.size : Int)) && decide ((s.size : Int) ≤ 40)) = false := by
    by_cases h1 : 1 ≤ (s.size : Int)
    · have h2 : ¬ (s.size : Int) ≤ 40 := fun x => h ⟨h1, x⟩
      simp [h2]
    · simp [h1]
  rw [atk, this, Bool.and_false]
/-- How a sign stands to an atom's bounds. -/
theorem ato_ways (b : UInt8) (c : Nat) (h : b.toNat = c) : (ato b = true ∧ 33 ≤ c ∧ c ≤ 126 ∧ c ≠ 34 ∧ c ≠ 40 ∧ c ≠ 41 ∧ c ≠ 123 ∧ c ≠ 125 ∧ c ≠ 92) ∨ (ato b = false ∧ c < 33) ∨ (ato b = false ∧ 126 < c) ∨ (ato b = false ∧ c = 34) ∨ (ato b = false ∧ c = 40) ∨ (ato b = false ∧ c = 41) ∨ (ato b = false ∧ c = 123) ∨ (ato b = false ∧ c = 125) ∨ (ato b = false ∧ c = 92) := by
  unfold ato
  rw [h]
  by_cases h1 : c < 33
  · right; left; simp; omega
  by_cases h2 : 126 < c
  · right; right; left; simp; omega
  by_cases h3 : c = 34
  · subst h3; right; right; right; left; decide
  by_cases h4 : c = 40
  · subst h4; right; right; right; right; left; decide
  by_cases h5 : c = 41
  · subst h5; right; right; right; right; right; left; decide
  by_cases h6 : c = 123
  · subst h6; right; right; right; right; right; right; left; decide
  by_cases h7 : c = 125
  · subst h7; right; right; right; right; right; right; right; left; decide
  by_cases h8 : c = 92
  · subst h8; right; right; right; right; right; right; right; right; decide
  left
  simp [h3, h4, h5, h6, h7, h8]
  omega
set_option maxHeartbeats 1600000 in
set_option maxRecDepth 100000 in
theorem specAtom_any (s : ByteArray) (w : World) (hs : s.size ≤ 1048576) :
    Calls Try.prog 6 #[.string s] w fun e w' => e = .returned (.bool (atk s)) ∧ w' = w := by
  go_enter Try.func6, Try.ntmps6
  go_wp2
  go_loopw [3] (fun iv wr => ∃ i : Nat, i ≤ s.size ∧ iv = .int .i64 (i : Int) ∧ Hid ((s.data.toList.take i).all ato = true) ∧ wr = w) (fun iv _ => s.size - (intOf iv).toNat)
  case atStart => exact ⟨0, Nat.zero_le _, rfl, rfl, rfl⟩
  case round =>
    obtain ⟨i, hi, rfl, HA, hw⟩ := hrel
    subst hw
    by_cases hlt : i < s.size
    · obtain ⟨c, hcx⟩ : ∃ c : Nat, s[i].toNat = c := ⟨_, rfl⟩
      have hcb : c < 256 := by rw [← hcx]; exact s[i].toNat_lt
      rcases ato_ways s[i] c hcx with ⟨ho, h1, h2, h3, h4, h5, h6, h7, h8⟩ | ⟨ho, h1⟩ | ⟨ho, h1⟩ | ⟨ho, h1⟩ | ⟨ho, h1⟩ | ⟨ho, h1⟩ | ⟨ho, h1⟩ | ⟨ho, h1⟩ | ⟨ho, h1⟩
      · have HO := hid ho
        clear ho
        have i3 : ((c : Int) == 34) = false := by rw [beq_eq_false_iff_ne]; omega
        have i4 : ((c : Int) == 40) = false := by rw [beq_eq_false_iff_ne]; omega
        have i5 : ((c : Int) == 41) = false := by rw [beq_eq_false_iff_ne]; omega
        have i6 : ((c : Int) == 123) = false := by rw [beq_eq_false_iff_ne]; omega
        have i7 : ((c : Int) == 125) = false := by rw [beq_eq_false_iff_ne]; omega
        have i8 : ((c : Int) == 92) = false := by rw [beq_eq_false_iff_ne]; omega
        clear h3 h4 h5 h6 h7 h8
        go_wp2
        go_roundw
        case rel => exact ⟨i + 1, by omega, by go_num, ato_take hlt HA.out HO.out, trivial⟩
        case measure => simp [intOf]; omega
      all_goals
        have HO := hid (at_bad hlt ho)
        clear ho
        try subst h1
        go_wp2
        go_ret
        exact ⟨by rw [HO.out]; rfl, rfl⟩
    · have HE := hid (at_fin hlt HA.out)
      by_cases hr : 1 ≤ (s.size : Int) ∧ (s.size : Int) ≤ 40
      · have HE2 : Hid (atk s = true) := by show _ = _; rw [HE.out]; simp only [hr.1, hr.2, decide_true, Bool.and_self]
        go_wp2_with fail
        refine (l01In_yes _ 1 40 _ hr.1 hr.2).mono ?_; rintro e w1 ⟨rfl, h1⟩
        subst h1
        go_wp2
        go_ret
        exact ⟨by rw [HE2.out]; rfl, rfl⟩
      · have HE2 := hid (at_len hr)
        go_wp2_with fail
        refine (l01In_no _ 1 40 _ (by omega)).mono ?_; rintro e w1 ⟨rfl, h1⟩
        subst h1
        go_wp2
        go_ret
        exact ⟨by rw [HE2.out]; rfl, rfl⟩
/-- A sign that may be said. -/
def prt (c : UInt8) : Bool := decide (32 ≤ c.toNat) && decide (c.toNat ≤ 126)
/-- Signs, with 92 ahead of 34 and 92. -/
def qto : List UInt8 → List UInt8
  | [] => []
  | c :: l => (if c.toNat = 34 ∨ c.toNat = 92 then [92, c] else [c]) ++ qto l
theorem qto_snoc (l : List UInt8) (c : UInt8) : qto (l ++ [c]) = qto l ++ (if c.toNat = 34 ∨ c.toNat = 92 then [92, c] else [c]) := by
  induction l with
  | nil => simp [qto]
  | cons b l ih => simp only [List.cons_append, qto, ih, List.append_assoc]
theorem qto_len (l : List UInt8) : (qto l).length ≤ 2 * l.length := by
  induction l with
  | nil => simp [qto]
  | cons b l ih =>
    simp only [qto, List.length_append, List.length_cons]
    split <;> simp <;> omega
/-- What is quoted, with the sign ahead of it. -/
def qop (l : List UInt8) : ByteArray := ⟨(34 :: qto l).toArray⟩
def qtx (s : ByteArray) : ByteArray := ⟨(34 :: (qto s.data.toList ++ [34])).toArray⟩
def qok (s : ByteArray) : Bool := s.data.toList.all prt && decide (s.size ≤ 60)
def qtR (s : ByteArray) : Value := if qok s = true then .tuple #[.string (qtx s), .bool true] else .tuple #[.string ⟨#[]⟩, .bool false]
theorem qop_size (l : List UInt8) : (qop l).size ≤ 2 * l.length + 1 := by
  show (34 :: qto l).toArray.size ≤ _
  have := qto_len l
  simp only [List.size_toArray, List.length_cons]
  omega
theorem ba_ext13 {a b : ByteArray} (h : a.data.toList = b.data.toList) : a = b := by
  cases a; cases b
  congr 1
  exact Array.toList_inj.1 h
theorem one_at (s : ByteArray) (i : Nat) (h : i < s.size) : (s.extract i (i + 1)).data.toList = [s[i]] := by
  rw [ByteArray.data_extract, Array.toList_extract, List.extract_eq_take_drop]
  rw [show i + 1 - i = 1 by omega]
  rw [List.drop_eq_getElem_cons (by rw [dat_len]; exact h)]
  rfl
theorem qop_one {s : ByteArray} {i : Nat} (h : i < s.size) (hq : ¬ (s[i].toNat = 34 ∨ s[i].toNat = 92)) : qop (s.data.toList.take i) ++ s.extract i (i + 1) = qop (s.data.toList.take (i + 1)) := by
  apply ba_ext13
  rw [ByteArray.data_append, Array.toList_append, one_at s i h, dat_take s i h]
  simp only [qop, List.toList_toArray, qto_snoc, if_neg hq, List.cons_append]
theorem qop_two {s : ByteArray} {i : Nat} (h : i < s.size) (hq : s[i].toNat = 34 ∨ s[i].toNat = 92) : qop (s.data.toList.take i) ++ ⟨#[92]⟩ ++ s.extract i (i + 1) = qop (s.data.toList.take (i + 1)) := by
  apply ba_ext13
  rw [ByteArray.data_append, Array.toList_append, ByteArray.data_append, Array.toList_append, one_at s i h, dat_take s i h]
  simp only [qop, List.toList_toArray, qto_snoc, if_pos hq, List.cons_append, List.append_assoc, List.nil_append]
theorem qop_end (s : ByteArray) : qop s.data.toList ++ ⟨#[34]⟩ = qtx s := by
  apply ba_ext13
  rw [ByteArray.data_append, Array.toList_append]
  simp only [qop, qtx, List.toList_toArray, List.cons_append]
theorem prt_take {s : ByteArray} {k : Nat} (h : k < s.size) (ha : (s.data.toList.take k).all prt = true) (hc : prt s[k] = true) : (s.data.toList.take (k + 1)).all prt = true := by
  rw [dat_take s k h, List.all_append, ha, Bool.true_and]
  show (prt s[k] && true) = true
  rw [hc]; rfl
theorem qt_bad {s : ByteArray} {k : Nat} (h : k < s.size) (hc : prt s[k] = false) : qtR s = .tuple #[.string ⟨#[]⟩, .bool false] := by
  have : s.data.toList.all prt = false := by
    rw [List.all_eq_false]
    refine ⟨s[k], ?_, by simp [hc]⟩
    exact List.getElem_mem (l := s.data.toList) (n := k) (by rw [dat_len]; exact h)
  rw [qtR, qok, this, Bool.false_and, if_neg (by decide)]
theorem qt_long {s : ByteArray} (h : ¬ s.size ≤ 60) : qtR s = .tuple #[.string ⟨#[]⟩, .bool false] := by
  rw [qtR, qok, decide_eq_false h, Bool.and_false, if_neg (by decide)]
theorem qt_yes {s : ByteArray} (ha : s.data.toList.all prt = true) (h : s.size ≤ 60) : qtR s = .tuple #[.string (qtx s), .bool true] := by
  rw [qtR, qok, ha, decide_eq_true h, Bool.and_self, if_pos rfl]
set_option maxHeartbeats 1600000 in
set_option maxRecDepth 100000 in
theorem specQuote_any (s : ByteArray) (w : World) (hs : s.size ≤ 1048576) :
    Calls Try.prog 8 #[.string s] w fun e w' => e = .returned (qtR s) ∧ w' = w := by
  go_enter Try.func8, Try.ntmps8
  go_wp2
  go_loopw [4, 5] (fun ov iv wr => ∃ (i : Nat) (o : ByteArray), i ≤ s.size ∧ ov = .string o ∧ iv = .int .i64 (i : Int) ∧ Hid (o = qop (s.data.toList.take i)) ∧ Hid ((s.data.toList.take i).all prt = true) ∧ wr = w) (fun _ iv _ => s.size - (intOf iv).toNat)
  case atStart => exact ⟨0, _, Nat.zero_le _, rfl, rfl, rfl, rfl, rfl⟩
  case round =>
    obtain ⟨i, o, hi, rfl, rfl, HO, HA, hw⟩ := hrel
    subst hw
    have hos : o.size ≤ 2097153 := by
      rw [HO.out]
      have h1 := qop_size (s.data.toList.take i)
      have h2 := List.length_take_le i s.data.toList
      omega
    by_cases hlt : i < s.size
    · obtain ⟨c, hcx⟩ : ∃ c : Nat, s[i].toNat = c := ⟨_, rfl⟩
      have hcb : c < 256 := by rw [← hcx]; exact s[i].toNat_lt
      have hlow : (c : Int) < 32 ∨ 126 < (c : Int) ∨ (32 ≤ (c : Int) ∧ (c : Int) ≤ 126) := by omega
      have hp : prt s[i] = (decide (32 ≤ c) && decide (c ≤ 126)) := by unfold prt; rw [hcx]
      have hsx : (s.extract i (i + 1)).size = 1 := by rw [ByteArray.size_extract]; omega
      rcases hlow with h1 | h1 | ⟨h1, h2⟩
      · have HB := hid (qt_bad hlt (by rw [hp]; simp; omega))
        clear hp hsx
        go_wp2
        go_ret2
        exact ⟨by rw [HB.out]; rfl, rfl⟩
      · have HB := hid (qt_bad hlt (by rw [hp]; simp; omega))
        clear hp hsx
        go_wp2
        go_ret2
        exact ⟨by rw [HB.out]; rfl, rfl⟩
      · have HP : Hid (prt s[i] = true) := by show _ = _; rw [hp]; simp; omega
        clear hp
        by_cases h3 : c = 34 ∨ c = 92
        · have HN := hid (qop_two hlt (by rw [hcx]; exact h3))
          rw [← HO.out] at HN
          have h9 : o.size + 1 ≤ 9223372036854775807 := by omega
          rcases h3 with rfl | rfl
          all_goals
            go_wp2
            go_roundw
            case rel => exact ⟨i + 1, _, by omega, rfl, by go_num, HN.out, prt_take hlt HA.out HP.out, trivial⟩
            case measure => simp [intOf]; omega
        · have HN := hid (qop_one hlt (by rw [hcx]; exact h3))
          rw [← HO.out] at HN
          have i3 : ((c : Int) == 34) = false := by rw [beq_eq_false_iff_ne]; omega
          have i4 : ((c : Int) == 92) = false := by rw [beq_eq_false_iff_ne]; omega
          clear h3
          go_wp2
          go_roundw
          case rel => exact ⟨i + 1, _, by omega, rfl, by go_num, HN.out, prt_take hlt HA.out HP.out, trivial⟩
          case measure => simp [intOf]; omega
    · have HAA : Hid (s.data.toList.all prt = true) := by
        have := HA.out
        rwa [List.take_of_length_le (by rw [dat_len]; omega)] at this
      have HOO : Hid (o ++ ⟨#[34]⟩ = qtx s) := by
        show _ = _
        rw [HO.out, List.take_of_length_le (by rw [dat_len]; omega)]
        exact qop_end s
      by_cases hr : s.size ≤ 60
      · have HE := hid (qt_yes HAA.out hr)
        go_wp2
        go_ret2
        exact ⟨by rw [HE.out, ← HOO.out]; rfl, rfl⟩
      · have HE := hid (qt_long hr)
        go_wp2
        go_ret2
        exact ⟨by rw [HE.out]; rfl, rfl⟩
theorem plainSign_any (r : Int) (w : World) : Calls Try.prog 18 #[.int .i32 r] w fun e w' => e = .returned (.bool (decide (32 ≤ r) && decide (r ≤ 126))) ∧ w' = w := by
  by_cases h1 : 32 ≤ r
  · by_cases h2 : r ≤ 126
    · have HA : Hid ((decide (32 ≤ r) && decide (r ≤ 126)) = true) := hid (by rw [decide_eq_true h1, decide_eq_true h2]; rfl)
      rw [HA.out]
      go_enter Try.func18, Try.ntmps18
      go_wp2
      go_ret
      exact ⟨rfl, rfl⟩
    · have HA : Hid ((decide (32 ≤ r) && decide (r ≤ 126)) = false) := hid (by rw [decide_eq_false h2, Bool.and_false])
      rw [HA.out]
      go_enter Try.func18, Try.ntmps18
      go_wp2
      go_ret
      exact ⟨rfl, rfl⟩
  · have HA : Hid ((decide (32 ≤ r) && decide (r ≤ 126)) = false) := hid (by rw [decide_eq_false h1, Bool.false_and])
    rw [HA.out]
    go_enter Try.func18, Try.ntmps18
    go_wp2
    go_ret
    exact ⟨rfl, rfl⟩
theorem turnedSign_any (r : Int) (w : World) : Calls Try.prog 19 #[.int .i32 r] w fun e w' => e = .returned (.bool ((r == 34) || (r == 92))) ∧ w' = w := by
  by_cases h1 : r = 34
  · subst h1
    go_enter Try.func19, Try.ntmps19
    go_wp2
    go_ret
    exact ⟨rfl, rfl⟩
  · have i1 : (r == 34) = false := by rw [beq_eq_false_iff_ne]; exact h1
    have HA : Hid (((r == 34) || (r == 92)) = (r == 92)) := hid (by rw [i1]; rfl)
    rw [HA.out]
    go_enter Try.func19, Try.ntmps19
    go_wp2
    go_ret
    exact ⟨rfl, rfl⟩
theorem idxLite_any (s : ByteArray) (c : Int) (w : World) :
    Calls Try.prog 49 #[.string s, .int .u8 c] w fun e w' => e = .returned (.int .i64 (firstIdx s c.toNat.toUInt8)) ∧ w' = w := by
  go_enter Try.func49, Try.ntmps49
  go_wp2
  rw [run_callFunc_extern Try.func53 (by kernel_rfl) (by kernel_rfl) (by kernel_rfl) (e := Extern.BytealgIndexByte.indexByte) (by kernel_rfl), run_indexByte_string]
  simp only [Result.andThen]
  rw [Oper.upon_value]
  go_wp2
  go_ret
  exact ⟨rfl, rfl⟩
theorem idxByte_any (s : ByteArray) (c : Int) (w : World) :
    Calls Try.prog 41 #[.string s, .int .u8 c] w fun e w' => e = .returned (.int .i64 (firstIdx s c.toNat.toUInt8)) ∧ w' = w := by
  go_enter Try.func41, Try.ntmps41
  go_wp2_with fail
  refine (idxLite_any s c _).mono ?_; rintro e w1 ⟨rfl, rfl⟩
  go_wp2
  go_ret
  exact ⟨rfl, rfl⟩
set_option maxRecDepth 100000 in
set_option maxHeartbeats 1600000 in
theorem idxRune_any (s : ByteArray) (r : Int) (w : World) (h0 : 0 ≤ r) (h1 : r < 128) :
    Calls Try.prog 36 #[.string s, .int .i32 r] w fun e w' => e = .returned (.int .i64 (firstIdx s r.toNat.toUInt8)) ∧ w' = w := by
  have hw : IntKind.u8.wrap r = r := by rw [IntKind.wrap_u8]; omega
  go_enter Try.func36, Try.ntmps36
  go_wp2_with fail
  refine (idxByte_any s r _).mono ?_; rintro e w1 ⟨rfl, rfl⟩
  go_wp2
  go_ret
  exact ⟨rfl, rfl⟩
theorem hasRune_any (s : ByteArray) (r : Int) (w : World) (h0 : 0 ≤ r) (h1 : r < 128) :
    Calls Try.prog 29 #[.string s, .int .i32 r] w fun e w' => e = .returned (.bool (s.data.toList.any (· == r.toNat.toUInt8))) ∧ w' = w := by
  have hf := hid (firstIdx_nonneg s r.toNat.toUInt8)
  obtain ⟨n, hn⟩ : ∃ n, firstIdx s r.toNat.toUInt8 = n := ⟨_, rfl⟩
  rw [hn] at hf
  have HN := hid hn
  clear hn
  go_enter Try.func29, Try.ntmps29
  go_wp2_with fail
  refine (idxRune_any s r _ h0 h1).mono ?_; rintro e w1 ⟨rfl, rfl⟩
  rw [HN.out]
  go_wp2
  go_ret
  refine ⟨?_, rfl⟩
  rw [← hf.out]
  rfl
/-- A rune that may stand in an atom. -/
def aso (r : Int) : Bool := decide (32 < r) && decide (r ≤ 126) && !([34, 40, 41, 123, 125, 92].any (fun b : UInt8 => b == r.toNat.toUInt8))
theorem atomSign_any (r : Int) (w : World) : Calls Try.prog 17 #[.int .i32 r] w fun e w' => e = .returned (.bool (aso r)) ∧ w' = w := by
  by_cases h1 : 32 < r
  · by_cases h2 : r ≤ 126
    · obtain ⟨c, hc⟩ : ∃ c : Bool, [34, 40, 41, 123, 125, 92].any (fun b : UInt8 => b == r.toNat.toUInt8) = c := ⟨_, rfl⟩
      have HA : Hid (aso r = !c) := hid (by unfold aso; rw [decide_eq_true h1, decide_eq_true h2, hc]; rfl)
      have HC := hid (fun W : World => hasRune_any ⟨#[34, 40, 41, 123, 125, 92]⟩ r W (by omega) (by omega))
      have HD : Hid ((⟨#[34, 40, 41, 123, 125, 92]⟩ : ByteArray).data.toList.any (· == r.toNat.toUInt8) = c) := hid hc
      clear hc
      rw [HA.out]
      have hp : (decide (32 ≤ r) && decide (r ≤ 126)) = true := by rw [decide_eq_true (by omega : 32 ≤ r), decide_eq_true h2]; rfl
      have HP := hid hp
      clear hp
      go_enter Try.func17, Try.ntmps17
      go_wp2_with fail
      refine (plainSign_any r _).mono ?_; rintro e w1 ⟨rfl, rfl⟩
      rw [HP.out]
      go_wp2_with fail
      refine (HC.out _).mono ?_; rintro e w2 ⟨rfl, rfl⟩
      rw [HD.out]
      go_wp2
      go_ret
      exact ⟨rfl, rfl⟩
    · have HA : Hid (aso r = false) := hid (by unfold aso; rw [decide_eq_false h2, Bool.and_false, Bool.false_and])
      have hp : (decide (32 ≤ r) && decide (r ≤ 126)) = false := by rw [decide_eq_false h2, Bool.and_false]
      have HP := hid hp
      clear hp
      rw [HA.out]
      go_enter Try.func17, Try.ntmps17
      go_wp2_with fail
      refine (plainSign_any r _).mono ?_; rintro e w1 ⟨rfl, rfl⟩
      rw [HP.out]
      go_wp2
      go_ret
      exact ⟨rfl, rfl⟩
  · have HA : Hid (aso r = false) := hid (by unfold aso; rw [decide_eq_false h1, Bool.false_and, Bool.false_and])
    rw [HA.out]
    go_enter Try.func17, Try.ntmps17
    go_wp2
    go_ret
    exact ⟨rfl, rfl⟩
/-- How many bytes stand ahead of the first one that is none of these. -/
def lead (p : Nat → Bool) (s : ByteArray) : Nat := (s.data.toList.takeWhile (fun b => p b.toNat)).length
theorem tw_stop {α : Type} (q : α → Bool) : ∀ (l : List α) (i : Nat), (l.take i).all q = true → (∀ x, l[i]? = some x → q x = false) → i ≤ l.length → (l.takeWhile q).length = i
  | [], i, _, _, h => by simp at h; simp [h]
  | x :: l, 0, _, h, _ => by
    have := h x rfl
    simp [this]
  | x :: l, i + 1, ha, h, hl => by
    simp only [List.take_succ_cons, List.all_cons, Bool.and_eq_true] at ha
    have := tw_stop q l i ha.2 (fun y hy => h y (by simpa using hy)) (by simpa using hl)
    simp [ha.1, this]
theorem lead_stop {p : Nat → Bool} {s : ByteArray} {i : Nat} (h : i < s.size) (ha : (s.data.toList.take i).all (fun b => p b.toNat) = true) (hc : p s[i].toNat = false) : lead p s = i := by
  refine tw_stop _ _ _ ha ?_ (by rw [dat_len]; omega)
  intro x hx
  have h2 : s.data.toList[i]? = some s[i] := by
    rw [List.getElem?_eq_getElem (by rw [dat_len]; exact h)]; rfl
  rw [h2] at hx
  cases hx
  exact hc
theorem lead_all {p : Nat → Bool} {s : ByteArray} {i : Nat} (h : ¬ i < s.size) (ha : (s.data.toList.take i).all (fun b => p b.toNat) = true) : lead p s = s.size := by
  rw [List.take_of_length_le (by rw [dat_len]; omega)] at ha
  unfold lead
  have key : ∀ l : List UInt8, l.all (fun b => p b.toNat) = true → l.takeWhile (fun b => p b.toNat) = l := by
    intro l
    induction l with
    | nil => intro _; rfl
    | cons x l ih =>
      intro h
      rw [List.all_cons, Bool.and_eq_true] at h
      rw [List.takeWhile_cons, if_pos h.1, ih h.2]
  rw [key _ ha, dat_len]
theorem lead_le (p : Nat → Bool) (s : ByteArray) : lead p s ≤ s.size := by
  unfold lead
  rw [← dat_len s]
  exact List.Sublist.length_le (List.takeWhile_sublist _)
theorem led_take {p : Nat → Bool} {s : ByteArray} {k : Nat} (h : k < s.size) (ha : (s.data.toList.take k).all (fun b => p b.toNat) = true) (hc : p s[k].toNat = true) : (s.data.toList.take (k + 1)).all (fun b => p b.toNat) = true := by
  rw [dat_take s k h, List.all_append, ha, Bool.true_and]
  simp [hc]
set_option maxHeartbeats 1600000 in
set_option maxRecDepth 100000 in
/-- signsAhead over a function that tells bytes of one sign apart and takes no greater rune. -/
theorem signsAhead_any (F : Nat) (p : Nat → Bool) (eg : ∀ args w, (callFunc F args).run Try.prog w = .ok (.enter F args) w)
    (hF : ∀ (r : Nat) (W : World), Calls Try.prog F (#[.int .i32 (r : Int)] ++ #[]) W fun e w' => e = .returned (.bool (p r)) ∧ w' = W) (hp : ∀ r, 128 ≤ r → p r = false)
    (s : ByteArray) (w : World) (_hs : s.size ≤ 1048576) :
    Calls Try.prog 16 #[.string s, .func (.func F) #[] #[]] w fun e w' => e = .returned (.int .i64 (lead p s : Nat)) ∧ Below w.heap.size w w' := by
  have HP := hid hp
  clear hp
  go_enter Try.func16, Try.ntmps16
  go_wp2
  go_loopw [5, 6] (fun _ _ wr => ∃ pos : Nat, pos ≤ s.size ∧ Hid ((s.data.toList.take pos).all (fun b => p b.toNat) = true) ∧ wr.heap[w.heap.size]? = some (.stringIter s pos) ∧ Below w.heap.size w wr) (fun _ _ wr => s.size - wr.iterPos w.heap.size)
  case atStart => exact ⟨0, Nat.zero_le _, rfl, by simpa using World.iter_heap w s 0, bpush (bre _) _⟩
  case round =>
    obtain ⟨pos, hle, HA, hit, hbw⟩ := hrel
    have HB := hid hbw
    clear hbw
    by_cases hlt : pos < s.size
    · obtain ⟨r, hr⟩ : ∃ r : Nat, (Utf8.decode s pos).1 = r := ⟨_, rfl⟩
      obtain ⟨d, hd⟩ : ∃ d : Nat, (Utf8.decode s pos).2 = d := ⟨_, rfl⟩
      have hnx : ∀ ty, (Instr.next (.pointer (some ⟨w.heap.size, 0, none⟩)) true ty).run Try.prog wr = _ := fun ty => Lib.run_next_any_at wr w.heap.size s pos ty hit hlt
      rw [hr, hd] at hnx
      have hit2 := Lib.iterAt_heap wr w.heap.size s pos (pos + d) hit
      have HB2 := hid (Lib.below_iterAt HB.out (Nat.le_refl _) s (pos + d))
      have HR : Hid (p r = p s[pos].toNat ∧ (p r = true → d = 1)) := by
        by_cases h1 : s[pos].toNat < 128
        · have h2 := decode_ascii s pos hlt h1
          rw [h2] at hr hd
          simp only at hr hd
          subst hr hd
          exact ⟨rfl, fun _ => rfl⟩
        · have h2 := (decode_high s pos hlt (by omega)).1
          rw [hr] at h2
          have h3 := HP.out r h2
          exact ⟨by rw [h3, HP.out _ (by omega)], fun h => by rw [h3] at h; cases h⟩
      clear hr hd
      obtain ⟨c, hc⟩ : ∃ c, p r = c := ⟨_, rfl⟩
      rw [hc] at HR
      have HC := hid hc
      clear hc
      go_wp2_with fail
      refine (hF r _).mono ?_; rintro e w1 ⟨rfl, rfl⟩
      rw [HC.out]
      cases c with
      | true =>
        have hd1 := HR.out.2 rfl
        subst hd1
        have HN := hid (led_take hlt HA.out HR.out.1.symm)
        go_wp2
        go_roundw
        case rel => exact ⟨pos + 1, by omega, HN.out, hit2, HB2.out⟩
        case measure =>
          have e1 : ((wr.iterAt w.heap.size s (pos + 1)).iterPos w.heap.size) = pos + 1 := by simp only [World.iterPos, hit2]
          have e2 : wr.iterPos w.heap.size = pos := by simp only [World.iterPos, hit]
          rw [e1, e2]
          omega
      | false =>
        have HN := hid (lead_stop hlt HA.out HR.out.1.symm)
        go_wp2
        go_ret
        exact ⟨by rw [HN.out]; rfl, HB2.out⟩
    · have hnx : ∀ ty, (Instr.next (.pointer (some ⟨w.heap.size, 0, none⟩)) true ty).run Try.prog wr = _ := fun ty => Lib.run_next_end_at wr w.heap.size s pos ty hit hlt
      have HN := hid (lead_all hlt HA.out)
      go_wp2
      go_ret
      exact ⟨by rw [HN.out]; rfl, HB.out⟩
set_option maxRecDepth 100000 in
theorem aso_ato (b : UInt8) : aso (b.toNat : Int) = ato b := by
  obtain ⟨c, hc⟩ : ∃ c : Nat, b.toNat = c := ⟨_, rfl⟩
  have hb : b = c.toUInt8 := by rw [← hc]; simp
  have hl : c < 256 := by rw [← hc]; exact b.toNat_lt
  subst hb
  have key : ∀ c : Fin 256, aso ((c : Nat).toUInt8.toNat : Int) = ato (c : Nat).toUInt8 := by decide
  exact key ⟨c, hl⟩
theorem aso_high (r : Nat) (h : 128 ≤ r) : aso (r : Int) = false := by
  unfold aso
  rw [decide_eq_false (by omega : ¬ (r : Int) ≤ 126), Bool.and_false, Bool.false_and]
theorem aso_all : ∀ l : List UInt8, l.all (fun b => aso (b.toNat : Int)) = l.all ato := by
  intro l
  induction l with
  | nil => rfl
  | cons x l ih => rw [List.all_cons, List.all_cons, aso_ato, ih]
theorem tw_all {α : Type} (q : α → Bool) : ∀ l : List α, (l.takeWhile q).all q = true
  | [] => rfl
  | x :: l => by
    rw [List.takeWhile_cons]
    cases h : q x with
    | true => simp [h, tw_all q l]
    | false => rfl
def lda (s : ByteArray) : Nat := lead (fun r => aso (r : Int)) s
theorem lda_any (s : ByteArray) (w : World) (hs : s.size ≤ 1048576) :
    Calls Try.prog 16 #[.string s, .func (.func 17) #[] #[]] w fun e w' => e = .returned (.int .i64 (lda s : Nat)) ∧ Below w.heap.size w w' :=
  signsAhead_any 17 (fun r => aso (r : Int)) (enters_of Try.func17 (by kernel_rfl) rfl) (fun r W => atomSign_any r W) aso_high s w hs
theorem lda_size (s : ByteArray) : (lda s == s.size) = s.data.toList.all ato := by
  rw [← aso_all s.data.toList]
  cases h : s.data.toList.all (fun b => aso (b.toNat : Int)) with
  | true =>
    have := lead_all (p := fun r => aso (r : Int)) (s := s) (i := s.size) (by omega) (by rw [List.take_of_length_le (by rw [dat_len]; omega)]; exact h)
    unfold lda
    rw [this]
    simp
  | false =>
    rw [beq_eq_false_iff_ne]
    intro he
    have hx : (s.data.toList.takeWhile (fun b => aso (b.toNat : Int))).length = s.data.toList.length := by rw [dat_len]; exact he
    have hy := (List.takeWhile_sublist (l := s.data.toList) (fun b => aso (b.toNat : Int))).eq_of_length hx
    have hz : s.data.toList.all (fun b => aso (b.toNat : Int)) = true := by
      rw [← hy]
      exact tw_all _ _
    rw [h] at hz
    cases hz
set_option maxHeartbeats 1600000 in
set_option maxRecDepth 100000 in
theorem implAtom_any (s : ByteArray) (w : World) (hs : s.size ≤ 1048576) : Calls Try.prog 7 #[.string s] w fun e w' => e = .returned (.bool (atk s)) ∧ Below w.heap.size w w' := by
  have HL := hid (fun W : World => lda_any s W hs)
  obtain ⟨n, hn⟩ : ∃ n, lda s = n := ⟨_, rfl⟩
  have hz := lda_size s
  rw [hn] at HL hz
  have hle : n ≤ s.size := by rw [← hn]; exact lead_le _ _
  clear hn
  by_cases h0 : s.size = 0
  · have hs0 : s = ⟨#[]⟩ := by
      cases s; simp only [ByteArray.mk.injEq]; simpa [ByteArray.size] using h0
    subst hs0
    have HA : Hid (atk ⟨#[]⟩ = false) := hid (at_len (fun h => absurd h.1 (by decide)))
    rw [HA.out]
    clear hz hle h0
    go_enter Try.func7, Try.ntmps7
    go_wp2
    go_ret
    exact ⟨rfl, bre _⟩
  · have hne : s.toList.isEmpty = false := by
      rw [ByteArray.toList_eq]
      cases hl : s.data.toList with
      | nil => exact absurd (by rw [← dat_len s, hl]; rfl) h0
      | cons => rfl
    by_cases h1 : (s.size : Int) ≤ 40
    · have HA : Hid (atk s = (n == s.size)) := hid (by unfold atk; rw [← hz, decide_eq_true h1, decide_eq_true (by omega : (1 : Int) ≤ s.size), Bool.and_self, Bool.and_true])
      by_cases h2 : n = s.size
      · have HB : Hid (atk s = true) := hid (by rw [HA.out, h2]; simp)
        rw [HB.out]
        clear hz
        go_enter Try.func7, Try.ntmps7
        go_wp2_with fail
        refine (HL.out _).mono ?_; rintro e w1 ⟨rfl, hb⟩
        have HBL := hid hb
        clear hb
        subst h2
        go_wp2
        go_ret
        exact ⟨rfl, HBL.out⟩
      · have HB : Hid (atk s = false) := hid (by rw [HA.out]; rw [beq_eq_false_iff_ne]; exact h2)
        rw [HB.out]
        have i2 : ((n : Int) == (s.size : Int)) = false := by rw [beq_eq_false_iff_ne]; omega
        clear hz
        go_enter Try.func7, Try.ntmps7
        go_wp2_with fail
        refine (HL.out _).mono ?_; rintro e w1 ⟨rfl, hb⟩
        have HBL := hid hb
        clear hb
        go_wp2
        go_ret
        exact ⟨rfl, HBL.out⟩
    · have HA : Hid (atk s = false) := hid (at_len (fun h => h1 h.2))
      rw [HA.out]
      clear hz
      go_enter Try.func7, Try.ntmps7
      go_wp2
      go_ret
      exact ⟨rfl, bre _⟩
theorem encode_one (c : Nat) (h : c < 128) : Utf8.encode (c : Int) = ⟨#[c.toUInt8]⟩ := by
  have hv : Utf8.valid (c : Int) = true := by rw [validRune_eq]; unfold validRune; rw [decide_eq_true_iff]; omega
  unfold Utf8.encode
  simp only [hv, if_true, Int.toNat_natCast, h, Nat.toUInt8]
theorem encode_at {s : ByteArray} {i c : Nat} (h : i < s.size) (hc : s[i].toNat = c) (h2 : c < 128) : Utf8.encode (c : Int) = s.extract i (i + 1) := by
  apply ba_ext13
  rw [encode_one c h2, one_at s i h, ← hc]
  simp
theorem qop_one' {s : ByteArray} {i c : Nat} (h : i < s.size) (hc : s[i].toNat = c) (h2 : c < 128) (hq : ¬ (c = 34 ∨ c = 92)) : qop (s.data.toList.take i) ++ Utf8.encode (c : Int) = qop (s.data.toList.take (i + 1)) := by
  rw [encode_at h hc h2]
  exact qop_one h (by rw [hc]; exact hq)
theorem qop_two' {s : ByteArray} {i c : Nat} (h : i < s.size) (hc : s[i].toNat = c) (h2 : c < 128) (hq : c = 34 ∨ c = 92) : qop (s.data.toList.take i) ++ ⟨#[92]⟩ ++ Utf8.encode (c : Int) = qop (s.data.toList.take (i + 1)) := by
  rw [encode_at h hc h2]
  exact qop_two h (by rw [hc]; exact hq)
theorem encode_size {c : Nat} (h : c < 128) : (Utf8.encode (c : Int)).size = 1 := by rw [encode_one c h]; rfl
set_option maxHeartbeats 1600000 in
set_option maxRecDepth 100000 in
theorem implQuote_any (s : ByteArray) (w : World) (_hs : s.size ≤ 1048576) : Calls Try.prog 9 #[.string s] w fun e w' => e = .returned (qtR s) ∧ Below w.heap.size w w' := by
  by_cases hl : s.size ≤ 60
  · go_enter Try.func9, Try.ntmps9
    go_wp2
    go_loopw [4, 6] (fun ov _ wr => ∃ (pos : Nat) (o : ByteArray), pos ≤ s.size ∧ ov = .string o ∧ Hid (o = qop (s.data.toList.take pos)) ∧ Hid ((s.data.toList.take pos).all prt = true) ∧ wr.heap[w.heap.size]? = some (.stringIter s pos) ∧ Below w.heap.size w wr) (fun _ _ wr => s.size - wr.iterPos w.heap.size)
    case atStart => exact ⟨0, _, Nat.zero_le _, rfl, rfl, rfl, by simpa using World.iter_heap w s 0, bpush (bre _) _⟩
    case round =>
      obtain ⟨pos, o, hle, rfl, HO, HA, hit, hbw⟩ := hrel
      have HB := hid hbw
      clear hbw
      have hos : o.size ≤ 1000 := by
        rw [HO.out]
        have h1 := qop_size (s.data.toList.take pos)
        have h2 := List.length_take_le pos s.data.toList
        omega
      by_cases hlt : pos < s.size
      · obtain ⟨r, hr⟩ : ∃ r : Nat, (Utf8.decode s pos).1 = r := ⟨_, rfl⟩
        obtain ⟨d, hd⟩ : ∃ d : Nat, (Utf8.decode s pos).2 = d := ⟨_, rfl⟩
        have hnx : ∀ ty, (Instr.next (.pointer (some ⟨w.heap.size, 0, none⟩)) true ty).run Try.prog wr = _ := fun ty => Lib.run_next_any_at wr w.heap.size s pos ty hit hlt
        rw [hr, hd] at hnx
        have hit2 := Lib.iterAt_heap wr w.heap.size s pos (pos + d) hit
        have HB2 := hid (Lib.below_iterAt HB.out (Nat.le_refl _) s (pos + d))
        have HR : Hid ((s[pos].toNat = r ∧ d = 1 ∧ r < 128) ∨ (128 ≤ r ∧ prt s[pos] = false)) := by
          by_cases h1 : s[pos].toNat < 128
          · have h2 := decode_ascii s pos hlt h1
            rw [h2] at hr hd
            simp only at hr hd
            subst hr hd
            exact .inl ⟨rfl, rfl, h1⟩
          · have h2 := (decode_high s pos hlt (by omega)).1
            rw [hr] at h2
            refine .inr ⟨h2, ?_⟩
            unfold prt
            rw [decide_eq_false (by omega : ¬ s[pos].toNat ≤ 126), Bool.and_false]
        clear hr hd
        obtain ⟨p, hp⟩ : ∃ p, (decide (32 ≤ (r : Int)) && decide ((r : Int) ≤ 126)) = p := ⟨_, rfl⟩
        have HP := hid hp
        clear hp
        cases p with
        | false =>
          have HQ : Hid (qtR s = .tuple #[.string ⟨#[]⟩, .bool false]) := by
            refine qt_bad hlt ?_
            rcases HR.out with ⟨h1, h2, h3⟩ | ⟨h1, h2⟩
            · unfold prt
              rw [h1]
              have := HP.out
              simp only [Bool.and_eq_false_iff, decide_eq_false_iff_not] at this
              simp only [Bool.and_eq_false_iff, decide_eq_false_iff_not]
              omega
            · exact h2
          go_wp2_with fail
          refine (plainSign_any r _).mono ?_; rintro e w1 ⟨rfl, rfl⟩
          rw [HP.out]
          go_wp2
          go_ret2
          exact ⟨by rw [HQ.out]; rfl, HB2.out⟩
        | true =>
          have hb1 : 32 ≤ (r : Int) ∧ (r : Int) ≤ 126 := by
            have := HP.out
            simp only [Bool.and_eq_true, decide_eq_true_eq] at this
            exact this
          have hr1 : s[pos].toNat = r ∧ d = 1 := by
            rcases HR.out with ⟨h1, h2, h3⟩ | ⟨h1, h2⟩
            · exact ⟨h1, h2⟩
            · omega
          obtain ⟨hr1, rfl⟩ := hr1
          have HR1 := hid hr1
          clear hr1
          have HN := hid (prt_take hlt HA.out (by unfold prt; rw [HR1.out, decide_eq_true (by omega : 32 ≤ r), decide_eq_true (by omega : r ≤ 126)]; rfl))
          have he1 := encode_size (c := r) (by omega)
          go_wp2_with fail
          refine (plainSign_any r _).mono ?_; rintro e w1 ⟨rfl, rfl⟩
          rw [HP.out]
          by_cases hq : r = 34 ∨ r = 92
          · have HT : Hid ((((r : Int) == 34) || ((r : Int) == 92)) = true) := hid (by rcases hq with rfl | rfl <;> rfl)
            have HO2 : Hid (o ++ ⟨#[92]⟩ ++ Utf8.encode (r : Int) = qop (s.data.toList.take (pos + 1))) := by rw [HO.out]; exact qop_two' hlt HR1.out (by omega) hq
            have h9 : (o ++ ⟨#[92]⟩ : ByteArray).size ≤ 1001 := by rw [ByteArray.size_append]; show o.size + 1 ≤ _; omega
            clear hq
            go_wp2_with fail
            refine (turnedSign_any r _).mono ?_; rintro e w1 ⟨rfl, rfl⟩
            rw [HT.out]
            go_wp2
            go_roundw
            case rel => exact ⟨pos + 1, _, by omega, rfl, HO2.out, HN.out, hit2, HB2.out⟩
            case measure =>
              have e1 : ((wr.iterAt w.heap.size s (pos + 1)).iterPos w.heap.size) = pos + 1 := by simp only [World.iterPos, hit2]
              have e2 : wr.iterPos w.heap.size = pos := by simp only [World.iterPos, hit]
              rw [e1, e2]
              omega
          · have HT : Hid ((((r : Int) == 34) || ((r : Int) == 92)) = false) := hid (by rw [Bool.or_eq_false_iff, beq_eq_false_iff_ne, beq_eq_false_iff_ne]; omega)
            have HO2 : Hid (o ++ Utf8.encode (r : Int) = qop (s.data.toList.take (pos + 1))) := by rw [HO.out]; exact qop_one' hlt HR1.out (by omega) hq
            clear hq
            go_wp2_with fail
            refine (turnedSign_any r _).mono ?_; rintro e w1 ⟨rfl, rfl⟩
            rw [HT.out]
            go_wp2
            go_roundw
            case rel => exact ⟨pos + 1, _, by omega, rfl, HO2.out, HN.out, hit2, HB2.out⟩
            case measure =>
              have e1 : ((wr.iterAt w.heap.size s (pos + 1)).iterPos w.heap.size) = pos + 1 := by simp only [World.iterPos, hit2]
              have e2 : wr.iterPos w.heap.size = pos := by simp only [World.iterPos, hit]
              rw [e1, e2]
              omega
      · have hnx : ∀ ty, (Instr.next (.pointer (some ⟨w.heap.size, 0, none⟩)) true ty).run Try.prog wr = _ := fun ty => Lib.run_next_end_at wr w.heap.size s pos ty hit hlt
        have HAA : Hid (s.data.toList.all prt = true) := by
          have := HA.out
          rwa [List.take_of_length_le (by rw [dat_len]; omega)] at this
        have HOO : Hid (o ++ ⟨#[34]⟩ = qtx s) := by
          show _ = _
          rw [HO.out, List.take_of_length_le (by rw [dat_len]; omega)]
          exact qop_end s
        have HE := hid (qt_yes HAA.out hl)
        go_wp2
        go_ret2
        exact ⟨by rw [HE.out, ← HOO.out]; rfl, HB.out⟩
  · have HE := hid (qt_long hl)
    rw [HE.out]
    go_enter Try.func9, Try.ntmps9
    go_wp2
    go_ret2
    exact ⟨rfl, bre _⟩
set_option maxRecDepth 100000 in
theorem lawAtom_any (s : ByteArray) (w : World) (htx : (s.size : Int) ≤ 9223372036854775807) :
    Calls Try.prog 3 #[.string s] w fun e w' => e = .returned (.bool true) ∧ Below w.heap.size w w' := by
  by_cases hbt : (1048576 : Int) < (s.size : Int)
  · go_enter Try.func3, Try.ntmps3
    go_wp2
    go_ret
    exact ⟨rfl, bre _⟩
  obtain ⟨r, hr⟩ : ∃ r, atk s = r := ⟨_, rfl⟩
  have HR := hid hr
  clear hr
  have xx : (r != r) = false := by simp
  go_enter Try.func3, Try.ntmps3
  go_wp2_with fail
  refine (specAtom_any s _ (by omega)).mono ?_; rintro e w1 ⟨rfl, h1⟩
  subst h1
  rw [HR.out]
  go_wp2_with fail
  refine (implAtom_any s _ (by omega)).mono ?_; rintro e w2 ⟨rfl, hb⟩
  rw [HR.out]
  have HB := hid hb
  clear hb
  go_wp2
  go_ret
  exact ⟨rfl, HB.out⟩
theorem qtR_k (s : ByteArray) : ∃ (x : ByteArray) (c : Bool), qtR s = .tuple #[.string x, .bool c] := by
  unfold qtR
  split
  · exact ⟨_, _, rfl⟩
  · exact ⟨_, _, rfl⟩
set_option maxRecDepth 100000 in
theorem lawQuote_any (s : ByteArray) (w : World) (htx : (s.size : Int) ≤ 9223372036854775807) :
    Calls Try.prog 4 #[.string s] w fun e w' => e = .returned (.bool true) ∧ Below w.heap.size w w' := by
  by_cases hbt : (1048576 : Int) < (s.size : Int)
  · go_enter Try.func4, Try.ntmps4
    go_wp2
    go_ret
    exact ⟨rfl, bre _⟩
  obtain ⟨x, r, hr⟩ := qtR_k s
  have HR := hid hr
  clear hr
  have xx : (r != r) = false := by simp
  have yy : (!x.toList == x.toList) = false := by simp
  go_enter Try.func4, Try.ntmps4
  go_wp2_with fail
  refine (specQuote_any s _ (by omega)).mono ?_; rintro e w1 ⟨rfl, h1⟩
  subst h1
  rw [HR.out]
  go_wp2_with fail
  refine (implQuote_any s _ (by omega)).mono ?_; rintro e w2 ⟨rfl, hb⟩
  rw [HR.out]
  have HB := hid hb
  clear hb
  go_wp2
  go_ret
  exact ⟨rfl, HB.out⟩
end Go.Proofs.Ytlbigamdlfigpaa
