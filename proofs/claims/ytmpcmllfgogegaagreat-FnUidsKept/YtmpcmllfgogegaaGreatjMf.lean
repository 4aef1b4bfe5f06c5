/- Mf. -/
import Derived.Test.YtmpcmllfgogegaaGreatjMe
import Derived.Lib.ConvBytes
namespace Go.Proofs.YtmpcmllfgogegaaGreat
open Go.RowKit
theorem pick_any (cb g k z : Nat) (zs : List ByteArray) (ao : Option Addr) (n cap : Nat) (w : World) (hn : n ≤ 1048576) (hcur : Cur w cb ao n cap) (hcode : Code w cb ao n) (hk : zs.length = k) (hk0 : 0 < k) (hk2 : k ≤ 1000) (hg : g ≠ cb) (hz : ∀ y ∈ zs, y.size ≤ z)
  (hcell : ∀ i (h : i < zs.length), w.cell? ⟨g, i, none⟩ = some (.string zs[i])) :
  Calls Tryz.prog 115 #[.pointer (some ⟨cb, 0, none⟩), .slice (some ⟨g, 0, none⟩) k k] w fun e w' => ∃ x : ByteArray, x.size ≤ z ∧ e = .returned (.string x) ∧ Cur w' cb ao n cap ∧ w.grownBy w' (some cb) := by
 have HC := hide hcur
 have HO := hide hcode
 have HK := hide hk
 have HZ := hide hz
 have HCELL := hide hcell
 clear hcur hcode hk hcell hz
 go_enter Tryz.func115, Tryz.ntmps115
 go_wp2_with fail
 refine (below4 cb ao n cap _ hn (unhide HC) (unhide HO) k (by omega) (by omega)).mono ?_; rintro e w1 ⟨x, hx, rfl, hc1, hb1⟩
 have hxl : x < zs.length := by rw [unhide HK]; omega
 obtain ⟨y, hy⟩ : ∃ y, zs[x] = y := ⟨_, rfl⟩
 have hc : w1.cell? ⟨g, x, none⟩ = some (.string y) := hb1.cell (by rw [← hy]; exact unhide HCELL x hxl) (by simp; omega)
 have HY : Hid (y.size ≤ z) := by show _ ≤ _; rw [← hy]; exact unhide HZ _ (List.getElem_mem _)
 have HC1 := hide hc1
 have hI : (0 : Int) ≤ (x : Int) ∧ (x : Int) < (k : Int) := by omega
 clear hc1 hy
 go_wp2
 go_ret
 exact ⟨y, HY.out, rfl, unhide HC1, hb1⟩
theorem six_texts (w : World) (e : Nat) (a b c d f g : ByteArray) : ∀ i (h : i < [a, b, c, d, f, g].length), (w.alloc (.cells #[.string a, .string b, .string c, .string d, .string f, .string g] e)).cell? ⟨w.heap.size, i, none⟩ = some (.string [a, b, c, d, f, g][i]) := by
 intro i hi
 have h := heap_alloc_new w (.cells #[.string a, .string b, .string c, .string d, .string f, .string g] e)
 have h2 : i = 0 ∨ i = 1 ∨ i = 2 ∨ i = 3 ∨ i = 4 ∨ i = 5 := by simp at hi; omega
 rcases h2 with rfl | rfl | rfl | rfl | rfl | rfl
 ·exact cell_of_row _ _ 0 _ _ _ h
 ·exact cell_of_row _ _ 1 _ _ _ h
 ·exact cell_of_row _ _ 2 _ _ _ h
 ·exact cell_of_row _ _ 3 _ _ _ h
 ·exact cell_of_row _ _ 4 _ _ _ h
 ·exact cell_of_row _ _ 5 _ _ _ h
theorem l05Text_any (cb : Nat) (ao : Option Addr) (n cap : Nat) (w : World) (hn : n ≤ 1048576) (hcur : Cur w cb ao n cap) (hcode : Code w cb ao n) :
  Calls Tryz.prog 75 #[.pointer (some ⟨cb, 0, none⟩)] w fun e w' => ∃ x : ByteArray, x.size ≤ 20 ∧ e = .returned (.string x) ∧ Cur w' cb ao n cap ∧ w.grownBy w' (some cb) := by
 have hlt := hcur.lt
 have HC := hid hcur
 have HO := hid hcode
 clear hcur hcode
 go_enter Tryz.func75, Tryz.ntmps75
 go_wp2_with fail
 refine (pick_any cb w.heap.size 6 20 [⟨#[104, 101, 108, 108, 111]⟩, ⟨#[104, 105, 10]⟩, ⟨#[]⟩, ⟨#[116, 101, 120, 116, 32, 111, 102, 32, 105, 116]⟩, ⟨#[0, 255]⟩, ⟨#[97, 32, 98]⟩] ao n cap _ hn (HC.out.alloc _) (HO.out.later (World.grownBy_alloc _ _ _)) rfl (by decide) (by decide) (by omega) (by decide) (six_texts w _ _ _ _ _ _ _)).mono ?_
 rintro e w1 ⟨x, hx, rfl, hc1, hb1⟩
 have HX := hid hx
 have C1 := hid hc1
 have G1 := hid (grown_push hb1)
 clear hx hc1 hb1
 go_wp2
 go_ret
 exact ⟨x, HX.out, rfl, C1.out, G1.out⟩
def Any1 (cb : Nat) (ao : Option Addr) (n cap : Nat) (w : World) (e : Ending) (w' : World) : Prop :=
 ∃ (g u : Int) (f : Value) (l : List R3) (t : ByteArray), e = .returned (.agg #[.int .i64 g, .int .i64 u, f, .string t]) ∧ Dl w' (w.heap.size + 1) f l ∧ t.size ≤ 100 ∧ Cur w' cb ao n cap ∧ w.grownBy w' (some cb)
end Go.Proofs.YtmpcmllfgogegaaGreat
namespace Go.Proofs.YtmpcmllfgogegaaGreat
open Go.RowKit
def okc (c : UInt8) : Bool := (decide (97 ≤ c.toNat) && decide (c.toNat ≤ 122)) || (decide (48 ≤ c.toNat) && decide (c.toNat ≤ 57))
def nmOk (s : ByteArray) : Bool := s.data.toList.all okc && (decide (1 ≤ (s.size : Int)) && decide ((s.size : Int) ≤ 12))
theorem data_len (s : ByteArray) : s.data.toList.length = s.size := Array.length_toList
theorem data_take (s : ByteArray) (k : Nat) (h : k < s.size) : s.data.toList.take (k + 1) = s.data.toList.take k ++ [s[k]] := by
 rw [List.take_succ_eq_append_getElem (by rw [data_len]; exact h)]; rfl
theorem okc_take {s : ByteArray} {k : Nat} (h : k < s.size) (ha : (s.data.toList.take k).all okc = true) (hc : okc s[k] = true) : (s.data.toList.take (k + 1)).all okc = true := by
 rw [data_take s k h, List.all_append, ha, Bool.true_and]
 show (okc s[k] && true) = true
 rw [hc]; rfl
theorem nm_bad {s : ByteArray} {k : Nat} (h : k < s.size) (hc : okc s[k] = false) : nmOk s = false := by
 have : s.data.toList.all okc = false := by
  rw [List.all_eq_false]
  refine ⟨s[k], ?_, by simp [hc]⟩
  exact List.getElem_mem (l := s.data.toList) (n := k) (by rw [data_len]; exact h)
 rw [nmOk, this]; rfl
theorem nm_fin {s : ByteArray} {k : Nat} (h : ¬ k < s.size) (ha : (s.data.toList.take k).all okc = true) : nmOk s = (decide (1 ≤ (s.size : Int)) && decide ((s.size : Int) ≤ 12)) := by
 rw [List.take_of_length_le (by rw [data_len]; omega)] at ha
 rw [nmOk, ha]; rfl
theorem nm_len {s : ByteArray} (h : ¬ (1 ≤ (s.size : Int) ∧ (s.size : Int) ≤ 12)) : nmOk s = false := by
 have : (decide (1 ≤ (s.size : Int)) && decide ((s.size : Int) ≤ 12)) = false := by
  by_cases h1 : 1 ≤ (s.size : Int)
  ·have h2 : ¬ (s.size : Int) ≤ 12 := fun x => h ⟨h1, x⟩
   simp [h2]
  ·simp [h1]
 rw [nmOk, this, Bool.and_false]
theorem conv_s (w : World) (s : ByteArray) : ∃ (cp : Nat) (w' : World), (convert 9 22 (.string s)).run Tryz.prog w = .ok (.slice (some ⟨w.heap.size, 0, none⟩) s.size cp) w' ∧ Below w.heap.size w w' ∧
  (∀ j (h : j < s.size), w'.cell? ⟨w.heap.size, j, none⟩ = some (.int .u8 (s[j].toNat : Int))) := by
 have h := Lib.run_convert_string_bytes (P := Tryz.prog) w 9 22 5 s Tryz.underlying9 Tryz.underlying22 Tryz.underlying5
 refine ⟨_, _, h, ⟨rfl, rfl, rfl, by rw [Lib.bytesWorld_size]; omega, fun k hk => Lib.bytesWorld_at_old w 5 _ k hk⟩, ?_⟩
 intro j hj
 rw [Lib.bytesWorld_cell w 5 s j hj]
 have e : s.data.toList.getD j 0 = s[j] := by
  rw [List.getD, List.getElem?_eq_getElem (by rw [data_len]; exact hj)]; rfl
 first
  | rw [e]
  | simp [List.getD, hj, ← e]
theorem okc_ways (b : UInt8) (c : Nat) (h : b.toNat = c) : (okc b = true ∧ 97 ≤ c ∧ c ≤ 122) ∨ (okc b = true ∧ 48 ≤ c ∧ c ≤ 57) ∨ (okc b = false ∧ c < 48) ∨ (okc b = false ∧ 57 < c ∧ c < 97) ∨ (okc b = false ∧ 122 < c) := by
 unfold okc
 rw [h]
 by_cases h1 : 97 ≤ c
 ·by_cases h2 : c ≤ 122
  ·exact .inl ⟨by simp [h1, h2], h1, h2⟩
  ·refine .inr (.inr (.inr (.inr ⟨?_, by omega⟩)))
   have h3 : ¬ c ≤ 57 := by omega
   simp [h2, h3]
 ·by_cases h2 : 48 ≤ c
  ·by_cases h3 : c ≤ 57
   ·exact .inr (.inl ⟨by simp [h2, h3], h2, h3⟩)
   ·refine .inr (.inr (.inr (.inl ⟨by simp [h1, h3], by omega, by omega⟩)))
  ·exact .inr (.inr (.inl ⟨by simp [h1, h2], by omega⟩))
set_option maxHeartbeats 800000 in
set_option maxRecDepth 100000 in
theorem specName_any (s : ByteArray) (w : World) (hs : s.size ≤ 1048576) :
  Calls Tryz.prog 99 #[.string s] w fun e w' => e = .returned (.bool (nmOk s)) ∧ Below w.heap.size w w' := by
 go_enter Tryz.func99, Tryz.ntmps99
 go_wp2
 go_loopw [3] (fun iv wr => ∃ i : Nat, i ≤ s.size ∧ iv = .int .i64 (i : Int) ∧ Hid ((s.data.toList.take i).all okc = true) ∧ wr = w) (fun iv _ => s.size - (intOf iv).toNat)
 case atStart => exact ⟨0, Nat.zero_le _, rfl, rfl, rfl⟩
 case round =>
  obtain ⟨i, hi, rfl, HA, hw⟩ := hrel
  subst hw
  by_cases hlt : i < s.size
  ·obtain ⟨c, hcx⟩ : ∃ c : Nat, s[i].toNat = c := ⟨_, rfl⟩
   have hcb : c < 256 := by rw [← hcx]; exact s[i].toNat_lt
   rcases okc_ways s[i] c hcx with ⟨ho, h1, h2⟩ | ⟨ho, h1, h2⟩ | ⟨ho, h1⟩ | ⟨ho, h1, h2⟩ | ⟨ho, h1⟩
   ·have HO := hid ho
    clear ho
    go_wp2
    go_roundw
    case rel => exact ⟨i + 1, by omega, by go_num, okc_take hlt HA.out HO.out, trivial⟩
    case measure => simp [intOf]; omega
   ·have HO := hid ho
    clear ho
    go_wp2
    go_roundw
    case rel => exact ⟨i + 1, by omega, by go_num, okc_take hlt HA.out HO.out, trivial⟩
    case measure => simp [intOf]; omega
   all_goals
    have HO := hid (nm_bad hlt ho)
    clear ho
    go_wp2
    go_ret
    exact ⟨by rw [HO.out]; rfl, bre _⟩
  ·have HE := hid (nm_fin hlt HA.out)
   by_cases hr : 1 ≤ (s.size : Int) ∧ (s.size : Int) ≤ 12
   ·have HE2 : Hid (nmOk s = true) := by show _ = _; rw [HE.out]; simp only [hr.1, hr.2, decide_true, Bool.and_self]
    go_wp2_with fail
    refine (l01In_yes _ 1 12 _ hr.1 hr.2).mono ?_; rintro e w1 ⟨rfl, h1⟩
    subst h1
    go_wp2
    go_ret
    exact ⟨by rw [HE2.out]; rfl, bre _⟩
   ·have HE2 := hid (nm_len hr)
    go_wp2_with fail
    refine (l01In_no _ 1 12 _ (by omega)).mono ?_; rintro e w1 ⟨rfl, h1⟩
    subst h1
    go_wp2
    go_ret
    exact ⟨by rw [HE2.out]; rfl, bre _⟩
set_option maxHeartbeats 800000 in
set_option maxRecDepth 100000 in
theorem implName_any (s : ByteArray) (w : World) (hs : s.size ≤ 1048576) :
  Calls Tryz.prog 47 #[.string s] w fun e w' => e = .returned (.bool (nmOk s)) ∧ Below w.heap.size w w' := by
 by_cases hr : 1 ≤ (s.size : Int) ∧ (s.size : Int) ≤ 12
 ·obtain ⟨cp, W, hcv, hbw, hcs⟩ := conv_s w s
  have HB := hid hbw
  have HC := hid hcs
  have hne : (s.toList == []) = false := by
   rw [beq_eq_false_iff_ne]
   intro e
   have e2 := congrArg List.length e
   rw [ByteArray.toList_eq, data_len] at e2
   simp only [List.length_nil] at e2
   omega
  clear hbw hcs
  go_enter Tryz.func47, Tryz.ntmps47
  go_wp2
  clear hcv hne
  go_loopw [15] (fun iv wr => ∃ i : Nat, i ≤ s.size ∧ iv = .int .i64 (i : Int) ∧ Hid ((s.data.toList.take i).all okc = true) ∧ wr = W) (fun iv _ => s.size - (intOf iv).toNat)
  case atStart => exact ⟨0, Nat.zero_le _, rfl, rfl, rfl⟩
  case round =>
   obtain ⟨i, hi, rfl, HA, hw⟩ := hrel
   subst hw
   by_cases hlt : i < s.size
   ·obtain ⟨c, hcx⟩ : ∃ c : Nat, s[i].toNat = c := ⟨_, rfl⟩
    have hcb : c < 256 := by rw [← hcx]; exact s[i].toNat_lt
    have hcell := HC.out i hlt
    have hw := okc_ways s[i] c hcx
    rw [hcx] at hcell
    have hI : (0 : Int) ≤ (i : Int) ∧ (i : Int) < (s.size : Int) := by omega
    clear hcx
    rcases hw with ⟨ho, h1, h2⟩ | ⟨ho, h1, h2⟩ | ⟨ho, h1⟩ | ⟨ho, h1, h2⟩ | ⟨ho, h1⟩
    ·have HO := hid ho
     clear ho
     go_wp2
     go_roundw
     case rel => exact ⟨i + 1, by omega, by go_num, okc_take hlt HA.out HO.out, trivial⟩
     case measure => simp [intOf]; omega
    ·have HO := hid ho
     clear ho
     go_wp2
     go_roundw
     case rel => exact ⟨i + 1, by omega, by go_num, okc_take hlt HA.out HO.out, trivial⟩
     case measure => simp [intOf]; omega
    all_goals
     have HO := hid (nm_bad hlt ho)
     clear ho
     go_wp2
     go_ret
     exact ⟨by rw [HO.out]; rfl, HB.out⟩
   ·have HE2 : Hid (nmOk s = true) := by show _ = _; rw [nm_fin hlt HA.out]; simp only [hr.1, hr.2, decide_true, Bool.and_self]
    go_wp2
    go_ret
    exact ⟨by rw [HE2.out]; rfl, HB.out⟩
 ·have HE2 := hid (nm_len hr)
  by_cases h0 : s.size = 0
  ·obtain rfl : s = ⟨#[]⟩ := ByteArray.ext (Array.eq_empty_of_size_eq_zero h0)
   clear hr h0 hs
   go_enter Tryz.func47, Tryz.ntmps47
   go_wp2
   go_ret
   exact ⟨by rw [HE2.out]; rfl, bre _⟩
  ·have h12 : 12 < (s.size : Int) := by omega
   have hne : (s.toList == []) = false := by
    rw [beq_eq_false_iff_ne]
    intro e
    have e2 := congrArg List.length e
    rw [ByteArray.toList_eq, data_len] at e2
    simp only [List.length_nil] at e2
    omega
   clear hr
   go_enter Tryz.func47, Tryz.ntmps47
   go_wp2
   go_ret
   exact ⟨by rw [HE2.out]; rfl, bre _⟩
theorem name_l (s : ByteArray) (hs : s.size ≤ 1048576) : ∃ p : Bool, Hid (p = nmOk s) ∧ Hid (∀ w, Calls Tryz.prog 99 #[.string s] w fun e w' => e = .returned (.bool p) ∧ Below w.heap.size w w') ∧ Hid (∀ w, Calls Tryz.prog 47 #[.string s] w fun e w' => e = .returned (.bool p) ∧ Below w.heap.size w w') :=
 ⟨_, rfl, fun w => specName_any s w hs, fun w => implName_any s w hs⟩
end Go.Proofs.YtmpcmllfgogegaaGreat
