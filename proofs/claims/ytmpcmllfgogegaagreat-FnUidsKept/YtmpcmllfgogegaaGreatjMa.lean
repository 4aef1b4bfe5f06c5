/- Ma, Tkk. -/
import Derived.WalkKit
import Derived.Laws.IdiomStrings
import Derived.WalkSpells
import Derived.Test.YtmpcmllfgogegaaGreatRows
import Derived.WalkLawsBesides
import Derived.Lib.Strings
import Derived.Lib.BufferWrite
import Derived.Lib.UnsafeStr
import Derived.Laws.MakeOwn
import Derived.Test.YtmpcmllfgogegaaGreatProg
import Derived.Below
import Derived.BigQuiet
import Derived.Deep.QuietTactic
import Derived.Deep.RegionHeld3
import Derived.Deep.Cut
namespace Go.Proofs.YtmpcmllfgogegaaGreat
open Go.RowKit
theorem hide {p : Prop} (h : p) : Hid p := h
theorem unhide {p : Prop} (h : Hid p) : p := h
theorem ret_int {k : IntKind} {a b : Int} (h : a = b) : Ending.returned (.int k a) = .returned (.int k b) := by rw [h]
def bv (b : UInt8) : Value := .int .u8 (b.toNat : Int)
def vbsF : Nat → Nat → List UInt8
 | 0, n => [UInt8.ofNat n]
 | f + 1, n => if 127 < n then UInt8.ofNat (n % 128 + 128) :: vbsF f (n / 128) else [UInt8.ofNat n]
def vbs (n : Nat) : List UInt8 := vbsF n n
theorem Tryz.info5 : (Tryz.prog.info? 5).map (fun i => (i.zero, i.size, i.bytes)) = some (some (.int .u8 0), 1, 1) := by kernel_rfl
theorem l01In_yes (x a b : Int) (w : World) (h1 : a ≤ x) (h2 : x ≤ b) :
  Calls Tryz.prog 98 #[.int .i64 x, .int .i64 a, .int .i64 b] w fun e w' => e = .returned (.bool true) ∧ w = w' := by
 go_enter Tryz.func98, Tryz.ntmps98
 go_wp2
 go_ret
 exact ⟨rfl, rfl⟩
theorem l01In_no (x a b : Int) (w : World) (h : x < a ∨ b < x) :
  Calls Tryz.prog 98 #[.int .i64 x, .int .i64 a, .int .i64 b] w fun e w' => e = .returned (.bool false) ∧ w = w' := by
 by_cases h1 : a ≤ x
 ·have h2 : ¬ x ≤ b := by omega
  go_enter Tryz.func98, Tryz.ntmps98
  go_wp2
  go_ret
  exact ⟨rfl, rfl⟩
 ·go_enter Tryz.func98, Tryz.ntmps98
  go_wp2
  go_ret
  exact ⟨rfl, rfl⟩
set_option maxHeartbeats 1000000 in
set_option maxRecDepth 100000 in
theorem cloneLite_any (s : ByteArray) (w : World) (hlim : s.size ≤ 1048576) :
  Calls Tryz.prog 117 #[.string s] w fun e w' => e = .returned (.string s) ∧ Below w.heap.size w w' := by
 by_cases h0 : s.size = 0
 ·obtain rfl : s = ⟨#[]⟩ := ByteArray.ext (Array.eq_empty_of_size_eq_zero h0)
  go_enter Tryz.func117, Tryz.ntmps117
  go_wp2
  go_ret
  exact ⟨rfl, Below.refl _ _⟩
 ·obtain ⟨i0, hi, hz0, hz1, hz2⟩ := info_parts Tryz.info5
  have hinfo : (Tryz.prog.info? 5).map (·.size) = some 1 := by rw [hi]; simp [hz1]
  have hco : Tryz.prog.cellsOf 5 = 1 := by simp [Program.cellsOf, hi, hz1]
  obtain ⟨M, hM⟩ : ∃ M, M = madeCells (Value.int .u8 0).cells (((s.size : Nat) : Int).toNat * i0.size) := ⟨_, rfl⟩
  have hMs : M.size = s.size := by rw [hM, size_madeCells, hz1]; simp
  have hmk : ∀ W : World, (Instr.makeSlice 22 (.int .i64 (s.size : Int)) (.int .i64 (s.size : Int))).run Tryz.prog W = .ok (.slice (some ⟨W.heap.size, 0, none⟩) s.size s.size) (W.alloc (.cells M 5)) := fun W => by
   have h := run_make (P := Tryz.prog) W 22 5 i0 (.int .u8 0) Tryz.underlying22 hi hz0 .i64 .i64 (s.size : Int) (s.size : Int) (by omega) (by omega) (by rw [hz2]; omega) (by omega)
   rw [← hM] at h
   simpa using h
  clear hM
  have hcp := Lib.run_copy_row_string (P := Tryz.prog) (w.alloc (.cells M 5)) 22 9 3 5 w.heap.size 0 s.size s.size s M 5 Tryz.underlying22 hinfo (heap_alloc_new w _) (Nat.le_refl _) (by omega)
  obtain ⟨Y, hY⟩ : ∃ Y, Y = (M.toList.take 0 ++ Lib.byteCells s.data.toList ++ M.toList.drop (0 + s.size)).toArray := ⟨_, rfl⟩
  rw [← hY] at hcp
  have hYl : Y.toList = Lib.byteCells s.data.toList := by
   rw [hY, List.toList_toArray, List.take_zero, List.nil_append, List.drop_of_length_le (by rw [Array.length_toList]; omega), List.append_nil]
  have hYs : Y.size = s.size := by rw [← Array.length_toList, hYl, Lib.byteCells_length, ← Lib.size_eq]
  have hgY : ((w.alloc (.cells M 5)).setRow w.heap.size Y).heap[w.heap.size]? = some (.cells Y 5 (0, 0)) := setRow_heap _ _ M _ 5 (0, 0) (heap_alloc_new w _)
  have hne : s.data.toList ≠ [] := fun e => h0 (by rw [Lib.size_eq, e]; rfl)
  have hUS := Lib.run_unsafeString_row (P := Tryz.prog) ((w.alloc (.cells M 5)).setRow w.heap.size Y) 154 3 9 5 Tryz.underlying154 hco w.heap.size Y.size (by unfold World.shape?; rw [hgY]) s.data.toList hne (by rw [← Lib.size_eq]; omega) (by rw [← Lib.size_eq]; omega)
   (fun j x hx => Lib.cells_of_row hgY Y.size j _ (by rw [List.take_of_length_le (by rw [Array.length_toList]; exact Nat.le_refl _), hYl]; simp [Lib.byteCells, hx]))
  rw [← Lib.size_eq] at hUS
  clear hY
  go_enter Tryz.func117, Tryz.ntmps117
  go_wp2
  go_ret
  have hb1 : Below w.heap.size w (w.alloc (.cells M 5)) := (Below.refl _ w).alloc (Nat.le_refl _) _
  have hb2 : Below w.heap.size (w.alloc (.cells M 5)) ((w.alloc (.cells M 5)).setRow w.heap.size Y) := ⟨rfl, rfl, rfl, by simp, fun k hk => setRow_other _ _ _ _ (by omega)⟩
  exact ⟨rfl, Lib.below_freeze (hb1.trans hb2) (p := ⟨w.heap.size, 0, none⟩) (Nat.le_refl _) _⟩
theorem clone_any (s : ByteArray) (w : World) (hlim : s.size ≤ 1048576) :
  Calls Tryz.prog 80 #[.string s] w fun e w' => e = .returned (.string s) ∧ Below w.heap.size w w' := by
 go_enter Tryz.func80, Tryz.ntmps80
 go_wp2_with fail
 refine (cloneLite_any s _ hlim).mono ?_; rintro e w1 ⟨rfl, hb1⟩
 go_wp2
 go_ret
 exact ⟨rfl, hb1⟩
abbrev stv (t b : Int) : Value := .agg #[.int .i64 t, .int .i64 b]
abbrev rgv (v t b : Int) : Value := .agg #[.int .i64 v, .int .i64 t, .int .i64 b]
def later (t b t' b' : Int) : Bool := if t = t' then decide (b' < b) else decide (t' < t)
def stOk (t b : Int) : Bool := decide (0 ≤ t ∧ t ≤ 100000 ∧ 0 ≤ b ∧ b ≤ 2)
def rgOk (v t b : Int) : Bool := stOk t b && decide (0 ≤ v ∧ v ≤ 1000000000)
theorem bpush {a w : World} (h : Below a.heap.size a w) (o : Obj) : Below a.heap.size a (w.alloc o) := h.alloc h.size o
theorem btr {a b c : World} (h : Below a.heap.size a b) (k : Below b.heap.size b c) : Below a.heap.size a c := h.trans (k.mono h.size)
theorem bre (a : World) : Below a.heap.size a a := Below.refl _ _
theorem bdr {a w : World} (h : Below a.heap.size a w) : Below a.heap.size a w.drew := h.drew
theorem bset {a w : World} (h : Below a.heap.size a w) {p : Addr} (hp : a.heap.size ≤ p.block) (u : Value) : Below a.heap.size a (w.setCell p u) := h.setCell hp u
theorem ret_bool {x y : Bool} (h : x = y) : Ending.returned (.bool x) = Ending.returned (.bool y) := by rw [h]
theorem laterThan_any (t b t' b' : Int) (w : World) :
  Calls Tryz.prog 119 #[.agg #[.int .i64 t, .int .i64 b], .agg #[.int .i64 t', .int .i64 b']] w fun e w' => e = .returned (.bool (later t b t' b')) ∧ w' = (w.alloc (.cells #[.int .i64 t, .int .i64 b] 25)).alloc (.cells #[.int .i64 t', .int .i64 b'] 25) := by
 by_cases h : t = t'
 ·subst h
  go_enter Tryz.func119, Tryz.ntmps119
  go_wp2
  go_ret
  exact ⟨by simp [later], rfl⟩
 ·go_enter Tryz.func119, Tryz.ntmps119
  go_wp2
  go_ret
  exact ⟨by simp [later, h], rfl⟩
theorem specLater_any (t b t' b' : Int) (w : World) :
  Calls Tryz.prog 43 #[.agg #[.int .i64 t, .int .i64 b], .agg #[.int .i64 t', .int .i64 b']] w fun e w' => e = .returned (.bool (later t b t' b')) ∧ w' = (w.alloc (.cells #[.int .i64 t, .int .i64 b] 25)).alloc (.cells #[.int .i64 t', .int .i64 b'] 25) := by
 by_cases h : t = t'
 ·subst h
  go_enter Tryz.func43, Tryz.ntmps43
  go_wp2
  go_ret
  exact ⟨by simp [later], rfl⟩
 ·go_enter Tryz.func43, Tryz.ntmps43
  go_wp2
  go_ret
  exact ⟨by simp [later, h], rfl⟩
theorem rightStamp_any (t b : Int) (w : World) :
  Calls Tryz.prog 103 #[.agg #[.int .i64 t, .int .i64 b]] w fun e w' => e = .returned (.bool (stOk t b)) ∧ w' = w.alloc (.cells #[.int .i64 t, .int .i64 b] 25) := by
 go_enter Tryz.func103, Tryz.ntmps103
 go_wp2
 all_goals go_ret
 all_goals (refine ⟨ret_bool ?_, rfl⟩)
 all_goals (first | (simp [stOk, *]; done) | (simp [stOk]; omega))
theorem in_any (x lo hi : Int) (w : World) :
  Calls Tryz.prog 98 #[.int .i64 x, .int .i64 lo, .int .i64 hi] w fun e w' => e = .returned (.bool (decide (lo ≤ x ∧ x ≤ hi))) ∧ w' = w := by
 by_cases h : lo ≤ x
 ·go_enter Tryz.func98, Tryz.ntmps98
  go_wp2
  go_ret
  exact ⟨ret_bool (by simp [h]), rfl⟩
 ·go_enter Tryz.func98, Tryz.ntmps98
  go_wp2
  go_ret
  exact ⟨ret_bool (by simp; omega), rfl⟩
theorem registerOf_any (v t b : Int) (w : World) :
  Calls Tryz.prog 161 #[.agg #[.int .i64 v, .int .i64 t, .int .i64 b]] w fun e w' => e = .returned (.agg #[.int .i64 t, .int .i64 b, .int .i64 v]) ∧ w' = (w.alloc (.cells #[.int .i64 v, .int .i64 t, .int .i64 b] 108)).alloc (.cells #[.int .i64 t, .int .i64 b, .int .i64 v] 175) := by
 go_enter Tryz.func161, Tryz.ntmps161
 go_wp2
 exact bodyPost_ret (v := .agg #[.int .i64 t, .int .i64 b, .int .i64 v]) (by simp [results, Tryz.results161, go_sem]) rfl ⟨rfl, rfl⟩
theorem right_any (v t b : Int) (w : World) :
  Calls Tryz.prog 168 #[.agg #[.int .i64 t, .int .i64 b, .int .i64 v]] w fun e w' => e = .returned (.bool (rgOk v t b)) ∧ w' = (w.alloc (.cells #[.int .i64 t, .int .i64 b, .int .i64 v] 175)).alloc (.cells #[.int .i64 t, .int .i64 b] 25) := by
 cases hs : stOk t b
 all_goals
  go_enter Tryz.func168, Tryz.ntmps168
  go_wp2_with (first | (go_at_call 103; refine (rightStamp_any t b _).mono ?_; rintro e w1 ⟨rfl, rfl⟩; rw [hs]) | fail)
  all_goals go_ret
  all_goals (refine ⟨ret_bool ?_, rfl⟩)
  all_goals (first | (simp [rgOk, *]; done) | (simp [rgOk, hs]; omega))
def cb (v t b v' t' b' : Int) : Bool := if t = t' ∧ b = b' then decide (v' < v) else later t b t' b'
theorem countsBefore_any (v t b v' t' b' : Int) (w : World) :
  Calls Tryz.prog 162 #[.agg #[.int .i64 t, .int .i64 b, .int .i64 v], .agg #[.int .i64 t', .int .i64 b', .int .i64 v']] w fun e w' => e = .returned (.bool (cb v t b v' t' b')) ∧ Below w.heap.size w w' := by
 by_cases h : t = t'
 ·by_cases k : b = b'
  ·subst h k
   go_enter Tryz.func162, Tryz.ntmps162
   go_wp2
   go_ret
   exact ⟨ret_bool (by simp [cb]), bpush (bpush (bre _) _) _⟩
  ·subst h
   go_enter Tryz.func162, Tryz.ntmps162
   go_wp2_with (first | (go_at_call 119; refine (laterThan_any t b t b' _).mono ?_; rintro e w1 ⟨rfl, rfl⟩) | fail)
   go_ret
   exact ⟨ret_bool (by simp [cb, k]), bpush (bpush (bpush (bpush (bre _) _) _) _) _⟩
 ·go_enter Tryz.func162, Tryz.ntmps162
  go_wp2_with (first | (go_at_call 119; refine (laterThan_any t b t' b' _).mono ?_; rintro e w1 ⟨rfl, rfl⟩) | fail)
  go_ret
  exact ⟨ret_bool (by simp [cb, h]), bpush (bpush (bpush (bpush (bre _) _) _) _) _⟩
theorem implStampOk_any (t b : Int) (w : World) :
  Calls Tryz.prog 48 #[.agg #[.int .i64 t, .int .i64 b]] w fun e w' => e = .returned (.bool (stOk t b)) ∧ Below w.heap.size w w' := by
 go_enter Tryz.func48, Tryz.ntmps48
 go_wp2_with (first | (go_at_call 103; refine (rightStamp_any t b _).mono ?_; rintro e w1 ⟨rfl, rfl⟩) | fail)
 go_ret
 exact ⟨rfl, bpush (bpush (bre _) _) _⟩
theorem implLater_any (t b t' b' : Int) (w : World) :
  Calls Tryz.prog 84 #[.agg #[.int .i64 t, .int .i64 b], .agg #[.int .i64 t', .int .i64 b']] w fun e w' => e = .returned (.bool (later t b t' b')) ∧ Below w.heap.size w w' := by
 go_enter Tryz.func84, Tryz.ntmps84
 go_wp2_with (first | (go_at_call 119; refine (laterThan_any t b t' b' _).mono ?_; rintro e w1 ⟨rfl, rfl⟩) | fail)
 go_ret
 exact ⟨rfl, bpush (bpush (bpush (bpush (bre _) _) _) _) _⟩
theorem implRegOk_any (v t b : Int) (w : World) :
  Calls Tryz.prog 152 #[.agg #[.int .i64 v, .int .i64 t, .int .i64 b]] w fun e w' => e = .returned (.bool (rgOk v t b)) ∧ Below w.heap.size w w' := by
 go_enter Tryz.func152, Tryz.ntmps152
 go_wp2_with (first | (go_at_call 161; refine (registerOf_any v t b _).mono ?_; rintro e w1 ⟨rfl, rfl⟩) | (go_at_call 168; refine (right_any v t b _).mono ?_; rintro e w1 ⟨rfl, rfl⟩) | fail)
 go_ret
 exact ⟨rfl, bpush (bpush (bpush (bpush (bpush (bre _) _) _) _) _) _⟩
theorem in_letter (x lo hi : Int) : ∃ p : Bool, Hid (p = decide (lo ≤ x ∧ x ≤ hi)) ∧ Hid (∀ w, Calls Tryz.prog 98 #[.int .i64 x, .int .i64 lo, .int .i64 hi] w fun e w' => e = .returned (.bool p) ∧ w' = w) := ⟨_, rfl, in_any x lo hi⟩
theorem specStampOk_any (t b : Int) (w : World) :
  Calls Tryz.prog 100 #[.agg #[.int .i64 t, .int .i64 b]] w fun e w' => e = .returned (.bool (stOk t b)) ∧ w' = w.alloc (.cells #[.int .i64 t, .int .i64 b] 25) := by
 obtain ⟨p, hp, cp⟩ := in_letter t 0 100000
 obtain ⟨q, hq, cq⟩ := in_letter b 0 2
 have hs : Hid (stOk t b = (p && q)) := by
  show _ = _
  rw [hp.out, hq.out]; by_cases h : 0 ≤ t <;> by_cases k : t ≤ 100000 <;> simp [stOk, h, k]
 rw [hs.out]
 cases p
 ·go_enter Tryz.func100, Tryz.ntmps100
  go_wp2_with fail
  refine (cp.out _).mono ?_; rintro e w1 ⟨rfl, rfl⟩
  go_wp2_with fail
  go_ret
  exact ⟨rfl, rfl⟩
 ·go_enter Tryz.func100, Tryz.ntmps100
  go_wp2_with fail
  refine (cp.out _).mono ?_; rintro e w1 ⟨rfl, rfl⟩
  go_wp2_with fail
  refine (cq.out _).mono ?_; rintro e w1 ⟨rfl, rfl⟩
  go_wp2_with fail
  go_ret
  exact ⟨rfl, rfl⟩
theorem specStampOk_letter (t b : Int) : ∃ p : Bool, Hid (p = stOk t b) ∧ Hid (∀ w, Calls Tryz.prog 100 #[.agg #[.int .i64 t, .int .i64 b]] w fun e w' => e = .returned (.bool p) ∧ w' = w.alloc (.cells #[.int .i64 t, .int .i64 b] 25)) := ⟨_, rfl, specStampOk_any t b⟩
theorem specRegOk_any (v t b : Int) (w : World) :
  Calls Tryz.prog 151 #[.agg #[.int .i64 v, .int .i64 t, .int .i64 b]] w fun e w' => e = .returned (.bool (rgOk v t b)) ∧ w' = (w.alloc (.cells #[.int .i64 v, .int .i64 t, .int .i64 b] 108)).alloc (.cells #[.int .i64 t, .int .i64 b] 25) := by
 obtain ⟨p, hp, cp⟩ := specStampOk_letter t b
 obtain ⟨q, hq, cq⟩ := in_letter v 0 1000000000
 have hs : Hid (rgOk v t b = (p && q)) := by show _ = _; rw [hp.out, hq.out]; rfl
 rw [hs.out]
 cases p
 all_goals
  go_enter Tryz.func151, Tryz.ntmps151
  go_wp2_with (first | (go_at_call 100; refine (cp.out _).mono ?_; rintro e w1 ⟨rfl, rfl⟩) | (go_at_call 98; refine (cq.out _).mono ?_; rintro e w1 ⟨rfl, rfl⟩) | fail)
  go_ret
  exact ⟨rfl, rfl⟩
end Go.Proofs.YtmpcmllfgogegaaGreat
namespace Go.Proofs.YtmpcmllfgogegaaGreat
open Go.RowKit
theorem registerOf_b (v t b : Int) (w : World) :
  Calls Tryz.prog 161 #[.agg #[.int .i64 v, .int .i64 t, .int .i64 b]] w fun e w' => e = .returned (.agg #[.int .i64 t, .int .i64 b, .int .i64 v]) ∧ Below w.heap.size w w' :=
 (registerOf_any v t b w).mono fun _ _ h => ⟨h.1, h.2 ▸ bpush (bpush (bre _) _) _⟩
def jreg (v t b v' t' b' : Int) : Value := if cb v' t' b' v t b = true then rgv v' t' b' else rgv v t b
theorem cb_letter (v t b v' t' b' : Int) : ∃ p : Bool, Hid (p = cb v t b v' t' b') ∧ Hid (∀ w, Calls Tryz.prog 162 #[.agg #[.int .i64 t, .int .i64 b, .int .i64 v], .agg #[.int .i64 t', .int .i64 b', .int .i64 v']] w fun e w' => e = .returned (.bool p) ∧ Below w.heap.size w w') := ⟨_, rfl, countsBefore_any v t b v' t' b'⟩
def Rg (W : World) (k ty : Nat) (v t b : Int) : Prop := W.heap[k]? = some (.cells #[.int .i64 v, .int .i64 t, .int .i64 b] ty (0, 0))
def Sg (W : World) (k ty : Nat) (t b : Int) : Prop := W.heap[k]? = some (.cells #[.int .i64 t, .int .i64 b] ty (0, 0))
theorem Rg.new (w : World) (ty : Nat) (v t b : Int) : Rg (w.alloc (.cells #[.int .i64 v, .int .i64 t, .int .i64 b] ty)) w.heap.size ty v t b := heap_alloc_new w _
theorem Sg.new (w : World) (ty : Nat) (t b : Int) : Sg (w.alloc (.cells #[.int .i64 t, .int .i64 b] ty)) w.heap.size ty t b := heap_alloc_new w _
theorem Rg.later {W W' : World} {k ty : Nat} {v t b : Int} (h : Rg W k ty v t b) (hb : Below W.heap.size W W') : Rg W' k ty v t b := (hb.block k (Array.getElem?_eq_some_iff.1 h).1).trans h
theorem Sg.later {W W' : World} {k ty : Nat} {t b : Int} (h : Sg W k ty t b) (hb : Below W.heap.size W W') : Sg W' k ty t b := (hb.block k (Array.getElem?_eq_some_iff.1 h).1).trans h
theorem Sg.lt {W : World} {k ty : Nat} {t b : Int} (h : Sg W k ty t b) : k < W.heap.size := (Array.getElem?_eq_some_iff.1 h).1
theorem Rg.cells {W : World} {k ty : Nat} {v t b : Int} (h : Rg W k ty v t b) : W.cell? ⟨k, 0, none⟩ = some (.int .i64 v) ∧ W.cell? ⟨k, 1, none⟩ = some (.int .i64 t) ∧ W.cell? ⟨k, 2, none⟩ = some (.int .i64 b) :=
 ⟨cell_of_row W k 0 _ _ _ h, cell_of_row W k 1 _ _ _ h, cell_of_row W k 2 _ _ _ h⟩
theorem Sg.cells {W : World} {k ty : Nat} {t b : Int} (h : Sg W k ty t b) : W.cell? ⟨k, 0, none⟩ = some (.int .i64 t) ∧ W.cell? ⟨k, 1, none⟩ = some (.int .i64 b) :=
 ⟨cell_of_row W k 0 _ _ _ h, cell_of_row W k 1 _ _ _ h⟩
theorem Rg.loose {W : World} {k ty : Nat} {v t b : Int} (h : Rg W k ty v t b) : W.frozen? ⟨k, 0, none⟩ = false ∧ W.frozen? ⟨k, 1, none⟩ = false ∧ W.frozen? ⟨k, 2, none⟩ = false :=
 ⟨frozen_of_row W k 0 _ _ h, frozen_of_row W k 1 _ _ h, frozen_of_row W k 2 _ _ h⟩
def set3 (W : World) (k : Nat) (v t b : Int) : World := ((W.setCell ⟨k, 0, none⟩ (.int .i64 v)).setCell ⟨k, 1, none⟩ (.int .i64 t)).setCell ⟨k, 2, none⟩ (.int .i64 b)
def set2 (W : World) (k : Nat) (t b : Int) : World := (W.setCell ⟨k, 0, none⟩ (.int .i64 t)).setCell ⟨k, 1, none⟩ (.int .i64 b)
theorem Rg.set {W : World} {k ty : Nat} {v t b v' t' b' : Int} (h : Rg W k ty v t b) : Rg (set3 W k v' t' b') k ty v' t' b' := by
 have h1 := heap_setCell_same W k 0 _ _ (.int .i64 v') h
 have h2 := heap_setCell_same _ k 1 _ _ (.int .i64 t') h1
 have h3 := heap_setCell_same _ k 2 _ _ (.int .i64 b') h2
 exact h3
theorem Sg.set' {W : World} {k ty : Nat} {t b t' b' : Int} (h : Sg W k ty t b) : Sg ((W.setCell ⟨k, 0, none⟩ (.int .i64 t')).setCell ⟨k, 1, none⟩ (.int .i64 b')) k ty t' b' := by
 have h1 := heap_setCell_same W k 0 _ _ (.int .i64 t') h
 have h2 := heap_setCell_same _ k 1 _ _ (.int .i64 b') h1
 exact h2
theorem bset3 {a w : World} (h : Below a.heap.size a w) {k : Nat} (hk : a.heap.size ≤ k) (v t b : Int) : Below a.heap.size a (set3 w k v t b) := bset (bset (bset h hk _) hk _) hk _
theorem joinReg_any (v t b v' t' b' : Int) (w : World) :
  Calls Tryz.prog 143 #[.agg #[.int .i64 v, .int .i64 t, .int .i64 b], .agg #[.int .i64 v', .int .i64 t', .int .i64 b']] w fun e w' => e = .returned (jreg v t b v' t' b') ∧ Below w.heap.size w w' := by
 obtain ⟨p, hp, cp⟩ := cb_letter v' t' b' v t b
 have hs : Hid (jreg v t b v' t' b' = if p = true then rgv v' t' b' else rgv v t b) := by show _ = _; rw [hp.out]; rfl
 rw [hs.out]
 obtain ⟨W0, hW0⟩ : ∃ W0, ((w.alloc (.cells #[.int .i64 v, .int .i64 t, .int .i64 b] 108)).alloc (.cells #[.int .i64 v', .int .i64 t', .int .i64 b'] 108)).alloc (.cells #[.int .i64 0, .int .i64 0, .int .i64 0] 108) = W0 := ⟨_, rfl⟩
 have A0 : Hid (Rg W0 w.heap.size 108 v t b) := by subst hW0; exact (Rg.new w 108 v t b).later (bpush (bpush (bre _) _) _)
 have A1 : Hid (Rg W0 (w.heap.size + 1) 108 v' t' b') := by subst hW0; exact Rg.later (by simpa using Rg.new (w.alloc (.cells #[.int .i64 v, .int .i64 t, .int .i64 b] 108)) 108 v' t' b') (bpush (bre _) _)
 have A2 : Hid (Rg W0 (w.heap.size + 1 + 1) 108 0 0 0) := by subst hW0; show Rg _ _ _ _ _ _; simpa using Rg.new ((w.alloc (.cells #[.int .i64 v, .int .i64 t, .int .i64 b] 108)).alloc (.cells #[.int .i64 v', .int .i64 t', .int .i64 b'] 108)) 108 0 0 0
 have B0 : Hid (Below w.heap.size w W0) := by subst hW0; exact bpush (bpush (bpush (bre _) _) _) _
 go_enter Tryz.func143, Tryz.ntmps143
 go_wp2_with fail
 clear hW0
 have HS : Hid (∀ W, Below W0.heap.size W0 W → (W.cell? ⟨w.heap.size, 0, none⟩ = some (.int .i64 v) ∧ W.cell? ⟨w.heap.size, 1, none⟩ = some (.int .i64 t) ∧ W.cell? ⟨w.heap.size, 2, none⟩ = some (.int .i64 b)) ∧ (W.cell? ⟨w.heap.size + 1, 0, none⟩ = some (.int .i64 v') ∧ W.cell? ⟨w.heap.size + 1, 1, none⟩ = some (.int .i64 t') ∧ W.cell? ⟨w.heap.size + 1, 2, none⟩ = some (.int .i64 b'))) :=
  fun W h => ⟨(A0.out.later h).cells, (A1.out.later h).cells⟩
 go_region_held3 (fun W => (W.cell? ⟨w.heap.size, 0, none⟩ = some (.int .i64 v) ∧ W.cell? ⟨w.heap.size, 1, none⟩ = some (.int .i64 t) ∧ W.cell? ⟨w.heap.size, 2, none⟩ = some (.int .i64 b)) ∧ (W.cell? ⟨w.heap.size + 1, 0, none⟩ = some (.int .i64 v') ∧ W.cell? ⟨w.heap.size + 1, 1, none⟩ = some (.int .i64 t') ∧ W.cell? ⟨w.heap.size + 1, 2, none⟩ = some (.int .i64 b')))
  ((refine HS.out _ ?_; repeat (first | exact bdr (bre _) | refine btr ?_ (by assumption))))
  ((first
    | (go_at_call 162; refine (cp.out _).mono ?_; rintro e w1 ⟨rfl, hb1⟩)
    | (go_at_call 161; refine (registerOf_b _ _ _ _).mono ?_; rintro e w1 ⟨rfl, hb1⟩)))
 have B1 : Hid (Below W0.heap.size W0 w1) := by show Below _ _ _; repeat (first | exact bdr (bre _) | refine btr ?_ (by assumption))
 have d2 := (A2.out.later B1.out).cells
 have f2 := (A2.out.later B1.out).loose
 cases p
 ·go_wp2
  have c3 := (A2.out.later B1.out).set (v' := v) (t' := t) (b' := b) |>.cells
  exact bodyPost_ret (v := rgv v t b) (by simp only [set3] at c3; simp [results, Tryz.results143, go_sem, c3]) rfl ⟨rfl, bset3 (btr B0.out B1.out) (by omega) v t b⟩
 ·go_wp2
  have c3 := (A2.out.later B1.out).set (v' := v') (t' := t') (b' := b') |>.cells
  exact bodyPost_ret (v := rgv v' t' b') (by simp only [set3] at c3; simp [results, Tryz.results143, go_sem, c3]) rfl ⟨rfl, bset3 (btr B0.out B1.out) (by omega) v' t' b'⟩
def preg (v t b n t' b' : Int) : Value := if (rgOk n t' b' && later t' b' t b) = true then rgv n t' b' else rgv v t b
theorem specLater_letter (t b t' b' : Int) : ∃ p : Bool, Hid (p = later t b t' b') ∧ Hid (∀ w, Calls Tryz.prog 43 #[.agg #[.int .i64 t, .int .i64 b], .agg #[.int .i64 t', .int .i64 b']] w fun e w' => e = .returned (.bool p) ∧ w' = (w.alloc (.cells #[.int .i64 t, .int .i64 b] 25)).alloc (.cells #[.int .i64 t', .int .i64 b'] 25)) := ⟨_, rfl, specLater_any t b t' b'⟩
theorem specRegOk_letter (v t b : Int) : ∃ p : Bool, Hid (p = rgOk v t b) ∧ Hid (∀ w, Calls Tryz.prog 151 #[.agg #[.int .i64 v, .int .i64 t, .int .i64 b]] w fun e w' => e = .returned (.bool p) ∧ w' = (w.alloc (.cells #[.int .i64 v, .int .i64 t, .int .i64 b] 108)).alloc (.cells #[.int .i64 t, .int .i64 b] 25)) := ⟨_, rfl, specRegOk_any v t b⟩
theorem specPut_any (v t b n t' b' : Int) (w : World) :
  Calls Tryz.prog 142 #[.agg #[.int .i64 v, .int .i64 t, .int .i64 b], .int .i64 n, .agg #[.int .i64 t', .int .i64 b']] w fun e w' => e = .returned (preg v t b n t' b') ∧ Below w.heap.size w w' := by
 obtain ⟨p, hp, cp⟩ := specRegOk_letter n t' b'
 obtain ⟨q, hq, cq⟩ := specLater_letter t' b' t b
 have hs : Hid (preg v t b n t' b' = if (p && q) = true then rgv n t' b' else rgv v t b) := by show _ = _; rw [hp.out, hq.out]; rfl
 rw [hs.out]
 cases q
 ·rw [Bool.and_false]
  go_enter Tryz.func142, Tryz.ntmps142
  go_wp2_with fail
  refine (cq.out _).mono ?_; rintro e w1 ⟨rfl, rfl⟩
  go_wp2_with fail
  exact bodyPost_ret (v := rgv v t b) (by simp [results, Tryz.results142, go_sem]) rfl ⟨rfl, by repeat (first | exact bre _ | refine bpush ?_ _)⟩
 ·cases p
  ·go_enter Tryz.func142, Tryz.ntmps142
   go_wp2_with fail
   refine (cq.out _).mono ?_; rintro e w1 ⟨rfl, rfl⟩
   go_wp2_with fail
   refine (cp.out _).mono ?_; rintro e w1 ⟨rfl, rfl⟩
   go_wp2_with fail
   exact bodyPost_ret (v := rgv v t b) (by simp [results, Tryz.results142, go_sem]) rfl ⟨rfl, by repeat (first | exact bre _ | refine bpush ?_ _)⟩
  ·go_enter Tryz.func142, Tryz.ntmps142
   go_wp2_with fail
   refine (cq.out _).mono ?_; rintro e w1 ⟨rfl, rfl⟩
   go_wp2_with fail
   refine (cp.out _).mono ?_; rintro e w1 ⟨rfl, rfl⟩
   go_wp2_with fail
   exact bodyPost_ret (v := rgv n t' b') (by simp [results, Tryz.results142, go_sem]) rfl ⟨rfl, by repeat (first | exact bre _ | refine bpush ?_ _)⟩
theorem later_iff {t b t' b' : Int} : later t b t' b' = true ↔ (t' < t ∨ (t = t' ∧ b' < b)) := by
 unfold later; split <;> simp <;> omega
theorem cb_iff {v t b v' t' b' : Int} : cb v t b v' t' b' = true ↔ ((t = t' ∧ b = b' ∧ v' < v) ∨ t' < t ∨ (t = t' ∧ b' < b)) := by
 unfold cb; split
 ·simp; omega
 ·rw [later_iff]; omega
theorem jreg_first {v t b v' t' b' : Int} (h : later t b t' b' = true ∨ (t = t' ∧ b = b' ∧ v' ≤ v)) : jreg v t b v' t' b' = rgv v t b := by
 have : ¬ cb v' t' b' v t b = true := by rw [cb_iff]; rw [later_iff] at h; omega
 unfold jreg; rw [if_neg this]
theorem jreg_second {v t b v' t' b' : Int} (h : later t b t' b' = false) (k : ¬ (t = t' ∧ b = b' ∧ v' ≤ v)) : jreg v t b v' t' b' = rgv v' t' b' := by
 have h' : ¬ later t b t' b' = true := by simp [h]
 have : cb v' t' b' v t b = true := by rw [cb_iff]; rw [later_iff] at h'; omega
 unfold jreg; rw [if_pos this]
theorem specJoin_any (v t b v' t' b' : Int) (w : World) :
  Calls Tryz.prog 150 #[.agg #[.int .i64 v, .int .i64 t, .int .i64 b], .agg #[.int .i64 v', .int .i64 t', .int .i64 b']] w fun e w' => e = .returned (jreg v t b v' t' b') ∧ Below w.heap.size w w' := by
 obtain ⟨q, hq, cq⟩ := specLater_letter t b t' b'
 cases q
 ·by_cases k : t = t' ∧ b = b'
  ·obtain ⟨rfl, rfl⟩ := k
   by_cases kv : v' ≤ v
   ·rw [jreg_first (Or.inr ⟨rfl, rfl, kv⟩)]
    go_enter Tryz.func150, Tryz.ntmps150
    go_wp2_with fail
    refine (cq.out _).mono ?_; rintro e w1 ⟨rfl, rfl⟩
    go_wp2_with fail
    exact bodyPost_ret (v := rgv v t b) (by simp [results, Tryz.results150, go_sem]) rfl ⟨rfl, by repeat (first | exact bre _ | refine bpush ?_ _)⟩
   ·rw [jreg_second hq.out.symm (by omega)]
    go_enter Tryz.func150, Tryz.ntmps150
    go_wp2_with fail
    refine (cq.out _).mono ?_; rintro e w1 ⟨rfl, rfl⟩
    go_wp2_with fail
    exact bodyPost_ret (v := rgv v' t b) (by simp [results, Tryz.results150, go_sem]) rfl ⟨rfl, by repeat (first | exact bre _ | refine bpush ?_ _)⟩
  ·rw [jreg_second hq.out.symm (by omega)]
   go_enter Tryz.func150, Tryz.ntmps150
   go_wp2_with fail
   refine (cq.out _).mono ?_; rintro e w1 ⟨rfl, rfl⟩
   go_wp2_with fail
   all_goals exact bodyPost_ret (v := rgv v' t' b') (by simp [results, Tryz.results150, go_sem]) rfl ⟨rfl, by repeat (first | exact bre _ | refine bpush ?_ _)⟩
 ·rw [jreg_first (Or.inl hq.out.symm)]
  go_enter Tryz.func150, Tryz.ntmps150
  go_wp2_with fail
  refine (cq.out _).mono ?_; rintro e w1 ⟨rfl, rfl⟩
  go_wp2_with fail
  exact bodyPost_ret (v := rgv v t b) (by simp [results, Tryz.results150, go_sem]) rfl ⟨rfl, by repeat (first | exact bre _ | refine bpush ?_ _)⟩
end Go.Proofs.YtmpcmllfgogegaaGreat
namespace Go.Proofs.YtmpcmllfgogegaaGreat
open Go.RowKit Go.ChangeMaps
theorem bb {B : Nat} {w w1 : World} (h : Below B w w1 := by repeat (first | exact bre _ | refine bdr ?_ | refine btr ?_ (by assumption) | refine bpush ?_ _)) : Below B w w1 := h
theorem tp0 (a : Act) (v : Value) : a.put none v = a := rfl
theorem tp1 (a : Act) (t : Tmp) (v : Value) : a.put (some t) v = { a with tmps := a.tmps.setIfInBounds t v } := rfl
theorem tp2 {α : Type} (l : List α) (i : Nat) (x : α) : l.toArray.setIfInBounds i x = (l.set i x).toArray := List.setIfInBounds_toArray ..
theorem tp3 {α : Type} (a : α) (l : List α) (x : α) : (a :: l).set 0 x = x :: l := rfl
theorem tp4 {α : Type} (a : α) (l : List α) (i : Nat) (x : α) : (a :: l).set (i + 1) x = a :: l.set i x := rfl
section
variable {P : Program} {ops : Array Oper} {Q : Exit → Act → World → Prop} {md : Region.Mode} {S : World → Prop} {d : Option Tmp} {o : Op} {t : TypeId} {ps : String} {af : Array Edge} {gd : Option (Nat × Bool)} {v : Value} {fuel : Nat} {listed : Array Bool} {a a2 : Act} {w : World}
theorem tk (i : Nat) (h : wpAnyH P md ops Q S fuel (listed.setIfInBounds i true) a2 w)
  (hi : ops[i]? = some ⟨d, o, t, ps, af, gd⟩ := by (first | (simp only [List.getElem?_toArray, List.getElem?_cons_succ, List.getElem?_cons_zero]; rfl) | rfl)) (hs : Region.noSelect ops = true := by kernel_rfl) (hf : Region.free md ops listed i = true := by kernel_rfl) (hr : (Region.ready md ops listed).contains i = true := by kernel_rfl)
  (hw : Region.wanted ⟨d, o, t, ps, af, gd⟩ (yielded ops a.tmps) = true := by rfl) (hy : ∀ w, S w → (execOp a.eval ⟨d, o, t, ps, af, gd⟩).run P w = .ok (.value v) w := by (intro w hSw; (try dsimp only at hSw); go_simp; try with_reducible rfl)) (hS : S w := by assumption)
  (hQ : ∀ c a w, Q (.panic c) (a.put d v) w → Q (.panic c) a w := by exact fun _ _ _ h => h)
  (hp : a.put d v = a2 := by (first | (simp only [tp0, tp1, tp2, tp3, tp4]; done) | (simp only [tp0, tp1, tp2, tp3, tp4]; rfl) | rfl)) : wpAnyH P md ops Q S (fuel + 1) listed a w :=
 wpAnyH_take hi hs hf hr hQ (Or.inl ⟨hw, hy⟩) hS (by subst hp; exact h)
theorem tn (i : Nat) (h : wpAnyH P md ops Q S fuel (listed.setIfInBounds i true) a2 w)
  (hi : ops[i]? = some ⟨d, o, t, ps, af, gd⟩ := by (first | (simp only [List.getElem?_toArray, List.getElem?_cons_succ, List.getElem?_cons_zero]; rfl) | rfl)) (hs : Region.noSelect ops = true := by kernel_rfl) (hf : Region.free md ops listed i = true := by kernel_rfl) (hr : (Region.ready md ops listed).contains i = true := by kernel_rfl)
  (hw : Region.wanted ⟨d, o, t, ps, af, gd⟩ (yielded ops a.tmps) = false := by rfl) (hS : S w := by assumption)
  (hQ : ∀ c a w, Q (.panic c) (a.put d undef) w → Q (.panic c) a w := by exact fun _ _ _ h => h)
  (hp : a.put d undef = a2 := by (first | (simp only [tp0, tp1, tp2, tp3, tp4]; done) | (simp only [tp0, tp1, tp2, tp3, tp4]; rfl) | rfl)) : wpAnyH P md ops Q S (fuel + 1) listed a w :=
 wpAnyH_take hi hs hf hr hQ (Or.inr ⟨hw, rfl⟩) hS (by subst hp; exact h)
theorem rc {i : Nat} {rs : List Nat}
  (h : ∀ K' : Act → World → Prop, Shut (∀ a w, S w → (S w → wpAnyH P md ops Q S fuel (listed.setIfInBounds i true) a w) → K' a w) → if Region.wanted ⟨d, o, t, ps, af, gd⟩ (yielded ops a.tmps) = true then Oper.wp P ⟨d, o, t, ps, af, gd⟩ a w K' Q else K' (a.put d undef) w)
  (hs : AllReadyH P md ops Q S fuel listed a w rs) (hi : ops[i]? = some ⟨d, o, t, ps, af, gd⟩ := by (first | (simp only [List.getElem?_toArray, List.getElem?_cons_succ, List.getElem?_cons_zero]; rfl) | rfl)) : AllReadyH P md ops Q S fuel listed a w (i :: rs) := AllReadyH.cons hi h hs
theorem ry (i : Nat)
  (h : ∀ K' : Act → World → Prop, Shut (∀ a w, S w → (S w → wpAnyH P md ops Q S fuel (listed.setIfInBounds i true) a w) → K' a w) → if Region.wanted ⟨d, o, t, ps, af, gd⟩ (yielded ops a.tmps) = true then Oper.wp P ⟨d, o, t, ps, af, gd⟩ a w K' Q else K' (a.put d undef) w)
  (hr : Region.ready md ops listed = [i] := by kernel_rfl) (hi : ops[i]? = some ⟨d, o, t, ps, af, gd⟩ := by (first | (simp only [List.getElem?_toArray, List.getElem?_cons_succ, List.getElem?_cons_zero]; rfl) | rfl)) : wpAnyH P md ops Q S (fuel + 1) listed a w := wpAnyH_ready hr (by simp) (AllReadyH.cons hi h AllReadyH.nil)
theorem rl {i : Nat}
  (h : ∀ K' : Act → World → Prop, Shut (∀ a w, S w → (S w → wpAnyH P md ops Q S fuel (listed.setIfInBounds i true) a w) → K' a w) → if Region.wanted ⟨d, o, t, ps, af, gd⟩ (yielded ops a.tmps) = true then Oper.wp P ⟨d, o, t, ps, af, gd⟩ a w K' Q else K' (a.put d undef) w)
  (hi : ops[i]? = some ⟨d, o, t, ps, af, gd⟩ := by (first | (simp only [List.getElem?_toArray, List.getElem?_cons_succ, List.getElem?_cons_zero]; rfl) | rfl)) : AllReadyH P md ops Q S fuel listed a w [i] := AllReadyH.cons hi h AllReadyH.nil
end
end Go.Proofs.YtmpcmllfgogegaaGreat
