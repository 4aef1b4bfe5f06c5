/- Ma. -/
import Derived.WalkKit
import Derived.Laws.IdiomStrings
import Derived.WalkSpells
import Derived.Test.YtjobfolipbfhlaoGreatRows
import Derived.WalkLawsBesides
import Derived.Lib.Strings
import Derived.Lib.BufferWrite
import Derived.Lib.UnsafeStr
import Derived.Laws.MakeOwn
import Derived.Test.YtjobfolipbfhlaoGreatProg
import Derived.Below
import Derived.BigQuiet
import Derived.Deep.QuietTactic
import Derived.Deep.RegionHeld3
import Derived.Deep.Cut
namespace Go.Proofs.YtjobfolipbfhlaoGreat
open Go.RowKit

theorem hide {p : Prop} (h : p) : Hid p := h
theorem unhide {p : Prop} (h : Hid p) : p := h

theorem ret_int {k : IntKind} {a b : Int} (h : a = b) : Ending.returned (.int k a) = .returned (.int k b) := by rw [h]

/-- A byte as a value. -/
def bv (b : UInt8) : Value := .int .u8 (b.toNat : Int)

/-- The bytes of a number, seven bits each, the lowest first; at most f + 1 of them. -/
def vbsF : Nat → Nat → List UInt8
  | 0, n => [UInt8.ofNat n]
  | f + 1, n => if 127 < n then UInt8.ofNat (n % 128 + 128) :: vbsF f (n / 128) else [UInt8.ofNat n]

/-- The bytes of a number, seven bits each, the lowest first. -/
def vbs (n : Nat) : List UInt8 := vbsF n n

theorem vbs_small (n : Nat) (h : ¬ 127 < n) : vbs n = [UInt8.ofNat n] := by
  unfold vbs
  cases n with
  | zero => rfl
  | succ k => rw [vbsF, if_neg h]
/-- What a row of bytes that the call owns reads as. -/
theorem run_string_own {P : Program} (w : World) (src dst e : TypeId) (hs : P.underlying src = some (.slice e)) (he : P.underlying e = some (.int .u8)) (hd : P.underlying dst = some .string)
    {base n : Nat} {v : Value} (bs : List UInt8) (h : w.ownsRow base e 1 v n (bs.map bv)) :
    (convert src dst v).run P w = .ok (.string ⟨bs.toArray⟩) w := by
  have hl : bs.length = n := by simpa using h.1
  rcases h.2 with ⟨rfl, hn⟩ | ⟨g, cap, cur, rfl, _, hg, _, _, _, _⟩
  · have : bs = [] := List.eq_nil_of_length_eq_zero (by omega)
    subst this
    rw [run_convert_bytes_string w src dst e none 0 0 hs he hd]; rfl
  · subst hl
    refine run_convert_bytes_back w src dst e ⟨g, 0, none⟩ cap bs hs he hd (fun j hj => ?_)
    have := h.cells (g := g) rfl j (bv bs[j]) (by simp [hj])
    simpa [bv] using this

theorem u8_nat (k : Nat) (h : k < 256) : ((UInt8.ofNat k).toNat : Int) = (k : Int) := by
  simp [UInt8.toNat_ofNat']; omega

theorem bv_ofNat (k : Nat) (h : k < 256) : bv (UInt8.ofNat k) = .int .u8 (k : Int) := by
  simp [bv, UInt8.toNat_ofNat']; omega

end Go.Proofs.YtjobfolipbfhlaoGreat

namespace Go.Proofs.YtjobfolipbfhlaoGreat
open Go.RowKit

theorem Tryz.info5 : (Tryz.prog.info? 5).map (fun i => (i.zero, i.size, i.bytes)) = some (some (.int .u8 0), 1, 1) := by kernel_rfl

theorem ret_str {a b : ByteArray} (h : a = b) : Ending.returned (.string a) = .returned (.string b) := by rw [h]

theorem ret_strok {a b : ByteArray} {t : Bool} (h : a = b) : Ending.returned (.tuple #[.string a, .bool t]) = .returned (.tuple #[.string b, .bool t]) := by rw [h]

theorem l01In_yes (x a b : Int) (w : World) (h1 : a ≤ x) (h2 : x ≤ b) :
    Calls Tryz.prog 67 #[.int .i64 x, .int .i64 a, .int .i64 b] w fun e w' => e = .returned (.bool true) ∧ w = w' := by
  go_enter Tryz.func67, Tryz.ntmps67
  go_wp2
  go_ret
  exact ⟨rfl, rfl⟩

theorem l01In_no (x a b : Int) (w : World) (h : x < a ∨ b < x) :
    Calls Tryz.prog 67 #[.int .i64 x, .int .i64 a, .int .i64 b] w fun e w' => e = .returned (.bool false) ∧ w = w' := by
  by_cases h1 : a ≤ x
  · have h2 : ¬ x ≤ b := by omega
    go_enter Tryz.func67, Tryz.ntmps67
    go_wp2
    go_ret
    exact ⟨rfl, rfl⟩
  · go_enter Tryz.func67, Tryz.ntmps67
    go_wp2
    go_ret
    exact ⟨rfl, rfl⟩

end Go.Proofs.YtjobfolipbfhlaoGreat

namespace Go.Proofs.YtjobfolipbfhlaoGreat
open Go.RowKit

set_option maxHeartbeats 1000000 in
set_option maxRecDepth 100000 in
theorem cloneLite_any (s : ByteArray) (w : World) (hlim : s.size ≤ 1048576) :
    Calls Tryz.prog 77 #[.string s] w fun e w' => e = .returned (.string s) ∧ Below w.heap.size w w' := by
  by_cases h0 : s.size = 0
  · obtain rfl : s = ⟨#[]⟩ := ByteArray.ext (Array.eq_empty_of_size_eq_zero h0)
    go_enter Tryz.func77, Tryz.ntmps77
    go_wp2
    go_ret
    exact ⟨rfl, Below.refl _ _⟩
  · obtain ⟨i0, hi, hz0, hz1, hz2⟩ := info_parts Tryz.info5
    have hinfo : (Tryz.prog.info? 5).map (·.size) = some 1 := by rw [hi]; simp [hz1]
    have hco : Tryz.prog.cellsOf 5 = 1 := by simp [Program.cellsOf, hi, hz1]
    obtain ⟨M, hM⟩ : ∃ M, M = madeCells (Value.int .u8 0).cells (((s.size : Nat) : Int).toNat * i0.size) := ⟨_, rfl⟩
    have hMs : M.size = s.size := by rw [hM, size_madeCells, hz1]; simp
    have hmk : ∀ W : World, (Instr.makeSlice 120 (.int .i64 (s.size : Int)) (.int .i64 (s.size : Int))).run Tryz.prog W = .ok (.slice (some ⟨W.heap.size, 0, none⟩) s.size s.size) (W.alloc (.cells M 5)) := fun W => by
      have h := run_make (P := Tryz.prog) W 120 5 i0 (.int .u8 0) Tryz.underlying120 hi hz0 .i64 .i64 (s.size : Int) (s.size : Int) (by omega) (by omega) (by rw [hz2]; omega) (by omega)
      rw [← hM] at h
      simpa using h
    clear hM
    have hcp := Lib.run_copy_row_string (P := Tryz.prog) (w.alloc (.cells M 5)) 120 9 3 5 w.heap.size 0 s.size s.size s M 5 Tryz.underlying120 hinfo (heap_alloc_new w _) (Nat.le_refl _) (by omega)
    obtain ⟨Y, hY⟩ : ∃ Y, Y = (M.toList.take 0 ++ Lib.byteCells s.data.toList ++ M.toList.drop (0 + s.size)).toArray := ⟨_, rfl⟩
    rw [← hY] at hcp
    have hYl : Y.toList = Lib.byteCells s.data.toList := by
      rw [hY, List.toList_toArray, List.take_zero, List.nil_append, List.drop_of_length_le (by rw [Array.length_toList]; omega), List.append_nil]
    have hYs : Y.size = s.size := by rw [← Array.length_toList, hYl, Lib.byteCells_length, ← Lib.size_eq]
    have hgY : ((w.alloc (.cells M 5)).setRow w.heap.size Y).heap[w.heap.size]? = some (.cells Y 5 (0, 0)) := setRow_heap _ _ M _ 5 (0, 0) (heap_alloc_new w _)
    have hne : s.data.toList ≠ [] := fun e => h0 (by rw [Lib.size_eq, e]; rfl)
    have hUS := Lib.run_unsafeString_row (P := Tryz.prog) ((w.alloc (.cells M 5)).setRow w.heap.size Y) 121 3 9 5 Tryz.underlying121 hco w.heap.size Y.size (by unfold World.shape?; rw [hgY]) s.data.toList hne (by rw [← Lib.size_eq]; omega) (by rw [← Lib.size_eq]; omega)
      (fun j x hx => Lib.cells_of_row hgY Y.size j _ (by rw [List.take_of_length_le (by rw [Array.length_toList]; exact Nat.le_refl _), hYl]; simp [Lib.byteCells, hx]))
    rw [← Lib.size_eq] at hUS
    clear hY
    go_enter Tryz.func77, Tryz.ntmps77
    go_wp2
    go_ret
    have hb1 : Below w.heap.size w (w.alloc (.cells M 5)) := (Below.refl _ w).alloc (Nat.le_refl _) _
    have hb2 : Below w.heap.size (w.alloc (.cells M 5)) ((w.alloc (.cells M 5)).setRow w.heap.size Y) := ⟨rfl, rfl, rfl, by simp, fun k hk => setRow_other _ _ _ _ (by omega)⟩
    exact ⟨rfl, Lib.below_freeze (hb1.trans hb2) (p := ⟨w.heap.size, 0, none⟩) (Nat.le_refl _) _⟩

theorem clone_any (s : ByteArray) (w : World) (hlim : s.size ≤ 1048576) :
    Calls Tryz.prog 36 #[.string s] w fun e w' => e = .returned (.string s) ∧ Below w.heap.size w w' := by
  go_enter Tryz.func36, Tryz.ntmps36
  go_wp2_with fail
  refine (cloneLite_any s _ hlim).mono ?_; rintro e w1 ⟨rfl, hb1⟩
  go_wp2
  go_ret
  exact ⟨rfl, hb1⟩
end Go.Proofs.YtjobfolipbfhlaoGreat

namespace Go.Proofs.YtjobfolipbfhlaoGreat
open Go.RowKit

/-- A stamp, and a register, as values. -/
abbrev stv (t b : Int) : Value := .agg #[.int .i64 t, .int .i64 b]
abbrev rgv (v t b : Int) : Value := .agg #[.int .i64 v, .int .i64 t, .int .i64 b]

/-- Which of two stamps is later. -/
def later (t b t' b' : Int) : Bool := if t = t' then decide (b' < b) else decide (t' < t)
def stOk (t b : Int) : Bool := decide (0 ≤ t ∧ t ≤ 100000 ∧ 0 ≤ b ∧ b ≤ 2)
def rgOk (v t b : Int) : Bool := stOk t b && decide (0 ≤ v ∧ v ≤ 1000000000)

theorem bpush {a w : World} (h : Below a.heap.size a w) (o : Obj) : Below a.heap.size a (w.alloc o) := h.alloc h.size o
theorem btr {a b c : World} (h : Below a.heap.size a b) (k : Below b.heap.size b c) : Below a.heap.size a c := h.trans (k.mono h.size)
theorem bre (a : World) : Below a.heap.size a a := Below.refl _ _
theorem bdr {a w : World} (h : Below a.heap.size a w) : Below a.heap.size a w.drew := h.drew
theorem bset {a w : World} (h : Below a.heap.size a w) {p : Addr} (hp : a.heap.size ≤ p.block) (u : Value) : Below a.heap.size a (w.setCell p u) := h.setCell hp u


theorem ret_bool {x y : Bool} (h : x = y) : Ending.returned (.bool x) = Ending.returned (.bool y) := by rw [h]

theorem rightStamp_any (t b : Int) (w : World) :
    Calls Tryz.prog 133 #[.agg #[.int .i64 t, .int .i64 b]] w fun e w' => e = .returned (.bool (stOk t b)) ∧ w' = w.alloc (.cells #[.int .i64 t, .int .i64 b] 50) := by
  go_enter Tryz.func133, Tryz.ntmps133
  go_wp2
  all_goals go_ret
  all_goals (refine ⟨ret_bool ?_, rfl⟩)
  all_goals (first | (simp [stOk, *]; done) | (simp [stOk]; omega))

theorem in_any (x lo hi : Int) (w : World) :
    Calls Tryz.prog 67 #[.int .i64 x, .int .i64 lo, .int .i64 hi] w fun e w' => e = .returned (.bool (decide (lo ≤ x ∧ x ≤ hi))) ∧ w' = w := by
  by_cases h : lo ≤ x
  · go_enter Tryz.func67, Tryz.ntmps67
    go_wp2
    go_ret
    exact ⟨ret_bool (by simp [h]), rfl⟩
  · go_enter Tryz.func67, Tryz.ntmps67
    go_wp2
    go_ret
    exact ⟨ret_bool (by simp; omega), rfl⟩

theorem toStamp_any (t b : Int) (w : World) :
    Calls Tryz.prog 106 #[.agg #[.int .i64 t, .int .i64 b]] w fun e w' => e = .returned (.agg #[.int .i64 t, .int .i64 b]) ∧ w' = ((w.alloc (.cells #[.int .i64 t, .int .i64 b] 78)).alloc (.cells #[.int .i64 t, .int .i64 b] 50)).alloc (.cells #[.int .i64 t, .int .i64 b] 50) := by
  go_enter Tryz.func106, Tryz.ntmps106
  go_wp2
  exact bodyPost_ret (v := .agg #[.int .i64 t, .int .i64 b]) (by simp [results, Tryz.results106, go_sem]) rfl ⟨rfl, rfl⟩

theorem registerOf_any (v t b : Int) (w : World) :
    Calls Tryz.prog 165 #[.agg #[.int .i64 v, .int .i64 t, .int .i64 b]] w fun e w' => e = .returned (.agg #[.int .i64 t, .int .i64 b, .int .i64 v]) ∧ w' = (w.alloc (.cells #[.int .i64 v, .int .i64 t, .int .i64 b] 115)).alloc (.cells #[.int .i64 t, .int .i64 b, .int .i64 v] 152) := by
  go_enter Tryz.func165, Tryz.ntmps165
  go_wp2
  exact bodyPost_ret (v := .agg #[.int .i64 t, .int .i64 b, .int .i64 v]) (by simp [results, Tryz.results165, go_sem]) rfl ⟨rfl, rfl⟩

theorem eqStamp_any (t b t' b' : Int) (w : World) :
    Calls Tryz.prog 112 #[.agg #[.int .i64 t, .int .i64 b], .agg #[.int .i64 t', .int .i64 b']] w fun e w' => e = .returned (.bool (decide (t = t' ∧ b = b'))) ∧ w' = (w.alloc (.cells #[.int .i64 t, .int .i64 b] 50)).alloc (.cells #[.int .i64 t', .int .i64 b'] 50) := by
  by_cases h : t = t'
  · by_cases k : b = b'
    · subst h k
      go_enter Tryz.func112, Tryz.ntmps112
      go_wp2
      go_ret
      exact ⟨ret_bool (by simp), rfl⟩
    · subst h
      go_enter Tryz.func112, Tryz.ntmps112
      go_wp2
      go_ret
      exact ⟨ret_bool (by simp [k]), rfl⟩
  · go_enter Tryz.func112, Tryz.ntmps112
    go_wp2
    go_ret
    exact ⟨ret_bool (by simp [h]), rfl⟩

theorem right_any (v t b : Int) (w : World) :
    Calls Tryz.prog 153 #[.agg #[.int .i64 t, .int .i64 b, .int .i64 v]] w fun e w' => e = .returned (.bool (rgOk v t b)) ∧ w' = (w.alloc (.cells #[.int .i64 t, .int .i64 b, .int .i64 v] 152)).alloc (.cells #[.int .i64 t, .int .i64 b] 50) := by
  cases hs : stOk t b
  all_goals
    go_enter Tryz.func153, Tryz.ntmps153
    go_wp2_with (first | (go_at_call 133; refine (rightStamp_any t b _).mono ?_; rintro e w1 ⟨rfl, rfl⟩; rw [hs]) | fail)
    all_goals go_ret
    all_goals (refine ⟨ret_bool ?_, rfl⟩)
    all_goals (first | (simp [rgOk, *]; done) | (simp [rgOk, hs]; omega))

def cb (v t b v' t' b' : Int) : Bool := if t = t' ∧ b = b' then decide (v' < v) else later t b t' b'

theorem implStampOk_any (t b : Int) (w : World) :
    Calls Tryz.prog 100 #[.agg #[.int .i64 t, .int .i64 b]] w fun e w' => e = .returned (.bool (stOk t b)) ∧ Below w.heap.size w w' := by
  go_enter Tryz.func100, Tryz.ntmps100
  go_wp2_with (first | (go_at_call 133; refine (rightStamp_any t b _).mono ?_; rintro e w1 ⟨rfl, rfl⟩) | fail)
  go_ret
  exact ⟨rfl, bpush (bpush (bre _) _) _⟩

theorem implRegOk_any (v t b : Int) (w : World) :
    Calls Tryz.prog 152 #[.agg #[.int .i64 v, .int .i64 t, .int .i64 b]] w fun e w' => e = .returned (.bool (rgOk v t b)) ∧ Below w.heap.size w w' := by
  go_enter Tryz.func152, Tryz.ntmps152
  go_wp2_with (first | (go_at_call 165; refine (registerOf_any v t b _).mono ?_; rintro e w1 ⟨rfl, rfl⟩) | (go_at_call 153; refine (right_any v t b _).mono ?_; rintro e w1 ⟨rfl, rfl⟩) | fail)
  go_ret
  exact ⟨rfl, bpush (bpush (bpush (bpush (bpush (bre _) _) _) _) _) _⟩

theorem in_letter (x lo hi : Int) : ∃ p : Bool, Hid (p = decide (lo ≤ x ∧ x ≤ hi)) ∧ Hid (∀ w, Calls Tryz.prog 67 #[.int .i64 x, .int .i64 lo, .int .i64 hi] w fun e w' => e = .returned (.bool p) ∧ w' = w) := ⟨_, rfl, in_any x lo hi⟩

theorem specStampOk_any (t b : Int) (w : World) :
    Calls Tryz.prog 98 #[.agg #[.int .i64 t, .int .i64 b]] w fun e w' => e = .returned (.bool (stOk t b)) ∧ w' = w.alloc (.cells #[.int .i64 t, .int .i64 b] 50) := by
  obtain ⟨p, hp, cp⟩ := in_letter t 0 100000
  obtain ⟨q, hq, cq⟩ := in_letter b 0 2
  have hs : Hid (stOk t b = (p && q)) := by
    show _ = _
    rw [hp.out, hq.out]; by_cases h : 0 ≤ t <;> by_cases k : t ≤ 100000 <;> simp [stOk, h, k]
  rw [hs.out]
  cases p
  · go_enter Tryz.func98, Tryz.ntmps98
    go_wp2_with fail
    refine (cp.out _).mono ?_; rintro e w1 ⟨rfl, rfl⟩
    go_wp2_with fail
    go_ret
    exact ⟨rfl, rfl⟩
  · go_enter Tryz.func98, Tryz.ntmps98
    go_wp2_with fail
    refine (cp.out _).mono ?_; rintro e w1 ⟨rfl, rfl⟩
    go_wp2_with fail
    refine (cq.out _).mono ?_; rintro e w1 ⟨rfl, rfl⟩
    go_wp2_with fail
    go_ret
    exact ⟨rfl, rfl⟩

theorem specStampOk_letter (t b : Int) : ∃ p : Bool, Hid (p = stOk t b) ∧ Hid (∀ w, Calls Tryz.prog 98 #[.agg #[.int .i64 t, .int .i64 b]] w fun e w' => e = .returned (.bool p) ∧ w' = w.alloc (.cells #[.int .i64 t, .int .i64 b] 50)) := ⟨_, rfl, specStampOk_any t b⟩

theorem specRegOk_any (v t b : Int) (w : World) :
    Calls Tryz.prog 150 #[.agg #[.int .i64 v, .int .i64 t, .int .i64 b]] w fun e w' => e = .returned (.bool (rgOk v t b)) ∧ w' = (w.alloc (.cells #[.int .i64 v, .int .i64 t, .int .i64 b] 115)).alloc (.cells #[.int .i64 t, .int .i64 b] 50) := by
  obtain ⟨p, hp, cp⟩ := specStampOk_letter t b
  obtain ⟨q, hq, cq⟩ := in_letter v 0 1000000000
  have hs : Hid (rgOk v t b = (p && q)) := by show _ = _; rw [hp.out, hq.out]; rfl
  rw [hs.out]
  cases p
  all_goals
    go_enter Tryz.func150, Tryz.ntmps150
    go_wp2_with (first | (go_at_call 98; refine (cp.out _).mono ?_; rintro e w1 ⟨rfl, rfl⟩) | (go_at_call 67; refine (cq.out _).mono ?_; rintro e w1 ⟨rfl, rfl⟩) | fail)
    go_ret
    exact ⟨rfl, rfl⟩

end Go.Proofs.YtjobfolipbfhlaoGreat

namespace Go.Proofs.YtjobfolipbfhlaoGreat
open Go.RowKit

def jreg (v t b v' t' b' : Int) : Value := if cb v' t' b' v t b = true then rgv v' t' b' else rgv v t b

/-- Block k holds a register; a stamp. -/
def Rg (W : World) (k ty : Nat) (v t b : Int) : Prop := W.heap[k]? = some (.cells #[.int .i64 v, .int .i64 t, .int .i64 b] ty (0, 0))
def Sg (W : World) (k ty : Nat) (t b : Int) : Prop := W.heap[k]? = some (.cells #[.int .i64 t, .int .i64 b] ty (0, 0))
theorem Rg.new (w : World) (ty : Nat) (v t b : Int) : Rg (w.alloc (.cells #[.int .i64 v, .int .i64 t, .int .i64 b] ty)) w.heap.size ty v t b := heap_alloc_new w _
theorem Rg.later {W W' : World} {k ty : Nat} {v t b : Int} (h : Rg W k ty v t b) (hb : Below W.heap.size W W') : Rg W' k ty v t b := (hb.block k (Array.getElem?_eq_some_iff.1 h).1).trans h
theorem Rg.lt {W : World} {k ty : Nat} {v t b : Int} (h : Rg W k ty v t b) : k < W.heap.size := (Array.getElem?_eq_some_iff.1 h).1
theorem Sg.lt {W : World} {k ty : Nat} {t b : Int} (h : Sg W k ty t b) : k < W.heap.size := (Array.getElem?_eq_some_iff.1 h).1
theorem Rg.cells {W : World} {k ty : Nat} {v t b : Int} (h : Rg W k ty v t b) : W.cell? ⟨k, 0, none⟩ = some (.int .i64 v) ∧ W.cell? ⟨k, 1, none⟩ = some (.int .i64 t) ∧ W.cell? ⟨k, 2, none⟩ = some (.int .i64 b) :=
  ⟨cell_of_row W k 0 _ _ _ h, cell_of_row W k 1 _ _ _ h, cell_of_row W k 2 _ _ _ h⟩
/-- A register is stored whole. -/
def set3 (W : World) (k : Nat) (v t b : Int) : World := ((W.setCell ⟨k, 0, none⟩ (.int .i64 v)).setCell ⟨k, 1, none⟩ (.int .i64 t)).setCell ⟨k, 2, none⟩ (.int .i64 b)
def set2 (W : World) (k : Nat) (t b : Int) : World := (W.setCell ⟨k, 0, none⟩ (.int .i64 t)).setCell ⟨k, 1, none⟩ (.int .i64 b)
theorem bset' {a w u : World} (h : Below a.heap.size a w) (hu : Below a.heap.size a u) (i : Nat) (x : Value) : Below a.heap.size a (w.setCell ⟨u.heap.size, i, none⟩ x) := bset h hu.size x
theorem bset3 {a w : World} (h : Below a.heap.size a w) {k : Nat} (hk : a.heap.size ≤ k) (v t b : Int) : Below a.heap.size a (set3 w k v t b) := bset (bset (bset h hk _) hk _) hk _
theorem bset2 {a w : World} (h : Below a.heap.size a w) {k : Nat} (hk : a.heap.size ≤ k) (t b : Int) : Below a.heap.size a (set2 w k t b) := bset (bset h hk _) hk _

end Go.Proofs.YtjobfolipbfhlaoGreat

namespace Go.Proofs.YtjobfolipbfhlaoGreat
open Go.RowKit

def preg (v t b n t' b' : Int) : Value := if (rgOk n t' b' && later t' b' t b) = true then rgv n t' b' else rgv v t b

theorem eqStamp_letter (t b t' b' : Int) : ∃ p : Bool, Hid (p = decide (t = t' ∧ b = b')) ∧ Hid (∀ w, Calls Tryz.prog 112 #[.agg #[.int .i64 t, .int .i64 b], .agg #[.int .i64 t', .int .i64 b']] w fun e w' => e = .returned (.bool p) ∧ w' = (w.alloc (.cells #[.int .i64 t, .int .i64 b] 50)).alloc (.cells #[.int .i64 t', .int .i64 b'] 50)) := ⟨_, rfl, eqStamp_any t b t' b'⟩

theorem toReg_any (v t b : Int) (w : World) :
    Calls Tryz.prog 166 #[.agg #[.int .i64 v, .int .i64 t, .int .i64 b]] w fun e w' => e = .returned (.agg #[.int .i64 v, .int .i64 t, .int .i64 b]) ∧ Below w.heap.size w w' := by
  go_enter Tryz.func166, Tryz.ntmps166
  go_wp2_with fail
  refine (toStamp_any t b _).mono ?_; rintro e w1 ⟨rfl, rfl⟩
  go_wp2_with fail
  exact bodyPost_ret (v := rgv v t b) (by simp [results, Tryz.results166, go_sem]) rfl ⟨rfl, by repeat (first | exact bre _ | refine bpush ?_ _)⟩

theorem eqReg_same (v t b : Int) (w : World) :
    Calls Tryz.prog 177 #[.agg #[.int .i64 v, .int .i64 t, .int .i64 b], .agg #[.int .i64 v, .int .i64 t, .int .i64 b]] w fun e w' => e = .returned (.bool true) ∧ Below w.heap.size w w' := by
  obtain ⟨p, hp, cp⟩ := eqStamp_letter t b t b
  have hp1 : p = true := by rw [hp.out]; simp
  subst hp1
  go_enter Tryz.func177, Tryz.ntmps177
  go_wp2_with fail
  refine (cp.out _).mono ?_; rintro e w1 ⟨rfl, rfl⟩
  go_wp2_with fail
  go_ret
  exact ⟨rfl, by repeat (first | exact bre _ | refine bpush ?_ _)⟩
end Go.Proofs.YtjobfolipbfhlaoGreat

namespace Go.Proofs.YtjobfolipbfhlaoGreat
open Go.RowKit

theorem toStamp_b (t b : Int) (w : World) :
    Calls Tryz.prog 106 #[.agg #[.int .i64 t, .int .i64 b]] w fun e w' => e = .returned (.agg #[.int .i64 t, .int .i64 b]) ∧ Below w.heap.size w w' :=
  (toStamp_any t b w).mono fun _ _ h => ⟨h.1, h.2 ▸ bpush (bpush (bpush (bre _) _) _) _⟩

theorem preg_or (v t b n t' b' : Int) : ∃ v1 t1 b1, preg v t b n t' b' = rgv v1 t1 b1 := by
  unfold preg; split
  · exact ⟨_, _, _, rfl⟩
  · exact ⟨_, _, _, rfl⟩
end Go.Proofs.YtjobfolipbfhlaoGreat

namespace Go.Proofs.YtjobfolipbfhlaoGreat
open Go.RowKit

theorem later_iff {t b t' b' : Int} : later t b t' b' = true ↔ (t' < t ∨ (t = t' ∧ b' < b)) := by
  unfold later; split <;> simp <;> omega
theorem jreg_or (v t b v' t' b' : Int) : ∃ v1 t1 b1, jreg v t b v' t' b' = rgv v1 t1 b1 := by
  unfold jreg; split
  · exact ⟨_, _, _, rfl⟩
  · exact ⟨_, _, _, rfl⟩
end Go.Proofs.YtjobfolipbfhlaoGreat

