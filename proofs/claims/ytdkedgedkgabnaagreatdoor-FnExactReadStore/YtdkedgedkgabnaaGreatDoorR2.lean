/- RShort, Mb, Mc, Md. -/
import Derived.Test.YtdkedgedkgabnaaGreatDoorR1
namespace Go.Proofs.YtdkedgedkgabnaaGreatDoor
open Go.RowKit
theorem rv_some : ∀ (f : Nat) (l : List UInt8) (k n m d : Nat), rv f l k n = some (m, d) → m ≤ 1000000000 ∧ d ≤ k + l.length
 | 0, _, _, _, _, _, h => by simp [rv] at h
 | _ + 1, [], _, _, _, _, h => by simp [rv] at h
 | f + 1, c :: l, k, n, m, d, h => by
  by_cases hc : c.toNat < 128
  ·by_cases h2 : 1000000000 < n + c.toNat % 128 * 128 ^ k ∨ (c.toNat = 0 ∧ 0 < k)
   ·rw [rv_bad f k n c l hc h2] at h; simp at h
   ·rw [rv_good f k n c l hc h2] at h
    simp only [Option.some.injEq, Prod.mk.injEq] at h
    obtain ⟨rfl, rfl⟩ := h
    simp only [List.length_cons]
    omega
  ·rw [rv_more f k n c l hc] at h
   have := rv_some f l _ _ m d h
   simp only [List.length_cons]
   omega
theorem rv_place {s : ByteArray} {k n d : Nat} (hk : k ≤ s.size) (h : rv 5 (s.data.toList.drop k) 0 0 = some (n, d)) : n ≤ 1000000000 ∧ k + d ≤ s.size := by
 have := rv_some _ _ _ _ _ _ h
 rw [List.length_drop, len_list] at this
 omega
theorem specRShort_no (s : ByteArray) (k : Int) (w : World) (hs : s.size ≤ 1048576)
  (h : (k < 0 ∨ s.size < k) ∨ (0 ≤ k ∧ k ≤ s.size ∧ rv 5 (s.data.toList.drop k.toNat) 0 0 = none)) :
  Calls Tryz.prog 109 #[.string s, .int .i64 k] w fun e w' => e = .returned (.tuple #[.string ⟨#[]⟩, .int .i64 0, .bool false]) ∧ Below w.heap.size w w' := by
 rcases h with h | ⟨h0, h1, h2⟩
 ·go_enter Tryz.func109, Tryz.ntmps109
  go_wp2_with fail
  refine (specRead_no s k _ hs h).mono ?_; rintro e w1 ⟨rfl, rfl⟩
  go_wp2
  go_ret3
  exact ⟨rfl, Below.refl _ _⟩
 ·obtain ⟨a, rfl⟩ : ∃ a : Nat, k = a := ⟨k.toNat, by omega⟩
  have HR : Hid (rv 5 (s.data.toList.drop a) 0 0 = none) := h2
  clear h2
  go_enter Tryz.func109, Tryz.ntmps109
  go_wp2_with fail
  refine (specRead_any s a _ hs (by omega)).mono ?_; rintro e w1 ⟨he, hb1⟩
  rw [HR.out] at he
  obtain rfl : e = .returned (.tuple #[.int .i64 0, .int .i64 0, .bool false]) := he
  go_wp2
  go_ret3
  exact ⟨rfl, hb1⟩
theorem implRShort_no (s : ByteArray) (k : Int) (w : World) (hs : s.size ≤ 1048576)
  (h : (k < 0 ∨ s.size < k) ∨ (0 ≤ k ∧ k ≤ s.size ∧ rv 5 (s.data.toList.drop k.toNat) 0 0 = none)) :
  Calls Tryz.prog 143 #[.string s, .int .i64 k] w fun e w' => e = .returned (.tuple #[.string ⟨#[]⟩, .int .i64 0, .bool false]) ∧ Below w.heap.size w w' := by
 rcases h with h | ⟨h0, h1, h2⟩
 ·go_enter Tryz.func143, Tryz.ntmps143
  go_wp2_with fail
  refine (implRead_no s k _ h).mono ?_; rintro e w1 ⟨rfl, rfl⟩
  go_wp2
  go_ret3
  exact ⟨rfl, Below.refl _ _⟩
 ·obtain ⟨a, rfl⟩ : ∃ a : Nat, k = a := ⟨k.toNat, by omega⟩
  have HR : Hid (rv 5 (s.data.toList.drop a) 0 0 = none) := h2
  clear h2
  go_enter Tryz.func143, Tryz.ntmps143
  go_wp2_with fail
  refine (implRead_any s a _ hs (by omega)).mono ?_; rintro e w1 ⟨he, hb1⟩
  rw [HR.out] at he
  obtain rfl : e = .returned (.tuple #[.int .i64 0, .int .i64 0, .bool false]) := he
  go_wp2
  go_ret3
  exact ⟨rfl, hb1⟩
theorem specRShort_bad (s : ByteArray) (a n d : Nat) (w : World) (hs : s.size ≤ 1048576) (ha : a ≤ s.size) (hr : rv 5 (s.data.toList.drop a) 0 0 = some (n, d)) (hbad : 20000 < n ∨ s.size < a + d + n) :
  Calls Tryz.prog 109 #[.string s, .int .i64 a] w fun e w' => e = .returned (.tuple #[.string ⟨#[]⟩, .int .i64 0, .bool false]) ∧ Below w.heap.size w w' := by
 have hp := rv_place ha hr
 have HR : Hid (rv 5 (s.data.toList.drop a) 0 0 = some (n, d)) := hr
 clear hr
 by_cases h2 : 20000 < n
 ·clear hbad
  go_enter Tryz.func109, Tryz.ntmps109
  go_wp2_with fail
  refine (specRead_any s a _ hs ha).mono ?_; rintro e w1 ⟨he, hb1⟩
  rw [HR.out] at he
  obtain rfl : e = .returned (.tuple #[.int .i64 n, .int .i64 (a + d : Nat), .bool true]) := he
  go_wp2
  go_ret3
  exact ⟨rfl, hb1⟩
 ·have h3 : s.size < a + d + n := by omega
  clear hbad
  go_enter Tryz.func109, Tryz.ntmps109
  go_wp2_with fail
  refine (specRead_any s a _ hs ha).mono ?_; rintro e w1 ⟨he, hb1⟩
  rw [HR.out] at he
  obtain rfl : e = .returned (.tuple #[.int .i64 n, .int .i64 (a + d : Nat), .bool true]) := he
  go_wp2
  go_ret3
  exact ⟨rfl, hb1⟩
theorem implRShort_bad (s : ByteArray) (a n d : Nat) (w : World) (hs : s.size ≤ 1048576) (ha : a ≤ s.size) (hr : rv 5 (s.data.toList.drop a) 0 0 = some (n, d)) (hbad : 20000 < n ∨ s.size < a + d + n) :
  Calls Tryz.prog 143 #[.string s, .int .i64 a] w fun e w' => e = .returned (.tuple #[.string ⟨#[]⟩, .int .i64 0, .bool false]) ∧ Below w.heap.size w w' := by
 have hp := rv_place ha hr
 have HR : Hid (rv 5 (s.data.toList.drop a) 0 0 = some (n, d)) := hr
 clear hr
 by_cases h2 : 20000 < n
 ·clear hbad
  go_enter Tryz.func143, Tryz.ntmps143
  go_wp2_with fail
  refine (implRead_any s a _ hs ha).mono ?_; rintro e w1 ⟨he, hb1⟩
  rw [HR.out] at he
  obtain rfl : e = .returned (.tuple #[.int .i64 n, .int .i64 (a + d : Nat), .bool true]) := he
  go_wp2
  go_ret3
  exact ⟨rfl, hb1⟩
 ·have h3 : s.size < a + d + n := by omega
  clear hbad
  go_enter Tryz.func143, Tryz.ntmps143
  go_wp2_with fail
  refine (implRead_any s a _ hs ha).mono ?_; rintro e w1 ⟨he, hb1⟩
  rw [HR.out] at he
  obtain rfl : e = .returned (.tuple #[.int .i64 n, .int .i64 (a + d : Nat), .bool true]) := he
  go_wp2
  go_ret3
  exact ⟨rfl, hb1⟩
theorem specRShort_yes (s : ByteArray) (a n d : Nat) (w : World) (hs : s.size ≤ 1048576) (ha : a ≤ s.size) (hr : rv 5 (s.data.toList.drop a) 0 0 = some (n, d)) (h2 : n ≤ 20000) (h3 : a + d + n ≤ s.size) :
  Calls Tryz.prog 109 #[.string s, .int .i64 a] w fun e w' => e = .returned (.tuple #[.string (s.extract (a + d) (a + d + n)), .int .i64 (a + d + n : Nat), .bool true]) ∧ Below w.heap.size w w' := by
 have HR : Hid (rv 5 (s.data.toList.drop a) 0 0 = some (n, d)) := hr
 clear hr
 go_enter Tryz.func109, Tryz.ntmps109
 go_wp2_with fail
 refine (specRead_any s a _ hs ha).mono ?_; rintro e w1 ⟨he, hb1⟩
 rw [HR.out] at he
 obtain rfl : e = .returned (.tuple #[.int .i64 n, .int .i64 (a + d : Nat), .bool true]) := he
 go_wp2
 go_ret3
 exact ⟨rfl, hb1⟩
theorem implRShort_yes (s : ByteArray) (a n d : Nat) (w : World) (hs : s.size ≤ 1048576) (ha : a ≤ s.size) (hr : rv 5 (s.data.toList.drop a) 0 0 = some (n, d)) (h2 : n ≤ 20000) (h3 : a + d + n ≤ s.size) :
  Calls Tryz.prog 143 #[.string s, .int .i64 a] w fun e w' => e = .returned (.tuple #[.string (s.extract (a + d) (a + d + n)), .int .i64 (a + d + n : Nat), .bool true]) ∧ Below w.heap.size w w' := by
 have HR : Hid (rv 5 (s.data.toList.drop a) 0 0 = some (n, d)) := hr
 have hsz : (s.extract (a + d) (a + d + n)).size ≤ 1048576 := by rw [ByteArray.size_extract]; omega
 clear hr
 go_enter Tryz.func143, Tryz.ntmps143
 go_wp2_with fail
 refine (implRead_any s a _ hs ha).mono ?_; rintro e w1 ⟨he, hb1⟩
 rw [HR.out] at he
 obtain rfl : e = .returned (.tuple #[.int .i64 n, .int .i64 (a + d : Nat), .bool true]) := he
 go_wp2_with fail
 refine (clone_any _ _ hsz).mono ?_; rintro e w2 ⟨rfl, hb2⟩
 go_wp2
 go_ret3
 exact ⟨rfl, hb1.trans (hb2.mono hb1.size)⟩
def Cur (w : World) (cb : Nat) (ao : Option Addr) (n cap : Nat) : Prop :=
 ∃ (i : Nat) (h : Int), i ≤ n ∧ w.heap[cb]? = some (.cells #[.slice ao n cap, .int .i64 (i : Int), .int .i64 h] 101 (0, 0))
theorem Cur.alloc {w : World} {cb n cap : Nat} {ao : Option Addr} (h : Cur w cb ao n cap) (o : Obj) : Cur (w.alloc o) cb ao n cap := by
 obtain ⟨i, x, h1, h2⟩ := h
 exact ⟨i, x, h1, by rw [Below.heap_alloc w o cb (Array.getElem?_eq_some_iff.1 h2).1]; exact h2⟩
theorem Cur.lt {w : World} {cb n cap : Nat} {ao : Option Addr} (h : Cur w cb ao n cap) : cb < w.heap.size := by
 obtain ⟨i, x, h1, h2⟩ := h
 exact (Array.getElem?_eq_some_iff.1 h2).1
end Go.Proofs.YtdkedgedkgabnaaGreatDoor
namespace Go.Proofs.YtdkedgedkgabnaaGreatDoor
open Go.RowKit
theorem only_add {w w1 w2 : World} {cb : Nat} (h : w.grownBy w1 (some cb)) (k : Below w.heap.size w1 w2) : w.grownBy w2 (some cb) :=
 ⟨k.os.trans h.os, k.tape.trans h.tape, k.output.trans h.output, Nat.le_trans h.size k.size, fun i hi hr => (k.block i hi).trans (h.block i hi hr)⟩
theorem Cur.later {w1 w2 : World} {B cb n cap : Nat} {ao : Option Addr} (h : Cur w1 cb ao n cap) (k : Below B w1 w2) (hB : cb < B) : Cur w2 cb ao n cap := by
 obtain ⟨i, x, h1, h2⟩ := h
 exact ⟨i, x, h1, by rw [k.block cb hB]; exact h2⟩
end Go.Proofs.YtdkedgedkgabnaaGreatDoor
namespace Go.Proofs.YtdkedgedkgabnaaGreatDoor
open Go.RowKit
end Go.Proofs.YtdkedgedkgabnaaGreatDoor
namespace Go.Proofs.YtdkedgedkgabnaaGreatDoor
open Go.RowKit
theorem Rg.kept {W W' : World} {k ty cb : Nat} {v t b : Int} (h : Rg W k ty v t b) (hg : W.grownBy W' (some cb)) (hk : k ≠ cb) : Rg W' k ty v t b := (hg.block k h.lt (by simpa using hk)).trans h
theorem Sg.kept {W W' : World} {k ty cb : Nat} {t b : Int} (h : Sg W k ty t b) (hg : W.grownBy W' (some cb)) (hk : k ≠ cb) : Sg W' k ty t b := (hg.block k h.lt (by simpa using hk)).trans h
theorem Sg.loose {W : World} {k ty : Nat} {t b : Int} (h : Sg W k ty t b) : W.frozen? ⟨k, 0, none⟩ = false ∧ W.frozen? ⟨k, 1, none⟩ = false :=
 ⟨frozen_of_row W k 0 _ _ h, frozen_of_row W k 1 _ _ h⟩
theorem gdr {w w2 : World} {cb : Nat} (h : w.grownBy w2 (some cb)) : w.grownBy w2.drew (some cb) := ⟨h.os, h.tape, h.output, h.size, h.block⟩
theorem Cur.set {w : World} {cb n cap k o : Nat} {ao : Option Addr} {u : Value} (h : Cur w cb ao n cap) (hk : k ≠ cb) : Cur (w.setCell ⟨k, o, none⟩ u) cb ao n cap := by
 obtain ⟨i, x, h1, h2⟩ := h
 exact ⟨i, x, h1, by rw [Below.heap_setCell _ _ _ _ (fun e => hk e.symm)]; exact h2⟩
theorem Sg.other {W : World} {k ty g o : Nat} {t b : Int} {u : Value} (h : Sg W k ty t b) (hk : k ≠ g) : Sg (W.setCell ⟨g, o, none⟩ u) k ty t b := (heap_setCell_other W ⟨g, o, none⟩ k u hk).trans h
theorem Rg.other {W : World} {k ty g o : Nat} {v t b : Int} {u : Value} (h : Rg W k ty v t b) (hk : k ≠ g) : Rg (W.setCell ⟨g, o, none⟩ u) k ty v t b := (heap_setCell_other W ⟨g, o, none⟩ k u hk).trans h
theorem Cur.drew {w : World} {cb n cap : Nat} {ao : Option Addr} (h : Cur w cb ao n cap) : Cur w.drew cb ao n cap := h
theorem hid {p : Prop} (h : p) : Hid p := h
abbrev R3 := Int × Int × Int
def fl : List R3 → List Value
 | [] => []
 | p :: l => .int .i64 p.1 :: .int .i64 p.2.1 :: .int .i64 p.2.2 :: fl l
theorem fl_len (l : List R3) : (fl l).length = l.length * 3 := by
 induction l with
 | nil => rfl
 | cons p l ih => simp only [fl, List.length_cons, ih]; omega
theorem fl_app (l m : List R3) : fl (l ++ m) = fl l ++ fl m := by
 induction l with
 | nil => rfl
 | cons p l ih => simp only [List.cons_append, fl, ih]
theorem fl_at (l : List R3) (i : Nat) (h : i < l.length) :
  (fl l)[i * 3]? = some (.int .i64 l[i].1) ∧ (fl l)[i * 3 + 1]? = some (.int .i64 l[i].2.1) ∧ (fl l)[i * 3 + 2]? = some (.int .i64 l[i].2.2) := by
 induction l generalizing i with
 | nil => simp at h
 | cons p l ih =>
  cases i with
  | zero => exact ⟨rfl, rfl, rfl⟩
  | succ i =>
   have h' : i < l.length := by simpa using h
   have := ih i h'
   have e : (i + 1) * 3 = i * 3 + 1 + 1 + 1 := by omega
   rw [e]
   simpa [fl] using this
theorem fl_set (l : List R3) (i : Nat) (p : R3) (h : i < l.length) :
  (((fl l).set (i * 3) (.int .i64 p.1)).set (i * 3 + 1) (.int .i64 p.2.1)).set (i * 3 + 2) (.int .i64 p.2.2) = fl (l.set i p) := by
 induction l generalizing i with
 | nil => simp at h
 | cons q l ih =>
  cases i with
  | zero => rfl
  | succ i =>
   have h' : i < l.length := by simpa using h
   have := ih i h'
   have e : (i + 1) * 3 = i * 3 + 1 + 1 + 1 := by omega
   rw [e]
   simpa [fl] using this
theorem fl_one (l : List R3) : ∀ u ∈ fl l, u.oneCell' = true := by
 induction l with
 | nil => intro u hu; cases hu
 | cons p l ih =>
  intro u hu
  simp only [fl, List.mem_cons] at hu
  rcases hu with rfl | rfl | rfl | hu
  ·rfl
  ·rfl
  ·rfl
  ·exact ih u hu
def Row (W : World) (k o : Nat) (l : List R3) : Prop :=
 ∀ i (h : i < l.length), W.cell? ⟨k, o + i * 3, none⟩ = some (.int .i64 l[i].1) ∧ W.cell? ⟨k, o + i * 3 + 1, none⟩ = some (.int .i64 l[i].2.1) ∧ W.cell? ⟨k, o + i * 3 + 2, none⟩ = some (.int .i64 l[i].2.2)
def Rs (W : World) (a : Option Addr) (l : List R3) : Prop :=
 0 < l.length → ∃ k o, a = some ⟨k, o, none⟩ ∧ k < W.heap.size ∧ Row W k o l
theorem Row.later {W W' : World} {k o : Nat} {l : List R3} (h : Row W k o l) (hk : k < W.heap.size) (hb : Below W.heap.size W W') : Row W' k o l := by
 intro i hi
 obtain ⟨h1, h2, h3⟩ := h i hi
 exact ⟨(hb.cell (p := ⟨k, o + i * 3, none⟩) hk).trans h1, (hb.cell (p := ⟨k, o + i * 3 + 1, none⟩) hk).trans h2, (hb.cell (p := ⟨k, o + i * 3 + 2, none⟩) hk).trans h3⟩
theorem Rs.later {W W' : World} {a : Option Addr} {l : List R3} (h : Rs W a l) (hb : Below W.heap.size W W') : Rs W' a l := by
 intro hn
 obtain ⟨k, o, h1, h2, h3⟩ := h hn
 exact ⟨k, o, h1, Nat.lt_of_lt_of_le h2 hb.size, h3.later h2 hb⟩
abbrev Ow (W : World) (B : Nat) (v : Value) (l : List R3) : Prop := W.ownsRow B 126 3 v l.length (fl l)
theorem Ow.rs {W : World} {B n c : Nat} {a : Option Addr} {l : List R3} (h : Ow W B (.slice a n c) l) : n = l.length ∧ Rs W a l := by
 have hw := h
 rcases h.2 with ⟨h1, h2⟩ | ⟨g, cap, cur, h1, h2, h3, h4, h5, h6, h7⟩
 ·simp only [Value.slice.injEq] at h1
  refine ⟨by omega, fun hn => by omega⟩
 ·simp only [Value.slice.injEq] at h1
  obtain ⟨rfl, rfl, rfl⟩ := h1
  refine ⟨rfl, fun _ => ⟨g, 0, rfl, (Array.getElem?_eq_some_iff.1 h3).1, fun i hi => ?_⟩⟩
  have e := fl_at l i hi
  simp only [Nat.zero_add]
  exact ⟨(hw.cellAt _ (by omega)).trans e.1, (hw.cellAt _ (by omega)).trans e.2.1, (hw.cellAt _ (by omega)).trans e.2.2⟩
theorem Ow.shape {W : World} {B : Nat} {v : Value} {l : List R3} (h : Ow W B v l) : ∃ a c, v = .slice a l.length c ∧ Rs W a l := by
 rcases h.2 with ⟨h1, h2⟩ | ⟨g, cap, cur, h1, _⟩
 ·subst h1
  exact ⟨none, 0, by rw [h2], (Ow.rs h).2⟩
 ·subst h1
  exact ⟨_, _, rfl, (Ow.rs h).2⟩
theorem own_later {w w' : World} {B e size n : Nat} {v : Value} {xs : List Value} (h : w.ownsRow B e size v n xs) (hb : Below w.heap.size w w') : w'.ownsRow B e size v n xs :=
 h.kept (row := none) ⟨hb.os, hb.tape, hb.output, hb.size, fun k hk _ => hb.block k hk⟩ (by cases v.ownBlock <;> simp)
theorem own_base {w : World} {B B' e size n : Nat} {v : Value} {xs : List Value} (h : w.ownsRow B' e size v n xs) (hB : B ≤ B') : w.ownsRow B e size v n xs :=
 ⟨h.1, h.2.imp id (fun ⟨g, cap, cur, a, b, c⟩ => ⟨g, cap, cur, a, Nat.le_trans hB b, c⟩)⟩
theorem Rs.at {W : World} {a : Option Addr} {l : List R3} (h : Rs W a l) {i : Nat} (hi : i < l.length) : ∃ k o, a = some ⟨k, o, none⟩ ∧ k < W.heap.size ∧
  W.cell? ⟨k, o + i * 3, none⟩ = some (.int .i64 l[i].1) ∧ W.cell? ⟨k, o + i * 3 + 1, none⟩ = some (.int .i64 l[i].2.1) ∧ W.cell? ⟨k, o + i * 3 + 2, none⟩ = some (.int .i64 l[i].2.2) := by
 obtain ⟨k, o, h1, h2, h3⟩ := h (by omega)
 exact ⟨k, o, h1, h2, h3 i hi⟩
theorem Ow.stored {W : World} {B g n c : Nat} {l : List R3} (h : Ow W B (.slice (some ⟨g, 0, none⟩) n c) l) (i : Nat) (hi : i < l.length) (p : R3) :
  Ow (((W.setCell ⟨g, i * 3, none⟩ (.int .i64 p.1)).setCell ⟨g, i * 3 + 1, none⟩ (.int .i64 p.2.1)).setCell ⟨g, i * 3 + 2, none⟩ (.int .i64 p.2.2)) B (.slice (some ⟨g, 0, none⟩) n c) (l.set i p) := by
 obtain rfl := (Ow.rs h).1
 have h1 := (World.ownsRow.stored h (i * 3) (.int .i64 p.1)).1
 have h2 := (World.ownsRow.stored h1 (i * 3 + 1) (.int .i64 p.2.1)).1
 have h3 := (World.ownsRow.stored h2 (i * 3 + 2) (.int .i64 p.2.2)).1
 rw [fl_set l i p hi] at h3
 simpa [Ow] using h3
theorem Ow.spot {W : World} {B g n c : Nat} {l : List R3} (h : Ow W B (.slice (some ⟨g, 0, none⟩) n c) l) (i : Nat) (hi : i < l.length) : ∃ x y z,
  (W.cell? ⟨g, i * 3, none⟩ = some (.int .i64 x) ∧ W.cell? ⟨g, i * 3 + 1, none⟩ = some (.int .i64 y) ∧ W.cell? ⟨g, i * 3 + 2, none⟩ = some (.int .i64 z)) ∧ W.frozen? ⟨g, i * 3, none⟩ = false ∧ W.frozen? ⟨g, i * 3 + 1, none⟩ = false ∧ W.frozen? ⟨g, i * 3 + 2, none⟩ = false := by
 obtain ⟨rfl, hr⟩ := Ow.rs h
 obtain ⟨k, o, e, _, c1, c2, c3⟩ := hr.at hi
 simp only [Option.some.injEq, Addr.mk.injEq, and_true] at e
 obtain ⟨rfl, rfl⟩ := e
 simp only [Nat.zero_add] at c1 c2 c3
 exact ⟨_, _, _, ⟨c1, c2, c3⟩, World.ownsRow.frozenAt h _, World.ownsRow.frozenAt h _, World.ownsRow.frozenAt h _⟩
theorem Ow.cast {W : World} {B n c : Nat} {a : Option Addr} {l m : List R3} (h : Ow W B (.slice a n c) l) (e : l = m) : Ow W B (.slice a n c) m := e ▸ h
theorem info_rg : (Tryz.prog.info? 126).map (fun i => (i.zero, i.size, i.bytes)) = some (some (.agg #[.int .i64 0, .int .i64 0, .int .i64 0]), 3, 24) := by kernel_rfl
end Go.Proofs.YtdkedgedkgabnaaGreatDoor
namespace Go.Proofs.YtdkedgedkgabnaaGreatDoor
open Go.RowKit
theorem info_parts3 {P : Program} {e : Nat} {z : Value} {s b : Nat} (h : (P.info? e).map (fun i => (i.zero, i.size, i.bytes)) = some (some z, s, b)) : ∃ i, P.info? e = some i ∧ i.zero = some z ∧ i.size = s ∧ i.bytes = b := by
 cases hi : P.info? e with
 | none => rw [hi] at h; cases h
 | some i =>
  rw [hi] at h
  simp only [Option.map_some, Option.some.injEq, Prod.mk.injEq] at h
  exact ⟨i, rfl, h.1, h.2.1, h.2.2⟩
end Go.Proofs.YtdkedgedkgabnaaGreatDoor
namespace Go.Proofs.YtdkedgedkgabnaaGreatDoor
open Go.RowKit
set_option maxHeartbeats 400000 in
set_option maxRecDepth 100000 in
theorem eqRS_any (ao bo : Option Addr) (n ca cb : Nat) (l : List R3) (w : World) (hl : l.length = n) (hn : n ≤ 1048576) (ha : Rs w ao l) (hb : Rs w bo l) :
  Calls Tryz.prog 191 #[.slice ao n ca, .slice bo n cb] w fun e w' => e = .returned (.bool true) ∧ Below w.heap.size w w' := by
 have hnn : ((n : Int) != (n : Int)) = false := by simp
 have HA := hid ha
 have HB := hid hb
 have HL := hid hl
 clear ha hb hl
 go_enter Tryz.func191, Tryz.ntmps191
 go_wp2
 clear hnn
 go_loopw [5] (fun iv wr => ∃ i : Nat, i ≤ n ∧ iv = .int .i64 (i : Int) ∧ Below w.heap.size w wr) (fun iv _ => n - (intOf iv).toNat)
 case atStart => exact ⟨0, Nat.zero_le _, rfl, bre _⟩
 case round =>
  obtain ⟨i, hi, rfl, hb⟩ := hrel
  have HBE := hid hb
  clear hb
  by_cases hlt : i < n
  ·have hil : i < l.length := by rw [HL.out]; exact hlt
   obtain ⟨k, o, rfl, hk, c⟩ := (HA.out.later HBE.out).at hil
   obtain ⟨k', o', rfl, hk', d⟩ := (HB.out.later HBE.out).at hil
   obtain ⟨p, hp⟩ : ∃ p, l[i] = p := ⟨_, rfl⟩
   rw [hp] at c d
   obtain ⟨v, t, b⟩ := p
   clear hp
   have hI : (0 : Int) ≤ (i : Int) ∧ (i : Int) < (n : Int) := by omega
   have HS : Hid (∀ W, Below wr.heap.size wr W → (W.cell? ⟨k, o + i * 3, none⟩ = some (.int .i64 v) ∧ W.cell? ⟨k, o + i * 3 + 1, none⟩ = some (.int .i64 t) ∧ W.cell? ⟨k, o + i * 3 + 2, none⟩ = some (.int .i64 b)) ∧ (W.cell? ⟨k', o' + i * 3, none⟩ = some (.int .i64 v) ∧ W.cell? ⟨k', o' + i * 3 + 1, none⟩ = some (.int .i64 t) ∧ W.cell? ⟨k', o' + i * 3 + 2, none⟩ = some (.int .i64 b))) :=
    fun W h => ⟨⟨(h.cell (p := ⟨k, _, none⟩) hk).trans c.1, (h.cell (p := ⟨k, _, none⟩) hk).trans c.2.1, (h.cell (p := ⟨k, _, none⟩) hk).trans c.2.2⟩, ⟨(h.cell (p := ⟨k', _, none⟩) hk').trans d.1, (h.cell (p := ⟨k', _, none⟩) hk').trans d.2.1, (h.cell (p := ⟨k', _, none⟩) hk').trans d.2.2⟩⟩
   clear c d
   go_wp2_with fail
   go_region_held3 (fun W => (W.cell? ⟨k, o + i * 3, none⟩ = some (.int .i64 v) ∧ W.cell? ⟨k, o + i * 3 + 1, none⟩ = some (.int .i64 t) ∧ W.cell? ⟨k, o + i * 3 + 2, none⟩ = some (.int .i64 b)) ∧ (W.cell? ⟨k', o' + i * 3, none⟩ = some (.int .i64 v) ∧ W.cell? ⟨k', o' + i * 3 + 1, none⟩ = some (.int .i64 t) ∧ W.cell? ⟨k', o' + i * 3 + 2, none⟩ = some (.int .i64 b)))
    ((refine HS.out _ ?_; repeat (first | exact bdr (bre _) | refine btr ?_ (by assumption))))
    ((go_at_call 199; refine (eqReg_same v t b _).mono ?_; rintro e w1 ⟨rfl, hb1⟩))
   have HB1 : Hid (Below w.heap.size w w1) := by show Below _ _ _; refine btr HBE.out ?_; repeat (first | exact bdr (bre _) | refine btr ?_ (by assumption))
   go_wp2
   go_roundw
   case rel => exact ⟨i + 1, by omega, by go_num, HB1.out⟩
   case measure => simp [intOf]; omega
  ·go_wp2
   go_ret
   exact ⟨rfl, HBE.out⟩
def mks (k n : Nat) : List R3 := (List.range n).map fun i => (((k + i * 3 : Nat) : Int), ((k + i * 3 + 1 : Nat) : Int), ((k + i * 3 + 2 : Nat) : Int))
theorem mks_len (k n : Nat) : (mks k n).length = n := by simp [mks]
theorem mks_at (k n i : Nat) (h : i < (mks k n).length) : (mks k n)[i] = (((k + i * 3 : Nat) : Int), ((k + i * 3 + 1 : Nat) : Int), ((k + i * 3 + 2 : Nat) : Int)) := by simp [mks]
theorem wtr {a b c : World} {r : Option Nat} (h : a.grownBy b r) (k : b.grownBy c r) : a.grownBy c r :=
 ⟨k.os.trans h.os, k.tape.trans h.tape, k.output.trans h.output, Nat.le_trans h.size k.size, fun i hi hr => (k.block i (Nat.lt_of_lt_of_le hi h.size) hr).trans (h.block i hi hr)⟩
theorem wre (a : World) (r : Option Nat) : a.grownBy a r := ⟨rfl, rfl, rfl, Nat.le_refl _, fun _ _ _ => rfl⟩
theorem wst {a w : World} {g : Nat} (h : a.grownBy w (some g)) (i : Nat) (u : Value) : a.grownBy (w.setCell ⟨g, i, none⟩ u) (some g) :=
 wtr h ⟨rfl, rfl, rfl, by simp [World.setCell], fun k _ hk => Below.heap_setCell _ _ _ _ (fun e => hk (by simpa using e))⟩
theorem Rs.grown {W W' : World} {a : Option Addr} {l : List R3} {g : Nat} (h : Rs W a l) (hg : W.grownBy W' (some g)) (ha : ∀ x, a = some x → x.block ≠ g) : Rs W' a l := by
 intro hn
 obtain ⟨k, o, h1, h2, h3⟩ := h hn
 have hk : k ≠ g := ha _ h1
 refine ⟨k, o, h1, Nat.lt_of_lt_of_le h2 hg.size, fun i hi => ?_⟩
 obtain ⟨c1, c2, c3⟩ := h3 i hi
 exact ⟨hg.cell (a := ⟨k, _, none⟩) c1 (by simpa using hk), hg.cell (a := ⟨k, _, none⟩) c2 (by simpa using hk), hg.cell (a := ⟨k, _, none⟩) c3 (by simpa using hk)⟩
theorem below_of_grown {B g : Nat} {a w : World} (h : a.grownBy w (some g)) (hB : B ≤ g) (hs : B ≤ a.heap.size) : Below B a w :=
 ⟨h.os, h.tape, h.output, h.size, fun k hk => h.block k (by omega) (by simp; omega)⟩
def mkd (k : Nat) (l : List R3) (i : Nat) : List R3 := mks k i ++ l.drop i
theorem mkd_len (k : Nat) (l : List R3) (i : Nat) (h : i ≤ l.length) : (mkd k l i).length = l.length := by simp [mkd, mks_len]; omega
theorem mkd_zero (k : Nat) (l : List R3) : mkd k l 0 = l := by simp [mkd, mks]
theorem mkd_all (k : Nat) (l : List R3) : mkd k l l.length = mks k l.length := by simp [mkd]
theorem mkd_set (k : Nat) (l : List R3) (i : Nat) (h : i < l.length) (p : R3) (hp : p = (((k + i * 3 : Nat) : Int), ((k + i * 3 + 1 : Nat) : Int), ((k + i * 3 + 2 : Nat) : Int))) : (mkd k l i).set i p = mkd k l (i + 1) := by
 unfold mkd
 rw [List.set_append_right _ _ (by rw [mks_len]; omega), mks_len, Nat.sub_self, List.drop_eq_getElem_cons h, List.set_cons_zero, hp]
 have e : mks k (i + 1) = mks k i ++ [(((k + i * 3 : Nat) : Int), ((k + i * 3 + 1 : Nat) : Int), ((k + i * 3 + 2 : Nat) : Int))] := by
  unfold mks; rw [List.range_succ, List.map_append]; rfl
 rw [e, List.append_assoc]
 rfl
end Go.Proofs.YtdkedgedkgabnaaGreatDoor
namespace Go.Proofs.YtdkedgedkgabnaaGreatDoor
open Go.RowKit
def okp (p : R3) : Bool := rgOk p.1 p.2.1 p.2.2 && decide (p.1 ≤ 1)
def flOk (l : List R3) : Bool := decide (l.length = 3) && l.all okp
theorem all_here (l : List R3) (i : Nat) (h : i < l.length) (ha : (l.take i).all okp = true) (hp : okp l[i] = true) : (l.take (i + 1)).all okp = true := by
 rw [List.take_succ_eq_append_getElem h, List.all_append, ha]; simp [hp]
theorem not_all (l : List R3) (i : Nat) (h : i < l.length) (hp : okp l[i] = false) : flOk l = false := by
 have : l.all okp = false := by
  rw [List.all_eq_false]; exact ⟨l[i], List.getElem_mem h, by rw [hp]; simp⟩
 simp [flOk, this]
theorem all_end (l : List R3) (i : Nat) (h : i = l.length) (ha : (l.take i).all okp = true) : flOk l = decide (l.length = 3) := by
 subst h
 rw [List.take_length] at ha
 simp [flOk, ha]
theorem specRegOk_l (v t b : Int) : ∃ p : Bool, Hid (p = rgOk v t b) ∧ Hid (∀ w, Calls Tryz.prog 145 #[.agg #[.int .i64 v, .int .i64 t, .int .i64 b]] w fun e w' => e = .returned (.bool p) ∧ Below w.heap.size w w') :=
 ⟨_, rfl, fun w => (specRegOk_any v t b w).mono fun _ _ h => ⟨h.1, h.2 ▸ bpush (bpush (bre _) _) _⟩⟩
theorem implRegOk_l (v t b : Int) : ∃ p : Bool, Hid (p = rgOk v t b) ∧ Hid (∀ w, Calls Tryz.prog 169 #[.agg #[.int .i64 v, .int .i64 t, .int .i64 b]] w fun e w' => e = .returned (.bool p) ∧ Below w.heap.size w w') :=
 ⟨_, rfl, implRegOk_any v t b⟩
set_option maxHeartbeats 400000 in
set_option maxRecDepth 100000 in
theorem specFlagsOk_any (ao : Option Addr) (n cap : Nat) (l : List R3) (w : World) (hl : l.length = n) (hn : n ≤ 1048576) (hr : Rs w ao l) :
  Calls Tryz.prog 111 #[.slice ao n cap] w fun e w' => e = .returned (.bool (flOk l)) ∧ Below w.heap.size w w' := by
 have HR := hid hr
 have HL := hid hl
 clear hr hl
 go_enter Tryz.func111, Tryz.ntmps111
 go_wp2
 go_loopw [3] (fun iv wr => ∃ i : Nat, i ≤ n ∧ iv = .int .i64 (i : Int) ∧ (l.take i).all okp = true ∧ Below w.heap.size w wr) (fun iv _ => n - (intOf iv).toNat)
 case atStart => exact ⟨0, Nat.zero_le _, rfl, by simp, bre _⟩
 case round =>
  obtain ⟨i, hi, rfl, hall, hb⟩ := hrel
  have HAL := hid hall
  have HB := hid hb
  clear hall hb
  by_cases hlt : i < n
  ·have hil : i < l.length := by rw [HL.out]; exact hlt
   obtain ⟨k, o, rfl, hk, c⟩ := (HR.out.later HB.out).at hil
   obtain ⟨p, hp⟩ : ∃ p, l[i] = p := ⟨_, rfl⟩
   rw [hp] at c
   obtain ⟨v, t, b⟩ := p
   have HP := hid hp
   clear hp
   obtain ⟨q, hq, cq⟩ := specRegOk_l v t b
   go_wp2_with fail
   refine (cq.out _).mono ?_; rintro e w1 ⟨rfl, hb1⟩
   have d1 : w1.cell? ⟨k, o + i * 3, none⟩ = some (.int .i64 v) := (hb1.cell (p := ⟨k, _, none⟩) hk).trans c.1
   have HB1 : Hid (Below w.heap.size w w1) := btr HB.out hb1
   clear c hb1
   cases q
   ·have HF : Hid (flOk l = false) := not_all l i hil (by rw [HP.out]; simp [okp, ← hq.out])
    go_wp2
    go_ret
    exact ⟨by rw [HF.out]; rfl, HB1.out⟩
   ·by_cases hv : v ≤ 1
    ·have HT : Hid (okp l[i] = true) := by show _ = _; rw [HP.out]; simp [okp, ← hq.out, hv]
     go_wp2
     go_roundw
     case rel => exact ⟨i + 1, by omega, by go_num, all_here l i hil HAL.out HT.out, HB1.out⟩
     case measure => simp [intOf]; omega
    ·have HF : Hid (flOk l = false) := not_all l i hil (by rw [HP.out]; simp [okp, hv])
     go_wp2
     go_ret
     exact ⟨by rw [HF.out]; rfl, HB1.out⟩
  ·have HE : Hid (flOk l = decide (l.length = 3)) := all_end l i (by rw [HL.out]; omega) HAL.out
   by_cases h3 : n = 3
   ·have HG : Hid (flOk l = true) := by show _ = _; rw [HE.out, HL.out]; simp [h3]
    subst h3
    go_wp2
    go_ret
    exact ⟨by rw [HG.out]; rfl, HB.out⟩
   ·have HG : Hid (flOk l = false) := by show _ = _; rw [HE.out, HL.out]; simp [h3]
    have h4 : ((n : Int) == 3) = false := by simp; omega
    go_wp2
    go_ret
    exact ⟨by rw [HG.out]; rfl, HB.out⟩
set_option maxHeartbeats 400000 in
set_option maxRecDepth 100000 in
theorem implFlagsOk_any (ao : Option Addr) (n cap : Nat) (l : List R3) (w : World) (hl : l.length = n) (hn : n ≤ 1048576) (hr : Rs w ao l) :
  Calls Tryz.prog 141 #[.slice ao n cap] w fun e w' => e = .returned (.bool (flOk l)) ∧ Below w.heap.size w w' := by
 have HR := hid hr
 have HL := hid hl
 clear hr hl
 by_cases h3 : n = 3
 ·have h4 : ((n : Int) != 3) = false := by subst h3; rfl
  have H3 := hid h3
  clear h3
  go_enter Tryz.func141, Tryz.ntmps141
  go_wp2
  clear h4
  go_loopw [10] (fun iv wr => ∃ i : Nat, i ≤ n ∧ iv = .int .i64 (i : Int) ∧ (l.take i).all okp = true ∧ Below w.heap.size w wr) (fun iv _ => n - (intOf iv).toNat)
  case atStart => exact ⟨0, Nat.zero_le _, rfl, by simp, bre _⟩
  case round =>
   obtain ⟨i, hi, rfl, hall, hb⟩ := hrel
   have HAL := hid hall
   have HB := hid hb
   clear hall hb
   by_cases hlt : i < n
   ·have hil : i < l.length := by rw [HL.out]; exact hlt
    obtain ⟨k, o, rfl, hk, c⟩ := (HR.out.later HB.out).at hil
    obtain ⟨p, hp⟩ : ∃ p, l[i] = p := ⟨_, rfl⟩
    rw [hp] at c
    obtain ⟨v, t, b⟩ := p
    have HP := hid hp
    clear hp
    obtain ⟨q, hq, cq⟩ := implRegOk_l v t b
    go_wp2_with fail
    refine (cq.out _).mono ?_; rintro e w1 ⟨rfl, hb1⟩
    have d1 := ((Rg.new wr 126 v t b).later hb1).cells
    have HB1 : Hid (Below w.heap.size w w1) := btr HB.out (btr (bpush (bre _) _) hb1)
    clear c hb1
    cases q
    ·have HF : Hid (flOk l = false) := not_all l i hil (by rw [HP.out]; simp [okp, ← hq.out])
     go_wp2
     go_ret
     exact ⟨by rw [HF.out]; rfl, HB1.out⟩
    ·by_cases hv : v ≤ 1
     ·have HT : Hid (okp l[i] = true) := by show _ = _; rw [HP.out]; simp [okp, ← hq.out, hv]
      go_wp2
      go_roundw
      case rel => exact ⟨i + 1, by omega, by go_num, all_here l i hil HAL.out HT.out, HB1.out⟩
      case measure => simp [intOf]; omega
     ·have HF : Hid (flOk l = false) := not_all l i hil (by rw [HP.out]; simp [okp, hv])
      go_wp2
      go_ret
      exact ⟨by rw [HF.out]; rfl, HB1.out⟩
   ·have HE : Hid (flOk l = true) := (all_end l i (by rw [HL.out]; omega) HAL.out).trans (by rw [HL.out]; simp [H3.out])
    go_wp2
    go_ret
    exact ⟨by rw [HE.out]; rfl, HB.out⟩
 ·have HG : Hid (flOk l = false) := by show _ = _; simp [flOk, HL.out, h3]
  have h4 : ((n : Int) != 3) = true := by simp; omega
  go_enter Tryz.func141, Tryz.ntmps141
  go_wp2
  go_ret
  exact ⟨by rw [HG.out]; rfl, bre _⟩
end Go.Proofs.YtdkedgedkgabnaaGreatDoor
namespace Go.Proofs.YtdkedgedkgabnaaGreatDoor
open Go.RowKit
def bit (n : Int) (i : Nat) : Int := n / 2 ^ i % 2
end Go.Proofs.YtdkedgedkgabnaaGreatDoor
namespace Go.Proofs.YtdkedgedkgabnaaGreatDoor
open Go.RowKit
def fnew (n t b : Int) : List R3 := [(bit n 0, t, b), (bit n 1, t, b), (bit n 2, t, b)]
theorem cells_new3 (w : World) (p : R3) (e : Nat) : ∀ j u, (fl [p])[j]? = some u → (w.alloc (.cells #[.int .i64 p.1, .int .i64 p.2.1, .int .i64 p.2.2] e)).cell? ((⟨w.heap.size, 0, none⟩ : Addr).add j) = some u := by
 intro j u hu
 have h := heap_alloc_new w (.cells #[.int .i64 p.1, .int .i64 p.2.1, .int .i64 p.2.2] e)
 have hadd : (⟨w.heap.size, 0, none⟩ : Addr).add j = ⟨w.heap.size, j, none⟩ := by unfold Addr.add; split <;> simp_all
 rw [hadd, cell_of_row _ _ _ _ _ _ h]
 simpa [fl] using hu
theorem wpList_append_rg (w : World) {ops : Array Oper} {rest : List Oper} {o : Oper} {a : Act} {Q : Exit → Act → World → Prop} (hgd : o.guard = none) (s x : Operand)
  (ho : o.op = .call { callee := .builtin .append, args := #[s, x], argTypes := #[76, 76] })
  (base : Nat) (v : Value) (l : List R3) (hs : a.eval s = v) (hown : Ow w base v l) (p q r : Int)
  (hx : a.eval x = .slice (some ⟨w.heap.size, 0, none⟩) 1 1) (hlen : l.length ≤ 1048576) (hbase : base ≤ w.heap.size)
  (h : ∀ v' w', Ow w' base v' (l ++ [(p, q, r)]) → Below base w w' → wpList Tryz.prog ops Q rest (a.put o.dst v') w') :
  wpList Tryz.prog ops Q (o :: rest) a (w.alloc (.cells #[.int .i64 p, .int .i64 q, .int .i64 r] 126)) := by
 obtain ⟨i0, hi, hz0, hz1, hz2⟩ := info_parts3 info_rg
 refine wpList_append_own _ hgd s x 76 ho base 126 i0 _ 3 24 Tryz.underlying76 hi hz0 hz1 hz2 rfl (by decide) v _ _ hs (hown.alloc _) ⟨w.heap.size, 0, none⟩ 1 1 (fl [(p, q, r)]) hx rfl (cells_new3 w (p, q, r) 126) (fl_one _) (by unfold maxLen; omega) (by omega) (by simp; omega) ?_
 intro v' w' hown' hg _
 have h1 : Ow w' base v' (l ++ [(p, q, r)]) := by unfold Ow; rw [fl_app]; simpa using hown'
 exact h v' w' h1 (((Below.refl base w).alloc hbase _).grown hg (by simp; omega) (fun k hk => (hown.lt k hk).1))
theorem own_empty (W : World) (B : Nat) (hB : B ≤ W.heap.size) : Ow (W.alloc (.cells #[] 126)) B (.slice (some ⟨W.heap.size, 0, none⟩) 0 0) [] :=
 World.ownsRow_lit (base := B) (e := 126) (size := 3) W #[] 0 hB (by unfold maxLen; omega) rfl
theorem step_append_rg {ops : Array Oper} {o : Oper} {a : Act} {w : World} {K : Act → World → Prop} {Q : Exit → Act → World → Prop} {E : Prop}
  (hg : o.guard = none) (s x : Operand) (hop : o.op = Op.call { callee := Callee.builtin Builtin.append, args := #[s, x], argTypes := #[76, 76] })
  (base : Nat) (v : Value) (l : List R3) (hs : a.eval s = v) (p q r : Int) (hown : Ow w base v l)
  (hx : a.eval x = .slice (some ⟨w.heap.size, 0, none⟩) 1 1) (hlen : l.length ≤ 1048576) (hbase : base ≤ w.heap.size)
  (hK : ∀ v' w', Ow w' base v' (l ++ [(p, q, r)]) → Below base w w' → K (a.put o.dst v') w') :
  if Region.wanted o (yielded ops a.tmps) = true then Oper.wp Tryz.prog o a (w.alloc (.cells #[.int .i64 p, .int .i64 q, .int .i64 r] 126)) K Q else E := by
 have hw : Region.wanted o (yielded ops a.tmps) = true := by simp [Region.wanted, hg]
 rw [if_pos hw]
 obtain ⟨i0, hi, hz0, hz1, hz2⟩ := info_parts3 info_rg
 refine wp_append_own _ s x 76 hop base 126 i0 _ 3 24 Tryz.underlying76 hi hz0 hz1 hz2 rfl (by decide) v _ _ hs (hown.alloc _) ⟨w.heap.size, 0, none⟩ 1 1 (fl [(p, q, r)]) hx rfl (cells_new3 w (p, q, r) 126) (fl_one _) (by unfold maxLen; omega) (by omega) (by simp; omega) ?_
 intro v' w' hown' hgr _
 refine hK v' w' ?_ (((Below.refl base w).alloc hbase _).grown hgr (by simp; omega) (fun k hk => (hown.lt k hk).1))
 unfold Ow; rw [fl_app]; simpa using hown'
end Go.Proofs.YtdkedgedkgabnaaGreatDoor
namespace Go.Proofs.YtdkedgedkgabnaaGreatDoor
open Go.RowKit
theorem addr_add (k o j : Nat) : (⟨k, o, none⟩ : Addr).add j = ⟨k, o + j, none⟩ := by unfold Addr.add; split <;> simp_all
theorem Row.all {W : World} {k o : Nat} {l : List R3} (h : Row W k o l) : ∀ j u, (fl l)[j]? = some u → W.cell? ((⟨k, o, none⟩ : Addr).add j) = some u := by
 intro j u hu
 rw [addr_add]
 have hj : j < (fl l).length := (List.getElem?_eq_some_iff.1 hu).1
 rw [fl_len] at hj
 have hi : j / 3 < l.length := by omega
 have e := fl_at l (j / 3) hi
 have c := h (j / 3) hi
 have h3 : j % 3 = 0 ∨ j % 3 = 1 ∨ j % 3 = 2 := by omega
 rcases h3 with h3 | h3 | h3
 ·have ej : j = j / 3 * 3 := by omega
  rw [← ej] at e c
  rw [← hu, e.1]; exact c.1
 ·have ej : j = j / 3 * 3 + 1 := by omega
  rw [Nat.add_assoc, ← ej] at c
  rw [← ej] at e
  rw [← hu, e.2.1]; exact c.2.1
 ·have ej : j = j / 3 * 3 + 2 := by omega
  rw [Nat.add_assoc o _ 2, ← ej] at c
  rw [← ej] at e
  rw [← hu, e.2.2]; exact c.2.2
end Go.Proofs.YtdkedgedkgabnaaGreatDoor
namespace Go.Proofs.YtdkedgedkgabnaaGreatDoor
open Go.RowKit
theorem Ow.here {W : World} {B g n c : Nat} {l : List R3} (h : Ow W B (.slice (some ⟨g, 0, none⟩) n c) l) (i : Nat) (hi : i < l.length) (p : R3) (hp : l[i] = p) :
  (W.cell? ⟨g, i * 3, none⟩ = some (.int .i64 p.1) ∧ W.cell? ⟨g, i * 3 + 1, none⟩ = some (.int .i64 p.2.1) ∧ W.cell? ⟨g, i * 3 + 2, none⟩ = some (.int .i64 p.2.2)) ∧ W.frozen? ⟨g, i * 3, none⟩ = false ∧ W.frozen? ⟨g, i * 3 + 1, none⟩ = false ∧ W.frozen? ⟨g, i * 3 + 2, none⟩ = false := by
 subst hp
 obtain ⟨rfl, hr⟩ := Ow.rs h
 obtain ⟨k, o, e, _, c1, c2, c3⟩ := hr.at hi
 simp only [Option.some.injEq, Addr.mk.injEq, and_true] at e
 obtain ⟨rfl, rfl⟩ := e
 simp only [Nat.zero_add] at c1 c2 c3
 exact ⟨⟨c1, c2, c3⟩, World.ownsRow.frozenAt h _, World.ownsRow.frozenAt h _, World.ownsRow.frozenAt h _⟩
end Go.Proofs.YtdkedgedkgabnaaGreatDoor
namespace Go.Proofs.YtdkedgedkgabnaaGreatDoor
open Go.RowKit
def gd (p : R3) : Prop := (0 ≤ p.1 ∧ p.1 < 2) ∧ 0 ≤ p.2.1 ∧ p.2.1 < 12 ∧ 1 ≤ p.2.2 ∧ p.2.2 ≤ 2
theorem Sg.same {W W' : World} {k ty : Nat} {t b : Int} (h : Sg W k ty t b) (e : W'.heap[k]? = W.heap[k]?) : Sg W' k ty t b := e.trans h
end Go.Proofs.YtdkedgedkgabnaaGreatDoor
namespace Go.Proofs.YtdkedgedkgabnaaGreatDoor
open Go.RowKit
end Go.Proofs.YtdkedgedkgabnaaGreatDoor
namespace Go.Proofs.YtdkedgedkgabnaaGreatDoor
open Go.RowKit
theorem three {l : List R3} (h : l.length = 3) : ∃ p q r, l = [p, q, r] := by
 match l, h with
 | [p, q, r], _ => exact ⟨p, q, r, rfl⟩
theorem bdn {B : Nat} {w w1 : World} (h : Below B w w1) (k : Nat) : Below B w (w1.drewN k) := ⟨h.os, h.tape, h.output, h.size, h.block⟩
end Go.Proofs.YtdkedgedkgabnaaGreatDoor
