/- RShort, Mb, Mc, Md, Me. -/
import Derived.Test.YtlhofbnnonljaaaGreatDoorX1
namespace Go.Proofs.YtlhofbnnonljaaaGreatDoor
open Go.RowKit
theorem rv_some : ∀ (f : Nat) (l : List UInt8) (k n m d : Nat), rv f l k n = some (m, d) → m ≤ 1000000000 ∧ d ≤ k + l.length
  | 0, _, _, _, _, _, h => by simp [rv] at h
  | _ + 1, [], _, _, _, _, h => by simp [rv] at h
  | f + 1, c :: l, k, n, m, d, h => by
    by_cases hc : c.toNat < 128
    · by_cases h2 : 1000000000 < n + c.toNat % 128 * 128 ^ k ∨ (c.toNat = 0 ∧ 0 < k)
      · rw [rv_bad f k n c l hc h2] at h; simp at h
      · rw [rv_good f k n c l hc h2] at h
        simp only [Option.some.injEq, Prod.mk.injEq] at h
        obtain ⟨rfl, rfl⟩ := h
        simp only [List.length_cons]
        omega
    · rw [rv_more f k n c l hc] at h
      have := rv_some f l _ _ m d h
      simp only [List.length_cons]
      omega
/-- The place behind, and whether a text of n bytes lies there. -/
theorem rv_place {s : ByteArray} {k n d : Nat} (hk : k ≤ s.size) (h : rv 5 (s.data.toList.drop k) 0 0 = some (n, d)) : n ≤ 1000000000 ∧ k + d ≤ s.size := by
  have := rv_some _ _ _ _ _ _ h
  rw [List.length_drop, len_list] at this
  omega
theorem specRShort_no (s : ByteArray) (k : Int) (w : World) (hs : s.size ≤ 1048576)
    (h : (k < 0 ∨ s.size < k) ∨ (0 ≤ k ∧ k ≤ s.size ∧ rv 5 (s.data.toList.drop k.toNat) 0 0 = none)) :
    Calls Tryz.prog 42 #[.string s, .int .i64 k] w fun e w' => e = .returned (.tuple #[.string ⟨#[]⟩, .int .i64 0, .bool false]) ∧ Below w.heap.size w w' := by
  rcases h with h | ⟨h0, h1, h2⟩
  · go_enter Tryz.func42, Tryz.ntmps42
    go_wp2_with fail
    refine (specRead_no s k _ hs h).mono ?_; rintro e w1 ⟨rfl, rfl⟩
    go_wp2
    go_ret3
    exact ⟨rfl, Below.refl _ _⟩
  · obtain ⟨a, rfl⟩ : ∃ a : Nat, k = a := ⟨k.toNat, by omega⟩
    have HR : Hid (rv 5 (s.data.toList.drop a) 0 0 = none) := h2
    clear h2
    go_enter Tryz.func42, Tryz.ntmps42
    go_wp2_with fail
    refine (specRead_any s a _ hs (by omega)).mono ?_; rintro e w1 ⟨he, hb1⟩
    rw [HR.out] at he
    obtain rfl : e = .returned (.tuple #[.int .i64 0, .int .i64 0, .bool false]) := he
    go_wp2
    go_ret3
    exact ⟨rfl, hb1⟩
theorem implRShort_no (s : ByteArray) (k : Int) (w : World) (hs : s.size ≤ 1048576)
    (h : (k < 0 ∨ s.size < k) ∨ (0 ≤ k ∧ k ≤ s.size ∧ rv 5 (s.data.toList.drop k.toNat) 0 0 = none)) :
    Calls Tryz.prog 67 #[.string s, .int .i64 k] w fun e w' => e = .returned (.tuple #[.string ⟨#[]⟩, .int .i64 0, .bool false]) ∧ Below w.heap.size w w' := by
  rcases h with h | ⟨h0, h1, h2⟩
  · go_enter Tryz.func67, Tryz.ntmps67
    go_wp2_with fail
    refine (implRead_no s k _ h).mono ?_; rintro e w1 ⟨rfl, rfl⟩
    go_wp2
    go_ret3
    exact ⟨rfl, Below.refl _ _⟩
  · obtain ⟨a, rfl⟩ : ∃ a : Nat, k = a := ⟨k.toNat, by omega⟩
    have HR : Hid (rv 5 (s.data.toList.drop a) 0 0 = none) := h2
    clear h2
    go_enter Tryz.func67, Tryz.ntmps67
    go_wp2_with fail
    refine (implRead_any s a _ hs (by omega)).mono ?_; rintro e w1 ⟨he, hb1⟩
    rw [HR.out] at he
    obtain rfl : e = .returned (.tuple #[.int .i64 0, .int .i64 0, .bool false]) := he
    go_wp2
    go_ret3
    exact ⟨rfl, hb1⟩
theorem specRShort_bad (s : ByteArray) (a n d : Nat) (w : World) (hs : s.size ≤ 1048576) (ha : a ≤ s.size) (hr : rv 5 (s.data.toList.drop a) 0 0 = some (n, d)) (hbad : 20000 < n ∨ s.size < a + d + n) :
    Calls Tryz.prog 42 #[.string s, .int .i64 a] w fun e w' => e = .returned (.tuple #[.string ⟨#[]⟩, .int .i64 0, .bool false]) ∧ Below w.heap.size w w' := by
  have hp := rv_place ha hr
  have HR : Hid (rv 5 (s.data.toList.drop a) 0 0 = some (n, d)) := hr
  clear hr
  by_cases h2 : 20000 < n
  · clear hbad
    go_enter Tryz.func42, Tryz.ntmps42
    go_wp2_with fail
    refine (specRead_any s a _ hs ha).mono ?_; rintro e w1 ⟨he, hb1⟩
    rw [HR.out] at he
    obtain rfl : e = .returned (.tuple #[.int .i64 n, .int .i64 (a + d : Nat), .bool true]) := he
    go_wp2
    go_ret3
    exact ⟨rfl, hb1⟩
  · have h3 : s.size < a + d + n := by omega
    clear hbad
    go_enter Tryz.func42, Tryz.ntmps42
    go_wp2_with fail
    refine (specRead_any s a _ hs ha).mono ?_; rintro e w1 ⟨he, hb1⟩
    rw [HR.out] at he
    obtain rfl : e = .returned (.tuple #[.int .i64 n, .int .i64 (a + d : Nat), .bool true]) := he
    go_wp2
    go_ret3
    exact ⟨rfl, hb1⟩
theorem implRShort_bad (s : ByteArray) (a n d : Nat) (w : World) (hs : s.size ≤ 1048576) (ha : a ≤ s.size) (hr : rv 5 (s.data.toList.drop a) 0 0 = some (n, d)) (hbad : 20000 < n ∨ s.size < a + d + n) :
    Calls Tryz.prog 67 #[.string s, .int .i64 a] w fun e w' => e = .returned (.tuple #[.string ⟨#[]⟩, .int .i64 0, .bool false]) ∧ Below w.heap.size w w' := by
  have hp := rv_place ha hr
  have HR : Hid (rv 5 (s.data.toList.drop a) 0 0 = some (n, d)) := hr
  clear hr
  by_cases h2 : 20000 < n
  · clear hbad
    go_enter Tryz.func67, Tryz.ntmps67
    go_wp2_with fail
    refine (implRead_any s a _ hs ha).mono ?_; rintro e w1 ⟨he, hb1⟩
    rw [HR.out] at he
    obtain rfl : e = .returned (.tuple #[.int .i64 n, .int .i64 (a + d : Nat), .bool true]) := he
    go_wp2
    go_ret3
    exact ⟨rfl, hb1⟩
  · have h3 : s.size < a + d + n := by omega
    clear hbad
    go_enter Tryz.func67, Tryz.ntmps67
    go_wp2_with fail
    refine (implRead_any s a _ hs ha).mono ?_; rintro e w1 ⟨he, hb1⟩
    rw [HR.out] at he
    obtain rfl : e = .returned (.tuple #[.int .i64 n, .int .i64 (a + d : Nat), .bool true]) := he
    go_wp2
    go_ret3
    exact ⟨rfl, hb1⟩
theorem specRShort_yes (s : ByteArray) (a n d : Nat) (w : World) (hs : s.size ≤ 1048576) (ha : a ≤ s.size) (hr : rv 5 (s.data.toList.drop a) 0 0 = some (n, d)) (h2 : n ≤ 20000) (h3 : a + d + n ≤ s.size) :
    Calls Tryz.prog 42 #[.string s, .int .i64 a] w fun e w' => e = .returned (.tuple #[.string (s.extract (a + d) (a + d + n)), .int .i64 (a + d + n : Nat), .bool true]) ∧ Below w.heap.size w w' := by
  have HR : Hid (rv 5 (s.data.toList.drop a) 0 0 = some (n, d)) := hr
  clear hr
  go_enter Tryz.func42, Tryz.ntmps42
  go_wp2_with fail
  refine (specRead_any s a _ hs ha).mono ?_; rintro e w1 ⟨he, hb1⟩
  rw [HR.out] at he
  obtain rfl : e = .returned (.tuple #[.int .i64 n, .int .i64 (a + d : Nat), .bool true]) := he
  go_wp2
  go_ret3
  exact ⟨rfl, hb1⟩
theorem implRShort_yes (s : ByteArray) (a n d : Nat) (w : World) (hs : s.size ≤ 1048576) (ha : a ≤ s.size) (hr : rv 5 (s.data.toList.drop a) 0 0 = some (n, d)) (h2 : n ≤ 20000) (h3 : a + d + n ≤ s.size) :
    Calls Tryz.prog 67 #[.string s, .int .i64 a] w fun e w' => e = .returned (.tuple #[.string (s.extract (a + d) (a + d + n)), .int .i64 (a + d + n : Nat), .bool true]) ∧ Below w.heap.size w w' := by
  have HR : Hid (rv 5 (s.data.toList.drop a) 0 0 = some (n, d)) := hr
  have hsz : (s.extract (a + d) (a + d + n)).size ≤ 1048576 := by rw [ByteArray.size_extract]; omega
  clear hr
  go_enter Tryz.func67, Tryz.ntmps67
  go_wp2_with fail
  refine (implRead_any s a _ hs ha).mono ?_; rintro e w1 ⟨he, hb1⟩
  rw [HR.out] at he
  obtain rfl : e = .returned (.tuple #[.int .i64 n, .int .i64 (a + d : Nat), .bool true]) := he
  go_wp2_with fail
  refine (clone_any _ _ hsz).mono ?_; rintro e w2 ⟨rfl, hb2⟩
  go_wp2
  go_ret3
  exact ⟨rfl, hb1.trans (hb2.mono hb1.size)⟩
end Go.Proofs.YtlhofbnnonljaaaGreatDoor
namespace Go.Proofs.YtlhofbnnonljaaaGreatDoor
open Go.RowKit
end Go.Proofs.YtlhofbnnonljaaaGreatDoor
namespace Go.Proofs.YtlhofbnnonljaaaGreatDoor
open Go.RowKit
end Go.Proofs.YtlhofbnnonljaaaGreatDoor
namespace Go.Proofs.YtlhofbnnonljaaaGreatDoor
open Go.RowKit
theorem Rg.kept {W W' : World} {k ty cb : Nat} {v t b : Int} (h : Rg W k ty v t b) (hg : W.grownBy W' (some cb)) (hk : k ≠ cb) : Rg W' k ty v t b := (hg.block k h.lt (by simpa using hk)).trans h
theorem Sg.kept {W W' : World} {k ty cb : Nat} {t b : Int} (h : Sg W k ty t b) (hg : W.grownBy W' (some cb)) (hk : k ≠ cb) : Sg W' k ty t b := (hg.block k h.lt (by simpa using hk)).trans h
theorem Sg.loose {W : World} {k ty : Nat} {t b : Int} (h : Sg W k ty t b) : W.frozen? ⟨k, 0, none⟩ = false ∧ W.frozen? ⟨k, 1, none⟩ = false :=
  ⟨frozen_of_row W k 0 _ _ h, frozen_of_row W k 1 _ _ h⟩
theorem Sg.other {W : World} {k ty g o : Nat} {t b : Int} {u : Value} (h : Sg W k ty t b) (hk : k ≠ g) : Sg (W.setCell ⟨g, o, none⟩ u) k ty t b := (heap_setCell_other W ⟨g, o, none⟩ k u hk).trans h
theorem Rg.other {W : World} {k ty g o : Nat} {v t b : Int} {u : Value} (h : Rg W k ty v t b) (hk : k ≠ g) : Rg (W.setCell ⟨g, o, none⟩ u) k ty v t b := (heap_setCell_other W ⟨g, o, none⟩ k u hk).trans h
theorem hid {p : Prop} (h : p) : Hid p := h
/-- A register as three numbers: its value, its stamp's time, its stamp's server. -/
abbrev R3 := Int × Int × Int
/-- The cells of a list of registers. -/
def fl : List R3 → List Value
  | [] => []
  | p :: l => .int .i64 p.1 :: .int .i64 p.2.1 :: .int .i64 p.2.2 :: fl l
theorem fl_len (l : List R3) : (fl l).length = l.length * 3 := by
  induction l with
  | nil => rfl
  | cons p l ih => simp only [fl, List.length_cons, ih]; omega
theorem fl_app (l m : List R3) : fl (l ++ m) = fl l ++ fl m := by
  induction l with
  | nil => rfl
  | cons p l ih => simp only [List.cons_append, fl, ih]
theorem fl_at (l : List R3) (i : Nat) (h : i < l.length) :
    (fl l)[i * 3]? = some (.int .i64 l[i].1) ∧ (fl l)[i * 3 + 1]? = some (.int .i64 l[i].2.1) ∧ (fl l)[i * 3 + 2]? = some (.int .i64 l[i].2.2) := by
  induction l generalizing i with
  | nil => simp at h
  | cons p l ih =>
    cases i with
    | zero => exact ⟨rfl, rfl, rfl⟩
    | succ i =>
      have h' : i < l.length := by simpa using h
      have := ih i h'
      have e : (i + 1) * 3 = i * 3 + 1 + 1 + 1 := by omega
      rw [e]
      simpa [fl] using this
theorem fl_one (l : List R3) : ∀ u ∈ fl l, u.oneCell' = true := by
  induction l with
  | nil => intro u hu; cases hu
  | cons p l ih =>
    intro u hu
    simp only [fl, List.mem_cons] at hu
    rcases hu with rfl | rfl | rfl | hu
    · rfl
    · rfl
    · rfl
    · exact ih u hu
/-- From cell o of block k on lie the registers of l. -/
def Row (W : World) (k o : Nat) (l : List R3) : Prop :=
  ∀ i (h : i < l.length), W.cell? ⟨k, o + i * 3, none⟩ = some (.int .i64 l[i].1) ∧ W.cell? ⟨k, o + i * 3 + 1, none⟩ = some (.int .i64 l[i].2.1) ∧ W.cell? ⟨k, o + i * 3 + 2, none⟩ = some (.int .i64 l[i].2.2)
/-- The slice of address a is the registers of l. -/
def Rs (W : World) (a : Option Addr) (l : List R3) : Prop :=
  0 < l.length → ∃ k o, a = some ⟨k, o, none⟩ ∧ k < W.heap.size ∧ Row W k o l
theorem Row.later {W W' : World} {k o : Nat} {l : List R3} (h : Row W k o l) (hk : k < W.heap.size) (hb : Below W.heap.size W W') : Row W' k o l := by
  intro i hi
  obtain ⟨h1, h2, h3⟩ := h i hi
  exact ⟨(hb.cell (p := ⟨k, o + i * 3, none⟩) hk).trans h1, (hb.cell (p := ⟨k, o + i * 3 + 1, none⟩) hk).trans h2, (hb.cell (p := ⟨k, o + i * 3 + 2, none⟩) hk).trans h3⟩
theorem Rs.later {W W' : World} {a : Option Addr} {l : List R3} (h : Rs W a l) (hb : Below W.heap.size W W') : Rs W' a l := by
  intro hn
  obtain ⟨k, o, h1, h2, h3⟩ := h hn
  exact ⟨k, o, h1, Nat.lt_of_lt_of_le h2 hb.size, h3.later h2 hb⟩
/-- A row of registers that a call owns. -/
abbrev Ow (W : World) (B : Nat) (v : Value) (l : List R3) : Prop := W.ownsRow B 140 3 v l.length (fl l)
theorem Ow.rs {W : World} {B n c : Nat} {a : Option Addr} {l : List R3} (h : Ow W B (.slice a n c) l) : n = l.length ∧ Rs W a l := by
  have hw := h
  rcases h.2 with ⟨h1, h2⟩ | ⟨g, cap, cur, h1, h2, h3, h4, h5, h6, h7⟩
  · simp only [Value.slice.injEq] at h1
    refine ⟨by omega, fun hn => by omega⟩
  · simp only [Value.slice.injEq] at h1
    obtain ⟨rfl, rfl, rfl⟩ := h1
    refine ⟨rfl, fun _ => ⟨g, 0, rfl, (Array.getElem?_eq_some_iff.1 h3).1, fun i hi => ?_⟩⟩
    have e := fl_at l i hi
    simp only [Nat.zero_add]
    exact ⟨(hw.cellAt _ (by omega)).trans e.1, (hw.cellAt _ (by omega)).trans e.2.1, (hw.cellAt _ (by omega)).trans e.2.2⟩
theorem Ow.shape {W : World} {B : Nat} {v : Value} {l : List R3} (h : Ow W B v l) : ∃ a c, v = .slice a l.length c ∧ Rs W a l := by
  rcases h.2 with ⟨h1, h2⟩ | ⟨g, cap, cur, h1, _⟩
  · subst h1
    exact ⟨none, 0, by rw [h2], (Ow.rs h).2⟩
  · subst h1
    exact ⟨_, _, rfl, (Ow.rs h).2⟩
theorem own_later {w w' : World} {B e size n : Nat} {v : Value} {xs : List Value} (h : w.ownsRow B e size v n xs) (hb : Below w.heap.size w w') : w'.ownsRow B e size v n xs :=
  h.kept (row := none) ⟨hb.os, hb.tape, hb.output, hb.size, fun k hk _ => hb.block k hk⟩ (by cases v.ownBlock <;> simp)
theorem own_base {w : World} {B B' e size n : Nat} {v : Value} {xs : List Value} (h : w.ownsRow B' e size v n xs) (hB : B ≤ B') : w.ownsRow B e size v n xs :=
  ⟨h.1, h.2.imp id (fun ⟨g, cap, cur, a, b, c⟩ => ⟨g, cap, cur, a, Nat.le_trans hB b, c⟩)⟩
theorem Rs.at {W : World} {a : Option Addr} {l : List R3} (h : Rs W a l) {i : Nat} (hi : i < l.length) : ∃ k o, a = some ⟨k, o, none⟩ ∧ k < W.heap.size ∧
    W.cell? ⟨k, o + i * 3, none⟩ = some (.int .i64 l[i].1) ∧ W.cell? ⟨k, o + i * 3 + 1, none⟩ = some (.int .i64 l[i].2.1) ∧ W.cell? ⟨k, o + i * 3 + 2, none⟩ = some (.int .i64 l[i].2.2) := by
  obtain ⟨k, o, h1, h2, h3⟩ := h (by omega)
  exact ⟨k, o, h1, h2, h3 i hi⟩
theorem Ow.cast {W : World} {B n c : Nat} {a : Option Addr} {l m : List R3} (h : Ow W B (.slice a n c) l) (e : l = m) : Ow W B (.slice a n c) m := e ▸ h
theorem info_rg : (Tryz.prog.info? 140).map (fun i => (i.zero, i.size, i.bytes)) = some (some (.agg #[.int .i64 0, .int .i64 0, .int .i64 0]), 3, 24) := by kernel_rfl
end Go.Proofs.YtlhofbnnonljaaaGreatDoor
namespace Go.Proofs.YtlhofbnnonljaaaGreatDoor
open Go.RowKit
theorem info_parts3 {P : Program} {e : Nat} {z : Value} {s b : Nat} (h : (P.info? e).map (fun i => (i.zero, i.size, i.bytes)) = some (some z, s, b)) : ∃ i, P.info? e = some i ∧ i.zero = some z ∧ i.size = s ∧ i.bytes = b := by
  cases hi : P.info? e with
  | none => rw [hi] at h; cases h
  | some i =>
    rw [hi] at h
    simp only [Option.map_some, Option.some.injEq, Prod.mk.injEq] at h
    exact ⟨i, rfl, h.1, h.2.1, h.2.2⟩
end Go.Proofs.YtlhofbnnonljaaaGreatDoor
namespace Go.Proofs.YtlhofbnnonljaaaGreatDoor
open Go.RowKit
theorem wtr {a b c : World} {r : Option Nat} (h : a.grownBy b r) (k : b.grownBy c r) : a.grownBy c r :=
  ⟨k.os.trans h.os, k.tape.trans h.tape, k.output.trans h.output, Nat.le_trans h.size k.size, fun i hi hr => (k.block i (Nat.lt_of_lt_of_le hi h.size) hr).trans (h.block i hi hr)⟩
theorem wre (a : World) (r : Option Nat) : a.grownBy a r := ⟨rfl, rfl, rfl, Nat.le_refl _, fun _ _ _ => rfl⟩
theorem wst {a w : World} {g : Nat} (h : a.grownBy w (some g)) (i : Nat) (u : Value) : a.grownBy (w.setCell ⟨g, i, none⟩ u) (some g) :=
  wtr h ⟨rfl, rfl, rfl, by simp [World.setCell], fun k _ hk => Below.heap_setCell _ _ _ _ (fun e => hk (by simpa using e))⟩
theorem Rs.grown {W W' : World} {a : Option Addr} {l : List R3} {g : Nat} (h : Rs W a l) (hg : W.grownBy W' (some g)) (ha : ∀ x, a = some x → x.block ≠ g) : Rs W' a l := by
  intro hn
  obtain ⟨k, o, h1, h2, h3⟩ := h hn
  have hk : k ≠ g := ha _ h1
  refine ⟨k, o, h1, Nat.lt_of_lt_of_le h2 hg.size, fun i hi => ?_⟩
  obtain ⟨c1, c2, c3⟩ := h3 i hi
  exact ⟨hg.cell (a := ⟨k, _, none⟩) c1 (by simpa using hk), hg.cell (a := ⟨k, _, none⟩) c2 (by simpa using hk), hg.cell (a := ⟨k, _, none⟩) c3 (by simpa using hk)⟩
theorem below_of_grown {B g : Nat} {a w : World} (h : a.grownBy w (some g)) (hB : B ≤ g) (hs : B ≤ a.heap.size) : Below B a w :=
  ⟨h.os, h.tape, h.output, h.size, fun k hk => h.block k (by omega) (by simp; omega)⟩
end Go.Proofs.YtlhofbnnonljaaaGreatDoor
namespace Go.Proofs.YtlhofbnnonljaaaGreatDoor
open Go.RowKit
def okp (p : R3) : Bool := rgOk p.1 p.2.1 p.2.2 && decide (p.1 ≤ 1)
def flOk (l : List R3) : Bool := decide (l.length = 3) && l.all okp
theorem all_here (l : List R3) (i : Nat) (h : i < l.length) (ha : (l.take i).all okp = true) (hp : okp l[i] = true) : (l.take (i + 1)).all okp = true := by
  rw [List.take_succ_eq_append_getElem h, List.all_append, ha]; simp [hp]
theorem not_all (l : List R3) (i : Nat) (h : i < l.length) (hp : okp l[i] = false) : flOk l = false := by
  have : l.all okp = false := by
    rw [List.all_eq_false]; exact ⟨l[i], List.getElem_mem h, by rw [hp]; simp⟩
  simp [flOk, this]
theorem all_end (l : List R3) (i : Nat) (h : i = l.length) (ha : (l.take i).all okp = true) : flOk l = decide (l.length = 3) := by
  subst h
  rw [List.take_length] at ha
  simp [flOk, ha]
theorem specRegOk_l (v t b : Int) : ∃ p : Bool, Hid (p = rgOk v t b) ∧ Hid (∀ w, Calls Tryz.prog 191 #[.agg #[.int .i64 v, .int .i64 t, .int .i64 b]] w fun e w' => e = .returned (.bool p) ∧ Below w.heap.size w w') :=
  ⟨_, rfl, fun w => (specRegOk_any v t b w).mono fun _ _ h => ⟨h.1, h.2 ▸ bpush (bpush (bre _) _) _⟩⟩
theorem implRegOk_l (v t b : Int) : ∃ p : Bool, Hid (p = rgOk v t b) ∧ Hid (∀ w, Calls Tryz.prog 198 #[.agg #[.int .i64 v, .int .i64 t, .int .i64 b]] w fun e w' => e = .returned (.bool p) ∧ Below w.heap.size w w') :=
  ⟨_, rfl, implRegOk_any v t b⟩
set_option maxHeartbeats 400000 in
set_option maxRecDepth 100000 in
theorem specFlagsOk_any (ao : Option Addr) (n cap : Nat) (l : List R3) (w : World) (hl : l.length = n) (hn : n ≤ 1048576) (hr : Rs w ao l) :
    Calls Tryz.prog 157 #[.slice ao n cap] w fun e w' => e = .returned (.bool (flOk l)) ∧ Below w.heap.size w w' := by
  have HR := hid hr
  have HL := hid hl
  clear hr hl
  go_enter Tryz.func157, Tryz.ntmps157
  go_wp2
  go_loopw [3] (fun iv wr => ∃ i : Nat, i ≤ n ∧ iv = .int .i64 (i : Int) ∧ (l.take i).all okp = true ∧ Below w.heap.size w wr) (fun iv _ => n - (intOf iv).toNat)
  case atStart => exact ⟨0, Nat.zero_le _, rfl, by simp, bre _⟩
  case round =>
    obtain ⟨i, hi, rfl, hall, hb⟩ := hrel
    have HAL := hid hall
    have HB := hid hb
    clear hall hb
    by_cases hlt : i < n
    · have hil : i < l.length := by rw [HL.out]; exact hlt
      obtain ⟨k, o, rfl, hk, c⟩ := (HR.out.later HB.out).at hil
      obtain ⟨p, hp⟩ : ∃ p, l[i] = p := ⟨_, rfl⟩
      rw [hp] at c
      obtain ⟨v, t, b⟩ := p
      have HP := hid hp
      clear hp
      obtain ⟨q, hq, cq⟩ := specRegOk_l v t b
      go_wp2_with fail
      refine (cq.out _).mono ?_; rintro e w1 ⟨rfl, hb1⟩
      have d1 : w1.cell? ⟨k, o + i * 3, none⟩ = some (.int .i64 v) := (hb1.cell (p := ⟨k, _, none⟩) hk).trans c.1
      have HB1 : Hid (Below w.heap.size w w1) := btr HB.out hb1
      clear c hb1
      cases q
      · have HF : Hid (flOk l = false) := not_all l i hil (by rw [HP.out]; simp [okp, ← hq.out])
        go_wp2
        go_ret
        exact ⟨by rw [HF.out]; rfl, HB1.out⟩
      · by_cases hv : v ≤ 1
        · have HT : Hid (okp l[i] = true) := by show _ = _; rw [HP.out]; simp [okp, ← hq.out, hv]
          go_wp2
          go_roundw
          case rel => exact ⟨i + 1, by omega, by go_num, all_here l i hil HAL.out HT.out, HB1.out⟩
          case measure => simp [intOf]; omega
        · have HF : Hid (flOk l = false) := not_all l i hil (by rw [HP.out]; simp [okp, hv])
          go_wp2
          go_ret
          exact ⟨by rw [HF.out]; rfl, HB1.out⟩
    · have HE : Hid (flOk l = decide (l.length = 3)) := all_end l i (by rw [HL.out]; omega) HAL.out
      by_cases h3 : n = 3
      · have HG : Hid (flOk l = true) := by show _ = _; rw [HE.out, HL.out]; simp [h3]
        subst h3
        go_wp2
        go_ret
        exact ⟨by rw [HG.out]; rfl, HB.out⟩
      · have HG : Hid (flOk l = false) := by show _ = _; rw [HE.out, HL.out]; simp [h3]
        have h4 : ((n : Int) == 3) = false := by simp; omega
        go_wp2
        go_ret
        exact ⟨by rw [HG.out]; rfl, HB.out⟩
set_option maxHeartbeats 400000 in
set_option maxRecDepth 100000 in
theorem implFlagsOk_any (ao : Option Addr) (n cap : Nat) (l : List R3) (w : World) (hl : l.length = n) (hn : n ≤ 1048576) (hr : Rs w ao l) :
    Calls Tryz.prog 172 #[.slice ao n cap] w fun e w' => e = .returned (.bool (flOk l)) ∧ Below w.heap.size w w' := by
  have HR := hid hr
  have HL := hid hl
  clear hr hl
  by_cases h3 : n = 3
  · have h4 : ((n : Int) != 3) = false := by subst h3; rfl
    have H3 := hid h3
    clear h3
    go_enter Tryz.func172, Tryz.ntmps172
    go_wp2
    clear h4
    go_loopw [10] (fun iv wr => ∃ i : Nat, i ≤ n ∧ iv = .int .i64 (i : Int) ∧ (l.take i).all okp = true ∧ Below w.heap.size w wr) (fun iv _ => n - (intOf iv).toNat)
    case atStart => exact ⟨0, Nat.zero_le _, rfl, by simp, bre _⟩
    case round =>
      obtain ⟨i, hi, rfl, hall, hb⟩ := hrel
      have HAL := hid hall
      have HB := hid hb
      clear hall hb
      by_cases hlt : i < n
      · have hil : i < l.length := by rw [HL.out]; exact hlt
        obtain ⟨k, o, rfl, hk, c⟩ := (HR.out.later HB.out).at hil
        obtain ⟨p, hp⟩ : ∃ p, l[i] = p := ⟨_, rfl⟩
        rw [hp] at c
        obtain ⟨v, t, b⟩ := p
        have HP := hid hp
        clear hp
        obtain ⟨q, hq, cq⟩ := implRegOk_l v t b
        go_wp2_with fail
        refine (cq.out _).mono ?_; rintro e w1 ⟨rfl, hb1⟩
        have d1 := ((Rg.new wr 140 v t b).later hb1).cells
        have HB1 : Hid (Below w.heap.size w w1) := btr HB.out (btr (bpush (bre _) _) hb1)
        clear c hb1
        cases q
        · have HF : Hid (flOk l = false) := not_all l i hil (by rw [HP.out]; simp [okp, ← hq.out])
          go_wp2
          go_ret
          exact ⟨by rw [HF.out]; rfl, HB1.out⟩
        · by_cases hv : v ≤ 1
          · have HT : Hid (okp l[i] = true) := by show _ = _; rw [HP.out]; simp [okp, ← hq.out, hv]
            go_wp2
            go_roundw
            case rel => exact ⟨i + 1, by omega, by go_num, all_here l i hil HAL.out HT.out, HB1.out⟩
            case measure => simp [intOf]; omega
          · have HF : Hid (flOk l = false) := not_all l i hil (by rw [HP.out]; simp [okp, hv])
            go_wp2
            go_ret
            exact ⟨by rw [HF.out]; rfl, HB1.out⟩
      · have HE : Hid (flOk l = true) := (all_end l i (by rw [HL.out]; omega) HAL.out).trans (by rw [HL.out]; simp [H3.out])
        go_wp2
        go_ret
        exact ⟨by rw [HE.out]; rfl, HB.out⟩
  · have HG : Hid (flOk l = false) := by show _ = _; simp [flOk, HL.out, h3]
    have h4 : ((n : Int) != 3) = true := by simp; omega
    go_enter Tryz.func172, Tryz.ntmps172
    go_wp2
    go_ret
    exact ⟨by rw [HG.out]; rfl, bre _⟩
end Go.Proofs.YtlhofbnnonljaaaGreatDoor
namespace Go.Proofs.YtlhofbnnonljaaaGreatDoor
open Go.RowKit
theorem right_flags (n : Int) (w : World) :
    Calls Tryz.prog 56 #[.int .i64 n] w fun e w' => e = .returned (.bool (decide (0 ≤ n ∧ n ≤ 7))) ∧ w' = w := by
  by_cases h : 0 ≤ n
  · go_enter Tryz.func56, Tryz.ntmps56
    go_wp2
    go_ret
    exact ⟨ret_bool (by simp [h]), rfl⟩
  · go_enter Tryz.func56, Tryz.ntmps56
    go_wp2
    go_ret
    exact ⟨ret_bool (by simp; omega), rfl⟩
end Go.Proofs.YtlhofbnnonljaaaGreatDoor
namespace Go.Proofs.YtlhofbnnonljaaaGreatDoor
open Go.RowKit
theorem cells_new3 (w : World) (p : R3) (e : Nat) : ∀ j u, (fl [p])[j]? = some u → (w.alloc (.cells #[.int .i64 p.1, .int .i64 p.2.1, .int .i64 p.2.2] e)).cell? ((⟨w.heap.size, 0, none⟩ : Addr).add j) = some u := by
  intro j u hu
  have h := heap_alloc_new w (.cells #[.int .i64 p.1, .int .i64 p.2.1, .int .i64 p.2.2] e)
  have hadd : (⟨w.heap.size, 0, none⟩ : Addr).add j = ⟨w.heap.size, j, none⟩ := by unfold Addr.add; split <;> simp_all
  rw [hadd, cell_of_row _ _ _ _ _ _ h]
  simpa [fl] using hu
/-- One register appended to a row of registers that the call owns: the register lies in a block of its own, laid just ahead. -/
theorem wpList_append_rg (w : World) {ops : Array Oper} {rest : List Oper} {o : Oper} {a : Act} {Q : Exit → Act → World → Prop} (hgd : o.guard = none) (s x : Operand)
    (ho : o.op = .call { callee := .builtin .append, args := #[s, x], argTypes := #[101, 101] })
    (base : Nat) (v : Value) (l : List R3) (hs : a.eval s = v) (hown : Ow w base v l) (p q r : Int)
    (hx : a.eval x = .slice (some ⟨w.heap.size, 0, none⟩) 1 1) (hlen : l.length ≤ 1048576) (hbase : base ≤ w.heap.size)
    (h : ∀ v' w', Ow w' base v' (l ++ [(p, q, r)]) → Below base w w' → wpList Tryz.prog ops Q rest (a.put o.dst v') w') :
    wpList Tryz.prog ops Q (o :: rest) a (w.alloc (.cells #[.int .i64 p, .int .i64 q, .int .i64 r] 140)) := by
  obtain ⟨i0, hi, hz0, hz1, hz2⟩ := info_parts3 info_rg
  refine wpList_append_own _ hgd s x 101 ho base 140 i0 _ 3 24 Tryz.underlying101 hi hz0 hz1 hz2 rfl (by decide) v _ _ hs (hown.alloc _) ⟨w.heap.size, 0, none⟩ 1 1 (fl [(p, q, r)]) hx rfl (cells_new3 w (p, q, r) 140) (fl_one _) (by unfold maxLen; omega) (by omega) (by simp; omega) ?_
  intro v' w' hown' hg _
  have h1 : Ow w' base v' (l ++ [(p, q, r)]) := by unfold Ow; rw [fl_app]; simpa using hown'
  exact h v' w' h1 (((Below.refl base w).alloc hbase _).grown hg (by simp; omega) (fun k hk => (hown.lt k hk).1))
theorem own_empty (W : World) (B : Nat) (hB : B ≤ W.heap.size) : Ow (W.alloc (.cells #[] 140)) B (.slice (some ⟨W.heap.size, 0, none⟩) 0 0) [] :=
  World.ownsRow_lit (base := B) (e := 140) (size := 3) W #[] 0 hB (by unfold maxLen; omega) rfl
/-- One register appended, as one step of a region that draws its order. -/
theorem step_append_rg {ops : Array Oper} {o : Oper} {a : Act} {w : World} {K : Act → World → Prop} {Q : Exit → Act → World → Prop} {E : Prop}
    (hg : o.guard = none) (s x : Operand) (hop : o.op = Op.call { callee := Callee.builtin Builtin.append, args := #[s, x], argTypes := #[101, 101] })
    (base : Nat) (v : Value) (l : List R3) (hs : a.eval s = v) (p q r : Int) (hown : Ow w base v l)
    (hx : a.eval x = .slice (some ⟨w.heap.size, 0, none⟩) 1 1) (hlen : l.length ≤ 1048576) (hbase : base ≤ w.heap.size)
    (hK : ∀ v' w', Ow w' base v' (l ++ [(p, q, r)]) → Below base w w' → K (a.put o.dst v') w') :
    if Region.wanted o (yielded ops a.tmps) = true then Oper.wp Tryz.prog o a (w.alloc (.cells #[.int .i64 p, .int .i64 q, .int .i64 r] 140)) K Q else E := by
  have hw : Region.wanted o (yielded ops a.tmps) = true := by simp [Region.wanted, hg]
  rw [if_pos hw]
  obtain ⟨i0, hi, hz0, hz1, hz2⟩ := info_parts3 info_rg
  refine wp_append_own _ s x 101 hop base 140 i0 _ 3 24 Tryz.underlying101 hi hz0 hz1 hz2 rfl (by decide) v _ _ hs (hown.alloc _) ⟨w.heap.size, 0, none⟩ 1 1 (fl [(p, q, r)]) hx rfl (cells_new3 w (p, q, r) 140) (fl_one _) (by unfold maxLen; omega) (by omega) (by simp; omega) ?_
  intro v' w' hown' hgr _
  refine hK v' w' ?_ (((Below.refl base w).alloc hbase _).grown hgr (by simp; omega) (fun k hk => (hown.lt k hk).1))
  unfold Ow; rw [fl_app]; simpa using hown'
end Go.Proofs.YtlhofbnnonljaaaGreatDoor
namespace Go.Proofs.YtlhofbnnonljaaaGreatDoor
open Go.RowKit
theorem addr_add (k o j : Nat) : (⟨k, o, none⟩ : Addr).add j = ⟨k, o + j, none⟩ := by unfold Addr.add; split <;> simp_all
/-- The cells of a row, one by one. -/
theorem Row.all {W : World} {k o : Nat} {l : List R3} (h : Row W k o l) : ∀ j u, (fl l)[j]? = some u → W.cell? ((⟨k, o, none⟩ : Addr).add j) = some u := by
  intro j u hu
  rw [addr_add]
  have hj : j < (fl l).length := (List.getElem?_eq_some_iff.1 hu).1
  rw [fl_len] at hj
  have hi : j / 3 < l.length := by omega
  have e := fl_at l (j / 3) hi
  have c := h (j / 3) hi
  have h3 : j % 3 = 0 ∨ j % 3 = 1 ∨ j % 3 = 2 := by omega
  rcases h3 with h3 | h3 | h3
  · have ej : j = j / 3 * 3 := by omega
    rw [← ej] at e c
    rw [← hu, e.1]; exact c.1
  · have ej : j = j / 3 * 3 + 1 := by omega
    rw [Nat.add_assoc, ← ej] at c
    rw [← ej] at e
    rw [← hu, e.2.1]; exact c.2.1
  · have ej : j = j / 3 * 3 + 2 := by omega
    rw [Nat.add_assoc o _ 2, ← ej] at c
    rw [← ej] at e
    rw [← hu, e.2.2]; exact c.2.2
end Go.Proofs.YtlhofbnnonljaaaGreatDoor
namespace Go.Proofs.YtlhofbnnonljaaaGreatDoor
open Go.RowKit
end Go.Proofs.YtlhofbnnonljaaaGreatDoor
namespace Go.Proofs.YtlhofbnnonljaaaGreatDoor
open Go.RowKit
/-- A drawn flag: 0 or 1, its stamp right. -/
def gd (p : R3) : Prop := (0 ≤ p.1 ∧ p.1 < 2) ∧ 0 ≤ p.2.1 ∧ p.2.1 < 12 ∧ 1 ≤ p.2.2 ∧ p.2.2 ≤ 2
theorem Sg.same {W W' : World} {k ty : Nat} {t b : Int} (h : Sg W k ty t b) (e : W'.heap[k]? = W.heap[k]?) : Sg W' k ty t b := e.trans h
end Go.Proofs.YtlhofbnnonljaaaGreatDoor
namespace Go.Proofs.YtlhofbnnonljaaaGreatDoor
open Go.RowKit
theorem Row.tail {W : World} {k o : Nat} {p : R3} {l : List R3} (h : Row W k o (p :: l)) : Row W k (o + 3) l := by
  intro i hi
  have := h (i + 1) (by simpa using hi)
  rw [show o + (i + 1) * 3 = o + 3 + i * 3 by omega] at this
  simpa using this
end Go.Proofs.YtlhofbnnonljaaaGreatDoor
namespace Go.Proofs.YtlhofbnnonljaaaGreatDoor
open Go.RowKit
/-- A list of three. -/
theorem three {l : List R3} (h : l.length = 3) : ∃ p q r, l = [p, q, r] := by
  match l, h with
  | [p, q, r], _ => exact ⟨p, q, r, rfl⟩
/-- Block k holds a mail. -/
def Mg (W : World) (k ty : Nat) (g u : Int) (f : Value) (t : ByteArray) : Prop := W.heap[k]? = some (.cells #[.int .i64 g, .int .i64 u, f, .string t] ty (0, 0))
theorem Mg.new (w : World) (ty : Nat) (g u : Int) (f : Value) (t : ByteArray) : Mg (w.alloc (.cells #[.int .i64 g, .int .i64 u, f, .string t] ty)) w.heap.size ty g u f t := heap_alloc_new w _
theorem Mg.later {W W' : World} {k ty : Nat} {g u : Int} {f : Value} {t : ByteArray} (h : Mg W k ty g u f t) (hb : Below W.heap.size W W') : Mg W' k ty g u f t := (hb.block k (Array.getElem?_eq_some_iff.1 h).1).trans h
theorem Mg.lt {W : World} {k ty : Nat} {g u : Int} {f : Value} {t : ByteArray} (h : Mg W k ty g u f t) : k < W.heap.size := (Array.getElem?_eq_some_iff.1 h).1
theorem Mg.cells {W : World} {k ty : Nat} {g u : Int} {f : Value} {t : ByteArray} (h : Mg W k ty g u f t) : W.cell? ⟨k, 0, none⟩ = some (.int .i64 g) ∧ W.cell? ⟨k, 1, none⟩ = some (.int .i64 u) ∧ W.cell? ⟨k, 2, none⟩ = some f ∧ W.cell? ⟨k, 3, none⟩ = some (.string t) :=
  ⟨cell_of_row W k 0 _ _ _ h, cell_of_row W k 1 _ _ _ h, cell_of_row W k 2 _ _ _ h, cell_of_row W k 3 _ _ _ h⟩
theorem Mg.loose {W : World} {k ty : Nat} {g u : Int} {f : Value} {t : ByteArray} (h : Mg W k ty g u f t) : W.frozen? ⟨k, 0, none⟩ = false ∧ W.frozen? ⟨k, 1, none⟩ = false ∧ W.frozen? ⟨k, 2, none⟩ = false ∧ W.frozen? ⟨k, 3, none⟩ = false :=
  ⟨frozen_of_row W k 0 _ _ h, frozen_of_row W k 1 _ _ h, frozen_of_row W k 2 _ _ h, frozen_of_row W k 3 _ _ h⟩
theorem Mg.s0 {W : World} {k ty : Nat} {g u : Int} {f : Value} {t : ByteArray} (h : Mg W k ty g u f t) (g' : Int) : Mg (W.setCell ⟨k, 0, none⟩ (.int .i64 g')) k ty g' u f t := heap_setCell_same W k 0 _ _ (.int .i64 g') h
theorem Mg.s1 {W : World} {k ty : Nat} {g u : Int} {f : Value} {t : ByteArray} (h : Mg W k ty g u f t) (u' : Int) : Mg (W.setCell ⟨k, 1, none⟩ (.int .i64 u')) k ty g u' f t := heap_setCell_same W k 1 _ _ (.int .i64 u') h
theorem Mg.s2 {W : World} {k ty : Nat} {g u : Int} {f : Value} {t : ByteArray} (h : Mg W k ty g u f t) (f' : Value) : Mg (W.setCell ⟨k, 2, none⟩ f') k ty g u f' t := heap_setCell_same W k 2 _ _ f' h
theorem Mg.s3 {W : World} {k ty : Nat} {g u : Int} {f : Value} {t : ByteArray} (h : Mg W k ty g u f t) (t' : ByteArray) : Mg (W.setCell ⟨k, 3, none⟩ (.string t')) k ty g u f t' := heap_setCell_same W k 3 _ _ (.string t') h
/-- A store into another block. -/
theorem heap_setCell_far {W : World} {k j i : Nat} {o : Obj} (u : Value) (h : W.heap[k]? = some o) (hk : k ≠ j) : (W.setCell ⟨j, i, none⟩ u).heap[k]? = some o := (Below.heap_setCell _ _ _ _ hk).trans h
theorem Mg.far {W : World} {k j i ty : Nat} {g u : Int} {f : Value} {t : ByteArray} (h : Mg W k ty g u f t) (x : Value) (hk : k ≠ j) : Mg (W.setCell ⟨j, i, none⟩ x) k ty g u f t := heap_setCell_far x h hk
theorem bsk {a w : World} (h : Below a.heap.size a w) {k : Nat} (hk : a.heap.size ≤ k) (i : Nat) (x : Value) : Below a.heap.size a (w.setCell ⟨k, i, none⟩ x) := bset h hk x
theorem Ow.other {W W' : World} {B g n c k : Nat} {l : List R3} (h : Ow W B (.slice (some ⟨g, 0, none⟩) n c) l) (hg : W.grownBy W' (some k)) (hk : g ≠ k) : Ow W' B (.slice (some ⟨g, 0, none⟩) n c) l :=
  World.ownsRow.kept h hg (Or.inr (by simpa [Value.ownBlock] using hk))
theorem Ow.far {W : World} {B g n c j : Nat} {l : List R3} (h : Ow W B (.slice (some ⟨g, 0, none⟩) n c) l) (hk : g ≠ j) (i : Nat) (x : Value) : Ow (W.setCell ⟨j, i, none⟩ x) B (.slice (some ⟨g, 0, none⟩) n c) l :=
  h.other (wst (wre W (some j)) i x) hk
def gok (n : Int) : Bool := decide (1 ≤ n) && decide (n ≤ 9999)
def mlOk (g u : Int) (l : List R3) (t : ByteArray) : Bool := gok g && (gok u && (flOk l && decide ((t.size : Int) ≤ 60)))
theorem gid_l (x : Int) : ∃ p : Bool, Hid (p = gok x) ∧ Hid (∀ w, Calls Tryz.prog 51 #[.int .i64 x] w fun e w' => e = .returned (.bool p) ∧ w' = w) := by
  refine ⟨_, rfl, fun w => ?_⟩
  by_cases h1 : 1 ≤ x
  · by_cases h2 : x ≤ 9999
    · have HE : Hid (gok x = true) := by show _ = _; simp [gok, h1, h2]
      go_enter Tryz.func51, Tryz.ntmps51
      go_wp2
      go_ret
      exact ⟨by rw [HE.out]; rfl, rfl⟩
    · have HE : Hid (gok x = false) := by show _ = _; simp [gok, h2]
      go_enter Tryz.func51, Tryz.ntmps51
      go_wp2
      go_ret
      exact ⟨by rw [HE.out]; rfl, rfl⟩
  · have HE : Hid (gok x = false) := by show _ = _; simp [gok, h1]
    go_enter Tryz.func51, Tryz.ntmps51
    go_wp2
    go_ret
    exact ⟨by rw [HE.out]; rfl, rfl⟩
theorem in_l (x : Int) : ∃ p : Bool, Hid (p = gok x) ∧ Hid (∀ w, Calls Tryz.prog 15 #[.int .i64 x, .int .i64 1, .int .i64 9999] w fun e w' => e = .returned (.bool p) ∧ w' = w) := by
  refine ⟨_, rfl, fun w => ?_⟩
  by_cases h1 : 1 ≤ x ∧ x ≤ 9999
  · have HE : gok x = true := by simp [gok, h1.1, h1.2]
    rw [HE]
    exact (l01In_yes x 1 9999 w h1.1 h1.2).mono fun _ _ h => ⟨h.1, h.2.symm⟩
  · have HE : gok x = false := by simp only [gok, Bool.and_eq_false_iff, decide_eq_false_iff_not]; omega
    rw [HE]
    exact (l01In_no x 1 9999 w (by omega)).mono fun _ _ h => ⟨h.1, h.2.symm⟩
theorem implFlagsOk_l (ao : Option Addr) (n cap : Nat) (l : List R3) (hl : l.length = n) (hn : n ≤ 1048576) : ∃ p : Bool, Hid (p = flOk l) ∧ Hid (∀ w, Rs w ao l → Calls Tryz.prog 172 #[.slice ao n cap] w fun e w' => e = .returned (.bool p) ∧ Below w.heap.size w w') :=
  ⟨_, rfl, fun w h => implFlagsOk_any ao n cap l w hl hn h⟩
theorem specFlagsOk_l (ao : Option Addr) (n cap : Nat) (l : List R3) (hl : l.length = n) (hn : n ≤ 1048576) : ∃ p : Bool, Hid (p = flOk l) ∧ Hid (∀ w, Rs w ao l → Calls Tryz.prog 157 #[.slice ao n cap] w fun e w' => e = .returned (.bool p) ∧ Below w.heap.size w w') :=
  ⟨_, rfl, fun w h => specFlagsOk_any ao n cap l w hl hn h⟩
set_option maxHeartbeats 400000 in
set_option maxRecDepth 100000 in
theorem implMailOk_any (g u : Int) (ao : Option Addr) (n cap : Nat) (l : List R3) (t : ByteArray) (w : World) (hl : l.length = n) (hn : n ≤ 1048576) (hr : Rs w ao l) :
    Calls Tryz.prog 194 #[.agg #[.int .i64 g, .int .i64 u, .slice ao n cap, .string t]] w fun e w' => e = .returned (.bool (mlOk g u l t)) ∧ Below w.heap.size w w' := by
  obtain ⟨p, hp, cp⟩ := gid_l g
  obtain ⟨q, hq, cq⟩ := gid_l u
  obtain ⟨r, hr', cr⟩ := implFlagsOk_l ao n cap l hl hn
  have HS : Hid (mlOk g u l t = (p && (q && (r && decide ((t.size : Int) ≤ 60))))) := by show _ = _; rw [hp.out, hq.out, hr'.out]; rfl
  rw [HS.out]
  have HR := hid hr
  clear hl hn hr
  have A0 := (Mg.new w 103 g u (.slice ao n cap) t).cells
  go_enter Tryz.func194, Tryz.ntmps194
  go_wp2_with fail
  refine (cp.out _).mono ?_; rintro e w1 ⟨rfl, h1⟩
  subst h1
  cases p
  · go_wp2
    go_ret
    exact ⟨rfl, bpush (bre _) _⟩
  go_wp2_with fail
  refine (cq.out _).mono ?_; rintro e w1 ⟨rfl, h1⟩
  subst h1
  cases q
  · go_wp2
    go_ret
    exact ⟨rfl, bpush (bre _) _⟩
  go_wp2_with fail
  refine (cr.out _ (HR.out.later (bpush (bre _) _))).mono ?_; rintro e w1 ⟨rfl, hb1⟩
  have d1 := ((Mg.new w 103 g u (.slice ao n cap) t).later hb1).cells
  have HB1 : Hid (Below w.heap.size w w1) := btr (bpush (bre _) _) hb1
  clear hb1 A0
  cases r
  · go_wp2
    go_ret
    exact ⟨rfl, HB1.out⟩
  go_wp2
  go_ret
  exact ⟨rfl, HB1.out⟩
set_option maxHeartbeats 400000 in
set_option maxRecDepth 100000 in
theorem specMailOk_any (g u : Int) (ao : Option Addr) (n cap : Nat) (l : List R3) (t : ByteArray) (w : World) (hl : l.length = n) (hn : n ≤ 1048576) (hr : Rs w ao l) :
    Calls Tryz.prog 110 #[.agg #[.int .i64 g, .int .i64 u, .slice ao n cap, .string t]] w fun e w' => e = .returned (.bool (mlOk g u l t)) ∧ Below w.heap.size w w' := by
  obtain ⟨p, hp, cp⟩ := in_l g
  obtain ⟨q, hq, cq⟩ := in_l u
  obtain ⟨r, hr', cr⟩ := specFlagsOk_l ao n cap l hl hn
  have HS : Hid (mlOk g u l t = (p && (q && (r && decide ((t.size : Int) ≤ 60))))) := by show _ = _; rw [hp.out, hq.out, hr'.out]; rfl
  rw [HS.out]
  have HR := hid hr
  clear hl hn hr
  have A0 := (Mg.new w 103 g u (.slice ao n cap) t).cells
  go_enter Tryz.func110, Tryz.ntmps110
  go_wp2_with fail
  refine (cp.out _).mono ?_; rintro e w1 ⟨rfl, h1⟩
  subst h1
  cases p
  · go_wp2
    go_ret
    exact ⟨rfl, bpush (bre _) _⟩
  go_wp2_with fail
  refine (cq.out _).mono ?_; rintro e w1 ⟨rfl, h1⟩
  subst h1
  cases q
  · go_wp2
    go_ret
    exact ⟨rfl, bpush (bre _) _⟩
  go_wp2_with fail
  refine (cr.out _ (HR.out.later (bpush (bre _) _))).mono ?_; rintro e w1 ⟨rfl, hb1⟩
  have d1 := ((Mg.new w 103 g u (.slice ao n cap) t).later hb1).cells
  have HB1 : Hid (Below w.heap.size w w1) := btr (bpush (bre _) _) hb1
  clear hb1 A0
  cases r
  · go_wp2
    go_ret
    exact ⟨rfl, HB1.out⟩
  go_wp2
  go_ret
  exact ⟨rfl, HB1.out⟩
end Go.Proofs.YtlhofbnnonljaaaGreatDoor
namespace Go.Proofs.YtlhofbnnonljaaaGreatDoor
open Go.RowKit
/-- Two blocks: two mails. -/
theorem two_mails (w : World) (ta tb : Nat) (g u g1 u1 : Int) (f f1 : Value) (t t1 : ByteArray) (W0 : World) (h : ((w.alloc (.cells #[.int .i64 g, .int .i64 u, f, .string t] ta)).alloc (.cells #[.int .i64 g1, .int .i64 u1, f1, .string t1] tb)) = W0) :
    Mg W0 w.heap.size ta g u f t ∧ Mg W0 (w.heap.size + 1) tb g1 u1 f1 t1 ∧ Below w.heap.size w W0 := by
  subst h
  exact ⟨(Mg.new w ta g u f t).later (bpush (bre _) _), by simpa using Mg.new (w.alloc (.cells #[.int .i64 g, .int .i64 u, f, .string t] ta)) tb g1 u1 f1 t1, bpush (bpush (bre _) _) _⟩
end Go.Proofs.YtlhofbnnonljaaaGreatDoor
namespace Go.Proofs.YtlhofbnnonljaaaGreatDoor
open Go.RowKit
theorem bytes_inj {t t' : ByteArray} (h : t.toList = t'.toList) : t = t' := by
  rw [ByteArray.toList_eq, ByteArray.toList_eq] at h
  cases t; cases t'; simp only [ByteArray.mk.injEq]; exact Array.toList_inj.1 h
theorem bytes_ne {t t' : ByteArray} (h : ¬ t = t') : (t.toList == t'.toList) = false := beq_eq_false_iff_ne.2 fun e => h (bytes_inj e)
end Go.Proofs.YtlhofbnnonljaaaGreatDoor
namespace Go.Proofs.YtlhofbnnonljaaaGreatDoor
open Go.RowKit
set_option maxHeartbeats 400000 in
set_option maxRecDepth 100000 in
theorem cloneRg_any (ao : Option Addr) (n cap : Nat) (l : List R3) (w : World) (hl : l.length = n) (hn : n ≤ 1048576) (hr : Rs w ao l) (h0 : ao = none → cap = 0) :
    Calls Tryz.prog 182 #[.slice ao n cap] w fun e w' => ∃ v, e = .returned v ∧ Ow w' w.heap.size v l ∧ Below w.heap.size w w' := by
  have HR := hid hr
  have HL := hid hl
  have HN := hid hn
  clear hr hl hn
  cases ao with
  | none =>
    have hn0 : n = 0 := by
      by_cases h : 0 < n
      · obtain ⟨_, _, h1, _⟩ := HR.out (by rw [HL.out]; exact h)
        cases h1
      · omega
    subst hn0
    obtain rfl := h0 rfl
    have hle : l = [] := List.eq_nil_of_length_eq_zero HL.out
    subst hle
    clear h0
    have hnil : ∀ W, (binOp .eql 101 (.slice none 0 0) (.slice none 0 0)).run Tryz.prog W = .ok (.bool true) W := fun W => Lib.run_eql_slice_nil_nil W 0 0 Tryz.underlying101
    go_enter Tryz.func182, Tryz.ntmps182
    go_wp2
    go_ret
    exact ⟨_, rfl, ⟨rfl, .inl ⟨rfl, rfl⟩⟩, bre _⟩
  | some ad =>
    clear h0
    obtain ⟨i0, hi, hz0, hz1, hz2⟩ := info_parts3 info_rg
    have HSRC : Hid (∀ j u, (fl l)[j]? = some u → (w.alloc (.cells #[] 140)).cell? (ad.add j) = some u) := by
      intro j u hu
      have hj : j < (fl l).length := (List.getElem?_eq_some_iff.1 hu).1
      rw [fl_len] at hj
      obtain ⟨k, o, h1, h2, h3⟩ := (HR.out.later (bpush (bre _) _)) (by omega)
      simp only [Option.some.injEq] at h1
      subst h1
      exact h3.all j u hu
    have hnil : ∀ W, (binOp .eql 101 (.slice (some ad) n cap) (.slice none 0 0)).run Tryz.prog W = .ok (.bool false) W := fun W => Lib.run_eql_slice_some_nil W ad n cap Tryz.underlying101
    go_enter Tryz.func182, Tryz.ntmps182
    go_wp2_with (at_builtin; refine wpList_append_own _ rfl (.tmp 5) (.tmp 6) 101 rfl w.heap.size 140 i0 _ 3 24 Tryz.underlying101 hi hz0 hz1 hz2 rfl (by decide) _ 0 [] (by rfl) (own_empty w _ (Nat.le_refl _)) ad n cap (fl l) (by rfl) (by rw [fl_len, HL.out]) HSRC.out (fl_one l) (by have := HN.out; unfold maxLen; omega) (by have := HN.out; omega) (by simp) ?_; intro v1 w1 hown1 hg1 _)
    go_ret
    exact ⟨_, rfl, by simpa [Ow, HL.out] using hown1, (bpush (bre _) _).grown hg1 (by simp) (by intro k hk; simp [Value.ownBlock] at hk; omega)⟩
end Go.Proofs.YtlhofbnnonljaaaGreatDoor
namespace Go.Proofs.YtlhofbnnonljaaaGreatDoor
open Go.RowKit
/-- An owned row, where another block below its base is stored into. -/
theorem own_far {W : World} {B j : Nat} {v : Value} {l : List R3} (h : Ow W B v l) (hj : j < B) (i : Nat) (x : Value) : Ow (W.setCell ⟨j, i, none⟩ x) B v l :=
  World.ownsRow.kept h (wst (wre W (some j)) i x) (by
    cases hv : v.ownBlock with
    | none => exact Or.inl rfl
    | some k => right; have := (World.ownsRow.lt h k hv).1; intro e; simp at e; omega)
set_option maxHeartbeats 400000 in
set_option maxRecDepth 100000 in
theorem copyOf_any (g u : Int) (ao : Option Addr) (n cap : Nat) (l : List R3) (t : ByteArray) (w : World) (hl : l.length = n) (hn : n ≤ 1048576) (ht : t.size ≤ 1048576) (hr : Rs w ao l) (h0 : ao = none → cap = 0) :
    Calls Tryz.prog 148 #[.agg #[.int .i64 g, .int .i64 u, .slice ao n cap, .string t]] w fun e w' => ∃ v, e = .returned (.agg #[.int .i64 g, .int .i64 u, v, .string t]) ∧ Ow w' w.heap.size v l ∧ Below w.heap.size w w' := by
  obtain ⟨W0, hW0⟩ : ∃ W0, ((w.alloc (.cells #[.int .i64 g, .int .i64 u, .slice ao n cap, .string t] 103)).alloc (.cells #[.int .i64 0, .int .i64 0, .slice none 0 0, .string ⟨#[]⟩] 103)) = W0 := ⟨_, rfl⟩
  obtain ⟨a0, a1, b0⟩ := two_mails w _ _ _ _ _ _ _ _ _ _ W0 hW0
  have A0 := hid a0
  have A1 := hid a1
  have B0 := hid b0
  have HR := hid (hr.later b0)
  have HL := hid hl
  have HN := hid hn
  have H0 := hid h0
  have HT := hid ht
  have c0 := a0.cells
  have f0 := a0.loose
  clear a0 a1 b0 hr hl hn h0 ht
  go_enter Tryz.func148, Tryz.ntmps148
  go_wp2_with fail
  clear hW0
  refine (cloneRg_any ao n cap l _ HL.out HN.out HR.out H0.out).mono ?_; rintro e w1 ⟨v, rfl, hown, hb⟩
  obtain ⟨av, cv, hv, _⟩ := Ow.shape hown
  rw [HL.out] at hv
  subst hv
  have X0 := hid (A0.out.later hb)
  have X1 := hid (A1.out.later hb)
  have d0 := X0.out.cells
  have g0 := X0.out.loose
  have d1 := X1.out.cells
  have g1 := X1.out.loose
  have HO := hid hown
  have B1 := hid (btr B0.out hb)
  clear c0 f0 hown hb
  go_wp2_with fail
  have X0' := hid (X0.out.s2 (.slice av n cv))
  have X1' := hid (X1.out.far (.slice av n cv) (j := w.heap.size) (i := 2) (by omega))
  have hs := A1.out.lt
  have HO' := hid (own_far HO.out (j := w.heap.size) (by omega) 2 (.slice av n cv))
  have B1' := hid (bsk B1.out (Nat.le_refl _) 2 (.slice av n cv))
  refine (clone_any t _ HT.out).mono ?_; rintro e w2 ⟨rfl, hb⟩
  have Y0 := hid (X0'.out.later hb)
  have Y1 := hid (X1'.out.later hb)
  have HO2 := hid (own_later HO'.out hb)
  have B2 := hid (btr B1'.out hb)
  clear d0 d1 g0 g1 hb
  have d0 := Y0.out.cells
  have g0 := Y0.out.loose
  have d1 := Y1.out.cells
  have g1 := Y1.out.loose
  go_wp2
  have k1 := ((((Y1.out.far (.string t) (j := w.heap.size) (i := 3) (by omega)).s0 g).s1 u).s2 (.slice av n cv)).s3 t
  have d1 := k1.cells
  refine bodyPost_ret (v := .agg #[.int .i64 g, .int .i64 u, .slice av n cv, .string t]) (by simp [results, Tryz.results148, go_sem, d1]) rfl ⟨_, rfl, ?_, ?_⟩
  · exact own_base (own_far (own_far (own_far (own_far (own_far HO2.out (by omega) 3 _) (by omega) 0 _) (by omega) 1 _) (by omega) 2 _) (by omega) 3 _) (by omega)
  · exact bsk (bsk (bsk (bsk (bsk B2.out (by omega) _ _) (by omega) _ _) (by omega) _ _) (by omega) _ _) (by omega) _ _
end Go.Proofs.YtlhofbnnonljaaaGreatDoor
namespace Go.Proofs.YtlhofbnnonljaaaGreatDoor
open Go.RowKit
theorem set4 {W : World} {k ty : Nat} {g u : Int} {f : Value} {t : ByteArray} (h : Mg W k ty g u f t) (g' u' : Int) (f' : Value) (t' : ByteArray) : Mg ((((W.setCell ⟨k, 0, none⟩ (.int .i64 g')).setCell ⟨k, 1, none⟩ (.int .i64 u')).setCell ⟨k, 2, none⟩ f').setCell ⟨k, 3, none⟩ (.string t')) k ty g' u' f' t' :=
  (((h.s0 g').s1 u').s2 f').s3 t'
theorem own4 {W : World} {B j : Nat} {v : Value} {l : List R3} (h : Ow W B v l) (hj : j < B) (g' u' : Int) (f' : Value) (t' : ByteArray) : Ow ((((W.setCell ⟨j, 0, none⟩ (.int .i64 g')).setCell ⟨j, 1, none⟩ (.int .i64 u')).setCell ⟨j, 2, none⟩ f').setCell ⟨j, 3, none⟩ (.string t')) B v l :=
  own_far (own_far (own_far (own_far h hj _ _) hj _ _) hj _ _) hj _ _
theorem bel4 {a w : World} (h : Below a.heap.size a w) {k : Nat} (hk : a.heap.size ≤ k) (g' u' : Int) (f' : Value) (t' : ByteArray) : Below a.heap.size a ((((w.setCell ⟨k, 0, none⟩ (.int .i64 g')).setCell ⟨k, 1, none⟩ (.int .i64 u')).setCell ⟨k, 2, none⟩ f').setCell ⟨k, 3, none⟩ (.string t')) :=
  bsk (bsk (bsk (bsk h hk _ _) hk _ _) hk _ _) hk _ _
end Go.Proofs.YtlhofbnnonljaaaGreatDoor
namespace Go.Proofs.YtlhofbnnonljaaaGreatDoor
open Go.RowKit
theorem Mg.grown {W W' : World} {k ty : Nat} {g u : Int} {f : Value} {t : ByteArray} {r : Option Nat} (h : Mg W k ty g u f t) (hg : W.grownBy W' r) (hk : some k ≠ r) : Mg W' k ty g u f t := (hg.block k h.lt hk).trans h
theorem own_kept {W W' : World} {B : Nat} {v : Value} {l : List R3} {r : Option Nat} (h : Ow W B v l) (hg : W.grownBy W' r) (hne : ∀ j, v.ownBlock = some j → r ≠ some j) : Ow W' B v l :=
  World.ownsRow.kept h hg (by
    cases hv : v.ownBlock with
    | none => exact Or.inl rfl
    | some j => exact Or.inr (fun e => hne j hv e.symm))
theorem below_grownR {B : Nat} {a w : World} {r : Option Nat} (h : a.grownBy w r) (hB : ∀ j, r = some j → B ≤ j) (hs : B ≤ a.heap.size) : Below B a w :=
  ⟨h.os, h.tape, h.output, h.size, fun k hk => h.block k (by omega) (fun e => by have := hB k e.symm; omega)⟩
end Go.Proofs.YtlhofbnnonljaaaGreatDoor
namespace Go.Proofs.YtlhofbnnonljaaaGreatDoor
open Go.RowKit
theorem grown_push {a w : World} {o : Obj} {r : Option Nat} (h : (a.alloc o).grownBy w r) : a.grownBy w r := wtr (World.grownBy_alloc a o r) h
/-- A store into a block that is new. -/
theorem wst_new {a w : World} {r : Option Nat} (h : a.grownBy w r) {j : Nat} (hj : a.heap.size ≤ j) (i : Nat) (x : Value) : a.grownBy (w.setCell ⟨j, i, none⟩ x) r :=
  ⟨h.os, h.tape, h.output, by simpa [World.setCell] using h.size, fun k hk hr => (Below.heap_setCell w ⟨j, i, none⟩ x k (by show k ≠ j; omega)).trans (h.block k hk hr)⟩
theorem grown_below {a w : World} (h : Below a.heap.size a w) (r : Option Nat) : a.grownBy w r := ⟨h.os, h.tape, h.output, h.size, fun k hk _ => h.block k hk⟩
end Go.Proofs.YtlhofbnnonljaaaGreatDoor
