/- Flat, FlatTo, FlatEq, FlagOk, FlagOf, FlagNew, in one text. -/
import Derived.Test.YtmpcmllfgogegaaMb
import Derived.Laws.ShiftsVarLaws
namespace Go.Proofs.Ytmpcmllfgogegaa
open Go.RowKit

theorem hid {p : Prop} (h : p) : Hid p := h

/-- A register as three numbers: its value, its stamp's time, its stamp's server. -/
abbrev R3 := Int × Int × Int

/-- The cells of a list of registers. -/
def fl : List R3 → List Value
  | [] => []
  | p :: l => .int .i64 p.1 :: .int .i64 p.2.1 :: .int .i64 p.2.2 :: fl l

theorem fl_len (l : List R3) : (fl l).length = l.length * 3 := by
  induction l with
  | nil => rfl
  | cons p l ih => simp only [fl, List.length_cons, ih]; omega
theorem fl_app (l m : List R3) : fl (l ++ m) = fl l ++ fl m := by
  induction l with
  | nil => rfl
  | cons p l ih => simp only [List.cons_append, fl, ih]
theorem fl_at (l : List R3) (i : Nat) (h : i < l.length) :
    (fl l)[i * 3]? = some (.int .i64 l[i].1) ∧ (fl l)[i * 3 + 1]? = some (.int .i64 l[i].2.1) ∧ (fl l)[i * 3 + 2]? = some (.int .i64 l[i].2.2) := by
  induction l generalizing i with
  | nil => simp at h
  | cons p l ih =>
    cases i with
    | zero => exact ⟨rfl, rfl, rfl⟩
    | succ i =>
      have h' : i < l.length := by simpa using h
      have := ih i h'
      have e : (i + 1) * 3 = i * 3 + 1 + 1 + 1 := by omega
      rw [e]
      simpa [fl] using this
theorem fl_set (l : List R3) (i : Nat) (p : R3) (h : i < l.length) :
    (((fl l).set (i * 3) (.int .i64 p.1)).set (i * 3 + 1) (.int .i64 p.2.1)).set (i * 3 + 2) (.int .i64 p.2.2) = fl (l.set i p) := by
  induction l generalizing i with
  | nil => simp at h
  | cons q l ih =>
    cases i with
    | zero => rfl
    | succ i =>
      have h' : i < l.length := by simpa using h
      have := ih i h'
      have e : (i + 1) * 3 = i * 3 + 1 + 1 + 1 := by omega
      rw [e]
      simpa [fl] using this
theorem fl_one (l : List R3) : ∀ u ∈ fl l, u.oneCell' = true := by
  induction l with
  | nil => intro u hu; cases hu
  | cons p l ih =>
    intro u hu
    simp only [fl, List.mem_cons] at hu
    rcases hu with rfl | rfl | rfl | hu
    · rfl
    · rfl
    · rfl
    · exact ih u hu
theorem fl_inj {l m : List R3} (h : fl l = fl m) : l = m := by
  induction l generalizing m with
  | nil => cases m with
    | nil => rfl
    | cons q m => simp [fl] at h
  | cons p l ih => cases m with
    | nil => simp [fl] at h
    | cons q m =>
      simp only [fl, List.cons.injEq, Value.int.injEq, true_and] at h
      obtain ⟨h1, h2, h3, h4⟩ := h
      have hp : p = q := Prod.ext h1 (Prod.ext h2 h3)
      rw [hp, ih h4]

/-- From cell o of block k on lie the registers of l. -/
def Row (W : World) (k o : Nat) (l : List R3) : Prop :=
  ∀ i (h : i < l.length), W.cell? ⟨k, o + i * 3, none⟩ = some (.int .i64 l[i].1) ∧ W.cell? ⟨k, o + i * 3 + 1, none⟩ = some (.int .i64 l[i].2.1) ∧ W.cell? ⟨k, o + i * 3 + 2, none⟩ = some (.int .i64 l[i].2.2)

/-- The slice of address a is the registers of l. -/
def Rs (W : World) (a : Option Addr) (l : List R3) : Prop :=
  0 < l.length → ∃ k o, a = some ⟨k, o, none⟩ ∧ k < W.heap.size ∧ Row W k o l

theorem Row.later {W W' : World} {k o : Nat} {l : List R3} (h : Row W k o l) (hk : k < W.heap.size) (hb : Below W.heap.size W W') : Row W' k o l := by
  intro i hi
  obtain ⟨h1, h2, h3⟩ := h i hi
  exact ⟨(hb.cell (p := ⟨k, o + i * 3, none⟩) hk).trans h1, (hb.cell (p := ⟨k, o + i * 3 + 1, none⟩) hk).trans h2, (hb.cell (p := ⟨k, o + i * 3 + 2, none⟩) hk).trans h3⟩
theorem Rs.later {W W' : World} {a : Option Addr} {l : List R3} (h : Rs W a l) (hb : Below W.heap.size W W') : Rs W' a l := by
  intro hn
  obtain ⟨k, o, h1, h2, h3⟩ := h hn
  exact ⟨k, o, h1, Nat.lt_of_lt_of_le h2 hb.size, h3.later h2 hb⟩
theorem Rs.empty (W : World) (a : Option Addr) : Rs W a [] := fun h => absurd h (by simp)

theorem own_later {w w' : World} {B e size n : Nat} {v : Value} {xs : List Value} (h : w.ownsRow B e size v n xs) (hb : Below w.heap.size w w') : w'.ownsRow B e size v n xs :=
  h.kept (row := none) ⟨hb.os, hb.tape, hb.output, hb.size, fun k hk _ => hb.block k hk⟩ (by cases v.ownBlock <;> simp)
theorem own_base {w : World} {B B' e size n : Nat} {v : Value} {xs : List Value} (h : w.ownsRow B' e size v n xs) (hB : B ≤ B') : w.ownsRow B e size v n xs :=
  ⟨h.1, h.2.imp id (fun ⟨g, cap, cur, a, b, c⟩ => ⟨g, cap, cur, a, Nat.le_trans hB b, c⟩)⟩

theorem Rs.at {W : World} {a : Option Addr} {l : List R3} (h : Rs W a l) {i : Nat} (hi : i < l.length) : ∃ k o, a = some ⟨k, o, none⟩ ∧ k < W.heap.size ∧
    W.cell? ⟨k, o + i * 3, none⟩ = some (.int .i64 l[i].1) ∧ W.cell? ⟨k, o + i * 3 + 1, none⟩ = some (.int .i64 l[i].2.1) ∧ W.cell? ⟨k, o + i * 3 + 2, none⟩ = some (.int .i64 l[i].2.2) := by
  obtain ⟨k, o, h1, h2, h3⟩ := h (by omega)
  exact ⟨k, o, h1, h2, h3 i hi⟩

end Go.Proofs.Ytmpcmllfgogegaa

namespace Go.Proofs.Ytmpcmllfgogegaa
open Go.RowKit

theorem info_parts3 {P : Program} {e : Nat} {z : Value} {s b : Nat} (h : (P.info? e).map (fun i => (i.zero, i.size, i.bytes)) = some (some z, s, b)) : ∃ i, P.info? e = some i ∧ i.zero = some z ∧ i.size = s ∧ i.bytes = b := by
  cases hi : P.info? e with
  | none => rw [hi] at h; cases h
  | some i =>
    rw [hi] at h
    simp only [Option.map_some, Option.some.injEq, Prod.mk.injEq] at h
    exact ⟨i, rfl, h.1, h.2.1, h.2.2⟩

theorem fl_rep (n : Nat) : fl (List.replicate n (0, 0, 0)) = List.replicate (n * 3) (.int .i64 0) := by
  induction n with
  | zero => rfl
  | succ n ih => rw [List.replicate_succ, show (n + 1) * 3 = n * 3 + 1 + 1 + 1 by omega]; simp only [fl, ih, List.replicate_succ]
theorem made3 (n : Nat) : (madeCells #[.int .i64 0, .int .i64 0, .int .i64 0] (n * 3)).toList = fl (List.replicate n (0, 0, 0)) := by
  rw [fl_rep]
  apply List.ext_getElem?
  intro j
  by_cases hj : j < n * 3
  · have h3 : j % 3 = 0 ∨ j % 3 = 1 ∨ j % 3 = 2 := by omega
    rcases h3 with h | h | h <;> simp [madeCells, hj, h]
  · simp [madeCells, hj]

/-- A row that is filled from the front: the first i places are l's. -/
def fil (l : List R3) (i : Nat) : List R3 := l.take i ++ List.replicate (l.length - i) (0, 0, 0)
theorem fil_len (l : List R3) (i : Nat) (h : i ≤ l.length) : (fil l i).length = l.length := by simp [fil]; omega
theorem fil_zero (l : List R3) : fil l 0 = List.replicate l.length (0, 0, 0) := by simp [fil]
theorem fil_all (l : List R3) : fil l l.length = l := by simp [fil]
theorem fil_set (l : List R3) (i : Nat) (h : i < l.length) : (fil l i).set i l[i] = fil l (i + 1) := by
  unfold fil
  rw [List.set_append_right _ _ (by simp; omega)]
  have e : i - (l.take i).length = 0 := by simp; omega
  rw [e]
  obtain ⟨m, hm⟩ : ∃ m, l.length - i = m + 1 := ⟨l.length - i - 1, by omega⟩
  rw [hm, show l.length - (i + 1) = m by omega, List.replicate_succ, List.set_cons_zero, List.take_succ_eq_append_getElem h, List.append_assoc]
  rfl

end Go.Proofs.Ytmpcmllfgogegaa

namespace Go.Proofs.Ytmpcmllfgogegaa
open Go.RowKit

/-- The marks from k on, three a register, n registers. -/
def mks (k n : Nat) : List R3 := (List.range n).map fun i => (((k + i * 3 : Nat) : Int), ((k + i * 3 + 1 : Nat) : Int), ((k + i * 3 + 2 : Nat) : Int))
theorem mks_len (k n : Nat) : (mks k n).length = n := by simp [mks]
theorem mks_at (k n i : Nat) (h : i < (mks k n).length) : (mks k n)[i] = (((k + i * 3 : Nat) : Int), ((k + i * 3 + 1 : Nat) : Int), ((k + i * 3 + 2 : Nat) : Int)) := by simp [mks]

theorem wtr {a b c : World} {r : Option Nat} (h : a.grownBy b r) (k : b.grownBy c r) : a.grownBy c r :=
  ⟨k.os.trans h.os, k.tape.trans h.tape, k.output.trans h.output, Nat.le_trans h.size k.size, fun i hi hr => (k.block i (Nat.lt_of_lt_of_le hi h.size) hr).trans (h.block i hi hr)⟩
theorem wre (a : World) (r : Option Nat) : a.grownBy a r := ⟨rfl, rfl, rfl, Nat.le_refl _, fun _ _ _ => rfl⟩
theorem wst {a w : World} {g : Nat} (h : a.grownBy w (some g)) (i : Nat) (u : Value) : a.grownBy (w.setCell ⟨g, i, none⟩ u) (some g) :=
  wtr h ⟨rfl, rfl, rfl, by simp [World.setCell], fun k _ hk => Below.heap_setCell _ _ _ _ (fun e => hk (by simpa using e))⟩
theorem Rs.grown {W W' : World} {a : Option Addr} {l : List R3} {g : Nat} (h : Rs W a l) (hg : W.grownBy W' (some g)) (ha : ∀ x, a = some x → x.block ≠ g) : Rs W' a l := by
  intro hn
  obtain ⟨k, o, h1, h2, h3⟩ := h hn
  have hk : k ≠ g := ha _ h1
  refine ⟨k, o, h1, Nat.lt_of_lt_of_le h2 hg.size, fun i hi => ?_⟩
  obtain ⟨c1, c2, c3⟩ := h3 i hi
  exact ⟨hg.cell (a := ⟨k, _, none⟩) c1 (by simpa using hk), hg.cell (a := ⟨k, _, none⟩) c2 (by simpa using hk), hg.cell (a := ⟨k, _, none⟩) c3 (by simpa using hk)⟩
theorem below_of_grown {B g : Nat} {a w : World} (h : a.grownBy w (some g)) (hB : B ≤ g) (hs : B ≤ a.heap.size) : Below B a w :=
  ⟨h.os, h.tape, h.output, h.size, fun k hk => h.block k (by omega) (by simp; omega)⟩

/-- A row that is marked from the front. -/
def mkd (k : Nat) (l : List R3) (i : Nat) : List R3 := mks k i ++ l.drop i
theorem mkd_len (k : Nat) (l : List R3) (i : Nat) (h : i ≤ l.length) : (mkd k l i).length = l.length := by simp [mkd, mks_len]; omega
theorem mkd_zero (k : Nat) (l : List R3) : mkd k l 0 = l := by simp [mkd, mks]
theorem mkd_all (k : Nat) (l : List R3) : mkd k l l.length = mks k l.length := by simp [mkd]
theorem mkd_set (k : Nat) (l : List R3) (i : Nat) (h : i < l.length) (p : R3) (hp : p = (((k + i * 3 : Nat) : Int), ((k + i * 3 + 1 : Nat) : Int), ((k + i * 3 + 2 : Nat) : Int))) : (mkd k l i).set i p = mkd k l (i + 1) := by
  unfold mkd
  rw [List.set_append_right _ _ (by rw [mks_len]; omega), mks_len, Nat.sub_self, List.drop_eq_getElem_cons h, List.set_cons_zero, hp]
  have e : mks k (i + 1) = mks k i ++ [(((k + i * 3 : Nat) : Int), ((k + i * 3 + 1 : Nat) : Int), ((k + i * 3 + 2 : Nat) : Int))] := by
    unfold mks; rw [List.range_succ, List.map_append]; rfl
  rw [e, List.append_assoc]
  rfl

end Go.Proofs.Ytmpcmllfgogegaa

namespace Go.Proofs.Ytmpcmllfgogegaa
open Go.RowKit

def okp (p : R3) : Bool := rgOk p.1 p.2.1 p.2.2 && decide (p.1 ≤ 1)
def flOk (l : List R3) : Bool := decide (l.length = 3) && l.all okp

theorem all_here (l : List R3) (i : Nat) (h : i < l.length) (ha : (l.take i).all okp = true) (hp : okp l[i] = true) : (l.take (i + 1)).all okp = true := by
  rw [List.take_succ_eq_append_getElem h, List.all_append, ha]; simp [hp]
theorem not_all (l : List R3) (i : Nat) (h : i < l.length) (hp : okp l[i] = false) : flOk l = false := by
  have : l.all okp = false := by
    rw [List.all_eq_false]; exact ⟨l[i], List.getElem_mem h, by rw [hp]; simp⟩
  simp [flOk, this]
theorem all_end (l : List R3) (i : Nat) (h : i = l.length) (ha : (l.take i).all okp = true) : flOk l = decide (l.length = 3) := by
  subst h
  rw [List.take_length] at ha
  simp [flOk, ha]

end Go.Proofs.Ytmpcmllfgogegaa

namespace Go.Proofs.Ytmpcmllfgogegaa
open Go.RowKit

/-- A bit of a number. -/
def bit (n : Int) (i : Nat) : Int := n / 2 ^ i % 2

theorem and_nat (X i : Nat) : X &&& 2 ^ i = X / 2 ^ i % 2 * 2 ^ i := nat_bit i X

theorem and_bits (n : Int) (m : Nat) (hm : m < 100) : bits .and .i64 n (m : Int) = IntKind.i64.wrap (((n % 18446744073709551616).toNat &&& m : Nat) : Int) := by
  show IntKind.i64.wrap ((BitVec.ofInt 64 n &&& BitVec.ofInt 64 (m : Int)).toNat : Int) = _
  rw [BitVec.toNat_and, BitVec.toNat_ofInt, BitVec.toNat_ofInt]
  rw [show ((2 ^ 64 : Nat) : Int) = 18446744073709551616 by rfl, show ((m : Int) % 18446744073709551616).toNat = m by omega]

theorem and_one (n : Int) : bits .and .i64 n 1 = n % 2 := by
  have h := and_bits n 1 (by decide)
  rw [show (1 : Nat) = 2 ^ 0 by rfl, and_nat] at h
  simp only [Nat.pow_zero, Nat.div_one, Nat.mul_one] at h
  refine Eq.trans (by exact h) ?_
  rw [IntKind.wrap_i64]; omega
theorem and_two (n : Int) : bits .and .i64 n 2 = n / 2 % 2 * 2 := by
  have h := and_bits n 2 (by decide)
  rw [show (2 : Nat) = 2 ^ 1 by rfl, and_nat] at h
  simp only [Nat.pow_one] at h
  refine Eq.trans (by exact h) ?_
  rw [IntKind.wrap_i64]; omega
theorem and_four (n : Int) : bits .and .i64 n 4 = n / 4 % 2 * 4 := by
  have h := and_bits n 4 (by decide)
  rw [show (4 : Nat) = 2 ^ 2 by rfl, and_nat] at h
  refine Eq.trans (by exact h) ?_
  rw [IntKind.wrap_i64, show (2 : Nat) ^ 2 = 4 by rfl]; omega

theorem val_end (x y : Int) (h : x = y) : Ending.returned (.int .i64 x) = Ending.returned (.int .i64 y) := by rw [h]

/-- The number of a list's flags, of its first i. -/
def fof (l : List R3) : Nat → Nat
  | 0 => 0
  | i + 1 => fof l i + (if ((l[i]?.map (·.1)).getD 0) % 2 = 1 then 2 ^ i else 0)
theorem fof_lt (l : List R3) (i : Nat) : fof l i < 2 ^ i := by
  induction i with
  | zero => simp [fof]
  | succ i ih =>
    simp only [fof, Nat.pow_succ]
    split <;> omega
theorem fof_odd (l : List R3) (i : Nat) (h : i < l.length) (ho : l[i].1 % 2 = 1) : fof l (i + 1) = fof l i + 2 ^ i := by
  simp [fof, h, ho]
theorem fof_even (l : List R3) (i : Nat) (h : i < l.length) (ho : l[i].1 % 2 = 0) : fof l (i + 1) = fof l i := by
  simp [fof, h, ho]
theorem tmod2 (v : Int) (h : v % 2 = 1) : (v.tmod 2 != 0) = true := by
  have : v.tmod 2 ≠ 0 := by
    intro e; have := Int.dvd_of_tmod_eq_zero e; omega
  simpa using this
theorem tmod2' (v : Int) (h : v % 2 = 0) : (v.tmod 2 != 0) = false := by
  have : v.tmod 2 = 0 := Int.tmod_eq_zero_of_dvd (by omega)
  simpa using this

end Go.Proofs.Ytmpcmllfgogegaa

namespace Go.Proofs.Ytmpcmllfgogegaa
open Go.RowKit

def fnew (n t b : Int) : List R3 := [(bit n 0, t, b), (bit n 1, t, b), (bit n 2, t, b)]
theorem fnew_at (n t b : Int) (i : Nat) (h : i < (fnew n t b).length) : (fnew n t b)[i] = (bit n i, t, b) := by
  have h3 : i = 0 ∨ i = 1 ∨ i = 2 := by simp [fnew] at h; omega
  rcases h3 with rfl | rfl | rfl <;> rfl
theorem fnew_take (n t b : Int) (i : Nat) (h : i < 3) : (fnew n t b).take (i + 1) = (fnew n t b).take i ++ [(bit n i, t, b)] := by
  rw [List.take_succ_eq_append_getElem (by simpa [fnew] using h), fnew_at]

theorem cells_new3 (w : World) (p : R3) (e : Nat) : ∀ j u, (fl [p])[j]? = some u → (w.alloc (.cells #[.int .i64 p.1, .int .i64 p.2.1, .int .i64 p.2.2] e)).cell? ((⟨w.heap.size, 0, none⟩ : Addr).add j) = some u := by
  intro j u hu
  have h := heap_alloc_new w (.cells #[.int .i64 p.1, .int .i64 p.2.1, .int .i64 p.2.2] e)
  have hadd : (⟨w.heap.size, 0, none⟩ : Addr).add j = ⟨w.heap.size, j, none⟩ := by unfold Addr.add; split <;> simp_all
  rw [hadd, cell_of_row _ _ _ _ _ _ h]
  simpa [fl] using hu

theorem bit_odd {n : Int} {i : Nat} {m : Int} (hm : n / 2 ^ i = m) (h : m % 2 = 1) : bit n i = 1 := by unfold bit; rw [hm, h]
theorem bit_even {n : Int} {i : Nat} {m : Int} (hm : n / 2 ^ i = m) (h : ¬ m % 2 = 1) : bit n i = 0 := by unfold bit; rw [hm]; omega

end Go.Proofs.Ytmpcmllfgogegaa

