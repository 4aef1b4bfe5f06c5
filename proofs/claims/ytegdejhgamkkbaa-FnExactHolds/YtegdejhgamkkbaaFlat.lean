/- Lists of registers as they lie: three cells each. -/
import Derived.Test.YtegdejhgamkkbaaJoin
namespace Go.Proofs.Ytegdejhgamkkbaa
open Go.RowKit

theorem hid {p : Prop} (h : p) : Hid p := h

/-- A register as three numbers: its value, its stamp's time, its stamp's server. -/
abbrev R3 := Int × Int × Int

/-- The cells of a list of registers. -/
def fl : List R3 → List Value
  | [] => []
  | p :: l => .int .i64 p.1 :: .int .i64 p.2.1 :: .int .i64 p.2.2 :: fl l

theorem fl_len (l : List R3) : (fl l).length = l.length * 3 := by
  induction l with
  | nil => rfl
  | cons p l ih => simp only [fl, List.length_cons, ih]; omega
theorem fl_app (l m : List R3) : fl (l ++ m) = fl l ++ fl m := by
  induction l with
  | nil => rfl
  | cons p l ih => simp only [List.cons_append, fl, ih]
theorem fl_at (l : List R3) (i : Nat) (h : i < l.length) :
    (fl l)[i * 3]? = some (.int .i64 l[i].1) ∧ (fl l)[i * 3 + 1]? = some (.int .i64 l[i].2.1) ∧ (fl l)[i * 3 + 2]? = some (.int .i64 l[i].2.2) := by
  induction l generalizing i with
  | nil => simp at h
  | cons p l ih =>
    cases i with
    | zero => exact ⟨rfl, rfl, rfl⟩
    | succ i =>
      have h' : i < l.length := by simpa using h
      have := ih i h'
      have e : (i + 1) * 3 = i * 3 + 1 + 1 + 1 := by omega
      rw [e]
      simpa [fl] using this
theorem fl_set (l : List R3) (i : Nat) (p : R3) (h : i < l.length) :
    (((fl l).set (i * 3) (.int .i64 p.1)).set (i * 3 + 1) (.int .i64 p.2.1)).set (i * 3 + 2) (.int .i64 p.2.2) = fl (l.set i p) := by
  induction l generalizing i with
  | nil => simp at h
  | cons q l ih =>
    cases i with
    | zero => rfl
    | succ i =>
      have h' : i < l.length := by simpa using h
      have := ih i h'
      have e : (i + 1) * 3 = i * 3 + 1 + 1 + 1 := by omega
      rw [e]
      simpa [fl] using this
theorem fl_one (l : List R3) : ∀ u ∈ fl l, u.oneCell' = true := by
  induction l with
  | nil => intro u hu; cases hu
  | cons p l ih =>
    intro u hu
    simp only [fl, List.mem_cons] at hu
    rcases hu with rfl | rfl | rfl | hu
    · rfl
    · rfl
    · rfl
    · exact ih u hu
theorem fl_inj {l m : List R3} (h : fl l = fl m) : l = m := by
  induction l generalizing m with
  | nil => cases m with
    | nil => rfl
    | cons q m => simp [fl] at h
  | cons p l ih => cases m with
    | nil => simp [fl] at h
    | cons q m =>
      simp only [fl, List.cons.injEq, Value.int.injEq, true_and] at h
      obtain ⟨h1, h2, h3, h4⟩ := h
      have hp : p = q := Prod.ext h1 (Prod.ext h2 h3)
      rw [hp, ih h4]

/-- From cell o of block k on lie the registers of l. -/
def Row (W : World) (k o : Nat) (l : List R3) : Prop :=
  ∀ i (h : i < l.length), W.cell? ⟨k, o + i * 3, none⟩ = some (.int .i64 l[i].1) ∧ W.cell? ⟨k, o + i * 3 + 1, none⟩ = some (.int .i64 l[i].2.1) ∧ W.cell? ⟨k, o + i * 3 + 2, none⟩ = some (.int .i64 l[i].2.2)

/-- The slice of address a is the registers of l. -/
def Rs (W : World) (a : Option Addr) (l : List R3) : Prop :=
  0 < l.length → ∃ k o, a = some ⟨k, o, none⟩ ∧ k < W.heap.size ∧ Row W k o l

theorem Row.later {W W' : World} {k o : Nat} {l : List R3} (h : Row W k o l) (hk : k < W.heap.size) (hb : Below W.heap.size W W') : Row W' k o l := by
  intro i hi
  obtain ⟨h1, h2, h3⟩ := h i hi
  exact ⟨(hb.cell (p := ⟨k, o + i * 3, none⟩) hk).trans h1, (hb.cell (p := ⟨k, o + i * 3 + 1, none⟩) hk).trans h2, (hb.cell (p := ⟨k, o + i * 3 + 2, none⟩) hk).trans h3⟩
theorem Rs.later {W W' : World} {a : Option Addr} {l : List R3} (h : Rs W a l) (hb : Below W.heap.size W W') : Rs W' a l := by
  intro hn
  obtain ⟨k, o, h1, h2, h3⟩ := h hn
  exact ⟨k, o, h1, Nat.lt_of_lt_of_le h2 hb.size, h3.later h2 hb⟩
theorem Rs.empty (W : World) (a : Option Addr) : Rs W a [] := fun h => absurd h (by simp)

/-- A row of registers that a call owns. -/
abbrev Ow (W : World) (B : Nat) (v : Value) (l : List R3) : Prop := W.ownsRow B 82 3 v l.length (fl l)

theorem Ow.rs {W : World} {B n c : Nat} {a : Option Addr} {l : List R3} (h : Ow W B (.slice a n c) l) : n = l.length ∧ Rs W a l := by
  have hw := h
  rcases h.2 with ⟨h1, h2⟩ | ⟨g, cap, cur, h1, h2, h3, h4, h5, h6, h7⟩
  · simp only [Value.slice.injEq] at h1
    refine ⟨by omega, fun hn => by omega⟩
  · simp only [Value.slice.injEq] at h1
    obtain ⟨rfl, rfl, rfl⟩ := h1
    refine ⟨rfl, fun _ => ⟨g, 0, rfl, (Array.getElem?_eq_some_iff.1 h3).1, fun i hi => ?_⟩⟩
    have e := fl_at l i hi
    simp only [Nat.zero_add]
    exact ⟨(hw.cellAt _ (by omega)).trans e.1, (hw.cellAt _ (by omega)).trans e.2.1, (hw.cellAt _ (by omega)).trans e.2.2⟩
theorem Ow.shape {W : World} {B : Nat} {v : Value} {l : List R3} (h : Ow W B v l) : ∃ a c, v = .slice a l.length c ∧ Rs W a l := by
  rcases h.2 with ⟨h1, h2⟩ | ⟨g, cap, cur, h1, _⟩
  · subst h1
    exact ⟨none, 0, by rw [h2], (Ow.rs h).2⟩
  · subst h1
    exact ⟨_, _, rfl, (Ow.rs h).2⟩
theorem own_later {w w' : World} {B e size n : Nat} {v : Value} {xs : List Value} (h : w.ownsRow B e size v n xs) (hb : Below w.heap.size w w') : w'.ownsRow B e size v n xs :=
  h.kept (row := none) ⟨hb.os, hb.tape, hb.output, hb.size, fun k hk _ => hb.block k hk⟩ (by cases v.ownBlock <;> simp)
theorem own_base {w : World} {B B' e size n : Nat} {v : Value} {xs : List Value} (h : w.ownsRow B' e size v n xs) (hB : B ≤ B') : w.ownsRow B e size v n xs :=
  ⟨h.1, h.2.imp id (fun ⟨g, cap, cur, a, b, c⟩ => ⟨g, cap, cur, a, Nat.le_trans hB b, c⟩)⟩

theorem Rs.at {W : World} {a : Option Addr} {l : List R3} (h : Rs W a l) {i : Nat} (hi : i < l.length) : ∃ k o, a = some ⟨k, o, none⟩ ∧ k < W.heap.size ∧
    W.cell? ⟨k, o + i * 3, none⟩ = some (.int .i64 l[i].1) ∧ W.cell? ⟨k, o + i * 3 + 1, none⟩ = some (.int .i64 l[i].2.1) ∧ W.cell? ⟨k, o + i * 3 + 2, none⟩ = some (.int .i64 l[i].2.2) := by
  obtain ⟨k, o, h1, h2, h3⟩ := h (by omega)
  exact ⟨k, o, h1, h2, h3 i hi⟩

/-- A register stored at place i of an owned row: the three stores. -/
theorem Ow.stored {W : World} {B g n c : Nat} {l : List R3} (h : Ow W B (.slice (some ⟨g, 0, none⟩) n c) l) (i : Nat) (hi : i < l.length) (p : R3) :
    Ow (((W.setCell ⟨g, i * 3, none⟩ (.int .i64 p.1)).setCell ⟨g, i * 3 + 1, none⟩ (.int .i64 p.2.1)).setCell ⟨g, i * 3 + 2, none⟩ (.int .i64 p.2.2)) B (.slice (some ⟨g, 0, none⟩) n c) (l.set i p) := by
  obtain rfl := (Ow.rs h).1
  have h1 := (World.ownsRow.stored h (i * 3) (.int .i64 p.1)).1
  have h2 := (World.ownsRow.stored h1 (i * 3 + 1) (.int .i64 p.2.1)).1
  have h3 := (World.ownsRow.stored h2 (i * 3 + 2) (.int .i64 p.2.2)).1
  rw [fl_set l i p hi] at h3
  simpa [Ow] using h3

theorem Ow.spot {W : World} {B g n c : Nat} {l : List R3} (h : Ow W B (.slice (some ⟨g, 0, none⟩) n c) l) (i : Nat) (hi : i < l.length) : ∃ x y z,
    (W.cell? ⟨g, i * 3, none⟩ = some (.int .i64 x) ∧ W.cell? ⟨g, i * 3 + 1, none⟩ = some (.int .i64 y) ∧ W.cell? ⟨g, i * 3 + 2, none⟩ = some (.int .i64 z)) ∧ W.frozen? ⟨g, i * 3, none⟩ = false ∧ W.frozen? ⟨g, i * 3 + 1, none⟩ = false ∧ W.frozen? ⟨g, i * 3 + 2, none⟩ = false := by
  obtain ⟨rfl, hr⟩ := Ow.rs h
  obtain ⟨k, o, e, _, c1, c2, c3⟩ := hr.at hi
  simp only [Option.some.injEq, Addr.mk.injEq, and_true] at e
  obtain ⟨rfl, rfl⟩ := e
  simp only [Nat.zero_add] at c1 c2 c3
  exact ⟨_, _, _, ⟨c1, c2, c3⟩, World.ownsRow.frozenAt h _, World.ownsRow.frozenAt h _, World.ownsRow.frozenAt h _⟩
theorem Ow.cast {W : World} {B n c : Nat} {a : Option Addr} {l m : List R3} (h : Ow W B (.slice a n c) l) (e : l = m) : Ow W B (.slice a n c) m := e ▸ h
theorem info_rg : (Try.prog.info? 82).map (fun i => (i.zero, i.size, i.bytes)) = some (some (.agg #[.int .i64 0, .int .i64 0, .int .i64 0]), 3, 24) := by kernel_rfl
end Go.Proofs.Ytegdejhgamkkbaa
