/- Mc, Md. -/
import Derived.Test.YtocfggfccbnbhaaB1
import Derived.Laws.ShiftsVarLaws
namespace Go.Proofs.Ytocfggfccbnbhaa
open Go.RowKit
theorem hid {p : Prop} (h : p) : Hid p := h
/-- A register as three numbers: its value, its stamp's time, its stamp's server. -/
abbrev R3 := Int × Int × Int
/-- The cells of a list of registers. -/
def fl : List R3 → List Value
  | [] => []
  | p :: l => .int .i64 p.1 :: .int .i64 p.2.1 :: .int .i64 p.2.2 :: fl l
theorem fl_len (l : List R3) : (fl l).length = l.length * 3 := by
  induction l with
  | nil => rfl
  | cons p l ih => simp only [fl, List.length_cons, ih]; omega
theorem fl_app (l m : List R3) : fl (l ++ m) = fl l ++ fl m := by
  induction l with
  | nil => rfl
  | cons p l ih => simp only [List.cons_append, fl, ih]
theorem fl_at (l : List R3) (i : Nat) (h : i < l.length) :
    (fl l)[i * 3]? = some (.int .i64 l[i].1) ∧ (fl l)[i * 3 + 1]? = some (.int .i64 l[i].2.1) ∧ (fl l)[i * 3 + 2]? = some (.int .i64 l[i].2.2) := by
  induction l generalizing i with
  | nil => simp at h
  | cons p l ih =>
    cases i with
    | zero => exact ⟨rfl, rfl, rfl⟩
    | succ i =>
      have h' : i < l.length := by simpa using h
      have := ih i h'
      have e : (i + 1) * 3 = i * 3 + 1 + 1 + 1 := by omega
      rw [e]
      simpa [fl] using this
theorem fl_set (l : List R3) (i : Nat) (p : R3) (h : i < l.length) :
    (((fl l).set (i * 3) (.int .i64 p.1)).set (i * 3 + 1) (.int .i64 p.2.1)).set (i * 3 + 2) (.int .i64 p.2.2) = fl (l.set i p) := by
  induction l generalizing i with
  | nil => simp at h
  | cons q l ih =>
    cases i with
    | zero => rfl
    | succ i =>
      have h' : i < l.length := by simpa using h
      have := ih i h'
      have e : (i + 1) * 3 = i * 3 + 1 + 1 + 1 := by omega
      rw [e]
      simpa [fl] using this
theorem fl_one (l : List R3) : ∀ u ∈ fl l, u.oneCell' = true := by
  induction l with
  | nil => intro u hu; cases hu
  | cons p l ih =>
    intro u hu
    simp only [fl, List.mem_cons] at hu
    rcases hu with rfl | rfl | rfl | hu
    · rfl
    · rfl
    · rfl
    · exact ih u hu
/-- From cell o of block k on lie the registers of l. -/
def Row (W : World) (k o : Nat) (l : List R3) : Prop :=
  ∀ i (h : i < l.length), W.cell? ⟨k, o + i * 3, none⟩ = some (.int .i64 l[i].1) ∧ W.cell? ⟨k, o + i * 3 + 1, none⟩ = some (.int .i64 l[i].2.1) ∧ W.cell? ⟨k, o + i * 3 + 2, none⟩ = some (.int .i64 l[i].2.2)
/-- The slice of address a is the registers of l. -/
def Rs (W : World) (a : Option Addr) (l : List R3) : Prop :=
  0 < l.length → ∃ k o, a = some ⟨k, o, none⟩ ∧ k < W.heap.size ∧ Row W k o l
theorem Row.later {W W' : World} {k o : Nat} {l : List R3} (h : Row W k o l) (hk : k < W.heap.size) (hb : Below W.heap.size W W') : Row W' k o l := by
  intro i hi
  obtain ⟨h1, h2, h3⟩ := h i hi
  exact ⟨(hb.cell (p := ⟨k, o + i * 3, none⟩) hk).trans h1, (hb.cell (p := ⟨k, o + i * 3 + 1, none⟩) hk).trans h2, (hb.cell (p := ⟨k, o + i * 3 + 2, none⟩) hk).trans h3⟩
theorem Rs.later {W W' : World} {a : Option Addr} {l : List R3} (h : Rs W a l) (hb : Below W.heap.size W W') : Rs W' a l := by
  intro hn
  obtain ⟨k, o, h1, h2, h3⟩ := h hn
  exact ⟨k, o, h1, Nat.lt_of_lt_of_le h2 hb.size, h3.later h2 hb⟩
theorem Rs.empty (W : World) (a : Option Addr) : Rs W a [] := fun h => absurd h (by simp)
/-- A row of registers that a call owns. -/
abbrev Ow (W : World) (B : Nat) (v : Value) (l : List R3) : Prop := W.ownsRow B 87 3 v l.length (fl l)
theorem Ow.rs {W : World} {B n c : Nat} {a : Option Addr} {l : List R3} (h : Ow W B (.slice a n c) l) : n = l.length ∧ Rs W a l := by
  have hw := h
  rcases h.2 with ⟨h1, h2⟩ | ⟨g, cap, cur, h1, h2, h3, h4, h5, h6, h7⟩
  · simp only [Value.slice.injEq] at h1
    refine ⟨by omega, fun hn => by omega⟩
  · simp only [Value.slice.injEq] at h1
    obtain ⟨rfl, rfl, rfl⟩ := h1
    refine ⟨rfl, fun _ => ⟨g, 0, rfl, (Array.getElem?_eq_some_iff.1 h3).1, fun i hi => ?_⟩⟩
    have e := fl_at l i hi
    simp only [Nat.zero_add]
    exact ⟨(hw.cellAt _ (by omega)).trans e.1, (hw.cellAt _ (by omega)).trans e.2.1, (hw.cellAt _ (by omega)).trans e.2.2⟩
theorem Ow.shape {W : World} {B : Nat} {v : Value} {l : List R3} (h : Ow W B v l) : ∃ a c, v = .slice a l.length c ∧ Rs W a l := by
  rcases h.2 with ⟨h1, h2⟩ | ⟨g, cap, cur, h1, _⟩
  · subst h1
    exact ⟨none, 0, by rw [h2], (Ow.rs h).2⟩
  · subst h1
    exact ⟨_, _, rfl, (Ow.rs h).2⟩
theorem own_later {w w' : World} {B e size n : Nat} {v : Value} {xs : List Value} (h : w.ownsRow B e size v n xs) (hb : Below w.heap.size w w') : w'.ownsRow B e size v n xs :=
  h.kept (row := none) ⟨hb.os, hb.tape, hb.output, hb.size, fun k hk _ => hb.block k hk⟩ (by cases v.ownBlock <;> simp)
theorem own_base {w : World} {B B' e size n : Nat} {v : Value} {xs : List Value} (h : w.ownsRow B' e size v n xs) (hB : B ≤ B') : w.ownsRow B e size v n xs :=
  ⟨h.1, h.2.imp id (fun ⟨g, cap, cur, a, b, c⟩ => ⟨g, cap, cur, a, Nat.le_trans hB b, c⟩)⟩
theorem Rs.at {W : World} {a : Option Addr} {l : List R3} (h : Rs W a l) {i : Nat} (hi : i < l.length) : ∃ k o, a = some ⟨k, o, none⟩ ∧ k < W.heap.size ∧
    W.cell? ⟨k, o + i * 3, none⟩ = some (.int .i64 l[i].1) ∧ W.cell? ⟨k, o + i * 3 + 1, none⟩ = some (.int .i64 l[i].2.1) ∧ W.cell? ⟨k, o + i * 3 + 2, none⟩ = some (.int .i64 l[i].2.2) := by
  obtain ⟨k, o, h1, h2, h3⟩ := h (by omega)
  exact ⟨k, o, h1, h2, h3 i hi⟩
/-- A register stored at place i of an owned row: the three stores. -/
theorem Ow.stored {W : World} {B g n c : Nat} {l : List R3} (h : Ow W B (.slice (some ⟨g, 0, none⟩) n c) l) (i : Nat) (hi : i < l.length) (p : R3) :
    Ow (((W.setCell ⟨g, i * 3, none⟩ (.int .i64 p.1)).setCell ⟨g, i * 3 + 1, none⟩ (.int .i64 p.2.1)).setCell ⟨g, i * 3 + 2, none⟩ (.int .i64 p.2.2)) B (.slice (some ⟨g, 0, none⟩) n c) (l.set i p) := by
  obtain rfl := (Ow.rs h).1
  have h1 := (World.ownsRow.stored h (i * 3) (.int .i64 p.1)).1
  have h2 := (World.ownsRow.stored h1 (i * 3 + 1) (.int .i64 p.2.1)).1
  have h3 := (World.ownsRow.stored h2 (i * 3 + 2) (.int .i64 p.2.2)).1
  rw [fl_set l i p hi] at h3
  simpa [Ow] using h3
theorem Ow.spot {W : World} {B g n c : Nat} {l : List R3} (h : Ow W B (.slice (some ⟨g, 0, none⟩) n c) l) (i : Nat) (hi : i < l.length) : ∃ x y z,
    (W.cell? ⟨g, i * 3, none⟩ = some (.int .i64 x) ∧ W.cell? ⟨g, i * 3 + 1, none⟩ = some (.int .i64 y) ∧ W.cell? ⟨g, i * 3 + 2, none⟩ = some (.int .i64 z)) ∧ W.frozen? ⟨g, i * 3, none⟩ = false ∧ W.frozen? ⟨g, i * 3 + 1, none⟩ = false ∧ W.frozen? ⟨g, i * 3 + 2, none⟩ = false := by
  obtain ⟨rfl, hr⟩ := Ow.rs h
  obtain ⟨k, o, e, _, c1, c2, c3⟩ := hr.at hi
  simp only [Option.some.injEq, Addr.mk.injEq, and_true] at e
  obtain ⟨rfl, rfl⟩ := e
  simp only [Nat.zero_add] at c1 c2 c3
  exact ⟨_, _, _, ⟨c1, c2, c3⟩, World.ownsRow.frozenAt h _, World.ownsRow.frozenAt h _, World.ownsRow.frozenAt h _⟩
theorem Ow.cast {W : World} {B n c : Nat} {a : Option Addr} {l m : List R3} (h : Ow W B (.slice a n c) l) (e : l = m) : Ow W B (.slice a n c) m := e ▸ h
theorem info_rg : (Try.prog.info? 87).map (fun i => (i.zero, i.size, i.bytes)) = some (some (.agg #[.int .i64 0, .int .i64 0, .int .i64 0]), 3, 24) := by kernel_rfl
end Go.Proofs.Ytocfggfccbnbhaa
namespace Go.Proofs.Ytocfggfccbnbhaa
open Go.RowKit
theorem info_parts3 {P : Program} {e : Nat} {z : Value} {s b : Nat} (h : (P.info? e).map (fun i => (i.zero, i.size, i.bytes)) = some (some z, s, b)) : ∃ i, P.info? e = some i ∧ i.zero = some z ∧ i.size = s ∧ i.bytes = b := by
  cases hi : P.info? e with
  | none => rw [hi] at h; cases h
  | some i =>
    rw [hi] at h
    simp only [Option.map_some, Option.some.injEq, Prod.mk.injEq] at h
    exact ⟨i, rfl, h.1, h.2.1, h.2.2⟩
theorem fl_rep (n : Nat) : fl (List.replicate n (0, 0, 0)) = List.replicate (n * 3) (.int .i64 0) := by
  induction n with
  | zero => rfl
  | succ n ih => rw [List.replicate_succ, show (n + 1) * 3 = n * 3 + 1 + 1 + 1 by omega]; simp only [fl, ih, List.replicate_succ]
theorem made3 (n : Nat) : (madeCells #[.int .i64 0, .int .i64 0, .int .i64 0] (n * 3)).toList = fl (List.replicate n (0, 0, 0)) := by
  rw [fl_rep]
  apply List.ext_getElem?
  intro j
  by_cases hj : j < n * 3
  · have h3 : j % 3 = 0 ∨ j % 3 = 1 ∨ j % 3 = 2 := by omega
    rcases h3 with h | h | h <;> simp [madeCells, hj, h]
  · simp [madeCells, hj]
/-- A new row of n registers. -/
theorem make_rg (n : Nat) (hn : n ≤ 1048576) : ∃ M : Array Value, Hid (∀ W : World, Ow (W.alloc (.cells M 87)) W.heap.size (.slice (some ⟨W.heap.size, 0, none⟩) n n) (List.replicate n (0, 0, 0))) ∧
    ∀ W : World, (Instr.makeSlice 47 (.int .i64 (n : Int)) (.int .i64 (n : Int))).run Try.prog W = .ok (.slice (some ⟨W.heap.size, 0, none⟩) n n) (W.alloc (.cells M 87)) := by
  obtain ⟨i0, hi, hz0, hz1, hz2⟩ := info_parts3 info_rg
  refine ⟨madeCells #[.int .i64 0, .int .i64 0, .int .i64 0] (n * 3), fun W => ?_, fun W => ?_⟩
  · have h := World.ownsRow_lit (base := W.heap.size) (e := 87) (size := 3) W (madeCells #[.int .i64 0, .int .i64 0, .int .i64 0] (n * 3)) n (Nat.le_refl _) (by unfold maxLen; omega) (size_madeCells _ _)
    rw [made3] at h
    simpa [Ow] using h
  · have h := run_make (P := Try.prog) W 47 87 i0 (.agg #[.int .i64 0, .int .i64 0, .int .i64 0]) Try.underlying47 hi hz0 .i64 .i64 (n : Int) (n : Int) (by omega) (by omega) (by rw [hz2]; omega) (by omega)
    rw [hz1, Int.toNat_natCast] at h
    exact h
theorem sz_over (ao : Option Addr) (n cap : Nat) (lf : Int) (w : World) (_hn : (n : Int) ≤ 9223372036854775807) (_hl : 0 ≤ lf ∧ lf ≤ 1048576) (h : lf < (n : Int)) :
    Calls Try.prog 73 #[.slice ao n cap, .int .i64 lf] w fun e w' => e = .returned (.int .i64 (-1)) ∧ w' = w := by
  have h1 : lf - (n : Int) < 0 := by omega
  go_enter Try.func73, Try.ntmps73
  go_wp2
  go_ret
  exact ⟨rfl, rfl⟩
theorem sz_fits (ao : Option Addr) (n cap : Nat) (lf : Int) (w : World) (_hn : (n : Int) ≤ 9223372036854775807) (_hl : 0 ≤ lf ∧ lf ≤ 1048576) (h : ¬ lf < (n : Int)) :
    Calls Try.prog 73 #[.slice ao n cap, .int .i64 lf] w fun e w' => e = .returned (.int .i64 (lf - n)) ∧ w' = w := by
  have h1 : ¬ lf - (n : Int) < 0 := by omega
  go_enter Try.func73, Try.ntmps73
  go_wp2
  go_ret
  exact ⟨rfl, rfl⟩
/-- A row that is filled from the front: the first i places are l's. -/
def fil (l : List R3) (i : Nat) : List R3 := l.take i ++ List.replicate (l.length - i) (0, 0, 0)
theorem fil_len (l : List R3) (i : Nat) (h : i ≤ l.length) : (fil l i).length = l.length := by simp [fil]; omega
theorem fil_zero (l : List R3) : fil l 0 = List.replicate l.length (0, 0, 0) := by simp [fil]
theorem fil_all (l : List R3) : fil l l.length = l := by simp [fil]
theorem fil_set (l : List R3) (i : Nat) (h : i < l.length) : (fil l i).set i l[i] = fil l (i + 1) := by
  unfold fil
  rw [List.set_append_right _ _ (by simp; omega)]
  have e : i - (l.take i).length = 0 := by simp; omega
  rw [e]
  obtain ⟨m, hm⟩ : ∃ m, l.length - i = m + 1 := ⟨l.length - i - 1, by omega⟩
  rw [hm, show l.length - (i + 1) = m by omega, List.replicate_succ, List.set_cons_zero, List.take_succ_eq_append_getElem h, List.append_assoc]
  rfl
set_option maxHeartbeats 400000 in
set_option maxRecDepth 100000 in
theorem toS_any (ao : Option Addr) (n cap : Nat) (l : List R3) (w : World) (hl : l.length = n) (hn : n ≤ 1048576) (hr : Rs w ao l) :
    Calls Try.prog 75 #[.slice ao n cap] w fun e w' => e = .returned (.slice (some ⟨w.heap.size, 0, none⟩) n n) ∧ Ow w' w.heap.size (.slice (some ⟨w.heap.size, 0, none⟩) n n) l ∧ Below w.heap.size w w' := by
  obtain ⟨M, hM, hmk⟩ := make_rg n hn
  have HR := hid hr
  have HL := hid hl
  clear hr hl
  go_enter Try.func75, Try.ntmps75
  go_wp2
  clear hmk
  go_loopw [4] (fun iv wr => ∃ i : Nat, i ≤ n ∧ iv = .int .i64 (i : Int) ∧ Ow wr w.heap.size (.slice (some ⟨w.heap.size, 0, none⟩) n n) (fil l i) ∧ Below w.heap.size w wr) (fun iv _ => n - (intOf iv).toNat)
  case atStart => exact ⟨0, Nat.zero_le _, rfl, by rw [fil_zero, HL.out]; exact hM.out w, bpush (bre _) _⟩
  case round =>
    obtain ⟨i, hi, rfl, hown, hb⟩ := hrel
    have HO := hid hown
    have hsz := hb.size
    clear hown
    by_cases hlt : i < n
    · have hil : i < l.length := by rw [HL.out]; exact hlt
      obtain ⟨k, o, rfl, hk, c1, c2, c3⟩ := (HR.out.later hb).at hil
      obtain ⟨p, hp⟩ : ∃ p, l[i] = p := ⟨_, rfl⟩
      rw [hp] at c1 c2 c3
      obtain ⟨v, t, b⟩ := p
      have HP := hid hp
      clear hp
      go_wp2_with fail
      refine (toReg_any v t b _).mono ?_; rintro e w1 ⟨rfl, hb1⟩
      have H1 := hid (own_later HO.out hb1)
      obtain ⟨x, y, z, hc, hf⟩ := Ow.spot H1.out i (by rw [fil_len _ _ (by omega)]; exact hil)
      have HST := hid (Ow.stored H1.out i (by rw [fil_len _ _ (by omega)]; exact hil) (v, t, b))
      have HB1 : Hid (Below w.heap.size w w1) := btr hb hb1
      clear c1 c2 c3 hb1 hb
      go_wp2
      go_roundw
      case rel => exact ⟨i + 1, by omega, by go_num, HST.out.cast (by rw [← HP.out]; exact fil_set l i hil), bset (bset (bset HB1.out (Nat.le_refl _) _) (Nat.le_refl _) _) (Nat.le_refl _) _⟩
      case measure => simp [intOf]; omega
    · have HE : Hid (i = l.length) := by show _ = _; rw [HL.out]; omega
      go_wp2
      go_ret
      exact ⟨rfl, HO.out.cast (by rw [HE.out, fil_all]), hb⟩
end Go.Proofs.Ytocfggfccbnbhaa
namespace Go.Proofs.Ytocfggfccbnbhaa
open Go.RowKit
set_option maxHeartbeats 400000 in
set_option maxRecDepth 100000 in
/-- Two rows of the same registers are told alike. -/
theorem eqRS_any (ao bo : Option Addr) (n ca cb : Nat) (l : List R3) (w : World) (hl : l.length = n) (hn : n ≤ 1048576) (ha : Rs w ao l) (hb : Rs w bo l) :
    Calls Try.prog 80 #[.slice ao n ca, .slice bo n cb] w fun e w' => e = .returned (.bool true) ∧ Below w.heap.size w w' := by
  have hnn : ((n : Int) != (n : Int)) = false := by simp
  have HA := hid ha
  have HB := hid hb
  have HL := hid hl
  clear ha hb hl
  go_enter Try.func80, Try.ntmps80
  go_wp2
  clear hnn
  go_loopw [5] (fun iv wr => ∃ i : Nat, i ≤ n ∧ iv = .int .i64 (i : Int) ∧ Below w.heap.size w wr) (fun iv _ => n - (intOf iv).toNat)
  case atStart => exact ⟨0, Nat.zero_le _, rfl, bre _⟩
  case round =>
    obtain ⟨i, hi, rfl, hb⟩ := hrel
    have HBE := hid hb
    clear hb
    by_cases hlt : i < n
    · have hil : i < l.length := by rw [HL.out]; exact hlt
      obtain ⟨k, o, rfl, hk, c⟩ := (HA.out.later HBE.out).at hil
      obtain ⟨k', o', rfl, hk', d⟩ := (HB.out.later HBE.out).at hil
      obtain ⟨p, hp⟩ : ∃ p, l[i] = p := ⟨_, rfl⟩
      rw [hp] at c d
      obtain ⟨v, t, b⟩ := p
      clear hp
      have hI : (0 : Int) ≤ (i : Int) ∧ (i : Int) < (n : Int) := by omega
      have HS : Hid (∀ W, Below wr.heap.size wr W → (W.cell? ⟨k, o + i * 3, none⟩ = some (.int .i64 v) ∧ W.cell? ⟨k, o + i * 3 + 1, none⟩ = some (.int .i64 t) ∧ W.cell? ⟨k, o + i * 3 + 2, none⟩ = some (.int .i64 b)) ∧ (W.cell? ⟨k', o' + i * 3, none⟩ = some (.int .i64 v) ∧ W.cell? ⟨k', o' + i * 3 + 1, none⟩ = some (.int .i64 t) ∧ W.cell? ⟨k', o' + i * 3 + 2, none⟩ = some (.int .i64 b))) :=
        fun W h => ⟨⟨(h.cell (p := ⟨k, _, none⟩) hk).trans c.1, (h.cell (p := ⟨k, _, none⟩) hk).trans c.2.1, (h.cell (p := ⟨k, _, none⟩) hk).trans c.2.2⟩, ⟨(h.cell (p := ⟨k', _, none⟩) hk').trans d.1, (h.cell (p := ⟨k', _, none⟩) hk').trans d.2.1, (h.cell (p := ⟨k', _, none⟩) hk').trans d.2.2⟩⟩
      clear c d
      go_wp2_with fail
      go_region_held3 (fun W => (W.cell? ⟨k, o + i * 3, none⟩ = some (.int .i64 v) ∧ W.cell? ⟨k, o + i * 3 + 1, none⟩ = some (.int .i64 t) ∧ W.cell? ⟨k, o + i * 3 + 2, none⟩ = some (.int .i64 b)) ∧ (W.cell? ⟨k', o' + i * 3, none⟩ = some (.int .i64 v) ∧ W.cell? ⟨k', o' + i * 3 + 1, none⟩ = some (.int .i64 t) ∧ W.cell? ⟨k', o' + i * 3 + 2, none⟩ = some (.int .i64 b)))
        ((refine HS.out _ ?_; repeat (first | exact bdr (bre _) | refine btr ?_ (by assumption))))
        ((go_at_call 90; refine (eqReg_same v t b _).mono ?_; rintro e w1 ⟨rfl, hb1⟩))
      have HB1 : Hid (Below w.heap.size w w1) := by show Below _ _ _; refine btr HBE.out ?_; repeat (first | exact bdr (bre _) | refine btr ?_ (by assumption))
      go_wp2
      go_roundw
      case rel => exact ⟨i + 1, by omega, by go_num, HB1.out⟩
      case measure => simp [intOf]; omega
    · go_wp2
      go_ret
      exact ⟨rfl, HBE.out⟩
/-- The marks from k on, three a register, n registers. -/
def mks (k n : Nat) : List R3 := (List.range n).map fun i => (((k + i * 3 : Nat) : Int), ((k + i * 3 + 1 : Nat) : Int), ((k + i * 3 + 2 : Nat) : Int))
theorem mks_len (k n : Nat) : (mks k n).length = n := by simp [mks]
theorem mks_at (k n i : Nat) (h : i < (mks k n).length) : (mks k n)[i] = (((k + i * 3 : Nat) : Int), ((k + i * 3 + 1 : Nat) : Int), ((k + i * 3 + 2 : Nat) : Int)) := by simp [mks]
theorem wtr {a b c : World} {r : Option Nat} (h : a.grownBy b r) (k : b.grownBy c r) : a.grownBy c r :=
  ⟨k.os.trans h.os, k.tape.trans h.tape, k.output.trans h.output, Nat.le_trans h.size k.size, fun i hi hr => (k.block i (Nat.lt_of_lt_of_le hi h.size) hr).trans (h.block i hi hr)⟩
theorem wre (a : World) (r : Option Nat) : a.grownBy a r := ⟨rfl, rfl, rfl, Nat.le_refl _, fun _ _ _ => rfl⟩
theorem wst {a w : World} {g : Nat} (h : a.grownBy w (some g)) (i : Nat) (u : Value) : a.grownBy (w.setCell ⟨g, i, none⟩ u) (some g) :=
  wtr h ⟨rfl, rfl, rfl, by simp [World.setCell], fun k _ hk => Below.heap_setCell _ _ _ _ (fun e => hk (by simpa using e))⟩
theorem Rs.grown {W W' : World} {a : Option Addr} {l : List R3} {g : Nat} (h : Rs W a l) (hg : W.grownBy W' (some g)) (ha : ∀ x, a = some x → x.block ≠ g) : Rs W' a l := by
  intro hn
  obtain ⟨k, o, h1, h2, h3⟩ := h hn
  have hk : k ≠ g := ha _ h1
  refine ⟨k, o, h1, Nat.lt_of_lt_of_le h2 hg.size, fun i hi => ?_⟩
  obtain ⟨c1, c2, c3⟩ := h3 i hi
  exact ⟨hg.cell (a := ⟨k, _, none⟩) c1 (by simpa using hk), hg.cell (a := ⟨k, _, none⟩) c2 (by simpa using hk), hg.cell (a := ⟨k, _, none⟩) c3 (by simpa using hk)⟩
theorem below_of_grown {B g : Nat} {a w : World} (h : a.grownBy w (some g)) (hB : B ≤ g) (hs : B ≤ a.heap.size) : Below B a w :=
  ⟨h.os, h.tape, h.output, h.size, fun k hk => h.block k (by omega) (by simp; omega)⟩
/-- A row that is marked from the front. -/
def mkd (k : Nat) (l : List R3) (i : Nat) : List R3 := mks k i ++ l.drop i
theorem mkd_len (k : Nat) (l : List R3) (i : Nat) (h : i ≤ l.length) : (mkd k l i).length = l.length := by simp [mkd, mks_len]; omega
theorem mkd_zero (k : Nat) (l : List R3) : mkd k l 0 = l := by simp [mkd, mks]
theorem mkd_all (k : Nat) (l : List R3) : mkd k l l.length = mks k l.length := by simp [mkd]
theorem mkd_set (k : Nat) (l : List R3) (i : Nat) (h : i < l.length) (p : R3) (hp : p = (((k + i * 3 : Nat) : Int), ((k + i * 3 + 1 : Nat) : Int), ((k + i * 3 + 2 : Nat) : Int))) : (mkd k l i).set i p = mkd k l (i + 1) := by
  unfold mkd
  rw [List.set_append_right _ _ (by rw [mks_len]; omega), mks_len, Nat.sub_self, List.drop_eq_getElem_cons h, List.set_cons_zero, hp]
  have e : mks k (i + 1) = mks k i ++ [(((k + i * 3 : Nat) : Int), ((k + i * 3 + 1 : Nat) : Int), ((k + i * 3 + 2 : Nat) : Int))] := by
    unfold mks; rw [List.range_succ, List.map_append]; rfl
  rw [e, List.append_assoc]
  rfl
set_option maxHeartbeats 800000 in
set_option maxRecDepth 100000 in
theorem markRS_any (B g n cap k : Nat) (l : List R3) (w : World) (hown : Ow w B (.slice (some ⟨g, 0, none⟩) n cap) l) (hl : l.length = n) (hn : n ≤ 1048576) (hk : k ≤ 4194304) :
    Calls Try.prog 70 #[.slice (some ⟨g, 0, none⟩) n cap, .int .i64 (k : Int)] w fun e w' => e = .returned (.int .i64 ((k + n * 3 : Nat) : Int)) ∧ Ow w' B (.slice (some ⟨g, 0, none⟩) n cap) (mks k n) ∧ w.grownBy w' (some g) := by
  have HO := hid hown
  have HL := hid hl
  clear hown hl
  go_enter Try.func70, Try.ntmps70
  go_wp2
  go_loopw [1, 5] (fun kv iv wr => ∃ i : Nat, i ≤ n ∧ kv = .int .i64 ((k + i * 3 : Nat) : Int) ∧ iv = .int .i64 (i : Int) ∧ Ow wr B (.slice (some ⟨g, 0, none⟩) n cap) (mkd k l i) ∧ w.grownBy wr (some g)) (fun _ iv _ => n - (intOf iv).toNat)
  case atStart => exact ⟨0, Nat.zero_le _, by simp, rfl, by rw [mkd_zero]; exact HO.out, wre _ _⟩
  case round =>
    obtain ⟨i, hi, rfl, rfl, hown, hb⟩ := hrel
    have HOW := hid hown
    have HG := hid hb
    clear hown hb
    by_cases hlt : i < n
    · have hil : i < l.length := by rw [HL.out]; exact hlt
      have hil' : i < (mkd k l i).length := by rw [mkd_len _ _ _ (by omega)]; exact hil
      obtain ⟨x, y, z, hc, hf⟩ := Ow.spot HOW.out i hil'
      obtain ⟨q, hq⟩ : ∃ q : Nat, k + i * 3 = q := ⟨_, rfl⟩
      have HQ := hid hq
      have hqb : q ≤ 8000000 := by omega
      rw [hq]
      have HST := hid (Ow.stored HOW.out i hil' ((q : Int), (q : Int) + 1, (q : Int) + 1 + 1))
      clear hq hil'
      go_wp2
      go_roundw
      case rel => exact ⟨i + 1, by omega, by rw [show ((k + (i + 1) * 3 : Nat) : Int) = (q : Int) + 1 + 1 + 1 by have := HQ.out; omega], by go_num, HST.out.cast (mkd_set k l i hil _ (by rw [HQ.out]; rfl)), wst (wst (wst HG.out _ _) _ _) _ _⟩
      case measure => simp [intOf]; omega
    · have HE : Hid (i = l.length) := by show _ = _; rw [HL.out]; omega
      have HN : Hid (i = n) := by show _ = _; omega
      go_wp2
      go_ret
      exact ⟨by rw [HN.out]; rfl, HOW.out.cast (by rw [HE.out, mkd_all, HL.out]), HG.out⟩
set_option maxHeartbeats 800000 in
set_option maxRecDepth 100000 in
theorem heldRS_any (B g n cap k : Nat) (w : World) (hown : Ow w B (.slice (some ⟨g, 0, none⟩) n cap) (mks k n)) (hn : n ≤ 1048576) (hk : k ≤ 4194304) :
    Calls Try.prog 72 #[.slice (some ⟨g, 0, none⟩) n cap, .int .i64 (k : Int)] w fun e w' => e = .returned (.int .i64 ((k + n * 3 : Nat) : Int)) ∧ w' = w := by
  have HO := hid hown
  clear hown
  go_enter Try.func72, Try.ntmps72
  go_wp2
  go_loop [1, 5] (fun kv iv => ∃ i : Nat, i ≤ n ∧ kv = .int .i64 ((k + i * 3 : Nat) : Int) ∧ iv = .int .i64 (i : Int)) (fun _ iv => n - (intOf iv).toNat)
  case atStart => exact ⟨0, Nat.zero_le _, by simp, rfl⟩
  case round =>
    obtain ⟨i, hi, rfl, rfl⟩ := hrel
    by_cases hlt : i < n
    · have hil : i < (mks k n).length := by rw [mks_len]; exact hlt
      obtain ⟨k', o', e, hk', c⟩ := (Ow.rs HO.out).2.at hil
      simp only [Option.some.injEq, Addr.mk.injEq, and_true] at e
      obtain ⟨rfl, rfl⟩ := e
      rw [mks_at] at c
      obtain ⟨q, hq⟩ : ∃ q : Nat, k + i * 3 = q := ⟨_, rfl⟩
      have HQ := hid hq
      have hqb : q ≤ 8000000 := by omega
      rw [hq] at c ⊢
      simp only [Nat.zero_add] at c
      rw [show ((q + 1 : Nat) : Int) = (q : Int) + 1 by omega, show ((q + 2 : Nat) : Int) = (q : Int) + 1 + 1 by omega] at c
      have e1 : ((q : Int) != (q : Int)) = false := by simp
      have e2 : ((q : Int) + 1 != (q : Int) + 1) = false := by simp
      have e3 : ((q : Int) + 1 + 1 != (q : Int) + 1 + 1) = false := by simp
      clear hq
      go_wp2
      go_round
      case rel => exact ⟨i + 1, by omega, by rw [show ((k + (i + 1) * 3 : Nat) : Int) = (q : Int) + 1 + 1 + 1 by have := HQ.out; omega], by go_num⟩
      case measure => simp [intOf]; omega
    · have HN : Hid (i = n) := by show _ = _; omega
      go_wp2
      go_ret
      exact ⟨by rw [HN.out]; rfl, rfl⟩
end Go.Proofs.Ytocfggfccbnbhaa
namespace Go.Proofs.Ytocfggfccbnbhaa
open Go.RowKit
def okp (p : R3) : Bool := rgOk p.1 p.2.1 p.2.2 && decide (p.1 ≤ 1)
def flOk (l : List R3) : Bool := decide (l.length = 3) && l.all okp
theorem all_here (l : List R3) (i : Nat) (h : i < l.length) (ha : (l.take i).all okp = true) (hp : okp l[i] = true) : (l.take (i + 1)).all okp = true := by
  rw [List.take_succ_eq_append_getElem h, List.all_append, ha]; simp [hp]
theorem not_all (l : List R3) (i : Nat) (h : i < l.length) (hp : okp l[i] = false) : flOk l = false := by
  have : l.all okp = false := by
    rw [List.all_eq_false]; exact ⟨l[i], List.getElem_mem h, by rw [hp]; simp⟩
  simp [flOk, this]
theorem all_end (l : List R3) (i : Nat) (h : i = l.length) (ha : (l.take i).all okp = true) : flOk l = decide (l.length = 3) := by
  subst h
  rw [List.take_length] at ha
  simp [flOk, ha]
theorem specRegOk_l (v t b : Int) : ∃ p : Bool, Hid (p = rgOk v t b) ∧ Hid (∀ w, Calls Try.prog 85 #[.agg #[.int .i64 v, .int .i64 t, .int .i64 b]] w fun e w' => e = .returned (.bool p) ∧ Below w.heap.size w w') :=
  ⟨_, rfl, fun w => (specRegOk_any v t b w).mono fun _ _ h => ⟨h.1, h.2 ▸ bpush (bpush (bre _) _) _⟩⟩
theorem implRegOk_l (v t b : Int) : ∃ p : Bool, Hid (p = rgOk v t b) ∧ Hid (∀ w, Calls Try.prog 89 #[.agg #[.int .i64 v, .int .i64 t, .int .i64 b]] w fun e w' => e = .returned (.bool p) ∧ Below w.heap.size w w') :=
  ⟨_, rfl, implRegOk_any v t b⟩
set_option maxHeartbeats 400000 in
set_option maxRecDepth 100000 in
theorem specFlagsOk_any (ao : Option Addr) (n cap : Nat) (l : List R3) (w : World) (hl : l.length = n) (hn : n ≤ 1048576) (hr : Rs w ao l) :
    Calls Try.prog 74 #[.slice ao n cap] w fun e w' => e = .returned (.bool (flOk l)) ∧ Below w.heap.size w w' := by
  have HR := hid hr
  have HL := hid hl
  clear hr hl
  go_enter Try.func74, Try.ntmps74
  go_wp2
  go_loopw [3] (fun iv wr => ∃ i : Nat, i ≤ n ∧ iv = .int .i64 (i : Int) ∧ (l.take i).all okp = true ∧ Below w.heap.size w wr) (fun iv _ => n - (intOf iv).toNat)
  case atStart => exact ⟨0, Nat.zero_le _, rfl, by simp, bre _⟩
  case round =>
    obtain ⟨i, hi, rfl, hall, hb⟩ := hrel
    have HAL := hid hall
    have HB := hid hb
    clear hall hb
    by_cases hlt : i < n
    · have hil : i < l.length := by rw [HL.out]; exact hlt
      obtain ⟨k, o, rfl, hk, c⟩ := (HR.out.later HB.out).at hil
      obtain ⟨p, hp⟩ : ∃ p, l[i] = p := ⟨_, rfl⟩
      rw [hp] at c
      obtain ⟨v, t, b⟩ := p
      have HP := hid hp
      clear hp
      obtain ⟨q, hq, cq⟩ := specRegOk_l v t b
      go_wp2_with fail
      refine (cq.out _).mono ?_; rintro e w1 ⟨rfl, hb1⟩
      have d1 : w1.cell? ⟨k, o + i * 3, none⟩ = some (.int .i64 v) := (hb1.cell (p := ⟨k, _, none⟩) hk).trans c.1
      have HB1 : Hid (Below w.heap.size w w1) := btr HB.out hb1
      clear c hb1
      cases q
      · have HF : Hid (flOk l = false) := not_all l i hil (by rw [HP.out]; simp [okp, ← hq.out])
        go_wp2
        go_ret
        exact ⟨by rw [HF.out]; rfl, HB1.out⟩
      · by_cases hv : v ≤ 1
        · have HT : Hid (okp l[i] = true) := by show _ = _; rw [HP.out]; simp [okp, ← hq.out, hv]
          go_wp2
          go_roundw
          case rel => exact ⟨i + 1, by omega, by go_num, all_here l i hil HAL.out HT.out, HB1.out⟩
          case measure => simp [intOf]; omega
        · have HF : Hid (flOk l = false) := not_all l i hil (by rw [HP.out]; simp [okp, hv])
          go_wp2
          go_ret
          exact ⟨by rw [HF.out]; rfl, HB1.out⟩
    · have HE : Hid (flOk l = decide (l.length = 3)) := all_end l i (by rw [HL.out]; omega) HAL.out
      by_cases h3 : n = 3
      · have HG : Hid (flOk l = true) := by show _ = _; rw [HE.out, HL.out]; simp [h3]
        subst h3
        go_wp2
        go_ret
        exact ⟨by rw [HG.out]; rfl, HB.out⟩
      · have HG : Hid (flOk l = false) := by show _ = _; rw [HE.out, HL.out]; simp [h3]
        have h4 : ((n : Int) == 3) = false := by simp; omega
        go_wp2
        go_ret
        exact ⟨by rw [HG.out]; rfl, HB.out⟩
set_option maxHeartbeats 400000 in
set_option maxRecDepth 100000 in
theorem implFlagsOk_any (ao : Option Addr) (n cap : Nat) (l : List R3) (w : World) (hl : l.length = n) (hn : n ≤ 1048576) (hr : Rs w ao l) :
    Calls Try.prog 79 #[.slice ao n cap] w fun e w' => e = .returned (.bool (flOk l)) ∧ Below w.heap.size w w' := by
  have HR := hid hr
  have HL := hid hl
  clear hr hl
  by_cases h3 : n = 3
  · have h4 : ((n : Int) != 3) = false := by subst h3; rfl
    have H3 := hid h3
    clear h3
    go_enter Try.func79, Try.ntmps79
    go_wp2
    clear h4
    go_loopw [10] (fun iv wr => ∃ i : Nat, i ≤ n ∧ iv = .int .i64 (i : Int) ∧ (l.take i).all okp = true ∧ Below w.heap.size w wr) (fun iv _ => n - (intOf iv).toNat)
    case atStart => exact ⟨0, Nat.zero_le _, rfl, by simp, bre _⟩
    case round =>
      obtain ⟨i, hi, rfl, hall, hb⟩ := hrel
      have HAL := hid hall
      have HB := hid hb
      clear hall hb
      by_cases hlt : i < n
      · have hil : i < l.length := by rw [HL.out]; exact hlt
        obtain ⟨k, o, rfl, hk, c⟩ := (HR.out.later HB.out).at hil
        obtain ⟨p, hp⟩ : ∃ p, l[i] = p := ⟨_, rfl⟩
        rw [hp] at c
        obtain ⟨v, t, b⟩ := p
        have HP := hid hp
        clear hp
        obtain ⟨q, hq, cq⟩ := implRegOk_l v t b
        go_wp2_with fail
        refine (cq.out _).mono ?_; rintro e w1 ⟨rfl, hb1⟩
        have d1 := ((Rg.new wr 87 v t b).later hb1).cells
        have HB1 : Hid (Below w.heap.size w w1) := btr HB.out (btr (bpush (bre _) _) hb1)
        clear c hb1
        cases q
        · have HF : Hid (flOk l = false) := not_all l i hil (by rw [HP.out]; simp [okp, ← hq.out])
          go_wp2
          go_ret
          exact ⟨by rw [HF.out]; rfl, HB1.out⟩
        · by_cases hv : v ≤ 1
          · have HT : Hid (okp l[i] = true) := by show _ = _; rw [HP.out]; simp [okp, ← hq.out, hv]
            go_wp2
            go_roundw
            case rel => exact ⟨i + 1, by omega, by go_num, all_here l i hil HAL.out HT.out, HB1.out⟩
            case measure => simp [intOf]; omega
          · have HF : Hid (flOk l = false) := not_all l i hil (by rw [HP.out]; simp [okp, hv])
            go_wp2
            go_ret
            exact ⟨by rw [HF.out]; rfl, HB1.out⟩
      · have HE : Hid (flOk l = true) := (all_end l i (by rw [HL.out]; omega) HAL.out).trans (by rw [HL.out]; simp [H3.out])
        go_wp2
        go_ret
        exact ⟨by rw [HE.out]; rfl, HB.out⟩
  · have HG : Hid (flOk l = false) := by show _ = _; simp [flOk, HL.out, h3]
    have h4 : ((n : Int) != 3) = true := by simp; omega
    go_enter Try.func79, Try.ntmps79
    go_wp2
    go_ret
    exact ⟨by rw [HG.out]; rfl, bre _⟩
end Go.Proofs.Ytocfggfccbnbhaa
namespace Go.Proofs.Ytocfggfccbnbhaa
open Go.RowKit
/-- A bit of a number. -/
def bit (n : Int) (i : Nat) : Int := n / 2 ^ i % 2
end Go.Proofs.Ytocfggfccbnbhaa
namespace Go.Proofs.Ytocfggfccbnbhaa
open Go.RowKit
theorem cells_new3 (w : World) (p : R3) (e : Nat) : ∀ j u, (fl [p])[j]? = some u → (w.alloc (.cells #[.int .i64 p.1, .int .i64 p.2.1, .int .i64 p.2.2] e)).cell? ((⟨w.heap.size, 0, none⟩ : Addr).add j) = some u := by
  intro j u hu
  have h := heap_alloc_new w (.cells #[.int .i64 p.1, .int .i64 p.2.1, .int .i64 p.2.2] e)
  have hadd : (⟨w.heap.size, 0, none⟩ : Addr).add j = ⟨w.heap.size, j, none⟩ := by unfold Addr.add; split <;> simp_all
  rw [hadd, cell_of_row _ _ _ _ _ _ h]
  simpa [fl] using hu
/-- One register appended to a row of registers that the call owns: the register lies in a block of its own, laid just ahead. -/
theorem wpList_append_rg (w : World) {ops : Array Oper} {rest : List Oper} {o : Oper} {a : Act} {Q : Exit → Act → World → Prop} (hgd : o.guard = none) (s x : Operand)
    (ho : o.op = .call { callee := .builtin .append, args := #[s, x], argTypes := #[47, 47] })
    (base : Nat) (v : Value) (l : List R3) (hs : a.eval s = v) (hown : Ow w base v l) (p q r : Int)
    (hx : a.eval x = .slice (some ⟨w.heap.size, 0, none⟩) 1 1) (hlen : l.length ≤ 1048576) (hbase : base ≤ w.heap.size)
    (h : ∀ v' w', Ow w' base v' (l ++ [(p, q, r)]) → Below base w w' → wpList Try.prog ops Q rest (a.put o.dst v') w') :
    wpList Try.prog ops Q (o :: rest) a (w.alloc (.cells #[.int .i64 p, .int .i64 q, .int .i64 r] 87)) := by
  obtain ⟨i0, hi, hz0, hz1, hz2⟩ := info_parts3 info_rg
  refine wpList_append_own _ hgd s x 47 ho base 87 i0 _ 3 24 Try.underlying47 hi hz0 hz1 hz2 rfl (by decide) v _ _ hs (hown.alloc _) ⟨w.heap.size, 0, none⟩ 1 1 (fl [(p, q, r)]) hx rfl (cells_new3 w (p, q, r) 87) (fl_one _) (by unfold maxLen; omega) (by omega) (by simp; omega) ?_
  intro v' w' hown' hg _
  have h1 : Ow w' base v' (l ++ [(p, q, r)]) := by unfold Ow; rw [fl_app]; simpa using hown'
  exact h v' w' h1 (((Below.refl base w).alloc hbase _).grown hg (by simp; omega) (fun k hk => (hown.lt k hk).1))
theorem own_empty (W : World) (B : Nat) (hB : B ≤ W.heap.size) : Ow (W.alloc (.cells #[] 87)) B (.slice (some ⟨W.heap.size, 0, none⟩) 0 0) [] :=
  World.ownsRow_lit (base := B) (e := 87) (size := 3) W #[] 0 hB (by unfold maxLen; omega) rfl
end Go.Proofs.Ytocfggfccbnbhaa

namespace Go.Proofs.Ytocfggfccbnbhaa
open Go.RowKit
/-- One register appended, as one step of a region that draws its order. -/
theorem step_append_rg {ops : Array Oper} {o : Oper} {a : Act} {w : World} {K : Act → World → Prop} {Q : Exit → Act → World → Prop} {E : Prop}
    (hg : o.guard = none) (s x : Operand) (hop : o.op = Op.call { callee := Callee.builtin Builtin.append, args := #[s, x], argTypes := #[47, 47] })
    (base : Nat) (v : Value) (l : List R3) (hs : a.eval s = v) (p q r : Int) (hown : Ow w base v l)
    (hx : a.eval x = .slice (some ⟨w.heap.size, 0, none⟩) 1 1) (hlen : l.length ≤ 1048576) (hbase : base ≤ w.heap.size)
    (hK : ∀ v' w', Ow w' base v' (l ++ [(p, q, r)]) → Below base w w' → K (a.put o.dst v') w') :
    if Region.wanted o (yielded ops a.tmps) = true then Oper.wp Try.prog o a (w.alloc (.cells #[.int .i64 p, .int .i64 q, .int .i64 r] 87)) K Q else E := by
  have hw : Region.wanted o (yielded ops a.tmps) = true := by simp [Region.wanted, hg]
  rw [if_pos hw]
  obtain ⟨i0, hi, hz0, hz1, hz2⟩ := info_parts3 info_rg
  refine wp_append_own _ s x 47 hop base 87 i0 _ 3 24 Try.underlying47 hi hz0 hz1 hz2 rfl (by decide) v _ _ hs (hown.alloc _) ⟨w.heap.size, 0, none⟩ 1 1 (fl [(p, q, r)]) hx rfl (cells_new3 w (p, q, r) 87) (fl_one _) (by unfold maxLen; omega) (by omega) (by simp; omega) ?_
  intro v' w' hown' hgr _
  refine hK v' w' ?_ (((Below.refl base w).alloc hbase _).grown hgr (by simp; omega) (fun k hk => (hown.lt k hk).1))
  unfold Ow; rw [fl_app]; simpa using hown'
end Go.Proofs.Ytocfggfccbnbhaa
namespace Go.Proofs.Ytocfggfccbnbhaa
open Go.RowKit
theorem addr_add (k o j : Nat) : (⟨k, o, none⟩ : Addr).add j = ⟨k, o + j, none⟩ := by unfold Addr.add; split <;> simp_all
/-- The cells of a row, one by one. -/
theorem Row.all {W : World} {k o : Nat} {l : List R3} (h : Row W k o l) : ∀ j u, (fl l)[j]? = some u → W.cell? ((⟨k, o, none⟩ : Addr).add j) = some u := by
  intro j u hu
  rw [addr_add]
  have hj : j < (fl l).length := (List.getElem?_eq_some_iff.1 hu).1
  rw [fl_len] at hj
  have hi : j / 3 < l.length := by omega
  have e := fl_at l (j / 3) hi
  have c := h (j / 3) hi
  have h3 : j % 3 = 0 ∨ j % 3 = 1 ∨ j % 3 = 2 := by omega
  rcases h3 with h3 | h3 | h3
  · have ej : j = j / 3 * 3 := by omega
    rw [← ej] at e c
    rw [← hu, e.1]; exact c.1
  · have ej : j = j / 3 * 3 + 1 := by omega
    rw [Nat.add_assoc, ← ej] at c
    rw [← ej] at e
    rw [← hu, e.2.1]; exact c.2.1
  · have ej : j = j / 3 * 3 + 2 := by omega
    rw [Nat.add_assoc o _ 2, ← ej] at c
    rw [← ej] at e
    rw [← hu, e.2.2]; exact c.2.2
end Go.Proofs.Ytocfggfccbnbhaa
namespace Go.Proofs.Ytocfggfccbnbhaa
open Go.RowKit
/-- A register that is put; one flag that is set; all of them. -/
def pp (p : R3) (m t b : Int) : R3 := if (rgOk m t b && later t b p.2.1 p.2.2) = true then (m, t, b) else p
def sp (n t b : Int) (i : Nat) (p : R3) : R3 := if bit n i = p.1 then p else pp p (bit n i) t b
end Go.Proofs.Ytocfggfccbnbhaa
namespace Go.Proofs.Ytocfggfccbnbhaa
open Go.RowKit
/-- A drawn flag: 0 or 1, its stamp right. -/
def gd (p : R3) : Prop := (0 ≤ p.1 ∧ p.1 < 2) ∧ 0 ≤ p.2.1 ∧ p.2.1 < 12 ∧ 1 ≤ p.2.2 ∧ p.2.2 ≤ 2
theorem Sg.same {W W' : World} {k ty : Nat} {t b : Int} (h : Sg W k ty t b) (e : W'.heap[k]? = W.heap[k]?) : Sg W' k ty t b := e.trans h
end Go.Proofs.Ytocfggfccbnbhaa
namespace Go.Proofs.Ytocfggfccbnbhaa
open Go.RowKit
end Go.Proofs.Ytocfggfccbnbhaa
namespace Go.Proofs.Ytocfggfccbnbhaa
open Go.RowKit
/-- A list of three. -/
theorem three {l : List R3} (h : l.length = 3) : ∃ p q r, l = [p, q, r] := by
  match l, h with
  | [p, q, r], _ => exact ⟨p, q, r, rfl⟩
theorem bdn {B : Nat} {w w1 : World} (h : Below B w w1) (k : Nat) : Below B w (w1.drewN k) := ⟨h.os, h.tape, h.output, h.size, h.block⟩
end Go.Proofs.Ytocfggfccbnbhaa

