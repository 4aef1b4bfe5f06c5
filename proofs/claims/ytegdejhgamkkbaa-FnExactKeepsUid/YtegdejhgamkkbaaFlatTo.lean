/- Lists of registers: as the laws hand them over. -/
import Derived.Test.YtegdejhgamkkbaaFlat
namespace Go.Proofs.Ytegdejhgamkkbaa
open Go.RowKit

theorem info_parts3 {P : Program} {e : Nat} {z : Value} {s b : Nat} (h : (P.info? e).map (fun i => (i.zero, i.size, i.bytes)) = some (some z, s, b)) : ∃ i, P.info? e = some i ∧ i.zero = some z ∧ i.size = s ∧ i.bytes = b := by
  cases hi : P.info? e with
  | none => rw [hi] at h; cases h
  | some i =>
    rw [hi] at h
    simp only [Option.map_some, Option.some.injEq, Prod.mk.injEq] at h
    exact ⟨i, rfl, h.1, h.2.1, h.2.2⟩

theorem fl_rep (n : Nat) : fl (List.replicate n (0, 0, 0)) = List.replicate (n * 3) (.int .i64 0) := by
  induction n with
  | zero => rfl
  | succ n ih => rw [List.replicate_succ, show (n + 1) * 3 = n * 3 + 1 + 1 + 1 by omega]; simp only [fl, ih, List.replicate_succ]
theorem made3 (n : Nat) : (madeCells #[.int .i64 0, .int .i64 0, .int .i64 0] (n * 3)).toList = fl (List.replicate n (0, 0, 0)) := by
  rw [fl_rep]
  apply List.ext_getElem?
  intro j
  by_cases hj : j < n * 3
  · have h3 : j % 3 = 0 ∨ j % 3 = 1 ∨ j % 3 = 2 := by omega
    rcases h3 with h | h | h <;> simp [madeCells, hj, h]
  · simp [madeCells, hj]

/-- A new row of n registers. -/
theorem make_rg (n : Nat) (hn : n ≤ 1048576) : ∃ M : Array Value, Hid (∀ W : World, Ow (W.alloc (.cells M 82)) W.heap.size (.slice (some ⟨W.heap.size, 0, none⟩) n n) (List.replicate n (0, 0, 0))) ∧
    ∀ W : World, (Instr.makeSlice 55 (.int .i64 (n : Int)) (.int .i64 (n : Int))).run Try.prog W = .ok (.slice (some ⟨W.heap.size, 0, none⟩) n n) (W.alloc (.cells M 82)) := by
  obtain ⟨i0, hi, hz0, hz1, hz2⟩ := info_parts3 info_rg
  refine ⟨madeCells #[.int .i64 0, .int .i64 0, .int .i64 0] (n * 3), fun W => ?_, fun W => ?_⟩
  · have h := World.ownsRow_lit (base := W.heap.size) (e := 82) (size := 3) W (madeCells #[.int .i64 0, .int .i64 0, .int .i64 0] (n * 3)) n (Nat.le_refl _) (by unfold maxLen; omega) (size_madeCells _ _)
    rw [made3] at h
    simpa [Ow] using h
  · have h := run_make (P := Try.prog) W 55 82 i0 (.agg #[.int .i64 0, .int .i64 0, .int .i64 0]) Try.underlying55 hi hz0 .i64 .i64 (n : Int) (n : Int) (by omega) (by omega) (by rw [hz2]; omega) (by omega)
    rw [hz1, Int.toNat_natCast] at h
    exact h

theorem sz_over (ao : Option Addr) (n cap : Nat) (lf : Int) (w : World) (_hn : (n : Int) ≤ 9223372036854775807) (_hl : 0 ≤ lf ∧ lf ≤ 1048576) (h : lf < (n : Int)) :
    Calls Try.prog 45 #[.slice ao n cap, .int .i64 lf] w fun e w' => e = .returned (.int .i64 (-1)) ∧ w' = w := by
  have h1 : lf - (n : Int) < 0 := by omega
  go_enter Try.func45, Try.ntmps45
  go_wp2
  go_ret
  exact ⟨rfl, rfl⟩
theorem sz_fits (ao : Option Addr) (n cap : Nat) (lf : Int) (w : World) (_hn : (n : Int) ≤ 9223372036854775807) (_hl : 0 ≤ lf ∧ lf ≤ 1048576) (h : ¬ lf < (n : Int)) :
    Calls Try.prog 45 #[.slice ao n cap, .int .i64 lf] w fun e w' => e = .returned (.int .i64 (lf - n)) ∧ w' = w := by
  have h1 : ¬ lf - (n : Int) < 0 := by omega
  go_enter Try.func45, Try.ntmps45
  go_wp2
  go_ret
  exact ⟨rfl, rfl⟩

/-- A row that is filled from the front: the first i places are l's. -/
def fil (l : List R3) (i : Nat) : List R3 := l.take i ++ List.replicate (l.length - i) (0, 0, 0)
theorem fil_len (l : List R3) (i : Nat) (h : i ≤ l.length) : (fil l i).length = l.length := by simp [fil]; omega
theorem fil_zero (l : List R3) : fil l 0 = List.replicate l.length (0, 0, 0) := by simp [fil]
theorem fil_all (l : List R3) : fil l l.length = l := by simp [fil]
theorem fil_set (l : List R3) (i : Nat) (h : i < l.length) : (fil l i).set i l[i] = fil l (i + 1) := by
  unfold fil
  rw [List.set_append_right _ _ (by simp; omega)]
  have e : i - (l.take i).length = 0 := by simp; omega
  rw [e]
  obtain ⟨m, hm⟩ : ∃ m, l.length - i = m + 1 := ⟨l.length - i - 1, by omega⟩
  rw [hm, show l.length - (i + 1) = m by omega, List.replicate_succ, List.set_cons_zero, List.take_succ_eq_append_getElem h, List.append_assoc]
  rfl

set_option maxHeartbeats 400000 in
set_option maxRecDepth 100000 in
theorem toS_any (ao : Option Addr) (n cap : Nat) (l : List R3) (w : World) (hl : l.length = n) (hn : n ≤ 1048576) (hr : Rs w ao l) :
    Calls Try.prog 46 #[.slice ao n cap] w fun e w' => e = .returned (.slice (some ⟨w.heap.size, 0, none⟩) n n) ∧ Ow w' w.heap.size (.slice (some ⟨w.heap.size, 0, none⟩) n n) l ∧ Below w.heap.size w w' := by
  obtain ⟨M, hM, hmk⟩ := make_rg n hn
  have HR := hid hr
  have HL := hid hl
  clear hr hl
  go_enter Try.func46, Try.ntmps46
  go_wp2
  clear hmk
  go_loopw [4] (fun iv wr => ∃ i : Nat, i ≤ n ∧ iv = .int .i64 (i : Int) ∧ Ow wr w.heap.size (.slice (some ⟨w.heap.size, 0, none⟩) n n) (fil l i) ∧ Below w.heap.size w wr) (fun iv _ => n - (intOf iv).toNat)
  case atStart => exact ⟨0, Nat.zero_le _, rfl, by rw [fil_zero, HL.out]; exact hM.out w, bpush (bre _) _⟩
  case round =>
    obtain ⟨i, hi, rfl, hown, hb⟩ := hrel
    have HO := hid hown
    have hsz := hb.size
    clear hown
    by_cases hlt : i < n
    · have hil : i < l.length := by rw [HL.out]; exact hlt
      obtain ⟨k, o, rfl, hk, c1, c2, c3⟩ := (HR.out.later hb).at hil
      obtain ⟨p, hp⟩ : ∃ p, l[i] = p := ⟨_, rfl⟩
      rw [hp] at c1 c2 c3
      obtain ⟨v, t, b⟩ := p
      have HP := hid hp
      clear hp
      go_wp2_with fail
      refine (toReg_any v t b _).mono ?_; rintro e w1 ⟨rfl, hb1⟩
      have H1 := hid (own_later HO.out hb1)
      obtain ⟨x, y, z, hc, hf⟩ := Ow.spot H1.out i (by rw [fil_len _ _ (by omega)]; exact hil)
      have HST := hid (Ow.stored H1.out i (by rw [fil_len _ _ (by omega)]; exact hil) (v, t, b))
      have HB1 : Hid (Below w.heap.size w w1) := btr hb hb1
      clear c1 c2 c3 hb1 hb
      go_wp2
      go_roundw
      case rel => exact ⟨i + 1, by omega, by go_num, HST.out.cast (by rw [← HP.out]; exact fil_set l i hil), bset (bset (bset HB1.out (Nat.le_refl _) _) (Nat.le_refl _) _) (Nat.le_refl _) _⟩
      case measure => simp [intOf]; omega
    · have HE : Hid (i = l.length) := by show _ = _; rw [HL.out]; omega
      go_wp2
      go_ret
      exact ⟨rfl, HO.out.cast (by rw [HE.out, fil_all]), hb⟩
end Go.Proofs.Ytegdejhgamkkbaa
