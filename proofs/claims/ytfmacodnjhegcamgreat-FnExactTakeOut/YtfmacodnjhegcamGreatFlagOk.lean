/- Flags: whether a list of registers is right. -/
import Derived.Test.YtfmacodnjhegcamGreatFlatEq
namespace Go.Proofs.YtfmacodnjhegcamGreat
open Go.RowKit

def okp (p : R3) : Bool := rgOk p.1 p.2.1 p.2.2 && decide (p.1 ≤ 1)
def flOk (l : List R3) : Bool := decide (l.length = 3) && l.all okp

theorem all_here (l : List R3) (i : Nat) (h : i < l.length) (ha : (l.take i).all okp = true) (hp : okp l[i] = true) : (l.take (i + 1)).all okp = true := by
  rw [List.take_succ_eq_append_getElem h, List.all_append, ha]; simp [hp]
theorem not_all (l : List R3) (i : Nat) (h : i < l.length) (hp : okp l[i] = false) : flOk l = false := by
  have : l.all okp = false := by
    rw [List.all_eq_false]; exact ⟨l[i], List.getElem_mem h, by rw [hp]; simp⟩
  simp [flOk, this]
theorem all_end (l : List R3) (i : Nat) (h : i = l.length) (ha : (l.take i).all okp = true) : flOk l = decide (l.length = 3) := by
  subst h
  rw [List.take_length] at ha
  simp [flOk, ha]

theorem specRegOk_l (v t b : Int) : ∃ p : Bool, Hid (p = rgOk v t b) ∧ Hid (∀ w, Calls Tryz.prog 72 #[.agg #[.int .i64 v, .int .i64 t, .int .i64 b]] w fun e w' => e = .returned (.bool p) ∧ Below w.heap.size w w') :=
  ⟨_, rfl, fun w => (specRegOk_any v t b w).mono fun _ _ h => ⟨h.1, h.2 ▸ bpush (bpush (bre _) _) _⟩⟩
theorem implRegOk_l (v t b : Int) : ∃ p : Bool, Hid (p = rgOk v t b) ∧ Hid (∀ w, Calls Tryz.prog 79 #[.agg #[.int .i64 v, .int .i64 t, .int .i64 b]] w fun e w' => e = .returned (.bool p) ∧ Below w.heap.size w w') :=
  ⟨_, rfl, implRegOk_any v t b⟩

set_option maxHeartbeats 400000 in
set_option maxRecDepth 100000 in
theorem specFlagsOk_any (ao : Option Addr) (n cap : Nat) (l : List R3) (w : World) (hl : l.length = n) (hn : n ≤ 1048576) (hr : Rs w ao l) :
    Calls Tryz.prog 49 #[.slice ao n cap] w fun e w' => e = .returned (.bool (flOk l)) ∧ Below w.heap.size w w' := by
  have HR := hid hr
  have HL := hid hl
  clear hr hl
  go_enter Tryz.func49, Tryz.ntmps49
  go_wp2
  go_loopw [3] (fun iv wr => ∃ i : Nat, i ≤ n ∧ iv = .int .i64 (i : Int) ∧ (l.take i).all okp = true ∧ Below w.heap.size w wr) (fun iv _ => n - (intOf iv).toNat)
  case atStart => exact ⟨0, Nat.zero_le _, rfl, by simp, bre _⟩
  case round =>
    obtain ⟨i, hi, rfl, hall, hb⟩ := hrel
    have HAL := hid hall
    have HB := hid hb
    clear hall hb
    by_cases hlt : i < n
    · have hil : i < l.length := by rw [HL.out]; exact hlt
      obtain ⟨k, o, rfl, hk, c⟩ := (HR.out.later HB.out).at hil
      obtain ⟨p, hp⟩ : ∃ p, l[i] = p := ⟨_, rfl⟩
      rw [hp] at c
      obtain ⟨v, t, b⟩ := p
      have HP := hid hp
      clear hp
      obtain ⟨q, hq, cq⟩ := specRegOk_l v t b
      go_wp2_with fail
      refine (cq.out _).mono ?_; rintro e w1 ⟨rfl, hb1⟩
      have d1 : w1.cell? ⟨k, o + i * 3, none⟩ = some (.int .i64 v) := (hb1.cell (p := ⟨k, _, none⟩) hk).trans c.1
      have HB1 : Hid (Below w.heap.size w w1) := btr HB.out hb1
      clear c hb1
      cases q
      · have HF : Hid (flOk l = false) := not_all l i hil (by rw [HP.out]; simp [okp, ← hq.out])
        go_wp2
        go_ret
        exact ⟨by rw [HF.out]; rfl, HB1.out⟩
      · by_cases hv : v ≤ 1
        · have HT : Hid (okp l[i] = true) := by show _ = _; rw [HP.out]; simp [okp, ← hq.out, hv]
          go_wp2
          go_roundw
          case rel => exact ⟨i + 1, by omega, by go_num, all_here l i hil HAL.out HT.out, HB1.out⟩
          case measure => simp [intOf]; omega
        · have HF : Hid (flOk l = false) := not_all l i hil (by rw [HP.out]; simp [okp, hv])
          go_wp2
          go_ret
          exact ⟨by rw [HF.out]; rfl, HB1.out⟩
    · have HE : Hid (flOk l = decide (l.length = 3)) := all_end l i (by rw [HL.out]; omega) HAL.out
      by_cases h3 : n = 3
      · have HG : Hid (flOk l = true) := by show _ = _; rw [HE.out, HL.out]; simp [h3]
        subst h3
        go_wp2
        go_ret
        exact ⟨by rw [HG.out]; rfl, HB.out⟩
      · have HG : Hid (flOk l = false) := by show _ = _; rw [HE.out, HL.out]; simp [h3]
        have h4 : ((n : Int) == 3) = false := by simp; omega
        go_wp2
        go_ret
        exact ⟨by rw [HG.out]; rfl, HB.out⟩

set_option maxHeartbeats 400000 in
set_option maxRecDepth 100000 in
theorem implFlagsOk_any (ao : Option Addr) (n cap : Nat) (l : List R3) (w : World) (hl : l.length = n) (hn : n ≤ 1048576) (hr : Rs w ao l) :
    Calls Tryz.prog 61 #[.slice ao n cap] w fun e w' => e = .returned (.bool (flOk l)) ∧ Below w.heap.size w w' := by
  have HR := hid hr
  have HL := hid hl
  clear hr hl
  by_cases h3 : n = 3
  · have h4 : ((n : Int) != 3) = false := by subst h3; rfl
    have H3 := hid h3
    clear h3
    go_enter Tryz.func61, Tryz.ntmps61
    go_wp2
    clear h4
    go_loopw [10] (fun iv wr => ∃ i : Nat, i ≤ n ∧ iv = .int .i64 (i : Int) ∧ (l.take i).all okp = true ∧ Below w.heap.size w wr) (fun iv _ => n - (intOf iv).toNat)
    case atStart => exact ⟨0, Nat.zero_le _, rfl, by simp, bre _⟩
    case round =>
      obtain ⟨i, hi, rfl, hall, hb⟩ := hrel
      have HAL := hid hall
      have HB := hid hb
      clear hall hb
      by_cases hlt : i < n
      · have hil : i < l.length := by rw [HL.out]; exact hlt
        obtain ⟨k, o, rfl, hk, c⟩ := (HR.out.later HB.out).at hil
        obtain ⟨p, hp⟩ : ∃ p, l[i] = p := ⟨_, rfl⟩
        rw [hp] at c
        obtain ⟨v, t, b⟩ := p
        have HP := hid hp
        clear hp
        obtain ⟨q, hq, cq⟩ := implRegOk_l v t b
        go_wp2_with fail
        refine (cq.out _).mono ?_; rintro e w1 ⟨rfl, hb1⟩
        have d1 := ((Rg.new wr 78 v t b).later hb1).cells
        have HB1 : Hid (Below w.heap.size w w1) := btr HB.out (btr (bpush (bre _) _) hb1)
        clear c hb1
        cases q
        · have HF : Hid (flOk l = false) := not_all l i hil (by rw [HP.out]; simp [okp, ← hq.out])
          go_wp2
          go_ret
          exact ⟨by rw [HF.out]; rfl, HB1.out⟩
        · by_cases hv : v ≤ 1
          · have HT : Hid (okp l[i] = true) := by show _ = _; rw [HP.out]; simp [okp, ← hq.out, hv]
            go_wp2
            go_roundw
            case rel => exact ⟨i + 1, by omega, by go_num, all_here l i hil HAL.out HT.out, HB1.out⟩
            case measure => simp [intOf]; omega
          · have HF : Hid (flOk l = false) := not_all l i hil (by rw [HP.out]; simp [okp, hv])
            go_wp2
            go_ret
            exact ⟨by rw [HF.out]; rfl, HB1.out⟩
      · have HE : Hid (flOk l = true) := (all_end l i (by rw [HL.out]; omega) HAL.out).trans (by rw [HL.out]; simp [H3.out])
        go_wp2
        go_ret
        exact ⟨by rw [HE.out]; rfl, HB.out⟩
  · have HG : Hid (flOk l = false) := by show _ = _; simp [flOk, HL.out, h3]
    have h4 : ((n : Int) != 3) = true := by simp; omega
    go_enter Tryz.func61, Tryz.ntmps61
    go_wp2
    go_ret
    exact ⟨by rw [HG.out]; rfl, bre _⟩
end Go.Proofs.YtfmacodnjhegcamGreat
