/- Mj, Stm. -/
import Derived.Test.YtlhofbnnonljaaaGreatDoorX8
namespace Go.Proofs.YtlhofbnnonljaaaGreatDoor
open Go.RowKit Go.ChangeMaps
/-- What a right box is good for. -/
theorem bx_parts {g : Int} {nm : ByteArray} {t b nx : Int} {L : List M4} {G : List Int} (h : bxOk g nm t b nx L G = true) : L.length ≤ 10 ∧ (1 ≤ nx ∧ nx ≤ 10000) ∧ alr nx G L = true ∧ uq L = true ∧ G.length ≤ 40 ∧ asc 0 G = true := by
  simp only [bxOk, Bool.and_eq_true, decide_eq_true_eq, bxm, gnOk] at h
  obtain ⟨_, _, _, ⟨h1, h2⟩, h3, ⟨h5, h6⟩, h4⟩ := h
  exact ⟨by omega, ⟨h1, h2⟩, h4.1, h4.2, by omega, h5⟩
end Go.Proofs.YtlhofbnnonljaaaGreatDoor
namespace Go.Proofs.YtlhofbnnonljaaaGreatDoor
open Go.RowKit Go.ChangeMaps
theorem OwB.grown {W W' : World} {B k : Nat} {mv gv : Value} {L : List M4} {G : List Int} (h : OwB W B mv gv L G) (hg : W.grownBy W' (some k)) (hk : k < B) : OwB W' B mv gv L G := by
  obtain ⟨Z, h1, h2, h3, h4⟩ := h
  exact ⟨Z, h1, h2.grown hg hk, OwI.grown h3 hg hk, h4⟩
end Go.Proofs.YtlhofbnnonljaaaGreatDoor
namespace Go.Proofs.YtlhofbnnonljaaaGreatDoor
open Go.RowKit Go.ChangeMaps
def tmF (tm : Int) (l : List R3) : Bool := l.all (fun p => decide (p.2.1 ≤ tm))
def tmOk (tm t : Int) (L : List M4) : Bool := decide (t ≤ tm) && L.all (fun m => tmF tm m.2.2.1)
theorem all_next {α : Type} {p : α → Bool} {S : List α} {i : Nat} (h : i < S.length) (ha : (S.take i).all p = true) (hp : p S[i] = true) : (S.take (i + 1)).all p = true := by
  rw [List.take_succ_eq_append_getElem h, List.all_append, ha, Bool.true_and]
  simp [hp]
theorem all_no {α : Type} {p : α → Bool} {S : List α} {i : Nat} (h : i < S.length) (hp : p S[i] = false) : S.all p = false := by
  rw [List.all_eq_false]
  exact ⟨S[i], List.getElem_mem h, by simp [hp]⟩
set_option maxHeartbeats 1600000 in
set_option maxRecDepth 100000 in
theorem l07Times_any (lo hi : Nat) (g : Int) (nm : ByteArray) (t b nx : Int) (ma : Option Addr) (mn mc : Nat) (gv : Value) (L : List M4) (tm : Int) (w : World) (hl : L.length = mn) (hn : mn ≤ 1048576) (hsm : Sm L) (hm : Ms lo hi w ma L) :
    Calls Tryz.prog 116 #[.agg #[.int .i64 g, .string nm, .int .i64 t, .int .i64 b, .int .i64 nx, .slice ma mn mc, gv], .int .i64 tm] w fun e w' => e = .returned (.bool (tmOk tm t L)) ∧ Below w.heap.size w w' := by
  obtain ⟨W0, hW0⟩ : ∃ W0, w.alloc (.cells #[.int .i64 g, .string nm, .int .i64 t, .int .i64 b, .int .i64 nx, .slice ma mn mc, gv] 77) = W0 := ⟨_, rfl⟩
  have a0 : Bx W0 w.heap.size 77 g nm t b nx (.slice ma mn mc) gv := by subst hW0; exact Bx.new w _ g nm t b nx _ _
  have b0 : Below w.heap.size w W0 := by subst hW0; exact bpush (bre _) _
  have c0 := a0.cells
  have HR := hid (hm.later b0)
  have B0 := hid b0
  have HL := hid hl
  have HSM := hid hsm
  clear a0 b0 hm hl hsm
  by_cases ht : tm < t
  · have HE : Hid (tmOk tm t L = false) := by show _ = _; rw [tmOk, show decide (t ≤ tm) = false from by simp; omega]; rfl
    go_enter Tryz.func116, Tryz.ntmps116
    go_wp2
    go_ret
    exact ⟨by rw [HE.out]; rfl, B0.out⟩
  have HT : Hid (decide (t ≤ tm) = true) := by show _ = _; simp; omega
  go_enter Tryz.func116, Tryz.ntmps116
  go_wp2
  clear hW0
  go_loopw [5] (fun iv wr => ∃ (i : Nat), i ≤ mn ∧ iv = .int .i64 (i : Int) ∧ Hid ((L.take i).all (fun m => tmF tm m.2.2.1) = true) ∧ wr = W0) (fun iv _ => mn - (intOf iv).toNat)
  case atStart => exact ⟨0, Nat.zero_le _, rfl, rfl, rfl⟩
  case round =>
    obtain ⟨i, hi, rfl, HQ, hw⟩ := hrel
    subst hw
    by_cases hlt : i < mn
    · have hil : i < L.length := by rw [HL.out]; exact hlt
      obtain ⟨k, o, fa, fc, rfl, hk, c, hrs, _⟩ := HR.out.at hil
      have hmem := HSM.out L[i] (List.getElem_mem hil)
      obtain ⟨l, hlq⟩ : ∃ l, L[i].2.2.1 = l := ⟨_, rfl⟩
      rw [hlq] at c hrs hmem
      obtain ⟨m, hm⟩ : ∃ m, l.length = m := ⟨_, rfl⟩
      rw [hm] at c hmem
      have hml : m ≤ 1048576 := hmem.1
      have HLQ := hid hlq
      have HM := hid hm
      have HRS := hid hrs
      have c2 := c.2.2.1
      have hI : (0 : Int) ≤ (i : Int) ∧ (i : Int) < (mn : Int) := by omega
      clear hlq hm hrs hmem c
      go_wp2
      go_loopw [6] (fun jv wr2 => ∃ (j : Nat), j ≤ m ∧ jv = .int .i64 (j : Int) ∧ Hid (tmF tm (l.take j) = true) ∧ wr2 = wr) (fun jv _ => m - (intOf jv).toNat)
      case atStart => exact ⟨0, Nat.zero_le _, rfl, rfl, rfl⟩
      case round =>
        obtain ⟨j, hj, rfl, HQ2, hw2⟩ := hrel
        subst hw2
        by_cases hjt : j < m
        · have hjl : j < l.length := by rw [HM.out]; exact hjt
          obtain ⟨kf, of, rfl, hkf, hrow⟩ := HRS.out (by omega)
          have e := (hrow j hjl).2.1
          obtain ⟨z, hz⟩ : ∃ z, l[j].2.1 = z := ⟨_, rfl⟩
          rw [hz] at e
          have hJ : (0 : Int) ≤ (j : Int) ∧ (j : Int) < (m : Int) := by omega
          by_cases hzt : tm < z
          · have HE : Hid (tmOk tm t L = false) := by
              show _ = _
              have h1 : tmF tm l = false := all_no hjl (by rw [hz]; simp; omega)
              rw [tmOk, all_no hil (by rw [HLQ.out]; exact h1), Bool.and_false]
            clear hz hrow
            go_wp2
            go_ret
            exact ⟨by rw [HE.out]; rfl, B0.out⟩
          · have HE : Hid (tmF tm (l.take (j + 1)) = true) := all_next hjl HQ2.out (by rw [hz]; simp; omega)
            clear hz hrow
            go_wp2
            go_roundw
            case rel => exact ⟨j + 1, by omega, by go_num, HE, by first | rfl | trivial⟩
            case measure => simp [intOf]; omega
        · have HE : Hid ((L.take (i + 1)).all (fun m => tmF tm m.2.2.1) = true) := by
            have h1 := HQ2.out
            rw [List.take_of_length_le (by rw [HM.out]; omega)] at h1
            exact all_next hil HQ.out (by rw [HLQ.out]; exact h1)
          go_wp2
          go_roundw
          case rel => exact ⟨i + 1, by omega, by go_num, HE, by first | rfl | trivial⟩
          case measure => simp [intOf]; omega
    · have HE : Hid (tmOk tm t L = true) := by
        show _ = _
        have h1 := HQ.out
        rw [List.take_of_length_le (by rw [HL.out]; omega)] at h1
        rw [tmOk, HT.out, h1]
        rfl
      go_wp2
      go_ret
      exact ⟨by rw [HE.out]; rfl, B0.out⟩
end Go.Proofs.YtlhofbnnonljaaaGreatDoor
