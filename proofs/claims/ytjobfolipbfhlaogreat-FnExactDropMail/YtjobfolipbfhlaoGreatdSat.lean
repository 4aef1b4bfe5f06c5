/- Sat. -/

import Derived.Test.YtjobfolipbfhlaoGreatdStb
namespace Go.Proofs.YtjobfolipbfhlaoGreat
open Go.RowKit Go.ChangeMaps

/-- The place of the first that is so; -1 without one. -/
def fidx {α : Type} (p : α → Bool) : List α → Nat → Int
  | [], _ => -1
  | x :: S, i => if p x = true then (i : Int) else fidx p S (i + 1)
theorem fidx_here {α : Type} {p : α → Bool} {S : List α} {i : Nat} (h : i < S.length) (e : p S[i] = true) : fidx p (S.drop i) i = i := by
  rw [List.drop_eq_getElem_cons h, fidx, if_pos e]
theorem fidx_on {α : Type} {p : α → Bool} {S : List α} {i : Nat} (h : i < S.length) (e : p S[i] = false) : fidx p (S.drop i) i = fidx p (S.drop (i + 1)) (i + 1) := by
  rw [List.drop_eq_getElem_cons h, fidx, if_neg (by rw [e]; decide)]
/-- Boxes of which nothing is too great. -/
def Sb (S : List X7) : Prop := ∀ x ∈ S, x.2.1.size ≤ 1048576 ∧ x.2.2.2.2.2.1.length ≤ 1048576 ∧ Sm x.2.2.2.2.2.1 ∧ x.2.2.2.2.2.2.length ≤ 1048576
def isG (g : Int) (x : X7) : Bool := decide (x.1 = g)
def isN (n : ByteArray) (x : X7) : Bool := decide (x.2.1 = n)

set_option maxHeartbeats 800000 in
set_option maxRecDepth 100000 in
theorem specBoxAt_any (lo hi : Nat) (y tm : Int) (ba : Option Addr) (bn bc : Nat) (gv : Value) (S : List X7) (x : Int) (w : World) (hl : S.length = bn) (hn : bn ≤ 1048576) (hm : Bs lo hi w ba S) :
    Calls Tryz.prog 26 #[.agg #[.int .i64 y, .int .i64 tm, .slice ba bn bc, gv], .int .i64 x] w fun e w' => e = .returned (.int .i64 (fidx (isG x) S 0)) ∧ Below w.heap.size w w' := by
  obtain ⟨W0, hW0⟩ : ∃ W0, w.alloc (.cells #[.int .i64 y, .int .i64 tm, .slice ba bn bc, gv] 29) = W0 := ⟨_, rfl⟩
  have a0 : Sx W0 w.heap.size 29 y tm (.slice ba bn bc) gv := by subst hW0; exact Sx.new w _ y tm _ _
  have b0 : Below w.heap.size w W0 := by subst hW0; exact bpush (bre _) _
  have c0 := a0.cells
  have HR := hid (hm.later b0)
  have B0 := hid b0
  have HL := hid hl
  clear a0 b0 hm hl
  go_enter Tryz.func26, Tryz.ntmps26
  go_wp2
  clear hW0
  go_loopw [5] (fun iv wr => ∃ (i : Nat), i ≤ bn ∧ iv = .int .i64 (i : Int) ∧ Hid (fidx (isG x) S 0 = fidx (isG x) (S.drop i) i) ∧ wr = W0) (fun iv _ => bn - (intOf iv).toNat)
  case atStart => exact ⟨0, Nat.zero_le _, rfl, rfl, rfl⟩
  case round =>
    obtain ⟨i, hi, rfl, HQ, hw⟩ := hrel
    subst hw
    by_cases hlt : i < bn
    · have hil : i < S.length := by rw [HL.out]; exact hlt
      obtain ⟨k, o, ma, mc, ga, gc, rfl, hk, c, _⟩ := HR.out.at hil
      obtain ⟨z, hz⟩ : ∃ z, S[i].1 = z := ⟨_, rfl⟩
      have c := c.1
      rw [hz] at c
      have hI : (0 : Int) ≤ (i : Int) ∧ (i : Int) < (bn : Int) := by omega
      by_cases hxy : z = x
      · have HE : Hid (fidx (isG x) S 0 = i) := by show _ = _; rw [HQ.out, fidx_here hil (by unfold isG; rw [hz, hxy]; simp)]
        subst hxy
        clear hz
        go_wp2
        go_ret
        exact ⟨by rw [HE.out]; rfl, B0.out⟩
      · have HE : Hid (fidx (isG x) S 0 = fidx (isG x) (S.drop (i + 1)) (i + 1)) := by show _ = _; rw [HQ.out, fidx_on hil (by unfold isG; rw [hz]; simp [hxy])]
        have hxy' : (z == x) = false := by simp [hxy]
        clear hz hxy
        go_wp2
        go_roundw
        case rel => exact ⟨i + 1, by omega, by go_num, HE, by first | rfl | trivial⟩
        case measure => simp [intOf]; omega
    · have HE : Hid (fidx (isG x) S 0 = -1) := by show _ = _; rw [HQ.out, List.drop_of_length_le (by rw [HL.out]; omega)]; rfl
      go_wp2
      go_ret
      exact ⟨by rw [HE.out]; rfl, B0.out⟩

set_option maxHeartbeats 800000 in
set_option maxRecDepth 100000 in
theorem specBoxNamed_any (lo hi : Nat) (y tm : Int) (ba : Option Addr) (bn bc : Nat) (gv : Value) (S : List X7) (x : ByteArray) (w : World) (hl : S.length = bn) (hn : bn ≤ 1048576) (hm : Bs lo hi w ba S) :
    Calls Tryz.prog 28 #[.agg #[.int .i64 y, .int .i64 tm, .slice ba bn bc, gv], .string x] w fun e w' => e = .returned (.int .i64 (fidx (isN x) S 0)) ∧ Below w.heap.size w w' := by
  obtain ⟨W0, hW0⟩ : ∃ W0, w.alloc (.cells #[.int .i64 y, .int .i64 tm, .slice ba bn bc, gv] 29) = W0 := ⟨_, rfl⟩
  have a0 : Sx W0 w.heap.size 29 y tm (.slice ba bn bc) gv := by subst hW0; exact Sx.new w _ y tm _ _
  have b0 : Below w.heap.size w W0 := by subst hW0; exact bpush (bre _) _
  have c0 := a0.cells
  have HR := hid (hm.later b0)
  have B0 := hid b0
  have HL := hid hl
  clear a0 b0 hm hl
  go_enter Tryz.func28, Tryz.ntmps28
  go_wp2
  clear hW0
  go_loopw [5] (fun iv wr => ∃ (i : Nat), i ≤ bn ∧ iv = .int .i64 (i : Int) ∧ Hid (fidx (isN x) S 0 = fidx (isN x) (S.drop i) i) ∧ wr = W0) (fun iv _ => bn - (intOf iv).toNat)
  case atStart => exact ⟨0, Nat.zero_le _, rfl, rfl, rfl⟩
  case round =>
    obtain ⟨i, hi, rfl, HQ, hw⟩ := hrel
    subst hw
    by_cases hlt : i < bn
    · have hil : i < S.length := by rw [HL.out]; exact hlt
      obtain ⟨k, o, ma, mc, ga, gc, rfl, hk, c, _⟩ := HR.out.at hil
      obtain ⟨z, hz⟩ : ∃ z, S[i].2.1 = z := ⟨_, rfl⟩
      have c := c.2.1
      rw [hz] at c
      have hI : (0 : Int) ≤ (i : Int) ∧ (i : Int) < (bn : Int) := by omega
      by_cases hxy : z = x
      · have HE : Hid (fidx (isN x) S 0 = i) := by show _ = _; rw [HQ.out, fidx_here hil (by unfold isN; rw [hz, hxy]; simp)]
        subst hxy
        clear hz
        go_wp2
        go_ret
        exact ⟨by rw [HE.out]; rfl, B0.out⟩
      · have HE : Hid (fidx (isN x) S 0 = fidx (isN x) (S.drop (i + 1)) (i + 1)) := by show _ = _; rw [HQ.out, fidx_on hil (by unfold isN; rw [hz]; simp [hxy])]
        have hxy' : (z.toList == x.toList) = false := bytes_ne hxy
        clear hz hxy
        go_wp2
        go_roundw
        case rel => exact ⟨i + 1, by omega, by go_num, HE, by first | rfl | trivial⟩
        case measure => simp [intOf]; omega
    · have HE : Hid (fidx (isN x) S 0 = -1) := by show _ = _; rw [HQ.out, List.drop_of_length_le (by rw [HL.out]; omega)]; rfl
      go_wp2
      go_ret
      exact ⟨by rw [HE.out]; rfl, B0.out⟩

end Go.Proofs.YtjobfolipbfhlaoGreat

