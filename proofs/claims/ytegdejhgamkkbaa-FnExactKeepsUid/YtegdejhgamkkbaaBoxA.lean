/- Lists of numbers that ascend; whether a number is among them; where a mail is. -/
import Derived.Test.YtegdejhgamkkbaaBoxB
namespace Go.Proofs.Ytegdejhgamkkbaa
open Go.RowKit

/-! Ascending numbers. -/
def asc (a : Int) : List Int → Bool
  | [] => true
  | x :: l => (decide (a < x) && gok x) && asc x l
def lst (a : Int) : List Int → Int
  | [] => a
  | x :: l => lst x l
theorem asc_app (a : Int) (l m : List Int) : asc a (l ++ m) = (asc a l && asc (lst a l) m) := by
  induction l generalizing a with
  | nil => simp [asc, lst]
  | cons x l ih => simp only [List.cons_append, asc, lst, ih, Bool.and_assoc]
theorem asc_take {G : List Int} {i : Nat} (h : i < G.length) : asc 0 (G.take (i + 1)) = (asc 0 (G.take i) && (decide (lst 0 (G.take i) < G[i]) && gok G[i])) := by
  rw [List.take_succ_eq_append_getElem h, asc_app]; simp [asc]
theorem lst_take {G : List Int} {i : Nat} (h : i < G.length) : lst 0 (G.take (i + 1)) = G[i] := by
  rw [List.take_succ_eq_append_getElem h]
  generalize G.take i = l
  generalize (0 : Int) = a
  induction l generalizing a with
  | nil => rfl
  | cons x l ih => exact ih x
theorem asc_bad {G : List Int} {i : Nat} (h : i < G.length) (hb : (decide (lst 0 (G.take i) < G[i]) && gok G[i]) = false) : asc 0 G = false := by
  have e : asc 0 G = asc 0 (G.take (i + 1) ++ G.drop (i + 1)) := by rw [List.take_append_drop]
  rw [e, asc_app, asc_take h, hb, Bool.and_false, Bool.false_and]
def gnOk (G : List Int) : Bool := asc 0 G && decide ((G.length : Int) ≤ 40)
theorem gnOk_bad {G : List Int} (h : asc 0 G = false) : gnOk G = false := by rw [gnOk, h]; rfl
theorem gnOk_fin {G : List Int} (h : asc 0 G = true) : gnOk G = decide ((G.length : Int) ≤ 40) := by rw [gnOk, h]; rfl
theorem gok_pos {x : Int} (h : gok x = true) : 0 < x := by simp [gok] at h; omega

/-! Among them. -/
def idx (x : Int) : List Int → Nat → Int
  | [], _ => -1
  | y :: l, i => if y = x then (i : Int) else idx x l (i + 1)
def inl (x : Int) : List Int → Bool
  | [] => false
  | y :: l => decide (y = x) || inl x l
theorem idx_inl (x : Int) (l : List Int) (i : Nat) : decide (0 ≤ idx x l i) = inl x l := by
  induction l generalizing i with
  | nil => simp [idx, inl]
  | cons y l ih =>
    by_cases h : y = x
    · simp only [idx, inl, h, if_true, decide_true, Bool.true_or]
      simp
    · simp only [idx, inl, h, if_false, decide_false, Bool.false_or]
      exact ih _
theorem idx_here {x : Int} {G : List Int} {i : Nat} (h : i < G.length) (e : G[i] = x) : idx x (G.drop i) i = i := by
  rw [List.drop_eq_getElem_cons h, idx, if_pos e]
theorem idx_on {x : Int} {G : List Int} {i : Nat} (h : i < G.length) (e : ¬ G[i] = x) : idx x (G.drop i) i = idx x (G.drop (i + 1)) (i + 1) := by
  rw [List.drop_eq_getElem_cons h, idx, if_neg e]

set_option maxHeartbeats 800000 in
set_option maxRecDepth 100000 in
theorem l06In_any (lo hi : Nat) (ao : Option Addr) (n cap : Nat) (G : List Int) (x : Int) (w : World) (hl : G.length = n) (hn : n ≤ 1048576) (hr : Is lo hi w ao G) :
    Calls Try.prog 19 #[.slice ao n cap, .int .i64 x] w fun e w' => e = .returned (.bool (inl x G)) ∧ w' = w := by
  have HR := hid hr
  have HL := hid hl
  have HI := hid (idx_inl x G 0)
  clear hr hl
  go_enter Try.func19, Try.ntmps19
  go_wp2
  go_loopw [5] (fun iv wr => ∃ (i : Nat), i ≤ n ∧ iv = .int .i64 (i : Int) ∧ Hid (idx x G 0 = idx x (G.drop i) i) ∧ wr = w) (fun iv _ => n - (intOf iv).toNat)
  case atStart => exact ⟨0, Nat.zero_le _, rfl, rfl, rfl⟩
  case round =>
    obtain ⟨i, hi, rfl, HQ, hw⟩ := hrel
    subst hw
    by_cases hlt : i < n
    · have hil : i < G.length := by rw [HL.out]; exact hlt
      obtain ⟨k, o, rfl, hk, c⟩ := HR.out.at hil
      obtain ⟨y, hy⟩ : ∃ y, G[i] = y := ⟨_, rfl⟩
      rw [hy] at c
      have hI : (0 : Int) ≤ (i : Int) ∧ (i : Int) < (n : Int) := by omega
      by_cases hxy : y = x
      · have HE : Hid (inl x G = true) := by show _ = _; rw [← HI.out, HQ.out, idx_here hil (by rw [hy, hxy])]; simp
        subst hxy
        clear hy
        go_wp2
        go_ret
        exact ⟨by rw [HE.out]; rfl, rfl⟩
      · have HE : Hid (idx x G 0 = idx x (G.drop (i + 1)) (i + 1)) := by show _ = _; rw [HQ.out, idx_on hil (by rw [hy]; exact hxy)]
        have hxy' : (y == x) = false := by simp [hxy]
        clear hy
        go_wp2
        go_roundw
        case rel => exact ⟨i + 1, by omega, by go_num, HE, by first | rfl | trivial⟩
        case measure => simp [intOf]; omega
    · have HE : Hid (inl x G = false) := by show _ = _; rw [← HI.out, HQ.out, List.drop_of_length_le (by rw [HL.out]; omega)]; rfl
      go_wp2
      go_ret
      exact ⟨by rw [HE.out]; rfl, rfl⟩

/-! Where a mail is. -/
def mat (g : Int) : List M4 → Nat → Int
  | [], _ => -1
  | m :: L, i => if m.1 = g then (i : Int) else mat g L (i + 1)
theorem mat_here {g : Int} {L : List M4} {i : Nat} (h : i < L.length) (e : L[i].1 = g) : mat g (L.drop i) i = i := by
  rw [List.drop_eq_getElem_cons h, mat, if_pos e]
theorem mat_on {g : Int} {L : List M4} {i : Nat} (h : i < L.length) (e : ¬ L[i].1 = g) : mat g (L.drop i) i = mat g (L.drop (i + 1)) (i + 1) := by
  rw [List.drop_eq_getElem_cons h, mat, if_neg e]

set_option maxHeartbeats 800000 in
set_option maxRecDepth 100000 in
theorem specMailAt_any (lo hi : Nat) (g : Int) (nm : ByteArray) (t b nx : Int) (ma : Option Addr) (mn mc : Nat) (gv : Value) (L : List M4) (x : Int) (w : World) (hl : L.length = mn) (hn : mn ≤ 1048576) (hm : Ms lo hi w ma L) :
    Calls Try.prog 27 #[.agg #[.int .i64 g, .string nm, .int .i64 t, .int .i64 b, .int .i64 nx, .slice ma mn mc, gv], .int .i64 x] w fun e w' => e = .returned (.int .i64 (mat x L 0)) ∧ Below w.heap.size w w' := by
  obtain ⟨W0, hW0⟩ : ∃ W0, w.alloc (.cells #[.int .i64 g, .string nm, .int .i64 t, .int .i64 b, .int .i64 nx, .slice ma mn mc, gv] 37) = W0 := ⟨_, rfl⟩
  have a0 : Bx W0 w.heap.size 37 g nm t b nx (.slice ma mn mc) gv := by subst hW0; exact Bx.new w _ g nm t b nx _ _
  have b0 : Below w.heap.size w W0 := by subst hW0; exact bpush (bre _) _
  have c0 := a0.cells
  have HR := hid (hm.later b0)
  have B0 := hid b0
  have HL := hid hl
  clear a0 b0 hm hl
  go_enter Try.func27, Try.ntmps27
  go_wp2
  clear hW0
  go_loopw [5] (fun iv wr => ∃ (i : Nat), i ≤ mn ∧ iv = .int .i64 (i : Int) ∧ Hid (mat x L 0 = mat x (L.drop i) i) ∧ wr = W0) (fun iv _ => mn - (intOf iv).toNat)
  case atStart => exact ⟨0, Nat.zero_le _, rfl, rfl, rfl⟩
  case round =>
    obtain ⟨i, hi, rfl, HQ, hw⟩ := hrel
    subst hw
    by_cases hlt : i < mn
    · have hil : i < L.length := by rw [HL.out]; exact hlt
      obtain ⟨k, o, fa, fc, rfl, hk, ⟨c, _, _, _⟩, _⟩ := HR.out.at hil
      obtain ⟨y, hy⟩ : ∃ y, L[i].1 = y := ⟨_, rfl⟩
      rw [hy] at c
      have hI : (0 : Int) ≤ (i : Int) ∧ (i : Int) < (mn : Int) := by omega
      by_cases hxy : y = x
      · have HE : Hid (mat x L 0 = i) := by show _ = _; rw [HQ.out, mat_here hil (by rw [hy, hxy])]
        subst hxy
        clear hy
        go_wp2
        go_ret
        exact ⟨by rw [HE.out]; rfl, B0.out⟩
      · have HE : Hid (mat x L 0 = mat x (L.drop (i + 1)) (i + 1)) := by show _ = _; rw [HQ.out, mat_on hil (by rw [hy]; exact hxy)]
        have hxy' : (y == x) = false := by simp [hxy]
        clear hy
        go_wp2
        go_roundw
        case rel => exact ⟨i + 1, by omega, by go_num, HE, by first | rfl | trivial⟩
        case measure => simp [intOf]; omega
    · have HE : Hid (mat x L 0 = -1) := by show _ = _; rw [HQ.out, List.drop_of_length_le (by rw [HL.out]; omega)]; rfl
      go_wp2
      go_ret
      exact ⟨by rw [HE.out]; rfl, B0.out⟩
end Go.Proofs.Ytegdejhgamkkbaa
