/- Whether a box has a mail, and whether a mail keeps its number. -/
import Derived.Test.YtgpnbifdbeenbabGreatTky
namespace Go.Proofs.YtgpnbifdbeenbabGreat
open Go.RowKit

/-- The first mail of a Gid. -/
def fnd (x : Int) : List M4 → Option M4
  | [] => none
  | m :: L => if m.1 = x then some m else fnd x L

theorem mat_fnd (x : Int) : ∀ (L : List M4) (i : Nat), (fnd x L = none ∧ mat x L i = -1) ∨ ∃ (j : Nat) (h : j < L.length), fnd x L = some L[j] ∧ mat x L i = ((i + j : Nat) : Int)
  | [], i => Or.inl ⟨rfl, rfl⟩
  | m :: L, i => by
    by_cases e : m.1 = x
    · exact Or.inr ⟨0, Nat.zero_lt_succ _, by rw [fnd, if_pos e]; rfl, by rw [mat, if_pos e]; rfl⟩
    · rw [fnd, mat, if_neg e, if_neg e]
      rcases mat_fnd x L (i + 1) with h | ⟨j, h, h1, h2⟩
      · exact Or.inl h
      · exact Or.inr ⟨j + 1, Nat.succ_lt_succ h, by rw [h1]; rfl, by rw [h2]; congr 1; omega⟩

/-- Whether it is there. -/
def hol (x : Int) (L : List M4) : Bool := (fnd x L).isSome

/-- Whether it keeps its number. -/
def kpu (A B : List M4) (nb x : Int) : Bool :=
  match fnd x A with
  | none => false
  | some m => match fnd x B with
    | none => decide (nb ≤ m.2.1)
    | some n => m.2.1 == n.2.1

theorem hol_mat (x : Int) (L : List M4) : decide ((0 : Int) ≤ mat x L 0) = hol x L := by
  rcases mat_fnd x L 0 with ⟨h1, h2⟩ | ⟨j, h, h1, h2⟩
  · rw [hol, h1, h2]; rfl
  · rw [hol, h1, h2]; simp

theorem implHolds_any (lo hi : Nat) (g : Int) (nm : ByteArray) (t b nx : Int) (ma : Option Addr) (mn mc : Nat) (gv : Value) (L : List M4) (x : Int) (w : World) (hl : L.length = mn) (hn : mn ≤ 1048576) (hm : Ms lo hi w ma L) :
    Calls Tryz.prog 93 #[.agg #[.int .i64 g, .string nm, .int .i64 t, .int .i64 b, .int .i64 nx, .slice ma mn mc, gv], .int .i64 x] w fun e w' => e = .returned (.bool (hol x L)) ∧ Below w.heap.size w w' := by
  obtain ⟨W0, hW0⟩ : ∃ W0, w.alloc (.cells #[.int .i64 g, .string nm, .int .i64 t, .int .i64 b, .int .i64 nx, .slice ma mn mc, gv] 33) = W0 := ⟨_, rfl⟩
  have a0 : Bx W0 w.heap.size 33 g nm t b nx (.slice ma mn mc) gv := by subst hW0; exact Bx.new w _ g nm t b nx _ _
  have b0 : Below w.heap.size w W0 := by subst hW0; exact bpush (bre _) _
  have c0 := a0.cells
  have HR := hid (hm.later b0)
  have B0 := hid b0
  have HL := hid hl
  clear a0 b0 hm hl
  go_enter Tryz.func93, Tryz.ntmps93
  go_wp2_with fail
  clear hW0
  refine (implMailAt_any lo hi g nm t b nx ma mn mc gv L x _ HL.out hn HR.out).mono ?_; rintro e w1 ⟨rfl, hb1⟩
  have B1 := hid (btr B0.out hb1)
  clear hb1 c0 B0
  rcases mat_fnd x L 0 with ⟨h1, h2⟩ | ⟨j, h, h1, h2⟩
  · rw [h2]
    have E1 : Hid (hol x L = false) := by show _ = _; rw [hol, h1]; rfl
    clear h1 h2
    go_wp2
    go_ret
    exact ⟨by rw [E1.out]; rfl, B1.out⟩
  · rw [h2]
    have E1 : Hid (hol x L = true) := by show _ = _; rw [hol, h1]; rfl
    clear h1 h2 h
    have e0 : ((0 : Int) ≤ ((0 + j : Nat) : Int)) = True := by simp
    go_wp2
    go_ret
    exact ⟨by rw [E1.out]; rfl, B1.out⟩

end Go.Proofs.YtgpnbifdbeenbabGreat
