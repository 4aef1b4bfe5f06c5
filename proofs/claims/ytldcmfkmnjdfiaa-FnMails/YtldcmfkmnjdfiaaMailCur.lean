/- The model's cursor: a text, a place, and whether it was not of its form. -/
import Derived.Test.YtldcmfkmnjdfiaaMailRd
namespace Go.Proofs.Ytldcmfkmnjdfiaa
open Go.RowKit

/-- Block k holds a cursor. -/
def Cg (W : World) (k : Nat) (s : ByteArray) (b : Int) (bad : Bool) : Prop := W.heap[k]? = some (.cells #[.string s, .int .i64 b, .bool bad] 59 (0, 0))
theorem Cg.lt {W : World} {k : Nat} {s : ByteArray} {b : Int} {bad : Bool} (h : Cg W k s b bad) : k < W.heap.size := (Array.getElem?_eq_some_iff.1 h).1
theorem Cg.later {W W' : World} {k : Nat} {s : ByteArray} {b : Int} {bad : Bool} (h : Cg W k s b bad) (hb : Below W.heap.size W W') : Cg W' k s b bad := (hb.block k h.lt).trans h
theorem Cg.cells {W : World} {k : Nat} {s : ByteArray} {b : Int} {bad : Bool} (h : Cg W k s b bad) : W.cell? ⟨k, 0, none⟩ = some (.string s) ∧ W.cell? ⟨k, 1, none⟩ = some (.int .i64 b) ∧ W.cell? ⟨k, 2, none⟩ = some (.bool bad) :=
  ⟨cell_of_row W k 0 _ _ _ h, cell_of_row W k 1 _ _ _ h, cell_of_row W k 2 _ _ _ h⟩
theorem Cg.loose {W : World} {k : Nat} {s : ByteArray} {b : Int} {bad : Bool} (h : Cg W k s b bad) : W.frozen? ⟨k, 0, none⟩ = false ∧ W.frozen? ⟨k, 1, none⟩ = false ∧ W.frozen? ⟨k, 2, none⟩ = false :=
  ⟨frozen_of_row W k 0 _ _ h, frozen_of_row W k 1 _ _ h, frozen_of_row W k 2 _ _ h⟩
theorem Cg.s1 {W : World} {k : Nat} {s : ByteArray} {b : Int} {bad : Bool} (h : Cg W k s b bad) (b' : Int) : Cg (W.setCell ⟨k, 1, none⟩ (.int .i64 b')) k s b' bad := heap_setCell_same W k 1 _ _ (.int .i64 b') h
theorem Cg.s2 {W : World} {k : Nat} {s : ByteArray} {b : Int} {bad : Bool} (h : Cg W k s b bad) (bad' : Bool) : Cg (W.setCell ⟨k, 2, none⟩ (.bool bad')) k s b bad' := heap_setCell_same W k 2 _ _ (.bool bad') h
/-- What a cursor comes to when a number is read: the number, the place, and whether it is bad. -/
def nxt (s : ByteArray) (b : Int) (bad : Bool) (n b' : Int) (bad' : Bool) : Prop :=
  (bad = false ∧ bad' = false ∧ rd s b = some (n, b')) ∨ (bad' = true ∧ n = 0 ∧ b' = b ∧ (bad = true ∨ rd s b = none))
def nxtS (s : ByteArray) (b : Int) (bad : Bool) (t : ByteArray) (b' : Int) (bad' : Bool) : Prop :=
  (bad = false ∧ bad' = false ∧ rsh s b = some (t, b')) ∨ (bad' = true ∧ t = ⟨#[]⟩ ∧ b' = b ∧ (bad = true ∨ rsh s b = none))

/-- How a call ends that reads a number, a text, by the cursor at block k. -/
def Var1 (w : World) (k : Nat) (s : ByteArray) (b : Int) (bad : Bool) (e : Ending) (w' : World) : Prop := ∃ n b' bad', e = .returned (.int .i64 n) ∧ Cg w' k s b' bad' ∧ nxt s b bad n b' bad' ∧ w.grownBy w' (some k)
def Short1 (w : World) (k : Nat) (s : ByteArray) (b : Int) (bad : Bool) (e : Ending) (w' : World) : Prop := ∃ t b' bad', e = .returned (.string t) ∧ Cg w' k s b' bad' ∧ nxtS s b bad t b' bad' ∧ w.grownBy w' (some k)

theorem rd_l (s : ByteArray) (b : Int) (hs : s.size ≤ 1048576) : ∃ (n c : Int) (ok : Bool), Hid ((ok = true ∧ rd s b = some (n, c)) ∨ (ok = false ∧ rd s b = none)) ∧ Hid (∀ w, Calls Try.prog 60 #[.string s, .int .i64 b] w fun e w' => e = .returned (.tuple #[.int .i64 n, .int .i64 c, .bool ok]) ∧ Below w.heap.size w w') := by
  have h := specRd s b (hs := hs)
  unfold rdT at h
  cases hr : rd s b with
  | none => rw [hr] at h; exact ⟨0, 0, false, Or.inr ⟨rfl, rfl⟩, h⟩
  | some p => rw [hr] at h; exact ⟨p.1, p.2, true, Or.inl ⟨rfl, rfl⟩, h⟩
theorem rsh_l (s : ByteArray) (b : Int) (hs : s.size ≤ 1048576) : ∃ (t : ByteArray) (c : Int) (ok : Bool), Hid ((ok = true ∧ rsh s b = some (t, c)) ∨ (ok = false ∧ rsh s b = none)) ∧ Hid (∀ w, Calls Try.prog 61 #[.string s, .int .i64 b] w fun e w' => e = .returned (.tuple #[.string t, .int .i64 c, .bool ok]) ∧ Below w.heap.size w w') := by
  have h := specRsh s b (hs := hs)
  unfold rshT at h
  cases hr : rsh s b with
  | none => rw [hr] at h; exact ⟨⟨#[]⟩, 0, false, Or.inr ⟨rfl, rfl⟩, h⟩
  | some p => rw [hr] at h; exact ⟨p.1, p.2, true, Or.inl ⟨rfl, rfl⟩, h⟩

set_option maxHeartbeats 800000 in
set_option maxRecDepth 100000 in
theorem l05Var_any (k : Nat) (s : ByteArray) (b : Int) (bad : Bool) (w : World) (hs : s.size ≤ 1048576) (hc : Cg w k s b bad) :
    Calls Try.prog 31 #[.pointer (some ⟨k, 0, none⟩)] w fun e w' => Var1 w k s b bad e w' := by
  obtain ⟨n, c, ok, hr, cr⟩ := rd_l s b hs
  have HC := hid hc
  clear hc hs
  have HS : Hid (∀ W, Below w.heap.size w W → (W.cell? ⟨k, 0, none⟩ = some (.string s) ∧ W.cell? ⟨k, 1, none⟩ = some (.int .i64 b) ∧ W.cell? ⟨k, 2, none⟩ = some (.bool bad))) := fun W h => (HC.out.later h).cells
  go_enter Try.func31, Try.ntmps31
  go_wp2_with fail
  go_region_held3 (fun W => (W.cell? ⟨k, 0, none⟩ = some (.string s) ∧ W.cell? ⟨k, 1, none⟩ = some (.int .i64 b) ∧ W.cell? ⟨k, 2, none⟩ = some (.bool bad)))
    ((refine HS.out _ ?_; repeat (first | exact bdr (bre _) | refine btr ?_ (by assumption))))
    ((go_at_call 60; refine (cr.out _).mono ?_; rintro e w1 ⟨rfl, hb1⟩))
  have B1 : Hid (Below w.heap.size w w1) := by show Below _ _ _; repeat (first | exact bdr (bre _) | refine btr ?_ (by assumption))
  have K1 := hid (HC.out.later B1.out)
  have d := K1.out.cells
  have f := K1.out.loose
  clear hb1 HS
  cases bad
  · cases ok
    · go_wp2
      go_ret
      exact ⟨0, b, true, rfl, K1.out.s2 true, Or.inr ⟨rfl, rfl, rfl, Or.inr (by rcases hr.out with ⟨h, _⟩ | ⟨_, h⟩; (cases h); exact h)⟩, wst (grown_below B1.out _) 2 _⟩
    · go_wp2
      go_ret
      exact ⟨n, c, false, rfl, K1.out.s1 c, Or.inl ⟨rfl, rfl, (by rcases hr.out with ⟨_, h⟩ | ⟨h, _⟩; (exact h); cases h)⟩, wst (grown_below B1.out _) 1 _⟩
  · go_wp2
    go_ret
    exact ⟨0, b, true, rfl, K1.out.s2 true, Or.inr ⟨rfl, rfl, rfl, Or.inl rfl⟩, wst (grown_below B1.out _) 2 _⟩

set_option maxHeartbeats 800000 in
set_option maxRecDepth 100000 in
theorem l05Short_any (k : Nat) (s : ByteArray) (b : Int) (bad : Bool) (w : World) (hs : s.size ≤ 1048576) (hc : Cg w k s b bad) :
    Calls Try.prog 32 #[.pointer (some ⟨k, 0, none⟩)] w fun e w' => Short1 w k s b bad e w' := by
  obtain ⟨t, c, ok, hr, cr⟩ := rsh_l s b hs
  have HC := hid hc
  clear hc hs
  have HS : Hid (∀ W, Below w.heap.size w W → (W.cell? ⟨k, 0, none⟩ = some (.string s) ∧ W.cell? ⟨k, 1, none⟩ = some (.int .i64 b) ∧ W.cell? ⟨k, 2, none⟩ = some (.bool bad))) := fun W h => (HC.out.later h).cells
  go_enter Try.func32, Try.ntmps32
  go_wp2_with fail
  go_region_held3 (fun W => (W.cell? ⟨k, 0, none⟩ = some (.string s) ∧ W.cell? ⟨k, 1, none⟩ = some (.int .i64 b) ∧ W.cell? ⟨k, 2, none⟩ = some (.bool bad)))
    ((refine HS.out _ ?_; repeat (first | exact bdr (bre _) | refine btr ?_ (by assumption))))
    ((go_at_call 61; refine (cr.out _).mono ?_; rintro e w1 ⟨rfl, hb1⟩))
  have B1 : Hid (Below w.heap.size w w1) := by show Below _ _ _; repeat (first | exact bdr (bre _) | refine btr ?_ (by assumption))
  have K1 := hid (HC.out.later B1.out)
  have d := K1.out.cells
  have f := K1.out.loose
  clear hb1 HS
  cases bad
  · cases ok
    · go_wp2
      go_ret
      exact ⟨⟨#[]⟩, b, true, rfl, K1.out.s2 true, Or.inr ⟨rfl, rfl, rfl, Or.inr (by rcases hr.out with ⟨h, _⟩ | ⟨_, h⟩; (cases h); exact h)⟩, wst (grown_below B1.out _) 2 _⟩
    · go_wp2
      go_ret
      exact ⟨t, c, false, rfl, K1.out.s1 c, Or.inl ⟨rfl, rfl, (by rcases hr.out with ⟨_, h⟩ | ⟨h, _⟩; (exact h); cases h)⟩, wst (grown_below B1.out _) 1 _⟩
  · go_wp2
    go_ret
    exact ⟨⟨#[]⟩, b, true, rfl, K1.out.s2 true, Or.inr ⟨rfl, rfl, rfl, Or.inl rfl⟩, wst (grown_below B1.out _) 2 _⟩
end Go.Proofs.Ytldcmfkmnjdfiaa
