/- A mail as it lies: four cells. Whether it is right. -/
import Derived.Test.YtfmacodnjhegcamGreatFlagSet
import Derived.Test.YtfmacodnjhegcamGreatFlagCopy
namespace Go.Proofs.YtfmacodnjhegcamGreat
open Go.RowKit

/-- Block k holds a mail. -/
def Mg (W : World) (k ty : Nat) (g u : Int) (f : Value) (t : ByteArray) : Prop := W.heap[k]? = some (.cells #[.int .i64 g, .int .i64 u, f, .string t] ty (0, 0))
theorem Mg.new (w : World) (ty : Nat) (g u : Int) (f : Value) (t : ByteArray) : Mg (w.alloc (.cells #[.int .i64 g, .int .i64 u, f, .string t] ty)) w.heap.size ty g u f t := heap_alloc_new w _
theorem Mg.later {W W' : World} {k ty : Nat} {g u : Int} {f : Value} {t : ByteArray} (h : Mg W k ty g u f t) (hb : Below W.heap.size W W') : Mg W' k ty g u f t := (hb.block k (Array.getElem?_eq_some_iff.1 h).1).trans h
theorem Mg.lt {W : World} {k ty : Nat} {g u : Int} {f : Value} {t : ByteArray} (h : Mg W k ty g u f t) : k < W.heap.size := (Array.getElem?_eq_some_iff.1 h).1
theorem Mg.cells {W : World} {k ty : Nat} {g u : Int} {f : Value} {t : ByteArray} (h : Mg W k ty g u f t) : W.cell? ⟨k, 0, none⟩ = some (.int .i64 g) ∧ W.cell? ⟨k, 1, none⟩ = some (.int .i64 u) ∧ W.cell? ⟨k, 2, none⟩ = some f ∧ W.cell? ⟨k, 3, none⟩ = some (.string t) :=
  ⟨cell_of_row W k 0 _ _ _ h, cell_of_row W k 1 _ _ _ h, cell_of_row W k 2 _ _ _ h, cell_of_row W k 3 _ _ _ h⟩
theorem Mg.loose {W : World} {k ty : Nat} {g u : Int} {f : Value} {t : ByteArray} (h : Mg W k ty g u f t) : W.frozen? ⟨k, 0, none⟩ = false ∧ W.frozen? ⟨k, 1, none⟩ = false ∧ W.frozen? ⟨k, 2, none⟩ = false ∧ W.frozen? ⟨k, 3, none⟩ = false :=
  ⟨frozen_of_row W k 0 _ _ h, frozen_of_row W k 1 _ _ h, frozen_of_row W k 2 _ _ h, frozen_of_row W k 3 _ _ h⟩
theorem Mg.s0 {W : World} {k ty : Nat} {g u : Int} {f : Value} {t : ByteArray} (h : Mg W k ty g u f t) (g' : Int) : Mg (W.setCell ⟨k, 0, none⟩ (.int .i64 g')) k ty g' u f t := heap_setCell_same W k 0 _ _ (.int .i64 g') h
theorem Mg.s1 {W : World} {k ty : Nat} {g u : Int} {f : Value} {t : ByteArray} (h : Mg W k ty g u f t) (u' : Int) : Mg (W.setCell ⟨k, 1, none⟩ (.int .i64 u')) k ty g u' f t := heap_setCell_same W k 1 _ _ (.int .i64 u') h
theorem Mg.s2 {W : World} {k ty : Nat} {g u : Int} {f : Value} {t : ByteArray} (h : Mg W k ty g u f t) (f' : Value) : Mg (W.setCell ⟨k, 2, none⟩ f') k ty g u f' t := heap_setCell_same W k 2 _ _ f' h
theorem Mg.s3 {W : World} {k ty : Nat} {g u : Int} {f : Value} {t : ByteArray} (h : Mg W k ty g u f t) (t' : ByteArray) : Mg (W.setCell ⟨k, 3, none⟩ (.string t')) k ty g u f t' := heap_setCell_same W k 3 _ _ (.string t') h
/-- A store into another block. -/
theorem heap_setCell_far {W : World} {k j i : Nat} {o : Obj} (u : Value) (h : W.heap[k]? = some o) (hk : k ≠ j) : (W.setCell ⟨j, i, none⟩ u).heap[k]? = some o := (Below.heap_setCell _ _ _ _ hk).trans h
theorem Mg.far {W : World} {k j i ty : Nat} {g u : Int} {f : Value} {t : ByteArray} (h : Mg W k ty g u f t) (x : Value) (hk : k ≠ j) : Mg (W.setCell ⟨j, i, none⟩ x) k ty g u f t := heap_setCell_far x h hk

theorem bsk {a w : World} (h : Below a.heap.size a w) {k : Nat} (hk : a.heap.size ≤ k) (i : Nat) (x : Value) : Below a.heap.size a (w.setCell ⟨k, i, none⟩ x) := bset h hk x
theorem Ow.other {W W' : World} {B g n c k : Nat} {l : List R3} (h : Ow W B (.slice (some ⟨g, 0, none⟩) n c) l) (hg : W.grownBy W' (some k)) (hk : g ≠ k) : Ow W' B (.slice (some ⟨g, 0, none⟩) n c) l :=
  World.ownsRow.kept h hg (Or.inr (by simpa [Value.ownBlock] using hk))
theorem Ow.far {W : World} {B g n c j : Nat} {l : List R3} (h : Ow W B (.slice (some ⟨g, 0, none⟩) n c) l) (hk : g ≠ j) (i : Nat) (x : Value) : Ow (W.setCell ⟨j, i, none⟩ x) B (.slice (some ⟨g, 0, none⟩) n c) l :=
  h.other (wst (wre W (some j)) i x) hk

def gok (n : Int) : Bool := decide (1 ≤ n) && decide (n ≤ 9999)
def mlOk (g u : Int) (l : List R3) (t : ByteArray) : Bool := gok g && (gok u && (flOk l && decide ((t.size : Int) ≤ 60)))

theorem gid_l (x : Int) : ∃ p : Bool, Hid (p = gok x) ∧ Hid (∀ w, Calls Tryz.prog 53 #[.int .i64 x] w fun e w' => e = .returned (.bool p) ∧ w' = w) := by
  refine ⟨_, rfl, fun w => ?_⟩
  by_cases h1 : 1 ≤ x
  · by_cases h2 : x ≤ 9999
    · have HE : Hid (gok x = true) := by show _ = _; simp [gok, h1, h2]
      go_enter Tryz.func53, Tryz.ntmps53
      go_wp2
      go_ret
      exact ⟨by rw [HE.out]; rfl, rfl⟩
    · have HE : Hid (gok x = false) := by show _ = _; simp [gok, h2]
      go_enter Tryz.func53, Tryz.ntmps53
      go_wp2
      go_ret
      exact ⟨by rw [HE.out]; rfl, rfl⟩
  · have HE : Hid (gok x = false) := by show _ = _; simp [gok, h1]
    go_enter Tryz.func53, Tryz.ntmps53
    go_wp2
    go_ret
    exact ⟨by rw [HE.out]; rfl, rfl⟩

theorem in_l (x : Int) : ∃ p : Bool, Hid (p = gok x) ∧ Hid (∀ w, Calls Tryz.prog 20 #[.int .i64 x, .int .i64 1, .int .i64 9999] w fun e w' => e = .returned (.bool p) ∧ w' = w) := by
  refine ⟨_, rfl, fun w => ?_⟩
  by_cases h1 : 1 ≤ x ∧ x ≤ 9999
  · have HE : gok x = true := by simp [gok, h1.1, h1.2]
    rw [HE]
    exact (l01In_yes x 1 9999 w h1.1 h1.2).mono fun _ _ h => ⟨h.1, h.2.symm⟩
  · have HE : gok x = false := by simp only [gok, Bool.and_eq_false_iff, decide_eq_false_iff_not]; omega
    rw [HE]
    exact (l01In_no x 1 9999 w (by omega)).mono fun _ _ h => ⟨h.1, h.2.symm⟩

theorem implFlagsOk_l (ao : Option Addr) (n cap : Nat) (l : List R3) (hl : l.length = n) (hn : n ≤ 1048576) : ∃ p : Bool, Hid (p = flOk l) ∧ Hid (∀ w, Rs w ao l → Calls Tryz.prog 61 #[.slice ao n cap] w fun e w' => e = .returned (.bool p) ∧ Below w.heap.size w w') :=
  ⟨_, rfl, fun w h => implFlagsOk_any ao n cap l w hl hn h⟩
theorem specFlagsOk_l (ao : Option Addr) (n cap : Nat) (l : List R3) (hl : l.length = n) (hn : n ≤ 1048576) : ∃ p : Bool, Hid (p = flOk l) ∧ Hid (∀ w, Rs w ao l → Calls Tryz.prog 49 #[.slice ao n cap] w fun e w' => e = .returned (.bool p) ∧ Below w.heap.size w w') :=
  ⟨_, rfl, fun w h => specFlagsOk_any ao n cap l w hl hn h⟩

set_option maxHeartbeats 400000 in
set_option maxRecDepth 100000 in
theorem implMailOk_any (g u : Int) (ao : Option Addr) (n cap : Nat) (l : List R3) (t : ByteArray) (w : World) (hl : l.length = n) (hn : n ≤ 1048576) (hr : Rs w ao l) :
    Calls Tryz.prog 76 #[.agg #[.int .i64 g, .int .i64 u, .slice ao n cap, .string t]] w fun e w' => e = .returned (.bool (mlOk g u l t)) ∧ Below w.heap.size w w' := by
  obtain ⟨p, hp, cp⟩ := gid_l g
  obtain ⟨q, hq, cq⟩ := gid_l u
  obtain ⟨r, hr', cr⟩ := implFlagsOk_l ao n cap l hl hn
  have HS : Hid (mlOk g u l t = (p && (q && (r && decide ((t.size : Int) ≤ 60))))) := by show _ = _; rw [hp.out, hq.out, hr'.out]; rfl
  rw [HS.out]
  have HR := hid hr
  clear hl hn hr
  have A0 := (Mg.new w 51 g u (.slice ao n cap) t).cells
  go_enter Tryz.func76, Tryz.ntmps76
  go_wp2_with fail
  refine (cp.out _).mono ?_; rintro e w1 ⟨rfl, h1⟩
  subst h1
  cases p
  · go_wp2
    go_ret
    exact ⟨rfl, bpush (bre _) _⟩
  go_wp2_with fail
  refine (cq.out _).mono ?_; rintro e w1 ⟨rfl, h1⟩
  subst h1
  cases q
  · go_wp2
    go_ret
    exact ⟨rfl, bpush (bre _) _⟩
  go_wp2_with fail
  refine (cr.out _ (HR.out.later (bpush (bre _) _))).mono ?_; rintro e w1 ⟨rfl, hb1⟩
  have d1 := ((Mg.new w 51 g u (.slice ao n cap) t).later hb1).cells
  have HB1 : Hid (Below w.heap.size w w1) := btr (bpush (bre _) _) hb1
  clear hb1 A0
  cases r
  · go_wp2
    go_ret
    exact ⟨rfl, HB1.out⟩
  go_wp2
  go_ret
  exact ⟨rfl, HB1.out⟩

set_option maxHeartbeats 400000 in
set_option maxRecDepth 100000 in
theorem specMailOk_any (g u : Int) (ao : Option Addr) (n cap : Nat) (l : List R3) (t : ByteArray) (w : World) (hl : l.length = n) (hn : n ≤ 1048576) (hr : Rs w ao l) :
    Calls Tryz.prog 46 #[.agg #[.int .i64 g, .int .i64 u, .slice ao n cap, .string t]] w fun e w' => e = .returned (.bool (mlOk g u l t)) ∧ Below w.heap.size w w' := by
  obtain ⟨p, hp, cp⟩ := in_l g
  obtain ⟨q, hq, cq⟩ := in_l u
  obtain ⟨r, hr', cr⟩ := specFlagsOk_l ao n cap l hl hn
  have HS : Hid (mlOk g u l t = (p && (q && (r && decide ((t.size : Int) ≤ 60))))) := by show _ = _; rw [hp.out, hq.out, hr'.out]; rfl
  rw [HS.out]
  have HR := hid hr
  clear hl hn hr
  have A0 := (Mg.new w 51 g u (.slice ao n cap) t).cells
  go_enter Tryz.func46, Tryz.ntmps46
  go_wp2_with fail
  refine (cp.out _).mono ?_; rintro e w1 ⟨rfl, h1⟩
  subst h1
  cases p
  · go_wp2
    go_ret
    exact ⟨rfl, bpush (bre _) _⟩
  go_wp2_with fail
  refine (cq.out _).mono ?_; rintro e w1 ⟨rfl, h1⟩
  subst h1
  cases q
  · go_wp2
    go_ret
    exact ⟨rfl, bpush (bre _) _⟩
  go_wp2_with fail
  refine (cr.out _ (HR.out.later (bpush (bre _) _))).mono ?_; rintro e w1 ⟨rfl, hb1⟩
  have d1 := ((Mg.new w 51 g u (.slice ao n cap) t).later hb1).cells
  have HB1 : Hid (Below w.heap.size w w1) := btr (bpush (bre _) _) hb1
  clear hb1 A0
  cases r
  · go_wp2
    go_ret
    exact ⟨rfl, HB1.out⟩
  go_wp2
  go_ret
  exact ⟨rfl, HB1.out⟩
end Go.Proofs.YtfmacodnjhegcamGreat
