/- Stamps: which of two is later, and whether one is right. -/
import Derived.Test.YtfmacodnjhegcamGreatClone
import Derived.Test.YtfmacodnjhegcamGreatProg
import Derived.WalkKit
import Derived.WalkSpells
import Derived.WalkLawsBesides
import Derived.Below
import Derived.BigQuiet
import Derived.Deep.QuietTactic
import Derived.Deep.RegionHeld3
namespace Go.Proofs.YtfmacodnjhegcamGreat
open Go.RowKit

/-- A stamp, and a register, as values. -/
abbrev stv (t b : Int) : Value := .agg #[.int .i64 t, .int .i64 b]
abbrev rgv (v t b : Int) : Value := .agg #[.int .i64 v, .int .i64 t, .int .i64 b]

/-- Which of two stamps is later. -/
def later (t b t' b' : Int) : Bool := if t = t' then decide (b' < b) else decide (t' < t)
def stOk (t b : Int) : Bool := decide (0 ≤ t ∧ t ≤ 100000 ∧ 0 ≤ b ∧ b ≤ 2)
def rgOk (v t b : Int) : Bool := stOk t b && decide (0 ≤ v ∧ v ≤ 1000000000)

theorem bpush {a w : World} (h : Below a.heap.size a w) (o : Obj) : Below a.heap.size a (w.alloc o) := h.alloc h.size o
theorem btr {a b c : World} (h : Below a.heap.size a b) (k : Below b.heap.size b c) : Below a.heap.size a c := h.trans (k.mono h.size)
theorem bre (a : World) : Below a.heap.size a a := Below.refl _ _
theorem bdr {a w : World} (h : Below a.heap.size a w) : Below a.heap.size a w.drew := h.drew
theorem bset {a w : World} (h : Below a.heap.size a w) {p : Addr} (hp : a.heap.size ≤ p.block) (u : Value) : Below a.heap.size a (w.setCell p u) := h.setCell hp u


theorem ret_bool {x y : Bool} (h : x = y) : Ending.returned (.bool x) = Ending.returned (.bool y) := by rw [h]

theorem laterThan_any (t b t' b' : Int) (w : World) :
    Calls Tryz.prog 81 #[.agg #[.int .i64 t, .int .i64 b], .agg #[.int .i64 t', .int .i64 b']] w fun e w' => e = .returned (.bool (later t b t' b')) ∧ w' = (w.alloc (.cells #[.int .i64 t, .int .i64 b] 29)).alloc (.cells #[.int .i64 t', .int .i64 b'] 29) := by
  by_cases h : t = t'
  · subst h
    go_enter Tryz.func81, Tryz.ntmps81
    go_wp2
    go_ret
    exact ⟨by simp [later], rfl⟩
  · go_enter Tryz.func81, Tryz.ntmps81
    go_wp2
    go_ret
    exact ⟨by simp [later, h], rfl⟩

theorem specLater_any (t b t' b' : Int) (w : World) :
    Calls Tryz.prog 73 #[.agg #[.int .i64 t, .int .i64 b], .agg #[.int .i64 t', .int .i64 b']] w fun e w' => e = .returned (.bool (later t b t' b')) ∧ w' = (w.alloc (.cells #[.int .i64 t, .int .i64 b] 29)).alloc (.cells #[.int .i64 t', .int .i64 b'] 29) := by
  by_cases h : t = t'
  · subst h
    go_enter Tryz.func73, Tryz.ntmps73
    go_wp2
    go_ret
    exact ⟨by simp [later], rfl⟩
  · go_enter Tryz.func73, Tryz.ntmps73
    go_wp2
    go_ret
    exact ⟨by simp [later, h], rfl⟩

theorem rightStamp_any (t b : Int) (w : World) :
    Calls Tryz.prog 57 #[.agg #[.int .i64 t, .int .i64 b]] w fun e w' => e = .returned (.bool (stOk t b)) ∧ w' = w.alloc (.cells #[.int .i64 t, .int .i64 b] 29) := by
  go_enter Tryz.func57, Tryz.ntmps57
  go_wp2
  all_goals go_ret
  all_goals (refine ⟨ret_bool ?_, rfl⟩)
  all_goals (first | (simp [stOk, *]; done) | (simp [stOk]; omega))

theorem in_any (x lo hi : Int) (w : World) :
    Calls Tryz.prog 20 #[.int .i64 x, .int .i64 lo, .int .i64 hi] w fun e w' => e = .returned (.bool (decide (lo ≤ x ∧ x ≤ hi))) ∧ w' = w := by
  by_cases h : lo ≤ x
  · go_enter Tryz.func20, Tryz.ntmps20
    go_wp2
    go_ret
    exact ⟨ret_bool (by simp [h]), rfl⟩
  · go_enter Tryz.func20, Tryz.ntmps20
    go_wp2
    go_ret
    exact ⟨ret_bool (by simp; omega), rfl⟩

theorem toStamp_any (t b : Int) (w : World) :
    Calls Tryz.prog 8 #[.agg #[.int .i64 t, .int .i64 b]] w fun e w' => e = .returned (.agg #[.int .i64 t, .int .i64 b]) ∧ w' = ((w.alloc (.cells #[.int .i64 t, .int .i64 b] 23)).alloc (.cells #[.int .i64 t, .int .i64 b] 29)).alloc (.cells #[.int .i64 t, .int .i64 b] 29) := by
  go_enter Tryz.func8, Tryz.ntmps8
  go_wp2
  exact bodyPost_ret (v := .agg #[.int .i64 t, .int .i64 b]) (by simp [results, Tryz.results8, go_sem]) rfl ⟨rfl, rfl⟩

theorem registerOf_any (v t b : Int) (w : World) :
    Calls Tryz.prog 94 #[.agg #[.int .i64 v, .int .i64 t, .int .i64 b]] w fun e w' => e = .returned (.agg #[.int .i64 t, .int .i64 b, .int .i64 v]) ∧ w' = (w.alloc (.cells #[.int .i64 v, .int .i64 t, .int .i64 b] 78)).alloc (.cells #[.int .i64 t, .int .i64 b, .int .i64 v] 97) := by
  go_enter Tryz.func94, Tryz.ntmps94
  go_wp2
  exact bodyPost_ret (v := .agg #[.int .i64 t, .int .i64 b, .int .i64 v]) (by simp [results, Tryz.results94, go_sem]) rfl ⟨rfl, rfl⟩

theorem reg_any (v t b : Int) (w : World) :
    Calls Tryz.prog 82 #[.agg #[.int .i64 t, .int .i64 b, .int .i64 v]] w fun e w' => e = .returned (.agg #[.int .i64 v, .int .i64 t, .int .i64 b]) ∧ w' = (w.alloc (.cells #[.int .i64 t, .int .i64 b, .int .i64 v] 97)).alloc (.cells #[.int .i64 v, .int .i64 t, .int .i64 b] 78) := by
  go_enter Tryz.func82, Tryz.ntmps82
  go_wp2
  exact bodyPost_ret (v := .agg #[.int .i64 v, .int .i64 t, .int .i64 b]) (by simp [results, Tryz.results82, go_sem]) rfl ⟨rfl, rfl⟩

theorem eqStamp_any (t b t' b' : Int) (w : World) :
    Calls Tryz.prog 33 #[.agg #[.int .i64 t, .int .i64 b], .agg #[.int .i64 t', .int .i64 b']] w fun e w' => e = .returned (.bool (decide (t = t' ∧ b = b'))) ∧ w' = (w.alloc (.cells #[.int .i64 t, .int .i64 b] 29)).alloc (.cells #[.int .i64 t', .int .i64 b'] 29) := by
  by_cases h : t = t'
  · by_cases k : b = b'
    · subst h k
      go_enter Tryz.func33, Tryz.ntmps33
      go_wp2
      go_ret
      exact ⟨ret_bool (by simp), rfl⟩
    · subst h
      go_enter Tryz.func33, Tryz.ntmps33
      go_wp2
      go_ret
      exact ⟨ret_bool (by simp [k]), rfl⟩
  · go_enter Tryz.func33, Tryz.ntmps33
    go_wp2
    go_ret
    exact ⟨ret_bool (by simp [h]), rfl⟩

theorem right_any (v t b : Int) (w : World) :
    Calls Tryz.prog 80 #[.agg #[.int .i64 t, .int .i64 b, .int .i64 v]] w fun e w' => e = .returned (.bool (rgOk v t b)) ∧ w' = (w.alloc (.cells #[.int .i64 t, .int .i64 b, .int .i64 v] 97)).alloc (.cells #[.int .i64 t, .int .i64 b] 29) := by
  cases hs : stOk t b
  all_goals
    go_enter Tryz.func80, Tryz.ntmps80
    go_wp2_with (first | (go_at_call 57; refine (rightStamp_any t b _).mono ?_; rintro e w1 ⟨rfl, rfl⟩; rw [hs]) | fail)
    all_goals go_ret
    all_goals (refine ⟨ret_bool ?_, rfl⟩)
    all_goals (first | (simp [rgOk, *]; done) | (simp [rgOk, hs]; omega))

def cb (v t b v' t' b' : Int) : Bool := if t = t' ∧ b = b' then decide (v' < v) else later t b t' b'

theorem implStampOk_any (t b : Int) (w : World) :
    Calls Tryz.prog 29 #[.agg #[.int .i64 t, .int .i64 b]] w fun e w' => e = .returned (.bool (stOk t b)) ∧ Below w.heap.size w w' := by
  go_enter Tryz.func29, Tryz.ntmps29
  go_wp2_with (first | (go_at_call 57; refine (rightStamp_any t b _).mono ?_; rintro e w1 ⟨rfl, rfl⟩) | fail)
  go_ret
  exact ⟨rfl, bpush (bpush (bre _) _) _⟩

theorem implRegOk_any (v t b : Int) (w : World) :
    Calls Tryz.prog 79 #[.agg #[.int .i64 v, .int .i64 t, .int .i64 b]] w fun e w' => e = .returned (.bool (rgOk v t b)) ∧ Below w.heap.size w w' := by
  go_enter Tryz.func79, Tryz.ntmps79
  go_wp2_with (first | (go_at_call 94; refine (registerOf_any v t b _).mono ?_; rintro e w1 ⟨rfl, rfl⟩) | (go_at_call 80; refine (right_any v t b _).mono ?_; rintro e w1 ⟨rfl, rfl⟩) | fail)
  go_ret
  exact ⟨rfl, bpush (bpush (bpush (bpush (bpush (bre _) _) _) _) _) _⟩

theorem in_letter (x lo hi : Int) : ∃ p : Bool, Hid (p = decide (lo ≤ x ∧ x ≤ hi)) ∧ Hid (∀ w, Calls Tryz.prog 20 #[.int .i64 x, .int .i64 lo, .int .i64 hi] w fun e w' => e = .returned (.bool p) ∧ w' = w) := ⟨_, rfl, in_any x lo hi⟩

theorem specStampOk_any (t b : Int) (w : World) :
    Calls Tryz.prog 21 #[.agg #[.int .i64 t, .int .i64 b]] w fun e w' => e = .returned (.bool (stOk t b)) ∧ w' = w.alloc (.cells #[.int .i64 t, .int .i64 b] 29) := by
  obtain ⟨p, hp, cp⟩ := in_letter t 0 100000
  obtain ⟨q, hq, cq⟩ := in_letter b 0 2
  have hs : Hid (stOk t b = (p && q)) := by
    show _ = _
    rw [hp.out, hq.out]; by_cases h : 0 ≤ t <;> by_cases k : t ≤ 100000 <;> simp [stOk, h, k]
  rw [hs.out]
  cases p
  · go_enter Tryz.func21, Tryz.ntmps21
    go_wp2_with fail
    refine (cp.out _).mono ?_; rintro e w1 ⟨rfl, rfl⟩
    go_wp2_with fail
    go_ret
    exact ⟨rfl, rfl⟩
  · go_enter Tryz.func21, Tryz.ntmps21
    go_wp2_with fail
    refine (cp.out _).mono ?_; rintro e w1 ⟨rfl, rfl⟩
    go_wp2_with fail
    refine (cq.out _).mono ?_; rintro e w1 ⟨rfl, rfl⟩
    go_wp2_with fail
    go_ret
    exact ⟨rfl, rfl⟩

theorem specStampOk_letter (t b : Int) : ∃ p : Bool, Hid (p = stOk t b) ∧ Hid (∀ w, Calls Tryz.prog 21 #[.agg #[.int .i64 t, .int .i64 b]] w fun e w' => e = .returned (.bool p) ∧ w' = w.alloc (.cells #[.int .i64 t, .int .i64 b] 29)) := ⟨_, rfl, specStampOk_any t b⟩

theorem specRegOk_any (v t b : Int) (w : World) :
    Calls Tryz.prog 72 #[.agg #[.int .i64 v, .int .i64 t, .int .i64 b]] w fun e w' => e = .returned (.bool (rgOk v t b)) ∧ w' = (w.alloc (.cells #[.int .i64 v, .int .i64 t, .int .i64 b] 78)).alloc (.cells #[.int .i64 t, .int .i64 b] 29) := by
  obtain ⟨p, hp, cp⟩ := specStampOk_letter t b
  obtain ⟨q, hq, cq⟩ := in_letter v 0 1000000000
  have hs : Hid (rgOk v t b = (p && q)) := by show _ = _; rw [hp.out, hq.out]; rfl
  rw [hs.out]
  cases p
  all_goals
    go_enter Tryz.func72, Tryz.ntmps72
    go_wp2_with (first | (go_at_call 21; refine (cp.out _).mono ?_; rintro e w1 ⟨rfl, rfl⟩) | (go_at_call 20; refine (cq.out _).mono ?_; rintro e w1 ⟨rfl, rfl⟩) | fail)
    go_ret
    exact ⟨rfl, rfl⟩

end Go.Proofs.YtfmacodnjhegcamGreat
