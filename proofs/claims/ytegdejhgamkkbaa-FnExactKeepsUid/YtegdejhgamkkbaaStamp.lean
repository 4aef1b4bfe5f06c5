/- Stamps: which of two is later, and whether one is right. -/
import Derived.Test.YtegdejhgamkkbaaClone
import Derived.Test.YtegdejhgamkkbaaProg
import Derived.WalkKit
import Derived.WalkSpells
import Derived.WalkLawsBesides
import Derived.Below
import Derived.BigQuiet
import Derived.Deep.QuietTactic
import Derived.Deep.RegionHeld3
namespace Go.Proofs.Ytegdejhgamkkbaa
open Go.RowKit

/-- A stamp, and a register, as values. -/
abbrev stv (t b : Int) : Value := .agg #[.int .i64 t, .int .i64 b]
abbrev rgv (v t b : Int) : Value := .agg #[.int .i64 v, .int .i64 t, .int .i64 b]

/-- Which of two stamps is later. -/
def later (t b t' b' : Int) : Bool := if t = t' then decide (b' < b) else decide (t' < t)
def stOk (t b : Int) : Bool := decide (0 ≤ t ∧ t ≤ 100000 ∧ 0 ≤ b ∧ b ≤ 2)
def rgOk (v t b : Int) : Bool := stOk t b && decide (0 ≤ v ∧ v ≤ 1000000000)

theorem bpush {a w : World} (h : Below a.heap.size a w) (o : Obj) : Below a.heap.size a (w.alloc o) := h.alloc h.size o
theorem btr {a b c : World} (h : Below a.heap.size a b) (k : Below b.heap.size b c) : Below a.heap.size a c := h.trans (k.mono h.size)
theorem bre (a : World) : Below a.heap.size a a := Below.refl _ _
theorem bdr {a w : World} (h : Below a.heap.size a w) : Below a.heap.size a w.drew := h.drew
theorem bset {a w : World} (h : Below a.heap.size a w) {p : Addr} (hp : a.heap.size ≤ p.block) (u : Value) : Below a.heap.size a (w.setCell p u) := h.setCell hp u


theorem ret_bool {x y : Bool} (h : x = y) : Ending.returned (.bool x) = Ending.returned (.bool y) := by rw [h]

theorem toStamp_any (t b : Int) (w : World) :
    Calls Try.prog 28 #[.agg #[.int .i64 t, .int .i64 b]] w fun e w' => e = .returned (.agg #[.int .i64 t, .int .i64 b]) ∧ w' = ((w.alloc (.cells #[.int .i64 t, .int .i64 b] 28)).alloc (.cells #[.int .i64 t, .int .i64 b] 34)).alloc (.cells #[.int .i64 t, .int .i64 b] 34) := by
  go_enter Try.func28, Try.ntmps28
  go_wp2
  exact bodyPost_ret (v := .agg #[.int .i64 t, .int .i64 b]) (by simp [results, Try.results28, go_sem]) rfl ⟨rfl, rfl⟩

theorem eqStamp_any (t b t' b' : Int) (w : World) :
    Calls Try.prog 31 #[.agg #[.int .i64 t, .int .i64 b], .agg #[.int .i64 t', .int .i64 b']] w fun e w' => e = .returned (.bool (decide (t = t' ∧ b = b'))) ∧ w' = (w.alloc (.cells #[.int .i64 t, .int .i64 b] 34)).alloc (.cells #[.int .i64 t', .int .i64 b'] 34) := by
  by_cases h : t = t'
  · by_cases k : b = b'
    · subst h k
      go_enter Try.func31, Try.ntmps31
      go_wp2
      go_ret
      exact ⟨ret_bool (by simp), rfl⟩
    · subst h
      go_enter Try.func31, Try.ntmps31
      go_wp2
      go_ret
      exact ⟨ret_bool (by simp [k]), rfl⟩
  · go_enter Try.func31, Try.ntmps31
    go_wp2
    go_ret
    exact ⟨ret_bool (by simp [h]), rfl⟩

def cb (v t b v' t' b' : Int) : Bool := if t = t' ∧ b = b' then decide (v' < v) else later t b t' b'

end Go.Proofs.Ytegdejhgamkkbaa
