/- Mails marked and asked for their marks, whatever their list is. -/
import Derived.Test.YtfmacodnjhegcamGreatLawAt
import Derived.Test.YtfmacodnjhegcamGreatMailTo
namespace Go.Proofs.YtfmacodnjhegcamGreat
open Go.RowKit

theorem Mg.grown {W W' : World} {k ty : Nat} {g u : Int} {f : Value} {t : ByteArray} {r : Option Nat} (h : Mg W k ty g u f t) (hg : W.grownBy W' r) (hk : some k ≠ r) : Mg W' k ty g u f t := (hg.block k h.lt hk).trans h

theorem markRS_zero (a : Option Addr) (cap k : Nat) (w : World) :
    Calls Tryz.prog 66 #[.slice a 0 cap, .int .i64 (k : Int)] w fun e w' => e = .returned (.int .i64 (k : Int)) ∧ w' = w := by
  go_enter Tryz.func66, Tryz.ntmps66
  go_wp2
  go_loop [1, 5] (fun kv iv => kv = .int .i64 (k : Int) ∧ iv = .int .i64 0) (fun _ _ => 0)
  case atStart => exact ⟨rfl, rfl⟩
  case round =>
    obtain ⟨rfl, rfl⟩ := hrel
    go_wp2
    go_ret
    exact ⟨rfl, rfl⟩
theorem heldRS_zero (a : Option Addr) (cap k : Nat) (w : World) :
    Calls Tryz.prog 68 #[.slice a 0 cap, .int .i64 (k : Int)] w fun e w' => e = .returned (.int .i64 (k : Int)) ∧ w' = w := by
  go_enter Tryz.func68, Tryz.ntmps68
  go_wp2
  go_loop [1, 5] (fun kv iv => kv = .int .i64 (k : Int) ∧ iv = .int .i64 0) (fun _ _ => 0)
  case atStart => exact ⟨rfl, rfl⟩
  case round =>
    obtain ⟨rfl, rfl⟩ := hrel
    go_wp2
    go_ret
    exact ⟨rfl, rfl⟩

theorem own_some {W : World} {B n c : Nat} {a : Option Addr} {l : List R3} (h : Ow W B (.slice a n c) l) (hn : 0 < n) : ∃ g, a = some ⟨g, 0, none⟩ := by
  rcases h.2 with ⟨h1, h2⟩ | ⟨g, cap, cur, h1, _⟩
  · simp only [Value.slice.injEq] at h1
    omega
  · simp only [Value.slice.injEq] at h1
    exact ⟨g, h1.1⟩

theorem own_kept {W W' : World} {B : Nat} {v : Value} {l : List R3} {r : Option Nat} (h : Ow W B v l) (hg : W.grownBy W' r) (hne : ∀ j, v.ownBlock = some j → r ≠ some j) : Ow W' B v l :=
  World.ownsRow.kept h hg (by
    cases hv : v.ownBlock with
    | none => exact Or.inl rfl
    | some j => exact Or.inr (fun e => hne j hv e.symm))
theorem below_grownR {B : Nat} {a w : World} {r : Option Nat} (h : a.grownBy w r) (hB : ∀ j, r = some j → B ≤ j) (hs : B ≤ a.heap.size) : Below B a w :=
  ⟨h.os, h.tape, h.output, h.size, fun k hk => h.block k (by omega) (fun e => by have := hB k e.symm; omega)⟩
end Go.Proofs.YtfmacodnjhegcamGreat
