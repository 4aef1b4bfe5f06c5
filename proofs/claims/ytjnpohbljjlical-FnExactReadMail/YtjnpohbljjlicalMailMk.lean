/- Mails marked and asked for their marks, whatever their list is. -/
import Derived.Test.YtjnpohbljjlicalMailJoinD
import Derived.Test.YtjnpohbljjlicalMailTo
namespace Go.Proofs.Ytjnpohbljjlical
open Go.RowKit

theorem Mg.grown {W W' : World} {k ty : Nat} {g u : Int} {f : Value} {t : ByteArray} {r : Option Nat} (h : Mg W k ty g u f t) (hg : W.grownBy W' r) (hk : some k ≠ r) : Mg W' k ty g u f t := (hg.block k h.lt hk).trans h

theorem markRS_zero (a : Option Addr) (cap k : Nat) (w : World) :
    Calls Try.prog 36 #[.slice a 0 cap, .int .i64 (k : Int)] w fun e w' => e = .returned (.int .i64 (k : Int)) ∧ w' = w := by
  go_enter Try.func36, Try.ntmps36
  go_wp2
  go_loop [1, 5] (fun kv iv => kv = .int .i64 (k : Int) ∧ iv = .int .i64 0) (fun _ _ => 0)
  case atStart => exact ⟨rfl, rfl⟩
  case round =>
    obtain ⟨rfl, rfl⟩ := hrel
    go_wp2
    go_ret
    exact ⟨rfl, rfl⟩
theorem heldRS_zero (a : Option Addr) (cap k : Nat) (w : World) :
    Calls Try.prog 37 #[.slice a 0 cap, .int .i64 (k : Int)] w fun e w' => e = .returned (.int .i64 (k : Int)) ∧ w' = w := by
  go_enter Try.func37, Try.ntmps37
  go_wp2
  go_loop [1, 5] (fun kv iv => kv = .int .i64 (k : Int) ∧ iv = .int .i64 0) (fun _ _ => 0)
  case atStart => exact ⟨rfl, rfl⟩
  case round =>
    obtain ⟨rfl, rfl⟩ := hrel
    go_wp2
    go_ret
    exact ⟨rfl, rfl⟩

theorem own_some {W : World} {B n c : Nat} {a : Option Addr} {l : List R3} (h : Ow W B (.slice a n c) l) (hn : 0 < n) : ∃ g, a = some ⟨g, 0, none⟩ := by
  rcases h.2 with ⟨h1, h2⟩ | ⟨g, cap, cur, h1, _⟩
  · simp only [Value.slice.injEq] at h1
    omega
  · simp only [Value.slice.injEq] at h1
    exact ⟨g, h1.1⟩

theorem markMail_gen (g u : Int) (B : Nat) (a : Option Addr) (n cap k : Nat) (l : List R3) (t : ByteArray) (w : World) (hown : Ow w B (.slice a n cap) l) (hl : l.length = n) (hn : n ≤ 1048576) (hk : k ≤ 4194304) :
    Calls Try.prog 17 #[.agg #[.int .i64 g, .int .i64 u, .slice a n cap, .string t], .int .i64 (k : Int)] w fun e w' => e = .returned (.int .i64 ((k + n * 3 : Nat) : Int)) ∧ Ow w' B (.slice a n cap) (mks k n) ∧ w.grownBy w' (Value.ownBlock (.slice a n cap)) := by
  by_cases h0 : 0 < n
  · obtain ⟨k0, rfl⟩ := own_some hown h0
    exact markMail_any g u B k0 n cap k l t w hown hl hn hk
  · obtain rfl : n = 0 := by omega
    obtain rfl : l = [] := List.eq_nil_of_length_eq_zero hl
    have A0 := (Mg.new w 29 g u (.slice a 0 cap) t).cells
    have HO := hid (hown.alloc (.cells #[.int .i64 g, .int .i64 u, .slice a 0 cap, .string t] 29))
    clear hown hl hn hk h0
    go_enter Try.func17, Try.ntmps17
    go_wp2_with fail
    refine (markRS_zero a cap k _).mono ?_; rintro e w1 ⟨rfl, h1⟩
    subst h1
    go_wp2
    go_ret
    exact ⟨rfl, HO.out, World.grownBy_alloc _ _ _⟩

theorem heldMail_gen (g u : Int) (B : Nat) (a : Option Addr) (n cap k : Nat) (t : ByteArray) (w : World) (hown : Ow w B (.slice a n cap) (mks k n)) (hn : n ≤ 1048576) (hk : k ≤ 4194304) :
    Calls Try.prog 18 #[.agg #[.int .i64 g, .int .i64 u, .slice a n cap, .string t], .int .i64 (k : Int)] w fun e w' => e = .returned (.int .i64 ((k + n * 3 : Nat) : Int)) ∧ Below w.heap.size w w' := by
  by_cases h0 : 0 < n
  · obtain ⟨k0, rfl⟩ := own_some hown h0
    exact heldMail_any g u B k0 n cap k t w hown hn hk
  · obtain rfl : n = 0 := by omega
    have A0 := (Mg.new w 29 g u (.slice a 0 cap) t).cells
    have h1 : ¬ ((k : Nat) : Int) < 0 := by omega
    clear hown hn hk h0
    go_enter Try.func18, Try.ntmps18
    go_wp2_with fail
    refine (heldRS_zero a cap k _).mono ?_; rintro e w1 ⟨rfl, h2⟩
    subst h2
    go_wp2
    go_ret
    exact ⟨rfl, bpush (bre _) _⟩

theorem own_kept {W W' : World} {B : Nat} {v : Value} {l : List R3} {r : Option Nat} (h : Ow W B v l) (hg : W.grownBy W' r) (hne : ∀ j, v.ownBlock = some j → r ≠ some j) : Ow W' B v l :=
  World.ownsRow.kept h hg (by
    cases hv : v.ownBlock with
    | none => exact Or.inl rfl
    | some j => exact Or.inr (fun e => hne j hv e.symm))
theorem below_grownR {B : Nat} {a w : World} {r : Option Nat} (h : a.grownBy w r) (hB : ∀ j, r = some j → B ≤ j) (hs : B ≤ a.heap.size) : Below B a w :=
  ⟨h.os, h.tape, h.output, h.size, fun k hk => h.block k (by omega) (fun e => by have := hB k e.symm; omega)⟩
theorem markM1 (g u : Int) (B : Nat) (a : Option Addr) (n cap : Nat) (l : List R3) (t : ByteArray) (w : World) (hown : Ow w B (.slice a n cap) l) (hl : l.length = n) (hn : n ≤ 1048576) :
    Calls Try.prog 17 #[.agg #[.int .i64 g, .int .i64 u, .slice a n cap, .string t], .int .i64 1] w fun e w' => e = .returned (.int .i64 ((1 + n * 3 : Nat) : Int)) ∧ Ow w' B (.slice a n cap) (mks 1 n) ∧ w.grownBy w' (Value.ownBlock (.slice a n cap)) :=
  markMail_gen g u B a n cap 1 l t w hown hl hn (by omega)
theorem heldM1 (g u : Int) (B : Nat) (a : Option Addr) (n cap : Nat) (t : ByteArray) (w : World) (hown : Ow w B (.slice a n cap) (mks 1 n)) (hn : n ≤ 1048576) :
    Calls Try.prog 18 #[.agg #[.int .i64 g, .int .i64 u, .slice a n cap, .string t], .int .i64 1] w fun e w' => e = .returned (.int .i64 ((1 + n * 3 : Nat) : Int)) ∧ Below w.heap.size w w' :=
  heldMail_gen g u B a n cap 1 t w hown hn (by omega)
end Go.Proofs.Ytjnpohbljjlical
