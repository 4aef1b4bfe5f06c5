/- Ma, Tkk, Mc, Md, Me, Mg, Srow, Stb, Tia, Ka, Kb, Kw0, Kn. -/
import Derived.Test.YtpannfkfaagflaaProg
import Derived.WalkKit
import Derived.Laws.IdiomStrings
import Derived.WalkSpells
import Derived.WalkLawsBesides
import Derived.Lib.Strings
import Derived.Lib.BufferWrite
import Derived.Lib.UnsafeStr
import Derived.Laws.MakeOwn
import Derived.Below
import Derived.BigQuiet
import Derived.Deep.QuietTactic
import Derived.Deep.RegionHeld3
import Derived.Deep.Cut
import Derived.Laws.ShiftsVarLaws
import Derived.Lib.BufferMore
import Derived.Shelf.Abstract
namespace Go.Proofs.Ytpannfkfaagflaa
open Go.RowKit
/-- A byte as a value. -/
def bv (b : UInt8) : Value := .int .u8 (b.toNat : Int)
end Go.Proofs.Ytpannfkfaagflaa
namespace Go.Proofs.Ytpannfkfaagflaa
open Go.RowKit
end Go.Proofs.Ytpannfkfaagflaa
namespace Go.Proofs.Ytpannfkfaagflaa
open Go.RowKit
end Go.Proofs.Ytpannfkfaagflaa
namespace Go.Proofs.Ytpannfkfaagflaa
open Go.RowKit
/-- Which of two stamps is later. -/
def later (t b t' b' : Int) : Bool := if t = t' then decide (b' < b) else decide (t' < t)
def stOk (t b : Int) : Bool := decide (0 ≤ t ∧ t ≤ 100000 ∧ 0 ≤ b ∧ b ≤ 2)
def rgOk (v t b : Int) : Bool := stOk t b && decide (0 ≤ v ∧ v ≤ 1000000000)
theorem bpush {a w : World} (h : Below a.heap.size a w) (o : Obj) : Below a.heap.size a (w.alloc o) := h.alloc h.size o
theorem btr {a b c : World} (h : Below a.heap.size a b) (k : Below b.heap.size b c) : Below a.heap.size a c := h.trans (k.mono h.size)
theorem bre (a : World) : Below a.heap.size a a := Below.refl _ _
theorem bset {a w : World} (h : Below a.heap.size a w) {p : Addr} (hp : a.heap.size ≤ p.block) (u : Value) : Below a.heap.size a (w.setCell p u) := h.setCell hp u
end Go.Proofs.Ytpannfkfaagflaa
namespace Go.Proofs.Ytpannfkfaagflaa
open Go.RowKit
end Go.Proofs.Ytpannfkfaagflaa
namespace Go.Proofs.Ytpannfkfaagflaa
open Go.RowKit
end Go.Proofs.Ytpannfkfaagflaa
namespace Go.Proofs.Ytpannfkfaagflaa
open Go.RowKit
end Go.Proofs.Ytpannfkfaagflaa
namespace Go.Proofs.Ytpannfkfaagflaa
open Go.RowKit
end Go.Proofs.Ytpannfkfaagflaa
namespace Go.Proofs.Ytpannfkfaagflaa
open Go.RowKit Go.ChangeMaps
theorem bb {B : Nat} {w w1 : World} (h : Below B w w1 := by repeat (first | exact bre _ | refine bdr ?_ | refine btr ?_ (by assumption) | refine bpush ?_ _)) : Below B w w1 := h
theorem tp0 (a : Act) (v : Value) : a.put none v = a := rfl
theorem tp1 (a : Act) (t : Tmp) (v : Value) : a.put (some t) v = { a with tmps := a.tmps.setIfInBounds t v } := rfl
theorem tp2 {α : Type} (l : List α) (i : Nat) (x : α) : l.toArray.setIfInBounds i x = (l.set i x).toArray := List.setIfInBounds_toArray ..
theorem tp3 {α : Type} (a : α) (l : List α) (x : α) : (a :: l).set 0 x = x :: l := rfl
theorem tp4 {α : Type} (a : α) (l : List α) (i : Nat) (x : α) : (a :: l).set (i + 1) x = a :: l.set i x := rfl
section
variable {P : Program} {ops : Array Oper} {Q : Exit → Act → World → Prop} {md : Region.Mode} {S : World → Prop} {d : Option Tmp} {o : Op} {t : TypeId} {ps : String} {af : Array Edge} {gd : Option (Nat × Bool)} {v : Value} {fuel : Nat} {listed : Array Bool} {a a2 : Act} {w : World}
theorem tk (i : Nat) (h : wpAnyH P md ops Q S fuel (listed.setIfInBounds i true) a2 w)
    (hi : ops[i]? = some ⟨d, o, t, ps, af, gd⟩ := by (first | (simp only [List.getElem?_toArray, List.getElem?_cons_succ, List.getElem?_cons_zero]; rfl) | rfl)) (hs : Region.noSelect ops = true := by kernel_rfl) (hf : Region.free md ops listed i = true := by kernel_rfl) (hr : (Region.ready md ops listed).contains i = true := by kernel_rfl)
    (hw : Region.wanted ⟨d, o, t, ps, af, gd⟩ (yielded ops a.tmps) = true := by rfl) (hy : ∀ w, S w → (execOp a.eval ⟨d, o, t, ps, af, gd⟩).run P w = .ok (.value v) w := by (intro w hSw; (try dsimp only at hSw); go_simp; try with_reducible rfl)) (hS : S w := by assumption)
    (hQ : ∀ c a w, Q (.panic c) (a.put d v) w → Q (.panic c) a w := by exact fun _ _ _ h => h)
    (hp : a.put d v = a2 := by (first | (simp only [tp0, tp1, tp2, tp3, tp4]; done) | (simp only [tp0, tp1, tp2, tp3, tp4]; rfl) | rfl)) : wpAnyH P md ops Q S (fuel + 1) listed a w :=
  wpAnyH_take hi hs hf hr hQ (Or.inl ⟨hw, hy⟩) hS (by subst hp; exact h)
theorem tn (i : Nat) (h : wpAnyH P md ops Q S fuel (listed.setIfInBounds i true) a2 w)
    (hi : ops[i]? = some ⟨d, o, t, ps, af, gd⟩ := by (first | (simp only [List.getElem?_toArray, List.getElem?_cons_succ, List.getElem?_cons_zero]; rfl) | rfl)) (hs : Region.noSelect ops = true := by kernel_rfl) (hf : Region.free md ops listed i = true := by kernel_rfl) (hr : (Region.ready md ops listed).contains i = true := by kernel_rfl)
    (hw : Region.wanted ⟨d, o, t, ps, af, gd⟩ (yielded ops a.tmps) = false := by rfl) (hS : S w := by assumption)
    (hQ : ∀ c a w, Q (.panic c) (a.put d undef) w → Q (.panic c) a w := by exact fun _ _ _ h => h)
    (hp : a.put d undef = a2 := by (first | (simp only [tp0, tp1, tp2, tp3, tp4]; done) | (simp only [tp0, tp1, tp2, tp3, tp4]; rfl) | rfl)) : wpAnyH P md ops Q S (fuel + 1) listed a w :=
  wpAnyH_take hi hs hf hr hQ (Or.inr ⟨hw, rfl⟩) hS (by subst hp; exact h)
theorem rc {i : Nat} {rs : List Nat}
    (h : ∀ K' : Act → World → Prop, Shut (∀ a w, S w → (S w → wpAnyH P md ops Q S fuel (listed.setIfInBounds i true) a w) → K' a w) → if Region.wanted ⟨d, o, t, ps, af, gd⟩ (yielded ops a.tmps) = true then Oper.wp P ⟨d, o, t, ps, af, gd⟩ a w K' Q else K' (a.put d undef) w)
    (hs : AllReadyH P md ops Q S fuel listed a w rs) (hi : ops[i]? = some ⟨d, o, t, ps, af, gd⟩ := by (first | (simp only [List.getElem?_toArray, List.getElem?_cons_succ, List.getElem?_cons_zero]; rfl) | rfl)) : AllReadyH P md ops Q S fuel listed a w (i :: rs) := AllReadyH.cons hi h hs
theorem ry (i : Nat)
    (h : ∀ K' : Act → World → Prop, Shut (∀ a w, S w → (S w → wpAnyH P md ops Q S fuel (listed.setIfInBounds i true) a w) → K' a w) → if Region.wanted ⟨d, o, t, ps, af, gd⟩ (yielded ops a.tmps) = true then Oper.wp P ⟨d, o, t, ps, af, gd⟩ a w K' Q else K' (a.put d undef) w)
    (hr : Region.ready md ops listed = [i] := by kernel_rfl) (hi : ops[i]? = some ⟨d, o, t, ps, af, gd⟩ := by (first | (simp only [List.getElem?_toArray, List.getElem?_cons_succ, List.getElem?_cons_zero]; rfl) | rfl)) : wpAnyH P md ops Q S (fuel + 1) listed a w := wpAnyH_ready hr (by simp) (AllReadyH.cons hi h AllReadyH.nil)
theorem rl {i : Nat}
    (h : ∀ K' : Act → World → Prop, Shut (∀ a w, S w → (S w → wpAnyH P md ops Q S fuel (listed.setIfInBounds i true) a w) → K' a w) → if Region.wanted ⟨d, o, t, ps, af, gd⟩ (yielded ops a.tmps) = true then Oper.wp P ⟨d, o, t, ps, af, gd⟩ a w K' Q else K' (a.put d undef) w)
    (hi : ops[i]? = some ⟨d, o, t, ps, af, gd⟩ := by (first | (simp only [List.getElem?_toArray, List.getElem?_cons_succ, List.getElem?_cons_zero]; rfl) | rfl)) : AllReadyH P md ops Q S fuel listed a w [i] := AllReadyH.cons hi h AllReadyH.nil
end
end Go.Proofs.Ytpannfkfaagflaa
namespace Go.Proofs.Ytpannfkfaagflaa
open Go.RowKit
theorem hid {p : Prop} (h : p) : Hid p := h
/-- A register as three numbers: its value, its stamp's time, its stamp's server. -/
abbrev R3 := Int × Int × Int
end Go.Proofs.Ytpannfkfaagflaa
namespace Go.Proofs.Ytpannfkfaagflaa
open Go.RowKit
end Go.Proofs.Ytpannfkfaagflaa
namespace Go.Proofs.Ytpannfkfaagflaa
open Go.RowKit
end Go.Proofs.Ytpannfkfaagflaa
namespace Go.Proofs.Ytpannfkfaagflaa
open Go.RowKit
end Go.Proofs.Ytpannfkfaagflaa
namespace Go.Proofs.Ytpannfkfaagflaa
open Go.RowKit
/-- A bit of a number. -/
def bit (n : Int) (i : Nat) : Int := n / 2 ^ i % 2
end Go.Proofs.Ytpannfkfaagflaa
namespace Go.Proofs.Ytpannfkfaagflaa
open Go.RowKit
end Go.Proofs.Ytpannfkfaagflaa
namespace Go.Proofs.Ytpannfkfaagflaa
open Go.RowKit
end Go.Proofs.Ytpannfkfaagflaa
namespace Go.Proofs.Ytpannfkfaagflaa
open Go.RowKit
/-- A register that is put; one flag that is set; all of them. -/
def pp (p : R3) (m t b : Int) : R3 := if (rgOk m t b && later t b p.2.1 p.2.2) = true then (m, t, b) else p
def sp (n t b : Int) (i : Nat) (p : R3) : R3 := if bit n i = p.1 then p else pp p (bit n i) t b
end Go.Proofs.Ytpannfkfaagflaa
namespace Go.Proofs.Ytpannfkfaagflaa
open Go.RowKit
/-- A drawn flag: 0 or 1, its stamp right. -/
def gd (p : R3) : Prop := (0 ≤ p.1 ∧ p.1 < 2) ∧ 0 ≤ p.2.1 ∧ p.2.1 < 12 ∧ 1 ≤ p.2.2 ∧ p.2.2 ≤ 2
end Go.Proofs.Ytpannfkfaagflaa
namespace Go.Proofs.Ytpannfkfaagflaa
open Go.RowKit
end Go.Proofs.Ytpannfkfaagflaa
namespace Go.Proofs.Ytpannfkfaagflaa
open Go.RowKit
/-- A list of three. -/
theorem three {l : List R3} (h : l.length = 3) : ∃ p q r, l = [p, q, r] := by
  match l, h with
  | [p, q, r], _ => exact ⟨p, q, r, rfl⟩
theorem bsk {a w : World} (h : Below a.heap.size a w) {k : Nat} (hk : a.heap.size ≤ k) (i : Nat) (x : Value) : Below a.heap.size a (w.setCell ⟨k, i, none⟩ x) := bset h hk x
end Go.Proofs.Ytpannfkfaagflaa
namespace Go.Proofs.Ytpannfkfaagflaa
open Go.RowKit
end Go.Proofs.Ytpannfkfaagflaa
namespace Go.Proofs.Ytpannfkfaagflaa
open Go.RowKit
end Go.Proofs.Ytpannfkfaagflaa
namespace Go.Proofs.Ytpannfkfaagflaa
open Go.RowKit
end Go.Proofs.Ytpannfkfaagflaa
namespace Go.Proofs.Ytpannfkfaagflaa
open Go.RowKit
end Go.Proofs.Ytpannfkfaagflaa
namespace Go.Proofs.Ytpannfkfaagflaa
open Go.RowKit
end Go.Proofs.Ytpannfkfaagflaa
namespace Go.Proofs.Ytpannfkfaagflaa
open Go.RowKit
end Go.Proofs.Ytpannfkfaagflaa
namespace Go.Proofs.Ytpannfkfaagflaa
open Go.RowKit
/-- A mail as it is meant: Gid, Uid, flags, text. -/
abbrev M4 := Int × Int × List R3 × ByteArray
/-- A mail as it lies: Gid, Uid, the value of its flags, what they are, text. -/
abbrev Z5 := Int × Int × Value × List R3 × ByteArray
def md (z : Z5) : M4 := (z.1, z.2.1, z.2.2.2.1, z.2.2.2.2)
/-! Numbers. -/
end Go.Proofs.Ytpannfkfaagflaa
namespace Go.Proofs.Ytpannfkfaagflaa
open Go.RowKit
/-! Sizes. -/
end Go.Proofs.Ytpannfkfaagflaa
namespace Go.Proofs.Ytpannfkfaagflaa
open Go.RowKit
end Go.Proofs.Ytpannfkfaagflaa
namespace Go.Proofs.Ytpannfkfaagflaa
open Go.RowKit
section
variable {W W' : World} {k ty : Nat} {g : Int} {nm : ByteArray} {t b nx : Int} {ms gs : Value}
end
end Go.Proofs.Ytpannfkfaagflaa
namespace Go.Proofs.Ytpannfkfaagflaa
open Go.RowKit
end Go.Proofs.Ytpannfkfaagflaa
namespace Go.Proofs.Ytpannfkfaagflaa
open Go.RowKit
/-! Ascending numbers. -/
/-! Among them. -/
def inl (x : Int) : List Int → Bool
  | [] => false
  | y :: l => decide (y = x) || inl x l
/-! Where a mail is. -/
end Go.Proofs.Ytpannfkfaagflaa
namespace Go.Proofs.Ytpannfkfaagflaa
open Go.RowKit
end Go.Proofs.Ytpannfkfaagflaa
namespace Go.Proofs.Ytpannfkfaagflaa
open Go.RowKit Go.ChangeMaps
/-- A box as it is meant: Gid, Name, Named, Next, Mails, Gone. -/
abbrev X7 := Int × ByteArray × Int × Int × Int × List M4 × List Int
/-- A box as it lies: its fields, the values of its lists, and the blocks between which they lie. -/
structure Y9 where
  g : Int
  nm : ByteArray
  t : Int
  b : Int
  nx : Int
  mv : Value
  gv : Value
  L : List M4
  G : List Int
  lo : Nat
  hi : Nat
section
variable {W W' : World} {lo hi : Nat} {mv gv : Value} {L : List M4} {G : List Int}
end
/-- Block k holds a store. -/
def Sx (W : World) (k ty : Nat) (y tm : Int) (bv gv : Value) : Prop := W.heap[k]? = some (.cells #[.int .i64 y, .int .i64 tm, bv, gv] ty (0, 0))
theorem Sx.new (w : World) (ty : Nat) (y tm : Int) (bv gv : Value) : Sx (w.alloc (.cells #[.int .i64 y, .int .i64 tm, bv, gv] ty)) w.heap.size ty y tm bv gv := heap_alloc_new w _
section
variable {W W' : World} {k ty : Nat} {y tm : Int} {bv gv : Value}
theorem Sx.lt (h : Sx W k ty y tm bv gv) : k < W.heap.size := (Array.getElem?_eq_some_iff.1 h).1
theorem Sx.later (h : Sx W k ty y tm bv gv) (hb : Below W.heap.size W W') : Sx W' k ty y tm bv gv := (hb.block k h.lt).trans h
theorem Sx.cells (h : Sx W k ty y tm bv gv) : W.cell? ⟨k, 0, none⟩ = some (.int .i64 y) ∧ W.cell? ⟨k, 1, none⟩ = some (.int .i64 tm) ∧ W.cell? ⟨k, 2, none⟩ = some bv ∧ W.cell? ⟨k, 3, none⟩ = some gv :=
  ⟨cell_of_row W k 0 _ _ _ h, cell_of_row W k 1 _ _ _ h, cell_of_row W k 2 _ _ _ h, cell_of_row W k 3 _ _ _ h⟩
theorem Sx.loose (h : Sx W k ty y tm bv gv) : W.frozen? ⟨k, 0, none⟩ = false ∧ W.frozen? ⟨k, 1, none⟩ = false ∧ W.frozen? ⟨k, 2, none⟩ = false ∧ W.frozen? ⟨k, 3, none⟩ = false :=
  ⟨frozen_of_row W k 0 _ _ h, frozen_of_row W k 1 _ _ h, frozen_of_row W k 2 _ _ h, frozen_of_row W k 3 _ _ h⟩
end
theorem implStoreNew_any (y : Int) (w : World) :
    Calls Try.prog 15 #[.int .i64 y] w fun e w' => e = .returned (.agg #[.int .i64 y, .int .i64 0, .slice none 0 0, .slice none 0 0]) ∧ Below w.heap.size w w' := by
  have a0 := Sx.new w 25 0 0 (.slice none 0 0) (.slice none 0 0)
  have A0 := hid a0
  have c0 := a0.cells
  have f0 := a0.loose
  have hb : Below w.heap.size w (w.alloc (.cells #[.int .i64 0, .int .i64 0, .slice none 0 0, .slice none 0 0] 25)) := bpush (bre _) _
  have B0 := hid hb
  clear a0 hb
  go_enter Try.func15, Try.ntmps15
  go_wp2
  have d1 := (Sx.new w 25 y 0 (.slice none 0 0) (.slice none 0 0)).cells
  exact bodyPost_ret (v := .agg #[.int .i64 y, .int .i64 0, .slice none 0 0, .slice none 0 0]) (by simp [results, Try.results15, go_sem, d1]) rfl ⟨rfl, bpush (bre _) _⟩
/-- Block k holds what is kept. -/
def Kx (W : World) (k ty : Nat) (y tm : Int) (bv gv : Value) (jr : ByteArray) (sv : Int) : Prop := W.heap[k]? = some (.cells #[.int .i64 y, .int .i64 tm, bv, gv, .string jr, .int .i64 sv] ty (0, 0))
section
variable {W W' : World} {k ty : Nat} {y tm : Int} {bv gv : Value} {jr : ByteArray} {sv : Int}
theorem Kx.new (w : World) (ty : Nat) (y tm : Int) (bv gv : Value) (jr : ByteArray) (sv : Int) : Kx (w.alloc (.cells #[.int .i64 y, .int .i64 tm, bv, gv, .string jr, .int .i64 sv] ty)) w.heap.size ty y tm bv gv jr sv := heap_alloc_new w _
theorem Kx.lt (h : Kx W k ty y tm bv gv jr sv) : k < W.heap.size := (Array.getElem?_eq_some_iff.1 h).1
theorem Kx.later (h : Kx W k ty y tm bv gv jr sv) (hb : Below W.heap.size W W') : Kx W' k ty y tm bv gv jr sv := (hb.block k h.lt).trans h
theorem Kx.cells (h : Kx W k ty y tm bv gv jr sv) : W.cell? ⟨k, 0, none⟩ = some (.int .i64 y) ∧ W.cell? ⟨k, 1, none⟩ = some (.int .i64 tm) ∧ W.cell? ⟨k, 2, none⟩ = some bv ∧ W.cell? ⟨k, 3, none⟩ = some gv ∧ W.cell? ⟨k, 4, none⟩ = some (.string jr) ∧ W.cell? ⟨k, 5, none⟩ = some (.int .i64 sv) :=
  ⟨cell_of_row W k 0 _ _ _ h, cell_of_row W k 1 _ _ _ h, cell_of_row W k 2 _ _ _ h, cell_of_row W k 3 _ _ _ h, cell_of_row W k 4 _ _ _ h, cell_of_row W k 5 _ _ _ h⟩
theorem Kx.loose (h : Kx W k ty y tm bv gv jr sv) : W.frozen? ⟨k, 0, none⟩ = false ∧ W.frozen? ⟨k, 1, none⟩ = false ∧ W.frozen? ⟨k, 2, none⟩ = false ∧ W.frozen? ⟨k, 3, none⟩ = false ∧ W.frozen? ⟨k, 4, none⟩ = false ∧ W.frozen? ⟨k, 5, none⟩ = false :=
  ⟨frozen_of_row W k 0 _ _ h, frozen_of_row W k 1 _ _ h, frozen_of_row W k 2 _ _ h, frozen_of_row W k 3 _ _ h, frozen_of_row W k 4 _ _ h, frozen_of_row W k 5 _ _ h⟩
end
set_option maxHeartbeats 800000 in
set_option maxRecDepth 100000 in
theorem eqKept_of (y tm : Int) (ba : Option Addr) (bn bc : Nat) (ga : Option Addr) (gn gc : Nat) (ba' : Option Addr) (bn' bc' : Nat) (ga' : Option Addr) (gn' gc' : Nat) (jr : ByteArray) (sv : Int) (w : World)
    (C : ∀ W, Below w.heap.size w W → Calls Try.prog 16 #[.agg #[.int .i64 y, .int .i64 tm, .slice ba bn bc, .slice ga gn gc], .agg #[.int .i64 y, .int .i64 tm, .slice ba' bn' bc', .slice ga' gn' gc']] W fun e w' => e = .returned (.bool true) ∧ Below W.heap.size W w') :
    Calls Try.prog 7 #[.agg #[.int .i64 y, .int .i64 tm, .slice ba bn bc, .slice ga gn gc, .string jr, .int .i64 sv], .agg #[.int .i64 y, .int .i64 tm, .slice ba' bn' bc', .slice ga' gn' gc', .string jr, .int .i64 sv]] w fun e w' => e = .returned (.bool true) ∧ Below w.heap.size w w' := by
  obtain ⟨W0, hW0⟩ : ∃ W0, (w.alloc (.cells #[.int .i64 y, .int .i64 tm, .slice ba bn bc, .slice ga gn gc, .string jr, .int .i64 sv] 27)).alloc (.cells #[.int .i64 y, .int .i64 tm, .slice ba' bn' bc', .slice ga' gn' gc', .string jr, .int .i64 sv] 27) = W0 := ⟨_, rfl⟩
  have a0 : Kx W0 w.heap.size 27 y tm (.slice ba bn bc) (.slice ga gn gc) jr sv := by subst hW0; exact (Kx.new w _ _ _ _ _ _ _).later (bpush (bre _) _)
  have a1 : Kx W0 (w.heap.size + 1) 27 y tm (.slice ba' bn' bc') (.slice ga' gn' gc') jr sv := by
    have h := Kx.new (w.alloc (.cells #[.int .i64 y, .int .i64 tm, .slice ba bn bc, .slice ga gn gc, .string jr, .int .i64 sv] 27)) 27 y tm (.slice ba' bn' bc') (.slice ga' gn' gc') jr sv
    rw [show (w.alloc (.cells #[.int .i64 y, .int .i64 tm, .slice ba bn bc, .slice ga gn gc, .string jr, .int .i64 sv] 27)).heap.size = w.heap.size + 1 by simp, hW0] at h
    exact h
  have b0 : Below w.heap.size w W0 := by subst hW0; exact bpush (bpush (bre _) _) _
  have A0 := hid a0
  have A1 := hid a1
  have B0 := hid b0
  have HC := hid (C W0 b0)
  have c0 := a0.cells
  have c1 := a1.cells
  clear a0 a1 b0 C
  go_enter Try.func7, Try.ntmps7
  go_wp2_with fail
  clear hW0
  refine HC.out.mono ?_; rintro e w1 ⟨rfl, hb⟩
  have B1 := hid (btr B0.out hb)
  have d0 := (A0.out.later hb).cells
  have d1 := (A1.out.later hb).cells
  clear hb c0 c1
  go_wp2
  go_ret
  exact ⟨rfl, B1.out⟩
set_option maxHeartbeats 800000 in
set_option maxRecDepth 100000 in
theorem markKept_of (y tm : Int) (ba : Option Addr) (bn bc : Nat) (ga : Option Addr) (gn gc : Nat) (jr : ByteArray) (sv k r : Int) (w : World) (R : World → Prop)
    (C : ∀ W, Below w.heap.size w W → Calls Try.prog 17 #[.agg #[.int .i64 y, .int .i64 tm, .slice ba bn bc, .slice ga gn gc], .int .i64 k] W fun e w' => e = .returned (.int .i64 r) ∧ R w') :
    Calls Try.prog 8 #[.agg #[.int .i64 y, .int .i64 tm, .slice ba bn bc, .slice ga gn gc, .string jr, .int .i64 sv], .int .i64 k] w fun e w' => e = .returned (.int .i64 r) ∧ R w' := by
  obtain ⟨W0, hW0⟩ : ∃ W0, w.alloc (.cells #[.int .i64 y, .int .i64 tm, .slice ba bn bc, .slice ga gn gc, .string jr, .int .i64 sv] 27) = W0 := ⟨_, rfl⟩
  have a0 : Kx W0 w.heap.size 27 y tm (.slice ba bn bc) (.slice ga gn gc) jr sv := by subst hW0; exact Kx.new w _ _ _ _ _ _ _
  have b0 : Below w.heap.size w W0 := by subst hW0; exact bpush (bre _) _
  have HC := hid (C W0 b0)
  have c0 := a0.cells
  clear a0 b0 C
  go_enter Try.func8, Try.ntmps8
  go_wp2_with fail
  clear hW0
  refine HC.out.mono ?_; rintro e w1 ⟨rfl, hr⟩
  have HR := hid hr
  clear hr c0
  go_wp2
  go_ret
  exact ⟨rfl, HR.out⟩
set_option maxHeartbeats 800000 in
set_option maxRecDepth 100000 in
theorem heldKept_of (y tm : Int) (ba : Option Addr) (bn bc : Nat) (ga : Option Addr) (gn gc : Nat) (jr : ByteArray) (sv k r : Int) (w : World) (hr0 : ¬ r < 0)
    (C : ∀ W, Below w.heap.size w W → Calls Try.prog 18 #[.agg #[.int .i64 y, .int .i64 tm, .slice ba bn bc, .slice ga gn gc], .int .i64 k] W fun e w' => e = .returned (.int .i64 r) ∧ Below W.heap.size W w') :
    Calls Try.prog 9 #[.agg #[.int .i64 y, .int .i64 tm, .slice ba bn bc, .slice ga gn gc, .string jr, .int .i64 sv], .int .i64 k] w fun e w' => e = .returned (.int .i64 r) ∧ Below w.heap.size w w' := by
  obtain ⟨W0, hW0⟩ : ∃ W0, w.alloc (.cells #[.int .i64 y, .int .i64 tm, .slice ba bn bc, .slice ga gn gc, .string jr, .int .i64 sv] 27) = W0 := ⟨_, rfl⟩
  have a0 : Kx W0 w.heap.size 27 y tm (.slice ba bn bc) (.slice ga gn gc) jr sv := by subst hW0; exact Kx.new w _ _ _ _ _ _ _
  have b0 : Below w.heap.size w W0 := by subst hW0; exact bpush (bre _) _
  have HC := hid (C W0 b0)
  have B0 := hid b0
  have c0 := a0.cells
  clear a0 b0 C
  go_enter Try.func9, Try.ntmps9
  go_wp2_with fail
  clear hW0
  refine HC.out.mono ?_; rintro e w1 ⟨rfl, hb⟩
  have B1 := hid (btr B0.out hb)
  clear hb c0
  go_wp2
  go_ret
  exact ⟨rfl, B1.out⟩
theorem eBS0 (w : World) : Calls Try.prog 23 #[.slice none 0 0, .slice none 0 0] w fun e w' => e = .returned (.bool true) ∧ w' = w := by
  go_enter Try.func23, Try.ntmps23
  go_wp2
  go_loop [5] (fun iv => iv = .int .i64 0) (fun _ => 0)
  case atStart => exact rfl
  case round =>
    obtain rfl := hrel
    go_wp2
    go_ret
    exact ⟨rfl, rfl⟩
theorem eIS0 (w : World) : Calls Try.prog 24 #[.slice none 0 0, .slice none 0 0] w fun e w' => e = .returned (.bool true) ∧ w' = w := by
  go_enter Try.func24, Try.ntmps24
  go_wp2
  go_loop [5] (fun iv => iv = .int .i64 0) (fun _ => 0)
  case atStart => exact rfl
  case round =>
    obtain rfl := hrel
    go_wp2
    go_ret
    exact ⟨rfl, rfl⟩
theorem mBS0 (w : World) : Calls Try.prog 25 #[.slice none 0 0, .int .i64 1] w fun e w' => e = .returned (.int .i64 1) ∧ w' = w := by
  go_enter Try.func25, Try.ntmps25
  go_wp2
  go_loop [1, 5] (fun kv iv => kv = .int .i64 1 ∧ iv = .int .i64 0) (fun _ _ => 0)
  case atStart => exact ⟨rfl, rfl⟩
  case round =>
    obtain ⟨rfl, rfl⟩ := hrel
    go_wp2
    go_ret
    exact ⟨rfl, rfl⟩
theorem mIS0 (w : World) : Calls Try.prog 26 #[.slice none 0 0, .int .i64 1] w fun e w' => e = .returned (.int .i64 1) ∧ w' = w := by
  go_enter Try.func26, Try.ntmps26
  go_wp2
  go_loop [1, 5] (fun kv iv => kv = .int .i64 1 ∧ iv = .int .i64 0) (fun _ _ => 0)
  case atStart => exact ⟨rfl, rfl⟩
  case round =>
    obtain ⟨rfl, rfl⟩ := hrel
    go_wp2
    go_ret
    exact ⟨rfl, rfl⟩
theorem hBS0 (w : World) : Calls Try.prog 27 #[.slice none 0 0, .int .i64 1] w fun e w' => e = .returned (.int .i64 1) ∧ w' = w := by
  go_enter Try.func27, Try.ntmps27
  go_wp2
  go_loop [1, 5] (fun kv iv => kv = .int .i64 1 ∧ iv = .int .i64 0) (fun _ _ => 0)
  case atStart => exact ⟨rfl, rfl⟩
  case round =>
    obtain ⟨rfl, rfl⟩ := hrel
    go_wp2
    go_ret
    exact ⟨rfl, rfl⟩
theorem hIS0 (w : World) : Calls Try.prog 28 #[.slice none 0 0, .int .i64 1] w fun e w' => e = .returned (.int .i64 1) ∧ w' = w := by
  go_enter Try.func28, Try.ntmps28
  go_wp2
  go_loop [1, 5] (fun kv iv => kv = .int .i64 1 ∧ iv = .int .i64 0) (fun _ _ => 0)
  case atStart => exact ⟨rfl, rfl⟩
  case round =>
    obtain ⟨rfl, rfl⟩ := hrel
    go_wp2
    go_ret
    exact ⟨rfl, rfl⟩
theorem mStore0 (y : Int) (w : World) : Calls Try.prog 17 #[.agg #[.int .i64 y, .int .i64 0, .slice none 0 0, .slice none 0 0], .int .i64 1] w fun e w' => e = .returned (.int .i64 1) ∧ Below w.heap.size w w' := by
  obtain ⟨W0, hW0⟩ : ∃ W0, w.alloc (.cells #[.int .i64 y, .int .i64 0, .slice none 0 0, .slice none 0 0] 25) = W0 := ⟨_, rfl⟩
  have a0 : Sx W0 w.heap.size 25 y 0 (.slice none 0 0) (.slice none 0 0) := by subst hW0; exact Sx.new w _ y 0 _ _
  have b0 : Below w.heap.size w W0 := by subst hW0; exact bpush (bre _) _
  have c0 := a0.cells
  have B0 := hid b0
  have h1 : ¬ ((1 : Int) < 0) := by omega
  clear a0 b0
  go_enter Try.func17, Try.ntmps17
  go_wp2_with fail
  clear hW0
  refine (mBS0 _).mono ?_; rintro e w1 ⟨rfl, hw1⟩
  subst hw1
  go_wp2_with fail
  refine (mIS0 _).mono ?_; rintro e w2 ⟨rfl, hw2⟩
  subst hw2
  go_wp2
  go_ret
  exact ⟨rfl, B0.out⟩
theorem hStore0 (y : Int) (w : World) : Calls Try.prog 18 #[.agg #[.int .i64 y, .int .i64 0, .slice none 0 0, .slice none 0 0], .int .i64 1] w fun e w' => e = .returned (.int .i64 1) ∧ Below w.heap.size w w' := by
  obtain ⟨W0, hW0⟩ : ∃ W0, w.alloc (.cells #[.int .i64 y, .int .i64 0, .slice none 0 0, .slice none 0 0] 25) = W0 := ⟨_, rfl⟩
  have a0 : Sx W0 w.heap.size 25 y 0 (.slice none 0 0) (.slice none 0 0) := by subst hW0; exact Sx.new w _ y 0 _ _
  have b0 : Below w.heap.size w W0 := by subst hW0; exact bpush (bre _) _
  have c0 := a0.cells
  have B0 := hid b0
  have h1 : ¬ ((1 : Int) < 0) := by omega
  clear a0 b0
  go_enter Try.func18, Try.ntmps18
  go_wp2_with fail
  clear hW0
  refine (hBS0 _).mono ?_; rintro e w1 ⟨rfl, hw1⟩
  subst hw1
  go_wp2_with fail
  refine (hIS0 _).mono ?_; rintro e w2 ⟨rfl, hw2⟩
  subst hw2
  go_wp2
  go_ret
  exact ⟨rfl, B0.out⟩
theorem eStore0 (y : Int) (w : World) : Calls Try.prog 16 #[.agg #[.int .i64 y, .int .i64 0, .slice none 0 0, .slice none 0 0], .agg #[.int .i64 y, .int .i64 0, .slice none 0 0, .slice none 0 0]] w fun e w' => e = .returned (.bool true) ∧ Below w.heap.size w w' := by
  obtain ⟨W0, hW0⟩ : ∃ W0, ((w.alloc (.cells #[.int .i64 y, .int .i64 0, .slice none 0 0, .slice none 0 0] 25)).alloc (.cells #[.int .i64 y, .int .i64 0, .slice none 0 0, .slice none 0 0] 25)) = W0 := ⟨_, rfl⟩
  have a0 : Sx W0 w.heap.size 25 y 0 (.slice none 0 0) (.slice none 0 0) := by subst hW0; exact (Sx.new w _ y 0 _ _).later (bpush (bre _) _)
  have a1 : Sx W0 (w.heap.size + 1) 25 y 0 (.slice none 0 0) (.slice none 0 0) := by
    have h := Sx.new (w.alloc (.cells #[.int .i64 y, .int .i64 0, .slice none 0 0, .slice none 0 0] 25)) 25 y 0 (.slice none 0 0) (.slice none 0 0)
    have e : (w.alloc (.cells #[.int .i64 y, .int .i64 0, .slice none 0 0, .slice none 0 0] 25)).heap.size = w.heap.size + 1 := by simp
    rw [e, hW0] at h
    exact h
  have b0 : Below w.heap.size w W0 := by subst hW0; exact bpush (bpush (bre _) _) _
  have c0 := a0.cells
  have c1 := a1.cells
  have B0 := hid b0
  have e1 : (y != y) = false := by simp
  clear a0 a1 b0
  go_enter Try.func16, Try.ntmps16
  go_wp2_with fail
  clear hW0
  refine (eBS0 _).mono ?_; rintro e w1 ⟨rfl, hw1⟩
  subst hw1
  go_wp2_with fail
  refine (eIS0 _).mono ?_; rintro e w2 ⟨rfl, hw2⟩
  subst hw2
  go_wp2
  go_ret
  exact ⟨rfl, B0.out⟩
/-- What is kept at the beginning. -/
abbrev kn0 (y : Int) : Value := .agg #[.int .i64 y, .int .i64 0, .slice none 0 0, .slice none 0 0, .string ⟨#[]⟩, .int .i64 0]
abbrev kc0 (y : Int) : Array Value := #[.int .i64 y, .int .i64 0, .slice none 0 0, .slice none 0 0, .string ⟨#[]⟩, .int .i64 0]
theorem specStoreNew0 (y : Int) (w : World) : Calls Try.prog 14 #[.int .i64 y] w fun e w' => e = .returned (.agg #[.int .i64 y, .int .i64 0, .slice none 0 0, .slice none 0 0]) ∧ Below w.heap.size w w' := by
  have a0 := Sx.new w 25 0 0 (.slice none 0 0) (.slice none 0 0)
  have c0 := a0.cells
  have f0 := a0.loose
  clear a0
  go_enter Try.func14, Try.ntmps14
  go_wp2
  have d1 := (Sx.new w 25 y 0 (.slice none 0 0) (.slice none 0 0)).cells
  exact bodyPost_ret (v := .agg #[.int .i64 y, .int .i64 0, .slice none 0 0, .slice none 0 0]) (by simp [results, Try.results14, go_sem, d1]) rfl ⟨rfl, bpush (bre _) _⟩
theorem specKeptNew_any (y : Int) (w : World) : Calls Try.prog 5 #[.int .i64 y] w fun e w' => e = .returned (kn0 y) ∧ Below w.heap.size w w' := by
  have Z0 := hid (Kx.new w 27 0 0 (.slice none 0 0) (.slice none 0 0) ⟨#[]⟩ 0)
  have B0 := hid (bpush (bre w) (.cells (kc0 0) 27))
  go_enter Try.func5, Try.ntmps5
  go_wp2_with fail
  refine (specStoreNew0 y _).mono ?_; rintro e w1 ⟨rfl, hb⟩
  have Z1 := hid (Z0.out.later hb)
  have B1 := hid (btr B0.out hb)
  have d4 := Z1.out.cells
  have f4 := Z1.out.loose
  clear hb Z0 B0
  go_wp2
  have hX := heap_setCell_same _ w.heap.size 5 _ _ (.int .i64 0) (heap_setCell_same _ w.heap.size 4 _ _ (.string ⟨#[]⟩) (heap_setCell_same _ w.heap.size 3 _ _ (.slice none 0 0) (heap_setCell_same _ w.heap.size 2 _ _ (.slice none 0 0) (heap_setCell_same _ w.heap.size 1 _ _ (.int .i64 0) (heap_setCell_same _ w.heap.size 0 _ _ (.int .i64 y) Z1.out)))))
  have d := Kx.cells (y := y) (tm := 0) (bv := .slice none 0 0) (gv := .slice none 0 0) (jr := ⟨#[]⟩) (sv := 0) hX
  refine bodyPost_ret (v := kn0 y) (by simp [results, Try.results5, go_sem, d]) rfl ⟨rfl, ?_⟩
  exact bsk (bsk (bsk (bsk (bsk (bsk B1.out (Nat.le_refl _) 0 _) (Nat.le_refl _) 1 _) (Nat.le_refl _) 2 _) (Nat.le_refl _) 3 _) (Nat.le_refl _) 4 _) (Nat.le_refl _) 5 _
theorem implKeptNew_any (y : Int) (w : World) : Calls Try.prog 6 #[.int .i64 y] w fun e w' => e = .returned (kn0 y) ∧ Below w.heap.size w w' := by
  have Z0 := hid (Kx.new w 27 0 0 (.slice none 0 0) (.slice none 0 0) ⟨#[]⟩ 0)
  have B0 := hid (bpush (bre w) (.cells (kc0 0) 27))
  go_enter Try.func6, Try.ntmps6
  go_wp2_with fail
  refine (implStoreNew_any y _).mono ?_; rintro e w1 ⟨rfl, hb⟩
  have Z1 := hid (Z0.out.later hb)
  have B1 := hid (btr B0.out hb)
  have d4 := Z1.out.cells
  have f4 := Z1.out.loose
  clear hb Z0 B0
  go_wp2
  have hX := heap_setCell_same _ w.heap.size 5 _ _ (.int .i64 0) (heap_setCell_same _ w.heap.size 4 _ _ (.string ⟨#[]⟩) (heap_setCell_same _ w.heap.size 3 _ _ (.slice none 0 0) (heap_setCell_same _ w.heap.size 2 _ _ (.slice none 0 0) (heap_setCell_same _ w.heap.size 1 _ _ (.int .i64 0) (heap_setCell_same _ w.heap.size 0 _ _ (.int .i64 y) Z1.out)))))
  have d := Kx.cells (y := y) (tm := 0) (bv := .slice none 0 0) (gv := .slice none 0 0) (jr := ⟨#[]⟩) (sv := 0) hX
  refine bodyPost_ret (v := kn0 y) (by simp [results, Try.results6, go_sem, d]) rfl ⟨rfl, ?_⟩
  exact bsk (bsk (bsk (bsk (bsk (bsk B1.out (Nat.le_refl _) 0 _) (Nat.le_refl _) 1 _) (Nat.le_refl _) 2 _) (Nat.le_refl _) 3 _) (Nat.le_refl _) 4 _) (Nat.le_refl _) 5 _
theorem eKept0 (y : Int) (w : World) : Calls Try.prog 7 #[.agg #[.int .i64 y, .int .i64 0, .slice none 0 0, .slice none 0 0, .string ⟨#[]⟩, .int .i64 0], .agg #[.int .i64 y, .int .i64 0, .slice none 0 0, .slice none 0 0, .string ⟨#[]⟩, .int .i64 0]] w fun e w' => e = .returned (.bool true) ∧ Below w.heap.size w w' :=
  eqKept_of y 0 none 0 0 none 0 0 none 0 0 none 0 0 ⟨#[]⟩ 0 w (fun W _ => eStore0 y W)
theorem mKept0 (y : Int) (w : World) : Calls Try.prog 8 #[.agg #[.int .i64 y, .int .i64 0, .slice none 0 0, .slice none 0 0, .string ⟨#[]⟩, .int .i64 0], .int .i64 1] w fun e w' => e = .returned (.int .i64 1) ∧ Below w.heap.size w w' :=
  markKept_of y 0 none 0 0 none 0 0 ⟨#[]⟩ 0 1 1 w (fun w' => Below w.heap.size w w') (fun W hb => (mStore0 y W).mono fun _ _ h => ⟨h.1, btr hb h.2⟩)
theorem hKept0 (y : Int) (w : World) : Calls Try.prog 9 #[.agg #[.int .i64 y, .int .i64 0, .slice none 0 0, .slice none 0 0, .string ⟨#[]⟩, .int .i64 0], .int .i64 1] w fun e w' => e = .returned (.int .i64 1) ∧ Below w.heap.size w w' :=
  heldKept_of y 0 none 0 0 none 0 0 ⟨#[]⟩ 0 1 1 w (by decide) (fun W _ => hStore0 y W)
set_option maxHeartbeats 3200000 in
set_option maxRecDepth 100000 in
theorem lawKeptNew_any (y : Int) (w : World) : Calls Try.prog 3 #[.int .i64 y] w fun e w' => e = .returned (.bool true) ∧ Below w.heap.size w w' := by
  have CS := hid (fun (W : World) => specKeptNew_any y W)
  have CI := hid (fun (W : World) => implKeptNew_any y W)
  go_enter Try.func3, Try.ntmps3
  go_wp2_with fail
  refine (CS.out _).mono ?_; rintro e v1 ⟨rfl, hb1⟩
  obtain ⟨kA, hkA⟩ : ∃ x, v1.heap.size = x := ⟨_, rfl⟩
  have xA : Kx (v1.alloc (.cells #[.int .i64 y, .int .i64 0, .slice none 0 0, .slice none 0 0, .string ⟨#[]⟩, .int .i64 0] 27)) kA 27 y 0 (.slice none 0 0) (.slice none 0 0) ⟨#[]⟩ 0 := by rw [← hkA]; exact Kx.new _ _ _ _ _ _ _ _
  have hb2 := btr hb1 (bpush (bre v1) (.cells #[.int .i64 y, .int .i64 0, .slice none 0 0, .slice none 0 0, .string ⟨#[]⟩, .int .i64 0] 27))
  have B1 := hid hb2
  have A1 := hid xA
  have mA := xA.cells
  have nA := xA.loose
  clear hb1 hb2 xA
  go_wp2_with fail
  obtain ⟨W1, hW1⟩ : ∃ x, v1.alloc (.cells #[.int .i64 y, .int .i64 0, .slice none 0 0, .slice none 0 0, .string ⟨#[]⟩, .int .i64 0] 27) = x := ⟨_, rfl⟩
  rw [hW1] at A1 B1 ⊢
  clear hW1 hkA mA nA
  refine (CI.out _).mono ?_; rintro e v2 ⟨rfl, hb1⟩
  obtain ⟨kG, hkG⟩ : ∃ x, v2.heap.size = x := ⟨_, rfl⟩
  have xG : Kx (v2.alloc (.cells #[.int .i64 y, .int .i64 0, .slice none 0 0, .slice none 0 0, .string ⟨#[]⟩, .int .i64 0] 27)) kG 27 y 0 (.slice none 0 0) (.slice none 0 0) ⟨#[]⟩ 0 := by rw [← hkG]; exact Kx.new _ _ _ _ _ _ _ _
  have hb2 := btr hb1 (bpush (bre v2) (.cells #[.int .i64 y, .int .i64 0, .slice none 0 0, .slice none 0 0, .string ⟨#[]⟩, .int .i64 0] 27))
  have A2 := hid (A1.out.later hb2)
  have B2 := hid (btr B1.out hb2)
  have G2 := hid xG
  have mG := xG.cells
  have nG := xG.loose
  clear hb1 hb2 xG
  clear A1 B1
  have cA := A2.out.cells
  go_wp2_with fail
  obtain ⟨W2, hW2⟩ : ∃ x, v2.alloc (.cells #[.int .i64 y, .int .i64 0, .slice none 0 0, .slice none 0 0, .string ⟨#[]⟩, .int .i64 0] 27) = x := ⟨_, rfl⟩
  rw [hW2] at A2 G2 B2 ⊢
  clear hW2 hkG mG nG
  refine (eKept0 y _).mono ?_; rintro e v3 ⟨rfl, hb1⟩
  have A3 := hid (A2.out.later hb1)
  have G3 := hid (G2.out.later hb1)
  have B3 := hid (btr B2.out hb1)
  clear hb1 cA
  clear A2 G2 B2
  have cG := G3.out.cells
  go_wp2_with fail
  refine (mKept0 y _).mono ?_; rintro e v4 ⟨rfl, hb1⟩
  have A4 := hid (A3.out.later hb1)
  have G4 := hid (G3.out.later hb1)
  have B4 := hid (btr B3.out hb1)
  clear hb1 cG
  clear A3 G3 B3
  have cG := G4.out.cells
  go_wp2_with fail
  refine (hKept0 y _).mono ?_; rintro e v5 ⟨rfl, hb1⟩
  have A5 := hid (A4.out.later hb1)
  have G5 := hid (G4.out.later hb1)
  have B5 := hid (btr B4.out hb1)
  clear hb1 cG
  clear A4 G4 B4
  go_wp2_with fail
  refine (CI.out _).mono ?_; rintro e v6 ⟨rfl, hb1⟩
  obtain ⟨kH, hkH⟩ : ∃ x, v6.heap.size = x := ⟨_, rfl⟩
  have xH : Kx (v6.alloc (.cells #[.int .i64 y, .int .i64 0, .slice none 0 0, .slice none 0 0, .string ⟨#[]⟩, .int .i64 0] 27)) kH 27 y 0 (.slice none 0 0) (.slice none 0 0) ⟨#[]⟩ 0 := by rw [← hkH]; exact Kx.new _ _ _ _ _ _ _ _
  have hb2 := btr hb1 (bpush (bre v6) (.cells #[.int .i64 y, .int .i64 0, .slice none 0 0, .slice none 0 0, .string ⟨#[]⟩, .int .i64 0] 27))
  have A6 := hid (A5.out.later hb2)
  have G6 := hid (G5.out.later hb2)
  have B6 := hid (btr B5.out hb2)
  have H6 := hid xH
  have mH := xH.cells
  have nH := xH.loose
  clear hb1 hb2 xH
  clear A5 G5 B5
  have cA := A6.out.cells
  go_wp2_with fail
  obtain ⟨W6, hW6⟩ : ∃ x, v6.alloc (.cells #[.int .i64 y, .int .i64 0, .slice none 0 0, .slice none 0 0, .string ⟨#[]⟩, .int .i64 0] 27) = x := ⟨_, rfl⟩
  rw [hW6] at A6 G6 H6 B6 ⊢
  clear hW6 hkH mH nH
  refine (eKept0 y _).mono ?_; rintro e v7 ⟨rfl, hb1⟩
  have A7 := hid (A6.out.later hb1)
  have G7 := hid (G6.out.later hb1)
  have H7 := hid (H6.out.later hb1)
  have B7 := hid (btr B6.out hb1)
  clear hb1 cA
  clear A6 G6 H6 B6
  have cG := G7.out.cells
  go_wp2_with fail
  refine (hKept0 y _).mono ?_; rintro e v8 ⟨rfl, hb1⟩
  have A8 := hid (A7.out.later hb1)
  have G8 := hid (G7.out.later hb1)
  have H8 := hid (H7.out.later hb1)
  have B8 := hid (btr B7.out hb1)
  clear hb1 cG
  clear A7 G7 H7 B7
  go_wp2
  go_ret
  exact ⟨rfl, B8.out⟩
end Go.Proofs.Ytpannfkfaagflaa
