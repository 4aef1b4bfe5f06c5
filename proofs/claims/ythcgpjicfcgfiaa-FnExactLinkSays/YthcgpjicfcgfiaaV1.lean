/- Ma, Tkk, Mc, Md, Me, Mf, K7a, K7b, K7c. -/
import Derived.Test.YthcgpjicfcgfiaaProg
import Derived.WalkKit
import Derived.Laws.IdiomStrings
import Derived.WalkSpells
import Derived.WalkLawsBesides
import Derived.Lib.Strings
import Derived.Lib.BufferWrite
import Derived.Lib.UnsafeStr
import Derived.Laws.MakeOwn
import Derived.Below
import Derived.BigQuiet
import Derived.Deep.QuietTactic
import Derived.Deep.RegionHeld3
import Derived.Deep.Cut
import Derived.Laws.ShiftsVarLaws
import Derived.Lib.BufferMore
import Derived.Lib.ConvBytes
import Derived.Lib.ItoaNum
import Derived.ProofKit
import Derived.OpenShut
import Derived.Lib.SmallJoins
namespace Go.Proofs.Ythcgpjicfcgfiaa
open Go.RowKit
/-- A byte as a value. -/
def bv (b : UInt8) : Value := .int .u8 (b.toNat : Int)
/-- What a row of bytes that the call owns reads as. -/
theorem run_string_own {P : Program} (w : World) (src dst e : TypeId) (hs : P.underlying src = some (.slice e)) (he : P.underlying e = some (.int .u8)) (hd : P.underlying dst = some .string)
    {base n : Nat} {v : Value} (bs : List UInt8) (h : w.ownsRow base e 1 v n (bs.map bv)) :
    (convert src dst v).run P w = .ok (.string ⟨bs.toArray⟩) w := by
  have hl : bs.length = n := by simpa using h.1
  rcases h.2 with ⟨rfl, hn⟩ | ⟨g, cap, cur, rfl, _, hg, _, _, _, _⟩
  · have : bs = [] := List.eq_nil_of_length_eq_zero (by omega)
    subst this
    rw [run_convert_bytes_string w src dst e none 0 0 hs he hd]; rfl
  · subst hl
    refine run_convert_bytes_back w src dst e ⟨g, 0, none⟩ cap bs hs he hd (fun j hj => ?_)
    have := h.cells (g := g) rfl j (bv bs[j]) (by simp [hj])
    simpa [bv] using this
theorem u8_nat (k : Nat) (h : k < 256) : ((UInt8.ofNat k).toNat : Int) = (k : Int) := by
  simp [UInt8.toNat_ofNat']; omega
end Go.Proofs.Ythcgpjicfcgfiaa
namespace Go.Proofs.Ythcgpjicfcgfiaa
open Go.RowKit
theorem Try.info5 : (Try.prog.info? 5).map (fun i => (i.zero, i.size, i.bytes)) = some (some (.int .u8 0), 1, 1) := by kernel_rfl
theorem ret_str {a b : ByteArray} (h : a = b) : Ending.returned (.string a) = .returned (.string b) := by rw [h]
end Go.Proofs.Ythcgpjicfcgfiaa
namespace Go.Proofs.Ythcgpjicfcgfiaa
open Go.RowKit
set_option maxHeartbeats 1000000 in
set_option maxRecDepth 100000 in
theorem cloneLite_any (s : ByteArray) (w : World) (hlim : s.size ≤ 1048576) :
    Calls Try.prog 35 #[.string s] w fun e w' => e = .returned (.string s) ∧ Below w.heap.size w w' := by
  by_cases h0 : s.size = 0
  · obtain rfl : s = ⟨#[]⟩ := ByteArray.ext (Array.eq_empty_of_size_eq_zero h0)
    go_enter Try.func35, Try.ntmps35
    go_wp2
    go_ret
    exact ⟨rfl, Below.refl _ _⟩
  · obtain ⟨i0, hi, hz0, hz1, hz2⟩ := info_parts Try.info5
    have hinfo : (Try.prog.info? 5).map (·.size) = some 1 := by rw [hi]; simp [hz1]
    have hco : Try.prog.cellsOf 5 = 1 := by simp [Program.cellsOf, hi, hz1]
    obtain ⟨M, hM⟩ : ∃ M, M = madeCells (Value.int .u8 0).cells (((s.size : Nat) : Int).toNat * i0.size) := ⟨_, rfl⟩
    have hMs : M.size = s.size := by rw [hM, size_madeCells, hz1]; simp
    have hmk : ∀ W : World, (Instr.makeSlice 55 (.int .i64 (s.size : Int)) (.int .i64 (s.size : Int))).run Try.prog W = .ok (.slice (some ⟨W.heap.size, 0, none⟩) s.size s.size) (W.alloc (.cells M 5)) := fun W => by
      have h := run_make (P := Try.prog) W 55 5 i0 (.int .u8 0) Try.underlying55 hi hz0 .i64 .i64 (s.size : Int) (s.size : Int) (by omega) (by omega) (by rw [hz2]; omega) (by omega)
      rw [← hM] at h
      simpa using h
    clear hM
    have hcp := Lib.run_copy_row_string (P := Try.prog) (w.alloc (.cells M 5)) 55 9 3 5 w.heap.size 0 s.size s.size s M 5 Try.underlying55 hinfo (heap_alloc_new w _) (Nat.le_refl _) (by omega)
    obtain ⟨Y, hY⟩ : ∃ Y, Y = (M.toList.take 0 ++ Lib.byteCells s.data.toList ++ M.toList.drop (0 + s.size)).toArray := ⟨_, rfl⟩
    rw [← hY] at hcp
    have hYl : Y.toList = Lib.byteCells s.data.toList := by
      rw [hY, List.toList_toArray, List.take_zero, List.nil_append, List.drop_of_length_le (by rw [Array.length_toList]; omega), List.append_nil]
    have hYs : Y.size = s.size := by rw [← Array.length_toList, hYl, Lib.byteCells_length, ← Lib.size_eq]
    have hgY : ((w.alloc (.cells M 5)).setRow w.heap.size Y).heap[w.heap.size]? = some (.cells Y 5 (0, 0)) := setRow_heap _ _ M _ 5 (0, 0) (heap_alloc_new w _)
    have hne : s.data.toList ≠ [] := fun e => h0 (by rw [Lib.size_eq, e]; rfl)
    have hUS := Lib.run_unsafeString_row (P := Try.prog) ((w.alloc (.cells M 5)).setRow w.heap.size Y) 56 3 9 5 Try.underlying56 hco w.heap.size Y.size (by unfold World.shape?; rw [hgY]) s.data.toList hne (by rw [← Lib.size_eq]; omega) (by rw [← Lib.size_eq]; omega)
      (fun j x hx => Lib.cells_of_row hgY Y.size j _ (by rw [List.take_of_length_le (by rw [Array.length_toList]; exact Nat.le_refl _), hYl]; simp [Lib.byteCells, hx]))
    rw [← Lib.size_eq] at hUS
    clear hY
    go_enter Try.func35, Try.ntmps35
    go_wp2
    go_ret
    have hb1 : Below w.heap.size w (w.alloc (.cells M 5)) := (Below.refl _ w).alloc (Nat.le_refl _) _
    have hb2 : Below w.heap.size (w.alloc (.cells M 5)) ((w.alloc (.cells M 5)).setRow w.heap.size Y) := ⟨rfl, rfl, rfl, by simp, fun k hk => setRow_other _ _ _ _ (by omega)⟩
    exact ⟨rfl, Lib.below_freeze (hb1.trans hb2) (p := ⟨w.heap.size, 0, none⟩) (Nat.le_refl _) _⟩
theorem clone_any (s : ByteArray) (w : World) (hlim : s.size ≤ 1048576) :
    Calls Try.prog 29 #[.string s] w fun e w' => e = .returned (.string s) ∧ Below w.heap.size w w' := by
  go_enter Try.func29, Try.ntmps29
  go_wp2_with fail
  refine (cloneLite_any s _ hlim).mono ?_; rintro e w1 ⟨rfl, hb1⟩
  go_wp2
  go_ret
  exact ⟨rfl, hb1⟩
end Go.Proofs.Ythcgpjicfcgfiaa
namespace Go.Proofs.Ythcgpjicfcgfiaa
open Go.RowKit
/-- Which of two stamps is later. -/
def later (t b t' b' : Int) : Bool := if t = t' then decide (b' < b) else decide (t' < t)
theorem bpush {a w : World} (h : Below a.heap.size a w) (o : Obj) : Below a.heap.size a (w.alloc o) := h.alloc h.size o
theorem btr {a b c : World} (h : Below a.heap.size a b) (k : Below b.heap.size b c) : Below a.heap.size a c := h.trans (k.mono h.size)
theorem bre (a : World) : Below a.heap.size a a := Below.refl _ _
theorem bdr {a w : World} (h : Below a.heap.size a w) : Below a.heap.size a w.drew := h.drew
theorem bset {a w : World} (h : Below a.heap.size a w) {p : Addr} (hp : a.heap.size ≤ p.block) (u : Value) : Below a.heap.size a (w.setCell p u) := h.setCell hp u
def cb (v t b v' t' b' : Int) : Bool := if t = t' ∧ b = b' then decide (v' < v) else later t b t' b'
end Go.Proofs.Ythcgpjicfcgfiaa
namespace Go.Proofs.Ythcgpjicfcgfiaa
open Go.RowKit
end Go.Proofs.Ythcgpjicfcgfiaa
namespace Go.Proofs.Ythcgpjicfcgfiaa
open Go.RowKit
end Go.Proofs.Ythcgpjicfcgfiaa
namespace Go.Proofs.Ythcgpjicfcgfiaa
open Go.RowKit
end Go.Proofs.Ythcgpjicfcgfiaa
namespace Go.Proofs.Ythcgpjicfcgfiaa
open Go.RowKit
end Go.Proofs.Ythcgpjicfcgfiaa
namespace Go.Proofs.Ythcgpjicfcgfiaa
open Go.RowKit Go.ChangeMaps
theorem bb {B : Nat} {w w1 : World} (h : Below B w w1 := by repeat (first | exact bre _ | refine bdr ?_ | refine btr ?_ (by assumption) | refine bpush ?_ _)) : Below B w w1 := h
theorem tp0 (a : Act) (v : Value) : a.put none v = a := rfl
theorem tp1 (a : Act) (t : Tmp) (v : Value) : a.put (some t) v = { a with tmps := a.tmps.setIfInBounds t v } := rfl
theorem tp2 {α : Type} (l : List α) (i : Nat) (x : α) : l.toArray.setIfInBounds i x = (l.set i x).toArray := List.setIfInBounds_toArray ..
theorem tp3 {α : Type} (a : α) (l : List α) (x : α) : (a :: l).set 0 x = x :: l := rfl
theorem tp4 {α : Type} (a : α) (l : List α) (i : Nat) (x : α) : (a :: l).set (i + 1) x = a :: l.set i x := rfl
section
variable {P : Program} {ops : Array Oper} {Q : Exit → Act → World → Prop} {md : Region.Mode} {S : World → Prop} {d : Option Tmp} {o : Op} {t : TypeId} {ps : String} {af : Array Edge} {gd : Option (Nat × Bool)} {v : Value} {fuel : Nat} {listed : Array Bool} {a a2 : Act} {w : World}
theorem tk (i : Nat) (h : wpAnyH P md ops Q S fuel (listed.setIfInBounds i true) a2 w)
    (hi : ops[i]? = some ⟨d, o, t, ps, af, gd⟩ := by (first | (simp only [List.getElem?_toArray, List.getElem?_cons_succ, List.getElem?_cons_zero]; rfl) | rfl)) (hs : Region.noSelect ops = true := by kernel_rfl) (hf : Region.free md ops listed i = true := by kernel_rfl) (hr : (Region.ready md ops listed).contains i = true := by kernel_rfl)
    (hw : Region.wanted ⟨d, o, t, ps, af, gd⟩ (yielded ops a.tmps) = true := by rfl) (hy : ∀ w, S w → (execOp a.eval ⟨d, o, t, ps, af, gd⟩).run P w = .ok (.value v) w := by (intro w hSw; (try dsimp only at hSw); go_simp; try with_reducible rfl)) (hS : S w := by assumption)
    (hQ : ∀ c a w, Q (.panic c) (a.put d v) w → Q (.panic c) a w := by exact fun _ _ _ h => h)
    (hp : a.put d v = a2 := by (first | (simp only [tp0, tp1, tp2, tp3, tp4]; done) | (simp only [tp0, tp1, tp2, tp3, tp4]; rfl) | rfl)) : wpAnyH P md ops Q S (fuel + 1) listed a w :=
  wpAnyH_take hi hs hf hr hQ (Or.inl ⟨hw, hy⟩) hS (by subst hp; exact h)
theorem tn (i : Nat) (h : wpAnyH P md ops Q S fuel (listed.setIfInBounds i true) a2 w)
    (hi : ops[i]? = some ⟨d, o, t, ps, af, gd⟩ := by (first | (simp only [List.getElem?_toArray, List.getElem?_cons_succ, List.getElem?_cons_zero]; rfl) | rfl)) (hs : Region.noSelect ops = true := by kernel_rfl) (hf : Region.free md ops listed i = true := by kernel_rfl) (hr : (Region.ready md ops listed).contains i = true := by kernel_rfl)
    (hw : Region.wanted ⟨d, o, t, ps, af, gd⟩ (yielded ops a.tmps) = false := by rfl) (hS : S w := by assumption)
    (hQ : ∀ c a w, Q (.panic c) (a.put d undef) w → Q (.panic c) a w := by exact fun _ _ _ h => h)
    (hp : a.put d undef = a2 := by (first | (simp only [tp0, tp1, tp2, tp3, tp4]; done) | (simp only [tp0, tp1, tp2, tp3, tp4]; rfl) | rfl)) : wpAnyH P md ops Q S (fuel + 1) listed a w :=
  wpAnyH_take hi hs hf hr hQ (Or.inr ⟨hw, rfl⟩) hS (by subst hp; exact h)
theorem rc {i : Nat} {rs : List Nat}
    (h : ∀ K' : Act → World → Prop, Shut (∀ a w, S w → (S w → wpAnyH P md ops Q S fuel (listed.setIfInBounds i true) a w) → K' a w) → if Region.wanted ⟨d, o, t, ps, af, gd⟩ (yielded ops a.tmps) = true then Oper.wp P ⟨d, o, t, ps, af, gd⟩ a w K' Q else K' (a.put d undef) w)
    (hs : AllReadyH P md ops Q S fuel listed a w rs) (hi : ops[i]? = some ⟨d, o, t, ps, af, gd⟩ := by (first | (simp only [List.getElem?_toArray, List.getElem?_cons_succ, List.getElem?_cons_zero]; rfl) | rfl)) : AllReadyH P md ops Q S fuel listed a w (i :: rs) := AllReadyH.cons hi h hs
theorem ry (i : Nat)
    (h : ∀ K' : Act → World → Prop, Shut (∀ a w, S w → (S w → wpAnyH P md ops Q S fuel (listed.setIfInBounds i true) a w) → K' a w) → if Region.wanted ⟨d, o, t, ps, af, gd⟩ (yielded ops a.tmps) = true then Oper.wp P ⟨d, o, t, ps, af, gd⟩ a w K' Q else K' (a.put d undef) w)
    (hr : Region.ready md ops listed = [i] := by kernel_rfl) (hi : ops[i]? = some ⟨d, o, t, ps, af, gd⟩ := by (first | (simp only [List.getElem?_toArray, List.getElem?_cons_succ, List.getElem?_cons_zero]; rfl) | rfl)) : wpAnyH P md ops Q S (fuel + 1) listed a w := wpAnyH_ready hr (by simp) (AllReadyH.cons hi h AllReadyH.nil)
theorem rl {i : Nat}
    (h : ∀ K' : Act → World → Prop, Shut (∀ a w, S w → (S w → wpAnyH P md ops Q S fuel (listed.setIfInBounds i true) a w) → K' a w) → if Region.wanted ⟨d, o, t, ps, af, gd⟩ (yielded ops a.tmps) = true then Oper.wp P ⟨d, o, t, ps, af, gd⟩ a w K' Q else K' (a.put d undef) w)
    (hi : ops[i]? = some ⟨d, o, t, ps, af, gd⟩ := by (first | (simp only [List.getElem?_toArray, List.getElem?_cons_succ, List.getElem?_cons_zero]; rfl) | rfl)) : AllReadyH P md ops Q S fuel listed a w [i] := AllReadyH.cons hi h AllReadyH.nil
end
end Go.Proofs.Ythcgpjicfcgfiaa
namespace Go.Proofs.Ythcgpjicfcgfiaa
open Go.RowKit
theorem hid {p : Prop} (h : p) : Hid p := h
/-- A register as three numbers: its value, its stamp's time, its stamp's server. -/
abbrev R3 := Int × Int × Int
theorem own_base {w : World} {B B' e size n : Nat} {v : Value} {xs : List Value} (h : w.ownsRow B' e size v n xs) (hB : B ≤ B') : w.ownsRow B e size v n xs :=
  ⟨h.1, h.2.imp id (fun ⟨g, cap, cur, a, b, c⟩ => ⟨g, cap, cur, a, Nat.le_trans hB b, c⟩)⟩
end Go.Proofs.Ythcgpjicfcgfiaa
namespace Go.Proofs.Ythcgpjicfcgfiaa
open Go.RowKit
theorem info_parts3 {P : Program} {e : Nat} {z : Value} {s b : Nat} (h : (P.info? e).map (fun i => (i.zero, i.size, i.bytes)) = some (some z, s, b)) : ∃ i, P.info? e = some i ∧ i.zero = some z ∧ i.size = s ∧ i.bytes = b := by
  cases hi : P.info? e with
  | none => rw [hi] at h; cases h
  | some i =>
    rw [hi] at h
    simp only [Option.map_some, Option.some.injEq, Prod.mk.injEq] at h
    exact ⟨i, rfl, h.1, h.2.1, h.2.2⟩
end Go.Proofs.Ythcgpjicfcgfiaa
namespace Go.Proofs.Ythcgpjicfcgfiaa
open Go.RowKit
theorem wtr {a b c : World} {r : Option Nat} (h : a.grownBy b r) (k : b.grownBy c r) : a.grownBy c r :=
  ⟨k.os.trans h.os, k.tape.trans h.tape, k.output.trans h.output, Nat.le_trans h.size k.size, fun i hi hr => (k.block i (Nat.lt_of_lt_of_le hi h.size) hr).trans (h.block i hi hr)⟩
theorem wre (a : World) (r : Option Nat) : a.grownBy a r := ⟨rfl, rfl, rfl, Nat.le_refl _, fun _ _ _ => rfl⟩
theorem wst {a w : World} {g : Nat} (h : a.grownBy w (some g)) (i : Nat) (u : Value) : a.grownBy (w.setCell ⟨g, i, none⟩ u) (some g) :=
  wtr h ⟨rfl, rfl, rfl, by simp [World.setCell], fun k _ hk => Below.heap_setCell _ _ _ _ (fun e => hk (by simpa using e))⟩
theorem below_of_grown {B g : Nat} {a w : World} (h : a.grownBy w (some g)) (hB : B ≤ g) (hs : B ≤ a.heap.size) : Below B a w :=
  ⟨h.os, h.tape, h.output, h.size, fun k hk => h.block k (by omega) (by simp; omega)⟩
end Go.Proofs.Ythcgpjicfcgfiaa
namespace Go.Proofs.Ythcgpjicfcgfiaa
open Go.RowKit
end Go.Proofs.Ythcgpjicfcgfiaa
namespace Go.Proofs.Ythcgpjicfcgfiaa
open Go.RowKit
end Go.Proofs.Ythcgpjicfcgfiaa
namespace Go.Proofs.Ythcgpjicfcgfiaa
open Go.RowKit
end Go.Proofs.Ythcgpjicfcgfiaa
namespace Go.Proofs.Ythcgpjicfcgfiaa
open Go.RowKit
theorem addr_add (k o j : Nat) : (⟨k, o, none⟩ : Addr).add j = ⟨k, o + j, none⟩ := by unfold Addr.add; split <;> simp_all
end Go.Proofs.Ythcgpjicfcgfiaa
namespace Go.Proofs.Ythcgpjicfcgfiaa
open Go.RowKit
end Go.Proofs.Ythcgpjicfcgfiaa
namespace Go.Proofs.Ythcgpjicfcgfiaa
open Go.RowKit
/-- A drawn flag: 0 or 1, its stamp right. -/
def gd (p : R3) : Prop := (0 ≤ p.1 ∧ p.1 < 2) ∧ 0 ≤ p.2.1 ∧ p.2.1 < 12 ∧ 1 ≤ p.2.2 ∧ p.2.2 ≤ 2
end Go.Proofs.Ythcgpjicfcgfiaa
namespace Go.Proofs.Ythcgpjicfcgfiaa
open Go.RowKit
end Go.Proofs.Ythcgpjicfcgfiaa
namespace Go.Proofs.Ythcgpjicfcgfiaa
open Go.RowKit
/-- A list of three. -/
theorem three {l : List R3} (h : l.length = 3) : ∃ p q r, l = [p, q, r] := by
  match l, h with
  | [p, q, r], _ => exact ⟨p, q, r, rfl⟩
theorem bdn {B : Nat} {w w1 : World} (h : Below B w w1) (k : Nat) : Below B w (w1.drewN k) := ⟨h.os, h.tape, h.output, h.size, h.block⟩
end Go.Proofs.Ythcgpjicfcgfiaa
namespace Go.Proofs.Ythcgpjicfcgfiaa
open Go.RowKit
end Go.Proofs.Ythcgpjicfcgfiaa
namespace Go.Proofs.Ythcgpjicfcgfiaa
open Go.RowKit
end Go.Proofs.Ythcgpjicfcgfiaa
namespace Go.Proofs.Ythcgpjicfcgfiaa
open Go.RowKit
end Go.Proofs.Ythcgpjicfcgfiaa
namespace Go.Proofs.Ythcgpjicfcgfiaa
open Go.RowKit
end Go.Proofs.Ythcgpjicfcgfiaa
namespace Go.Proofs.Ythcgpjicfcgfiaa
open Go.RowKit
end Go.Proofs.Ythcgpjicfcgfiaa
namespace Go.Proofs.Ythcgpjicfcgfiaa
open Go.RowKit
theorem below_grownR {B : Nat} {a w : World} {r : Option Nat} (h : a.grownBy w r) (hB : ∀ j, r = some j → B ≤ j) (hs : B ≤ a.heap.size) : Below B a w :=
  ⟨h.os, h.tape, h.output, h.size, fun k hk => h.block k (by omega) (fun e => by have := hB k e.symm; omega)⟩
end Go.Proofs.Ythcgpjicfcgfiaa
namespace Go.Proofs.Ythcgpjicfcgfiaa
open Go.RowKit
end Go.Proofs.Ythcgpjicfcgfiaa
namespace Go.Proofs.Ythcgpjicfcgfiaa
open Go.RowKit
end Go.Proofs.Ythcgpjicfcgfiaa
namespace Go.Proofs.Ythcgpjicfcgfiaa
open Go.RowKit
theorem data_len (s : ByteArray) : s.data.toList.length = s.size := Array.length_toList
end Go.Proofs.Ythcgpjicfcgfiaa
namespace Go.Proofs.Ythcgpjicfcgfiaa
open Go.RowKit Go.ChangeMaps
theorem cell_sameT {w w' : World} {p : Addr} (h : w'.heap[p.block]? = w.heap[p.block]?) : w'.cell? p = w.cell? p := by unfold World.cell?; rw [h]
/-- The slice of address a is the texts of G, in blocks from lo on, below hi. -/
def Ss (lo hi : Nat) (W : World) (a : Option Addr) (G : List ByteArray) : Prop :=
  hi ≤ W.heap.size ∧ ∀ i (h : i < G.length), ∃ k o, a = some ⟨k, o, none⟩ ∧ lo ≤ k ∧ k < hi ∧ W.cell? ⟨k, o + i, none⟩ = some (.string G[i])
theorem Ss.same {lo hi : Nat} {W W' : World} {a : Option Addr} {G : List ByteArray} (h : Ss lo hi W a G) (hs : hi ≤ W'.heap.size) (hk : ∀ k, lo ≤ k → k < hi → W'.heap[k]? = W.heap[k]?) : Ss lo hi W' a G := by
  refine ⟨hs, fun i hi' => ?_⟩
  obtain ⟨k, o, h1, h2, h3, c⟩ := h.2 i hi'
  exact ⟨k, o, h1, h2, h3, (cell_sameT (p := ⟨k, _, none⟩) (hk k h2 h3)).trans c⟩
theorem Ss.later {lo hi : Nat} {W W' : World} {a : Option Addr} {G : List ByteArray} (h : Ss lo hi W a G) (hb : Below W.heap.size W W') : Ss lo hi W' a G :=
  h.same (Nat.le_trans h.1 hb.size) (fun k _ hk => hb.block k (Nat.lt_of_lt_of_le hk h.1))
theorem Ss.at {lo hi : Nat} {W : World} {a : Option Addr} {G : List ByteArray} (h : Ss lo hi W a G) {i : Nat} (hi' : i < G.length) : ∃ k o, a = some ⟨k, o, none⟩ ∧ k < W.heap.size ∧ W.cell? ⟨k, o + i, none⟩ = some (.string G[i]) := by
  obtain ⟨k, o, e1, e2, e3, e4⟩ := h.2 i hi'
  exact ⟨k, o, e1, Nat.lt_of_lt_of_le e3 h.1, e4⟩
/-- A row of texts that a call owns. -/
abbrev OwV (W : World) (B : Nat) (v : Value) (G : List ByteArray) : Prop := W.ownsRow B 9 1 v G.length (G.map (Value.string))
theorem OwV.is {W : World} {B n c : Nat} {a : Option Addr} {G : List ByteArray} (h : OwV W B (.slice a n c) G) : n = G.length ∧ Ss B W.heap.size W a G := by
  have hw := h
  rcases h.2 with ⟨h1, h2⟩ | ⟨g, cap, cur, h1, h2, h3, h4, h5, h6, h7⟩
  · simp only [Value.slice.injEq] at h1
    exact ⟨by omega, Nat.le_refl _, fun i hi => by omega⟩
  · simp only [Value.slice.injEq] at h1
    obtain ⟨rfl, rfl, rfl⟩ := h1
    refine ⟨rfl, Nat.le_refl _, fun i hi => ⟨g, 0, rfl, h2, (Array.getElem?_eq_some_iff.1 h3).1, ?_⟩⟩
    simp only [Nat.zero_add]
    rw [hw.cellAt i (by omega), List.getElem?_map, List.getElem?_eq_getElem hi]
    rfl
theorem OwV.shape {W : World} {B : Nat} {v : Value} {G : List ByteArray} (h : OwV W B v G) : ∃ a c, v = .slice a G.length c ∧ (a = none → c = 0) := by
  rcases h.2 with ⟨h1, h2⟩ | ⟨g, cap, cur, h1, _⟩
  · exact ⟨none, 0, by rw [h1, h2], fun _ => rfl⟩
  · exact ⟨_, _, h1, fun h => by simp at h⟩
theorem OwV.stored {W : World} {B g n c : Nat} {G : List ByteArray} (h : OwV W B (.slice (some ⟨g, 0, none⟩) n c) G) (i : Nat) (x : ByteArray) :
    OwV (W.setCell ⟨g, i, none⟩ (.string x)) B (.slice (some ⟨g, 0, none⟩) n c) (G.set i x) := by
  obtain rfl := (OwV.is h).1
  have h1 := (World.ownsRow.stored h i (.string x)).1
  rw [← List.map_set] at h1
  simpa [OwV] using h1
theorem info_str17 : (Try.prog.info? 9).map (fun i => (i.zero, i.size, i.bytes)) = some (some (.string ⟨#[]⟩), 1, 16) := by kernel_rfl
theorem str_rep (n : Nat) : (madeCells #[.string ⟨#[]⟩] (n * 1)).toList = (List.replicate n (⟨#[]⟩ : ByteArray)).map Value.string := by
  apply List.ext_getElem?
  intro j
  by_cases hj : j < n <;> simp [madeCells, hj, Nat.mod_one]
/-- A new row of n texts. -/
theorem make_str (n : Nat) (hn : n ≤ 1048576) : ∃ M : Array Value, Hid (∀ W : World, OwV (W.alloc (.cells M 9)) W.heap.size (.slice (some ⟨W.heap.size, 0, none⟩) n n) (List.replicate n ⟨#[]⟩)) ∧
    ∀ W : World, (Instr.makeSlice 22 (.int .i64 (n : Int)) (.int .i64 (n : Int))).run Try.prog W = .ok (.slice (some ⟨W.heap.size, 0, none⟩) n n) (W.alloc (.cells M 9)) := by
  obtain ⟨i0, hi, hz0, hz1, hz2⟩ := info_parts3 info_str17
  refine ⟨madeCells #[.string ⟨#[]⟩] (n * 1), fun W => ?_, fun W => ?_⟩
  · have h := World.ownsRow_lit (base := W.heap.size) (e := 9) (size := 1) W (madeCells #[.string ⟨#[]⟩] (n * 1)) n (Nat.le_refl _) (by unfold maxLen; omega) (size_madeCells _ _)
    rw [str_rep] at h
    simpa [OwV] using h
  · have h := run_make (P := Try.prog) W 22 9 i0 (.string ⟨#[]⟩) Try.underlying22 hi hz0 .i64 .i64 (n : Int) (n : Int) (by omega) (by omega) (by rw [hz2]; omega) (by omega)
    rw [hz1, Int.toNat_natCast] at h
    exact h
set_option maxHeartbeats 800000 in
set_option maxRecDepth 100000 in
theorem toStringS_any (lo hi : Nat) (ao : Option Addr) (n cap : Nat) (G : List ByteArray) (w : World) (hl : G.length = n) (hn : n ≤ 1048576) (hr : Ss lo hi w ao G) :
    Calls Try.prog 24 #[.slice ao n cap] w fun e w' => e = .returned (.slice (some ⟨w.heap.size, 0, none⟩) n n) ∧ OwV w' w.heap.size (.slice (some ⟨w.heap.size, 0, none⟩) n n) G ∧ Below w.heap.size w w' := by
  obtain ⟨M, hM, hmk⟩ := make_str n hn
  have HR := hid hr
  have HL := hid hl
  clear hr hl
  go_enter Try.func24, Try.ntmps24
  go_wp2
  clear hmk
  go_loopw [4] (fun iv wr => ∃ i : Nat, i ≤ n ∧ iv = .int .i64 (i : Int) ∧ (∃ F : List ByteArray, F.length = n ∧ F.take i = G.take i ∧ OwV wr w.heap.size (.slice (some ⟨w.heap.size, 0, none⟩) n n) F) ∧ Below w.heap.size w wr) (fun iv _ => n - (intOf iv).toNat)
  case atStart => exact ⟨0, Nat.zero_le _, rfl, ⟨_, List.length_replicate, by simp, hM.out w⟩, bpush (bre _) _⟩
  case round =>
    obtain ⟨i, hi, rfl, ⟨F, hFn, hFt, hown⟩, hb⟩ := hrel
    have HO := hid hown
    have HFN := hid hFn
    have HFT := hid hFt
    have hsz := hb.size
    by_cases hlt : i < n
    · have hil : i < G.length := by rw [HL.out]; exact hlt
      obtain ⟨k, o, rfl, hk, c0⟩ := (HR.out.later hb).at hil
      obtain ⟨x, hx⟩ : ∃ x, G[i] = x := ⟨_, rfl⟩
      rw [hx] at c0
      have HX := hid hx
      have hif : i < F.length := by rw [hFn]; exact hlt
      obtain ⟨k', o', e', hk', c1⟩ := (OwV.is hown).2.at hif
      simp only [Option.some.injEq, Addr.mk.injEq, and_true] at e'
      obtain ⟨rfl, rfl⟩ := e'
      simp only [Nat.zero_add] at c1
      subst hFn
      have hfz := World.ownsRow.frozenAt hown i
      have HST := hid (OwV.stored hown i x)
      clear hx hown hFt
      go_wp2
      go_roundw
      case rel =>
        refine ⟨i + 1, by omega, by go_num, ⟨_, by rw [List.length_set], ?_, HST.out⟩, bset hb (Nat.le_refl _) _⟩
        rw [List.take_succ_eq_append_getElem (by rw [List.length_set]; exact hif), List.take_succ_eq_append_getElem hil, List.take_set_of_le (Nat.le_refl _), HFT.out, List.getElem_set_self, HX.out]
      case measure => simp [intOf]; omega
    · have HE : Hid (F = G) := by
        show _ = _
        have := HFT.out
        rwa [List.take_of_length_le (by rw [HFN.out]; omega), List.take_of_length_le (by rw [HL.out]; omega)] at this
      clear hFn hFt hown
      go_wp2
      go_ret
      exact ⟨rfl, HE.out ▸ HO.out, hb⟩
set_option maxHeartbeats 800000 in
set_option maxRecDepth 100000 in
/-- Two rows of the same texts are told alike. -/
theorem eqStrV_any (l1 h1 l2 h2 : Nat) (ao bo : Option Addr) (n ca cb : Nat) (G : List ByteArray) (w : World) (hl : G.length = n) (hn : n ≤ 1048576) (ha : Ss l1 h1 w ao G) (hb : Ss l2 h2 w bo G) :
    Calls Try.prog 18 #[.slice ao n ca, .slice bo n cb] w fun e w' => e = .returned (.bool true) ∧ Below w.heap.size w w' := by
  have hnn : ((n : Int) != (n : Int)) = false := by simp
  have HA := hid ha
  have HB := hid hb
  have HL := hid hl
  clear ha hb hl
  go_enter Try.func18, Try.ntmps18
  go_wp2
  clear hnn
  go_loopw [5] (fun iv wr => ∃ i : Nat, i ≤ n ∧ iv = .int .i64 (i : Int) ∧ Below w.heap.size w wr) (fun iv _ => n - (intOf iv).toNat)
  case atStart => exact ⟨0, Nat.zero_le _, rfl, bre _⟩
  case round =>
    obtain ⟨i, hi, rfl, hb⟩ := hrel
    have HBE := hid hb
    clear hb
    by_cases hlt : i < n
    · have hil : i < G.length := by rw [HL.out]; exact hlt
      obtain ⟨k, o, rfl, hk, c⟩ := (HA.out.later HBE.out).at hil
      obtain ⟨k', o', rfl, hk', d⟩ := (HB.out.later HBE.out).at hil
      obtain ⟨x, hx⟩ : ∃ x, G[i] = x := ⟨_, rfl⟩
      rw [hx] at c d
      clear hx
      have hI : (0 : Int) ≤ (i : Int) ∧ (i : Int) < (n : Int) := by omega
      have hxx : (!x.toList == x.toList) = false := by simp
      go_wp2_with fail
      go_quiet (fail)
      go_wp2
      go_roundw
      case rel => exact ⟨i + 1, by omega, by go_num, bdn HBE.out _⟩
      case measure => simp [intOf]; omega
    · go_wp2
      go_ret
      exact ⟨rfl, HBE.out⟩
set_option maxHeartbeats 800000 in
set_option maxRecDepth 100000 in
/-- What szStringS leaves: below 0, or the row and each of its texts are small. -/
theorem szStr_any (lo hi : Nat) (ao : Option Addr) (n cap : Nat) (G : List ByteArray) (lf : Int) (w : World) (hl : G.length = n) (hn : (n : Int) ≤ 9223372036854775807) (hz : ∀ x ∈ G, (x.size : Int) ≤ 9223372036854775807) (hlf : 0 ≤ lf ∧ lf ≤ 1048576) (hr : Ss lo hi w ao G) :
    Calls Try.prog 21 #[.slice ao n cap, .int .i64 lf] w fun e w' => (∃ r : Int, e = .returned (.int .i64 r) ∧ -1 ≤ r ∧ r ≤ lf ∧ (0 ≤ r → (n : Int) ≤ lf ∧ ∀ x ∈ G, (x.size : Int) ≤ lf)) ∧ w' = w := by
  have HR := hid hr
  have HL := hid hl
  have HZ := hid hz
  clear hr hl hz
  by_cases h1 : lf < (n : Int)
  · have h2 : lf - (n : Int) < 0 := by omega
    go_enter Try.func21, Try.ntmps21
    go_wp2
    go_ret
    exact ⟨⟨-1, rfl, by omega, by omega, fun h => by omega⟩, rfl⟩
  · have h2 : ¬ lf - (n : Int) < 0 := by omega
    go_enter Try.func21, Try.ntmps21
    go_wp2
    go_loopw [1, 5] (fun lv iv wr => ∃ (i : Nat) (m : Int), i ≤ n ∧ iv = .int .i64 (i : Int) ∧ lv = .int .i64 m ∧ 0 ≤ m ∧ m ≤ lf ∧ Hid (∀ x ∈ G.take i, (x.size : Int) ≤ lf) ∧ w = wr) (fun _ iv _ => n - (intOf iv).toNat)
    case atStart => exact ⟨0, _, Nat.zero_le _, rfl, rfl, by omega, by omega, by intro x hx; simp at hx, rfl⟩
    case round =>
      obtain ⟨i, m, hi, rfl, rfl, h0, hm, HT, rfl⟩ := hrel
      clear h2
      by_cases hlt : i < n
      · have hil : i < G.length := by rw [HL.out]; exact hlt
        obtain ⟨k, o, rfl, hk, c⟩ := HR.out.at hil
        have hzx := HZ.out G[i] (List.getElem_mem hil)
        obtain ⟨x, hx⟩ : ∃ x, G[i] = x := ⟨_, rfl⟩
        rw [hx] at c hzx
        have HX := hid hx
        clear hx
        by_cases h3 : m < (x.size : Int)
        · have h4 : m - (x.size : Int) < 0 := by omega
          go_wp2
          go_ret
          exact ⟨⟨-1, rfl, by omega, by omega, fun h => by omega⟩, rfl⟩
        · have h4 : ¬ m - (x.size : Int) < 0 := by omega
          have HT2 : Hid (∀ x ∈ G.take (i + 1), (x.size : Int) ≤ lf) := by
            intro y hy
            rw [List.take_succ_eq_append_getElem hil] at hy
            rcases List.mem_append.1 hy with h | h
            · exact HT.out y h
            · simp only [List.mem_singleton] at h
              rw [h, HX.out]
              omega
          go_wp2
          go_roundw
          case rel => exact ⟨i + 1, m - (x.size : Int), by omega, by go_num, by go_num, by omega, by omega, HT2, trivial⟩
          case measure => simp [intOf]; omega
      · have HE : Hid (∀ x ∈ G, (x.size : Int) ≤ lf) := by
          intro y hy
          exact HT.out y (by rw [List.take_of_length_le (by rw [HL.out]; omega)]; exact hy)
        go_wp2
        go_ret
        exact ⟨⟨m, rfl, by omega, hm, fun _ => ⟨by omega, HE.out⟩⟩, rfl⟩
def mdgK (n : Nat) : List UInt8 := Lib.decDigits n
theorem mdgK_small (n : Nat) (h : n < 10) : mdgK n = [UInt8.ofNat (48 + n)] := by unfold mdgK; rw [Lib.decDigits, dif_pos h]
theorem mdgK_big (n : Nat) (h : ¬ n < 10) : mdgK n = mdgK (n / 10) ++ [UInt8.ofNat (48 + n % 10)] := by unfold mdgK; rw [Lib.decDigits, dif_neg h]
theorem mdgK_len : ∀ (k n : Nat), n < 10 ^ (k + 1) → (mdgK n).length ≤ k + 1
  | 0, n, h => by rw [mdgK_small n (by simpa using h)]; simp
  | k + 1, n, h => by
    by_cases hn : n < 10
    · rw [mdgK_small n hn]; simp
    · rw [mdgK_big n hn]
      have := mdgK_len k (n / 10) (by rw [Nat.pow_succ] at h; omega)
      simp; omega
def mdzK (n : Nat) : List UInt8 := if n = 0 then [] else mdgK n
theorem mdzK_pos (n : Nat) (h : n ≠ 0) : mdzK n = mdgK n := by simp [mdzK, h]
theorem mdzK_step (m : Nat) (h : m ≠ 0) : mdzK m = mdzK (m / 10) ++ [UInt8.ofNat (48 + m % 10)] := by
  rw [mdzK_pos m h]
  by_cases h1 : m < 10
  · rw [mdgK_small m h1, show m / 10 = 0 by omega, show mdzK 0 = [] from rfl, show m % 10 = m by omega]; rfl
  · rw [mdgK_big m h1, mdzK_pos _ (by omega)]
theorem mu8K (x : Nat) (h : x < 10) : ((UInt8.ofNat (48 + x)).toNat : Int) = 48 + (x : Int) := by rw [u8_nat _ (by omega)]; omega
theorem mrun_oneK (b : UInt8) (w : World) : (convert 55 9 (.slice (some ⟨w.heap.size, 0, none⟩) 1 1)).run Try.prog (w.alloc (.cells #[.int .u8 (b.toNat : Int)] 5)) = .ok (.string ⟨#[b]⟩) (w.alloc (.cells #[.int .u8 (b.toNat : Int)] 5)) :=
  run_string_own (P := Try.prog) _ 55 9 5 Try.underlying55 Try.underlying5 Try.underlying9 [b] (World.ownsRow_lit (base := 0) w #[bv b] 1 (Nat.zero_le _) (by decide) rfl)
theorem mba_consK (b : UInt8) (t : List UInt8) : (⟨#[b]⟩ ++ ⟨t.toArray⟩ : ByteArray) = ⟨(b :: t).toArray⟩ := by
  apply ByteArray.ext
  rw [ByteArray.data_append]
  simp
/-- The mark of number k, as a text. -/
def mtx6K (k : Nat) : ByteArray := ⟨(109 :: mdgK k).toArray⟩
set_option maxHeartbeats 400000 in
theorem markText_anyK (k : Nat) (w : World) (hk : 0 < k) (hk2 : k ≤ 9000000) :
    Calls Try.prog 26 #[.int .i64 k] w fun e w' => e = .returned (.string (mtx6K k)) ∧ Below w.heap.size w w' := by
  have hl := mdgK_len 7 k (by omega)
  have hk0 : k ≠ 0 := by omega
  go_enter Try.func26, Try.ntmps26
  go_wp2
  go_loopw [0, 3] (fun nv tv wr => ∃ (m : Nat) (t : List UInt8), nv = .int .i64 (m : Int) ∧ tv = .string ⟨t.toArray⟩ ∧ m ≤ k ∧ Hid (mdzK m ++ t = mdgK k) ∧ t.length ≤ 8 ∧ Below w.heap.size w wr) (fun nv _ _ => (intOf nv).toNat)
  case atStart => exact ⟨k, [], rfl, rfl, Nat.le_refl _, (by show _ = _; rw [mdzK_pos k hk0]; simp), by simp, bre _⟩
  case round =>
    obtain ⟨m, t, rfl, rfl, hm, HT, htl, hb⟩ := hrel
    have HB := hid hb
    have hsz := hb.size
    have HSZ := hid hsz
    clear hb hk0 hsz
    by_cases hz : 0 < m
    · obtain ⟨d, hd⟩ : ∃ d : Nat, m % 10 = d := ⟨_, rfl⟩
      have hdi : (m : Int) % 10 = (d : Int) := by omega
      have hdb : d < 10 := by omega
      have HD := hid hd
      obtain ⟨b, hbb⟩ : ∃ b, b = UInt8.ofNat (48 + d) := ⟨_, rfl⟩
      have hbi : (48 : Int) + (d : Int) = (b.toNat : Int) := by rw [hbb, mu8K d hdb]
      have HBB := hid hbb
      have hone := mrun_oneK b wr
      have HT2 : Hid (mdzK (m / 10) ++ (b :: t) = mdgK k) := by show _ = _; rw [← HT.out, mdzK_step m (by omega), HD.out, ← HBB.out]; simp
      have HTL : Hid ((b :: t).length ≤ 8) := by
        show _ ≤ _
        have h1 := congrArg List.length HT2.out
        simp only [List.length_append] at h1
        omega
      clear hd hbb
      go_wp2
      go_roundw
      case rel => exact ⟨m / 10, b :: t, by go_num, by rw [mba_consK], by omega, HT2, HTL.out, HB.out.alloc HSZ.out _⟩
      case measure => simp [intOf]; omega
    · have HZ : Hid (m = 0) := by show m = 0; omega
      go_wp2
      go_ret
      exact ⟨ret_str (by rw [mba_consK, mtx6K, ← HT.out, HZ.out]; rfl), HB.out⟩
theorem OwV.later {w w' : World} {B : Nat} {v : Value} {l : List ByteArray} (h : OwV w B v l) (hb : Below w.heap.size w w') : OwV w' B v l :=
  World.ownsRow.kept (row := none) h ⟨hb.os, hb.tape, hb.output, hb.size, fun k hk _ => hb.block k hk⟩ (by cases v.ownBlock <;> simp)
theorem gof {w w' : World} (r : Option Nat) (hb : Below w.heap.size w w') : w.grownBy w' r := ⟨hb.os, hb.tape, hb.output, hb.size, fun k hk _ => hb.block k hk⟩
/-- The marks of n texts from k on. -/
def mkt (k n : Nat) : List ByteArray := (List.range n).map fun i => mtx6K (k + i)
theorem mkt_len (k n : Nat) : (mkt k n).length = n := by simp [mkt]
theorem mkt_at (k n i : Nat) (h : i < (mkt k n).length) : (mkt k n)[i] = mtx6K (k + i) := by simp [mkt]
theorem mkt_succ (k n : Nat) : mkt k (n + 1) = mkt k n ++ [mtx6K (k + n)] := by simp [mkt, List.range_succ]
set_option maxHeartbeats 800000 in
set_option maxRecDepth 100000 in
theorem markStr_any (B : Nat) (a : Option Addr) (n cap k : Nat) (G : List ByteArray) (w : World) (hown : OwV w B (.slice a n cap) G) (hl : G.length = n) (hn : n ≤ 1048577) (hk : k ≤ 4000000) (hk0 : 0 < k) :
    Calls Try.prog 19 #[.slice a n cap, .int .i64 (k : Int)] w fun e w' => e = .returned (.int .i64 ((k + n : Nat) : Int)) ∧ OwV w' B (.slice a n cap) (mkt k n) ∧ w.grownBy w' (Value.ownBlock (.slice a n cap)) := by
  have HO := hid hown
  have HL := hid hl
  clear hown hl
  go_enter Try.func19, Try.ntmps19
  go_wp2
  go_loopw [1, 5] (fun kv iv wr => ∃ i : Nat, i ≤ n ∧ kv = .int .i64 ((k + i : Nat) : Int) ∧ iv = .int .i64 (i : Int) ∧ OwV wr B (.slice a n cap) (mkt k i ++ G.drop i) ∧ w.grownBy wr (Value.ownBlock (.slice a n cap))) (fun _ iv _ => n - (intOf iv).toNat)
  case atStart => exact ⟨0, Nat.zero_le _, by simp, rfl, by simpa [mkt] using HO.out, wre _ _⟩
  case round =>
    obtain ⟨i, hi, rfl, rfl, hown, hg⟩ := hrel
    have HOW := hid hown
    have HG := hid hg
    clear hown hg
    by_cases hlt : i < n
    · have hil : i < G.length := by rw [HL.out]; exact hlt
      rcases HOW.out.2 with ⟨h1, h2⟩ | ⟨g, cap', cur, h1, hB, _⟩
      · have := HOW.out.1
        rw [List.length_append, mkt_len, List.length_drop] at h2
        omega
      simp only [Value.slice.injEq] at h1
      obtain ⟨rfl, -, rfl⟩ := h1
      obtain ⟨q, hq⟩ : ∃ q : Nat, k + i = q := ⟨_, rfl⟩
      have HQ := hid hq
      have hqb : q ≤ 5100000 := by omega
      have hq0 : 0 < q := by omega
      have HNN := hid (OwV.is HOW.out).1
      rw [hq]
      go_wp2_with fail
      refine (markText_anyK q _ hq0 (by omega)).mono ?_; rintro e w1 ⟨rfl, hb1⟩
      have hyl : i < (mkt k i ++ G.drop i).length := by rw [List.length_append, mkt_len, List.length_drop]; omega
      have HOW1 := hid (OwV.later HOW.out hb1)
      obtain ⟨k', o', e', hk', c1⟩ := (OwV.is HOW1.out).2.at hyl
      simp only [Option.some.injEq, Addr.mk.injEq, and_true] at e'
      obtain ⟨rfl, rfl⟩ := e'
      simp only [Nat.zero_add] at c1
      obtain ⟨x, hx⟩ : ∃ x, (mkt k i ++ G.drop i)[i] = x := ⟨_, rfl⟩
      rw [hx] at c1
      have hfz := World.ownsRow.frozenAt (n := (mkt k i ++ G.drop i).length) (by have h := HOW1.out; rw [HNN.out] at h; exact h) i
      have hst := OwV.stored HOW1.out i (mtx6K (k + i))
      have hnew : (mkt k i ++ G.drop i).set i (mtx6K (k + i)) = mkt k (i + 1) ++ G.drop (i + 1) := by
        rw [List.set_append_right _ _ (by rw [mkt_len]; omega), mkt_len, Nat.sub_self, List.drop_eq_getElem_cons hil, List.set_cons_zero, mkt_succ, List.append_assoc]
        rfl
      rw [hnew] at hst
      rw [hq] at hst
      have HST := hid hst
      have HG1 := hid (wtr HG.out (gof (Value.ownBlock (.slice (some ⟨g, 0, none⟩) n cap)) hb1))
      clear hst hnew hx hyl hq
      go_wp2
      go_roundw
      case rel => exact ⟨i + 1, by omega, by rw [show ((k + (i + 1) : Nat) : Int) = (q : Int) + 1 by have := HQ.out; omega], by go_num, HST.out, wst HG1.out _ _⟩
      case measure => simp [intOf]; omega
    · have HN : Hid (i = n) := by show _ = _; omega
      have HD : Hid (G.drop i = []) := List.drop_of_length_le (by rw [HL.out]; omega)
      go_wp2
      go_ret
      refine ⟨by rw [HN.out]; rfl, ?_, HG.out⟩
      have h := HOW.out
      rw [HD.out, List.append_nil, HN.out] at h
      exact h
set_option maxHeartbeats 800000 in
set_option maxRecDepth 100000 in
theorem heldStr_any (B : Nat) (a : Option Addr) (n cap k : Nat) (w : World) (hown : OwV w B (.slice a n cap) (mkt k n)) (hn : n ≤ 1048577) (hk : k ≤ 4000000) (hk0 : 0 < k) :
    Calls Try.prog 20 #[.slice a n cap, .int .i64 (k : Int)] w fun e w' => e = .returned (.int .i64 ((k + n : Nat) : Int)) ∧ Below w.heap.size w w' := by
  have HO := hid hown
  clear hown
  go_enter Try.func20, Try.ntmps20
  go_wp2
  go_loopw [1, 5] (fun kv iv wr => ∃ i : Nat, i ≤ n ∧ kv = .int .i64 ((k + i : Nat) : Int) ∧ iv = .int .i64 (i : Int) ∧ Below w.heap.size w wr) (fun _ iv _ => n - (intOf iv).toNat)
  case atStart => exact ⟨0, Nat.zero_le _, by simp, rfl, bre _⟩
  case round =>
    obtain ⟨i, hi, rfl, rfl, hb⟩ := hrel
    have HB := hid hb
    clear hb
    by_cases hlt : i < n
    · have hil : i < (mkt k n).length := by rw [mkt_len]; exact hlt
      obtain ⟨g, o, rfl, hg, c⟩ := (OwV.is HO.out).2.at hil
      rw [mkt_at] at c
      obtain ⟨q, hq⟩ : ∃ q : Nat, k + i = q := ⟨_, rfl⟩
      have HQ := hid hq
      have hqb : q ≤ 5100000 := by omega
      have hq0 : 0 < q := by omega
      rw [hq] at c ⊢
      obtain ⟨u, hu⟩ : ∃ u, mtx6K q = u := ⟨_, rfl⟩
      rw [hu] at c
      have hsz := HB.out.size
      have HC := hid (show wr.cell? ⟨g, o + i, none⟩ = some (.string u) from (HB.out.cell (p := ⟨g, o + i, none⟩) hg).trans c)
      have HM := hid (fun W : World => markText_anyK q W hq0 (by omega))
      rw [hu] at HM
      have hgr : g < wr.heap.size := by omega
      have HGR := hid hgr
      have huu : (!u.toList == u.toList) = false := by simp
      have hc := HC.out
      have hI : (0 : Int) ≤ (i : Int) ∧ (i : Int) < (n : Int) := by omega
      clear hu hq c hgr
      go_wp2_with fail
      go_region_held3 (fun W => W.cell? ⟨g, o + i, none⟩ = some (.string u))
        (first
          | exact HC.out
          | exact (Below.cell (B := wr.heap.size) (w := wr.drew) (by assumption) (p := ⟨g, o + i, none⟩) HGR.out).trans HC.out)
        ((go_at_call 26; refine (HM.out _).mono ?_; rintro e w1 ⟨rfl, hb1⟩))
      go_wp2
      go_roundw
      case rel => exact ⟨i + 1, by omega, by rw [show ((k + (i + 1) : Nat) : Int) = (q : Int) + 1 by have := HQ.out; omega], by go_num, btr HB.out.drew hb1⟩
      case measure => simp [intOf]; omega
    · have HN : Hid (i = n) := by show _ = _; omega
      go_wp2
      go_ret
      exact ⟨by rw [HN.out]; rfl, HB.out⟩
/-- Block k holds a link. -/
def Lk (W : World) (k ty : Nat) (ep : Int) (gv : Value) (nx wt : Int) : Prop := W.heap[k]? = some (.cells #[.int .i64 ep, gv, .int .i64 nx, .int .i64 wt] ty (0, 0))
section
variable {W W' : World} {k ty : Nat} {ep nx wt : Int} {gv : Value}
theorem Lk.new (w : World) (ty : Nat) (ep : Int) (gv : Value) (nx wt : Int) : Lk (w.alloc (.cells #[.int .i64 ep, gv, .int .i64 nx, .int .i64 wt] ty)) w.heap.size ty ep gv nx wt := heap_alloc_new w _
theorem Lk.lt (h : Lk W k ty ep gv nx wt) : k < W.heap.size := (Array.getElem?_eq_some_iff.1 h).1
theorem Lk.later (h : Lk W k ty ep gv nx wt) (hb : Below W.heap.size W W') : Lk W' k ty ep gv nx wt := (hb.block k h.lt).trans h
theorem Lk.grown {r : Option Nat} (h : Lk W k ty ep gv nx wt) (hg : W.grownBy W' r) (hk : some k ≠ r) : Lk W' k ty ep gv nx wt := (hg.block k h.lt hk).trans h
theorem Lk.cells (h : Lk W k ty ep gv nx wt) : W.cell? ⟨k, 0, none⟩ = some (.int .i64 ep) ∧ W.cell? ⟨k, 1, none⟩ = some gv ∧ W.cell? ⟨k, 2, none⟩ = some (.int .i64 nx) ∧ W.cell? ⟨k, 3, none⟩ = some (.int .i64 wt) :=
  ⟨cell_of_row W k 0 _ _ _ h, cell_of_row W k 1 _ _ _ h, cell_of_row W k 2 _ _ _ h, cell_of_row W k 3 _ _ _ h⟩
theorem Lk.loose (h : Lk W k ty ep gv nx wt) : W.frozen? ⟨k, 0, none⟩ = false ∧ W.frozen? ⟨k, 1, none⟩ = false ∧ W.frozen? ⟨k, 2, none⟩ = false ∧ W.frozen? ⟨k, 3, none⟩ = false :=
  ⟨frozen_of_row W k 0 _ _ h, frozen_of_row W k 1 _ _ h, frozen_of_row W k 2 _ _ h, frozen_of_row W k 3 _ _ h⟩
theorem Lk.s0 (h : Lk W k ty ep gv nx wt) (x : Int) : Lk (W.setCell ⟨k, 0, none⟩ (.int .i64 x)) k ty x gv nx wt := heap_setCell_same W k 0 _ _ _ h
theorem Lk.s1 (h : Lk W k ty ep gv nx wt) (x : Value) : Lk (W.setCell ⟨k, 1, none⟩ x) k ty ep x nx wt := heap_setCell_same W k 1 _ _ _ h
theorem Lk.s2 (h : Lk W k ty ep gv nx wt) (x : Int) : Lk (W.setCell ⟨k, 2, none⟩ (.int .i64 x)) k ty ep gv x wt := heap_setCell_same W k 2 _ _ _ h
theorem Lk.s3 (h : Lk W k ty ep gv nx wt) (x : Int) : Lk (W.setCell ⟨k, 3, none⟩ (.int .i64 x)) k ty ep gv nx x := heap_setCell_same W k 3 _ _ _ h
end
/-- A block's four cells, all put. -/
def putL (W : World) (k : Nat) (ep : Int) (gv : Value) (nx wt : Int) : World := (((W.setCell ⟨k, 0, none⟩ (.int .i64 ep)).setCell ⟨k, 1, none⟩ gv).setCell ⟨k, 2, none⟩ (.int .i64 nx)).setCell ⟨k, 3, none⟩ (.int .i64 wt)
theorem Lk.put {W : World} {k ty : Nat} {e0 n0 w0 : Int} {gv0 : Value} (h : Lk W k ty e0 gv0 n0 w0) (ep : Int) (gv : Value) (nx wt : Int) : Lk (putL W k ep gv nx wt) k ty ep gv nx wt := (((h.s0 ep).s1 gv).s2 nx).s3 wt
theorem putL_grown (W : World) (k : Nat) (ep : Int) (gv : Value) (nx wt : Int) : W.grownBy (putL W k ep gv nx wt) (some k) := wst (wst (wst (wst (wre W (some k)) 0 _) 1 _) 2 _) 3 _
abbrev lkv (ep : Int) (gv : Value) (nx wt : Int) : Value := .agg #[.int .i64 ep, gv, .int .i64 nx, .int .i64 wt]
abbrev lk0 : Array Value := #[.int .i64 0, .slice none 0 0, .int .i64 0, .int .i64 0]
theorem OwV.grown {W W' : World} {B k : Nat} {v : Value} {G : List ByteArray} (h : OwV W B v G) (hg : W.grownBy W' (some k)) (hk : k < B) : OwV W' B v G :=
  World.ownsRow.kept h hg (by
    cases hv : v.ownBlock with
    | none => exact Or.inl rfl
    | some j => exact Or.inr (fun e => by have := (World.ownsRow.lt h j hv).1; simp at e; omega))
theorem own_off17 {W W' : World} {B : Nat} {r : Option Nat} {v : Value} {G : List ByteArray} (h : OwV W B v G) (hg : W.grownBy W' r) (hk : ∀ j, v.ownBlock = some j → r ≠ some j) : OwV W' B v G := World.ownsRow.kept h hg (by
  cases hv : Value.ownBlock v with
  | none => exact Or.inl rfl
  | some j => exact Or.inr (fun e => hk j hv e.symm))
theorem ss_far17 {lo hi : Nat} {W W' : World} {ga : Option Addr} {G : List ByteArray} {r : Option Nat} (h : Ss lo hi W ga G) (hg : W.grownBy W' r) (hk : ∀ j, r = some j → hi ≤ j) : Ss lo hi W' ga G :=
  h.same (Nat.le_trans h.1 hg.size) (fun j _ h2 => hg.block j (Nat.lt_of_lt_of_le h2 h.1) (fun e => by have := hk j e.symm; omega))
set_option maxHeartbeats 800000 in
set_option maxRecDepth 100000 in
theorem eqLk_any (l1 h1 l2 h2 : Nat) (ep nx wt : Int) (ga ga' : Option Addr) (gn gc gc' : Nat) (G : List ByteArray) (w : World) (hl : G.length = gn) (hn : gn ≤ 1048576) (ha : Ss l1 h1 w ga G) (hb : Ss l2 h2 w ga' G) :
    Calls Try.prog 8 #[lkv ep (.slice ga gn gc) nx wt, lkv ep (.slice ga' gn gc') nx wt] w fun e w' => e = .returned (.bool true) ∧ Below w.heap.size w w' := by
  obtain ⟨W0, hW0⟩ : ∃ W0, (w.alloc (.cells #[.int .i64 ep, .slice ga gn gc, .int .i64 nx, .int .i64 wt] 24)).alloc (.cells #[.int .i64 ep, .slice ga' gn gc', .int .i64 nx, .int .i64 wt] 24) = W0 := ⟨_, rfl⟩
  have b0 : Below w.heap.size w W0 := by subst hW0; exact bpush (bpush (bre _) _) _
  have x0 : Lk W0 w.heap.size 24 ep (.slice ga gn gc) nx wt := by subst hW0; exact (Lk.new w _ _ _ _ _).later (bpush (bre _) _)
  have x1 : Lk W0 (w.heap.size + 1) 24 ep (.slice ga' gn gc') nx wt := by
    subst hW0
    have h := Lk.new (w.alloc (.cells #[.int .i64 ep, .slice ga gn gc, .int .i64 nx, .int .i64 wt] 24)) 24 ep (.slice ga' gn gc') nx wt
    simpa using h
  have HC := hid (eqStrV_any l1 h1 l2 h2 ga ga' gn gc gc' G W0 hl hn (ha.later b0) (hb.later b0))
  have B0 := hid b0
  have X0 := hid x0
  have X1 := hid x1
  have c0 := x0.cells
  have c1 := x1.cells
  clear x0 x1 b0 ha hb hl
  have e1 : (ep != ep) = false := by simp
  have e2 : (nx != nx) = false := by simp
  have e3 : (wt != wt) = false := by simp
  go_enter Try.func8, Try.ntmps8
  go_wp2_with fail
  clear hW0
  refine HC.out.mono ?_; rintro e w1 ⟨rfl, hb⟩
  clear c0 c1
  have c0 := (X0.out.later hb).cells
  have c1 := (X1.out.later hb).cells
  have B1 := hid (btr B0.out hb)
  clear hb
  go_wp2
  go_ret
  exact ⟨rfl, B1.out⟩
set_option maxHeartbeats 800000 in
set_option maxRecDepth 100000 in
theorem markLk_any (B : Nat) (ep nx wt : Int) (ga : Option Addr) (gn gc k : Nat) (G : List ByteArray) (w : World) (hown : OwV w B (.slice ga gn gc) G) (hl : G.length = gn) (hn : gn ≤ 1048577) (hk : k ≤ 4000000) (hk0 : 0 < k) :
    Calls Try.prog 9 #[lkv ep (.slice ga gn gc) nx wt, .int .i64 (k : Int)] w fun e w' => e = .returned (.int .i64 ((k + gn : Nat) : Int)) ∧ OwV w' B (.slice ga gn gc) (mkt k gn) ∧ w.grownBy w' (Value.ownBlock (.slice ga gn gc)) := by
  obtain ⟨W0, hW0⟩ : ∃ W0, w.alloc (.cells #[.int .i64 ep, .slice ga gn gc, .int .i64 nx, .int .i64 wt] 24) = W0 := ⟨_, rfl⟩
  have b0 : Below w.heap.size w W0 := by subst hW0; exact bpush (bre _) _
  have x0 : Lk W0 w.heap.size 24 ep (.slice ga gn gc) nx wt := by subst hW0; exact Lk.new w _ _ _ _ _
  have G0 := hid (gof (Value.ownBlock (.slice ga gn gc)) b0)
  have HC := hid (markStr_any B ga gn gc k G W0 (OwV.later hown b0) hl hn hk hk0)
  have c0 := x0.cells
  clear x0 b0 hown hl
  go_enter Try.func9, Try.ntmps9
  go_wp2_with fail
  clear hW0
  refine HC.out.mono ?_; rintro e w1 ⟨rfl, ho, hg⟩
  have HO := hid ho
  have HG := hid (wtr G0.out hg)
  clear ho hg c0
  go_wp2
  go_ret
  exact ⟨rfl, HO.out, HG.out⟩
set_option maxHeartbeats 800000 in
set_option maxRecDepth 100000 in
theorem heldLk_any (B : Nat) (ep nx wt : Int) (ga : Option Addr) (gn gc k : Nat) (w : World) (hown : OwV w B (.slice ga gn gc) (mkt k gn)) (hn : gn ≤ 1048577) (hk : k ≤ 4000000) (hk0 : 0 < k) :
    Calls Try.prog 10 #[lkv ep (.slice ga gn gc) nx wt, .int .i64 (k : Int)] w fun e w' => e = .returned (.int .i64 ((k + gn : Nat) : Int)) ∧ Below w.heap.size w w' := by
  obtain ⟨W0, hW0⟩ : ∃ W0, w.alloc (.cells #[.int .i64 ep, .slice ga gn gc, .int .i64 nx, .int .i64 wt] 24) = W0 := ⟨_, rfl⟩
  have b0 : Below w.heap.size w W0 := by subst hW0; exact bpush (bre _) _
  have x0 : Lk W0 w.heap.size 24 ep (.slice ga gn gc) nx wt := by subst hW0; exact Lk.new w _ _ _ _ _
  have HC := hid (heldStr_any B ga gn gc k W0 (OwV.later hown b0) hn hk hk0)
  have B0 := hid b0
  have c0 := x0.cells
  clear x0 b0 hown
  have h2 : ¬ ((k + gn : Nat) : Int) < 0 := by omega
  go_enter Try.func10, Try.ntmps10
  go_wp2_with fail
  clear hW0
  refine HC.out.mono ?_; rintro e w1 ⟨rfl, hb⟩
  have B1 := hid (btr B0.out hb)
  clear c0 hb
  go_wp2
  go_ret
  exact ⟨rfl, B1.out⟩
theorem markLk1 (B : Nat) (ep nx wt : Int) (ga : Option Addr) (gn gc : Nat) (G : List ByteArray) (w : World) (hown : OwV w B (.slice ga gn gc) G) (hl : G.length = gn) (hn : gn ≤ 1048577) :
    Calls Try.prog 9 #[lkv ep (.slice ga gn gc) nx wt, .int .i64 1] w fun e w' => e = .returned (.int .i64 ((1 + gn : Nat) : Int)) ∧ OwV w' B (.slice ga gn gc) (mkt 1 gn) ∧ w.grownBy w' (Value.ownBlock (.slice ga gn gc)) :=
  markLk_any B ep nx wt ga gn gc 1 G w hown hl hn (by decide) (by decide)
theorem heldLk1 (B : Nat) (ep nx wt : Int) (ga : Option Addr) (gn gc : Nat) (w : World) (hown : OwV w B (.slice ga gn gc) (mkt 1 gn)) (hn : gn ≤ 1048577) :
    Calls Try.prog 10 #[lkv ep (.slice ga gn gc) nx wt, .int .i64 1] w fun e w' => e = .returned (.int .i64 ((1 + gn : Nat) : Int)) ∧ Below w.heap.size w w' :=
  heldLk_any B ep nx wt ga gn gc 1 w hown hn (by decide) (by decide)
set_option maxHeartbeats 800000 in
set_option maxRecDepth 100000 in
theorem szLk_any (lo hi : Nat) (ep nx wt : Int) (ga : Option Addr) (gn gc : Nat) (G : List ByteArray) (w : World) (hl : G.length = gn) (hn : (gn : Int) ≤ 9223372036854775807) (hz : ∀ x ∈ G, (x.size : Int) ≤ 9223372036854775807) (hr : Ss lo hi w ga G) :
    Calls Try.prog 11 #[lkv ep (.slice ga gn gc) nx wt, .int .i64 1048576] w fun e w' => (∃ r : Int, e = .returned (.int .i64 r) ∧ -1 ≤ r ∧ r ≤ 1048576 ∧ (0 ≤ r → (gn : Int) ≤ 1048576 ∧ ∀ x ∈ G, (x.size : Int) ≤ 1048576)) ∧ Below w.heap.size w w' := by
  obtain ⟨W0, hW0⟩ : ∃ W0, w.alloc (.cells #[.int .i64 ep, .slice ga gn gc, .int .i64 nx, .int .i64 wt] 29) = W0 := ⟨_, rfl⟩
  have b0 : Below w.heap.size w W0 := by subst hW0; exact bpush (bre _) _
  have x0 : Lk W0 w.heap.size 29 ep (.slice ga gn gc) nx wt := by subst hW0; exact Lk.new w _ _ _ _ _
  have HC := hid (szStr_any lo hi ga gn gc G 1048576 W0 hl hn hz (by omega) (hr.later b0))
  have B0 := hid b0
  have c0 := x0.cells
  clear x0 b0 hr hl hn hz
  go_enter Try.func11, Try.ntmps11
  go_wp2_with fail
  clear hW0
  refine HC.out.mono ?_; rintro e w1 ⟨⟨r, rfl, h1, h2, h3⟩, rfl⟩
  have H3 := hid h3
  clear c0 h3
  by_cases h0 : r < 0
  · go_wp2
    go_ret
    exact ⟨⟨-1, rfl, by omega, by omega, fun h => by omega⟩, B0.out⟩
  · go_wp2
    go_ret
    exact ⟨⟨r, rfl, h1, h2, H3.out⟩, B0.out⟩
set_option maxHeartbeats 1600000 in
set_option maxRecDepth 100000 in
theorem toLk_any (lo hi : Nat) (ep nx wt : Int) (ga : Option Addr) (gn gc : Nat) (G : List ByteArray) (w : World) (hl : G.length = gn) (hn : gn ≤ 1048576) (hs : Ss lo hi w ga G) (hhi : hi ≤ w.heap.size) :
    Calls Try.prog 13 #[lkv ep (.slice ga gn gc) nx wt] w fun e w' => ∃ kg, e = .returned (lkv ep (.slice (some ⟨kg, 0, none⟩) gn gn) nx wt) ∧ OwV w' w.heap.size (.slice (some ⟨kg, 0, none⟩) gn gn) G ∧ Below w.heap.size w w' := by
  obtain ⟨W0, hW0⟩ : ∃ W0, ((w.alloc (.cells #[.int .i64 ep, .slice ga gn gc, .int .i64 nx, .int .i64 wt] 29)).alloc (.cells lk0 24)).alloc (.cells lk0 24) = W0 := ⟨_, rfl⟩
  have b0 : Below w.heap.size w W0 := by subst hW0; exact bpush (bpush (bpush (bre _) _) _) _
  have x0 : Lk W0 w.heap.size 29 ep (.slice ga gn gc) nx wt := by subst hW0; exact ((Lk.new w _ _ _ _ _).later (bpush (bre _) _)).later (bpush (bre _) _)
  have x1 : Lk W0 (w.heap.size + 1) 24 0 (.slice none 0 0) 0 0 := by
    subst hW0
    have h := Lk.new (w.alloc (.cells #[.int .i64 ep, .slice ga gn gc, .int .i64 nx, .int .i64 wt] 29)) 24 0 (.slice none 0 0) 0 0
    simp at h
    exact h.later (bpush (bre _) _)
  have x2 : Lk W0 (w.heap.size + 1 + 1) 24 0 (.slice none 0 0) 0 0 := by
    subst hW0
    have h := Lk.new ((w.alloc (.cells #[.int .i64 ep, .slice ga gn gc, .int .i64 nx, .int .i64 wt] 29)).alloc (.cells lk0 24)) 24 0 (.slice none 0 0) 0 0
    simpa using h
  have HIS := hid (hs.later b0)
  have HHI : Hid (hi ≤ w.heap.size + 1 + 1) := hid (by omega)
  have X0 := hid x0
  have X1 := hid x1
  have X2 := hid x2
  have B0 := hid b0
  have HW := hid hW0
  have c0 := x0.cells
  have c2 := x2.cells
  have f2 := x2.loose
  clear x0 x1 x2 b0 hW0 hs
  go_enter Try.func13, Try.ntmps13
  go_upto_region 2 with fail
  rw [HW.out]
  clear HW
  go_wp2_with fail
  have g1 := wst (wre W0 (some (w.heap.size + 1 + 1))) 0 (.int .i64 ep)
  have y2 := X2.out.s0 ep
  have y1 := X1.out.grown g1 (by simp)
  have y0 := X0.out.grown g1 (by simp; omega)
  have hlt : w.heap.size + 1 + 1 < W0.heap.size := X2.out.lt
  have hle := B0.out.size
  have b1 : Below w.heap.size w _ := B0.out.trans (below_of_grown g1 (by omega) hle)
  obtain ⟨V, hV⟩ : ∃ W, W0.setCell ⟨w.heap.size + 1 + 1, 0, none⟩ (.int .i64 ep) = W := ⟨_, rfl⟩
  rw [hV] at g1 y2 y1 y0 b1
  rw [hV]
  have hs1 : Ss lo hi V ga G := ss_far17 HIS.out g1 (fun j hj => by have := HHI.out; simp at hj; omega)
  have hlv : w.heap.size + 1 + 1 < V.heap.size := y2.lt
  clear hV c0 c2 f2 g1 X0 X1 X2 B0
  refine (toStringS_any lo hi ga gn gc G V hl hn hs1).mono ?_; rintro e w3 ⟨rfl, ho, hb⟩
  have Y1 := hid (y1.later hb)
  have Y2 := hid (y2.later hb)
  have B3 := hid (btr b1 hb)
  have HO := hid ho
  have HL := hid hlv
  have HW0 := hid hle
  have c0 := (y0.later hb).cells
  have c1 := Y1.out.cells
  have f1 := Y1.out.loose
  have c2 := Y2.out.cells
  have f2 := Y2.out.loose
  clear y0 y1 y2 b1 ho hb hs1 hlv hle hlt hl
  go_wp2
  have g2 := wst (wst (wst (wre w3 (some (w.heap.size + 1 + 1))) 1 (.slice (some ⟨V.heap.size, 0, none⟩) gn gn)) 2 (.int .i64 nx)) 3 (.int .i64 wt)
  have g3 := putL_grown (((w3.setCell ⟨w.heap.size + 1 + 1, 1, none⟩ (.slice (some ⟨V.heap.size, 0, none⟩) gn gn)).setCell ⟨w.heap.size + 1 + 1, 2, none⟩ (.int .i64 nx)).setCell ⟨w.heap.size + 1 + 1, 3, none⟩ (.int .i64 wt)) (w.heap.size + 1) ep (.slice (some ⟨V.heap.size, 0, none⟩) gn gn) nx wt
  have d := ((Y1.out.grown g2 (by simp)).put ep (.slice (some ⟨V.heap.size, 0, none⟩) gn gn) nx wt).cells
  have hl := HL.out
  unfold putL at d g3
  refine bodyPost_ret (v := lkv ep (.slice (some ⟨V.heap.size, 0, none⟩) gn gn) nx wt) (by simp [results, Try.results13, go_sem, d]) rfl ⟨_, rfl, own_base (OwV.grown (OwV.grown HO.out g2 (by omega)) g3 (by omega)) (by omega), ?_⟩
  exact B3.out.trans ((below_of_grown g2 (by omega) B3.out.size).trans (below_of_grown g3 (by omega) (Nat.le_trans B3.out.size g2.size)))
end Go.Proofs.Ythcgpjicfcgfiaa
