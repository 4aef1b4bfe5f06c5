/- Ma, Mc, Md, Me, Mg, Itz, Mkz, Sva, Svb, Svc. -/
import Derived.Test.YtdhkehpihbdkcaaProg
import Derived.WalkKit
import Derived.Laws.IdiomStrings
import Derived.WalkSpells
import Derived.WalkLawsBesides
import Derived.Lib.Strings
import Derived.Lib.BufferWrite
import Derived.Lib.UnsafeStr
import Derived.Laws.MakeOwn
import Derived.Below
import Derived.BigQuiet
import Derived.Deep.QuietTactic
import Derived.Deep.RegionHeld3
import Derived.Deep.Cut
import Derived.Laws.ShiftsVarLaws
import Derived.Lib.BufferMore
import Derived.RangeFuncNested
import Derived.RangeFuncBound
import Derived.RangeFuncCalls
import Derived.RangeFuncLeaves
import Derived.RangeFuncBox
import Derived.Shelf.Abstract
import Derived.OwnWalkIn
import Derived.TacticsInMore
import Derived.LoopNIn
import Derived.LoopIn
import Derived.Maps.AppendAt
import Derived.Lib.ItoaNum
import Derived.ProofKit
import Derived.OpenShut
import Derived.Lib.SmallJoins
namespace Go.Proofs.Ytdhkehpihbdkcaa
open Go.RowKit
end Go.Proofs.Ytdhkehpihbdkcaa
namespace Go.Proofs.Ytdhkehpihbdkcaa
open Go.RowKit
theorem Try.info5 : (Try.prog.info? 5).map (fun i => (i.zero, i.size, i.bytes)) = some (some (.int .u8 0), 1, 1) := by kernel_rfl
end Go.Proofs.Ytdhkehpihbdkcaa
namespace Go.Proofs.Ytdhkehpihbdkcaa
open Go.RowKit
set_option maxHeartbeats 1000000 in
set_option maxRecDepth 100000 in
theorem cloneLite_any (s : ByteArray) (w : World) (hlim : s.size ≤ 1048576) :
    Calls Try.prog 25 #[.string s] w fun e w' => e = .returned (.string s) ∧ Below w.heap.size w w' := by
  by_cases h0 : s.size = 0
  · obtain rfl : s = ⟨#[]⟩ := ByteArray.ext (Array.eq_empty_of_size_eq_zero h0)
    go_enter Try.func25, Try.ntmps25
    go_wp2
    go_ret
    exact ⟨rfl, Below.refl _ _⟩
  · obtain ⟨i0, hi, hz0, hz1, hz2⟩ := info_parts Try.info5
    have hinfo : (Try.prog.info? 5).map (·.size) = some 1 := by rw [hi]; simp [hz1]
    have hco : Try.prog.cellsOf 5 = 1 := by simp [Program.cellsOf, hi, hz1]
    obtain ⟨M, hM⟩ : ∃ M, M = madeCells (Value.int .u8 0).cells (((s.size : Nat) : Int).toNat * i0.size) := ⟨_, rfl⟩
    have hMs : M.size = s.size := by rw [hM, size_madeCells, hz1]; simp
    have hmk : ∀ W : World, (Instr.makeSlice 44 (.int .i64 (s.size : Int)) (.int .i64 (s.size : Int))).run Try.prog W = .ok (.slice (some ⟨W.heap.size, 0, none⟩) s.size s.size) (W.alloc (.cells M 5)) := fun W => by
      have h := run_make (P := Try.prog) W 44 5 i0 (.int .u8 0) Try.underlying44 hi hz0 .i64 .i64 (s.size : Int) (s.size : Int) (by omega) (by omega) (by rw [hz2]; omega) (by omega)
      rw [← hM] at h
      simpa using h
    clear hM
    have hcp := Lib.run_copy_row_string (P := Try.prog) (w.alloc (.cells M 5)) 44 9 3 5 w.heap.size 0 s.size s.size s M 5 Try.underlying44 hinfo (heap_alloc_new w _) (Nat.le_refl _) (by omega)
    obtain ⟨Y, hY⟩ : ∃ Y, Y = (M.toList.take 0 ++ Lib.byteCells s.data.toList ++ M.toList.drop (0 + s.size)).toArray := ⟨_, rfl⟩
    rw [← hY] at hcp
    have hYl : Y.toList = Lib.byteCells s.data.toList := by
      rw [hY, List.toList_toArray, List.take_zero, List.nil_append, List.drop_of_length_le (by rw [Array.length_toList]; omega), List.append_nil]
    have hYs : Y.size = s.size := by rw [← Array.length_toList, hYl, Lib.byteCells_length, ← Lib.size_eq]
    have hgY : ((w.alloc (.cells M 5)).setRow w.heap.size Y).heap[w.heap.size]? = some (.cells Y 5 (0, 0)) := setRow_heap _ _ M _ 5 (0, 0) (heap_alloc_new w _)
    have hne : s.data.toList ≠ [] := fun e => h0 (by rw [Lib.size_eq, e]; rfl)
    have hUS := Lib.run_unsafeString_row (P := Try.prog) ((w.alloc (.cells M 5)).setRow w.heap.size Y) 53 3 9 5 Try.underlying53 hco w.heap.size Y.size (by unfold World.shape?; rw [hgY]) s.data.toList hne (by rw [← Lib.size_eq]; omega) (by rw [← Lib.size_eq]; omega)
      (fun j x hx => Lib.cells_of_row hgY Y.size j _ (by rw [List.take_of_length_le (by rw [Array.length_toList]; exact Nat.le_refl _), hYl]; simp [Lib.byteCells, hx]))
    rw [← Lib.size_eq] at hUS
    clear hY
    go_enter Try.func25, Try.ntmps25
    go_wp2
    go_ret
    have hb1 : Below w.heap.size w (w.alloc (.cells M 5)) := (Below.refl _ w).alloc (Nat.le_refl _) _
    have hb2 : Below w.heap.size (w.alloc (.cells M 5)) ((w.alloc (.cells M 5)).setRow w.heap.size Y) := ⟨rfl, rfl, rfl, by simp, fun k hk => setRow_other _ _ _ _ (by omega)⟩
    exact ⟨rfl, Lib.below_freeze (hb1.trans hb2) (p := ⟨w.heap.size, 0, none⟩) (Nat.le_refl _) _⟩
theorem clone_any (s : ByteArray) (w : World) (hlim : s.size ≤ 1048576) :
    Calls Try.prog 22 #[.string s] w fun e w' => e = .returned (.string s) ∧ Below w.heap.size w w' := by
  go_enter Try.func22, Try.ntmps22
  go_wp2_with fail
  refine (cloneLite_any s _ hlim).mono ?_; rintro e w1 ⟨rfl, hb1⟩
  go_wp2
  go_ret
  exact ⟨rfl, hb1⟩
end Go.Proofs.Ytdhkehpihbdkcaa
namespace Go.Proofs.Ytdhkehpihbdkcaa
open Go.RowKit
/-- Which of two stamps is later. -/
def later (t b t' b' : Int) : Bool := if t = t' then decide (b' < b) else decide (t' < t)
theorem bpush {a w : World} (h : Below a.heap.size a w) (o : Obj) : Below a.heap.size a (w.alloc o) := h.alloc h.size o
theorem btr {a b c : World} (h : Below a.heap.size a b) (k : Below b.heap.size b c) : Below a.heap.size a c := h.trans (k.mono h.size)
theorem bre (a : World) : Below a.heap.size a a := Below.refl _ _
theorem bdr {a w : World} (h : Below a.heap.size a w) : Below a.heap.size a w.drew := h.drew
theorem bset {a w : World} (h : Below a.heap.size a w) {p : Addr} (hp : a.heap.size ≤ p.block) (u : Value) : Below a.heap.size a (w.setCell p u) := h.setCell hp u
def cb (v t b v' t' b' : Int) : Bool := if t = t' ∧ b = b' then decide (v' < v) else later t b t' b'
end Go.Proofs.Ytdhkehpihbdkcaa
namespace Go.Proofs.Ytdhkehpihbdkcaa
open Go.RowKit
end Go.Proofs.Ytdhkehpihbdkcaa
namespace Go.Proofs.Ytdhkehpihbdkcaa
open Go.RowKit
end Go.Proofs.Ytdhkehpihbdkcaa
namespace Go.Proofs.Ytdhkehpihbdkcaa
open Go.RowKit
end Go.Proofs.Ytdhkehpihbdkcaa
namespace Go.Proofs.Ytdhkehpihbdkcaa
open Go.RowKit
theorem hid {p : Prop} (h : p) : Hid p := h
/-- A register as three numbers: its value, its stamp's time, its stamp's server. -/
abbrev R3 := Int × Int × Int
theorem own_later {w w' : World} {B e size n : Nat} {v : Value} {xs : List Value} (h : w.ownsRow B e size v n xs) (hb : Below w.heap.size w w') : w'.ownsRow B e size v n xs :=
  h.kept (row := none) ⟨hb.os, hb.tape, hb.output, hb.size, fun k hk _ => hb.block k hk⟩ (by cases v.ownBlock <;> simp)
theorem own_base {w : World} {B B' e size n : Nat} {v : Value} {xs : List Value} (h : w.ownsRow B' e size v n xs) (hB : B ≤ B') : w.ownsRow B e size v n xs :=
  ⟨h.1, h.2.imp id (fun ⟨g, cap, cur, a, b, c⟩ => ⟨g, cap, cur, a, Nat.le_trans hB b, c⟩)⟩
end Go.Proofs.Ytdhkehpihbdkcaa
namespace Go.Proofs.Ytdhkehpihbdkcaa
open Go.RowKit
theorem info_parts3 {P : Program} {e : Nat} {z : Value} {s b : Nat} (h : (P.info? e).map (fun i => (i.zero, i.size, i.bytes)) = some (some z, s, b)) : ∃ i, P.info? e = some i ∧ i.zero = some z ∧ i.size = s ∧ i.bytes = b := by
  cases hi : P.info? e with
  | none => rw [hi] at h; cases h
  | some i =>
    rw [hi] at h
    simp only [Option.map_some, Option.some.injEq, Prod.mk.injEq] at h
    exact ⟨i, rfl, h.1, h.2.1, h.2.2⟩
end Go.Proofs.Ytdhkehpihbdkcaa
namespace Go.Proofs.Ytdhkehpihbdkcaa
open Go.RowKit
theorem wtr {a b c : World} {r : Option Nat} (h : a.grownBy b r) (k : b.grownBy c r) : a.grownBy c r :=
  ⟨k.os.trans h.os, k.tape.trans h.tape, k.output.trans h.output, Nat.le_trans h.size k.size, fun i hi hr => (k.block i (Nat.lt_of_lt_of_le hi h.size) hr).trans (h.block i hi hr)⟩
theorem wre (a : World) (r : Option Nat) : a.grownBy a r := ⟨rfl, rfl, rfl, Nat.le_refl _, fun _ _ _ => rfl⟩
theorem wst {a w : World} {g : Nat} (h : a.grownBy w (some g)) (i : Nat) (u : Value) : a.grownBy (w.setCell ⟨g, i, none⟩ u) (some g) :=
  wtr h ⟨rfl, rfl, rfl, by simp [World.setCell], fun k _ hk => Below.heap_setCell _ _ _ _ (fun e => hk (by simpa using e))⟩
theorem below_of_grown {B g : Nat} {a w : World} (h : a.grownBy w (some g)) (hB : B ≤ g) (hs : B ≤ a.heap.size) : Below B a w :=
  ⟨h.os, h.tape, h.output, h.size, fun k hk => h.block k (by omega) (by simp; omega)⟩
end Go.Proofs.Ytdhkehpihbdkcaa
namespace Go.Proofs.Ytdhkehpihbdkcaa
open Go.RowKit
end Go.Proofs.Ytdhkehpihbdkcaa
namespace Go.Proofs.Ytdhkehpihbdkcaa
open Go.RowKit
end Go.Proofs.Ytdhkehpihbdkcaa
namespace Go.Proofs.Ytdhkehpihbdkcaa
open Go.RowKit
end Go.Proofs.Ytdhkehpihbdkcaa
namespace Go.Proofs.Ytdhkehpihbdkcaa
open Go.RowKit
theorem addr_add (k o j : Nat) : (⟨k, o, none⟩ : Addr).add j = ⟨k, o + j, none⟩ := by unfold Addr.add; split <;> simp_all
end Go.Proofs.Ytdhkehpihbdkcaa
namespace Go.Proofs.Ytdhkehpihbdkcaa
open Go.RowKit
end Go.Proofs.Ytdhkehpihbdkcaa
namespace Go.Proofs.Ytdhkehpihbdkcaa
open Go.RowKit
end Go.Proofs.Ytdhkehpihbdkcaa
namespace Go.Proofs.Ytdhkehpihbdkcaa
open Go.RowKit
end Go.Proofs.Ytdhkehpihbdkcaa
namespace Go.Proofs.Ytdhkehpihbdkcaa
open Go.RowKit
/-- A list of three. -/
theorem three {l : List R3} (h : l.length = 3) : ∃ p q r, l = [p, q, r] := by
  match l, h with
  | [p, q, r], _ => exact ⟨p, q, r, rfl⟩
theorem bdn {B : Nat} {w w1 : World} (h : Below B w w1) (k : Nat) : Below B w (w1.drewN k) := ⟨h.os, h.tape, h.output, h.size, h.block⟩
end Go.Proofs.Ytdhkehpihbdkcaa
namespace Go.Proofs.Ytdhkehpihbdkcaa
open Go.RowKit
end Go.Proofs.Ytdhkehpihbdkcaa
namespace Go.Proofs.Ytdhkehpihbdkcaa
open Go.RowKit
end Go.Proofs.Ytdhkehpihbdkcaa
namespace Go.Proofs.Ytdhkehpihbdkcaa
open Go.RowKit
end Go.Proofs.Ytdhkehpihbdkcaa
namespace Go.Proofs.Ytdhkehpihbdkcaa
open Go.RowKit
end Go.Proofs.Ytdhkehpihbdkcaa
namespace Go.Proofs.Ytdhkehpihbdkcaa
open Go.RowKit
end Go.Proofs.Ytdhkehpihbdkcaa
namespace Go.Proofs.Ytdhkehpihbdkcaa
open Go.RowKit
theorem below_grownR {B : Nat} {a w : World} {r : Option Nat} (h : a.grownBy w r) (hB : ∀ j, r = some j → B ≤ j) (hs : B ≤ a.heap.size) : Below B a w :=
  ⟨h.os, h.tape, h.output, h.size, fun k hk => h.block k (by omega) (fun e => by have := hB k e.symm; omega)⟩
end Go.Proofs.Ytdhkehpihbdkcaa
namespace Go.Proofs.Ytdhkehpihbdkcaa
open Go.RowKit
/-- A mail as it lies: Gid, Uid, the value of its flags, what they are, text. -/
abbrev Z5 := Int × Int × Value × List R3 × ByteArray
/-- Cells of a block that stays. -/
theorem cell_same {W W' : World} {p : Addr} (h : W'.heap[p.block]? = W.heap[p.block]?) : W'.cell? p = W.cell? p := by
  unfold World.cell?
  rw [h]
/-! Numbers. -/
/-- The slice of address a is the numbers of G, in blocks from lo on, below hi. -/
def Is (lo hi : Nat) (W : World) (a : Option Addr) (G : List Int) : Prop :=
  hi ≤ W.heap.size ∧ ∀ i (h : i < G.length), ∃ k o, a = some ⟨k, o, none⟩ ∧ lo ≤ k ∧ k < hi ∧ W.cell? ⟨k, o + i, none⟩ = some (.int .i64 G[i])
theorem Is.same {lo hi : Nat} {W W' : World} {a : Option Addr} {G : List Int} (h : Is lo hi W a G) (hs : hi ≤ W'.heap.size) (hk : ∀ k, lo ≤ k → k < hi → W'.heap[k]? = W.heap[k]?) : Is lo hi W' a G := by
  refine ⟨hs, fun i hi' => ?_⟩
  obtain ⟨k, o, h1, h2, h3, c⟩ := h.2 i hi'
  exact ⟨k, o, h1, h2, h3, (cell_same (p := ⟨k, _, none⟩) (hk k h2 h3)).trans c⟩
theorem Is.later {lo hi : Nat} {W W' : World} {a : Option Addr} {G : List Int} (h : Is lo hi W a G) (hb : Below W.heap.size W W') : Is lo hi W' a G :=
  h.same (Nat.le_trans h.1 hb.size) (fun k _ hk => hb.block k (Nat.lt_of_lt_of_le hk h.1))
theorem Is.at {lo hi : Nat} {W : World} {a : Option Addr} {G : List Int} (h : Is lo hi W a G) {i : Nat} (hi' : i < G.length) : ∃ k o, a = some ⟨k, o, none⟩ ∧ k < W.heap.size ∧ W.cell? ⟨k, o + i, none⟩ = some (.int .i64 G[i]) := by
  obtain ⟨k, o, e1, e2, e3, e4⟩ := h.2 i hi'
  exact ⟨k, o, e1, Nat.lt_of_lt_of_le e3 h.1, e4⟩
/-- A row of numbers that a call owns. -/
abbrev OwI (W : World) (B : Nat) (v : Value) (G : List Int) : Prop := W.ownsRow B 3 1 v G.length (G.map (Value.int .i64))
theorem OwI.is {W : World} {B n c : Nat} {a : Option Addr} {G : List Int} (h : OwI W B (.slice a n c) G) : n = G.length ∧ Is B W.heap.size W a G := by
  have hw := h
  rcases h.2 with ⟨h1, h2⟩ | ⟨g, cap, cur, h1, h2, h3, h4, h5, h6, h7⟩
  · simp only [Value.slice.injEq] at h1
    exact ⟨by omega, Nat.le_refl _, fun i hi => by omega⟩
  · simp only [Value.slice.injEq] at h1
    obtain ⟨rfl, rfl, rfl⟩ := h1
    refine ⟨rfl, Nat.le_refl _, fun i hi => ⟨g, 0, rfl, h2, (Array.getElem?_eq_some_iff.1 h3).1, ?_⟩⟩
    simp only [Nat.zero_add]
    rw [hw.cellAt i (by omega), List.getElem?_map, List.getElem?_eq_getElem hi]
    rfl
theorem OwI.shape {W : World} {B : Nat} {v : Value} {G : List Int} (h : OwI W B v G) : ∃ a c, v = .slice a G.length c ∧ (a = none → c = 0) := by
  rcases h.2 with ⟨h1, h2⟩ | ⟨g, cap, cur, h1, _⟩
  · exact ⟨none, 0, by rw [h1, h2], fun _ => rfl⟩
  · exact ⟨_, _, h1, fun h => by simp at h⟩
theorem OwI.stored {W : World} {B g n c : Nat} {G : List Int} (h : OwI W B (.slice (some ⟨g, 0, none⟩) n c) G) (i : Nat) (x : Int) :
    OwI (W.setCell ⟨g, i, none⟩ (.int .i64 x)) B (.slice (some ⟨g, 0, none⟩) n c) (G.set i x) := by
  obtain rfl := (OwI.is h).1
  have h1 := (World.ownsRow.stored h i (.int .i64 x)).1
  rw [← List.map_set] at h1
  simpa [OwI] using h1
end Go.Proofs.Ytdhkehpihbdkcaa
namespace Go.Proofs.Ytdhkehpihbdkcaa
open Go.RowKit
/-! Sizes. -/
def szr (lf : Int) (n : Nat) : Int := if lf < (n : Int) then -1 else lf - n
theorem szIntS_any (ao : Option Addr) (n cap : Nat) (lf : Int) (w : World) (hn : (n : Int) ≤ 9223372036854775807) (hlf : 0 ≤ lf ∧ lf ≤ 1048576) :
    Calls Try.prog 18 #[.slice ao n cap, .int .i64 lf] w fun e w' => e = .returned (.int .i64 (szr lf n)) ∧ w' = w := by
  by_cases h1 : lf < (n : Int)
  · have HE : Hid (szr lf n = -1) := by show _ = _; rw [szr, if_pos h1]
    have h2 : lf - (n : Int) < 0 := by omega
    go_enter Try.func18, Try.ntmps18
    go_wp2
    go_ret
    exact ⟨by rw [HE.out]; rfl, rfl⟩
  · have HE : Hid (szr lf n = lf - n) := by show _ = _; rw [szr, if_neg h1]
    have h2 : ¬ lf - (n : Int) < 0 := by omega
    go_enter Try.func18, Try.ntmps18
    go_wp2
    go_ret
    exact ⟨by rw [HE.out]; rfl, rfl⟩
theorem int_rep (n : Nat) : (madeCells #[.int .i64 0] (n * 1)).toList = (List.replicate n (0 : Int)).map (Value.int .i64) := by
  apply List.ext_getElem?
  intro j
  by_cases hj : j < n <;> simp [madeCells, hj, Nat.mod_one]
/-- A new row of n numbers. -/
theorem make_int (n : Nat) (hn : n ≤ 1048576) : ∃ M : Array Value, Hid (∀ W : World, OwI (W.alloc (.cells M 3)) W.heap.size (.slice (some ⟨W.heap.size, 0, none⟩) n n) (List.replicate n 0)) ∧
    ∀ W : World, (Instr.makeSlice 22 (.int .i64 (n : Int)) (.int .i64 (n : Int))).run Try.prog W = .ok (.slice (some ⟨W.heap.size, 0, none⟩) n n) (W.alloc (.cells M 3)) := by
  have hinfo : (Try.prog.info? 3).map (fun i => (i.zero, i.size, i.bytes)) = some (some (.int .i64 0), 1, 8) := by kernel_rfl
  obtain ⟨i0, hi, hz0, hz1, hz2⟩ := info_parts3 hinfo
  refine ⟨madeCells #[.int .i64 0] (n * 1), fun W => ?_, fun W => ?_⟩
  · have h := World.ownsRow_lit (base := W.heap.size) (e := 3) (size := 1) W (madeCells #[.int .i64 0] (n * 1)) n (Nat.le_refl _) (by unfold maxLen; omega) (size_madeCells _ _)
    rw [int_rep] at h
    simpa [OwI] using h
  · have h := run_make (P := Try.prog) W 22 3 i0 (.int .i64 0) Try.underlying22 hi hz0 .i64 .i64 (n : Int) (n : Int) (by omega) (by omega) (by rw [hz2]; omega) (by omega)
    rw [hz1, Int.toNat_natCast] at h
    exact h
set_option maxHeartbeats 800000 in
set_option maxRecDepth 100000 in
theorem toIntS_any (lo hi : Nat) (ao : Option Addr) (n cap : Nat) (G : List Int) (w : World) (hl : G.length = n) (hn : n ≤ 1048576) (hr : Is lo hi w ao G) :
    Calls Try.prog 20 #[.slice ao n cap] w fun e w' => e = .returned (.slice (some ⟨w.heap.size, 0, none⟩) n n) ∧ OwI w' w.heap.size (.slice (some ⟨w.heap.size, 0, none⟩) n n) G ∧ Below w.heap.size w w' := by
  obtain ⟨M, hM, hmk⟩ := make_int n hn
  have HR := hid hr
  have HL := hid hl
  clear hr hl
  go_enter Try.func20, Try.ntmps20
  go_wp2
  clear hmk
  go_loopw [4] (fun iv wr => ∃ i : Nat, i ≤ n ∧ iv = .int .i64 (i : Int) ∧ (∃ F : List Int, F.length = n ∧ F.take i = G.take i ∧ OwI wr w.heap.size (.slice (some ⟨w.heap.size, 0, none⟩) n n) F) ∧ Below w.heap.size w wr) (fun iv _ => n - (intOf iv).toNat)
  case atStart => exact ⟨0, Nat.zero_le _, rfl, ⟨_, List.length_replicate, by simp, hM.out w⟩, bpush (bre _) _⟩
  case round =>
    obtain ⟨i, hi, rfl, ⟨F, hFn, hFt, hown⟩, hb⟩ := hrel
    have HO := hid hown
    have HFN := hid hFn
    have HFT := hid hFt
    have hsz := hb.size
    by_cases hlt : i < n
    · have hil : i < G.length := by rw [HL.out]; exact hlt
      obtain ⟨k, o, rfl, hk, c0⟩ := (HR.out.later hb).at hil
      obtain ⟨x, hx⟩ : ∃ x, G[i] = x := ⟨_, rfl⟩
      rw [hx] at c0
      have HX := hid hx
      have hif : i < F.length := by rw [hFn]; exact hlt
      obtain ⟨k', o', e', hk', c1⟩ := (OwI.is hown).2.at hif
      simp only [Option.some.injEq, Addr.mk.injEq, and_true] at e'
      obtain ⟨rfl, rfl⟩ := e'
      simp only [Nat.zero_add] at c1
      subst hFn
      have hfz := World.ownsRow.frozenAt hown i
      have HST := hid (OwI.stored hown i x)
      clear hx hown hFt
      go_wp2
      go_roundw
      case rel =>
        refine ⟨i + 1, by omega, by go_num, ⟨_, by rw [List.length_set], ?_, HST.out⟩, bset hb (Nat.le_refl _) _⟩
        rw [List.take_succ_eq_append_getElem (by rw [List.length_set]; exact hif), List.take_succ_eq_append_getElem hil, List.take_set_of_le (Nat.le_refl _), HFT.out, List.getElem_set_self, HX.out]
      case measure => simp [intOf]; omega
    · have HE : Hid (F = G) := by
        show _ = _
        have := HFT.out
        rwa [List.take_of_length_le (by rw [HFN.out]; omega), List.take_of_length_le (by rw [HL.out]; omega)] at this
      clear hFn hFt hown
      go_wp2
      go_ret
      exact ⟨rfl, HE.out ▸ HO.out, hb⟩
end Go.Proofs.Ytdhkehpihbdkcaa
namespace Go.Proofs.Ytdhkehpihbdkcaa
open Go.RowKit
set_option maxHeartbeats 800000 in
set_option maxRecDepth 100000 in
/-- Two rows of the same numbers are told alike. -/
theorem eqIntS_any (l1 h1 l2 h2 : Nat) (ao bo : Option Addr) (n ca cb : Nat) (G : List Int) (w : World) (hl : G.length = n) (hn : n ≤ 1048576) (ha : Is l1 h1 w ao G) (hb : Is l2 h2 w bo G) :
    Calls Try.prog 15 #[.slice ao n ca, .slice bo n cb] w fun e w' => e = .returned (.bool true) ∧ Below w.heap.size w w' := by
  have hnn : ((n : Int) != (n : Int)) = false := by simp
  have HA := hid ha
  have HB := hid hb
  have HL := hid hl
  clear ha hb hl
  go_enter Try.func15, Try.ntmps15
  go_wp2
  clear hnn
  go_loopw [5] (fun iv wr => ∃ i : Nat, i ≤ n ∧ iv = .int .i64 (i : Int) ∧ Below w.heap.size w wr) (fun iv _ => n - (intOf iv).toNat)
  case atStart => exact ⟨0, Nat.zero_le _, rfl, bre _⟩
  case round =>
    obtain ⟨i, hi, rfl, hb⟩ := hrel
    have HBE := hid hb
    clear hb
    by_cases hlt : i < n
    · have hil : i < G.length := by rw [HL.out]; exact hlt
      obtain ⟨k, o, rfl, hk, c⟩ := (HA.out.later HBE.out).at hil
      obtain ⟨k', o', rfl, hk', d⟩ := (HB.out.later HBE.out).at hil
      obtain ⟨x, hx⟩ : ∃ x, G[i] = x := ⟨_, rfl⟩
      rw [hx] at c d
      clear hx
      have hI : (0 : Int) ≤ (i : Int) ∧ (i : Int) < (n : Int) := by omega
      have hxx : (x != x) = false := by simp
      go_wp2_with fail
      go_quiet (fail)
      go_wp2
      go_roundw
      case rel => exact ⟨i + 1, by omega, by go_num, bdn HBE.out _⟩
      case measure => simp [intOf]; omega
    · go_wp2
      go_ret
      exact ⟨rfl, HBE.out⟩
end Go.Proofs.Ytdhkehpihbdkcaa
namespace Go.Proofs.Ytdhkehpihbdkcaa
open Go.RowKit
section
variable {W W' : World} {k ty : Nat} {g : Int} {nm : ByteArray} {t b nx : Int} {ms gs : Value}
end
theorem OwI.grown {W W' : World} {B k : Nat} {v : Value} {G : List Int} (h : OwI W B v G) (hg : W.grownBy W' (some k)) (hk : k < B) : OwI W' B v G :=
  World.ownsRow.kept h hg (by
    cases hv : v.ownBlock with
    | none => exact Or.inl rfl
    | some j => exact Or.inr (fun e => by have := (h.lt j hv).1; simp at e; omega))
end Go.Proofs.Ytdhkehpihbdkcaa
namespace Go.Proofs.Ytdhkehpihbdkcaa
open Go.RowKit
theorem szr_over {lf : Int} {n : Nat} (h : lf < (n : Int)) : szr lf n = -1 := by rw [szr, if_pos h]
theorem szr_fits {lf : Int} {n : Nat} (h : ¬ lf < (n : Int)) : szr lf n = lf - n := by rw [szr, if_neg h]
end Go.Proofs.Ytdhkehpihbdkcaa
namespace Go.Proofs.Ytdhkehpihbdkcaa
open Go.RowKit
/-! Ascending numbers. -/
/-! Among them. -/
def inl (x : Int) : List Int → Bool
  | [] => false
  | y :: l => decide (y = x) || inl x l
/-! Where a mail is. -/
end Go.Proofs.Ytdhkehpihbdkcaa
namespace Go.Proofs.Ytdhkehpihbdkcaa
open Go.RowKit
end Go.Proofs.Ytdhkehpihbdkcaa
namespace Go.Proofs.Ytdhkehpihbdkcaa
open Go.RowKit Go.Shelf Go.ChangeMaps
attribute [local go_sem] Oper.semAt_some
end Go.Proofs.Ytdhkehpihbdkcaa
namespace Go.Proofs.Ytdhkehpihbdkcaa
open Go.RowKit Go.Shelf Go.ChangeMaps
attribute [local go_sem] Oper.semAt_some
end Go.Proofs.Ytdhkehpihbdkcaa
namespace Go.Proofs.Ytdhkehpihbdkcaa
open Go.RowKit Go.ChangeMaps
end Go.Proofs.Ytdhkehpihbdkcaa
namespace Go.Proofs.Ytdhkehpihbdkcaa
open Go.RowKit Go.ChangeMaps
end Go.Proofs.Ytdhkehpihbdkcaa
namespace Go.Proofs.Ytdhkehpihbdkcaa
open Go.RowKit Go.ChangeMaps
end Go.Proofs.Ytdhkehpihbdkcaa
namespace Go.Proofs.Ytdhkehpihbdkcaa
open Go.RowKit Go.ChangeMaps
/-! Numbers copied. -/
theorem Is.all {lo hi : Nat} {W : World} {ad : Addr} {G : List Int} (h : Is lo hi W (some ad) G) : ∀ j u, (G.map (Value.int .i64))[j]? = some u → W.cell? (ad.add j) = some u := by
  intro j u hu
  have hj : j < G.length := by have := (List.getElem?_eq_some_iff.1 hu).1; simpa using this
  obtain ⟨k, o, h1, _, _, hc⟩ := h.2 j hj
  simp only [Option.some.injEq] at h1
  subst h1
  rw [addr_add, hc]
  rw [List.getElem?_map, List.getElem?_eq_getElem hj] at hu
  simpa using hu
theorem int_one (G : List Int) : ∀ u ∈ G.map (Value.int .i64), u.oneCell' = true := by
  intro u hu
  obtain ⟨x, _, rfl⟩ := List.mem_map.1 hu
  rfl
theorem ownI_empty (W : World) (B : Nat) (hB : B ≤ W.heap.size) : OwI (W.alloc (.cells #[] 3)) B (.slice (some ⟨W.heap.size, 0, none⟩) 0 0) [] :=
  World.ownsRow_lit (base := B) (e := 3) (size := 1) W #[] 0 hB (by unfold maxLen; omega) rfl
theorem info_int : (Try.prog.info? 3).map (fun i => (i.zero, i.size, i.bytes)) = some (some (.int .i64 0), 1, 8) := by kernel_rfl
set_option maxHeartbeats 400000 in
set_option maxRecDepth 100000 in
theorem cloneI_any (lo hh : Nat) (ao : Option Addr) (n cap : Nat) (G : List Int) (w : World) (hl : G.length = n) (hn : n ≤ 1048576) (hr : Is lo hh w ao G) (h0 : ao = none → cap = 0) :
    Calls Try.prog 24 #[.slice ao n cap] w fun e w' => ∃ v, e = .returned v ∧ OwI w' w.heap.size v G ∧ Below w.heap.size w w' := by
  have HR := hid hr
  have HL := hid hl
  have HN := hid hn
  clear hr hl hn
  cases ao with
  | none =>
    have hn0 : n = 0 := by
      by_cases h : 0 < n
      · obtain ⟨_, _, h1, _⟩ := HR.out.2 0 (by rw [HL.out]; exact h)
        cases h1
      · omega
    subst hn0
    obtain rfl := h0 rfl
    have hle : G = [] := List.eq_nil_of_length_eq_zero HL.out
    subst hle
    clear h0
    have hnil : ∀ W, (binOp .eql 22 (.slice none 0 0) (.slice none 0 0)).run Try.prog W = .ok (.bool true) W := fun W => Lib.run_eql_slice_nil_nil W 0 0 Try.underlying22
    go_enter Try.func24, Try.ntmps24
    go_wp2
    go_ret
    exact ⟨_, rfl, ⟨rfl, .inl ⟨rfl, rfl⟩⟩, bre _⟩
  | some ad =>
    clear h0
    obtain ⟨i0, hi, hz0, hz1, hz2⟩ := info_parts3 info_int
    have HSRC : Hid (∀ j u, (G.map (Value.int .i64))[j]? = some u → (w.alloc (.cells #[] 3)).cell? (ad.add j) = some u) := (HR.out.later (bpush (bre _) _)).all
    have hnil : ∀ W, (binOp .eql 22 (.slice (some ad) n cap) (.slice none 0 0)).run Try.prog W = .ok (.bool false) W := fun W => Lib.run_eql_slice_some_nil W ad n cap Try.underlying22
    go_enter Try.func24, Try.ntmps24
    go_wp2_with (at_builtin; refine wpList_append_own _ rfl (.tmp 5) (.tmp 6) 22 rfl w.heap.size 3 i0 _ 1 8 Try.underlying22 hi hz0 hz1 hz2 rfl (by decide) _ 0 [] (by rfl) (ownI_empty w _ (Nat.le_refl _)) ad n cap (G.map (Value.int .i64)) (by rfl) (by rw [List.length_map, HL.out, Nat.mul_one]) HSRC.out (int_one G) (by have := HN.out; unfold maxLen; omega) (by have := HN.out; omega) (by simp) ?_; intro v1 w1 hown1 hg1 _)
    go_ret
    exact ⟨_, rfl, by simpa [OwI, HL.out] using hown1, (bpush (bre _) _).grown hg1 (by simp) (by intro k hk; simp [Value.ownBlock] at hk; omega)⟩
/-! Numbers marked. -/
def mki (k n : Nat) : List Int := (List.range n).map fun i => ((k + i : Nat) : Int)
theorem mki_len (k n : Nat) : (mki k n).length = n := by simp [mki]
theorem mki_at (k n i : Nat) (h : i < (mki k n).length) : (mki k n)[i] = ((k + i : Nat) : Int) := by simp [mki]
theorem mki_succ (k n : Nat) : mki k (n + 1) = mki k n ++ [((k + n : Nat) : Int)] := by simp [mki, List.range_succ]
set_option maxHeartbeats 800000 in
set_option maxRecDepth 100000 in
theorem markIS_any (B : Nat) (a : Option Addr) (n cap k : Nat) (G : List Int) (w : World) (hown : OwI w B (.slice a n cap) G) (hl : G.length = n) (hn : n ≤ 1048576) (hk : k ≤ 8000000) :
    Calls Try.prog 16 #[.slice a n cap, .int .i64 (k : Int)] w fun e w' => e = .returned (.int .i64 ((k + n : Nat) : Int)) ∧ OwI w' B (.slice a n cap) (mki k n) ∧ w.grownBy w' (Value.ownBlock (.slice a n cap)) := by
  have HO := hid hown
  have HL := hid hl
  clear hown hl
  go_enter Try.func16, Try.ntmps16
  go_wp2
  go_loopw [1, 5] (fun kv iv wr => ∃ i : Nat, i ≤ n ∧ kv = .int .i64 ((k + i : Nat) : Int) ∧ iv = .int .i64 (i : Int) ∧ OwI wr B (.slice a n cap) (mki k i ++ G.drop i) ∧ w.grownBy wr (Value.ownBlock (.slice a n cap))) (fun _ iv _ => n - (intOf iv).toNat)
  case atStart => exact ⟨0, Nat.zero_le _, by simp, rfl, by simpa [mki] using HO.out, wre _ _⟩
  case round =>
    obtain ⟨i, hi, rfl, rfl, hown, hg⟩ := hrel
    have HOW := hid hown
    have HG := hid hg
    clear hown hg
    by_cases hlt : i < n
    · have hil : i < G.length := by rw [HL.out]; exact hlt
      rcases HOW.out.2 with ⟨h1, h2⟩ | ⟨g, cap', cur, h1, hB, _⟩
      · have := HOW.out.1
        rw [List.length_append, mki_len, List.length_drop] at h2
        omega
      simp only [Value.slice.injEq] at h1
      obtain ⟨rfl, -, rfl⟩ := h1
      have hyl : i < (mki k i ++ G.drop i).length := by rw [List.length_append, mki_len, List.length_drop]; omega
      obtain ⟨k', o', e', hk', c1⟩ := (OwI.is HOW.out).2.at hyl
      simp only [Option.some.injEq, Addr.mk.injEq, and_true] at e'
      obtain ⟨rfl, rfl⟩ := e'
      simp only [Nat.zero_add] at c1
      obtain ⟨x, hx⟩ : ∃ x, (mki k i ++ G.drop i)[i] = x := ⟨_, rfl⟩
      rw [hx] at c1
      have hnn := (OwI.is HOW.out).1
      have hfz := World.ownsRow.frozenAt (n := (mki k i ++ G.drop i).length) (by have h := HOW.out; rw [hnn] at h; exact h) i
      have hst := OwI.stored HOW.out i ((k + i : Nat) : Int)
      have hnew : (mki k i ++ G.drop i).set i ((k + i : Nat) : Int) = mki k (i + 1) ++ G.drop (i + 1) := by
        rw [List.set_append_right _ _ (by rw [mki_len]; omega), mki_len, Nat.sub_self, List.drop_eq_getElem_cons hil, List.set_cons_zero, mki_succ, List.append_assoc]
        rfl
      rw [hnew] at hst
      have HST := hid hst
      obtain ⟨q, hq⟩ : ∃ q : Nat, k + i = q := ⟨_, rfl⟩
      have HQ := hid hq
      have hqb : q ≤ 9100000 := by omega
      rw [hq] at HST ⊢
      clear hq hst hnew hx hnn hyl
      go_wp2
      go_roundw
      case rel => exact ⟨i + 1, by omega, by rw [show ((k + (i + 1) : Nat) : Int) = (q : Int) + 1 by have := HQ.out; omega], by go_num, HST.out, wst HG.out _ _⟩
      case measure => simp [intOf]; omega
    · have HN : Hid (i = n) := by show _ = _; omega
      have HD : Hid (G.drop i = []) := List.drop_of_length_le (by rw [HL.out]; omega)
      go_wp2
      go_ret
      refine ⟨by rw [HN.out]; rfl, ?_, HG.out⟩
      have h := HOW.out
      rw [HD.out, List.append_nil, HN.out] at h
      exact h
set_option maxHeartbeats 800000 in
set_option maxRecDepth 100000 in
theorem heldIS_any (B : Nat) (a : Option Addr) (n cap k : Nat) (w : World) (hown : OwI w B (.slice a n cap) (mki k n)) (hn : n ≤ 1048576) (hk : k ≤ 8000000) :
    Calls Try.prog 17 #[.slice a n cap, .int .i64 (k : Int)] w fun e w' => e = .returned (.int .i64 ((k + n : Nat) : Int)) ∧ w' = w := by
  have HO := hid hown
  clear hown
  go_enter Try.func17, Try.ntmps17
  go_wp2
  go_loop [1, 5] (fun kv iv => ∃ i : Nat, i ≤ n ∧ kv = .int .i64 ((k + i : Nat) : Int) ∧ iv = .int .i64 (i : Int)) (fun _ iv => n - (intOf iv).toNat)
  case atStart => exact ⟨0, Nat.zero_le _, by simp, rfl⟩
  case round =>
    obtain ⟨i, hi, rfl, rfl⟩ := hrel
    by_cases hlt : i < n
    · have hil : i < (mki k n).length := by rw [mki_len]; exact hlt
      obtain ⟨k', o', rfl, hk', c⟩ := (OwI.is HO.out).2.at hil
      rw [mki_at] at c
      obtain ⟨q, hq⟩ : ∃ q : Nat, k + i = q := ⟨_, rfl⟩
      have HQ := hid hq
      have hqb : q ≤ 9100000 := by omega
      rw [hq] at c ⊢
      have e1 : ((q : Int) != (q : Int)) = false := by simp
      clear hq
      go_wp2
      go_round
      case rel => exact ⟨i + 1, by omega, by rw [show ((k + (i + 1) : Nat) : Int) = (q : Int) + 1 by have := HQ.out; omega], by go_num⟩
      case measure => simp [intOf]; omega
    · have HN : Hid (i = n) := by show _ = _; omega
      go_wp2
      go_ret
      exact ⟨by rw [HN.out]; rfl, rfl⟩
end Go.Proofs.Ytdhkehpihbdkcaa
namespace Go.Proofs.Ytdhkehpihbdkcaa
open Go.RowKit Go.ChangeMaps
def kz1 (k : Nat) (z : Z5) : Nat := k + 2 + z.2.2.2.1.length * 3 + 1
def kz (k : Nat) : List Z5 → Nat
  | [] => k
  | z :: Z => kz (kz1 k z) Z
end Go.Proofs.Ytdhkehpihbdkcaa
namespace Go.Proofs.Ytdhkehpihbdkcaa
open Go.RowKit Go.ChangeMaps
end Go.Proofs.Ytdhkehpihbdkcaa
namespace Go.Proofs.Ytdhkehpihbdkcaa
open Go.RowKit Go.ChangeMaps
end Go.Proofs.Ytdhkehpihbdkcaa
namespace Go.Proofs.Ytdhkehpihbdkcaa
open Go.RowKit Go.ChangeMaps
/-- Block k holds a session. -/
def Sn (W : World) (k ty : Nat) (i o : ByteArray) (n v : Bool) (b : Int) (gv : Value) : Prop := W.heap[k]? = some (.cells #[.string i, .string o, .bool n, .bool v, .int .i64 b, gv] ty (0, 0))
section
variable {W W' : World} {k ty : Nat} {i o : ByteArray} {n v : Bool} {b : Int} {gv : Value}
theorem Sn.new (w : World) (ty : Nat) (i o : ByteArray) (n v : Bool) (b : Int) (gv : Value) : Sn (w.alloc (.cells #[.string i, .string o, .bool n, .bool v, .int .i64 b, gv] ty)) w.heap.size ty i o n v b gv := heap_alloc_new w _
theorem Sn.lt (h : Sn W k ty i o n v b gv) : k < W.heap.size := (Array.getElem?_eq_some_iff.1 h).1
theorem Sn.later (h : Sn W k ty i o n v b gv) (hb : Below W.heap.size W W') : Sn W' k ty i o n v b gv := (hb.block k h.lt).trans h
theorem Sn.grown {r : Option Nat} (h : Sn W k ty i o n v b gv) (hg : W.grownBy W' r) (hk : some k ≠ r) : Sn W' k ty i o n v b gv := (hg.block k h.lt hk).trans h
theorem Sn.cells (h : Sn W k ty i o n v b gv) : W.cell? ⟨k, 0, none⟩ = some (.string i) ∧ W.cell? ⟨k, 1, none⟩ = some (.string o) ∧ W.cell? ⟨k, 2, none⟩ = some (.bool n) ∧ W.cell? ⟨k, 3, none⟩ = some (.bool v) ∧ W.cell? ⟨k, 4, none⟩ = some (.int .i64 b) ∧ W.cell? ⟨k, 5, none⟩ = some gv :=
  ⟨cell_of_row W k 0 _ _ _ h, cell_of_row W k 1 _ _ _ h, cell_of_row W k 2 _ _ _ h, cell_of_row W k 3 _ _ _ h, cell_of_row W k 4 _ _ _ h, cell_of_row W k 5 _ _ _ h⟩
theorem Sn.loose (h : Sn W k ty i o n v b gv) : W.frozen? ⟨k, 0, none⟩ = false ∧ W.frozen? ⟨k, 1, none⟩ = false ∧ W.frozen? ⟨k, 2, none⟩ = false ∧ W.frozen? ⟨k, 3, none⟩ = false ∧ W.frozen? ⟨k, 4, none⟩ = false ∧ W.frozen? ⟨k, 5, none⟩ = false :=
  ⟨frozen_of_row W k 0 _ _ h, frozen_of_row W k 1 _ _ h, frozen_of_row W k 2 _ _ h, frozen_of_row W k 3 _ _ h, frozen_of_row W k 4 _ _ h, frozen_of_row W k 5 _ _ h⟩
theorem Sn.s0 (h : Sn W k ty i o n v b gv) (x : ByteArray) : Sn (W.setCell ⟨k, 0, none⟩ (.string x)) k ty x o n v b gv := heap_setCell_same W k 0 _ _ _ h
theorem Sn.s1 (h : Sn W k ty i o n v b gv) (x : ByteArray) : Sn (W.setCell ⟨k, 1, none⟩ (.string x)) k ty i x n v b gv := heap_setCell_same W k 1 _ _ _ h
theorem Sn.s2 (h : Sn W k ty i o n v b gv) (x : Bool) : Sn (W.setCell ⟨k, 2, none⟩ (.bool x)) k ty i o x v b gv := heap_setCell_same W k 2 _ _ _ h
theorem Sn.s3 (h : Sn W k ty i o n v b gv) (x : Bool) : Sn (W.setCell ⟨k, 3, none⟩ (.bool x)) k ty i o n x b gv := heap_setCell_same W k 3 _ _ _ h
theorem Sn.s4 (h : Sn W k ty i o n v b gv) (x : Int) : Sn (W.setCell ⟨k, 4, none⟩ (.int .i64 x)) k ty i o n v x gv := heap_setCell_same W k 4 _ _ _ h
theorem Sn.s5 (h : Sn W k ty i o n v b gv) (x : Value) : Sn (W.setCell ⟨k, 5, none⟩ x) k ty i o n v b x := heap_setCell_same W k 5 _ _ _ h
end
/-- A block's six cells, all put. -/
def put6 (W : World) (k : Nat) (i o : ByteArray) (n v : Bool) (b : Int) (gv : Value) : World := (((((W.setCell ⟨k, 0, none⟩ (.string i)).setCell ⟨k, 1, none⟩ (.string o)).setCell ⟨k, 2, none⟩ (.bool n)).setCell ⟨k, 3, none⟩ (.bool v)).setCell ⟨k, 4, none⟩ (.int .i64 b)).setCell ⟨k, 5, none⟩ gv
theorem Sn.put {W : World} {k ty : Nat} {i0 o0 : ByteArray} {n0 v0 : Bool} {b0 : Int} {gv0 : Value} (h : Sn W k ty i0 o0 n0 v0 b0 gv0) (i o : ByteArray) (n v : Bool) (b : Int) (gv : Value) : Sn (put6 W k i o n v b gv) k ty i o n v b gv := (((((h.s0 i).s1 o).s2 n).s3 v).s4 b).s5 gv
theorem put6_grown (W : World) (k : Nat) (i o : ByteArray) (n v : Bool) (b : Int) (gv : Value) : W.grownBy (put6 W k i o n v b gv) (some k) := wst (wst (wst (wst (wst (wst (wre W (some k)) 0 _) 1 _) 2 _) 3 _) 4 _) 5 _
abbrev snv (i o : ByteArray) (n v : Bool) (b : Int) (gv : Value) : Value := .agg #[.string i, .string o, .bool n, .bool v, .int .i64 b, gv]
abbrev sn0 : Array Value := #[.string ⟨#[]⟩, .string ⟨#[]⟩, .bool false, .bool false, .int .i64 0, .slice none 0 0]
theorem is_all15 {lo hi : Nat} {W : World} {ad : Addr} {G : List Int} (h : Is lo hi W (some ad) G) : ∀ j u, (G.map (Value.int .i64))[j]? = some u → W.cell? (ad.add j) = some u := by
  intro j u hu
  have hj : j < G.length := by have := (List.getElem?_eq_some_iff.1 hu).1; simpa using this
  obtain ⟨k, o, h1, _, _, hc⟩ := h.2 j hj
  simp only [Option.some.injEq] at h1
  subst h1
  rw [addr_add, hc]
  rw [List.getElem?_map, List.getElem?_eq_getElem hj] at hu
  simpa using hu
theorem int_one15 (G : List Int) : ∀ u ∈ G.map (Value.int .i64), u.oneCell' = true := by
  intro u hu
  obtain ⟨x, _, rfl⟩ := List.mem_map.1 hu
  rfl
theorem ownI_empty15 (W : World) (B : Nat) (hB : B ≤ W.heap.size) : OwI (W.alloc (.cells #[] 3)) B (.slice (some ⟨W.heap.size, 0, none⟩) 0 0) [] :=
  World.ownsRow_lit (base := B) (e := 3) (size := 1) W #[] 0 hB (by unfold maxLen; omega) rfl
theorem info_int15 : (Try.prog.info? 3).map (fun i => (i.zero, i.size, i.bytes)) = some (some (.int .i64 0), 1, 8) := by kernel_rfl
set_option maxHeartbeats 1600000 in
set_option maxRecDepth 100000 in
theorem copy15_any (lo hi : Nat) (i o : ByteArray) (n v : Bool) (b : Int) (ga : Option Addr) (gn gc : Nat) (G : List Int) (w : World) (hgl : G.length = gn) (hgn : gn ≤ 1048576) (hs : Is lo hi w ga G) (hg0 : ga = none → gc = 0) :
    Calls Try.prog 19 #[snv i o n v b (.slice ga gn gc)] w fun e w' => ∃ ag cg, e = .returned (snv i o n v b (.slice ag gn cg)) ∧ OwI w' w.heap.size (.slice ag gn cg) G ∧ Below w.heap.size w w' := by
  obtain ⟨W0, hW0⟩ : ∃ W0, ((w.alloc (.cells #[.string i, .string o, .bool n, .bool v, .int .i64 b, .slice ga gn gc] 24)).alloc (.cells sn0 24)).alloc (.cells #[.string i, .string o, .bool n, .bool v, .int .i64 b, .slice ga gn gc] 24) = W0 := ⟨_, rfl⟩
  have b0 : Below w.heap.size w W0 := by subst hW0; exact bpush (bpush (bpush (bre _) _) _) _
  have x0 : Sn W0 w.heap.size 24 i o n v b (.slice ga gn gc) := by subst hW0; exact ((Sn.new w _ _ _ _ _ _ _).later (bpush (bre _) _)).later (bpush (bre _) _)
  have x1 : Sn W0 (w.heap.size + 1) 24 ⟨#[]⟩ ⟨#[]⟩ false false 0 (.slice none 0 0) := by
    subst hW0
    have h := Sn.new (w.alloc (.cells #[.string i, .string o, .bool n, .bool v, .int .i64 b, .slice ga gn gc] 24)) 24 ⟨#[]⟩ ⟨#[]⟩ false false 0 (.slice none 0 0)
    simp at h
    exact h.later (bpush (bre _) _)
  have x2 : Sn W0 (w.heap.size + 1 + 1) 24 i o n v b (.slice ga gn gc) := by
    subst hW0
    have h := Sn.new ((w.alloc (.cells #[.string i, .string o, .bool n, .bool v, .int .i64 b, .slice ga gn gc] 24)).alloc (.cells sn0 24)) 24 i o n v b (.slice ga gn gc)
    simpa using h
  have X0 := hid x0
  have X1 := hid x1
  have X2 := hid x2
  have B0 := hid b0
  have HW := hid hW0
  have HIS := hid hs
  have HGL := hid hgl
  have HGN := hid hgn
  have HG0 := hid hg0
  clear x0 x1 x2 b0 hW0 hs hgl hgn hg0
  go_enter Try.func19, Try.ntmps19
  go_upto_region 2 with fail
  rw [HW.out]
  clear HW
  have hlt : Hid (w.heap.size + 1 + 1 < W0.heap.size) := hid X2.out.lt
  cases ga with
  | none =>
    obtain rfl := HG0.out rfl
    have hz : gn = 0 := by
      rcases Nat.eq_zero_or_pos gn with h | h
      · exact h
      · obtain ⟨k, o, h1, _⟩ := HIS.out.at (i := 0) (by rw [HGL.out]; exact h)
        cases h1
    subst hz
    have hge : G = [] := List.eq_nil_of_length_eq_zero HGL.out
    subst hge
    obtain ⟨w1, hw1⟩ : ∃ w1, W0.alloc (.cells #[] 3) = w1 := ⟨_, rfl⟩
    have b1 : Below W0.heap.size W0 w1 := by subst hw1; exact bpush (bre _) _
    have O1 := hid (show OwI w1 W0.heap.size (.slice (some ⟨W0.heap.size, 0, none⟩) 0 0) [] by subst hw1; exact ownI_empty15 W0 _ (Nat.le_refl _))
    have c0 := (X0.out.later b1).cells

    have d2 := (X2.out.later b1).cells
    have f2 := (X2.out.later b1).loose
    have d1 := (X1.out.later b1).cells
    have f1 := (X1.out.later b1).loose
    have D1 := hid (X1.out.later b1)
    have D2 := hid (X2.out.later b1)
    have B1 := hid (btr B0.out b1)
    clear b1 X0 X1 X2 B0
    go_wp2
    clear hw1
    have g2 := wst (wre w1 (some (w.heap.size + 1 + 1))) 5 (.slice (some ⟨W0.heap.size, 0, none⟩) 0 0)
    have g3 := put6_grown (w1.setCell ⟨w.heap.size + 1 + 1, 5, none⟩ (.slice (some ⟨W0.heap.size, 0, none⟩) 0 0)) (w.heap.size + 1) i o n v b (.slice (some ⟨W0.heap.size, 0, none⟩) 0 0)
    have d := ((D1.out.grown g2 (by simp)).put i o n v b (.slice (some ⟨W0.heap.size, 0, none⟩) 0 0)).cells
    have hl := hlt.out
    unfold put6 at d g3
    refine bodyPost_ret (v := snv i o n v b (.slice (some ⟨W0.heap.size, 0, none⟩) 0 0)) (by simp [results, Try.results19, go_sem, d]) rfl ⟨_, _, rfl, own_base (OwI.grown (OwI.grown O1.out g2 (by omega)) g3 (by omega)) (by omega), ?_⟩
    exact B1.out.trans ((below_of_grown g2 (by omega) B1.out.size).trans (below_of_grown g3 (by omega) (Nat.le_trans B1.out.size g2.size)))
  | some ad =>
    obtain ⟨i0, hi0, hz0, hz1, hz2⟩ := info_parts info_int15
    have HSRC : Hid (∀ j u, (G.map (Value.int .i64))[j]? = some u → (W0.alloc (.cells #[] 3)).cell? (ad.add j) = some u) := is_all15 (HIS.out.later (btr B0.out (bpush (bre _) _)))
    have ca := (X0.out.later (bpush (bre W0) (.cells #[] 3))).cells
    go_wp2_with (at_builtin; refine wpList_append_own _ rfl (.tmp 5) (.tmp 7) 22 rfl W0.heap.size 3 i0 _ 1 8 Try.underlying22 hi0 hz0 hz1 hz2 rfl (by decide) _ 0 [] (by rfl) (ownI_empty15 W0 _ (Nat.le_refl _)) ad gn gc (G.map (Value.int .i64)) (by rfl) (by rw [List.length_map, HGL.out, Nat.mul_one]) HSRC.out (int_one15 G) (by have := HGN.out; unfold maxLen; omega) (by have := HGN.out; omega) (by simp) ?_; intro v1 w1 hown1 hg1 _; have own1 : OwI w1 W0.heap.size v1 G := (by simpa [OwI, HGL.out] using hown1); obtain ⟨ag, cg, hvg, _⟩ := own1.shape; rw [HGL.out] at hvg; subst hvg; have b1 : Below W0.heap.size W0 w1 := (bpush (bre W0) _).grown hg1 (by simp) (by intro k hk; simp [Value.ownBlock] at hk; omega); have d2 := (X2.out.later b1).cells; have f2 := (X2.out.later b1).loose; have d1 := (X1.out.later b1).cells; have f1 := (X1.out.later b1).loose; have D1 := hid (X1.out.later b1); have B1 := hid (btr B0.out b1); have O1 := hid own1; clear own1 hown1 hg1 b1)
    have g2 := wst (wre w1 (some (w.heap.size + 1 + 1))) 5 (.slice ag gn cg)
    have g3 := put6_grown (w1.setCell ⟨w.heap.size + 1 + 1, 5, none⟩ (.slice ag gn cg)) (w.heap.size + 1) i o n v b (.slice ag gn cg)
    have d := ((D1.out.grown g2 (by simp)).put i o n v b (.slice ag gn cg)).cells
    have hl := hlt.out
    unfold put6 at d g3
    refine bodyPost_ret (v := snv i o n v b (.slice ag gn cg)) (by simp [results, Try.results19, go_sem, d]) rfl ⟨_, _, rfl, own_base (OwI.grown (OwI.grown O1.out g2 (by omega)) g3 (by omega)) (by omega), ?_⟩
    exact B1.out.trans ((below_of_grown g2 (by omega) B1.out.size).trans (below_of_grown g3 (by omega) (Nat.le_trans B1.out.size g2.size)))
def fso (i t : ByteArray) (v : Bool) : Bool := !v && decide (t.size ≤ 400) && decide (i.size + t.size ≤ 400)
/-- In, behind it. -/
def fsi (i t : ByteArray) (v : Bool) : ByteArray := if fso i t v = true then i ++ t else i
theorem own_apart15 {W W' : World} {B k : Nat} {v : Value} {G : List Int} (h : OwI W B v G) (hg : W.grownBy W' (some k)) (hk : ∀ j, v.ownBlock = some j → j < k) : OwI W' B v G := World.ownsRow.kept h hg (by
  cases hv : Value.ownBlock v with
  | none => exact Or.inl rfl
  | some j => exact Or.inr (fun e => by
      have h1 := hk j hv
      have h2 : j = k := Option.some.inj e
      omega))
theorem fso_ways (i t : ByteArray) (v : Bool) : ∃ I k, fsi i t v = I ∧ fso i t v = k ∧ ((k = true ∧ I = i ++ t ∧ v = false ∧ ¬ (400 : Int) < (t.size : Int) ∧ ¬ (400 : Int) < (i.size : Int) + (t.size : Int)) ∨ (k = false ∧ I = i ∧ (v = true ∨ (v = false ∧ (400 : Int) < (t.size : Int)) ∨ (v = false ∧ ¬ (400 : Int) < (t.size : Int) ∧ (400 : Int) < (i.size : Int) + (t.size : Int))))) := by
  refine ⟨_, _, rfl, rfl, ?_⟩
  by_cases hok : fso i t v = true
  · refine Or.inl ⟨hok, if_pos hok, ?_⟩
    unfold fso at hok
    simp only [Bool.and_eq_true, decide_eq_true_eq, Bool.not_eq_true'] at hok
    exact ⟨hok.1.1, by omega, by omega⟩
  · refine Or.inr ⟨by simpa using hok, if_neg hok, ?_⟩
    unfold fso at hok
    simp only [Bool.and_eq_true, decide_eq_true_eq, Bool.not_eq_true'] at hok
    cases v with
    | true => exact Or.inl rfl
    | false =>
      by_cases h : (400 : Int) < (t.size : Int)
      · exact Or.inr (Or.inl ⟨rfl, h⟩)
      · exact Or.inr (Or.inr ⟨rfl, h, by
          by_cases h2 : (400 : Int) < (i.size : Int) + (t.size : Int)
          · exact h2
          · exact absurd ⟨⟨rfl, by omega⟩, by omega⟩ hok⟩)
set_option maxHeartbeats 1600000 in
set_option maxRecDepth 100000 in
theorem specFeed_any (lo hi : Nat) (i o : ByteArray) (n v : Bool) (b : Int) (ga : Option Addr) (gn gc : Nat) (G : List Int) (t : ByteArray) (w : World) (hi1 : i.size ≤ 1048576) (ht1 : t.size ≤ 1048576) (hgl : G.length = gn) (hgn : gn ≤ 1048576) (hs : Is lo hi w ga G) (hg0 : ga = none → gc = 0) :
    Calls Try.prog 11 #[snv i o n v b (.slice ga gn gc), .string t] w fun e w' => ∃ ag cg, e = .returned (.tuple #[snv (fsi i t v) o n v b (.slice ag gn cg), .bool (fso i t v)]) ∧ OwI w' w.heap.size (.slice ag gn cg) G ∧ Below w.heap.size w w' := by
  obtain ⟨W0, hW0⟩ : ∃ W0, (w.alloc (.cells #[.string i, .string o, .bool n, .bool v, .int .i64 b, .slice ga gn gc] 24)).alloc (.cells sn0 24) = W0 := ⟨_, rfl⟩
  have b0 : Below w.heap.size w W0 := by subst hW0; exact bpush (bpush (bre _) _) _
  have x0 : Sn W0 w.heap.size 24 i o n v b (.slice ga gn gc) := by subst hW0; exact (Sn.new w _ _ _ _ _ _ _).later (bpush (bre _) _)
  have x1 : Sn W0 (w.heap.size + 1) 24 ⟨#[]⟩ ⟨#[]⟩ false false 0 (.slice none 0 0) := by
    subst hW0
    have h := Sn.new (w.alloc (.cells #[.string i, .string o, .bool n, .bool v, .int .i64 b, .slice ga gn gc] 24)) 24 ⟨#[]⟩ ⟨#[]⟩ false false 0 (.slice none 0 0)
    simpa using h
  have HC := hid (copy15_any lo hi i o n v b ga gn gc G W0 hgl hgn (hs.later b0) hg0)
  have X0 := hid x0
  have X1 := hid x1
  have B0 := hid b0
  have HW := hid hW0
  have c0 := x0.cells
  clear x0 x1 b0 hW0 hs hgl hgn hg0
  have hw1 : wrap64 ((i.size : Int) + (t.size : Int)) = (i.size : Int) + (t.size : Int) := by unfold wrap64; omega
  obtain ⟨I, k, e1, e2, hways⟩ := fso_ways i t v
  rw [e1, e2]
  have HY := hid hways
  clear e1 e2 hways
  go_enter Try.func11, Try.ntmps11
  go_wp2_with fail
  rw [HW.out]
  clear HW
  refine HC.out.mono ?_; rintro e w1 ⟨ag, cg, rfl, ho, hb⟩
  have hlt : Hid (w.heap.size + 1 < W0.heap.size) := hid X1.out.lt
  have hle : Hid (W0.heap.size ≤ w1.heap.size) := hid hb.size
  have HLT : Hid (∀ j, Value.ownBlock (.slice ag gn cg) = some j → j < w1.heap.size) := fun j hj => (World.ownsRow.lt ho j hj).2
  obtain ⟨w2, hw2⟩ : ∃ W, w1.alloc (.cells #[.string i, .string o, .bool n, .bool v, .int .i64 b, .slice ag gn cg] 24) = W := ⟨_, rfl⟩
  have b2 : Below w1.heap.size w1 w2 := by subst hw2; exact bpush (bre _) _
  have x2 : Sn w2 w1.heap.size 24 i o n v b (.slice ag gn cg) := by subst hw2; exact Sn.new w1 _ _ _ _ _ _ _
  have O2 := hid (show OwI w2 W0.heap.size (.slice ag gn cg) G from own_later ho b2)
  have Y0 := hid ((X0.out.later hb).later b2)
  have Y1 := hid ((X1.out.later hb).later b2)
  have Y2 := hid x2
  have B2 := hid (btr (btr B0.out hb) b2)
  have c1 := Y0.out.cells
  have c2 := x2.cells
  have f2 := x2.loose
  have c3 := Y1.out.cells
  have f3 := Y1.out.loose
  clear ho hb b2 x2 X0 X1 B0 c0 HC
  rcases HY.out with ⟨rfl, rfl, rfl, h3, h4⟩ | ⟨rfl, rfl, rfl | ⟨rfl, h3⟩ | ⟨rfl, h3, h4⟩⟩
  · clear HY
    have hl : w.heap.size + 1 < w1.heap.size := by have h1 := hlt.out; have h2 := hle.out; omega
    go_wp2
    have g2 := wst (wre w2 (some w1.heap.size)) 0 (.string (i ++ t))
    have g3 := put6_grown (w2.setCell ⟨w1.heap.size, 0, none⟩ (.string (i ++ t))) (w.heap.size + 1) (i ++ t) o n false b (.slice ag gn cg)
    have d := ((Y1.out.grown g2 (by simp; omega)).put (i ++ t) o n false b (.slice ag gn cg)).cells
    unfold put6 at d g3
    have ho2 := OwI.grown (own_apart15 O2.out g2 HLT.out) g3 (by have := hlt.out; omega)
    refine bodyPost_ret (v := .tuple #[snv (i ++ t) o n false b (.slice ag gn cg), .bool true]) (by simp [results, Try.results11, go_sem, d]) rfl ⟨_, _, rfl, own_base ho2 (by have := hlt.out; omega), ?_⟩
    exact B2.out.trans ((below_of_grown g2 (by omega) B2.out.size).trans (below_of_grown g3 (by omega) (Nat.le_trans B2.out.size g2.size)))
  · clear HY
    go_wp2
    have g3 := put6_grown w2 (w.heap.size + 1) I o n true b (.slice ag gn cg)
    have d := (Y1.out.put I o n true b (.slice ag gn cg)).cells
    unfold put6 at d g3
    have ho2 := OwI.grown O2.out g3 (by have := hlt.out; omega)
    refine bodyPost_ret (v := .tuple #[snv I o n true b (.slice ag gn cg), .bool false]) (by simp [results, Try.results11, go_sem, d]) rfl ⟨_, _, rfl, own_base ho2 (by have := hlt.out; omega), ?_⟩
    exact B2.out.trans (below_of_grown g3 (by omega) B2.out.size)
  · clear HY
    go_wp2
    have g3 := put6_grown w2 (w.heap.size + 1) I o n false b (.slice ag gn cg)
    have d := (Y1.out.put I o n false b (.slice ag gn cg)).cells
    unfold put6 at d g3
    have ho2 := OwI.grown O2.out g3 (by have := hlt.out; omega)
    refine bodyPost_ret (v := .tuple #[snv I o n false b (.slice ag gn cg), .bool false]) (by simp [results, Try.results11, go_sem, d]) rfl ⟨_, _, rfl, own_base ho2 (by have := hlt.out; omega), ?_⟩
    exact B2.out.trans (below_of_grown g3 (by omega) B2.out.size)
  · clear HY
    go_wp2
    have g3 := put6_grown w2 (w.heap.size + 1) I o n false b (.slice ag gn cg)
    have d := (Y1.out.put I o n false b (.slice ag gn cg)).cells
    unfold put6 at d g3
    have ho2 := OwI.grown O2.out g3 (by have := hlt.out; omega)
    refine bodyPost_ret (v := .tuple #[snv I o n false b (.slice ag gn cg), .bool false]) (by simp [results, Try.results11, go_sem, d]) rfl ⟨_, _, rfl, own_base ho2 (by have := hlt.out; omega), ?_⟩
    exact B2.out.trans (below_of_grown g3 (by omega) B2.out.size)
end Go.Proofs.Ytdhkehpihbdkcaa
