/- Ma, Mc, Md, Mg, Mkz, Sva, Svd, Spc, Svf. -/
import Derived.Test.YtdhkehpihbdkcaaProg
import Derived.WalkKit
import Derived.Laws.IdiomStrings
import Derived.WalkSpells
import Derived.WalkLawsBesides
import Derived.Lib.Strings
import Derived.Lib.BufferWrite
import Derived.Lib.UnsafeStr
import Derived.Laws.MakeOwn
import Derived.Below
import Derived.BigQuiet
import Derived.Deep.QuietTactic
import Derived.Deep.RegionHeld3
import Derived.Deep.Cut
import Derived.Laws.ShiftsVarLaws
import Derived.Lib.ItoaNum
namespace Go.Proofs.Ytdhkehpihbdkcaa
open Go.RowKit
end Go.Proofs.Ytdhkehpihbdkcaa
namespace Go.Proofs.Ytdhkehpihbdkcaa
open Go.RowKit
end Go.Proofs.Ytdhkehpihbdkcaa
namespace Go.Proofs.Ytdhkehpihbdkcaa
open Go.RowKit
end Go.Proofs.Ytdhkehpihbdkcaa
namespace Go.Proofs.Ytdhkehpihbdkcaa
open Go.RowKit
/-- Which of two stamps is later. -/
def later (t b t' b' : Int) : Bool := if t = t' then decide (b' < b) else decide (t' < t)
theorem bpush {a w : World} (h : Below a.heap.size a w) (o : Obj) : Below a.heap.size a (w.alloc o) := h.alloc h.size o
theorem btr {a b c : World} (h : Below a.heap.size a b) (k : Below b.heap.size b c) : Below a.heap.size a c := h.trans (k.mono h.size)
theorem bre (a : World) : Below a.heap.size a a := Below.refl _ _
def cb (v t b v' t' b' : Int) : Bool := if t = t' ∧ b = b' then decide (v' < v) else later t b t' b'
end Go.Proofs.Ytdhkehpihbdkcaa
namespace Go.Proofs.Ytdhkehpihbdkcaa
open Go.RowKit
end Go.Proofs.Ytdhkehpihbdkcaa
namespace Go.Proofs.Ytdhkehpihbdkcaa
open Go.RowKit
end Go.Proofs.Ytdhkehpihbdkcaa
namespace Go.Proofs.Ytdhkehpihbdkcaa
open Go.RowKit
end Go.Proofs.Ytdhkehpihbdkcaa
namespace Go.Proofs.Ytdhkehpihbdkcaa
open Go.RowKit
theorem hid {p : Prop} (h : p) : Hid p := h
theorem own_later {w w' : World} {B e size n : Nat} {v : Value} {xs : List Value} (h : w.ownsRow B e size v n xs) (hb : Below w.heap.size w w') : w'.ownsRow B e size v n xs :=
  h.kept (row := none) ⟨hb.os, hb.tape, hb.output, hb.size, fun k hk _ => hb.block k hk⟩ (by cases v.ownBlock <;> simp)
end Go.Proofs.Ytdhkehpihbdkcaa
namespace Go.Proofs.Ytdhkehpihbdkcaa
open Go.RowKit
end Go.Proofs.Ytdhkehpihbdkcaa
namespace Go.Proofs.Ytdhkehpihbdkcaa
open Go.RowKit
theorem wtr {a b c : World} {r : Option Nat} (h : a.grownBy b r) (k : b.grownBy c r) : a.grownBy c r :=
  ⟨k.os.trans h.os, k.tape.trans h.tape, k.output.trans h.output, Nat.le_trans h.size k.size, fun i hi hr => (k.block i (Nat.lt_of_lt_of_le hi h.size) hr).trans (h.block i hi hr)⟩
theorem wre (a : World) (r : Option Nat) : a.grownBy a r := ⟨rfl, rfl, rfl, Nat.le_refl _, fun _ _ _ => rfl⟩
theorem wst {a w : World} {g : Nat} (h : a.grownBy w (some g)) (i : Nat) (u : Value) : a.grownBy (w.setCell ⟨g, i, none⟩ u) (some g) :=
  wtr h ⟨rfl, rfl, rfl, by simp [World.setCell], fun k _ hk => Below.heap_setCell _ _ _ _ (fun e => hk (by simpa using e))⟩
theorem below_of_grown {B g : Nat} {a w : World} (h : a.grownBy w (some g)) (hB : B ≤ g) (hs : B ≤ a.heap.size) : Below B a w :=
  ⟨h.os, h.tape, h.output, h.size, fun k hk => h.block k (by omega) (by simp; omega)⟩
end Go.Proofs.Ytdhkehpihbdkcaa
namespace Go.Proofs.Ytdhkehpihbdkcaa
open Go.RowKit
end Go.Proofs.Ytdhkehpihbdkcaa
namespace Go.Proofs.Ytdhkehpihbdkcaa
open Go.RowKit
end Go.Proofs.Ytdhkehpihbdkcaa
namespace Go.Proofs.Ytdhkehpihbdkcaa
open Go.RowKit
end Go.Proofs.Ytdhkehpihbdkcaa
namespace Go.Proofs.Ytdhkehpihbdkcaa
open Go.RowKit
end Go.Proofs.Ytdhkehpihbdkcaa
namespace Go.Proofs.Ytdhkehpihbdkcaa
open Go.RowKit
end Go.Proofs.Ytdhkehpihbdkcaa
namespace Go.Proofs.Ytdhkehpihbdkcaa
open Go.RowKit
end Go.Proofs.Ytdhkehpihbdkcaa
namespace Go.Proofs.Ytdhkehpihbdkcaa
open Go.RowKit
end Go.Proofs.Ytdhkehpihbdkcaa
namespace Go.Proofs.Ytdhkehpihbdkcaa
open Go.RowKit
theorem bdn {B : Nat} {w w1 : World} (h : Below B w w1) (k : Nat) : Below B w (w1.drewN k) := ⟨h.os, h.tape, h.output, h.size, h.block⟩
/-- Cells of a block that stays. -/
theorem cell_same {W W' : World} {p : Addr} (h : W'.heap[p.block]? = W.heap[p.block]?) : W'.cell? p = W.cell? p := by
  unfold World.cell?
  rw [h]
/-! Numbers. -/
/-- The slice of address a is the numbers of G, in blocks from lo on, below hi. -/
def Is (lo hi : Nat) (W : World) (a : Option Addr) (G : List Int) : Prop :=
  hi ≤ W.heap.size ∧ ∀ i (h : i < G.length), ∃ k o, a = some ⟨k, o, none⟩ ∧ lo ≤ k ∧ k < hi ∧ W.cell? ⟨k, o + i, none⟩ = some (.int .i64 G[i])
theorem Is.same {lo hi : Nat} {W W' : World} {a : Option Addr} {G : List Int} (h : Is lo hi W a G) (hs : hi ≤ W'.heap.size) (hk : ∀ k, lo ≤ k → k < hi → W'.heap[k]? = W.heap[k]?) : Is lo hi W' a G := by
  refine ⟨hs, fun i hi' => ?_⟩
  obtain ⟨k, o, h1, h2, h3, c⟩ := h.2 i hi'
  exact ⟨k, o, h1, h2, h3, (cell_same (p := ⟨k, _, none⟩) (hk k h2 h3)).trans c⟩
theorem Is.later {lo hi : Nat} {W W' : World} {a : Option Addr} {G : List Int} (h : Is lo hi W a G) (hb : Below W.heap.size W W') : Is lo hi W' a G :=
  h.same (Nat.le_trans h.1 hb.size) (fun k _ hk => hb.block k (Nat.lt_of_lt_of_le hk h.1))
theorem Is.at {lo hi : Nat} {W : World} {a : Option Addr} {G : List Int} (h : Is lo hi W a G) {i : Nat} (hi' : i < G.length) : ∃ k o, a = some ⟨k, o, none⟩ ∧ k < W.heap.size ∧ W.cell? ⟨k, o + i, none⟩ = some (.int .i64 G[i]) := by
  obtain ⟨k, o, e1, e2, e3, e4⟩ := h.2 i hi'
  exact ⟨k, o, e1, Nat.lt_of_lt_of_le e3 h.1, e4⟩
/-- A row of numbers that a call owns. -/
abbrev OwI (W : World) (B : Nat) (v : Value) (G : List Int) : Prop := W.ownsRow B 3 1 v G.length (G.map (Value.int .i64))
theorem OwI.is {W : World} {B n c : Nat} {a : Option Addr} {G : List Int} (h : OwI W B (.slice a n c) G) : n = G.length ∧ Is B W.heap.size W a G := by
  have hw := h
  rcases h.2 with ⟨h1, h2⟩ | ⟨g, cap, cur, h1, h2, h3, h4, h5, h6, h7⟩
  · simp only [Value.slice.injEq] at h1
    exact ⟨by omega, Nat.le_refl _, fun i hi => by omega⟩
  · simp only [Value.slice.injEq] at h1
    obtain ⟨rfl, rfl, rfl⟩ := h1
    refine ⟨rfl, Nat.le_refl _, fun i hi => ⟨g, 0, rfl, h2, (Array.getElem?_eq_some_iff.1 h3).1, ?_⟩⟩
    simp only [Nat.zero_add]
    rw [hw.cellAt i (by omega), List.getElem?_map, List.getElem?_eq_getElem hi]
    rfl
theorem OwI.stored {W : World} {B g n c : Nat} {G : List Int} (h : OwI W B (.slice (some ⟨g, 0, none⟩) n c) G) (i : Nat) (x : Int) :
    OwI (W.setCell ⟨g, i, none⟩ (.int .i64 x)) B (.slice (some ⟨g, 0, none⟩) n c) (G.set i x) := by
  obtain rfl := (OwI.is h).1
  have h1 := (World.ownsRow.stored h i (.int .i64 x)).1
  rw [← List.map_set] at h1
  simpa [OwI] using h1
end Go.Proofs.Ytdhkehpihbdkcaa
namespace Go.Proofs.Ytdhkehpihbdkcaa
open Go.RowKit
/-! Sizes. -/
end Go.Proofs.Ytdhkehpihbdkcaa
namespace Go.Proofs.Ytdhkehpihbdkcaa
open Go.RowKit
set_option maxHeartbeats 800000 in
set_option maxRecDepth 100000 in
/-- Two rows of the same numbers are told alike. -/
theorem eqIntS_any (l1 h1 l2 h2 : Nat) (ao bo : Option Addr) (n ca cb : Nat) (G : List Int) (w : World) (hl : G.length = n) (hn : n ≤ 1048576) (ha : Is l1 h1 w ao G) (hb : Is l2 h2 w bo G) :
    Calls Try.prog 15 #[.slice ao n ca, .slice bo n cb] w fun e w' => e = .returned (.bool true) ∧ Below w.heap.size w w' := by
  have hnn : ((n : Int) != (n : Int)) = false := by simp
  have HA := hid ha
  have HB := hid hb
  have HL := hid hl
  clear ha hb hl
  go_enter Try.func15, Try.ntmps15
  go_wp2
  clear hnn
  go_loopw [5] (fun iv wr => ∃ i : Nat, i ≤ n ∧ iv = .int .i64 (i : Int) ∧ Below w.heap.size w wr) (fun iv _ => n - (intOf iv).toNat)
  case atStart => exact ⟨0, Nat.zero_le _, rfl, bre _⟩
  case round =>
    obtain ⟨i, hi, rfl, hb⟩ := hrel
    have HBE := hid hb
    clear hb
    by_cases hlt : i < n
    · have hil : i < G.length := by rw [HL.out]; exact hlt
      obtain ⟨k, o, rfl, hk, c⟩ := (HA.out.later HBE.out).at hil
      obtain ⟨k', o', rfl, hk', d⟩ := (HB.out.later HBE.out).at hil
      obtain ⟨x, hx⟩ : ∃ x, G[i] = x := ⟨_, rfl⟩
      rw [hx] at c d
      clear hx
      have hI : (0 : Int) ≤ (i : Int) ∧ (i : Int) < (n : Int) := by omega
      have hxx : (x != x) = false := by simp
      go_wp2_with fail
      go_quiet (fail)
      go_wp2
      go_roundw
      case rel => exact ⟨i + 1, by omega, by go_num, bdn HBE.out _⟩
      case measure => simp [intOf]; omega
    · go_wp2
      go_ret
      exact ⟨rfl, HBE.out⟩
end Go.Proofs.Ytdhkehpihbdkcaa
namespace Go.Proofs.Ytdhkehpihbdkcaa
open Go.RowKit
section
variable {W W' : World} {k ty : Nat} {g : Int} {nm : ByteArray} {t b nx : Int} {ms gs : Value}
end
end Go.Proofs.Ytdhkehpihbdkcaa
namespace Go.Proofs.Ytdhkehpihbdkcaa
open Go.RowKit
end Go.Proofs.Ytdhkehpihbdkcaa
namespace Go.Proofs.Ytdhkehpihbdkcaa
open Go.RowKit
/-! Ascending numbers. -/
/-! Among them. -/
def inl (x : Int) : List Int → Bool
  | [] => false
  | y :: l => decide (y = x) || inl x l
/-! Where a mail is. -/
end Go.Proofs.Ytdhkehpihbdkcaa
namespace Go.Proofs.Ytdhkehpihbdkcaa
open Go.RowKit
end Go.Proofs.Ytdhkehpihbdkcaa
namespace Go.Proofs.Ytdhkehpihbdkcaa
open Go.RowKit Go.ChangeMaps
/-! Numbers marked. -/
def mki (k n : Nat) : List Int := (List.range n).map fun i => ((k + i : Nat) : Int)
theorem mki_len (k n : Nat) : (mki k n).length = n := by simp [mki]
theorem mki_at (k n i : Nat) (h : i < (mki k n).length) : (mki k n)[i] = ((k + i : Nat) : Int) := by simp [mki]
theorem mki_succ (k n : Nat) : mki k (n + 1) = mki k n ++ [((k + n : Nat) : Int)] := by simp [mki, List.range_succ]
set_option maxHeartbeats 800000 in
set_option maxRecDepth 100000 in
theorem markIS_any (B : Nat) (a : Option Addr) (n cap k : Nat) (G : List Int) (w : World) (hown : OwI w B (.slice a n cap) G) (hl : G.length = n) (hn : n ≤ 1048576) (hk : k ≤ 8000000) :
    Calls Try.prog 16 #[.slice a n cap, .int .i64 (k : Int)] w fun e w' => e = .returned (.int .i64 ((k + n : Nat) : Int)) ∧ OwI w' B (.slice a n cap) (mki k n) ∧ w.grownBy w' (Value.ownBlock (.slice a n cap)) := by
  have HO := hid hown
  have HL := hid hl
  clear hown hl
  go_enter Try.func16, Try.ntmps16
  go_wp2
  go_loopw [1, 5] (fun kv iv wr => ∃ i : Nat, i ≤ n ∧ kv = .int .i64 ((k + i : Nat) : Int) ∧ iv = .int .i64 (i : Int) ∧ OwI wr B (.slice a n cap) (mki k i ++ G.drop i) ∧ w.grownBy wr (Value.ownBlock (.slice a n cap))) (fun _ iv _ => n - (intOf iv).toNat)
  case atStart => exact ⟨0, Nat.zero_le _, by simp, rfl, by simpa [mki] using HO.out, wre _ _⟩
  case round =>
    obtain ⟨i, hi, rfl, rfl, hown, hg⟩ := hrel
    have HOW := hid hown
    have HG := hid hg
    clear hown hg
    by_cases hlt : i < n
    · have hil : i < G.length := by rw [HL.out]; exact hlt
      rcases HOW.out.2 with ⟨h1, h2⟩ | ⟨g, cap', cur, h1, hB, _⟩
      · have := HOW.out.1
        rw [List.length_append, mki_len, List.length_drop] at h2
        omega
      simp only [Value.slice.injEq] at h1
      obtain ⟨rfl, -, rfl⟩ := h1
      have hyl : i < (mki k i ++ G.drop i).length := by rw [List.length_append, mki_len, List.length_drop]; omega
      obtain ⟨k', o', e', hk', c1⟩ := (OwI.is HOW.out).2.at hyl
      simp only [Option.some.injEq, Addr.mk.injEq, and_true] at e'
      obtain ⟨rfl, rfl⟩ := e'
      simp only [Nat.zero_add] at c1
      obtain ⟨x, hx⟩ : ∃ x, (mki k i ++ G.drop i)[i] = x := ⟨_, rfl⟩
      rw [hx] at c1
      have hnn := (OwI.is HOW.out).1
      have hfz := World.ownsRow.frozenAt (n := (mki k i ++ G.drop i).length) (by have h := HOW.out; rw [hnn] at h; exact h) i
      have hst := OwI.stored HOW.out i ((k + i : Nat) : Int)
      have hnew : (mki k i ++ G.drop i).set i ((k + i : Nat) : Int) = mki k (i + 1) ++ G.drop (i + 1) := by
        rw [List.set_append_right _ _ (by rw [mki_len]; omega), mki_len, Nat.sub_self, List.drop_eq_getElem_cons hil, List.set_cons_zero, mki_succ, List.append_assoc]
        rfl
      rw [hnew] at hst
      have HST := hid hst
      obtain ⟨q, hq⟩ : ∃ q : Nat, k + i = q := ⟨_, rfl⟩
      have HQ := hid hq
      have hqb : q ≤ 9100000 := by omega
      rw [hq] at HST ⊢
      clear hq hst hnew hx hnn hyl
      go_wp2
      go_roundw
      case rel => exact ⟨i + 1, by omega, by rw [show ((k + (i + 1) : Nat) : Int) = (q : Int) + 1 by have := HQ.out; omega], by go_num, HST.out, wst HG.out _ _⟩
      case measure => simp [intOf]; omega
    · have HN : Hid (i = n) := by show _ = _; omega
      have HD : Hid (G.drop i = []) := List.drop_of_length_le (by rw [HL.out]; omega)
      go_wp2
      go_ret
      refine ⟨by rw [HN.out]; rfl, ?_, HG.out⟩
      have h := HOW.out
      rw [HD.out, List.append_nil, HN.out] at h
      exact h
set_option maxHeartbeats 800000 in
set_option maxRecDepth 100000 in
theorem heldIS_any (B : Nat) (a : Option Addr) (n cap k : Nat) (w : World) (hown : OwI w B (.slice a n cap) (mki k n)) (hn : n ≤ 1048576) (hk : k ≤ 8000000) :
    Calls Try.prog 17 #[.slice a n cap, .int .i64 (k : Int)] w fun e w' => e = .returned (.int .i64 ((k + n : Nat) : Int)) ∧ w' = w := by
  have HO := hid hown
  clear hown
  go_enter Try.func17, Try.ntmps17
  go_wp2
  go_loop [1, 5] (fun kv iv => ∃ i : Nat, i ≤ n ∧ kv = .int .i64 ((k + i : Nat) : Int) ∧ iv = .int .i64 (i : Int)) (fun _ iv => n - (intOf iv).toNat)
  case atStart => exact ⟨0, Nat.zero_le _, by simp, rfl⟩
  case round =>
    obtain ⟨i, hi, rfl, rfl⟩ := hrel
    by_cases hlt : i < n
    · have hil : i < (mki k n).length := by rw [mki_len]; exact hlt
      obtain ⟨k', o', rfl, hk', c⟩ := (OwI.is HO.out).2.at hil
      rw [mki_at] at c
      obtain ⟨q, hq⟩ : ∃ q : Nat, k + i = q := ⟨_, rfl⟩
      have HQ := hid hq
      have hqb : q ≤ 9100000 := by omega
      rw [hq] at c ⊢
      have e1 : ((q : Int) != (q : Int)) = false := by simp
      clear hq
      go_wp2
      go_round
      case rel => exact ⟨i + 1, by omega, by rw [show ((k + (i + 1) : Nat) : Int) = (q : Int) + 1 by have := HQ.out; omega], by go_num⟩
      case measure => simp [intOf]; omega
    · have HN : Hid (i = n) := by show _ = _; omega
      go_wp2
      go_ret
      exact ⟨by rw [HN.out]; rfl, rfl⟩
end Go.Proofs.Ytdhkehpihbdkcaa
namespace Go.Proofs.Ytdhkehpihbdkcaa
open Go.RowKit Go.ChangeMaps
end Go.Proofs.Ytdhkehpihbdkcaa
namespace Go.Proofs.Ytdhkehpihbdkcaa
open Go.RowKit Go.ChangeMaps
end Go.Proofs.Ytdhkehpihbdkcaa
namespace Go.Proofs.Ytdhkehpihbdkcaa
open Go.RowKit Go.ChangeMaps
end Go.Proofs.Ytdhkehpihbdkcaa
namespace Go.Proofs.Ytdhkehpihbdkcaa
open Go.RowKit Go.ChangeMaps
/-- Block k holds a session. -/
def Sn (W : World) (k ty : Nat) (i o : ByteArray) (n v : Bool) (b : Int) (gv : Value) : Prop := W.heap[k]? = some (.cells #[.string i, .string o, .bool n, .bool v, .int .i64 b, gv] ty (0, 0))
section
variable {W W' : World} {k ty : Nat} {i o : ByteArray} {n v : Bool} {b : Int} {gv : Value}
theorem Sn.new (w : World) (ty : Nat) (i o : ByteArray) (n v : Bool) (b : Int) (gv : Value) : Sn (w.alloc (.cells #[.string i, .string o, .bool n, .bool v, .int .i64 b, gv] ty)) w.heap.size ty i o n v b gv := heap_alloc_new w _
theorem Sn.lt (h : Sn W k ty i o n v b gv) : k < W.heap.size := (Array.getElem?_eq_some_iff.1 h).1
theorem Sn.later (h : Sn W k ty i o n v b gv) (hb : Below W.heap.size W W') : Sn W' k ty i o n v b gv := (hb.block k h.lt).trans h
theorem Sn.cells (h : Sn W k ty i o n v b gv) : W.cell? ⟨k, 0, none⟩ = some (.string i) ∧ W.cell? ⟨k, 1, none⟩ = some (.string o) ∧ W.cell? ⟨k, 2, none⟩ = some (.bool n) ∧ W.cell? ⟨k, 3, none⟩ = some (.bool v) ∧ W.cell? ⟨k, 4, none⟩ = some (.int .i64 b) ∧ W.cell? ⟨k, 5, none⟩ = some gv :=
  ⟨cell_of_row W k 0 _ _ _ h, cell_of_row W k 1 _ _ _ h, cell_of_row W k 2 _ _ _ h, cell_of_row W k 3 _ _ _ h, cell_of_row W k 4 _ _ _ h, cell_of_row W k 5 _ _ _ h⟩
theorem Sn.loose (h : Sn W k ty i o n v b gv) : W.frozen? ⟨k, 0, none⟩ = false ∧ W.frozen? ⟨k, 1, none⟩ = false ∧ W.frozen? ⟨k, 2, none⟩ = false ∧ W.frozen? ⟨k, 3, none⟩ = false ∧ W.frozen? ⟨k, 4, none⟩ = false ∧ W.frozen? ⟨k, 5, none⟩ = false :=
  ⟨frozen_of_row W k 0 _ _ h, frozen_of_row W k 1 _ _ h, frozen_of_row W k 2 _ _ h, frozen_of_row W k 3 _ _ h, frozen_of_row W k 4 _ _ h, frozen_of_row W k 5 _ _ h⟩
theorem Sn.s0 (h : Sn W k ty i o n v b gv) (x : ByteArray) : Sn (W.setCell ⟨k, 0, none⟩ (.string x)) k ty x o n v b gv := heap_setCell_same W k 0 _ _ _ h
theorem Sn.s1 (h : Sn W k ty i o n v b gv) (x : ByteArray) : Sn (W.setCell ⟨k, 1, none⟩ (.string x)) k ty i x n v b gv := heap_setCell_same W k 1 _ _ _ h
theorem Sn.s2 (h : Sn W k ty i o n v b gv) (x : Bool) : Sn (W.setCell ⟨k, 2, none⟩ (.bool x)) k ty i o x v b gv := heap_setCell_same W k 2 _ _ _ h
theorem Sn.s3 (h : Sn W k ty i o n v b gv) (x : Bool) : Sn (W.setCell ⟨k, 3, none⟩ (.bool x)) k ty i o n x b gv := heap_setCell_same W k 3 _ _ _ h
theorem Sn.s4 (h : Sn W k ty i o n v b gv) (x : Int) : Sn (W.setCell ⟨k, 4, none⟩ (.int .i64 x)) k ty i o n v x gv := heap_setCell_same W k 4 _ _ _ h
theorem Sn.s5 (h : Sn W k ty i o n v b gv) (x : Value) : Sn (W.setCell ⟨k, 5, none⟩ x) k ty i o n v b x := heap_setCell_same W k 5 _ _ _ h
end
/-- A block's six cells, all put. -/
def put6 (W : World) (k : Nat) (i o : ByteArray) (n v : Bool) (b : Int) (gv : Value) : World := (((((W.setCell ⟨k, 0, none⟩ (.string i)).setCell ⟨k, 1, none⟩ (.string o)).setCell ⟨k, 2, none⟩ (.bool n)).setCell ⟨k, 3, none⟩ (.bool v)).setCell ⟨k, 4, none⟩ (.int .i64 b)).setCell ⟨k, 5, none⟩ gv
theorem Sn.put {W : World} {k ty : Nat} {i0 o0 : ByteArray} {n0 v0 : Bool} {b0 : Int} {gv0 : Value} (h : Sn W k ty i0 o0 n0 v0 b0 gv0) (i o : ByteArray) (n v : Bool) (b : Int) (gv : Value) : Sn (put6 W k i o n v b gv) k ty i o n v b gv := (((((h.s0 i).s1 o).s2 n).s3 v).s4 b).s5 gv
theorem put6_grown (W : World) (k : Nat) (i o : ByteArray) (n v : Bool) (b : Int) (gv : Value) : W.grownBy (put6 W k i o n v b gv) (some k) := wst (wst (wst (wst (wst (wst (wre W (some k)) 0 _) 1 _) 2 _) 3 _) 4 _) 5 _
abbrev snv (i o : ByteArray) (n v : Bool) (b : Int) (gv : Value) : Value := .agg #[.string i, .string o, .bool n, .bool v, .int .i64 b, gv]
abbrev sn0 : Array Value := #[.string ⟨#[]⟩, .string ⟨#[]⟩, .bool false, .bool false, .int .i64 0, .slice none 0 0]
set_option maxHeartbeats 800000 in
set_option maxRecDepth 100000 in
theorem eqSn_any (l1 h1 l2 h2 : Nat) (i o : ByteArray) (n v : Bool) (b : Int) (ga ga' : Option Addr) (gn gc gc' : Nat) (G : List Int) (w : World) (hl : G.length = gn) (hn : gn ≤ 1048576) (ha : Is l1 h1 w ga G) (hb : Is l2 h2 w ga' G) :
    Calls Try.prog 7 #[snv i o n v b (.slice ga gn gc), snv i o n v b (.slice ga' gn gc')] w fun e w' => e = .returned (.bool true) ∧ Below w.heap.size w w' := by
  obtain ⟨W0, hW0⟩ : ∃ W0, (w.alloc (.cells #[.string i, .string o, .bool n, .bool v, .int .i64 b, .slice ga gn gc] 24)).alloc (.cells #[.string i, .string o, .bool n, .bool v, .int .i64 b, .slice ga' gn gc'] 24) = W0 := ⟨_, rfl⟩
  have b0 : Below w.heap.size w W0 := by subst hW0; exact bpush (bpush (bre _) _) _
  have x0 : Sn W0 w.heap.size 24 i o n v b (.slice ga gn gc) := by subst hW0; exact (Sn.new w _ _ _ _ _ _ _).later (bpush (bre _) _)
  have x1 : Sn W0 (w.heap.size + 1) 24 i o n v b (.slice ga' gn gc') := by
    subst hW0
    have h := Sn.new (w.alloc (.cells #[.string i, .string o, .bool n, .bool v, .int .i64 b, .slice ga gn gc] 24)) 24 i o n v b (.slice ga' gn gc')
    simpa using h
  have HC := hid (eqIntS_any l1 h1 l2 h2 ga ga' gn gc gc' G W0 hl hn (ha.later b0) (hb.later b0))
  have B0 := hid b0
  have c0 := x0.cells
  have c1 := x1.cells
  clear x0 x1 b0 ha hb hl
  have e1 : (!i.toList == i.toList) = false := by simp
  have e2 : (!o.toList == o.toList) = false := by simp
  have e3 : (b != b) = false := by simp
  have e4 : (n != n) = false := by simp
  have e5 : (v != v) = false := by simp
  go_enter Try.func7, Try.ntmps7
  go_wp2_with fail
  clear hW0
  refine HC.out.mono ?_; rintro e w1 ⟨rfl, hb⟩
  have B1 := hid (btr B0.out hb)
  clear hb c0 c1
  go_wp2
  go_ret
  exact ⟨rfl, B1.out⟩
set_option maxHeartbeats 800000 in
set_option maxRecDepth 100000 in
theorem markSn_any (B : Nat) (i o : ByteArray) (n v : Bool) (b : Int) (ga : Option Addr) (gn gc k : Nat) (G : List Int) (w : World) (hown : OwI w B (.slice ga gn gc) G) (hl : G.length = gn) (hn : gn ≤ 1048576) (hk : k ≤ 8000000) :
    Calls Try.prog 8 #[snv i o n v b (.slice ga gn gc), .int .i64 (k : Int)] w fun e w' => e = .returned (.int .i64 ((k + gn : Nat) : Int)) ∧ OwI w' B (.slice ga gn gc) (mki k gn) ∧ w.grownBy w' (Value.ownBlock (.slice ga gn gc)) := by
  obtain ⟨W0, hW0⟩ : ∃ W0, w.alloc (.cells #[.string i, .string o, .bool n, .bool v, .int .i64 b, .slice ga gn gc] 24) = W0 := ⟨_, rfl⟩
  have b0 : Below w.heap.size w W0 := by subst hW0; exact bpush (bre _) _
  have x0 : Sn W0 w.heap.size 24 i o n v b (.slice ga gn gc) := by subst hW0; exact Sn.new w _ _ _ _ _ _ _
  have G0 := hid (show w.grownBy W0 (Value.ownBlock (.slice ga gn gc)) by subst hW0; exact World.grownBy_alloc _ _ _)
  have HC := hid (markIS_any B ga gn gc k G W0 (own_later hown b0) hl hn hk)
  have c0 := x0.cells
  clear x0 b0 hown hl
  go_enter Try.func8, Try.ntmps8
  go_wp2_with fail
  clear hW0
  refine HC.out.mono ?_; rintro e w1 ⟨rfl, ho, hg⟩
  have HO := hid ho
  have HG := hid (wtr G0.out hg)
  clear ho hg c0
  go_wp2
  go_ret
  exact ⟨rfl, HO.out, HG.out⟩
set_option maxHeartbeats 800000 in
set_option maxRecDepth 100000 in
theorem heldSn_any (B : Nat) (i o : ByteArray) (n v : Bool) (b : Int) (ga : Option Addr) (gn gc k : Nat) (w : World) (hown : OwI w B (.slice ga gn gc) (mki k gn)) (hn : gn ≤ 1048576) (hk : k ≤ 8000000) :
    Calls Try.prog 9 #[snv i o n v b (.slice ga gn gc), .int .i64 (k : Int)] w fun e w' => e = .returned (.int .i64 ((k + gn : Nat) : Int)) ∧ Below w.heap.size w w' := by
  obtain ⟨W0, hW0⟩ : ∃ W0, w.alloc (.cells #[.string i, .string o, .bool n, .bool v, .int .i64 b, .slice ga gn gc] 24) = W0 := ⟨_, rfl⟩
  have b0 : Below w.heap.size w W0 := by subst hW0; exact bpush (bre _) _
  have x0 : Sn W0 w.heap.size 24 i o n v b (.slice ga gn gc) := by subst hW0; exact Sn.new w _ _ _ _ _ _ _
  have HC := hid (heldIS_any B ga gn gc k W0 (own_later hown b0) hn hk)
  have B0 := hid b0
  have c0 := x0.cells
  clear x0 b0 hown
  have h2 : ¬ ((k + gn : Nat) : Int) < 0 := by omega
  go_enter Try.func9, Try.ntmps9
  go_wp2_with fail
  clear hW0
  refine HC.out.mono ?_; rintro e w1 ⟨rfl, rfl⟩
  clear c0
  go_wp2
  go_ret
  exact ⟨rfl, B0.out⟩
theorem markSn1 (B : Nat) (i o : ByteArray) (n v : Bool) (b : Int) (ga : Option Addr) (gn gc : Nat) (G : List Int) (w : World) (hown : OwI w B (.slice ga gn gc) G) (hl : G.length = gn) (hn : gn ≤ 1048576) :
    Calls Try.prog 8 #[snv i o n v b (.slice ga gn gc), .int .i64 1] w fun e w' => e = .returned (.int .i64 ((1 + gn : Nat) : Int)) ∧ OwI w' B (.slice ga gn gc) (mki 1 gn) ∧ w.grownBy w' (Value.ownBlock (.slice ga gn gc)) :=
  markSn_any B i o n v b ga gn gc 1 G w hown hl hn (by decide)
theorem heldSn1 (B : Nat) (i o : ByteArray) (n v : Bool) (b : Int) (ga : Option Addr) (gn gc : Nat) (w : World) (hown : OwI w B (.slice ga gn gc) (mki 1 gn)) (hn : gn ≤ 1048576) :
    Calls Try.prog 9 #[snv i o n v b (.slice ga gn gc), .int .i64 1] w fun e w' => e = .returned (.int .i64 ((1 + gn : Nat) : Int)) ∧ Below w.heap.size w w' :=
  heldSn_any B i o n v b ga gn gc 1 w hown hn (by decide)
set_option maxHeartbeats 1600000 in
set_option maxRecDepth 100000 in
theorem joinOne_any (k c : Nat) (p s : ByteArray) (w : World) (hc : w.cell? ⟨k, 0, none⟩ = some (.string p)) : Calls Try.prog 23 #[.slice (some ⟨k, 0, none⟩) 1 c, .string s] w fun e w' => e = .returned (.string p) ∧ Below w.heap.size w w' := by
  go_enter Try.func23, Try.ntmps23
  go_wp2
  go_ret
  exact ⟨rfl, bre _⟩
set_option maxHeartbeats 1600000 in
set_option maxRecDepth 100000 in
theorem saidOne_any (k c : Nat) (t p : ByteArray) (w : World) (hc : w.cell? ⟨k, 0, none⟩ = some (.string p)) (ht : t.size ≤ 1048576) (hp : p.size ≤ 1048576) : Calls Try.prog 14 #[.string t, .slice (some ⟨k, 0, none⟩) 1 c] w fun e w' => e = .returned (.string (t ++ ⟨#[32]⟩ ++ p ++ ⟨#[13, 10]⟩)) ∧ Below w.heap.size w w' := by
  have HJ := hid (joinOne_any k c p ⟨#[32]⟩ w hc)
  clear hc
  have h1 : (t ++ (⟨#[32]⟩ : ByteArray)).size = t.size + 1 := ByteArray.size_append
  have h2 : (t ++ (⟨#[32]⟩ : ByteArray) ++ p).size = t.size + 1 + p.size := by rw [ByteArray.size_append, h1]
  go_enter Try.func14, Try.ntmps14
  go_wp2_with fail
  refine HJ.out.mono ?_; rintro e w1 ⟨rfl, hb⟩
  have HB := hid hb
  clear hb
  go_wp2
  go_ret
  exact ⟨rfl, HB.out⟩
set_option maxHeartbeats 1600000 in
set_option maxRecDepth 100000 in
theorem implSnNew_any (w : World) : Calls Try.prog 6 #[] w fun e w' => e = .returned (snv ⟨#[]⟩ ⟨#[42, 32, 79, 75, 13, 10]⟩ false false 0 (.slice none 0 0)) ∧ Below w.heap.size w w' := by
  obtain ⟨W0, hW0⟩ : ∃ W0, (w.alloc (.cells sn0 24)).alloc (.cells #[.string ⟨#[79, 75]⟩] 9) = W0 := ⟨_, rfl⟩
  have b0 : Below w.heap.size w W0 := by subst hW0; exact bpush (bpush (bre _) _) _
  have x0 : Sn W0 w.heap.size 24 ⟨#[]⟩ ⟨#[]⟩ false false 0 (.slice none 0 0) := by subst hW0; exact (Sn.new w _ _ _ _ _ _ _).later (bpush (bre _) _)
  have hc : W0.cell? ⟨w.heap.size + 1, 0, none⟩ = some (.string ⟨#[79, 75]⟩) := by
    subst hW0
    have h := heap_alloc_new (w.alloc (.cells sn0 24)) (.cells #[.string ⟨#[79, 75]⟩] 9)
    rw [World.size_alloc] at h
    exact cell_of_row _ _ 0 _ _ _ h
  have HC := saidOne_any (w.heap.size + 1) 1 ⟨#[42]⟩ ⟨#[79, 75]⟩ W0 hc (by decide) (by decide)
  rw [show ((⟨#[42]⟩ : ByteArray) ++ ⟨#[32]⟩ ++ ⟨#[79, 75]⟩ ++ ⟨#[13, 10]⟩) = ⟨#[42, 32, 79, 75, 13, 10]⟩ from rfl] at HC
  have HC := hid HC
  have X0 := hid x0
  have B0 := hid b0
  have HW := hid hW0
  clear x0 b0 hW0 hc
  go_enter Try.func6, Try.ntmps6
  go_wp2_with fail
  rw [HW.out]
  clear HW
  refine HC.out.mono ?_; rintro e w1 ⟨rfl, hb⟩
  have X0 := hid (X0.out.later hb)
  have B0 := hid (btr B0.out hb)
  have c0 := X0.out.cells
  have f0 := X0.out.loose
  clear hb HC
  go_wp2
  have g3 := put6_grown w1 w.heap.size ⟨#[]⟩ ⟨#[42, 32, 79, 75, 13, 10]⟩ false false 0 (.slice none 0 0)
  have d := (X0.out.put ⟨#[]⟩ ⟨#[42, 32, 79, 75, 13, 10]⟩ false false 0 (.slice none 0 0)).cells
  unfold put6 at d g3
  refine bodyPost_ret (v := snv ⟨#[]⟩ ⟨#[42, 32, 79, 75, 13, 10]⟩ false false 0 (.slice none 0 0)) (by simp [results, Try.results6, go_sem, d]) rfl ⟨rfl, ?_⟩
  exact B0.out.trans (below_of_grown g3 (by omega) B0.out.size)
abbrev okl : ByteArray := ⟨#[42, 32, 79, 75, 13, 10]⟩
abbrev snw : Value := snv ⟨#[]⟩ okl false false 0 (.slice none 0 0)
theorem specSnNew_any (w : World) : Calls Try.prog 5 #[] w fun e w' => e = .returned snw ∧ Below w.heap.size w w' := by
  have d := (Sn.new w 24 ⟨#[]⟩ okl false false 0 (.slice none 0 0)).cells
  have Z0 := hid (Sn.new w 24 ⟨#[]⟩ ⟨#[]⟩ false false 0 (.slice none 0 0))
  have c := Z0.out.cells
  have f := Z0.out.loose
  go_enter Try.func5, Try.ntmps5
  go_wp2
  exact bodyPost_ret (v := snw) (by simp [results, Try.results5, go_sem, d]) rfl ⟨rfl, bpush (bre _) _⟩
theorem below_none15 {a w : World} (h : a.grownBy w (Value.ownBlock (.slice none 0 0))) : Below a.heap.size a w := ⟨h.os, h.tape, h.output, h.size, fun k hk => h.block k hk (by simp [Value.ownBlock])⟩
theorem is_nil15 (W : World) : Is 0 W.heap.size W none [] := ⟨Nat.le_refl _, fun i h => by simp at h⟩
theorem own_nil15 (W : World) : OwI W W.heap.size (.slice none 0 0) [] := ⟨rfl, Or.inl ⟨rfl, rfl⟩⟩
set_option maxHeartbeats 1600000 in
set_option maxRecDepth 100000 in
theorem lawSnNew_any (w : World) : Calls Try.prog 3 #[] w fun e w' => e = .returned (.bool true) ∧ Below w.heap.size w w' := by
  have CS := hid (fun (W : World) => specSnNew_any W)
  have CI := hid (fun (W : World) => implSnNew_any W)
  have CE := hid (fun (W : World) => eqSn_any 0 W.heap.size 0 W.heap.size ⟨#[]⟩ okl false false 0 none none 0 0 0 [] W rfl (by decide) (is_nil15 W) (is_nil15 W))
  have CM := hid (fun (W : World) => markSn1 W.heap.size ⟨#[]⟩ okl false false 0 none 0 0 [] W (own_nil15 W) rfl (by decide))
  have CH := hid (fun (W : World) => heldSn1 W.heap.size ⟨#[]⟩ okl false false 0 none 0 0 W (own_nil15 W) (by decide))
  have BE := hid (bre w)
  have e1 : (((1 + 0 : Nat) : Int) != ((1 + 0 : Nat) : Int)) = false := by simp
  have e2 : ¬ ((1 + 0 : Nat) : Int) < 0 := by decide
  go_enter Try.func3, Try.ntmps3
  go_wp2_with fail
  refine (CS.out _).mono ?_; rintro e w1 ⟨rfl, hb⟩
  obtain ⟨kS1, hkS1⟩ : ∃ x, w1.heap.size = x := ⟨_, rfl⟩
  have xS1 : Sn (w1.alloc (.cells #[.string ⟨#[]⟩, .string okl, .bool false, .bool false, .int .i64 0, .slice none 0 0] 24)) kS1 24 ⟨#[]⟩ okl false false 0 (.slice none 0 0) := by rw [← hkS1]; exact Sn.new _ _ _ _ _ _ _ _
  have hb2 := btr hb (bpush (bre w1) (.cells #[.string ⟨#[]⟩, .string okl, .bool false, .bool false, .int .i64 0, .slice none 0 0] 24))
  have BE := hid (btr BE.out hb2)
  clear hb2
  have mS1 := xS1.cells; have nS1 := xS1.loose; have S1 := hid xS1; clear xS1 hb
  go_wp2_with fail
  obtain ⟨w1b, hw1b⟩ : ∃ W, w1.alloc (.cells #[.string ⟨#[]⟩, .string okl, .bool false, .bool false, .int .i64 0, .slice none 0 0] 24) = W := ⟨_, rfl⟩
  rw [hw1b] at S1 BE ⊢
  clear hw1b hkS1 mS1 nS1
  refine (CI.out _).mono ?_; rintro e w2 ⟨rfl, hb⟩
  obtain ⟨kG1, hkG1⟩ : ∃ x, w2.heap.size = x := ⟨_, rfl⟩
  have xG1 : Sn (w2.alloc (.cells #[.string ⟨#[]⟩, .string okl, .bool false, .bool false, .int .i64 0, .slice none 0 0] 24)) kG1 24 ⟨#[]⟩ okl false false 0 (.slice none 0 0) := by rw [← hkG1]; exact Sn.new _ _ _ _ _ _ _ _
  have hb2 := btr hb (bpush (bre w2) (.cells #[.string ⟨#[]⟩, .string okl, .bool false, .bool false, .int .i64 0, .slice none 0 0] 24))
  have S1 := hid (S1.out.later hb2)
  have BE := hid (btr BE.out hb2)
  clear hb2
  have mG1 := xG1.cells; have nG1 := xG1.loose; have G1 := hid xG1; clear xG1 hb
  have q0 := G1.out.cells
  have q1 := S1.out.cells
  go_wp2_with fail
  clear q0 q1
  obtain ⟨w2b, hw2b⟩ : ∃ W, w2.alloc (.cells #[.string ⟨#[]⟩, .string okl, .bool false, .bool false, .int .i64 0, .slice none 0 0] 24) = W := ⟨_, rfl⟩
  rw [hw2b] at S1 G1 BE ⊢
  clear hw2b hkG1 mG1 nG1
  refine (CE.out _).mono ?_; rintro e w3 ⟨rfl, hb⟩
  have S1 := hid (S1.out.later hb)
  have G1 := hid (G1.out.later hb)
  have BE := hid (btr BE.out hb)
  clear hb
  have q0 := G1.out.cells
  go_wp2_with fail
  clear q0
  refine (CM.out _).mono ?_; rintro e w4 ⟨rfl, -, hg⟩
  have hb := below_none15 hg
  clear hg
  have S1 := hid (S1.out.later hb)
  have G1 := hid (G1.out.later hb)
  have BE := hid (btr BE.out hb)
  clear hb
  have q0 := G1.out.cells
  go_wp2_with fail
  clear q0
  refine (CH.out _).mono ?_; rintro e w5 ⟨rfl, hb⟩
  have S1 := hid (S1.out.later hb)
  have G1 := hid (G1.out.later hb)
  have BE := hid (btr BE.out hb)
  clear hb
  go_wp2_with fail
  refine (CI.out _).mono ?_; rintro e w6 ⟨rfl, hb⟩
  obtain ⟨kH1, hkH1⟩ : ∃ x, w6.heap.size = x := ⟨_, rfl⟩
  have xH1 : Sn (w6.alloc (.cells #[.string ⟨#[]⟩, .string okl, .bool false, .bool false, .int .i64 0, .slice none 0 0] 24)) kH1 24 ⟨#[]⟩ okl false false 0 (.slice none 0 0) := by rw [← hkH1]; exact Sn.new _ _ _ _ _ _ _ _
  have hb2 := btr hb (bpush (bre w6) (.cells #[.string ⟨#[]⟩, .string okl, .bool false, .bool false, .int .i64 0, .slice none 0 0] 24))
  have S1 := hid (S1.out.later hb2)
  have G1 := hid (G1.out.later hb2)
  have BE := hid (btr BE.out hb2)
  clear hb2
  have mH1 := xH1.cells; have nH1 := xH1.loose; have H1 := hid xH1; clear xH1 hb
  have q0 := H1.out.cells
  have q1 := S1.out.cells
  go_wp2_with fail
  clear q0 q1
  obtain ⟨w6b, hw6b⟩ : ∃ W, w6.alloc (.cells #[.string ⟨#[]⟩, .string okl, .bool false, .bool false, .int .i64 0, .slice none 0 0] 24) = W := ⟨_, rfl⟩
  rw [hw6b] at S1 G1 H1 BE ⊢
  clear hw6b hkH1 mH1 nH1
  refine (CE.out _).mono ?_; rintro e w7 ⟨rfl, hb⟩
  have S1 := hid (S1.out.later hb)
  have G1 := hid (G1.out.later hb)
  have H1 := hid (H1.out.later hb)
  have BE := hid (btr BE.out hb)
  clear hb
  have q0 := G1.out.cells
  go_wp2_with fail
  clear q0
  refine (CH.out _).mono ?_; rintro e w8 ⟨rfl, hb⟩
  have S1 := hid (S1.out.later hb)
  have G1 := hid (G1.out.later hb)
  have H1 := hid (H1.out.later hb)
  have BE := hid (btr BE.out hb)
  clear hb
  go_wp2
  go_ret
  exact ⟨rfl, BE.out⟩
end Go.Proofs.Ytdhkehpihbdkcaa
