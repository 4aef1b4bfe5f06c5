/- Draw, DrawB, Places, Rdraw, in one text. -/
import Derived.Test.YtmpcmllfgogegaaMa
import Derived.Test.YtmpcmllfgogegaaProg
import Derived.WalkKit
import Derived.WalkSpells
import Derived.WalkLawsBesides
import Derived.BigQuiet
import Derived.Deep.QuietTactic
import Derived.Deep.RegionHeld3
import Derived.Laws.Bits128
import Derived.Deep.Cut
namespace Go.Proofs.Ytmpcmllfgogegaa
open Go.RowKit

/-- The code's bytes lie below block cb. -/
def Code (w : World) (cb : Nat) (ao : Option Addr) (n : Nat) : Prop :=
  0 < n → ∃ b off, ao = some ⟨b, off, none⟩ ∧ b < cb ∧ ∀ j, j < n → ∃ z : Nat, z < 256 ∧ w.cell? ⟨b, off + j, none⟩ = some (.int .u8 (z : Int))

theorem Code.later {w w' : World} {cb n : Nat} {ao : Option Addr} (h : Code w cb ao n) (hb : w.grownBy w' (some cb)) : Code w' cb ao n := by
  intro hn
  obtain ⟨b, off, h1, h2, h3⟩ := h hn
  refine ⟨b, off, h1, h2, fun j hj => ?_⟩
  obtain ⟨z, hz, hc⟩ := h3 j hj
  exact ⟨z, hz, hb.cell hc (by simp; omega)⟩

theorem only_set {w : World} {cb o : Nat} {u : Value} : w.grownBy (w.setCell ⟨cb, o, none⟩ u) (some cb) :=
  ⟨rfl, rfl, rfl, by simp [World.setCell], fun k _ hk => heap_setCell_other w ⟨cb, o, none⟩ k u (fun e => hk (by simp [e]))⟩
theorem only_trans {a b c : World} {r : Option Nat} (h : a.grownBy b r) (k : b.grownBy c r) : a.grownBy c r :=
  ⟨k.os.trans h.os, k.tape.trans h.tape, k.output.trans h.output, Nat.le_trans h.size k.size, fun i hi hr => (k.block i (Nat.lt_of_lt_of_le hi h.size) hr).trans (h.block i hi hr)⟩
theorem only_below {w w' : World} {cb B : Nat} (h : w.grownBy w' (some cb)) (hB : B ≤ cb) (hs : B ≤ w.heap.size) : Below B w w' :=
  ⟨h.os, h.tape, h.output, h.size, fun k hk => h.block k (by omega) (by simp; omega)⟩

theorem i64_and255 (n : Int) : bits .and .i64 n 255 = n % 256 := by
  have h255 : (BitVec.ofInt 64 255).toNat = 2 ^ 8 - 1 := by decide
  have key : (BitVec.ofInt 64 n &&& BitVec.ofInt 64 255).toNat = (n % ((2 ^ 64 : Nat) : Int)).toNat % 2 ^ 8 := by
    rw [BitVec.toNat_and, BitVec.toNat_ofInt, h255, Nat.and_two_pow_sub_one_eq_mod]
  show IntKind.i64.wrap ((BitVec.ofInt 64 n &&& BitVec.ofInt 64 255).toNat : Nat) = n % 256
  rw [key, IntKind.wrap_i64]
  omega

theorem and255 (n : Int) : ∃ x : Nat, x < 256 ∧ bits .and .i64 n 255 = (x : Int) := ⟨(n % 256).toNat, by omega, by rw [i64_and255]; omega⟩

end Go.Proofs.Ytmpcmllfgogegaa

namespace Go.Proofs.Ytmpcmllfgogegaa
open Go.RowKit

theorem ret_str' {a b : ByteArray} (h : a = b) : Ending.returned (.string a) = .returned (.string b) := by rw [h]

theorem only_add {w w1 w2 : World} {cb : Nat} (h : w.grownBy w1 (some cb)) (k : Below w.heap.size w1 w2) : w.grownBy w2 (some cb) :=
  ⟨k.os.trans h.os, k.tape.trans h.tape, k.output.trans h.output, Nat.le_trans h.size k.size, fun i hi hr => (k.block i hi).trans (h.block i hi hr)⟩
end Go.Proofs.Ytmpcmllfgogegaa

namespace Go.Proofs.Ytmpcmllfgogegaa
open Go.RowKit

theorem Try.info3 : (Try.prog.info? 3).map (fun i => (i.zero, i.size, i.bytes)) = some (some (.int .i64 0), 1, 8) := by kernel_rfl

/-- A number as an int's cell. -/
def ic (z : Nat) : Value := .int .i64 (z : Int)

theorem wpList_append_nat {P : Program} (w : World) {ops : Array Oper} {rest : List Oper} {o : Oper} {a : Act} {Q : Exit → Act → World → Prop} (hgd : o.guard = none) (s x : Operand) (t : TypeId)
    (ho : o.op = .call { callee := .builtin .append, args := #[s, x], argTypes := #[t, t] })
    (base : Nat) (e : TypeId) (hinfo : (P.info? e).map (fun i => (i.zero, i.size, i.bytes)) = some (some (.int .i64 0), 1, 8)) (ht : P.underlying t = some (.slice e))
    (v : Value) (bs : List Nat) (hs : a.eval s = v) (hown : w.ownsRow base e 1 v bs.length (bs.map ic)) (n : Int) (b : Nat) (hb : n = (b : Int))
    (hx : a.eval x = .slice (some ⟨w.heap.size, 0, none⟩) 1 1) (hlen : bs.length ≤ 1000000) (hbase : base ≤ w.heap.size)
    (h : ∀ v' w', w'.ownsRow base e 1 v' (bs ++ [b]).length ((bs ++ [b]).map ic) → Below base w w' → wpList P ops Q rest (a.put o.dst v') w') :
    wpList P ops Q (o :: rest) a (w.alloc (.cells #[.int .i64 n] e)) := by
  obtain ⟨i0, hi, hz0, hz1, hz2⟩ := info_parts hinfo
  subst hb
  refine wpList_append_own _ hgd s x t ho base e i0 (.int .i64 0) 1 8 ht hi hz0 hz1 hz2 rfl (by decide) v _ _ hs (hown.alloc _) ⟨w.heap.size, 0, none⟩ 1 1 [ic b] hx rfl (cell_one_new _ _ _) (by intro u hu; simp at hu; subst hu; rfl) (by unfold maxLen; omega) (by omega) (by simp; omega) ?_
  intro v' w' hown' hg _
  refine h v' w' (by simpa using hown') (((Below.refl base w).alloc hbase _).grown hg (by simp; omega) (fun k hk => (hown.lt k hk).1))

/-- The first two of a row of twelve. -/
theorem row_two {w : World} {base : Nat} {v : Value} {zs : List Nat} (h : w.ownsRow base 3 1 v zs.length (zs.map ic)) (hl : zs.length = 12) (hz : ∀ z ∈ zs, z < 10000) :
    ∃ g cp x y : Nat, v = .slice (some ⟨g, 0, none⟩) 12 cp ∧ g < w.heap.size ∧ w.cell? ⟨g, 0, none⟩ = some (.int .i64 (x : Int)) ∧ w.cell? ⟨g, 1, none⟩ = some (.int .i64 (y : Int)) ∧ x < 10000 ∧ y < 10000 := by
  have h' := h
  rcases h.2 with ⟨_, h0⟩ | ⟨g, cp, cur, rfl, hb, hg, _⟩
  · omega
  · have c0 := h'.cells (g := g) rfl 0 (ic zs[0]) (by rw [List.getElem?_map, List.getElem?_eq_getElem (by omega)]; rfl)
    have c1 := h'.cells (g := g) rfl 1 (ic zs[1]) (by rw [List.getElem?_map, List.getElem?_eq_getElem (by omega)]; rfl)
    exact ⟨g, cp, zs[0], zs[1], by rw [hl], (Array.getElem?_eq_some_iff.1 hg).1, by simpa [Addr.add, ic] using c0, by simpa [Addr.add, ic] using c1, hz _ (List.getElem_mem _), hz _ (List.getElem_mem _)⟩

end Go.Proofs.Ytmpcmllfgogegaa

namespace Go.Proofs.Ytmpcmllfgogegaa
open Go.RowKit

theorem Rg.kept {W W' : World} {k ty cb : Nat} {v t b : Int} (h : Rg W k ty v t b) (hg : W.grownBy W' (some cb)) (hk : k ≠ cb) : Rg W' k ty v t b := (hg.block k h.lt (by simpa using hk)).trans h
theorem Sg.kept {W W' : World} {k ty cb : Nat} {t b : Int} (h : Sg W k ty t b) (hg : W.grownBy W' (some cb)) (hk : k ≠ cb) : Sg W' k ty t b := (hg.block k h.lt (by simpa using hk)).trans h
theorem Sg.loose {W : World} {k ty : Nat} {t b : Int} (h : Sg W k ty t b) : W.frozen? ⟨k, 0, none⟩ = false ∧ W.frozen? ⟨k, 1, none⟩ = false :=
  ⟨frozen_of_row W k 0 _ _ h, frozen_of_row W k 1 _ _ h⟩
theorem gset {w w2 : World} {cb k : Nat} (h : w.grownBy w2 (some cb)) (hk : w.heap.size ≤ k) (o : Nat) (u : Value) : w.grownBy (w2.setCell ⟨k, o, none⟩ u) (some cb) :=
  ⟨h.os, h.tape, h.output, by simp [World.setCell]; exact h.size, fun i hi hr => by rw [Below.heap_setCell _ _ _ _ (show i ≠ k by omega)]; exact h.block i hi hr⟩
theorem gal {w w2 : World} {cb : Nat} (h : w.grownBy w2 (some cb)) (o : Obj) : w.grownBy (w2.alloc o) (some cb) := only_trans h (World.grownBy_alloc _ _ _)
theorem gre (w : World) (cb : Nat) : w.grownBy w (some cb) := ⟨rfl, rfl, rfl, Nat.le_refl _, fun _ _ _ => rfl⟩
theorem gdr {w w2 : World} {cb : Nat} (h : w.grownBy w2 (some cb)) : w.grownBy w2.drew (some cb) := ⟨h.os, h.tape, h.output, h.size, h.block⟩
theorem Sg.other {W : World} {k ty g o : Nat} {t b : Int} {u : Value} (h : Sg W k ty t b) (hk : k ≠ g) : Sg (W.setCell ⟨g, o, none⟩ u) k ty t b := (heap_setCell_other W ⟨g, o, none⟩ k u hk).trans h
theorem Rg.other {W : World} {k ty g o : Nat} {v t b : Int} {u : Value} (h : Rg W k ty v t b) (hk : k ≠ g) : Rg (W.setCell ⟨g, o, none⟩ u) k ty v t b := (heap_setCell_other W ⟨g, o, none⟩ k u hk).trans h
theorem row3 (w : World) (x y z : Int) (i : Nat) (h : i < [x, y, z].length) : (w.alloc (.cells #[.int .i64 x, .int .i64 y, .int .i64 z] 3)).cell? ⟨w.heap.size, i, none⟩ = some (.int .i64 [x, y, z][i]) := by
  rw [cell_of_row _ w.heap.size i _ _ (0, 0) (heap_alloc_new w _)]
  have hi : i < 3 := h
  match i, hi with
  | 0, _ => rfl
  | 1, _ => rfl
  | 2, _ => rfl

theorem row6 (w : World) (x y z x' y' z' : Int) (i : Nat) (h : i < [x, y, z, x', y', z'].length) : (w.alloc (.cells #[.int .i64 x, .int .i64 y, .int .i64 z, .int .i64 x', .int .i64 y', .int .i64 z'] 3)).cell? ⟨w.heap.size, i, none⟩ = some (.int .i64 [x, y, z, x', y', z'][i]) := by
  rw [cell_of_row _ w.heap.size i _ _ (0, 0) (heap_alloc_new w _)]
  have hi : i < 6 := h
  match i, hi with
  | 0, _ => rfl
  | 1, _ => rfl
  | 2, _ => rfl
  | 3, _ => rfl
  | 4, _ => rfl
  | 5, _ => rfl

end Go.Proofs.Ytmpcmllfgogegaa

