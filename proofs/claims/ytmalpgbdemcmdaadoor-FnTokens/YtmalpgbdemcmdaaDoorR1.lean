/- Ma, Mb, Mc, Md, Me, Dec, Qa, Qb. -/
import Derived.Test.YtmalpgbdemcmdaaDoorProg
import Derived.WalkKit
import Derived.Laws.IdiomStrings
import Derived.WalkSpells
import Derived.WalkLawsBesides
import Derived.Lib.Strings
import Derived.Lib.BufferWrite
import Derived.Lib.UnsafeStr
import Derived.Laws.MakeOwn
import Derived.Below
import Derived.BigQuiet
import Derived.Deep.QuietTactic
import Derived.Deep.RegionHeld3
import Derived.Deep.Cut
import Derived.Laws.Bits128
import Derived.Laws.ShiftsVarLaws
import Derived.Lib.BufferMore
import Derived.Lib.ItoaNum
import Derived.Laws.RangeAny
import Derived.Laws.Runes
import Derived.Lib.OthersKept
import Derived.Lib.Bytealg
import Derived.Shelf.Abstract
namespace Go.Proofs.YtmalpgbdemcmdaaDoor
open Go.RowKit
theorem hide {p : Prop} (h : p) : Hid p := h
theorem unhide {p : Prop} (h : Hid p) : p := h
theorem ret_int {k : IntKind} {a b : Int} (h : a = b) : Ending.returned (.int k a) = .returned (.int k b) := by rw [h]
/-- A byte as a value. -/
def bv (b : UInt8) : Value := .int .u8 (b.toNat : Int)
/-- What a row of bytes that the call owns reads as. -/
theorem run_string_own {P : Program} (w : World) (src dst e : TypeId) (hs : P.underlying src = some (.slice e)) (he : P.underlying e = some (.int .u8)) (hd : P.underlying dst = some .string)
    {base n : Nat} {v : Value} (bs : List UInt8) (h : w.ownsRow base e 1 v n (bs.map bv)) :
    (convert src dst v).run P w = .ok (.string ⟨bs.toArray⟩) w := by
  have hl : bs.length = n := by simpa using h.1
  rcases h.2 with ⟨rfl, hn⟩ | ⟨g, cap, cur, rfl, _, hg, _, _, _, _⟩
  · have : bs = [] := List.eq_nil_of_length_eq_zero (by omega)
    subst this
    rw [run_convert_bytes_string w src dst e none 0 0 hs he hd]; rfl
  · subst hl
    refine run_convert_bytes_back w src dst e ⟨g, 0, none⟩ cap bs hs he hd (fun j hj => ?_)
    have := h.cells (g := g) rfl j (bv bs[j]) (by simp [hj])
    simpa [bv] using this
theorem u8_nat (k : Nat) (h : k < 256) : ((UInt8.ofNat k).toNat : Int) = (k : Int) := by
  simp [UInt8.toNat_ofNat']; omega
/-- One byte appended to a row of bytes that the call owns: the byte lies in a block of its own, laid just ahead. -/
theorem wpList_append_byte {P : Program} (w : World) {ops : Array Oper} {rest : List Oper} {o : Oper} {a : Act} {Q : Exit → Act → World → Prop} (hgd : o.guard = none) (s x : Operand) (t : TypeId)
    (ho : o.op = .call { callee := .builtin .append, args := #[s, x], argTypes := #[t, t] })
    (base : Nat) (e : TypeId) (hinfo : (P.info? e).map (fun i => (i.zero, i.size, i.bytes)) = some (some (.int .u8 0), 1, 1)) (ht : P.underlying t = some (.slice e))
    (v : Value) (bs : List UInt8) (hs : a.eval s = v) (hown : w.ownsRow base e 1 v bs.length (bs.map bv)) (n : Int) (b : UInt8) (hb : n = (b.toNat : Int))
    (hx : a.eval x = .slice (some ⟨w.heap.size, 0, none⟩) 1 1) (hlen : bs.length ≤ 70368744177664) (hbase : base ≤ w.heap.size)
    (h : ∀ v' w', w'.ownsRow base e 1 v' (bs ++ [b]).length ((bs ++ [b]).map bv) → Below base w w' → wpList P ops Q rest (a.put o.dst v') w') :
    wpList P ops Q (o :: rest) a (w.alloc (.cells #[.int .u8 n] e)) := by
  obtain ⟨i0, hi, hz0, hz1, hz2⟩ := info_parts hinfo
  subst hb
  refine wpList_append_own _ hgd s x t ho base e i0 (.int .u8 0) 1 1 ht hi hz0 hz1 hz2 rfl (by decide) v _ _ hs (hown.alloc _) ⟨w.heap.size, 0, none⟩ 1 1 [bv b] hx rfl (cell_one_new _ _ _) (by intro u hu; simp at hu; subst hu; rfl) (by unfold maxLen; omega) (by omega) (by simp; omega) ?_
  intro v' w' hown' hg _
  refine h v' w' (by simpa using hown') (((Below.refl base w).alloc hbase _).grown hg (by simp; omega) (fun k hk => (hown.lt k hk).1))
end Go.Proofs.YtmalpgbdemcmdaaDoor
namespace Go.Proofs.YtmalpgbdemcmdaaDoor
open Go.RowKit
theorem Tryd.info5 : (Tryd.prog.info? 5).map (fun i => (i.zero, i.size, i.bytes)) = some (some (.int .u8 0), 1, 1) := by kernel_rfl
theorem ret_str {a b : ByteArray} (h : a = b) : Ending.returned (.string a) = .returned (.string b) := by rw [h]
theorem l01In_yes (x a b : Int) (w : World) (h1 : a ≤ x) (h2 : x ≤ b) :
    Calls Tryd.prog 42 #[.int .i64 x, .int .i64 a, .int .i64 b] w fun e w' => e = .returned (.bool true) ∧ w = w' := by
  go_enter Tryd.func42, Tryd.ntmps42
  go_wp2
  go_ret
  exact ⟨rfl, rfl⟩
theorem l01In_no (x a b : Int) (w : World) (h : x < a ∨ b < x) :
    Calls Tryd.prog 42 #[.int .i64 x, .int .i64 a, .int .i64 b] w fun e w' => e = .returned (.bool false) ∧ w = w' := by
  by_cases h1 : a ≤ x
  · have h2 : ¬ x ≤ b := by omega
    go_enter Tryd.func42, Tryd.ntmps42
    go_wp2
    go_ret
    exact ⟨rfl, rfl⟩
  · go_enter Tryd.func42, Tryd.ntmps42
    go_wp2
    go_ret
    exact ⟨rfl, rfl⟩
end Go.Proofs.YtmalpgbdemcmdaaDoor
namespace Go.Proofs.YtmalpgbdemcmdaaDoor
open Go.RowKit
set_option maxHeartbeats 1000000 in
set_option maxRecDepth 100000 in
theorem cloneLite_any (s : ByteArray) (w : World) (hlim : s.size ≤ 1048576) :
    Calls Tryd.prog 45 #[.string s] w fun e w' => e = .returned (.string s) ∧ Below w.heap.size w w' := by
  by_cases h0 : s.size = 0
  · obtain rfl : s = ⟨#[]⟩ := ByteArray.ext (Array.eq_empty_of_size_eq_zero h0)
    go_enter Tryd.func45, Tryd.ntmps45
    go_wp2
    go_ret
    exact ⟨rfl, Below.refl _ _⟩
  · obtain ⟨i0, hi, hz0, hz1, hz2⟩ := info_parts Tryd.info5
    have hinfo : (Tryd.prog.info? 5).map (·.size) = some 1 := by rw [hi]; simp [hz1]
    have hco : Tryd.prog.cellsOf 5 = 1 := by simp [Program.cellsOf, hi, hz1]
    obtain ⟨M, hM⟩ : ∃ M, M = madeCells (Value.int .u8 0).cells (((s.size : Nat) : Int).toNat * i0.size) := ⟨_, rfl⟩
    have hMs : M.size = s.size := by rw [hM, size_madeCells, hz1]; simp
    have hmk : ∀ W : World, (Instr.makeSlice 22 (.int .i64 (s.size : Int)) (.int .i64 (s.size : Int))).run Tryd.prog W = .ok (.slice (some ⟨W.heap.size, 0, none⟩) s.size s.size) (W.alloc (.cells M 5)) := fun W => by
      have h := run_make (P := Tryd.prog) W 22 5 i0 (.int .u8 0) Tryd.underlying22 hi hz0 .i64 .i64 (s.size : Int) (s.size : Int) (by omega) (by omega) (by rw [hz2]; omega) (by omega)
      rw [← hM] at h
      simpa using h
    clear hM
    have hcp := Lib.run_copy_row_string (P := Tryd.prog) (w.alloc (.cells M 5)) 22 9 3 5 w.heap.size 0 s.size s.size s M 5 Tryd.underlying22 hinfo (heap_alloc_new w _) (Nat.le_refl _) (by omega)
    obtain ⟨Y, hY⟩ : ∃ Y, Y = (M.toList.take 0 ++ Lib.byteCells s.data.toList ++ M.toList.drop (0 + s.size)).toArray := ⟨_, rfl⟩
    rw [← hY] at hcp
    have hYl : Y.toList = Lib.byteCells s.data.toList := by
      rw [hY, List.toList_toArray, List.take_zero, List.nil_append, List.drop_of_length_le (by rw [Array.length_toList]; omega), List.append_nil]
    have hYs : Y.size = s.size := by rw [← Array.length_toList, hYl, Lib.byteCells_length, ← Lib.size_eq]
    have hgY : ((w.alloc (.cells M 5)).setRow w.heap.size Y).heap[w.heap.size]? = some (.cells Y 5 (0, 0)) := setRow_heap _ _ M _ 5 (0, 0) (heap_alloc_new w _)
    have hne : s.data.toList ≠ [] := fun e => h0 (by rw [Lib.size_eq, e]; rfl)
    have hUS := Lib.run_unsafeString_row (P := Tryd.prog) ((w.alloc (.cells M 5)).setRow w.heap.size Y) 74 3 9 5 Tryd.underlying74 hco w.heap.size Y.size (by unfold World.shape?; rw [hgY]) s.data.toList hne (by rw [← Lib.size_eq]; omega) (by rw [← Lib.size_eq]; omega)
      (fun j x hx => Lib.cells_of_row hgY Y.size j _ (by rw [List.take_of_length_le (by rw [Array.length_toList]; exact Nat.le_refl _), hYl]; simp [Lib.byteCells, hx]))
    rw [← Lib.size_eq] at hUS
    clear hY
    go_enter Tryd.func45, Tryd.ntmps45
    go_wp2
    go_ret
    have hb1 : Below w.heap.size w (w.alloc (.cells M 5)) := (Below.refl _ w).alloc (Nat.le_refl _) _
    have hb2 : Below w.heap.size (w.alloc (.cells M 5)) ((w.alloc (.cells M 5)).setRow w.heap.size Y) := ⟨rfl, rfl, rfl, by simp, fun k hk => setRow_other _ _ _ _ (by omega)⟩
    exact ⟨rfl, Lib.below_freeze (hb1.trans hb2) (p := ⟨w.heap.size, 0, none⟩) (Nat.le_refl _) _⟩
theorem clone_any (s : ByteArray) (w : World) (hlim : s.size ≤ 1048576) :
    Calls Tryd.prog 24 #[.string s] w fun e w' => e = .returned (.string s) ∧ Below w.heap.size w w' := by
  go_enter Tryd.func24, Tryd.ntmps24
  go_wp2_with fail
  refine (cloneLite_any s _ hlim).mono ?_; rintro e w1 ⟨rfl, hb1⟩
  go_wp2
  go_ret
  exact ⟨rfl, hb1⟩
end Go.Proofs.YtmalpgbdemcmdaaDoor
namespace Go.Proofs.YtmalpgbdemcmdaaDoor
open Go.RowKit
/-- Which of two stamps is later. -/
def later (t b t' b' : Int) : Bool := if t = t' then decide (b' < b) else decide (t' < t)
theorem bpush {a w : World} (h : Below a.heap.size a w) (o : Obj) : Below a.heap.size a (w.alloc o) := h.alloc h.size o
theorem btr {a b c : World} (h : Below a.heap.size a b) (k : Below b.heap.size b c) : Below a.heap.size a c := h.trans (k.mono h.size)
theorem bre (a : World) : Below a.heap.size a a := Below.refl _ _
theorem bdr {a w : World} (h : Below a.heap.size a w) : Below a.heap.size a w.drew := h.drew
theorem bset {a w : World} (h : Below a.heap.size a w) {p : Addr} (hp : a.heap.size ≤ p.block) (u : Value) : Below a.heap.size a (w.setCell p u) := h.setCell hp u
theorem ret_bool {x y : Bool} (h : x = y) : Ending.returned (.bool x) = Ending.returned (.bool y) := by rw [h]
def cb (v t b v' t' b' : Int) : Bool := if t = t' ∧ b = b' then decide (v' < v) else later t b t' b'
end Go.Proofs.YtmalpgbdemcmdaaDoor
namespace Go.Proofs.YtmalpgbdemcmdaaDoor
open Go.RowKit
end Go.Proofs.YtmalpgbdemcmdaaDoor
namespace Go.Proofs.YtmalpgbdemcmdaaDoor
open Go.RowKit
end Go.Proofs.YtmalpgbdemcmdaaDoor
namespace Go.Proofs.YtmalpgbdemcmdaaDoor
open Go.RowKit
end Go.Proofs.YtmalpgbdemcmdaaDoor
namespace Go.Proofs.YtmalpgbdemcmdaaDoor
open Go.RowKit
/-- Block cb is a cursor over a code of n bytes. -/
def Cur (w : World) (cb : Nat) (ao : Option Addr) (n cap : Nat) : Prop :=
  ∃ (i : Nat) (h : Int), i ≤ n ∧ w.heap[cb]? = some (.cells #[.slice ao n cap, .int .i64 (i : Int), .int .i64 h] 67 (0, 0))
/-- The code's bytes lie below block cb. -/
def Code (w : World) (cb : Nat) (ao : Option Addr) (n : Nat) : Prop :=
  0 < n → ∃ b off, ao = some ⟨b, off, none⟩ ∧ b < cb ∧ ∀ j, j < n → ∃ z : Nat, z < 256 ∧ w.cell? ⟨b, off + j, none⟩ = some (.int .u8 (z : Int))
theorem Code.later {w w' : World} {cb n : Nat} {ao : Option Addr} (h : Code w cb ao n) (hb : w.grownBy w' (some cb)) : Code w' cb ao n := by
  intro hn
  obtain ⟨b, off, h1, h2, h3⟩ := h hn
  refine ⟨b, off, h1, h2, fun j hj => ?_⟩
  obtain ⟨z, hz, hc⟩ := h3 j hj
  exact ⟨z, hz, hb.cell hc (by simp; omega)⟩
theorem Cur.alloc {w : World} {cb n cap : Nat} {ao : Option Addr} (h : Cur w cb ao n cap) (o : Obj) : Cur (w.alloc o) cb ao n cap := by
  obtain ⟨i, x, h1, h2⟩ := h
  exact ⟨i, x, h1, by rw [Below.heap_alloc w o cb (Array.getElem?_eq_some_iff.1 h2).1]; exact h2⟩
theorem Cur.lt {w : World} {cb n cap : Nat} {ao : Option Addr} (h : Cur w cb ao n cap) : cb < w.heap.size := by
  obtain ⟨i, x, h1, h2⟩ := h
  exact (Array.getElem?_eq_some_iff.1 h2).1
theorem only_set {w : World} {cb o : Nat} {u : Value} : w.grownBy (w.setCell ⟨cb, o, none⟩ u) (some cb) :=
  ⟨rfl, rfl, rfl, by simp [World.setCell], fun k _ hk => heap_setCell_other w ⟨cb, o, none⟩ k u (fun e => hk (by simp [e]))⟩
theorem only_trans {a b c : World} {r : Option Nat} (h : a.grownBy b r) (k : b.grownBy c r) : a.grownBy c r :=
  ⟨k.os.trans h.os, k.tape.trans h.tape, k.output.trans h.output, Nat.le_trans h.size k.size, fun i hi hr => (k.block i (Nat.lt_of_lt_of_le hi h.size) hr).trans (h.block i hi hr)⟩
theorem only_below {w w' : World} {cb B : Nat} (h : w.grownBy w' (some cb)) (hB : B ≤ cb) (hs : B ≤ w.heap.size) : Below B w w' :=
  ⟨h.os, h.tape, h.output, h.size, fun k hk => h.block k (by omega) (by simp; omega)⟩
theorem i64_and255 (n : Int) : bits .and .i64 n 255 = n % 256 := by
  have h255 : (BitVec.ofInt 64 255).toNat = 2 ^ 8 - 1 := by decide
  have key : (BitVec.ofInt 64 n &&& BitVec.ofInt 64 255).toNat = (n % ((2 ^ 64 : Nat) : Int)).toNat % 2 ^ 8 := by
    rw [BitVec.toNat_and, BitVec.toNat_ofInt, h255, Nat.and_two_pow_sub_one_eq_mod]
  show IntKind.i64.wrap ((BitVec.ofInt 64 n &&& BitVec.ofInt 64 255).toNat : Nat) = n % 256
  rw [key, IntKind.wrap_i64]
  omega
theorem and255 (n : Int) : ∃ x : Nat, x < 256 ∧ bits .and .i64 n 255 = (x : Int) := ⟨(n % 256).toNat, by omega, by rw [i64_and255]; omega⟩
set_option maxHeartbeats 400000 in
set_option maxRecDepth 100000 in
theorem byte_any (cb : Nat) (ao : Option Addr) (n cap : Nat) (w : World) (hn : n ≤ 1048576) (hcur : Cur w cb ao n cap) (hcode : Code w cb ao n) :
    Calls Tryd.prog 28 #[.pointer (some ⟨cb, 0, none⟩)] w fun e w' => ∃ x : Nat, x < 256 ∧ e = .returned (.int .i64 (x : Int)) ∧ Cur w' cb ao n cap ∧ w.grownBy w' (some cb) := by
  obtain ⟨i, h, hi, hblk⟩ := hcur
  have c0 := cell_of_row w cb 0 _ _ _ hblk
  have c1 := cell_of_row w cb 1 _ _ _ hblk
  have c2 := cell_of_row w cb 2 _ _ _ hblk
  have f1 := frozen_of_row w cb 1 _ _ hblk
  have f2 := frozen_of_row w cb 2 _ _ hblk
  simp at c0 c1 c2
  have HBLK := hide hblk
  have HCODE := hide hcode
  clear hblk hcode
  by_cases hlt : i < n
  · obtain ⟨b, off, hao, hbc, hz⟩ := unhide HCODE (by omega)
    obtain ⟨z, hzb, hcz⟩ := hz i hlt
    subst hao
    have hI : (0 : Int) ≤ (i : Int) ∧ (i : Int) < (n : Int) := by omega
    clear hz
    go_enter Tryd.func28, Tryd.ntmps28
    go_wp2_with fail
    generalize wrap64 (wrap64 (h * 6364136223846793005) + 1442695040888963407) = h1
    obtain ⟨w1, hw1⟩ : ∃ w1, w.setCell ⟨cb, 2, none⟩ (.int .i64 h1) = w1 := ⟨_, rfl⟩
    have hblk1 : w1.heap[cb]? = some (.cells #[.slice (some ⟨b, off, none⟩) n cap, .int .i64 (i : Int), .int .i64 h1] 67 (0, 0)) := by
      rw [← hw1]; exact heap_setCell_same w cb 2 _ _ _ (unhide HBLK)
    have hbel : w.grownBy w1 (some cb) := by rw [← hw1]; exact only_set
    rw [hw1]
    have d0 := cell_of_row w1 cb 0 _ _ _ hblk1
    have d1 := cell_of_row w1 cb 1 _ _ _ hblk1
    have d2 := cell_of_row w1 cb 2 _ _ _ hblk1
    have g1 := frozen_of_row w1 cb 1 _ _ hblk1
    simp at d0 d1 d2
    have dz : w1.cell? ⟨b, off + i, none⟩ = some (.int .u8 (z : Int)) := hbel.cell hcz (by simp; omega)
    have HBLK1 := hide hblk1
    have HBEL := hide hbel
    clear hblk1 hbel hw1 c0 c1 c2 f1 f2 hcz HBLK HCODE
    go_quiet (fail)
    obtain ⟨x0, hx0, hx0e⟩ := and255 (bits BinOp.xor IntKind.i64 (h1 / 8589934592) (h1 / 35184372088832))
    rw [hx0e]
    go_wp2_with fail
    go_quiet (fail)
    go_wp2_with fail
    go_quiet (fail)
    go_wp2_with fail
    obtain ⟨x1, hx1, hx1e⟩ := and255 ((x0 : Int) + (z : Int))
    go_ret
    refine ⟨x1, hx1, ret_int hx1e, ⟨i + 1, h1, hlt, ?_⟩, ?_⟩
    · rw [show (((i + 1 : Nat)) : Int) = (i : Int) + 1 from by omega]
      exact heap_setCell_same _ cb 1 _ _ _ (unhide HBLK1)
    · refine only_trans (b := w1.drewN 0) ⟨(unhide HBEL).os, (unhide HBEL).tape, (unhide HBEL).output, (unhide HBEL).size, (unhide HBEL).block⟩ ?_
      exact ⟨rfl, rfl, rfl, by simp [World.setCell], fun k _ hk => heap_setCell_other w1 ⟨cb, 1, none⟩ k _ (fun e => hk (by simp [e]))⟩
  · go_enter Tryd.func28, Tryd.ntmps28
    go_wp2_with fail
    generalize wrap64 (wrap64 (h * 6364136223846793005) + 1442695040888963407) = h1
    obtain ⟨w1, hw1⟩ : ∃ w1, w.setCell ⟨cb, 2, none⟩ (.int .i64 h1) = w1 := ⟨_, rfl⟩
    have hblk1 : w1.heap[cb]? = some (.cells #[.slice ao n cap, .int .i64 (i : Int), .int .i64 h1] 67 (0, 0)) := by
      rw [← hw1]; exact heap_setCell_same w cb 2 _ _ _ (unhide HBLK)
    have hbel : w.grownBy w1 (some cb) := by rw [← hw1]; exact only_set
    rw [hw1]
    have d0 := cell_of_row w1 cb 0 _ _ _ hblk1
    have d1 := cell_of_row w1 cb 1 _ _ _ hblk1
    have d2 := cell_of_row w1 cb 2 _ _ _ hblk1
    simp at d0 d1 d2
    have HBLK1 := hide hblk1
    have HBEL := hide hbel
    clear hblk1 hbel hw1 c0 c1 c2 f1 f2 HBLK HCODE
    go_quiet (fail)
    obtain ⟨x0, hx0, hx0e⟩ := and255 (bits BinOp.xor IntKind.i64 (h1 / 8589934592) (h1 / 35184372088832))
    rw [hx0e]
    go_wp2_with fail
    go_quiet (fail)
    go_wp2_with fail
    go_ret
    exact ⟨x0, hx0, rfl, ⟨i, h1, hi, unhide HBLK1⟩, ⟨(unhide HBEL).os, (unhide HBEL).tape, (unhide HBEL).output, (unhide HBEL).size, (unhide HBEL).block⟩⟩
set_option maxHeartbeats 400000 in
theorem below_any (cb : Nat) (ao : Option Addr) (n cap m : Nat) (w : World) (hn : n ≤ 1048576) (hcur : Cur w cb ao n cap) (hcode : Code w cb ao n) (hm : 0 < m) (hm2 : m ≤ 4294967296) :
    Calls Tryd.prog 22 #[.pointer (some ⟨cb, 0, none⟩), .int .i64 (m : Int)] w fun e w' => ∃ x : Nat, x < m ∧ e = .returned (.int .i64 (x : Int)) ∧ Cur w' cb ao n cap ∧ w.grownBy w' (some cb) := by
  have HC := hide hcur
  have HO := hide hcode
  clear hcur hcode
  have hm0 : ¬ (m : Int) = 0 := by omega
  by_cases h2 : m ≤ 256
  · go_enter Tryd.func22, Tryd.ntmps22
    go_wp2_with fail
    refine (byte_any cb ao n cap _ hn (unhide HC) (unhide HO)).mono ?_; rintro e w1 ⟨x, hx, rfl, hc1, hb1⟩
    have HC1 := hide hc1
    clear hc1
    go_wp2
    go_ret
    exact ⟨x % m, Nat.mod_lt _ hm, ret_int (by simp), unhide HC1, hb1⟩
  · go_enter Tryd.func22, Tryd.ntmps22
    go_wp2_with fail
    refine (byte_any cb ao n cap _ hn (unhide HC) (unhide HO)).mono ?_; rintro e w1 ⟨x, hx, rfl, hc1, hb1⟩
    have HC1 := hide hc1
    clear hc1
    go_wp2_with fail
    refine (byte_any cb ao n cap _ hn (unhide HC1) ((unhide HO).later hb1)).mono ?_; rintro e w2 ⟨y, hy, rfl, hc2, hb2⟩
    have HC2 := hide hc2
    have hb12 := only_trans hb1 hb2
    clear hc2
    go_wp2_with fail
    refine (byte_any cb ao n cap _ hn (unhide HC2) ((unhide HO).later hb12)).mono ?_; rintro e w3 ⟨z, hz, rfl, hc3, hb3⟩
    have HC3 := hide hc3
    have hb13 := only_trans hb12 hb3
    clear hc3
    go_wp2_with fail
    refine (byte_any cb ao n cap _ hn (unhide HC3) ((unhide HO).later hb13)).mono ?_; rintro e w4 ⟨v, hv, rfl, hc4, hb4⟩
    have HC4 := hide hc4
    have hb14 := only_trans hb13 hb4
    clear hc4
    go_wp2
    go_ret
    exact ⟨(x * 16777216 + y * 65536 + z * 256 + v) % m, Nat.mod_lt _ hm, ret_int (by simp), unhide HC4, hb14⟩
theorem below4 (cb : Nat) (ao : Option Addr) (n cap : Nat) (w : World) (hn : n ≤ 1048576) (hcur : Cur w cb ao n cap) (hcode : Code w cb ao n) (m : Int) (hm : 0 < m) (hm2 : m ≤ 4294967296) :
    Calls Tryd.prog 22 #[.pointer (some ⟨cb, 0, none⟩), .int .i64 m] w fun e w' => ∃ x : Nat, (x : Int) < m ∧ e = .returned (.int .i64 (x : Int)) ∧ Cur w' cb ao n cap ∧ w.grownBy w' (some cb) := by
  obtain ⟨k, rfl⟩ : ∃ k : Nat, m = k := ⟨m.toNat, by omega⟩
  refine (below_any cb ao n cap k w hn hcur hcode (by omega) (by omega)).mono ?_
  rintro e w' ⟨x, h1, h2, h3, h4⟩
  exact ⟨x, by omega, h2, h3, h4⟩
theorem once_any (cb : Nat) (ao : Option Addr) (n cap : Nat) (w : World) (hn : n ≤ 1048576) (hcur : Cur w cb ao n cap) (hcode : Code w cb ao n) (m : Int) (hm : 0 < m) (hm2 : m ≤ 4294967296) :
    Calls Tryd.prog 44 #[.pointer (some ⟨cb, 0, none⟩), .int .i64 m] w fun e w' => ∃ t : Bool, e = .returned (.bool t) ∧ Cur w' cb ao n cap ∧ w.grownBy w' (some cb) := by
  have HC := hide hcur
  have HO := hide hcode
  clear hcur hcode
  go_enter Tryd.func44, Tryd.ntmps44
  go_wp2_with fail
  refine (below4 cb ao n cap _ hn (unhide HC) (unhide HO) m hm hm2).mono ?_; rintro e w1 ⟨x, hx, rfl, hc1, hb1⟩
  have HC1 := hide hc1
  clear hc1
  go_wp2
  go_ret
  exact ⟨_, rfl, unhide HC1, hb1⟩
/-- One of a row of ints that lies in another block. -/
theorem pickInt_any (cb g k : Nat) (zs : List Int) (ao : Option Addr) (n cap : Nat) (w : World) (hn : n ≤ 1048576) (hcur : Cur w cb ao n cap) (hcode : Code w cb ao n) (hk : zs.length = k) (hk0 : 0 < k) (hk2 : k ≤ 1000) (hg : g ≠ cb)
    (hcell : ∀ i (h : i < zs.length), w.cell? ⟨g, i, none⟩ = some (.int .i64 zs[i])) :
    Calls Tryd.prog 33 #[.pointer (some ⟨cb, 0, none⟩), .slice (some ⟨g, 0, none⟩) k k] w fun e w' => ∃ x : Int, x ∈ zs ∧ e = .returned (.int .i64 x) ∧ Cur w' cb ao n cap ∧ w.grownBy w' (some cb) := by
  have HC := hide hcur
  have HO := hide hcode
  have HK := hide hk
  have HCELL := hide hcell
  clear hcur hcode hk hcell
  go_enter Tryd.func33, Tryd.ntmps33
  go_wp2_with fail
  refine (below4 cb ao n cap _ hn (unhide HC) (unhide HO) k (by omega) (by omega)).mono ?_; rintro e w1 ⟨x, hx, rfl, hc1, hb1⟩
  have hxl : x < zs.length := by rw [unhide HK]; omega
  obtain ⟨y, hy⟩ : ∃ y, zs[x] = y := ⟨_, rfl⟩
  have hc : w1.cell? ⟨g, x, none⟩ = some (.int .i64 y) := hb1.cell (by rw [← hy]; exact unhide HCELL x hxl) (by simp; omega)
  have HY := hide hy
  have HC1 := hide hc1
  have hI : (0 : Int) ≤ (x : Int) ∧ (x : Int) < (k : Int) := by omega
  clear hc1 hy
  go_wp2
  go_ret
  exact ⟨y, by rw [← unhide HY]; exact List.getElem_mem _, rfl, unhide HC1, hb1⟩
set_option maxHeartbeats 400000 in
set_option maxRecDepth 100000 in
theorem new_any (ao : Option Addr) (n cap : Nat) (w : World) (hn : n ≤ 1048576) (hcode : Code w w.heap.size ao n) :
    Calls Tryd.prog 21 #[.slice ao n cap] w fun e w' => e = .returned (.pointer (some ⟨w.heap.size, 0, none⟩)) ∧ Cur w' w.heap.size ao n cap ∧ Code w' w.heap.size ao n ∧ Below w.heap.size w w' := by
  have HO := hide hcode
  clear hcode
  go_enter Tryd.func21, Tryd.ntmps21
  go_wp2
  go_loop [3, 4] (fun hv iv => ∃ (h : Int) (i : Nat), i ≤ n ∧ hv = .int .i64 h ∧ iv = .int .i64 (i : Int)) (fun _ iv => n - (intOf iv).toNat)
  case atStart => exact ⟨_, 0, Nat.zero_le _, rfl, rfl⟩
  case round =>
    obtain ⟨h, i, hi, rfl, rfl⟩ := hrel
    by_cases hlt : i < n
    · by_cases h4 : i < 4000
      · obtain ⟨b, off, hao, hbc, hz⟩ := unhide HO (by omega)
        obtain ⟨z, hzb, hcz⟩ := hz i hlt
        subst hao
        have hI : (0 : Int) ≤ (i : Int) ∧ (i : Int) < (n : Int) := by omega
        clear hz
        go_wp2
        go_round
        case rel => exact ⟨_, i + 1, by omega, rfl, by go_num⟩
        case measure => simp [intOf]; omega
      · go_wp2
        go_ret
        refine ⟨rfl, ⟨0, h, Nat.zero_le _, heap_alloc_new w _⟩, (unhide HO).later (World.grownBy_alloc _ _ _), (Below.refl _ _).alloc (Nat.le_refl _) _⟩
    · go_wp2
      go_ret
      refine ⟨rfl, ⟨0, h, Nat.zero_le _, heap_alloc_new w _⟩, (unhide HO).later (World.grownBy_alloc _ _ _), (Below.refl _ _).alloc (Nat.le_refl _) _⟩
end Go.Proofs.YtmalpgbdemcmdaaDoor
namespace Go.Proofs.YtmalpgbdemcmdaaDoor
open Go.RowKit
theorem only_add {w w1 w2 : World} {cb : Nat} (h : w.grownBy w1 (some cb)) (k : Below w.heap.size w1 w2) : w.grownBy w2 (some cb) :=
  ⟨k.os.trans h.os, k.tape.trans h.tape, k.output.trans h.output, Nat.le_trans h.size k.size, fun i hi hr => (k.block i hi).trans (h.block i hi hr)⟩
theorem Cur.later {w1 w2 : World} {B cb n cap : Nat} {ao : Option Addr} (h : Cur w1 cb ao n cap) (k : Below B w1 w2) (hB : cb < B) : Cur w2 cb ao n cap := by
  obtain ⟨i, x, h1, h2⟩ := h
  exact ⟨i, x, h1, by rw [k.block cb hB]; exact h2⟩
set_option maxHeartbeats 400000 in
set_option maxRecDepth 100000 in
theorem text_any (cb : Nat) (ao : Option Addr) (n cap m : Nat) (w : World) (hn : n ≤ 1048576) (hcur : Cur w cb ao n cap) (hcode : Code w cb ao n) (hm : m ≤ 5000) :
    Calls Tryd.prog 49 #[.pointer (some ⟨cb, 0, none⟩), .int .i64 (m : Int)] w fun e w' => ∃ bs : List UInt8, bs.length = m ∧ e = .returned (.string ⟨bs.toArray⟩) ∧ Cur w' cb ao n cap ∧ w.grownBy w' (some cb) := by
  have hcb := hcur.lt
  have HC := hide hcur
  have HO := hide hcode
  clear hcur hcode
  go_enter Tryd.func49, Tryd.ntmps49
  go_wp2
  go_loopw [5, 6] (fun v iv wr => ∃ (k : Nat) (bs : List UInt8), k ≤ m ∧ bs.length = k ∧ iv = .int .i64 (k : Int) ∧ wr.ownsRow w.heap.size 5 1 v bs.length (bs.map bv) ∧ Cur wr cb ao n cap ∧ w.grownBy wr (some cb)) (fun _ iv _ => m - (intOf iv).toNat)
  case atStart => exact ⟨0, [], Nat.zero_le _, rfl, rfl, World.ownsRow_made w #[] 0 (Nat.le_refl _) (by decide) rfl, (unhide HC).alloc _, World.grownBy_alloc _ _ _⟩
  case round =>
    obtain ⟨k, bs, hk, hbl, rfl, hown, hcu, hg⟩ := hrel
    have HBL := hide hbl
    have HCU := hide hcu
    have HOWN := hide hown
    have HG := hide hg
    have hsz := hg.size
    clear hbl hcu hown hg
    by_cases hlt : k < m
    · go_wp2_with fail
      refine (byte_any cb ao n cap _ hn (unhide HCU) ((unhide HO).later (unhide HG))).mono ?_; rintro e w1 ⟨x, hx, rfl, hc1, hb1⟩
      have hown1 : w1.ownsRow w.heap.size 5 1 _ bs.length (bs.map bv) := (unhide HOWN).kept hb1 (by
        cases hv : Value.ownBlock _ with
        | none => left; rfl
        | some b => right; have := ((unhide HOWN).lt b hv).1; simp; omega)
      have HC1 := hide hc1
      have hs1 := hb1.size
      have hxi : IntKind.u8.wrap (x : Int) = (x : Int) := by rw [IntKind.wrap_u8]; omega
      clear hc1
      go_wp2_with (at_builtin; refine wpList_append_byte w1 rfl (.tmp 15) (.tmp 19) 22 rfl w.heap.size 5 Tryd.info5 Tryd.underlying22 _ bs (by rfl) hown1 _ (UInt8.ofNat x) ?c1 rfl (by have := unhide HBL; omega) (by omega) ?_; rotate_right; intro v2 w2 hown2 hb2)
      case c1 => rw [u8_nat _ (by omega)]
      go_roundw
      case rel => exact ⟨k + 1, bs ++ [UInt8.ofNat x], hlt, by simp [unhide HBL], by go_num, hown2, (unhide HC1).later hb2 hcb, only_add (only_trans (unhide HG) hb1) hb2⟩
      case measure => simp [intOf]; omega
    · have hcv := run_string_own (P := Tryd.prog) wr 22 9 5 Tryd.underlying22 Tryd.underlying5 Tryd.underlying9 _ (unhide HOWN)
      go_wp2
      go_ret
      exact ⟨bs, by have := unhide HBL; omega, rfl, unhide HCU, unhide HG⟩
set_option maxHeartbeats 400000 in
set_option maxRecDepth 100000 in
theorem long_any (m : Nat) (x : UInt8) (w : World) (hm : m ≤ 1000000) :
    Calls Tryd.prog 32 #[.int .i64 (m : Int), .int .u8 (x.toNat : Int)] w fun e w' => ∃ bs : List UInt8, bs.length = m ∧ e = .returned (.string ⟨bs.toArray⟩) ∧ Below w.heap.size w w' := by
  obtain ⟨i0, hi, hz0, hz1, hz2⟩ := info_parts Tryd.info5
  have hmk : i0.bytes * m ≤ 281474976710656 := by rw [hz2]; omega
  go_enter Tryd.func32, Tryd.ntmps32
  go_wp2_with (at_make; refine wpList_make_full w rfl _ _ 22 rfl w.heap.size 5 i0 (.int .u8 0) 1 Tryd.underlying22 hi hz0 hz1 .i64 .i64 (m : Int) (m : Int) m (by rfl) (by rfl) rfl rfl hmk (by unfold maxLen; omega) (Nat.le_refl _) ?_; intro w0 hown0 hg0)
  clear hi hz0 hz1 hz2 hmk
  have hst : (madeCells (Value.int .u8 0).cells (m * 1)).toList = (List.replicate m (0 : UInt8)).map bv := by
    have e : (Value.int .u8 0).cells = #[Value.int .u8 0] := rfl
    apply List.ext_getElem?
    intro j
    rw [e]
    by_cases hj : j < m
    · simp [madeCells, hj, bv, Nat.mod_one]
    · rw [List.getElem?_eq_none (by rw [Array.length_toList, size_madeCells]; omega), List.getElem?_eq_none (by simp; omega)]
  rw [hst] at hown0
  clear hst
  go_loopw [6] (fun iv wr => ∃ (k : Nat) (bs : List UInt8), k ≤ m ∧ bs.length = m ∧ iv = .int .i64 (k : Int) ∧ wr.ownsRow w.heap.size 5 1 (.slice (some ⟨w.heap.size, 0, none⟩) m m) m (bs.map bv) ∧ Below w.heap.size w wr) (fun iv _ => m - (intOf iv).toNat)
  case atStart => exact ⟨0, List.replicate m 0, Nat.zero_le _, by simp, rfl, hown0, (Below.refl _ _).grown hg0 (Nat.le_refl _) (by simp)⟩
  case round =>
    clear hown0 hg0
    obtain ⟨k, bs, hk, hbl, rfl, hown, hb⟩ := hrel
    have HBL := hide hbl
    have HOWN := hide hown
    clear hbl hown
    by_cases hlt : k < m
    · have hkl : k < bs.length := by rw [unhide HBL]; exact hlt
      have hc : wr.cell? ⟨w.heap.size, k, none⟩ = some (bv bs[k]) := by rw [(unhide HOWN).cellAt k (by omega), List.getElem?_map, List.getElem?_eq_getElem hkl]; rfl
      obtain ⟨y, hy⟩ : ∃ y, bv bs[k] = .int .u8 y := ⟨_, rfl⟩
      rw [hy] at hc
      have hf := (unhide HOWN).frozenAt k
      have hst := ((unhide HOWN).stored k (bv x)).1
      rw [← List.map_set] at hst
      have HST := hide hst
      clear hst hy
      go_wp2
      go_roundw
      case rel => exact ⟨k + 1, bs.set k x, hlt, by simp [unhide HBL], by go_num, unhide HST, hb.setCell (p := ⟨w.heap.size, k, none⟩) (Nat.le_refl _) _⟩
      case measure => simp [intOf]; omega
    · have hcv := run_string_own (P := Tryd.prog) wr 22 9 5 Tryd.underlying22 Tryd.underlying5 Tryd.underlying9 _ (unhide HOWN)
      go_wp2
      go_ret
      exact ⟨bs, unhide HBL, rfl, hb⟩
end Go.Proofs.YtmalpgbdemcmdaaDoor
namespace Go.Proofs.YtmalpgbdemcmdaaDoor
open Go.RowKit
theorem Tryd.info3 : (Tryd.prog.info? 3).map (fun i => (i.zero, i.size, i.bytes)) = some (some (.int .i64 0), 1, 8) := by kernel_rfl
/-- A number as an int's cell. -/
def ic (z : Nat) : Value := .int .i64 (z : Int)
theorem wpList_append_nat {P : Program} (w : World) {ops : Array Oper} {rest : List Oper} {o : Oper} {a : Act} {Q : Exit → Act → World → Prop} (hgd : o.guard = none) (s x : Operand) (t : TypeId)
    (ho : o.op = .call { callee := .builtin .append, args := #[s, x], argTypes := #[t, t] })
    (base : Nat) (e : TypeId) (hinfo : (P.info? e).map (fun i => (i.zero, i.size, i.bytes)) = some (some (.int .i64 0), 1, 8)) (ht : P.underlying t = some (.slice e))
    (v : Value) (bs : List Nat) (hs : a.eval s = v) (hown : w.ownsRow base e 1 v bs.length (bs.map ic)) (n : Int) (b : Nat) (hb : n = (b : Int))
    (hx : a.eval x = .slice (some ⟨w.heap.size, 0, none⟩) 1 1) (hlen : bs.length ≤ 1000000) (hbase : base ≤ w.heap.size)
    (h : ∀ v' w', w'.ownsRow base e 1 v' (bs ++ [b]).length ((bs ++ [b]).map ic) → Below base w w' → wpList P ops Q rest (a.put o.dst v') w') :
    wpList P ops Q (o :: rest) a (w.alloc (.cells #[.int .i64 n] e)) := by
  obtain ⟨i0, hi, hz0, hz1, hz2⟩ := info_parts hinfo
  subst hb
  refine wpList_append_own _ hgd s x t ho base e i0 (.int .i64 0) 1 8 ht hi hz0 hz1 hz2 rfl (by decide) v _ _ hs (hown.alloc _) ⟨w.heap.size, 0, none⟩ 1 1 [ic b] hx rfl (cell_one_new _ _ _) (by intro u hu; simp at hu; subst hu; rfl) (by unfold maxLen; omega) (by omega) (by simp; omega) ?_
  intro v' w' hown' hg _
  refine h v' w' (by simpa using hown') (((Below.refl base w).alloc hbase _).grown hg (by simp; omega) (fun k hk => (hown.lt k hk).1))
/-- The first two of a row of twelve. -/
theorem row_two {w : World} {base : Nat} {v : Value} {zs : List Nat} (h : w.ownsRow base 3 1 v zs.length (zs.map ic)) (hl : zs.length = 12) (hz : ∀ z ∈ zs, z < 10000) :
    ∃ g cp x y : Nat, v = .slice (some ⟨g, 0, none⟩) 12 cp ∧ g < w.heap.size ∧ w.cell? ⟨g, 0, none⟩ = some (.int .i64 (x : Int)) ∧ w.cell? ⟨g, 1, none⟩ = some (.int .i64 (y : Int)) ∧ x < 10000 ∧ y < 10000 := by
  have h' := h
  rcases h.2 with ⟨_, h0⟩ | ⟨g, cp, cur, rfl, hb, hg, _⟩
  · omega
  · have c0 := h'.cells (g := g) rfl 0 (ic zs[0]) (by rw [List.getElem?_map, List.getElem?_eq_getElem (by omega)]; rfl)
    have c1 := h'.cells (g := g) rfl 1 (ic zs[1]) (by rw [List.getElem?_map, List.getElem?_eq_getElem (by omega)]; rfl)
    exact ⟨g, cp, zs[0], zs[1], by rw [hl], (Array.getElem?_eq_some_iff.1 hg).1, by simpa [Addr.add, ic] using c0, by simpa [Addr.add, ic] using c1, hz _ (List.getElem_mem _), hz _ (List.getElem_mem _)⟩
set_option maxHeartbeats 400000 in
set_option maxRecDepth 100000 in
theorem drawPlaces_any (ao : Option Addr) (n cap : Nat) (w : World) (hn : n ≤ 1048576) (hcode : Code w w.heap.size ao n) :
    Calls Tryd.prog 9 #[.slice ao n cap] w fun e w' => ∃ (g cp x y : Nat), e = .returned (.slice (some ⟨g, 0, none⟩) 12 cp) ∧ g < w'.heap.size ∧ w'.cell? ⟨g, 0, none⟩ = some (.int .i64 (x : Int)) ∧ w'.cell? ⟨g, 1, none⟩ = some (.int .i64 (y : Int)) ∧ x < 10000 ∧ y < 10000 ∧ Below w.heap.size w w' := by
  have HO := hide hcode
  clear hcode
  go_enter Tryd.func9, Tryd.ntmps9
  go_wp2_with fail
  refine (new_any ao n cap _ hn (unhide HO)).mono ?_; rintro e w1 ⟨rfl, hc1, ho1, hb1⟩
  have HC1 := hide hc1
  have HO1 := hide ho1
  have hs1 := hc1.lt
  clear hc1 ho1
  go_wp2_with fail
  refine (byte_any w.heap.size ao n cap _ hn (unhide HC1) (unhide HO1)).mono ?_; rintro e w2 ⟨x0, hx0, rfl, hc2, hb2⟩
  have HC2 := hide hc2
  have HO2 := hide ((unhide HO1).later hb2)
  have hb12 : Below w.heap.size w w2 := hb1.trans (only_below hb2 (Nat.le_refl _) hb1.size)
  have hs2 := hc2.lt
  clear hc2
  go_wp2
  go_loopw [4, 5] (fun v iv wr => ∃ (k : Nat) (zs : List Nat), k ≤ 12 ∧ zs.length = k ∧ (∀ z ∈ zs, z < 10000) ∧ iv = .int .i64 (k : Int) ∧ wr.ownsRow w2.heap.size 3 1 v zs.length (zs.map ic) ∧ Cur wr w.heap.size ao n cap ∧ w2.grownBy wr (some w.heap.size)) (fun _ iv _ => 12 - (intOf iv).toNat)
  case atStart => exact ⟨0, [], Nat.zero_le _, rfl, by simp, rfl, World.ownsRow_made w2 #[] 0 (Nat.le_refl _) (by decide) rfl, (unhide HC2).alloc _, World.grownBy_alloc _ _ _⟩
  case round =>
    obtain ⟨k, zs, hk, hzl, hzs, rfl, hown, hcu, hg⟩ := hrel
    have HZL := hide hzl
    have HZS := hide hzs
    have HCU := hide hcu
    have HOWN := hide hown
    have HG := hide hg
    have hsz := hg.size
    clear hzl hzs hcu hown hg
    by_cases hlt : k < 12
    · go_wp2_with fail
      refine (below4 w.heap.size ao n cap _ hn (unhide HCU) ((unhide HO2).later (unhide HG)) 10000 (by omega) (by omega)).mono ?_; rintro e w3 ⟨x, hx, rfl, hc3, hb3⟩
      have hown3 : w3.ownsRow w2.heap.size 3 1 _ zs.length (zs.map ic) := (unhide HOWN).kept hb3 (by
        cases hv : Value.ownBlock _ with
        | none => left; rfl
        | some b => right; have := ((unhide HOWN).lt b hv).1; simp; omega)
      have HC3 := hide hc3
      have hs3 := hb3.size
      clear hc3
      go_wp2_with (at_builtin; refine wpList_append_nat w3 rfl (.tmp 15) (.tmp 18) 31 rfl w2.heap.size 3 Tryd.info3 Tryd.underlying31 _ zs (by rfl) hown3 _ x rfl rfl (by have := unhide HZL; omega) (by omega) ?_; rotate_right; intro v4 w4 hown4 hb4)
      go_roundw
      case rel => exact ⟨k + 1, zs ++ [x], hlt, by simp [unhide HZL], by intro z hz; simp at hz; rcases hz with hz | rfl; exact unhide HZS z hz; omega, by go_num, hown4, (unhide HC3).later hb4 hs2, only_add (only_trans (unhide HG) hb3) hb4⟩
      case measure => simp [intOf]; omega
    · have h12 : zs.length = 12 := by have := unhide HZL; omega
      obtain ⟨g, cp, x, y, rfl, hg, c0, c1, hx, hy⟩ := row_two (unhide HOWN) h12 (unhide HZS)
      go_wp2
      go_ret
      exact ⟨g, cp, x, y, rfl, hg, c0, c1, hx, hy, hb12.trans (only_below (unhide HG) (Nat.le_refl _) hb12.size)⟩
end Go.Proofs.YtmalpgbdemcmdaaDoor
namespace Go.Proofs.YtmalpgbdemcmdaaDoor
open Go.RowKit
theorem Cur.set {w : World} {cb n cap k o : Nat} {ao : Option Addr} {u : Value} (h : Cur w cb ao n cap) (hk : k ≠ cb) : Cur (w.setCell ⟨k, o, none⟩ u) cb ao n cap := by
  obtain ⟨i, x, h1, h2⟩ := h
  exact ⟨i, x, h1, by rw [Below.heap_setCell _ _ _ _ (fun e => hk e.symm)]; exact h2⟩
theorem Cur.drew {w : World} {cb n cap : Nat} {ao : Option Addr} (h : Cur w cb ao n cap) : Cur w.drew cb ao n cap := h
theorem hid {p : Prop} (h : p) : Hid p := h
theorem own_later {w w' : World} {B e size n : Nat} {v : Value} {xs : List Value} (h : w.ownsRow B e size v n xs) (hb : Below w.heap.size w w') : w'.ownsRow B e size v n xs :=
  h.kept (row := none) ⟨hb.os, hb.tape, hb.output, hb.size, fun k hk _ => hb.block k hk⟩ (by cases v.ownBlock <;> simp)
theorem own_base {w : World} {B B' e size n : Nat} {v : Value} {xs : List Value} (h : w.ownsRow B' e size v n xs) (hB : B ≤ B') : w.ownsRow B e size v n xs :=
  ⟨h.1, h.2.imp id (fun ⟨g, cap, cur, a, b, c⟩ => ⟨g, cap, cur, a, Nat.le_trans hB b, c⟩)⟩
end Go.Proofs.YtmalpgbdemcmdaaDoor
namespace Go.Proofs.YtmalpgbdemcmdaaDoor
open Go.RowKit
theorem info_parts3 {P : Program} {e : Nat} {z : Value} {s b : Nat} (h : (P.info? e).map (fun i => (i.zero, i.size, i.bytes)) = some (some z, s, b)) : ∃ i, P.info? e = some i ∧ i.zero = some z ∧ i.size = s ∧ i.bytes = b := by
  cases hi : P.info? e with
  | none => rw [hi] at h; cases h
  | some i =>
    rw [hi] at h
    simp only [Option.map_some, Option.some.injEq, Prod.mk.injEq] at h
    exact ⟨i, rfl, h.1, h.2.1, h.2.2⟩
end Go.Proofs.YtmalpgbdemcmdaaDoor
namespace Go.Proofs.YtmalpgbdemcmdaaDoor
open Go.RowKit
theorem wtr {a b c : World} {r : Option Nat} (h : a.grownBy b r) (k : b.grownBy c r) : a.grownBy c r :=
  ⟨k.os.trans h.os, k.tape.trans h.tape, k.output.trans h.output, Nat.le_trans h.size k.size, fun i hi hr => (k.block i (Nat.lt_of_lt_of_le hi h.size) hr).trans (h.block i hi hr)⟩
theorem wre (a : World) (r : Option Nat) : a.grownBy a r := ⟨rfl, rfl, rfl, Nat.le_refl _, fun _ _ _ => rfl⟩
theorem wst {a w : World} {g : Nat} (h : a.grownBy w (some g)) (i : Nat) (u : Value) : a.grownBy (w.setCell ⟨g, i, none⟩ u) (some g) :=
  wtr h ⟨rfl, rfl, rfl, by simp [World.setCell], fun k _ hk => Below.heap_setCell _ _ _ _ (fun e => hk (by simpa using e))⟩
end Go.Proofs.YtmalpgbdemcmdaaDoor
namespace Go.Proofs.YtmalpgbdemcmdaaDoor
open Go.RowKit
end Go.Proofs.YtmalpgbdemcmdaaDoor
namespace Go.Proofs.YtmalpgbdemcmdaaDoor
open Go.RowKit
end Go.Proofs.YtmalpgbdemcmdaaDoor
namespace Go.Proofs.YtmalpgbdemcmdaaDoor
open Go.RowKit
end Go.Proofs.YtmalpgbdemcmdaaDoor
namespace Go.Proofs.YtmalpgbdemcmdaaDoor
open Go.RowKit
end Go.Proofs.YtmalpgbdemcmdaaDoor
namespace Go.Proofs.YtmalpgbdemcmdaaDoor
open Go.RowKit
end Go.Proofs.YtmalpgbdemcmdaaDoor
namespace Go.Proofs.YtmalpgbdemcmdaaDoor
open Go.RowKit
end Go.Proofs.YtmalpgbdemcmdaaDoor
namespace Go.Proofs.YtmalpgbdemcmdaaDoor
open Go.RowKit
theorem Code.over {w W : World} {n : Nat} {ao : Option Addr} (h : Code w w.heap.size ao n) (hb : Below w.heap.size w W) : Code W W.heap.size ao n := by
  intro hn
  obtain ⟨b, off, h1, h2, h3⟩ := h hn
  refine ⟨b, off, h1, Nat.lt_of_lt_of_le h2 hb.size, fun j hj => ?_⟩
  obtain ⟨z, hz, hc⟩ := h3 j hj
  exact ⟨z, hz, (hb.cell (p := ⟨b, off + j, none⟩) h2).trans hc⟩
end Go.Proofs.YtmalpgbdemcmdaaDoor
namespace Go.Proofs.YtmalpgbdemcmdaaDoor
open Go.RowKit
theorem bdn {B : Nat} {w w1 : World} (h : Below B w w1) (k : Nat) : Below B w (w1.drewN k) := ⟨h.os, h.tape, h.output, h.size, h.block⟩
theorem bigF_no (ao : Option Addr) (n cap : Nat) (w : World) (hn : n ≤ 1048576) : Calls Tryd.prog 5 #[.slice ao n cap] w fun e w' => e = .returned (.bool false) ∧ w' = w := by
  go_enter Tryd.func5, Tryd.ntmps5
  go_wp2
  go_ret
  exact ⟨ret_bool (by simp; omega), rfl⟩
theorem bigF_yes (ao : Option Addr) (n cap : Nat) (w : World) (hn : ¬ n ≤ 1048576) : Calls Tryd.prog 5 #[.slice ao n cap] w fun e w' => e = .returned (.bool true) ∧ w' = w := by
  go_enter Tryd.func5, Tryd.ntmps5
  go_wp2
  go_ret
  exact ⟨ret_bool (by simp; omega), rfl⟩
/-- A store into another block. -/
theorem heap_setCell_far {W : World} {k j i : Nat} {o : Obj} (u : Value) (h : W.heap[k]? = some o) (hk : k ≠ j) : (W.setCell ⟨j, i, none⟩ u).heap[k]? = some o := (Below.heap_setCell _ _ _ _ hk).trans h
theorem bsk {a w : World} (h : Below a.heap.size a w) {k : Nat} (hk : a.heap.size ≤ k) (i : Nat) (x : Value) : Below a.heap.size a (w.setCell ⟨k, i, none⟩ x) := bset h hk x
end Go.Proofs.YtmalpgbdemcmdaaDoor
namespace Go.Proofs.YtmalpgbdemcmdaaDoor
open Go.RowKit
end Go.Proofs.YtmalpgbdemcmdaaDoor
namespace Go.Proofs.YtmalpgbdemcmdaaDoor
open Go.RowKit
end Go.Proofs.YtmalpgbdemcmdaaDoor
namespace Go.Proofs.YtmalpgbdemcmdaaDoor
open Go.RowKit
end Go.Proofs.YtmalpgbdemcmdaaDoor
namespace Go.Proofs.YtmalpgbdemcmdaaDoor
open Go.RowKit
end Go.Proofs.YtmalpgbdemcmdaaDoor
namespace Go.Proofs.YtmalpgbdemcmdaaDoor
open Go.RowKit
end Go.Proofs.YtmalpgbdemcmdaaDoor
namespace Go.Proofs.YtmalpgbdemcmdaaDoor
open Go.RowKit
theorem below_grownR {B : Nat} {a w : World} {r : Option Nat} (h : a.grownBy w r) (hB : ∀ j, r = some j → B ≤ j) (hs : B ≤ a.heap.size) : Below B a w :=
  ⟨h.os, h.tape, h.output, h.size, fun k hk => h.block k (by omega) (fun e => by have := hB k e.symm; omega)⟩
end Go.Proofs.YtmalpgbdemcmdaaDoor
namespace Go.Proofs.YtmalpgbdemcmdaaDoor
open Go.RowKit
/-- A store into a block that is new. -/
theorem wst_new {a w : World} {r : Option Nat} (h : a.grownBy w r) {j : Nat} (hj : a.heap.size ≤ j) (i : Nat) (x : Value) : a.grownBy (w.setCell ⟨j, i, none⟩ x) r :=
  ⟨h.os, h.tape, h.output, by simpa [World.setCell] using h.size, fun k hk hr => (Below.heap_setCell w ⟨j, i, none⟩ x k (by show k ≠ j; omega)).trans (h.block k hk hr)⟩
theorem grown_below {a w : World} (h : Below a.heap.size a w) (r : Option Nat) : a.grownBy w r := ⟨h.os, h.tape, h.output, h.size, fun k hk _ => h.block k hk⟩
/-- Decimal figures of a number: the library's own word for them. -/
def dg (n : Nat) : List UInt8 := Lib.decDigits n
theorem dg_small (n : Nat) (h : n < 10) : dg n = [UInt8.ofNat (48 + n)] := by unfold dg; rw [Lib.decDigits, dif_pos h]
theorem dg_big (n : Nat) (h : ¬ n < 10) : dg n = dg (n / 10) ++ [UInt8.ofNat (48 + n % 10)] := by unfold dg; rw [Lib.decDigits, dif_neg h]
theorem dg_len : ∀ (k n : Nat), n < 10 ^ (k + 1) → (dg n).length ≤ k + 1
  | 0, n, h => by rw [dg_small n (by simpa using h)]; simp
  | k + 1, n, h => by
    by_cases hn : n < 10
    · rw [dg_small n hn]; simp
    · rw [dg_big n hn]
      have := dg_len k (n / 10) (by rw [Nat.pow_succ] at h; omega)
      simp; omega
/-- The figures of what is left, nothing of 0. -/
def dgz (n : Nat) : List UInt8 := if n = 0 then [] else dg n
theorem dgz_zero : dgz 0 = [] := rfl
theorem dgz_pos (n : Nat) (h : n ≠ 0) : dgz n = dg n := by simp [dgz, h]
theorem dgz_step (m : Nat) (h : m ≠ 0) : dgz m = dgz (m / 10) ++ [UInt8.ofNat (48 + m % 10)] := by
  rw [dgz_pos m h]
  by_cases h1 : m < 10
  · rw [dg_small m h1, show m / 10 = 0 by omega, dgz_zero, show m % 10 = m by omega]; rfl
  · rw [dg_big m h1, dgz_pos _ (by omega)]
theorem u8_48 (x : Nat) (h : x < 10) : ((UInt8.ofNat (48 + x)).toNat : Int) = 48 + (x : Int) := by rw [u8_nat _ (by omega)]; omega
theorem figure_dec (x : Nat) (b : UInt8) (w : World) (h : x < 10) (hb : b = UInt8.ofNat (48 + x)) :
    Calls Tryd.prog 54 #[.int .i64 x] w fun e w' => e = .returned (.int .u8 b.toNat) ∧ w = w' := by
  subst hb
  go_enter Tryd.func54, Tryd.ntmps54
  go_wp2
  go_ret
  exact ⟨ret_int (by rw [u8_48 x h]), rfl⟩
theorem run_one (b : UInt8) (w : World) : (convert 22 9 (.slice (some ⟨w.heap.size, 0, none⟩) 1 1)).run Tryd.prog (w.alloc (.cells #[.int .u8 (b.toNat : Int)] 5)) = .ok (.string ⟨#[b]⟩) (w.alloc (.cells #[.int .u8 (b.toNat : Int)] 5)) :=
  run_string_own (P := Tryd.prog) _ 22 9 5 Tryd.underlying22 Tryd.underlying5 Tryd.underlying9 [b] (World.ownsRow_lit (base := 0) w #[bv b] 1 (Nat.zero_le _) (by decide) rfl)
theorem ba_cons (b : UInt8) (t : List UInt8) : (⟨#[b]⟩ ++ ⟨t.toArray⟩ : ByteArray) = ⟨(b :: t).toArray⟩ := by
  apply ByteArray.ext
  rw [ByteArray.data_append]
  simp
set_option maxHeartbeats 800000 in
set_option maxRecDepth 100000 in
theorem decimal_any (n : Nat) (w : World) (hn : n ≤ 1000000000000) :
    Calls Tryd.prog 43 #[.int .i64 n] w fun e w' => e = .returned (.string ⟨(dg n).toArray⟩) ∧ Below w.heap.size w w' := by
  by_cases h0 : n = 0
  · subst h0
    go_enter Tryd.func43, Tryd.ntmps43
    go_wp2
    go_ret
    exact ⟨ret_str (by rw [dg_small 0 (by decide)]; rfl), Below.refl _ _⟩
  · have h0' : ((n : Int) == 0) = false := by simp; omega
    have hl := dg_len 12 n (by omega)
    go_enter Tryd.func43, Tryd.ntmps43
    go_wp2
    go_loopw [0, 4] (fun nv sv wr => ∃ (m : Nat) (t : List UInt8), nv = .int .i64 (m : Int) ∧ sv = .string ⟨t.toArray⟩ ∧ m ≤ n ∧ dgz m ++ t = dg n ∧ Below w.heap.size w wr) (fun nv _ _ => (intOf nv).toNat)
    case atStart => exact ⟨n, [], rfl, rfl, Nat.le_refl _, by rw [dgz_pos n h0]; simp, Below.refl _ _⟩
    case round =>
      clear h0'
      obtain ⟨m, t, rfl, rfl, hm, ht, hb⟩ := hrel
      have hsz := hb.size
      have htl : t.length ≤ 13 := by have := congrArg List.length ht; simp at this; omega
      have HT := (show Hid (dgz m ++ t = dg n) from ht)
      clear ht hl
      by_cases hz : m = 0
      · have hz' : ((m : Int) != 0) = false := by simp; omega
        have HZ := (show Hid (m = 0) from hz)
        clear hz
        go_wp2
        go_ret
        exact ⟨ret_str (by rw [← HT.out, HZ.out]; rfl), hb⟩
      · have hz' : ((m : Int) != 0) = true := by simp; omega
        obtain ⟨d, hd⟩ : ∃ d : Nat, m % 10 = d := ⟨_, rfl⟩
        have hdi : (m : Int) % 10 = (d : Int) := by omega
        have hdb : d < 10 := by omega
        have HD := (show Hid (m % 10 = d) from hd)
        obtain ⟨b, hbb⟩ : ∃ b, b = UInt8.ofNat (48 + d) := ⟨_, rfl⟩
        have HBB := (show Hid (b = UInt8.ofNat (48 + d)) from hbb)
        have hone := run_one b wr
        clear hd hbb
        go_wp2_with fail
        refine (figure_dec d b _ hdb HBB.out).mono ?_; rintro e w1 ⟨rfl, rfl⟩
        go_wp2
        go_roundw
        case rel => exact ⟨m / 10, b :: t, by go_num, by rw [ba_cons], by omega, by rw [← HT.out, dgz_step m hz, HD.out, ← HBB.out]; simp, hb.alloc hsz _⟩
        case measure => simp [intOf]; omega
/-- A sign of an atom. -/
def ato (c : UInt8) : Bool := decide (33 ≤ c.toNat) && decide (c.toNat ≤ 126) && !(c.toNat == 34) && !(c.toNat == 40) && !(c.toNat == 41) && !(c.toNat == 123) && !(c.toNat == 125) && !(c.toNat == 92)
def atk (s : ByteArray) : Bool := s.data.toList.all ato && (decide (1 ≤ (s.size : Int)) && decide ((s.size : Int) ≤ 40))
theorem dat_len (s : ByteArray) : s.data.toList.length = s.size := Array.length_toList
theorem dat_take (s : ByteArray) (k : Nat) (h : k < s.size) : s.data.toList.take (k + 1) = s.data.toList.take k ++ [s[k]] := by
  rw [List.take_succ_eq_append_getElem (by rw [dat_len]; exact h)]; rfl
theorem ato_take {s : ByteArray} {k : Nat} (h : k < s.size) (ha : (s.data.toList.take k).all ato = true) (hc : ato s[k] = true) : (s.data.toList.take (k + 1)).all ato = true := by
  rw [dat_take s k h, List.all_append, ha, Bool.true_and]
  show (ato s[k] && true) = true
  rw [hc]; rfl
theorem at_bad {s : ByteArray} {k : Nat} (h : k < s.size) (hc : ato s[k] = false) : atk s = false := by
  have : s.data.toList.all ato = false := by
    rw [List.all_eq_false]
    refine ⟨s[k], ?_, by simp [hc]⟩
    exact List.getElem_mem (l := s.data.toList) (n := k) (by rw [dat_len]; exact h)
  rw [atk, this]; rfl
theorem at_fin {s : ByteArray} {k : Nat} (h : ¬ k < s.size) (ha : (s.data.toList.take k).all ato = true) : atk s = (decide (1 ≤ (s.size : Int)) && decide ((s.size : Int) ≤ 40)) := by
  rw [List.take_of_length_le (by rw [dat_len]; omega)] at ha
  rw [atk, ha]; rfl
theorem at_len {s : ByteArray} (h : ¬ (1 ≤ (s.size : Int) ∧ (s.size : Int) ≤ 40)) : atk s = false := by
  have : (decide (1 ≤ (s.size : Int)) && decide ((s.size : Int) ≤ 40)) = false := by
    by_cases h1 : 1 ≤ (s.size : Int)
    · have h2 : ¬ (s.size : Int) ≤ 40 := fun x => h ⟨h1, x⟩
      simp [h2]
    · simp [h1]
  rw [atk, this, Bool.and_false]
/-- How a sign stands to an atom's bounds. -/
theorem ato_ways (b : UInt8) (c : Nat) (h : b.toNat = c) : (ato b = true ∧ 33 ≤ c ∧ c ≤ 126 ∧ c ≠ 34 ∧ c ≠ 40 ∧ c ≠ 41 ∧ c ≠ 123 ∧ c ≠ 125 ∧ c ≠ 92) ∨ (ato b = false ∧ c < 33) ∨ (ato b = false ∧ 126 < c) ∨ (ato b = false ∧ c = 34) ∨ (ato b = false ∧ c = 40) ∨ (ato b = false ∧ c = 41) ∨ (ato b = false ∧ c = 123) ∨ (ato b = false ∧ c = 125) ∨ (ato b = false ∧ c = 92) := by
  unfold ato
  rw [h]
  by_cases h1 : c < 33
  · right; left; simp; omega
  by_cases h2 : 126 < c
  · right; right; left; simp; omega
  by_cases h3 : c = 34
  · subst h3; right; right; right; left; decide
  by_cases h4 : c = 40
  · subst h4; right; right; right; right; left; decide
  by_cases h5 : c = 41
  · subst h5; right; right; right; right; right; left; decide
  by_cases h6 : c = 123
  · subst h6; right; right; right; right; right; right; left; decide
  by_cases h7 : c = 125
  · subst h7; right; right; right; right; right; right; right; left; decide
  by_cases h8 : c = 92
  · subst h8; right; right; right; right; right; right; right; right; decide
  left
  simp [h3, h4, h5, h6, h7, h8]
  omega
set_option maxHeartbeats 1600000 in
set_option maxRecDepth 100000 in
theorem specAtom_any (s : ByteArray) (w : World) (hs : s.size ≤ 1048576) :
    Calls Tryd.prog 19 #[.string s] w fun e w' => e = .returned (.bool (atk s)) ∧ w' = w := by
  go_enter Tryd.func19, Tryd.ntmps19
  go_wp2
  go_loopw [3] (fun iv wr => ∃ i : Nat, i ≤ s.size ∧ iv = .int .i64 (i : Int) ∧ Hid ((s.data.toList.take i).all ato = true) ∧ wr = w) (fun iv _ => s.size - (intOf iv).toNat)
  case atStart => exact ⟨0, Nat.zero_le _, rfl, rfl, rfl⟩
  case round =>
    obtain ⟨i, hi, rfl, HA, hw⟩ := hrel
    subst hw
    by_cases hlt : i < s.size
    · obtain ⟨c, hcx⟩ : ∃ c : Nat, s[i].toNat = c := ⟨_, rfl⟩
      have hcb : c < 256 := by rw [← hcx]; exact s[i].toNat_lt
      rcases ato_ways s[i] c hcx with ⟨ho, h1, h2, h3, h4, h5, h6, h7, h8⟩ | ⟨ho, h1⟩ | ⟨ho, h1⟩ | ⟨ho, h1⟩ | ⟨ho, h1⟩ | ⟨ho, h1⟩ | ⟨ho, h1⟩ | ⟨ho, h1⟩ | ⟨ho, h1⟩
      · have HO := hid ho
        clear ho
        have i3 : ((c : Int) == 34) = false := by rw [beq_eq_false_iff_ne]; omega
        have i4 : ((c : Int) == 40) = false := by rw [beq_eq_false_iff_ne]; omega
        have i5 : ((c : Int) == 41) = false := by rw [beq_eq_false_iff_ne]; omega
        have i6 : ((c : Int) == 123) = false := by rw [beq_eq_false_iff_ne]; omega
        have i7 : ((c : Int) == 125) = false := by rw [beq_eq_false_iff_ne]; omega
        have i8 : ((c : Int) == 92) = false := by rw [beq_eq_false_iff_ne]; omega
        clear h3 h4 h5 h6 h7 h8
        go_wp2
        go_roundw
        case rel => exact ⟨i + 1, by omega, by go_num, ato_take hlt HA.out HO.out, trivial⟩
        case measure => simp [intOf]; omega
      all_goals
        have HO := hid (at_bad hlt ho)
        clear ho
        try subst h1
        go_wp2
        go_ret
        exact ⟨by rw [HO.out]; rfl, rfl⟩
    · have HE := hid (at_fin hlt HA.out)
      by_cases hr : 1 ≤ (s.size : Int) ∧ (s.size : Int) ≤ 40
      · have HE2 : Hid (atk s = true) := by show _ = _; rw [HE.out]; simp only [hr.1, hr.2, decide_true, Bool.and_self]
        go_wp2_with fail
        refine (l01In_yes _ 1 40 _ hr.1 hr.2).mono ?_; rintro e w1 ⟨rfl, h1⟩
        subst h1
        go_wp2
        go_ret
        exact ⟨by rw [HE2.out]; rfl, rfl⟩
      · have HE2 := hid (at_len hr)
        go_wp2_with fail
        refine (l01In_no _ 1 40 _ (by omega)).mono ?_; rintro e w1 ⟨rfl, h1⟩
        subst h1
        go_wp2
        go_ret
        exact ⟨by rw [HE2.out]; rfl, rfl⟩
/-- A sign that may be said. -/
def prt (c : UInt8) : Bool := decide (32 ≤ c.toNat) && decide (c.toNat ≤ 126)
/-- Signs, with 92 ahead of 34 and 92. -/
def qto : List UInt8 → List UInt8
  | [] => []
  | c :: l => (if c.toNat = 34 ∨ c.toNat = 92 then [92, c] else [c]) ++ qto l
theorem qto_snoc (l : List UInt8) (c : UInt8) : qto (l ++ [c]) = qto l ++ (if c.toNat = 34 ∨ c.toNat = 92 then [92, c] else [c]) := by
  induction l with
  | nil => simp [qto]
  | cons b l ih => simp only [List.cons_append, qto, ih, List.append_assoc]
theorem qto_len (l : List UInt8) : (qto l).length ≤ 2 * l.length := by
  induction l with
  | nil => simp [qto]
  | cons b l ih =>
    simp only [qto, List.length_append, List.length_cons]
    split <;> simp <;> omega
/-- What is quoted, with the sign ahead of it. -/
def qop (l : List UInt8) : ByteArray := ⟨(34 :: qto l).toArray⟩
def qtx (s : ByteArray) : ByteArray := ⟨(34 :: (qto s.data.toList ++ [34])).toArray⟩
def qok (s : ByteArray) : Bool := s.data.toList.all prt && decide (s.size ≤ 60)
def qtR (s : ByteArray) : Value := if qok s = true then .tuple #[.string (qtx s), .bool true] else .tuple #[.string ⟨#[]⟩, .bool false]
theorem qop_size (l : List UInt8) : (qop l).size ≤ 2 * l.length + 1 := by
  show (34 :: qto l).toArray.size ≤ _
  have := qto_len l
  simp only [List.size_toArray, List.length_cons]
  omega
theorem ba_ext13 {a b : ByteArray} (h : a.data.toList = b.data.toList) : a = b := by
  cases a; cases b
  congr 1
  exact Array.toList_inj.1 h
theorem one_at (s : ByteArray) (i : Nat) (h : i < s.size) : (s.extract i (i + 1)).data.toList = [s[i]] := by
  rw [ByteArray.data_extract, Array.toList_extract, List.extract_eq_take_drop]
  rw [show i + 1 - i = 1 by omega]
  rw [List.drop_eq_getElem_cons (by rw [dat_len]; exact h)]
  rfl
theorem qop_one {s : ByteArray} {i : Nat} (h : i < s.size) (hq : ¬ (s[i].toNat = 34 ∨ s[i].toNat = 92)) : qop (s.data.toList.take i) ++ s.extract i (i + 1) = qop (s.data.toList.take (i + 1)) := by
  apply ba_ext13
  rw [ByteArray.data_append, Array.toList_append, one_at s i h, dat_take s i h]
  simp only [qop, List.toList_toArray, qto_snoc, if_neg hq, List.cons_append]
theorem qop_two {s : ByteArray} {i : Nat} (h : i < s.size) (hq : s[i].toNat = 34 ∨ s[i].toNat = 92) : qop (s.data.toList.take i) ++ ⟨#[92]⟩ ++ s.extract i (i + 1) = qop (s.data.toList.take (i + 1)) := by
  apply ba_ext13
  rw [ByteArray.data_append, Array.toList_append, ByteArray.data_append, Array.toList_append, one_at s i h, dat_take s i h]
  simp only [qop, List.toList_toArray, qto_snoc, if_pos hq, List.cons_append, List.append_assoc, List.nil_append]
theorem qop_end (s : ByteArray) : qop s.data.toList ++ ⟨#[34]⟩ = qtx s := by
  apply ba_ext13
  rw [ByteArray.data_append, Array.toList_append]
  simp only [qop, qtx, List.toList_toArray, List.cons_append]
theorem prt_take {s : ByteArray} {k : Nat} (h : k < s.size) (ha : (s.data.toList.take k).all prt = true) (hc : prt s[k] = true) : (s.data.toList.take (k + 1)).all prt = true := by
  rw [dat_take s k h, List.all_append, ha, Bool.true_and]
  show (prt s[k] && true) = true
  rw [hc]; rfl
theorem qt_bad {s : ByteArray} {k : Nat} (h : k < s.size) (hc : prt s[k] = false) : qtR s = .tuple #[.string ⟨#[]⟩, .bool false] := by
  have : s.data.toList.all prt = false := by
    rw [List.all_eq_false]
    refine ⟨s[k], ?_, by simp [hc]⟩
    exact List.getElem_mem (l := s.data.toList) (n := k) (by rw [dat_len]; exact h)
  rw [qtR, qok, this, Bool.false_and, if_neg (by decide)]
theorem qt_long {s : ByteArray} (h : ¬ s.size ≤ 60) : qtR s = .tuple #[.string ⟨#[]⟩, .bool false] := by
  rw [qtR, qok, decide_eq_false h, Bool.and_false, if_neg (by decide)]
theorem qt_yes {s : ByteArray} (ha : s.data.toList.all prt = true) (h : s.size ≤ 60) : qtR s = .tuple #[.string (qtx s), .bool true] := by
  rw [qtR, qok, ha, decide_eq_true h, Bool.and_self, if_pos rfl]
set_option maxHeartbeats 1600000 in
set_option maxRecDepth 100000 in
theorem specQuote_any (s : ByteArray) (w : World) (hs : s.size ≤ 1048576) :
    Calls Tryd.prog 15 #[.string s] w fun e w' => e = .returned (qtR s) ∧ w' = w := by
  go_enter Tryd.func15, Tryd.ntmps15
  go_wp2
  go_loopw [4, 5] (fun ov iv wr => ∃ (i : Nat) (o : ByteArray), i ≤ s.size ∧ ov = .string o ∧ iv = .int .i64 (i : Int) ∧ Hid (o = qop (s.data.toList.take i)) ∧ Hid ((s.data.toList.take i).all prt = true) ∧ wr = w) (fun _ iv _ => s.size - (intOf iv).toNat)
  case atStart => exact ⟨0, _, Nat.zero_le _, rfl, rfl, rfl, rfl, rfl⟩
  case round =>
    obtain ⟨i, o, hi, rfl, rfl, HO, HA, hw⟩ := hrel
    subst hw
    have hos : o.size ≤ 2097153 := by
      rw [HO.out]
      have h1 := qop_size (s.data.toList.take i)
      have h2 := List.length_take_le i s.data.toList
      omega
    by_cases hlt : i < s.size
    · obtain ⟨c, hcx⟩ : ∃ c : Nat, s[i].toNat = c := ⟨_, rfl⟩
      have hcb : c < 256 := by rw [← hcx]; exact s[i].toNat_lt
      have hlow : (c : Int) < 32 ∨ 126 < (c : Int) ∨ (32 ≤ (c : Int) ∧ (c : Int) ≤ 126) := by omega
      have hp : prt s[i] = (decide (32 ≤ c) && decide (c ≤ 126)) := by unfold prt; rw [hcx]
      have hsx : (s.extract i (i + 1)).size = 1 := by rw [ByteArray.size_extract]; omega
      rcases hlow with h1 | h1 | ⟨h1, h2⟩
      · have HB := hid (qt_bad hlt (by rw [hp]; simp; omega))
        clear hp hsx
        go_wp2
        go_ret2
        exact ⟨by rw [HB.out]; rfl, rfl⟩
      · have HB := hid (qt_bad hlt (by rw [hp]; simp; omega))
        clear hp hsx
        go_wp2
        go_ret2
        exact ⟨by rw [HB.out]; rfl, rfl⟩
      · have HP : Hid (prt s[i] = true) := by show _ = _; rw [hp]; simp; omega
        clear hp
        by_cases h3 : c = 34 ∨ c = 92
        · have HN := hid (qop_two hlt (by rw [hcx]; exact h3))
          rw [← HO.out] at HN
          have h9 : o.size + 1 ≤ 9223372036854775807 := by omega
          rcases h3 with rfl | rfl
          all_goals
            go_wp2
            go_roundw
            case rel => exact ⟨i + 1, _, by omega, rfl, by go_num, HN.out, prt_take hlt HA.out HP.out, trivial⟩
            case measure => simp [intOf]; omega
        · have HN := hid (qop_one hlt (by rw [hcx]; exact h3))
          rw [← HO.out] at HN
          have i3 : ((c : Int) == 34) = false := by rw [beq_eq_false_iff_ne]; omega
          have i4 : ((c : Int) == 92) = false := by rw [beq_eq_false_iff_ne]; omega
          clear h3
          go_wp2
          go_roundw
          case rel => exact ⟨i + 1, _, by omega, rfl, by go_num, HN.out, prt_take hlt HA.out HP.out, trivial⟩
          case measure => simp [intOf]; omega
    · have HAA : Hid (s.data.toList.all prt = true) := by
        have := HA.out
        rwa [List.take_of_length_le (by rw [dat_len]; omega)] at this
      have HOO : Hid (o ++ ⟨#[34]⟩ = qtx s) := by
        show _ = _
        rw [HO.out, List.take_of_length_le (by rw [dat_len]; omega)]
        exact qop_end s
      by_cases hr : s.size ≤ 60
      · have HE := hid (qt_yes HAA.out hr)
        go_wp2
        go_ret2
        exact ⟨by rw [HE.out, ← HOO.out]; rfl, rfl⟩
      · have HE := hid (qt_long hr)
        go_wp2
        go_ret2
        exact ⟨by rw [HE.out]; rfl, rfl⟩
end Go.Proofs.YtmalpgbdemcmdaaDoor
