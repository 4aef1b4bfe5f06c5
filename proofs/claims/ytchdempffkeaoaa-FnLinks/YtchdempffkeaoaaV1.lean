/- Ma, Tkk, Mb, Mc, Md, Me, Mf, K7a, K7b, K7c, K7d, K7e, K7p, K7f, K7g, K7u. -/
import Derived.Test.YtchdempffkeaoaaProg
import Derived.WalkKit
import Derived.Laws.IdiomStrings
import Derived.WalkSpells
import Derived.WalkLawsBesides
import Derived.Lib.Strings
import Derived.Lib.BufferWrite
import Derived.Lib.UnsafeStr
import Derived.Laws.MakeOwn
import Derived.Below
import Derived.BigQuiet
import Derived.Deep.QuietTactic
import Derived.Deep.RegionHeld3
import Derived.Deep.Cut
import Derived.Laws.Bits128
import Derived.Laws.ShiftsVarLaws
import Derived.Lib.BufferMore
import Derived.Lib.ConvBytes
import Derived.Lib.ItoaNum
import Derived.Deep.CutRange
namespace Go.Proofs.Ytchdempffkeaoaa
open Go.RowKit
theorem hide {p : Prop} (h : p) : Hid p := h
theorem unhide {p : Prop} (h : Hid p) : p := h
theorem ret_int {k : IntKind} {a b : Int} (h : a = b) : Ending.returned (.int k a) = .returned (.int k b) := by rw [h]
/-- A byte as a value. -/
def bv (b : UInt8) : Value := .int .u8 (b.toNat : Int)
/-- What a row of bytes that the call owns reads as. -/
theorem run_string_own {P : Program} (w : World) (src dst e : TypeId) (hs : P.underlying src = some (.slice e)) (he : P.underlying e = some (.int .u8)) (hd : P.underlying dst = some .string)
    {base n : Nat} {v : Value} (bs : List UInt8) (h : w.ownsRow base e 1 v n (bs.map bv)) :
    (convert src dst v).run P w = .ok (.string ⟨bs.toArray⟩) w := by
  have hl : bs.length = n := by simpa using h.1
  rcases h.2 with ⟨rfl, hn⟩ | ⟨g, cap, cur, rfl, _, hg, _, _, _, _⟩
  · have : bs = [] := List.eq_nil_of_length_eq_zero (by omega)
    subst this
    rw [run_convert_bytes_string w src dst e none 0 0 hs he hd]; rfl
  · subst hl
    refine run_convert_bytes_back w src dst e ⟨g, 0, none⟩ cap bs hs he hd (fun j hj => ?_)
    have := h.cells (g := g) rfl j (bv bs[j]) (by simp [hj])
    simpa [bv] using this
theorem u8_nat (k : Nat) (h : k < 256) : ((UInt8.ofNat k).toNat : Int) = (k : Int) := by
  simp [UInt8.toNat_ofNat']; omega
end Go.Proofs.Ytchdempffkeaoaa
namespace Go.Proofs.Ytchdempffkeaoaa
open Go.RowKit
theorem Try.info5 : (Try.prog.info? 5).map (fun i => (i.zero, i.size, i.bytes)) = some (some (.int .u8 0), 1, 1) := by kernel_rfl
theorem ret_str {a b : ByteArray} (h : a = b) : Ending.returned (.string a) = .returned (.string b) := by rw [h]
end Go.Proofs.Ytchdempffkeaoaa
namespace Go.Proofs.Ytchdempffkeaoaa
open Go.RowKit
set_option maxHeartbeats 1000000 in
set_option maxRecDepth 100000 in
theorem cloneLite_any (s : ByteArray) (w : World) (hlim : s.size ≤ 1048576) :
    Calls Try.prog 25 #[.string s] w fun e w' => e = .returned (.string s) ∧ Below w.heap.size w w' := by
  by_cases h0 : s.size = 0
  · obtain rfl : s = ⟨#[]⟩ := ByteArray.ext (Array.eq_empty_of_size_eq_zero h0)
    go_enter Try.func25, Try.ntmps25
    go_wp2
    go_ret
    exact ⟨rfl, Below.refl _ _⟩
  · obtain ⟨i0, hi, hz0, hz1, hz2⟩ := info_parts Try.info5
    have hinfo : (Try.prog.info? 5).map (·.size) = some 1 := by rw [hi]; simp [hz1]
    have hco : Try.prog.cellsOf 5 = 1 := by simp [Program.cellsOf, hi, hz1]
    obtain ⟨M, hM⟩ : ∃ M, M = madeCells (Value.int .u8 0).cells (((s.size : Nat) : Int).toNat * i0.size) := ⟨_, rfl⟩
    have hMs : M.size = s.size := by rw [hM, size_madeCells, hz1]; simp
    have hmk : ∀ W : World, (Instr.makeSlice 22 (.int .i64 (s.size : Int)) (.int .i64 (s.size : Int))).run Try.prog W = .ok (.slice (some ⟨W.heap.size, 0, none⟩) s.size s.size) (W.alloc (.cells M 5)) := fun W => by
      have h := run_make (P := Try.prog) W 22 5 i0 (.int .u8 0) Try.underlying22 hi hz0 .i64 .i64 (s.size : Int) (s.size : Int) (by omega) (by omega) (by rw [hz2]; omega) (by omega)
      rw [← hM] at h
      simpa using h
    clear hM
    have hcp := Lib.run_copy_row_string (P := Try.prog) (w.alloc (.cells M 5)) 22 9 3 5 w.heap.size 0 s.size s.size s M 5 Try.underlying22 hinfo (heap_alloc_new w _) (Nat.le_refl _) (by omega)
    obtain ⟨Y, hY⟩ : ∃ Y, Y = (M.toList.take 0 ++ Lib.byteCells s.data.toList ++ M.toList.drop (0 + s.size)).toArray := ⟨_, rfl⟩
    rw [← hY] at hcp
    have hYl : Y.toList = Lib.byteCells s.data.toList := by
      rw [hY, List.toList_toArray, List.take_zero, List.nil_append, List.drop_of_length_le (by rw [Array.length_toList]; omega), List.append_nil]
    have hYs : Y.size = s.size := by rw [← Array.length_toList, hYl, Lib.byteCells_length, ← Lib.size_eq]
    have hgY : ((w.alloc (.cells M 5)).setRow w.heap.size Y).heap[w.heap.size]? = some (.cells Y 5 (0, 0)) := setRow_heap _ _ M _ 5 (0, 0) (heap_alloc_new w _)
    have hne : s.data.toList ≠ [] := fun e => h0 (by rw [Lib.size_eq, e]; rfl)
    have hUS := Lib.run_unsafeString_row (P := Try.prog) ((w.alloc (.cells M 5)).setRow w.heap.size Y) 59 3 9 5 Try.underlying59 hco w.heap.size Y.size (by unfold World.shape?; rw [hgY]) s.data.toList hne (by rw [← Lib.size_eq]; omega) (by rw [← Lib.size_eq]; omega)
      (fun j x hx => Lib.cells_of_row hgY Y.size j _ (by rw [List.take_of_length_le (by rw [Array.length_toList]; exact Nat.le_refl _), hYl]; simp [Lib.byteCells, hx]))
    rw [← Lib.size_eq] at hUS
    clear hY
    go_enter Try.func25, Try.ntmps25
    go_wp2
    go_ret
    have hb1 : Below w.heap.size w (w.alloc (.cells M 5)) := (Below.refl _ w).alloc (Nat.le_refl _) _
    have hb2 : Below w.heap.size (w.alloc (.cells M 5)) ((w.alloc (.cells M 5)).setRow w.heap.size Y) := ⟨rfl, rfl, rfl, by simp, fun k hk => setRow_other _ _ _ _ (by omega)⟩
    exact ⟨rfl, Lib.below_freeze (hb1.trans hb2) (p := ⟨w.heap.size, 0, none⟩) (Nat.le_refl _) _⟩
theorem clone_any (s : ByteArray) (w : World) (hlim : s.size ≤ 1048576) :
    Calls Try.prog 19 #[.string s] w fun e w' => e = .returned (.string s) ∧ Below w.heap.size w w' := by
  go_enter Try.func19, Try.ntmps19
  go_wp2_with fail
  refine (cloneLite_any s _ hlim).mono ?_; rintro e w1 ⟨rfl, hb1⟩
  go_wp2
  go_ret
  exact ⟨rfl, hb1⟩
end Go.Proofs.Ytchdempffkeaoaa
namespace Go.Proofs.Ytchdempffkeaoaa
open Go.RowKit
/-- Which of two stamps is later. -/
def later (t b t' b' : Int) : Bool := if t = t' then decide (b' < b) else decide (t' < t)
theorem bpush {a w : World} (h : Below a.heap.size a w) (o : Obj) : Below a.heap.size a (w.alloc o) := h.alloc h.size o
theorem btr {a b c : World} (h : Below a.heap.size a b) (k : Below b.heap.size b c) : Below a.heap.size a c := h.trans (k.mono h.size)
theorem bre (a : World) : Below a.heap.size a a := Below.refl _ _
theorem bdr {a w : World} (h : Below a.heap.size a w) : Below a.heap.size a w.drew := h.drew
theorem bset {a w : World} (h : Below a.heap.size a w) {p : Addr} (hp : a.heap.size ≤ p.block) (u : Value) : Below a.heap.size a (w.setCell p u) := h.setCell hp u
def cb (v t b v' t' b' : Int) : Bool := if t = t' ∧ b = b' then decide (v' < v) else later t b t' b'
end Go.Proofs.Ytchdempffkeaoaa
namespace Go.Proofs.Ytchdempffkeaoaa
open Go.RowKit
end Go.Proofs.Ytchdempffkeaoaa
namespace Go.Proofs.Ytchdempffkeaoaa
open Go.RowKit
end Go.Proofs.Ytchdempffkeaoaa
namespace Go.Proofs.Ytchdempffkeaoaa
open Go.RowKit
end Go.Proofs.Ytchdempffkeaoaa
namespace Go.Proofs.Ytchdempffkeaoaa
open Go.RowKit
end Go.Proofs.Ytchdempffkeaoaa
namespace Go.Proofs.Ytchdempffkeaoaa
open Go.RowKit Go.ChangeMaps
theorem bb {B : Nat} {w w1 : World} (h : Below B w w1 := by repeat (first | exact bre _ | refine bdr ?_ | refine btr ?_ (by assumption) | refine bpush ?_ _)) : Below B w w1 := h
theorem tp0 (a : Act) (v : Value) : a.put none v = a := rfl
theorem tp1 (a : Act) (t : Tmp) (v : Value) : a.put (some t) v = { a with tmps := a.tmps.setIfInBounds t v } := rfl
theorem tp2 {α : Type} (l : List α) (i : Nat) (x : α) : l.toArray.setIfInBounds i x = (l.set i x).toArray := List.setIfInBounds_toArray ..
theorem tp3 {α : Type} (a : α) (l : List α) (x : α) : (a :: l).set 0 x = x :: l := rfl
theorem tp4 {α : Type} (a : α) (l : List α) (i : Nat) (x : α) : (a :: l).set (i + 1) x = a :: l.set i x := rfl
section
variable {P : Program} {ops : Array Oper} {Q : Exit → Act → World → Prop} {md : Region.Mode} {S : World → Prop} {d : Option Tmp} {o : Op} {t : TypeId} {ps : String} {af : Array Edge} {gd : Option (Nat × Bool)} {v : Value} {fuel : Nat} {listed : Array Bool} {a a2 : Act} {w : World}
theorem tk (i : Nat) (h : wpAnyH P md ops Q S fuel (listed.setIfInBounds i true) a2 w)
    (hi : ops[i]? = some ⟨d, o, t, ps, af, gd⟩ := by (first | (simp only [List.getElem?_toArray, List.getElem?_cons_succ, List.getElem?_cons_zero]; rfl) | rfl)) (hs : Region.noSelect ops = true := by kernel_rfl) (hf : Region.free md ops listed i = true := by kernel_rfl) (hr : (Region.ready md ops listed).contains i = true := by kernel_rfl)
    (hw : Region.wanted ⟨d, o, t, ps, af, gd⟩ (yielded ops a.tmps) = true := by rfl) (hy : ∀ w, S w → (execOp a.eval ⟨d, o, t, ps, af, gd⟩).run P w = .ok (.value v) w := by (intro w hSw; (try dsimp only at hSw); go_simp; try with_reducible rfl)) (hS : S w := by assumption)
    (hQ : ∀ c a w, Q (.panic c) (a.put d v) w → Q (.panic c) a w := by exact fun _ _ _ h => h)
    (hp : a.put d v = a2 := by (first | (simp only [tp0, tp1, tp2, tp3, tp4]; done) | (simp only [tp0, tp1, tp2, tp3, tp4]; rfl) | rfl)) : wpAnyH P md ops Q S (fuel + 1) listed a w :=
  wpAnyH_take hi hs hf hr hQ (Or.inl ⟨hw, hy⟩) hS (by subst hp; exact h)
theorem tn (i : Nat) (h : wpAnyH P md ops Q S fuel (listed.setIfInBounds i true) a2 w)
    (hi : ops[i]? = some ⟨d, o, t, ps, af, gd⟩ := by (first | (simp only [List.getElem?_toArray, List.getElem?_cons_succ, List.getElem?_cons_zero]; rfl) | rfl)) (hs : Region.noSelect ops = true := by kernel_rfl) (hf : Region.free md ops listed i = true := by kernel_rfl) (hr : (Region.ready md ops listed).contains i = true := by kernel_rfl)
    (hw : Region.wanted ⟨d, o, t, ps, af, gd⟩ (yielded ops a.tmps) = false := by rfl) (hS : S w := by assumption)
    (hQ : ∀ c a w, Q (.panic c) (a.put d undef) w → Q (.panic c) a w := by exact fun _ _ _ h => h)
    (hp : a.put d undef = a2 := by (first | (simp only [tp0, tp1, tp2, tp3, tp4]; done) | (simp only [tp0, tp1, tp2, tp3, tp4]; rfl) | rfl)) : wpAnyH P md ops Q S (fuel + 1) listed a w :=
  wpAnyH_take hi hs hf hr hQ (Or.inr ⟨hw, rfl⟩) hS (by subst hp; exact h)
theorem rc {i : Nat} {rs : List Nat}
    (h : ∀ K' : Act → World → Prop, Shut (∀ a w, S w → (S w → wpAnyH P md ops Q S fuel (listed.setIfInBounds i true) a w) → K' a w) → if Region.wanted ⟨d, o, t, ps, af, gd⟩ (yielded ops a.tmps) = true then Oper.wp P ⟨d, o, t, ps, af, gd⟩ a w K' Q else K' (a.put d undef) w)
    (hs : AllReadyH P md ops Q S fuel listed a w rs) (hi : ops[i]? = some ⟨d, o, t, ps, af, gd⟩ := by (first | (simp only [List.getElem?_toArray, List.getElem?_cons_succ, List.getElem?_cons_zero]; rfl) | rfl)) : AllReadyH P md ops Q S fuel listed a w (i :: rs) := AllReadyH.cons hi h hs
theorem ry (i : Nat)
    (h : ∀ K' : Act → World → Prop, Shut (∀ a w, S w → (S w → wpAnyH P md ops Q S fuel (listed.setIfInBounds i true) a w) → K' a w) → if Region.wanted ⟨d, o, t, ps, af, gd⟩ (yielded ops a.tmps) = true then Oper.wp P ⟨d, o, t, ps, af, gd⟩ a w K' Q else K' (a.put d undef) w)
    (hr : Region.ready md ops listed = [i] := by kernel_rfl) (hi : ops[i]? = some ⟨d, o, t, ps, af, gd⟩ := by (first | (simp only [List.getElem?_toArray, List.getElem?_cons_succ, List.getElem?_cons_zero]; rfl) | rfl)) : wpAnyH P md ops Q S (fuel + 1) listed a w := wpAnyH_ready hr (by simp) (AllReadyH.cons hi h AllReadyH.nil)
theorem rl {i : Nat}
    (h : ∀ K' : Act → World → Prop, Shut (∀ a w, S w → (S w → wpAnyH P md ops Q S fuel (listed.setIfInBounds i true) a w) → K' a w) → if Region.wanted ⟨d, o, t, ps, af, gd⟩ (yielded ops a.tmps) = true then Oper.wp P ⟨d, o, t, ps, af, gd⟩ a w K' Q else K' (a.put d undef) w)
    (hi : ops[i]? = some ⟨d, o, t, ps, af, gd⟩ := by (first | (simp only [List.getElem?_toArray, List.getElem?_cons_succ, List.getElem?_cons_zero]; rfl) | rfl)) : AllReadyH P md ops Q S fuel listed a w [i] := AllReadyH.cons hi h AllReadyH.nil
end
end Go.Proofs.Ytchdempffkeaoaa
namespace Go.Proofs.Ytchdempffkeaoaa
open Go.RowKit
/-- Block cb is a cursor over a code of n bytes. -/
def Cur (w : World) (cb : Nat) (ao : Option Addr) (n cap : Nat) : Prop :=
  ∃ (i : Nat) (h : Int), i ≤ n ∧ w.heap[cb]? = some (.cells #[.slice ao n cap, .int .i64 (i : Int), .int .i64 h] 53 (0, 0))
/-- The code's bytes lie below block cb. -/
def Code (w : World) (cb : Nat) (ao : Option Addr) (n : Nat) : Prop :=
  0 < n → ∃ b off, ao = some ⟨b, off, none⟩ ∧ b < cb ∧ ∀ j, j < n → ∃ z : Nat, z < 256 ∧ w.cell? ⟨b, off + j, none⟩ = some (.int .u8 (z : Int))
theorem Code.later {w w' : World} {cb n : Nat} {ao : Option Addr} (h : Code w cb ao n) (hb : w.grownBy w' (some cb)) : Code w' cb ao n := by
  intro hn
  obtain ⟨b, off, h1, h2, h3⟩ := h hn
  refine ⟨b, off, h1, h2, fun j hj => ?_⟩
  obtain ⟨z, hz, hc⟩ := h3 j hj
  exact ⟨z, hz, hb.cell hc (by simp; omega)⟩
theorem Cur.alloc {w : World} {cb n cap : Nat} {ao : Option Addr} (h : Cur w cb ao n cap) (o : Obj) : Cur (w.alloc o) cb ao n cap := by
  obtain ⟨i, x, h1, h2⟩ := h
  exact ⟨i, x, h1, by rw [Below.heap_alloc w o cb (Array.getElem?_eq_some_iff.1 h2).1]; exact h2⟩
theorem Cur.lt {w : World} {cb n cap : Nat} {ao : Option Addr} (h : Cur w cb ao n cap) : cb < w.heap.size := by
  obtain ⟨i, x, h1, h2⟩ := h
  exact (Array.getElem?_eq_some_iff.1 h2).1
theorem only_set {w : World} {cb o : Nat} {u : Value} : w.grownBy (w.setCell ⟨cb, o, none⟩ u) (some cb) :=
  ⟨rfl, rfl, rfl, by simp [World.setCell], fun k _ hk => heap_setCell_other w ⟨cb, o, none⟩ k u (fun e => hk (by simp [e]))⟩
theorem only_trans {a b c : World} {r : Option Nat} (h : a.grownBy b r) (k : b.grownBy c r) : a.grownBy c r :=
  ⟨k.os.trans h.os, k.tape.trans h.tape, k.output.trans h.output, Nat.le_trans h.size k.size, fun i hi hr => (k.block i (Nat.lt_of_lt_of_le hi h.size) hr).trans (h.block i hi hr)⟩
theorem only_below {w w' : World} {cb B : Nat} (h : w.grownBy w' (some cb)) (hB : B ≤ cb) (hs : B ≤ w.heap.size) : Below B w w' :=
  ⟨h.os, h.tape, h.output, h.size, fun k hk => h.block k (by omega) (by simp; omega)⟩
theorem i64_and255 (n : Int) : bits .and .i64 n 255 = n % 256 := by
  have h255 : (BitVec.ofInt 64 255).toNat = 2 ^ 8 - 1 := by decide
  have key : (BitVec.ofInt 64 n &&& BitVec.ofInt 64 255).toNat = (n % ((2 ^ 64 : Nat) : Int)).toNat % 2 ^ 8 := by
    rw [BitVec.toNat_and, BitVec.toNat_ofInt, h255, Nat.and_two_pow_sub_one_eq_mod]
  show IntKind.i64.wrap ((BitVec.ofInt 64 n &&& BitVec.ofInt 64 255).toNat : Nat) = n % 256
  rw [key, IntKind.wrap_i64]
  omega
theorem and255 (n : Int) : ∃ x : Nat, x < 256 ∧ bits .and .i64 n 255 = (x : Int) := ⟨(n % 256).toNat, by omega, by rw [i64_and255]; omega⟩
set_option maxHeartbeats 400000 in
set_option maxRecDepth 100000 in
theorem byte_any (cb : Nat) (ao : Option Addr) (n cap : Nat) (w : World) (hn : n ≤ 1048576) (hcur : Cur w cb ao n cap) (hcode : Code w cb ao n) :
    Calls Try.prog 13 #[.pointer (some ⟨cb, 0, none⟩)] w fun e w' => ∃ x : Nat, x < 256 ∧ e = .returned (.int .i64 (x : Int)) ∧ Cur w' cb ao n cap ∧ w.grownBy w' (some cb) := by
  obtain ⟨i, h, hi, hblk⟩ := hcur
  have c0 := cell_of_row w cb 0 _ _ _ hblk
  have c1 := cell_of_row w cb 1 _ _ _ hblk
  have c2 := cell_of_row w cb 2 _ _ _ hblk
  have f1 := frozen_of_row w cb 1 _ _ hblk
  have f2 := frozen_of_row w cb 2 _ _ hblk
  simp at c0 c1 c2
  have HBLK := hide hblk
  have HCODE := hide hcode
  clear hblk hcode
  by_cases hlt : i < n
  · obtain ⟨b, off, hao, hbc, hz⟩ := unhide HCODE (by omega)
    obtain ⟨z, hzb, hcz⟩ := hz i hlt
    subst hao
    have hI : (0 : Int) ≤ (i : Int) ∧ (i : Int) < (n : Int) := by omega
    clear hz
    go_enter Try.func13, Try.ntmps13
    go_wp2_with fail
    generalize wrap64 (wrap64 (h * 6364136223846793005) + 1442695040888963407) = h1
    obtain ⟨w1, hw1⟩ : ∃ w1, w.setCell ⟨cb, 2, none⟩ (.int .i64 h1) = w1 := ⟨_, rfl⟩
    have hblk1 : w1.heap[cb]? = some (.cells #[.slice (some ⟨b, off, none⟩) n cap, .int .i64 (i : Int), .int .i64 h1] 53 (0, 0)) := by
      rw [← hw1]; exact heap_setCell_same w cb 2 _ _ _ (unhide HBLK)
    have hbel : w.grownBy w1 (some cb) := by rw [← hw1]; exact only_set
    rw [hw1]
    have d0 := cell_of_row w1 cb 0 _ _ _ hblk1
    have d1 := cell_of_row w1 cb 1 _ _ _ hblk1
    have d2 := cell_of_row w1 cb 2 _ _ _ hblk1
    have g1 := frozen_of_row w1 cb 1 _ _ hblk1
    simp at d0 d1 d2
    have dz : w1.cell? ⟨b, off + i, none⟩ = some (.int .u8 (z : Int)) := hbel.cell hcz (by simp; omega)
    have HBLK1 := hide hblk1
    have HBEL := hide hbel
    clear hblk1 hbel hw1 c0 c1 c2 f1 f2 hcz HBLK HCODE
    go_quiet (fail)
    obtain ⟨x0, hx0, hx0e⟩ := and255 (bits BinOp.xor IntKind.i64 (h1 / 8589934592) (h1 / 35184372088832))
    rw [hx0e]
    go_wp2_with fail
    go_quiet (fail)
    go_wp2_with fail
    go_quiet (fail)
    go_wp2_with fail
    obtain ⟨x1, hx1, hx1e⟩ := and255 ((x0 : Int) + (z : Int))
    go_ret
    refine ⟨x1, hx1, ret_int hx1e, ⟨i + 1, h1, hlt, ?_⟩, ?_⟩
    · rw [show (((i + 1 : Nat)) : Int) = (i : Int) + 1 from by omega]
      exact heap_setCell_same _ cb 1 _ _ _ (unhide HBLK1)
    · refine only_trans (b := w1.drewN 0) ⟨(unhide HBEL).os, (unhide HBEL).tape, (unhide HBEL).output, (unhide HBEL).size, (unhide HBEL).block⟩ ?_
      exact ⟨rfl, rfl, rfl, by simp [World.setCell], fun k _ hk => heap_setCell_other w1 ⟨cb, 1, none⟩ k _ (fun e => hk (by simp [e]))⟩
  · go_enter Try.func13, Try.ntmps13
    go_wp2_with fail
    generalize wrap64 (wrap64 (h * 6364136223846793005) + 1442695040888963407) = h1
    obtain ⟨w1, hw1⟩ : ∃ w1, w.setCell ⟨cb, 2, none⟩ (.int .i64 h1) = w1 := ⟨_, rfl⟩
    have hblk1 : w1.heap[cb]? = some (.cells #[.slice ao n cap, .int .i64 (i : Int), .int .i64 h1] 53 (0, 0)) := by
      rw [← hw1]; exact heap_setCell_same w cb 2 _ _ _ (unhide HBLK)
    have hbel : w.grownBy w1 (some cb) := by rw [← hw1]; exact only_set
    rw [hw1]
    have d0 := cell_of_row w1 cb 0 _ _ _ hblk1
    have d1 := cell_of_row w1 cb 1 _ _ _ hblk1
    have d2 := cell_of_row w1 cb 2 _ _ _ hblk1
    simp at d0 d1 d2
    have HBLK1 := hide hblk1
    have HBEL := hide hbel
    clear hblk1 hbel hw1 c0 c1 c2 f1 f2 HBLK HCODE
    go_quiet (fail)
    obtain ⟨x0, hx0, hx0e⟩ := and255 (bits BinOp.xor IntKind.i64 (h1 / 8589934592) (h1 / 35184372088832))
    rw [hx0e]
    go_wp2_with fail
    go_quiet (fail)
    go_wp2_with fail
    go_ret
    exact ⟨x0, hx0, rfl, ⟨i, h1, hi, unhide HBLK1⟩, ⟨(unhide HBEL).os, (unhide HBEL).tape, (unhide HBEL).output, (unhide HBEL).size, (unhide HBEL).block⟩⟩
set_option maxHeartbeats 400000 in
theorem below_any (cb : Nat) (ao : Option Addr) (n cap m : Nat) (w : World) (hn : n ≤ 1048576) (hcur : Cur w cb ao n cap) (hcode : Code w cb ao n) (hm : 0 < m) (hm2 : m ≤ 4294967296) :
    Calls Try.prog 14 #[.pointer (some ⟨cb, 0, none⟩), .int .i64 (m : Int)] w fun e w' => ∃ x : Nat, x < m ∧ e = .returned (.int .i64 (x : Int)) ∧ Cur w' cb ao n cap ∧ w.grownBy w' (some cb) := by
  have HC := hide hcur
  have HO := hide hcode
  clear hcur hcode
  have hm0 : ¬ (m : Int) = 0 := by omega
  by_cases h2 : m ≤ 256
  · go_enter Try.func14, Try.ntmps14
    go_wp2_with fail
    refine (byte_any cb ao n cap _ hn (unhide HC) (unhide HO)).mono ?_; rintro e w1 ⟨x, hx, rfl, hc1, hb1⟩
    have HC1 := hide hc1
    clear hc1
    go_wp2
    go_ret
    exact ⟨x % m, Nat.mod_lt _ hm, ret_int (by simp), unhide HC1, hb1⟩
  · go_enter Try.func14, Try.ntmps14
    go_wp2_with fail
    refine (byte_any cb ao n cap _ hn (unhide HC) (unhide HO)).mono ?_; rintro e w1 ⟨x, hx, rfl, hc1, hb1⟩
    have HC1 := hide hc1
    clear hc1
    go_wp2_with fail
    refine (byte_any cb ao n cap _ hn (unhide HC1) ((unhide HO).later hb1)).mono ?_; rintro e w2 ⟨y, hy, rfl, hc2, hb2⟩
    have HC2 := hide hc2
    have hb12 := only_trans hb1 hb2
    clear hc2
    go_wp2_with fail
    refine (byte_any cb ao n cap _ hn (unhide HC2) ((unhide HO).later hb12)).mono ?_; rintro e w3 ⟨z, hz, rfl, hc3, hb3⟩
    have HC3 := hide hc3
    have hb13 := only_trans hb12 hb3
    clear hc3
    go_wp2_with fail
    refine (byte_any cb ao n cap _ hn (unhide HC3) ((unhide HO).later hb13)).mono ?_; rintro e w4 ⟨v, hv, rfl, hc4, hb4⟩
    have HC4 := hide hc4
    have hb14 := only_trans hb13 hb4
    clear hc4
    go_wp2
    go_ret
    exact ⟨(x * 16777216 + y * 65536 + z * 256 + v) % m, Nat.mod_lt _ hm, ret_int (by simp), unhide HC4, hb14⟩
theorem below4 (cb : Nat) (ao : Option Addr) (n cap : Nat) (w : World) (hn : n ≤ 1048576) (hcur : Cur w cb ao n cap) (hcode : Code w cb ao n) (m : Int) (hm : 0 < m) (hm2 : m ≤ 4294967296) :
    Calls Try.prog 14 #[.pointer (some ⟨cb, 0, none⟩), .int .i64 m] w fun e w' => ∃ x : Nat, (x : Int) < m ∧ e = .returned (.int .i64 (x : Int)) ∧ Cur w' cb ao n cap ∧ w.grownBy w' (some cb) := by
  obtain ⟨k, rfl⟩ : ∃ k : Nat, m = k := ⟨m.toNat, by omega⟩
  refine (below_any cb ao n cap k w hn hcur hcode (by omega) (by omega)).mono ?_
  rintro e w' ⟨x, h1, h2, h3, h4⟩
  exact ⟨x, by omega, h2, h3, h4⟩
set_option maxHeartbeats 400000 in
set_option maxRecDepth 100000 in
theorem new_any (ao : Option Addr) (n cap : Nat) (w : World) (hn : n ≤ 1048576) (hcode : Code w w.heap.size ao n) :
    Calls Try.prog 12 #[.slice ao n cap] w fun e w' => e = .returned (.pointer (some ⟨w.heap.size, 0, none⟩)) ∧ Cur w' w.heap.size ao n cap ∧ Code w' w.heap.size ao n ∧ Below w.heap.size w w' := by
  have HO := hide hcode
  clear hcode
  go_enter Try.func12, Try.ntmps12
  go_wp2
  go_loop [3, 4] (fun hv iv => ∃ (h : Int) (i : Nat), i ≤ n ∧ hv = .int .i64 h ∧ iv = .int .i64 (i : Int)) (fun _ iv => n - (intOf iv).toNat)
  case atStart => exact ⟨_, 0, Nat.zero_le _, rfl, rfl⟩
  case round =>
    obtain ⟨h, i, hi, rfl, rfl⟩ := hrel
    by_cases hlt : i < n
    · by_cases h4 : i < 4000
      · obtain ⟨b, off, hao, hbc, hz⟩ := unhide HO (by omega)
        obtain ⟨z, hzb, hcz⟩ := hz i hlt
        subst hao
        have hI : (0 : Int) ≤ (i : Int) ∧ (i : Int) < (n : Int) := by omega
        clear hz
        go_wp2
        go_round
        case rel => exact ⟨_, i + 1, by omega, rfl, by go_num⟩
        case measure => simp [intOf]; omega
      · go_wp2
        go_ret
        refine ⟨rfl, ⟨0, h, Nat.zero_le _, heap_alloc_new w _⟩, (unhide HO).later (World.grownBy_alloc _ _ _), (Below.refl _ _).alloc (Nat.le_refl _) _⟩
    · go_wp2
      go_ret
      refine ⟨rfl, ⟨0, h, Nat.zero_le _, heap_alloc_new w _⟩, (unhide HO).later (World.grownBy_alloc _ _ _), (Below.refl _ _).alloc (Nat.le_refl _) _⟩
end Go.Proofs.Ytchdempffkeaoaa
namespace Go.Proofs.Ytchdempffkeaoaa
open Go.RowKit
theorem only_add {w w1 w2 : World} {cb : Nat} (h : w.grownBy w1 (some cb)) (k : Below w.heap.size w1 w2) : w.grownBy w2 (some cb) :=
  ⟨k.os.trans h.os, k.tape.trans h.tape, k.output.trans h.output, Nat.le_trans h.size k.size, fun i hi hr => (k.block i hi).trans (h.block i hi hr)⟩
theorem Cur.later {w1 w2 : World} {B cb n cap : Nat} {ao : Option Addr} (h : Cur w1 cb ao n cap) (k : Below B w1 w2) (hB : cb < B) : Cur w2 cb ao n cap := by
  obtain ⟨i, x, h1, h2⟩ := h
  exact ⟨i, x, h1, by rw [k.block cb hB]; exact h2⟩
end Go.Proofs.Ytchdempffkeaoaa
namespace Go.Proofs.Ytchdempffkeaoaa
open Go.RowKit
theorem Try.info3 : (Try.prog.info? 3).map (fun i => (i.zero, i.size, i.bytes)) = some (some (.int .i64 0), 1, 8) := by kernel_rfl
/-- A number as an int's cell. -/
def ic (z : Nat) : Value := .int .i64 (z : Int)
theorem wpList_append_nat {P : Program} (w : World) {ops : Array Oper} {rest : List Oper} {o : Oper} {a : Act} {Q : Exit → Act → World → Prop} (hgd : o.guard = none) (s x : Operand) (t : TypeId)
    (ho : o.op = .call { callee := .builtin .append, args := #[s, x], argTypes := #[t, t] })
    (base : Nat) (e : TypeId) (hinfo : (P.info? e).map (fun i => (i.zero, i.size, i.bytes)) = some (some (.int .i64 0), 1, 8)) (ht : P.underlying t = some (.slice e))
    (v : Value) (bs : List Nat) (hs : a.eval s = v) (hown : w.ownsRow base e 1 v bs.length (bs.map ic)) (n : Int) (b : Nat) (hb : n = (b : Int))
    (hx : a.eval x = .slice (some ⟨w.heap.size, 0, none⟩) 1 1) (hlen : bs.length ≤ 1000000) (hbase : base ≤ w.heap.size)
    (h : ∀ v' w', w'.ownsRow base e 1 v' (bs ++ [b]).length ((bs ++ [b]).map ic) → Below base w w' → wpList P ops Q rest (a.put o.dst v') w') :
    wpList P ops Q (o :: rest) a (w.alloc (.cells #[.int .i64 n] e)) := by
  obtain ⟨i0, hi, hz0, hz1, hz2⟩ := info_parts hinfo
  subst hb
  refine wpList_append_own _ hgd s x t ho base e i0 (.int .i64 0) 1 8 ht hi hz0 hz1 hz2 rfl (by decide) v _ _ hs (hown.alloc _) ⟨w.heap.size, 0, none⟩ 1 1 [ic b] hx rfl (cell_one_new _ _ _) (by intro u hu; simp at hu; subst hu; rfl) (by unfold maxLen; omega) (by omega) (by simp; omega) ?_
  intro v' w' hown' hg _
  refine h v' w' (by simpa using hown') (((Below.refl base w).alloc hbase _).grown hg (by simp; omega) (fun k hk => (hown.lt k hk).1))
end Go.Proofs.Ytchdempffkeaoaa
namespace Go.Proofs.Ytchdempffkeaoaa
open Go.RowKit
theorem Cur.set {w : World} {cb n cap k o : Nat} {ao : Option Addr} {u : Value} (h : Cur w cb ao n cap) (hk : k ≠ cb) : Cur (w.setCell ⟨k, o, none⟩ u) cb ao n cap := by
  obtain ⟨i, x, h1, h2⟩ := h
  exact ⟨i, x, h1, by rw [Below.heap_setCell _ _ _ _ (fun e => hk e.symm)]; exact h2⟩
theorem Cur.drew {w : World} {cb n cap : Nat} {ao : Option Addr} (h : Cur w cb ao n cap) : Cur w.drew cb ao n cap := h
theorem hid {p : Prop} (h : p) : Hid p := h
/-- A register as three numbers: its value, its stamp's time, its stamp's server. -/
abbrev R3 := Int × Int × Int
theorem own_base {w : World} {B B' e size n : Nat} {v : Value} {xs : List Value} (h : w.ownsRow B' e size v n xs) (hB : B ≤ B') : w.ownsRow B e size v n xs :=
  ⟨h.1, h.2.imp id (fun ⟨g, cap, cur, a, b, c⟩ => ⟨g, cap, cur, a, Nat.le_trans hB b, c⟩)⟩
end Go.Proofs.Ytchdempffkeaoaa
namespace Go.Proofs.Ytchdempffkeaoaa
open Go.RowKit
end Go.Proofs.Ytchdempffkeaoaa
namespace Go.Proofs.Ytchdempffkeaoaa
open Go.RowKit
theorem wtr {a b c : World} {r : Option Nat} (h : a.grownBy b r) (k : b.grownBy c r) : a.grownBy c r :=
  ⟨k.os.trans h.os, k.tape.trans h.tape, k.output.trans h.output, Nat.le_trans h.size k.size, fun i hi hr => (k.block i (Nat.lt_of_lt_of_le hi h.size) hr).trans (h.block i hi hr)⟩
theorem wre (a : World) (r : Option Nat) : a.grownBy a r := ⟨rfl, rfl, rfl, Nat.le_refl _, fun _ _ _ => rfl⟩
theorem wst {a w : World} {g : Nat} (h : a.grownBy w (some g)) (i : Nat) (u : Value) : a.grownBy (w.setCell ⟨g, i, none⟩ u) (some g) :=
  wtr h ⟨rfl, rfl, rfl, by simp [World.setCell], fun k _ hk => Below.heap_setCell _ _ _ _ (fun e => hk (by simpa using e))⟩
theorem below_of_grown {B g : Nat} {a w : World} (h : a.grownBy w (some g)) (hB : B ≤ g) (hs : B ≤ a.heap.size) : Below B a w :=
  ⟨h.os, h.tape, h.output, h.size, fun k hk => h.block k (by omega) (by simp; omega)⟩
end Go.Proofs.Ytchdempffkeaoaa
namespace Go.Proofs.Ytchdempffkeaoaa
open Go.RowKit
end Go.Proofs.Ytchdempffkeaoaa
namespace Go.Proofs.Ytchdempffkeaoaa
open Go.RowKit
end Go.Proofs.Ytchdempffkeaoaa
namespace Go.Proofs.Ytchdempffkeaoaa
open Go.RowKit
end Go.Proofs.Ytchdempffkeaoaa
namespace Go.Proofs.Ytchdempffkeaoaa
open Go.RowKit
theorem addr_add (k o j : Nat) : (⟨k, o, none⟩ : Addr).add j = ⟨k, o + j, none⟩ := by unfold Addr.add; split <;> simp_all
end Go.Proofs.Ytchdempffkeaoaa
namespace Go.Proofs.Ytchdempffkeaoaa
open Go.RowKit
end Go.Proofs.Ytchdempffkeaoaa
namespace Go.Proofs.Ytchdempffkeaoaa
open Go.RowKit
/-- A drawn flag: 0 or 1, its stamp right. -/
def gd (p : R3) : Prop := (0 ≤ p.1 ∧ p.1 < 2) ∧ 0 ≤ p.2.1 ∧ p.2.1 < 12 ∧ 1 ≤ p.2.2 ∧ p.2.2 ≤ 2
end Go.Proofs.Ytchdempffkeaoaa
namespace Go.Proofs.Ytchdempffkeaoaa
open Go.RowKit
end Go.Proofs.Ytchdempffkeaoaa
namespace Go.Proofs.Ytchdempffkeaoaa
open Go.RowKit
/-- A list of three. -/
theorem three {l : List R3} (h : l.length = 3) : ∃ p q r, l = [p, q, r] := by
  match l, h with
  | [p, q, r], _ => exact ⟨p, q, r, rfl⟩
theorem bdn {B : Nat} {w w1 : World} (h : Below B w w1) (k : Nat) : Below B w (w1.drewN k) := ⟨h.os, h.tape, h.output, h.size, h.block⟩
end Go.Proofs.Ytchdempffkeaoaa
namespace Go.Proofs.Ytchdempffkeaoaa
open Go.RowKit
end Go.Proofs.Ytchdempffkeaoaa
namespace Go.Proofs.Ytchdempffkeaoaa
open Go.RowKit
end Go.Proofs.Ytchdempffkeaoaa
namespace Go.Proofs.Ytchdempffkeaoaa
open Go.RowKit
end Go.Proofs.Ytchdempffkeaoaa
namespace Go.Proofs.Ytchdempffkeaoaa
open Go.RowKit
end Go.Proofs.Ytchdempffkeaoaa
namespace Go.Proofs.Ytchdempffkeaoaa
open Go.RowKit
end Go.Proofs.Ytchdempffkeaoaa
namespace Go.Proofs.Ytchdempffkeaoaa
open Go.RowKit
theorem below_grownR {B : Nat} {a w : World} {r : Option Nat} (h : a.grownBy w r) (hB : ∀ j, r = some j → B ≤ j) (hs : B ≤ a.heap.size) : Below B a w :=
  ⟨h.os, h.tape, h.output, h.size, fun k hk => h.block k (by omega) (fun e => by have := hB k e.symm; omega)⟩
end Go.Proofs.Ytchdempffkeaoaa
namespace Go.Proofs.Ytchdempffkeaoaa
open Go.RowKit
end Go.Proofs.Ytchdempffkeaoaa
namespace Go.Proofs.Ytchdempffkeaoaa
open Go.RowKit
end Go.Proofs.Ytchdempffkeaoaa
namespace Go.Proofs.Ytchdempffkeaoaa
open Go.RowKit
theorem data_len (s : ByteArray) : s.data.toList.length = s.size := Array.length_toList
end Go.Proofs.Ytchdempffkeaoaa
namespace Go.Proofs.Ytchdempffkeaoaa
open Go.RowKit Go.ChangeMaps
theorem cell_sameT {w w' : World} {p : Addr} (h : w'.heap[p.block]? = w.heap[p.block]?) : w'.cell? p = w.cell? p := by unfold World.cell?; rw [h]
/-- The slice of address a is the texts of G, in blocks from lo on, below hi. -/
def Ss (lo hi : Nat) (W : World) (a : Option Addr) (G : List ByteArray) : Prop :=
  hi ≤ W.heap.size ∧ ∀ i (h : i < G.length), ∃ k o, a = some ⟨k, o, none⟩ ∧ lo ≤ k ∧ k < hi ∧ W.cell? ⟨k, o + i, none⟩ = some (.string G[i])
theorem Ss.same {lo hi : Nat} {W W' : World} {a : Option Addr} {G : List ByteArray} (h : Ss lo hi W a G) (hs : hi ≤ W'.heap.size) (hk : ∀ k, lo ≤ k → k < hi → W'.heap[k]? = W.heap[k]?) : Ss lo hi W' a G := by
  refine ⟨hs, fun i hi' => ?_⟩
  obtain ⟨k, o, h1, h2, h3, c⟩ := h.2 i hi'
  exact ⟨k, o, h1, h2, h3, (cell_sameT (p := ⟨k, _, none⟩) (hk k h2 h3)).trans c⟩
theorem Ss.later {lo hi : Nat} {W W' : World} {a : Option Addr} {G : List ByteArray} (h : Ss lo hi W a G) (hb : Below W.heap.size W W') : Ss lo hi W' a G :=
  h.same (Nat.le_trans h.1 hb.size) (fun k _ hk => hb.block k (Nat.lt_of_lt_of_le hk h.1))
theorem Ss.at {lo hi : Nat} {W : World} {a : Option Addr} {G : List ByteArray} (h : Ss lo hi W a G) {i : Nat} (hi' : i < G.length) : ∃ k o, a = some ⟨k, o, none⟩ ∧ k < W.heap.size ∧ W.cell? ⟨k, o + i, none⟩ = some (.string G[i]) := by
  obtain ⟨k, o, e1, e2, e3, e4⟩ := h.2 i hi'
  exact ⟨k, o, e1, Nat.lt_of_lt_of_le e3 h.1, e4⟩
/-- A row of texts that a call owns. -/
abbrev OwV (W : World) (B : Nat) (v : Value) (G : List ByteArray) : Prop := W.ownsRow B 9 1 v G.length (G.map (Value.string))
theorem OwV.is {W : World} {B n c : Nat} {a : Option Addr} {G : List ByteArray} (h : OwV W B (.slice a n c) G) : n = G.length ∧ Ss B W.heap.size W a G := by
  have hw := h
  rcases h.2 with ⟨h1, h2⟩ | ⟨g, cap, cur, h1, h2, h3, h4, h5, h6, h7⟩
  · simp only [Value.slice.injEq] at h1
    exact ⟨by omega, Nat.le_refl _, fun i hi => by omega⟩
  · simp only [Value.slice.injEq] at h1
    obtain ⟨rfl, rfl, rfl⟩ := h1
    refine ⟨rfl, Nat.le_refl _, fun i hi => ⟨g, 0, rfl, h2, (Array.getElem?_eq_some_iff.1 h3).1, ?_⟩⟩
    simp only [Nat.zero_add]
    rw [hw.cellAt i (by omega), List.getElem?_map, List.getElem?_eq_getElem hi]
    rfl
theorem OwV.shape {W : World} {B : Nat} {v : Value} {G : List ByteArray} (h : OwV W B v G) : ∃ a c, v = .slice a G.length c ∧ (a = none → c = 0) := by
  rcases h.2 with ⟨h1, h2⟩ | ⟨g, cap, cur, h1, _⟩
  · exact ⟨none, 0, by rw [h1, h2], fun _ => rfl⟩
  · exact ⟨_, _, h1, fun h => by simp at h⟩
theorem OwV.stored {W : World} {B g n c : Nat} {G : List ByteArray} (h : OwV W B (.slice (some ⟨g, 0, none⟩) n c) G) (i : Nat) (x : ByteArray) :
    OwV (W.setCell ⟨g, i, none⟩ (.string x)) B (.slice (some ⟨g, 0, none⟩) n c) (G.set i x) := by
  obtain rfl := (OwV.is h).1
  have h1 := (World.ownsRow.stored h i (.string x)).1
  rw [← List.map_set] at h1
  simpa [OwV] using h1
theorem info_str17 : (Try.prog.info? 9).map (fun i => (i.zero, i.size, i.bytes)) = some (some (.string ⟨#[]⟩), 1, 16) := by kernel_rfl
theorem OwV.later {w w' : World} {B : Nat} {v : Value} {l : List ByteArray} (h : OwV w B v l) (hb : Below w.heap.size w w') : OwV w' B v l :=
  World.ownsRow.kept (row := none) h ⟨hb.os, hb.tape, hb.output, hb.size, fun k hk _ => hb.block k hk⟩ (by cases v.ownBlock <;> simp)
theorem gof {w w' : World} (r : Option Nat) (hb : Below w.heap.size w w') : w.grownBy w' r := ⟨hb.os, hb.tape, hb.output, hb.size, fun k hk _ => hb.block k hk⟩
/-- Block k holds a link. -/
def Lk (W : World) (k ty : Nat) (ep : Int) (gv : Value) (nx wt : Int) : Prop := W.heap[k]? = some (.cells #[.int .i64 ep, gv, .int .i64 nx, .int .i64 wt] ty (0, 0))
section
variable {W W' : World} {k ty : Nat} {ep nx wt : Int} {gv : Value}
theorem Lk.new (w : World) (ty : Nat) (ep : Int) (gv : Value) (nx wt : Int) : Lk (w.alloc (.cells #[.int .i64 ep, gv, .int .i64 nx, .int .i64 wt] ty)) w.heap.size ty ep gv nx wt := heap_alloc_new w _
theorem Lk.lt (h : Lk W k ty ep gv nx wt) : k < W.heap.size := (Array.getElem?_eq_some_iff.1 h).1
theorem Lk.later (h : Lk W k ty ep gv nx wt) (hb : Below W.heap.size W W') : Lk W' k ty ep gv nx wt := (hb.block k h.lt).trans h
theorem Lk.grown {r : Option Nat} (h : Lk W k ty ep gv nx wt) (hg : W.grownBy W' r) (hk : some k ≠ r) : Lk W' k ty ep gv nx wt := (hg.block k h.lt hk).trans h
theorem Lk.cells (h : Lk W k ty ep gv nx wt) : W.cell? ⟨k, 0, none⟩ = some (.int .i64 ep) ∧ W.cell? ⟨k, 1, none⟩ = some gv ∧ W.cell? ⟨k, 2, none⟩ = some (.int .i64 nx) ∧ W.cell? ⟨k, 3, none⟩ = some (.int .i64 wt) :=
  ⟨cell_of_row W k 0 _ _ _ h, cell_of_row W k 1 _ _ _ h, cell_of_row W k 2 _ _ _ h, cell_of_row W k 3 _ _ _ h⟩
theorem Lk.loose (h : Lk W k ty ep gv nx wt) : W.frozen? ⟨k, 0, none⟩ = false ∧ W.frozen? ⟨k, 1, none⟩ = false ∧ W.frozen? ⟨k, 2, none⟩ = false ∧ W.frozen? ⟨k, 3, none⟩ = false :=
  ⟨frozen_of_row W k 0 _ _ h, frozen_of_row W k 1 _ _ h, frozen_of_row W k 2 _ _ h, frozen_of_row W k 3 _ _ h⟩
theorem Lk.s0 (h : Lk W k ty ep gv nx wt) (x : Int) : Lk (W.setCell ⟨k, 0, none⟩ (.int .i64 x)) k ty x gv nx wt := heap_setCell_same W k 0 _ _ _ h
theorem Lk.s1 (h : Lk W k ty ep gv nx wt) (x : Value) : Lk (W.setCell ⟨k, 1, none⟩ x) k ty ep x nx wt := heap_setCell_same W k 1 _ _ _ h
theorem Lk.s2 (h : Lk W k ty ep gv nx wt) (x : Int) : Lk (W.setCell ⟨k, 2, none⟩ (.int .i64 x)) k ty ep gv x wt := heap_setCell_same W k 2 _ _ _ h
theorem Lk.s3 (h : Lk W k ty ep gv nx wt) (x : Int) : Lk (W.setCell ⟨k, 3, none⟩ (.int .i64 x)) k ty ep gv nx x := heap_setCell_same W k 3 _ _ _ h
end
/-- A block's four cells, all put. -/
def putL (W : World) (k : Nat) (ep : Int) (gv : Value) (nx wt : Int) : World := (((W.setCell ⟨k, 0, none⟩ (.int .i64 ep)).setCell ⟨k, 1, none⟩ gv).setCell ⟨k, 2, none⟩ (.int .i64 nx)).setCell ⟨k, 3, none⟩ (.int .i64 wt)
theorem Lk.put {W : World} {k ty : Nat} {e0 n0 w0 : Int} {gv0 : Value} (h : Lk W k ty e0 gv0 n0 w0) (ep : Int) (gv : Value) (nx wt : Int) : Lk (putL W k ep gv nx wt) k ty ep gv nx wt := (((h.s0 ep).s1 gv).s2 nx).s3 wt
theorem putL_grown (W : World) (k : Nat) (ep : Int) (gv : Value) (nx wt : Int) : W.grownBy (putL W k ep gv nx wt) (some k) := wst (wst (wst (wst (wre W (some k)) 0 _) 1 _) 2 _) 3 _
abbrev lkv (ep : Int) (gv : Value) (nx wt : Int) : Value := .agg #[.int .i64 ep, gv, .int .i64 nx, .int .i64 wt]
abbrev lk0 : Array Value := #[.int .i64 0, .slice none 0 0, .int .i64 0, .int .i64 0]
theorem OwV.grown {W W' : World} {B k : Nat} {v : Value} {G : List ByteArray} (h : OwV W B v G) (hg : W.grownBy W' (some k)) (hk : k < B) : OwV W' B v G :=
  World.ownsRow.kept h hg (by
    cases hv : v.ownBlock with
    | none => exact Or.inl rfl
    | some j => exact Or.inr (fun e => by have := (World.ownsRow.lt h j hv).1; simp at e; omega))
theorem own_off17 {W W' : World} {B : Nat} {r : Option Nat} {v : Value} {G : List ByteArray} (h : OwV W B v G) (hg : W.grownBy W' r) (hk : ∀ j, v.ownBlock = some j → r ≠ some j) : OwV W' B v G := World.ownsRow.kept h hg (by
  cases hv : Value.ownBlock v with
  | none => exact Or.inl rfl
  | some j => exact Or.inr (fun e => hk j hv e.symm))
theorem ss_all17 {lo hi : Nat} {W : World} {ad : Addr} {G : List ByteArray} (h : Ss lo hi W (some ad) G) : ∀ j u, (G.map Value.string)[j]? = some u → W.cell? (ad.add j) = some u := by
  intro j u hu
  have hj : j < G.length := by have := (List.getElem?_eq_some_iff.1 hu).1; simpa using this
  obtain ⟨k, o, h1, _, hc⟩ := h.at hj
  simp only [Option.some.injEq] at h1
  subst h1
  rw [addr_add, hc]
  rw [List.getElem?_map, List.getElem?_eq_getElem hj] at hu
  simpa using hu
theorem str_one17 (G : List ByteArray) : ∀ u ∈ G.map Value.string, u.oneCell' = true := by
  intro u hu
  obtain ⟨x, _, rfl⟩ := List.mem_map.1 hu
  rfl
theorem ownV_empty17 (W : World) (B : Nat) (hB : B ≤ W.heap.size) : OwV (W.alloc (.cells #[] 9)) B (.slice (some ⟨W.heap.size, 0, none⟩) 0 0) [] :=
  World.ownsRow_lit (base := B) (e := 9) (size := 1) W #[] 0 hB (by unfold maxLen; omega) rfl
theorem info_parts17 {x : Option TypeInfo} {a : Option Value} {b c : Nat} (h : x.map (fun i => (i.zero, i.size, i.bytes)) = some (a, b, c)) : ∃ i, x = some i ∧ i.zero = a ∧ i.size = b ∧ i.bytes = c := by
  cases x with
  | none => cases h
  | some i => simp only [Option.map_some, Option.some.injEq, Prod.mk.injEq] at h; exact ⟨i, rfl, h⟩
/-- A row of texts appended to a row of one's own, as one step of a region that draws its order. -/
theorem step_append_strs17 {ops : Array Oper} {o : Oper} {a : Act} {w : World} {K : Act → World → Prop} {Q : Exit → Act → World → Prop} {E : Prop}
    (hg : o.guard = none) (s x : Operand) (hop : o.op = Op.call { callee := Callee.builtin Builtin.append, args := #[s, x], argTypes := #[26, 26] })
    (B : Nat) (v : Value) (L : List ByteArray) (hs : a.eval s = v) (hown : OwV w B v L) (ad : Addr) (n c : Nat) (G : List ByteArray)
    (hx : a.eval x = .slice (some ad) n c) (hl : G.length = n) (hG : ∀ j u, (G.map Value.string)[j]? = some u → w.cell? (ad.add j) = some u) (hlen : L.length ≤ 2000000) (hlen2 : n ≤ 2000000) (hB : B ≤ w.heap.size)
    (hK : ∀ v' w', OwV w' B v' (L ++ G) → w.grownBy w' v.ownBlock → K (a.put o.dst v') w') :
    if Region.wanted o (yielded ops a.tmps) = true then Oper.wp Try.prog o a w K Q else E := by
  have hw : Region.wanted o (yielded ops a.tmps) = true := by simp [Region.wanted, hg]
  rw [if_pos hw]
  obtain ⟨i0, hi, hz0, hz1, hz2⟩ := info_parts17 info_str17
  obtain ⟨v', w', hr, h2, h3, h4, h5⟩ := run_append_own_at (P := Try.prog) w B 26 o.type 9 i0 (.string ⟨#[]⟩) 1 16 Try.underlying26 hi hz0 hz1 hz2 rfl (by decide) v _ _ hown ad n c (G.map Value.string) (by rw [List.length_map, hl, Nat.mul_one]) hG (str_one17 G) (by unfold maxLen; omega) (by omega) hB
  unfold Oper.wp execOp
  simp only [hop, resolve, invoke, builtin, Sem.run_bind, Sem.run_pure, Result.andThen_ok, List.map_toArray, List.map_cons, List.map_nil, hs, hx, hr]
  exact hK v' w' (by unfold OwV; rw [List.length_append, List.map_append, hl]; exact h2) h3
/-- Whether a text is put on the way. -/
def lpo (gn : Nat) (t : ByteArray) : Bool := decide (gn < 60) && (decide (1 ≤ t.size) && decide (t.size ≤ 400))
def lpw (G : List ByteArray) (t : ByteArray) : List ByteArray := if lpo G.length t = true then G ++ [t] else G
abbrev pkv (e s a : Int) (t : ByteArray) : Value := .agg #[.int .i64 e, .int .i64 s, .int .i64 a, .string t]
/-- Block k holds a packet. -/
def Pk (W : World) (k ty : Nat) (e s a : Int) (t : ByteArray) : Prop := W.heap[k]? = some (.cells #[.int .i64 e, .int .i64 s, .int .i64 a, .string t] ty (0, 0))
section
variable {W W' : World} {k ty : Nat} {e s a : Int} {t : ByteArray}
theorem Pk.new (w : World) (ty : Nat) (e s a : Int) (t : ByteArray) : Pk (w.alloc (.cells #[.int .i64 e, .int .i64 s, .int .i64 a, .string t] ty)) w.heap.size ty e s a t := heap_alloc_new w _
theorem Pk.lt (h : Pk W k ty e s a t) : k < W.heap.size := (Array.getElem?_eq_some_iff.1 h).1
theorem Pk.later (h : Pk W k ty e s a t) (hb : Below W.heap.size W W') : Pk W' k ty e s a t := (hb.block k h.lt).trans h
theorem Pk.grown {r : Option Nat} (h : Pk W k ty e s a t) (hg : W.grownBy W' r) (hk : some k ≠ r) : Pk W' k ty e s a t := (hg.block k h.lt hk).trans h
theorem Pk.cells (h : Pk W k ty e s a t) : W.cell? ⟨k, 0, none⟩ = some (.int .i64 e) ∧ W.cell? ⟨k, 1, none⟩ = some (.int .i64 s) ∧ W.cell? ⟨k, 2, none⟩ = some (.int .i64 a) ∧ W.cell? ⟨k, 3, none⟩ = some (.string t) :=
  ⟨cell_of_row W k 0 _ _ _ h, cell_of_row W k 1 _ _ _ h, cell_of_row W k 2 _ _ _ h, cell_of_row W k 3 _ _ _ h⟩
theorem Pk.loose (h : Pk W k ty e s a t) : W.frozen? ⟨k, 0, none⟩ = false ∧ W.frozen? ⟨k, 1, none⟩ = false ∧ W.frozen? ⟨k, 2, none⟩ = false ∧ W.frozen? ⟨k, 3, none⟩ = false :=
  ⟨frozen_of_row W k 0 _ _ h, frozen_of_row W k 1 _ _ h, frozen_of_row W k 2 _ _ h, frozen_of_row W k 3 _ _ h⟩
theorem Pk.s0 (h : Pk W k ty e s a t) (x : Int) : Pk (W.setCell ⟨k, 0, none⟩ (.int .i64 x)) k ty x s a t := heap_setCell_same W k 0 _ _ _ h
theorem Pk.s1 (h : Pk W k ty e s a t) (x : Int) : Pk (W.setCell ⟨k, 1, none⟩ (.int .i64 x)) k ty e x a t := heap_setCell_same W k 1 _ _ _ h
theorem Pk.s2 (h : Pk W k ty e s a t) (x : Int) : Pk (W.setCell ⟨k, 2, none⟩ (.int .i64 x)) k ty e s x t := heap_setCell_same W k 2 _ _ _ h
theorem Pk.s3 (h : Pk W k ty e s a t) (x : ByteArray) : Pk (W.setCell ⟨k, 3, none⟩ (.string x)) k ty e s a x := heap_setCell_same W k 3 _ _ _ h
end
def putP (W : World) (k : Nat) (e s a : Int) (t : ByteArray) : World := (((W.setCell ⟨k, 0, none⟩ (.int .i64 e)).setCell ⟨k, 1, none⟩ (.int .i64 s)).setCell ⟨k, 2, none⟩ (.int .i64 a)).setCell ⟨k, 3, none⟩ (.string t)
theorem Pk.put {W : World} {k ty : Nat} {e0 s0 a0 : Int} {t0 : ByteArray} (h : Pk W k ty e0 s0 a0 t0) (e s a : Int) (t : ByteArray) : Pk (putP W k e s a t) k ty e s a t := (((h.s0 e).s1 s).s2 a).s3 t
theorem putP_grown (W : World) (k : Nat) (e s a : Int) (t : ByteArray) : W.grownBy (putP W k e s a t) (some k) := wst (wst (wst (wst (wre W (some k)) 0 _) 1 _) 2 _) 3 _
abbrev pk0 : Array Value := #[.int .i64 0, .int .i64 0, .int .i64 0, .string ⟨#[]⟩]
/-- What a link says: the number and the text of the first that is on its way. -/
def sayN (G : List ByteArray) (nx : Int) : Int := if G = [] then 0 else nx
def sayT (G : List ByteArray) : ByteArray := G.headD ⟨#[]⟩
/-- The first that is on its way has come. -/
def hAck (ep nx : Int) (G : List ByteArray) (e a : Int) : Bool := decide (e = ep) && (decide (0 < G.length) && (decide (1 < a) && decide (a - 1 = nx)))
/-- What comes is what is next. -/
def hGot (ep wt e s : Int) : Bool := decide (e = ep) && (decide (s ≠ 0) && decide (s = wt))
def hWay (ep nx : Int) (G : List ByteArray) (e a : Int) : List ByteArray := if hAck ep nx G e a = true then G.tail else G
def hNext (ep nx : Int) (G : List ByteArray) (e a : Int) : Int := if hAck ep nx G e a = true then wrap64 (nx + 1) else nx
def hWant (ep wt e s : Int) : Int := if hGot ep wt e s = true then wrap64 (wt + 1) else wt
def hText (ep wt e s : Int) (t : ByteArray) : ByteArray := if hGot ep wt e s = true then t else ⟨#[]⟩
theorem own_at17 {W : World} {B n c : Nat} {a : Option Addr} {G : List ByteArray} (h : OwV W B (.slice a n c) G) (hn : 0 < G.length) : ∃ g, a = some ⟨g, 0, none⟩ ∧ n ≤ c ∧ ∀ i (hi : i < G.length), W.cell? ⟨g, i, none⟩ = some (.string G[i]) := by
  have hs := (OwV.is h).2
  rcases h.2 with ⟨_, h2⟩ | ⟨g, cap, cur, h1, _, _, h4, _⟩
  · omega
  · simp only [Value.slice.injEq] at h1
    obtain ⟨rfl, rfl, rfl⟩ := h1
    refine ⟨g, rfl, h4, fun i hi => ?_⟩
    obtain ⟨k, o, e, _, hc⟩ := hs.at hi
    simp only [Option.some.injEq, Addr.mk.injEq, and_true] at e
    obtain ⟨rfl, rfl⟩ := e
    simpa using hc
set_option maxHeartbeats 800000 in
set_option maxRecDepth 100000 in
theorem cloneS17_any (lo hi : Nat) (ao : Option Addr) (n cap : Nat) (G : List ByteArray) (w : World) (hl : G.length = n) (hn : n ≤ 1048576) (hr : Ss lo hi w ao G) (h0 : ao = none → cap = 0) :
    Calls Try.prog 24 #[.slice ao n cap] w fun e w' => ∃ a c, e = .returned (.slice a n c) ∧ OwV w' w.heap.size (.slice a n c) G ∧ Below w.heap.size w w' := by
  have HR := hid hr
  have HL := hid hl
  have HN := hid hn
  clear hr hl hn
  cases ao with
  | none =>
    have hn0 : n = 0 := by
      by_cases h : 0 < n
      · obtain ⟨_, _, h1, _⟩ := HR.out.2 0 (by rw [HL.out]; exact h)
        cases h1
      · omega
    subst hn0
    obtain rfl := h0 rfl
    have hle : G = [] := List.eq_nil_of_length_eq_zero HL.out
    subst hle
    clear h0
    have hnil : ∀ W, (binOp .eql 26 (.slice none 0 0) (.slice none 0 0)).run Try.prog W = .ok (.bool true) W := fun W => Lib.run_eql_slice_nil_nil W 0 0 Try.underlying26
    go_enter Try.func24, Try.ntmps24
    go_wp2
    go_ret
    exact ⟨_, _, rfl, ⟨rfl, .inl ⟨rfl, rfl⟩⟩, bre _⟩
  | some ad =>
    clear h0
    obtain ⟨i0, hi, hz0, hz1, hz2⟩ := info_parts17 info_str17
    have HSRC : Hid (∀ j u, (G.map Value.string)[j]? = some u → (w.alloc (.cells #[] 9)).cell? (ad.add j) = some u) := ss_all17 (HR.out.later (bpush (bre _) _))
    have hnil : ∀ W, (binOp .eql 26 (.slice (some ad) n cap) (.slice none 0 0)).run Try.prog W = .ok (.bool false) W := fun W => Lib.run_eql_slice_some_nil W ad n cap Try.underlying26
    go_enter Try.func24, Try.ntmps24
    go_wp2_with (at_builtin; refine wpList_append_own _ rfl (.tmp 5) (.tmp 6) 26 rfl w.heap.size 9 i0 _ 1 16 Try.underlying26 hi hz0 hz1 hz2 rfl (by decide) _ 0 [] (by rfl) (ownV_empty17 w _ (Nat.le_refl _)) ad n cap (G.map Value.string) (by rfl) (by rw [List.length_map, HL.out, Nat.mul_one]) HSRC.out (str_one17 G) (by have := HN.out; unfold maxLen; omega) (by have := HN.out; omega) (by simp) ?_; intro v1 w1 hown1 hg1 _; have own1 : OwV w1 w.heap.size v1 G := (by simpa [OwV, HL.out] using hown1); obtain ⟨a1, c1, hv1, _⟩ := own1.shape; rw [HL.out] at hv1; subst hv1; have O1 := hid own1; clear hown1 own1)
    go_ret
    exact ⟨_, _, rfl, O1.out, (bpush (bre _) _).grown hg1 (by simp) (by intro k hk; simp [Value.ownBlock] at hk; omega)⟩
theorem own_zero17 {W : World} {B g o n c : Nat} {G : List ByteArray} (h : OwV W B (.slice (some ⟨g, o, none⟩) n c) G) : o = 0 := by
  rcases h.2 with ⟨h1, _⟩ | ⟨g', cap, cur, h1, _⟩
  · simp at h1
  · simp at h1; exact h1.1.2
theorem own_froz17 {W : World} {B g n c : Nat} {G : List ByteArray} (h : OwV W B (.slice (some ⟨g, 0, none⟩) n c) G) (i : Nat) : W.frozen? ⟨g, i, none⟩ = false := by
  obtain rfl := (OwV.is h).1
  exact World.ownsRow.frozenAt h i
theorem set_self17 {G : List ByteArray} {i : Nat} (h : i < G.length) : G.set i G[i] = G := by simp
set_option maxHeartbeats 1600000 in
set_option maxRecDepth 100000 in
theorem copyLk_any (lo hi : Nat) (ep nx wt : Int) (ga : Option Addr) (gn gc : Nat) (G : List ByteArray) (w : World) (hgl : G.length = gn) (hgn : gn ≤ 1048576) (hz : ∀ x ∈ G, x.size ≤ 1048576) (hs : Ss lo hi w ga G) (hg0 : ga = none → gc = 0) :
    Calls Try.prog 17 #[lkv ep (.slice ga gn gc) nx wt] w fun e w' => ∃ ag cg, e = .returned (lkv ep (.slice ag gn cg) nx wt) ∧ OwV w' w.heap.size (.slice ag gn cg) G ∧ Below w.heap.size w w' := by
  obtain ⟨W0, hW0⟩ : ∃ W0, (w.alloc (.cells #[.int .i64 ep, .slice ga gn gc, .int .i64 nx, .int .i64 wt] 28)).alloc (.cells lk0 28) = W0 := ⟨_, rfl⟩
  have b0 : Below w.heap.size w W0 := by subst hW0; exact bpush (bpush (bre _) _) _
  have x0 : Lk W0 w.heap.size 28 ep (.slice ga gn gc) nx wt := by subst hW0; exact (Lk.new w _ _ _ _ _).later (bpush (bre _) _)
  have x1 : Lk W0 (w.heap.size + 1) 28 0 (.slice none 0 0) 0 0 := by
    subst hW0
    have h := Lk.new (w.alloc (.cells #[.int .i64 ep, .slice ga gn gc, .int .i64 nx, .int .i64 wt] 28)) 28 0 (.slice none 0 0) 0 0
    simpa using h
  have HC := hid (cloneS17_any lo hi ga gn gc G W0 hgl hgn (hs.later b0) hg0)
  have A0 := hid x0
  have A1 := hid x1
  have B0 := hid b0
  have HW := hid hW0
  have HGL := hid hgl
  have HGN := hid hgn
  have HZ := hid hz
  have c0 := x0.cells
  have f0 := x0.loose
  clear x0 x1 b0 hW0 hs hg0 hgn hgl hz
  go_enter Try.func17, Try.ntmps17
  go_wp2_with fail
  rw [HW.out]
  clear HW
  refine HC.out.mono ?_; rintro e w1 ⟨ag, cg, rfl, ho, hb⟩
  have LW : Hid (w.heap.size + 1 < W0.heap.size) := hid A1.out.lt
  have hx1 := A0.out.later hb
  have c0 := hx1.cells
  have f0 := hx1.loose
  go_upto_region 2 with fail
  obtain ⟨w2, hw2⟩ : ∃ W, w1.setCell ⟨w.heap.size, 1, none⟩ (.slice ag gn cg) = W := ⟨_, rfl⟩
  have g2 : w1.grownBy w2 (some w.heap.size) := by subst hw2; exact wst (wre w1 _) 1 _
  have x0 : Lk w2 w.heap.size 28 ep (.slice ag gn cg) nx wt := by subst hw2; exact hx1.s1 _
  have x1 : Lk w2 (w.heap.size + 1) 28 0 (.slice none 0 0) 0 0 := (A1.out.later hb).grown g2 (by simp)
  have O2 : Hid (OwV w2 W0.heap.size (.slice ag gn cg) G) := hid (OwV.grown ho g2 (by have := LW.out; omega))
  have B2 : Hid (Below w.heap.size w w2) := hid (B0.out.trans ((hb.mono B0.out.size).trans (below_of_grown g2 (Nat.le_refl _) (Nat.le_trans B0.out.size hb.size))))
  have L2 : Hid (W0.heap.size ≤ w2.heap.size) := hid (Nat.le_trans hb.size g2.size)
  rw [hw2]
  clear hw2 g2 hx1 c0 f0 ho hb HC
  have X0 := hid x0
  have X1 := hid x1
  have c0 := x0.cells
  clear x0 x1 A0 A1 B0
  go_wp2
  go_loopw [12] (fun iv wr => ∃ i : Nat, i ≤ gn ∧ iv = .int .i64 (i : Int) ∧ Lk wr w.heap.size 28 ep (.slice ag gn cg) nx wt ∧ Lk wr (w.heap.size + 1) 28 0 (.slice none 0 0) 0 0 ∧ OwV wr W0.heap.size (.slice ag gn cg) G ∧ Below w.heap.size w wr ∧ W0.heap.size ≤ wr.heap.size) (fun iv _ => gn - (intOf iv).toNat)
  case atStart => exact ⟨0, Nat.zero_le _, rfl, X0.out, X1.out, O2.out, B2.out, L2.out⟩
  case round =>
    obtain ⟨i, hi, rfl, y0, y1, o1, b1, s1⟩ := hrel
    clear c0
    by_cases hlt : i < gn
    · have HLT := hid hlt
      have hil : i < G.length := by rw [HGL.out]; exact hlt
      obtain ⟨k, o, rfl, hk, c⟩ := (OwV.is o1).2.at hil
      obtain rfl := own_zero17 o1
      simp only [Nat.zero_add] at c
      obtain ⟨x, hx⟩ : ∃ x, G[i] = x := ⟨_, rfl⟩
      rw [hx] at c
      have HX := hid hx
      have HZX := hid (HZ.out G[i] (List.getElem_mem hil))
      rw [hx] at HZX
      have hI : (0 : Int) ≤ (i : Int) ∧ (i : Int) < (gn : Int) := by omega
      have hkB := (World.ownsRow.lt o1 k rfl).1
      have HKB := hid hkB
      have Y0 := hid y0
      have Y1 := hid y1
      have O1 := hid o1
      have B1 := hid b1
      have S1 := hid s1
      have HIL := hid hil
      clear hx y0 y1 o1 b1 s1 hkB
      go_wp2_with fail
      have hcell := Y0.out.cells.2.1
      have f1 := own_froz17 O1.out i
      have HCL : Hid (∀ W, Below wr.heap.size wr W → W.cell? ⟨w.heap.size, 1, none⟩ = some (.slice (some ⟨k, 0, none⟩) gn cg)) := hid (fun W h => (Y0.out.later h).cells.2.1)
      have HCX : Hid (∀ W, Below wr.heap.size wr W → W.cell? ⟨k, i, none⟩ = some (.string x)) := hid (fun W h => (cell_sameT (p := ⟨k, i, none⟩) (h.block k hk)).trans c)
      clear hcell c
      go_region_held3 (fun W => W.cell? ⟨w.heap.size, 1, none⟩ = some (.slice (some ⟨k, 0, none⟩) gn cg))
        ((first | exact HCL.out _ (bdr (bre _)) | exact HCL.out _ (btr (bdr (bre _)) hb2) | exact S5.out))
        ((go_at_call 19; refine (clone_any x _ HZX.out).mono ?_; rintro e w2 ⟨rfl, hb2⟩;
          have C2 := hid (show Below wr.heap.size wr w2 from btr (bdr (bre _)) hb2);
          have O2 := hid (OwV.later O1.out C2.out);
          have f2 := own_froz17 O2.out i;
          have d2 := HCX.out w2 C2.out;
          have hkB2 := HKB.out;
          have LW2 := LW.out;
          have g5 : w2.grownBy (w2.setCell ⟨k, i, none⟩ (.string x)) (some k) := wst (wre _ _) _ _;
          have x5 := (Y0.out.later C2.out).grown g5 (by simp; omega);
          have y5 := (Y1.out.later C2.out).grown g5 (by simp; omega);
          have o5 := OwV.stored O2.out i x;
          rw [← HX.out, set_self17 HIL.out, HX.out] at o5;
          have X5 := hid x5; have Y5 := hid y5; have O5 := hid o5;
          have B5 := hid ((B1.out.trans (C2.out.mono B1.out.size)).trans (below_of_grown g5 (by omega) (Nat.le_trans B1.out.size C2.out.size)));
          have S5 : Hid ((w2.setCell ⟨k, i, none⟩ (.string x)).cell? ⟨w.heap.size, 1, none⟩ = some (.slice (some ⟨k, 0, none⟩) gn cg)) := hid x5.cells.2.1;
          have N5 : Hid (W0.heap.size ≤ (w2.setCell ⟨k, i, none⟩ (.string x)).heap.size) := hid (Nat.le_trans S1.out (Nat.le_trans C2.out.size g5.size));
          clear hkB2 LW2 g5 x5 y5 o5))
      all_goals (obtain ⟨w5, hw5⟩ : ∃ W, w2.setCell ⟨k, i, none⟩ (.string x) = W := ⟨_, rfl⟩; rw [hw5] at X5 Y5 O5 B5 S5 N5 ⊢; clear hw5)
      all_goals (have x3 := X5.out; have y3 := Y5.out; have o3 := O5.out; have b3 := B5.out; have s3 := N5.out; have hgn9 := HGN.out; have hw4 : wrap64 ((i : Int) + 1) = (i : Int) + 1 := (by unfold wrap64; omega); go_wp2; go_roundw)
      all_goals
        first
        | exact ⟨i + 1, by omega, by simp, x3, y3, o3, b3, s3⟩
        | (simp [intOf]; omega)
    · have HLT : Hid (i = gn) := (show i = gn by omega)
      have O1 := hid o1
      have B1 := hid b1
      have S1 := hid s1
      have c0 := y0.cells
      have c1 := y1.cells
      have f1 := y1.loose
      have Y1 := hid y1
      clear o1 b1 s1
      go_wp2
      have lw := LW.out
      have g3 := putL_grown wr (w.heap.size + 1) ep (.slice ag gn cg) nx wt
      have d := (Y1.out.put ep (.slice ag gn cg) nx wt).cells
      unfold putL at g3 d
      refine bodyPost_ret (v := lkv ep (.slice ag gn cg) nx wt) (by simp [results, Try.results17, go_sem, d]) rfl ⟨_, _, rfl, own_base (OwV.grown O1.out g3 (by omega)) (by omega), B1.out.trans (below_of_grown g3 (by omega) B1.out.size)⟩
end Go.Proofs.Ytchdempffkeaoaa
