/- Ma, Mb, Mc, Md, Me, Mf, Mg, Ml, Mm. -/
import Derived.Test.YtmpcmllfgogegaaGreatjLbj
import Derived.WalkKit
import Derived.Laws.IdiomStrings
import Derived.WalkSpells
import Derived.WalkLawsBesides
import Derived.Lib.Strings
import Derived.Lib.BufferWrite
import Derived.Lib.UnsafeStr
import Derived.Laws.MakeOwn
import Derived.Below
import Derived.BigQuiet
import Derived.Deep.QuietTactic
import Derived.Deep.RegionHeld3
import Derived.Deep.Cut
import Derived.Laws.Bits128
import Derived.Laws.ShiftsVarLaws
import Derived.Lib.BufferMore
import Derived.Lib.ConvBytes
namespace Go.Proofs.YtmpcmllfgogegaaGreat
open Go.RowKit
theorem run_string_own {P : Program} (w : World) (src dst e : TypeId) (hs : P.underlying src = some (.slice e)) (he : P.underlying e = some (.int .u8)) (hd : P.underlying dst = some .string)
  {base n : Nat} {v : Value} (bs : List UInt8) (h : w.ownsRow base e 1 v n (bs.map bv)) :
  (convert src dst v).run P w = .ok (.string ⟨bs.toArray⟩) w := by
 have hl : bs.length = n := by simpa using h.1
 rcases h.2 with ⟨rfl, hn⟩ | ⟨g, cap, cur, rfl, _, hg, _, _, _, _⟩
 ·have : bs = [] := List.eq_nil_of_length_eq_zero (by omega)
  subst this
  rw [run_convert_bytes_string w src dst e none 0 0 hs he hd]; rfl
 ·subst hl
  refine run_convert_bytes_back w src dst e ⟨g, 0, none⟩ cap bs hs he hd (fun j hj => ?_)
  have := h.cells (g := g) rfl j (bv bs[j]) (by simp [hj])
  simpa [bv] using this
end Go.Proofs.YtmpcmllfgogegaaGreat
namespace Go.Proofs.YtmpcmllfgogegaaGreat
open Go.RowKit
end Go.Proofs.YtmpcmllfgogegaaGreat
namespace Go.Proofs.YtmpcmllfgogegaaGreat
open Go.RowKit
end Go.Proofs.YtmpcmllfgogegaaGreat
namespace Go.Proofs.YtmpcmllfgogegaaGreat
open Go.RowKit
end Go.Proofs.YtmpcmllfgogegaaGreat
namespace Go.Proofs.YtmpcmllfgogegaaGreat
open Go.RowKit
theorem Rg.lt {W : World} {k ty : Nat} {v t b : Int} (h : Rg W k ty v t b) : k < W.heap.size := (Array.getElem?_eq_some_iff.1 h).1
theorem Rg.set' {W : World} {k ty : Nat} {v t b v' t' b' : Int} (h : Rg W k ty v t b) : Rg (((W.setCell ⟨k, 0, none⟩ (.int .i64 v')).setCell ⟨k, 1, none⟩ (.int .i64 t')).setCell ⟨k, 2, none⟩ (.int .i64 b')) k ty v' t' b' := h.set
end Go.Proofs.YtmpcmllfgogegaaGreat
namespace Go.Proofs.YtmpcmllfgogegaaGreat
open Go.RowKit
end Go.Proofs.YtmpcmllfgogegaaGreat
namespace Go.Proofs.YtmpcmllfgogegaaGreat
open Go.RowKit
end Go.Proofs.YtmpcmllfgogegaaGreat
namespace Go.Proofs.YtmpcmllfgogegaaGreat
open Go.RowKit
end Go.Proofs.YtmpcmllfgogegaaGreat
namespace Go.Proofs.YtmpcmllfgogegaaGreat
open Go.RowKit
theorem pickInt_any (cb g k : Nat) (zs : List Int) (ao : Option Addr) (n cap : Nat) (w : World) (hn : n ≤ 1048576) (hcur : Cur w cb ao n cap) (hcode : Code w cb ao n) (hk : zs.length = k) (hk0 : 0 < k) (hk2 : k ≤ 1000) (hg : g ≠ cb)
  (hcell : ∀ i (h : i < zs.length), w.cell? ⟨g, i, none⟩ = some (.int .i64 zs[i])) :
  Calls Tryz.prog 53 #[.pointer (some ⟨cb, 0, none⟩), .slice (some ⟨g, 0, none⟩) k k] w fun e w' => ∃ x : Int, x ∈ zs ∧ e = .returned (.int .i64 x) ∧ Cur w' cb ao n cap ∧ w.grownBy w' (some cb) := by
 have HC := hide hcur
 have HO := hide hcode
 have HK := hide hk
 have HCELL := hide hcell
 clear hcur hcode hk hcell
 go_enter Tryz.func53, Tryz.ntmps53
 go_wp2_with fail
 refine (below4 cb ao n cap _ hn (unhide HC) (unhide HO) k (by omega) (by omega)).mono ?_; rintro e w1 ⟨x, hx, rfl, hc1, hb1⟩
 have hxl : x < zs.length := by rw [unhide HK]; omega
 obtain ⟨y, hy⟩ : ∃ y, zs[x] = y := ⟨_, rfl⟩
 have hc : w1.cell? ⟨g, x, none⟩ = some (.int .i64 y) := hb1.cell (by rw [← hy]; exact unhide HCELL x hxl) (by simp; omega)
 have HY := hide hy
 have HC1 := hide hc1
 have hI : (0 : Int) ≤ (x : Int) ∧ (x : Int) < (k : Int) := by omega
 clear hc1 hy
 go_wp2
 go_ret
 exact ⟨y, by rw [← unhide HY]; exact List.getElem_mem _, rfl, unhide HC1, hb1⟩
end Go.Proofs.YtmpcmllfgogegaaGreat
namespace Go.Proofs.YtmpcmllfgogegaaGreat
open Go.RowKit
set_option maxHeartbeats 400000 in
set_option maxRecDepth 100000 in
theorem long_any (m : Nat) (x : UInt8) (w : World) (hm : m ≤ 1000000) :
  Calls Tryz.prog 155 #[.int .i64 (m : Int), .int .u8 (x.toNat : Int)] w fun e w' => ∃ bs : List UInt8, bs.length = m ∧ e = .returned (.string ⟨bs.toArray⟩) ∧ Below w.heap.size w w' := by
 obtain ⟨i0, hi, hz0, hz1, hz2⟩ := info_parts Tryz.info5
 have hmk : i0.bytes * m ≤ 281474976710656 := by rw [hz2]; omega
 go_enter Tryz.func155, Tryz.ntmps155
 go_wp2_with (at_make; refine wpList_make_full w rfl _ _ 22 rfl w.heap.size 5 i0 (.int .u8 0) 1 Tryz.underlying22 hi hz0 hz1 .i64 .i64 (m : Int) (m : Int) m (by rfl) (by rfl) rfl rfl hmk (by unfold maxLen; omega) (Nat.le_refl _) ?_; intro w0 hown0 hg0)
 clear hi hz0 hz1 hz2 hmk
 have hst : (madeCells (Value.int .u8 0).cells (m * 1)).toList = (List.replicate m (0 : UInt8)).map bv := by
  have e : (Value.int .u8 0).cells = #[Value.int .u8 0] := rfl
  apply List.ext_getElem?
  intro j
  rw [e]
  by_cases hj : j < m
  ·simp [madeCells, hj, bv, Nat.mod_one]
  ·rw [List.getElem?_eq_none (by rw [Array.length_toList, size_madeCells]; omega), List.getElem?_eq_none (by simp; omega)]
 rw [hst] at hown0
 clear hst
 go_loopw [6] (fun iv wr => ∃ (k : Nat) (bs : List UInt8), k ≤ m ∧ bs.length = m ∧ iv = .int .i64 (k : Int) ∧ wr.ownsRow w.heap.size 5 1 (.slice (some ⟨w.heap.size, 0, none⟩) m m) m (bs.map bv) ∧ Below w.heap.size w wr) (fun iv _ => m - (intOf iv).toNat)
 case atStart => exact ⟨0, List.replicate m 0, Nat.zero_le _, by simp, rfl, hown0, (Below.refl _ _).grown hg0 (Nat.le_refl _) (by simp)⟩
 case round =>
  clear hown0 hg0
  obtain ⟨k, bs, hk, hbl, rfl, hown, hb⟩ := hrel
  have HBL := hide hbl
  have HOWN := hide hown
  clear hbl hown
  by_cases hlt : k < m
  ·have hkl : k < bs.length := by rw [unhide HBL]; exact hlt
   have hc : wr.cell? ⟨w.heap.size, k, none⟩ = some (bv bs[k]) := by rw [(unhide HOWN).cellAt k (by omega), List.getElem?_map, List.getElem?_eq_getElem hkl]; rfl
   obtain ⟨y, hy⟩ : ∃ y, bv bs[k] = .int .u8 y := ⟨_, rfl⟩
   rw [hy] at hc
   have hf := (unhide HOWN).frozenAt k
   have hst := ((unhide HOWN).stored k (bv x)).1
   rw [← List.map_set] at hst
   have HST := hide hst
   clear hst hy
   go_wp2
   go_roundw
   case rel => exact ⟨k + 1, bs.set k x, hlt, by simp [unhide HBL], by go_num, unhide HST, hb.setCell (p := ⟨w.heap.size, k, none⟩) (Nat.le_refl _) _⟩
   case measure => simp [intOf]; omega
  ·have hcv := run_string_own (P := Tryz.prog) wr 22 9 5 Tryz.underlying22 Tryz.underlying5 Tryz.underlying9 _ (unhide HOWN)
   go_wp2
   go_ret
   exact ⟨bs, unhide HBL, rfl, hb⟩
end Go.Proofs.YtmpcmllfgogegaaGreat
namespace Go.Proofs.YtmpcmllfgogegaaGreat
open Go.RowKit
end Go.Proofs.YtmpcmllfgogegaaGreat
namespace Go.Proofs.YtmpcmllfgogegaaGreat
open Go.RowKit
theorem Rg.kept {W W' : World} {k ty cb : Nat} {v t b : Int} (h : Rg W k ty v t b) (hg : W.grownBy W' (some cb)) (hk : k ≠ cb) : Rg W' k ty v t b := (hg.block k h.lt (by simpa using hk)).trans h
theorem gre (w : World) (cb : Nat) : w.grownBy w (some cb) := ⟨rfl, rfl, rfl, Nat.le_refl _, fun _ _ _ => rfl⟩
theorem Sg.other {W : World} {k ty g o : Nat} {t b : Int} {u : Value} (h : Sg W k ty t b) (hk : k ≠ g) : Sg (W.setCell ⟨g, o, none⟩ u) k ty t b := (heap_setCell_other W ⟨g, o, none⟩ k u hk).trans h
theorem row3 (w : World) (x y z : Int) (i : Nat) (h : i < [x, y, z].length) : (w.alloc (.cells #[.int .i64 x, .int .i64 y, .int .i64 z] 3)).cell? ⟨w.heap.size, i, none⟩ = some (.int .i64 [x, y, z][i]) := by
 rw [cell_of_row _ w.heap.size i _ _ (0, 0) (heap_alloc_new w _)]
 have hi : i < 3 := h
 match i, hi with
 | 0, _ => rfl
 | 1, _ => rfl
 | 2, _ => rfl
set_option maxHeartbeats 400000 in
theorem l03Any_any (cb : Nat) (ao : Option Addr) (n cap : Nat) (w : World) (hn : n ≤ 1048576) (hcur : Cur w cb ao n cap) (hcode : Code w cb ao n) :
  Calls Tryz.prog 134 #[.pointer (some ⟨cb, 0, none⟩)] w fun e w' => ∃ t b : Int, e = .returned (.agg #[.int .i64 t, .int .i64 b]) ∧ Cur w' cb ao n cap ∧ w.grownBy w' (some cb) := by
 have hlt := hcur.lt
 obtain ⟨W0, hW0⟩ : ∃ W0, w.alloc (.cells #[.int .i64 0, .int .i64 0] 25) = W0 := ⟨_, rfl⟩
 have A0 : Hid (Sg W0 w.heap.size 25 0 0) := by subst hW0; exact Sg.new w 25 0 0
 have HC : Hid (Cur W0 cb ao n cap) := by subst hW0; exact hcur.alloc _
 have HO : Hid (Code W0 cb ao n) := by subst hW0; exact hcode.later (World.grownBy_alloc _ _ _)
 have G0 : Hid (w.grownBy W0 (some cb)) := by subst hW0; exact World.grownBy_alloc _ _ _
 have hs0 : w.heap.size < W0.heap.size := A0.out.lt
 clear hcur hcode
 go_enter Tryz.func134, Tryz.ntmps134
 go_wp2_with fail
 clear hW0
 refine (l03Stamp_any cb ao n cap _ hn HC.out HO.out).mono ?_; rintro e w1 ⟨t, b, _, rfl, hc1, hb1⟩
 have hs1 := hb1.size
 obtain ⟨W2, hW2⟩ : ∃ W2, w1.alloc (.cells #[.int .i64 t, .int .i64 b] 25) = W2 := ⟨_, rfl⟩
 have A2 : Hid (Sg W2 w1.heap.size 25 t b) := by subst hW2; exact Sg.new w1 25 t b
 have G2 : Hid (W0.grownBy W2 (some cb)) := by subst hW2; exact gal hb1 _
 have HC2 : Hid (Cur W2 cb ao n cap) := by subst hW2; exact hc1.alloc _
 clear hc1 hb1
 go_wp2_with fail
 clear hW2
 refine (below4 cb ao n cap _ hn HC2.out (HO.out.later G2.out) 8 (by omega) (by omega)).mono ?_; rintro e w3 ⟨x, hx, rfl, hc3, hb3⟩
 have HC3 : Hid (Cur w3 cb ao n cap) := hc3
 have A3 : Hid (Sg w3 w1.heap.size 25 t b) := A2.out.kept hb3 (by omega)
 have G3 : Hid (W0.grownBy w3 (some cb)) := only_trans G2.out hb3
 have A30 : Hid (Sg w3 w.heap.size 25 0 0) := A0.out.kept G3.out (by omega)
 have HO3 : Hid (Code w3 cb ao n) := HO.out.later G3.out
 have hs3 : W0.heap.size ≤ w3.heap.size := G3.out.size
 have hne : ¬ w1.heap.size = w.heap.size := by omega
 have hne' : ¬ w.heap.size = w1.heap.size := by omega
 clear hc3 hb3
 by_cases h0 : x = 0
 ·have h0' : ((x : Int) == 0) = true := by simp; omega
  clear h0
  go_wp2_with fail
  refine (pickInt_any cb w3.heap.size 3 [-1, 100000, 100001] ao n cap _ hn (HC3.out.alloc _) (HO3.out.later (World.grownBy_alloc _ _ _)) rfl (by decide) (by decide) (by omega) (row3 w3 (-1) 100000 100001)).mono ?_
  rintro e w5 ⟨y, _, rfl, hc5, hb5⟩
  have G5 : Hid (w3.grownBy w5 (some cb)) := only_trans (World.grownBy_alloc _ _ _) hb5
  have HC5 : Hid (Cur w5 cb ao n cap) := hc5
  have A5 : Hid (Sg w5 w1.heap.size 25 t b) := A3.out.kept G5.out (by omega)
  have A50 : Hid (Sg w5 w.heap.size 25 0 0) := A30.out.kept G5.out (by omega)
  have d5 := A5.out.cells
  have f5 := A5.out.loose
  have d50 := A50.out.cells
  have f50 := A50.out.loose
  clear hc5 hb5
  go_wp2_with fail
  have c3 := ((A50.out.other (g := w1.heap.size) (o := 0) (u := .int .i64 y) (by omega)).set' (t' := y) (b' := b)).cells
  exact bodyPost_ret (v := stv y b) (by simp [results, Tryz.results134, go_sem, c3]) rfl ⟨y, b, rfl, ((HC5.out.set (by omega)).set (by omega)).set (by omega), gset (gset (gset (only_trans G0.out (only_trans G3.out G5.out)) (by omega) _ _) (Nat.le_refl _) _ _) (Nat.le_refl _) _ _⟩
 ·have h0' : ((x : Int) == 0) = false := by simp; omega
  by_cases h1 : x = 1
  ·have h1' : ((x : Int) == 1) = true := by simp; omega
   clear h0 h1
   go_wp2_with fail
   refine (pickInt_any cb w3.heap.size 3 [-1, 0, 3] ao n cap _ hn (HC3.out.alloc _) (HO3.out.later (World.grownBy_alloc _ _ _)) rfl (by decide) (by decide) (by omega) (row3 w3 (-1) 0 3)).mono ?_
   rintro e w5 ⟨y, _, rfl, hc5, hb5⟩
   have G5 : Hid (w3.grownBy w5 (some cb)) := only_trans (World.grownBy_alloc _ _ _) hb5
   have HC5 : Hid (Cur w5 cb ao n cap) := hc5
   have A5 : Hid (Sg w5 w1.heap.size 25 t b) := A3.out.kept G5.out (by omega)
   have A50 : Hid (Sg w5 w.heap.size 25 0 0) := A30.out.kept G5.out (by omega)
   have d5 := A5.out.cells
   have f5 := A5.out.loose
   have d50 := A50.out.cells
   have f50 := A50.out.loose
   clear hc5 hb5
   go_wp2_with fail
   have c3 := ((A50.out.other (g := w1.heap.size) (o := 1) (u := .int .i64 y) (by omega)).set' (t' := t) (b' := y)).cells
   exact bodyPost_ret (v := stv t y) (by simp [results, Tryz.results134, go_sem, c3]) rfl ⟨t, y, rfl, ((HC5.out.set (by omega)).set (by omega)).set (by omega), gset (gset (gset (only_trans G0.out (only_trans G3.out G5.out)) (by omega) _ _) (Nat.le_refl _) _ _) (Nat.le_refl _) _ _⟩
  ·have h1' : ((x : Int) == 1) = false := by simp; omega
   clear h0 h1
   have d5 := A3.out.cells
   have f5 := A3.out.loose
   have d50 := A30.out.cells
   have f50 := A30.out.loose
   go_wp2_with fail
   have c3 := (A30.out.set' (t' := t) (b' := b)).cells
   exact bodyPost_ret (v := stv t b) (by simp [results, Tryz.results134, go_sem, c3]) rfl ⟨t, b, rfl, (HC3.out.set (by omega)).set (by omega), gset (gset (only_trans G0.out G3.out) (Nat.le_refl _) _ _) (Nat.le_refl _) _ _⟩
theorem row6 (w : World) (x y z x' y' z' : Int) (i : Nat) (h : i < [x, y, z, x', y', z'].length) : (w.alloc (.cells #[.int .i64 x, .int .i64 y, .int .i64 z, .int .i64 x', .int .i64 y', .int .i64 z'] 3)).cell? ⟨w.heap.size, i, none⟩ = some (.int .i64 [x, y, z, x', y', z'][i]) := by
 rw [cell_of_row _ w.heap.size i _ _ (0, 0) (heap_alloc_new w _)]
 have hi : i < 6 := h
 match i, hi with
 | 0, _ => rfl
 | 1, _ => rfl
 | 2, _ => rfl
 | 3, _ => rfl
 | 4, _ => rfl
 | 5, _ => rfl
set_option maxHeartbeats 400000 in
theorem l03Reg_any (cb : Nat) (ao : Option Addr) (n cap : Nat) (w : World) (hn : n ≤ 1048576) (hcur : Cur w cb ao n cap) (hcode : Code w cb ao n) :
  Calls Tryz.prog 170 #[.pointer (some ⟨cb, 0, none⟩)] w fun e w' => ∃ v t b : Int, e = .returned (.agg #[.int .i64 v, .int .i64 t, .int .i64 b]) ∧ Cur w' cb ao n cap ∧ w.grownBy w' (some cb) := by
 have hlt := hcur.lt
 obtain ⟨W0, hW0⟩ : ∃ W0, w.alloc (.cells #[.int .i64 0, .int .i64 0, .int .i64 0] 108) = W0 := ⟨_, rfl⟩
 have A0 : Hid (Rg W0 w.heap.size 108 0 0 0) := by subst hW0; exact Rg.new w 108 0 0 0
 have HC : Hid (Cur W0 cb ao n cap) := by subst hW0; exact hcur.alloc _
 have HO : Hid (Code W0 cb ao n) := by subst hW0; exact hcode.later (World.grownBy_alloc _ _ _)
 have G0 : Hid (w.grownBy W0 (some cb)) := by subst hW0; exact World.grownBy_alloc _ _ _
 have hs0 : w.heap.size < W0.heap.size := A0.out.lt
 clear hcur hcode
 go_enter Tryz.func170, Tryz.ntmps170
 go_wp2_with fail
 clear hW0
 refine (l03Any_any cb ao n cap _ hn HC.out HO.out).mono ?_; rintro e w1 ⟨t, b, rfl, hc1, hb1⟩
 have hs1 := hb1.size
 obtain ⟨W2, hW2⟩ : ∃ W2, w1.alloc (.cells #[.int .i64 t, .int .i64 b] 25) = W2 := ⟨_, rfl⟩
 have A2 : Hid (Sg W2 w1.heap.size 25 t b) := by subst hW2; exact Sg.new w1 25 t b
 have G2 : Hid (W0.grownBy W2 (some cb)) := by subst hW2; exact gal hb1 _
 have HC2 : Hid (Cur W2 cb ao n cap) := by subst hW2; exact hc1.alloc _
 have HO2 : Hid (Code W2 cb ao n) := HO.out.later G2.out
 have hs2 : w1.heap.size < W2.heap.size := A2.out.lt
 clear hc1 hb1
 go_wp2_with fail
 clear hW2
 have HS : Hid (∀ W, W2.grownBy W (some cb) → W.cell? ⟨w1.heap.size, 0, none⟩ = some (.int .i64 t) ∧ W.cell? ⟨w1.heap.size, 1, none⟩ = some (.int .i64 b)) := fun W h => (A2.out.kept h (by omega)).cells
 have A20 : Hid (Rg W2 w.heap.size 108 0 0 0) := A0.out.kept G2.out (by omega)
 go_region_held3 (fun W => W.cell? ⟨w1.heap.size, 0, none⟩ = some (.int .i64 t) ∧ W.cell? ⟨w1.heap.size, 1, none⟩ = some (.int .i64 b))
  ((first | (refine HS.out _ ?_; (repeat (first | exact gdr (gre _ _) | exact gre _ _ | refine gdr ?_ | refine gal ?_ _ | refine only_trans ?_ (by assumption))); done) | (refine ((((A2.out.kept (cb := cb) ?_ (by omega)).other (by omega)).other (by omega)).other (by omega)).cells; repeat (first | exact gdr (gre _ _) | exact gre _ _ | refine gdr ?_ | refine gal ?_ _ | refine only_trans ?_ (by assumption)))))
  ((first
    | (go_at_call 53; refine (pickInt_any cb W2.heap.size 6 [0, 1, 1, 7, -1, 1000000001] ao n cap _ hn ((HC2.out.alloc _).drew) (HO2.out.later (gdr (World.grownBy_alloc _ _ _))) rfl (by decide) (by decide) (by omega) (row6 W2 0 1 1 7 (-1) 1000000001)).mono ?_; rintro e w5 ⟨y, _, rfl, hc5, hb5⟩; have R5 := A20.out.kept (only_trans (gdr (World.grownBy_alloc _ _ _)) hb5) (by omega); have d5 := R5.cells; have f5 := R5.loose)))
 have G5 : Hid (W2.grownBy w5 (some cb)) := only_trans (gdr (World.grownBy_alloc _ _ _)) hb5
 have c3 := (R5.set' (v' := y) (t' := t) (b' := b)).cells
 go_wp2_with fail
 exact bodyPost_ret (v := rgv y t b) (by simp [results, Tryz.results170, go_sem, c3]) rfl ⟨y, t, b, rfl, ((hc5.set (by omega)).set (by omega)).set (by omega), gset (gset (gset (only_trans G0.out (only_trans G2.out G5.out)) (Nat.le_refl _) _ _) (Nat.le_refl _) _ _) (Nat.le_refl _) _ _⟩
end Go.Proofs.YtmpcmllfgogegaaGreat
namespace Go.Proofs.YtmpcmllfgogegaaGreat
open Go.RowKit
end Go.Proofs.YtmpcmllfgogegaaGreat
namespace Go.Proofs.YtmpcmllfgogegaaGreat
open Go.RowKit
end Go.Proofs.YtmpcmllfgogegaaGreat
namespace Go.Proofs.YtmpcmllfgogegaaGreat
open Go.RowKit
theorem Rs.grown {W W' : World} {a : Option Addr} {l : List R3} {g : Nat} (h : Rs W a l) (hg : W.grownBy W' (some g)) (ha : ∀ x, a = some x → x.block ≠ g) : Rs W' a l := by
 intro hn
 obtain ⟨k, o, h1, h2, h3⟩ := h hn
 have hk : k ≠ g := ha _ h1
 refine ⟨k, o, h1, Nat.lt_of_lt_of_le h2 hg.size, fun i hi => ?_⟩
 obtain ⟨c1, c2, c3⟩ := h3 i hi
 exact ⟨hg.cell (a := ⟨k, _, none⟩) c1 (by simpa using hk), hg.cell (a := ⟨k, _, none⟩) c2 (by simpa using hk), hg.cell (a := ⟨k, _, none⟩) c3 (by simpa using hk)⟩
end Go.Proofs.YtmpcmllfgogegaaGreat
namespace Go.Proofs.YtmpcmllfgogegaaGreat
open Go.RowKit
end Go.Proofs.YtmpcmllfgogegaaGreat
namespace Go.Proofs.YtmpcmllfgogegaaGreat
open Go.RowKit
end Go.Proofs.YtmpcmllfgogegaaGreat
namespace Go.Proofs.YtmpcmllfgogegaaGreat
open Go.RowKit
end Go.Proofs.YtmpcmllfgogegaaGreat
namespace Go.Proofs.YtmpcmllfgogegaaGreat
open Go.RowKit
end Go.Proofs.YtmpcmllfgogegaaGreat
namespace Go.Proofs.YtmpcmllfgogegaaGreat
open Go.RowKit
end Go.Proofs.YtmpcmllfgogegaaGreat
namespace Go.Proofs.YtmpcmllfgogegaaGreat
open Go.RowKit
end Go.Proofs.YtmpcmllfgogegaaGreat
namespace Go.Proofs.YtmpcmllfgogegaaGreat
open Go.RowKit
theorem Ow.keep {W W' : World} {B cb : Nat} {v : Value} {l : List R3} (h : Ow W B v l) (hg : W.grownBy W' (some cb)) (hc : cb < B) : Ow W' B v l :=
 World.ownsRow.kept h hg (by
   cases hv : v.ownBlock with
   | none => exact Or.inl rfl
   | some k => right; have := (World.ownsRow.lt h k hv).1; intro e; simp at e; omega)
theorem Sg.same {W W' : World} {k ty : Nat} {t b : Int} (h : Sg W k ty t b) (e : W'.heap[k]? = W.heap[k]?) : Sg W' k ty t b := e.trans h
theorem step_append_rg2 {ops : Array Oper} {o : Oper} {a : Act} {w : World} {K : Act → World → Prop} {Q : Exit → Act → World → Prop} {E : Prop}
  (hg : o.guard = none) (s x : Operand) (hop : o.op = Op.call { callee := Callee.builtin Builtin.append, args := #[s, x], argTypes := #[35, 35] })
  (base : Nat) (v : Value) (l : List R3) (hs : a.eval s = v) (p q r : Int) (hown : Ow w base v l)
  (hx : a.eval x = .slice (some ⟨w.heap.size, 0, none⟩) 1 1) (hlen : l.length ≤ 1048576) (hbase : base ≤ w.heap.size)
  (hK : ∀ v' w', Ow w' base v' (l ++ [(p, q, r)]) → Below base w w' → (∀ k, k < w.heap.size → some k ≠ v.ownBlock → w'.heap[k]? = w.heap[k]?) → K (a.put o.dst v') w') :
  if Region.wanted o (yielded ops a.tmps) = true then Oper.wp Tryz.prog o a (w.alloc (.cells #[.int .i64 p, .int .i64 q, .int .i64 r] 108)) K Q else E := by
 have hw : Region.wanted o (yielded ops a.tmps) = true := by simp [Region.wanted, hg]
 rw [if_pos hw]
 obtain ⟨i0, hi, hz0, hz1, hz2⟩ := info_parts3 info_rg
 refine wp_append_own _ s x 35 hop base 108 i0 _ 3 24 Tryz.underlying35 hi hz0 hz1 hz2 rfl (by decide) v _ _ hs (hown.alloc _) ⟨w.heap.size, 0, none⟩ 1 1 (fl [(p, q, r)]) hx rfl (cells_new3 w (p, q, r) 108) (fl_one _) (by unfold maxLen; omega) (by omega) (by simp; omega) ?_
 intro v' w' hown' hgr _
 refine hK v' w' ?_ (((Below.refl base w).alloc hbase _).grown hgr (by simp; omega) (fun k hk => (hown.lt k hk).1)) (fun k hk hne => (hgr.block k (by simp; omega) hne).trans (Below.heap_alloc w _ k hk))
 unfold Ow; rw [fl_app]; simpa using hown'
set_option maxHeartbeats 800000 in
set_option maxRecDepth 100000 in
theorem l04Flags_any (cb : Nat) (ao : Option Addr) (n cap : Nat) (w : World) (hn : n ≤ 1048576) (hcur : Cur w cb ao n cap) (hcode : Code w cb ao n) :
  Calls Tryz.prog 169 #[.pointer (some ⟨cb, 0, none⟩)] w fun e w' => ∃ (v : Value) (l : List R3), l.length = 3 ∧ (∀ p ∈ l, gd p) ∧ e = .returned v ∧ Ow w' w.heap.size v l ∧ Cur w' cb ao n cap ∧ w.grownBy w' (some cb) := by
 have hlt := hcur.lt
 have HC := hid hcur
 have HO := hid hcode
 clear hcur hcode
 go_enter Tryz.func169, Tryz.ntmps169
 go_wp2
 go_loopw [3, 4] (fun vv iv wr => ∃ l : List R3, l.length ≤ 3 ∧ iv = .int .i64 (l.length : Int) ∧ (∀ p ∈ l, gd p) ∧ Ow wr w.heap.size vv l ∧ Cur wr cb ao n cap ∧ w.grownBy wr (some cb)) (fun _ iv _ => 3 - (intOf iv).toNat)
 case atStart => exact ⟨[], by decide, rfl, by simp, own_empty w _ (Nat.le_refl _), HC.out.alloc _, World.grownBy_alloc _ _ _⟩
 case round =>
  obtain ⟨l, hl3, rfl, hgd, hown, hcur, hg⟩ := hrel
  have HGD := hid hgd
  have HOW := hid hown
  have HCU := hid hcur
  have HG := hid hg
  obtain ⟨i, hi⟩ : ∃ i, l.length = i := ⟨_, rfl⟩
  have HI := hid hi
  rw [hi] at hl3 ⊢
  clear hgd hown hcur hg hi
  by_cases h3 : i < 3
  ·go_wp2_with fail
   refine (l03Stamp_any cb ao n cap _ hn HCU.out (HO.out.later HG.out)).mono ?_; rintro e w1 ⟨t, b, htb, rfl, hc1, hg1⟩
   have HTB := hid htb
   obtain ⟨W1, hW1⟩ : ∃ W1, w1.alloc (.cells #[.int .i64 t, .int .i64 b] 25) = W1 := ⟨_, rfl⟩
   have A1 : Hid (Sg W1 w1.heap.size 25 t b) := by subst hW1; exact Sg.new w1 _ t b
   have O1 : Hid (Ow W1 w.heap.size u3 l) := by subst hW1; exact own_later (Ow.keep HOW.out hg1 hlt) (bpush (bre _) _)
   have C1 : Hid (Cur W1 cb ao n cap) := by subst hW1; exact hc1.alloc _
   have G1 : Hid (w.grownBy W1 (some cb)) := by subst hW1; exact gal (only_trans HG.out hg1) _
   have HOB : Hid (∀ k, u3.ownBlock = some k → k < w1.heap.size) := fun k hk => (World.ownsRow.lt (Ow.keep HOW.out hg1 hlt) k hk).2
   have HS1 : Hid (w.heap.size ≤ w1.heap.size) := (only_trans HG.out hg1).size
   clear hc1 hg1 htb
   go_wp2_with fail
   clear hW1
   go_region_held3 (fun W => W.cell? ⟨w1.heap.size, 0, none⟩ = some (.int .i64 t) ∧ W.cell? ⟨w1.heap.size, 1, none⟩ = some (.int .i64 b))
    (first | exact A1.out.cells | exact SG2.out.cells | exact (SG2.out.later (bpush (bre _) _)).cells | exact SG3.out.cells)
    ((first
      | (go_at_call 56; refine (below4 cb ao n cap _ hn C1.out.drew (HO.out.later (gdr G1.out)) 2 (by decide) (by decide)).mono ?_; rintro e w2 ⟨x, hx, rfl, hc2, hg2⟩; have SG2 : Hid (Sg w2 w1.heap.size 25 t b) := Sg.kept (W := W1.drew) A1.out hg2 (by have := HS1.out; omega); have O2 : Hid (Ow w2 w.heap.size u3 l) := Ow.keep (W := W1.drew) O1.out hg2 hlt; have HG2 : Hid (w.grownBy w2 (some cb)) := only_trans (gdr G1.out) hg2; have HX := hid hx)
      | (refine step_append_rg2 rfl (.tmp 13) (.tmp 18) rfl w.heap.size _ _ (by rfl) x t b O2.out (by rfl) (by rw [HI.out]; omega) HG2.out.size ?_; intro v3 w3 hown3 hb3 hk3; have SG3 : Hid (Sg w3 w1.heap.size 25 t b) := Sg.same SG2.out (hk3 _ SG2.out.lt (fun e => by have := HOB.out _ e.symm; omega)))))
   all_goals
    go_wp2
    go_roundw
    case rel => exact ⟨l ++ [((x : Int), t, b)], by rw [List.length_append, HI.out]; simp; omega, by rw [List.length_append, HI.out]; go_num, by intro p hp; rw [List.mem_append] at hp; rcases hp with hp | hp; exact HGD.out p hp; simp at hp; subst hp; exact ⟨by have := HX.out; omega, HTB.out⟩, hown3, hc2.later hb3 hlt, only_add HG2.out hb3⟩
    case measure => simp [intOf]; omega
  ·have HE : Hid (l.length = 3) := by show _ = _; rw [HI.out]; omega
   go_wp2
   go_ret
   exact ⟨_, l, HE.out, HGD.out, rfl, HOW.out, HCU.out, HG.out⟩
end Go.Proofs.YtmpcmllfgogegaaGreat
namespace Go.Proofs.YtmpcmllfgogegaaGreat
open Go.RowKit
theorem Ow.solid' {W : World} {B : Nat} {v : Value} {l : List R3} (h : Ow W B v l) (hl : 0 < l.length) : ∃ g c, v = .slice (some ⟨g, 0, none⟩) l.length c ∧ B ≤ g ∧ l.length ≤ c ∧ (c : Int) ≤ 9223372036854775807 := by
 rcases h.2 with ⟨h1, h2⟩ | ⟨g, cap, cur, h1, h2, h3, h4, h5, _⟩
 ·omega
 ·exact ⟨g, cap, h1, h2, h4, by unfold maxLen at h5; omega⟩
theorem Dl.of {W : World} {B B' : Nat} {v : Value} {l : List R3} (h : Ow W B v l) (h0 : 0 < l.length) (h4 : l.length ≤ 4) (hB : B' ≤ B) : Dl W B' v l := by
 obtain ⟨g, c, rfl, hg, hc, _⟩ := h.solid' h0
 exact ⟨_, c, rfl, h4, hc, (by intro e; cases e), (Ow.rs h).2, by intro x e; simp at e; subst e; exact Nat.le_trans hB hg⟩
theorem Dl.later {W W' : World} {B : Nat} {v : Value} {l : List R3} (h : Dl W B v l) (hb : Below W.heap.size W W') : Dl W' B v l := by
 obtain ⟨a, c, h1, h2, h3, h4, h5, h6⟩ := h
 exact ⟨a, c, h1, h2, h3, h4, h5.later hb, h6⟩
theorem Dl.set {W : World} {B k o : Nat} {u v : Value} {l : List R3} (h : Dl W B v l) (hk : k < B) : Dl (W.setCell ⟨k, o, none⟩ u) B v l := by
 obtain ⟨a, c, h1, h2, h3, h4, h5, h6⟩ := h
 exact ⟨a, c, h1, h2, h3, h4, h5.grown (only_set (cb := k)) (fun x e => by have := h6 x e; omega), h6⟩
theorem Row.tail {W : World} {k o : Nat} {p : R3} {l : List R3} (h : Row W k o (p :: l)) : Row W k (o + 3) l := by
 intro i hi
 have := h (i + 1) (by simpa using hi)
 rw [show o + (i + 1) * 3 = o + 3 + i * 3 by omega] at this
 simpa using this
set_option maxHeartbeats 1600000 in
set_option maxRecDepth 100000 in
theorem l04Any_any (cb : Nat) (ao : Option Addr) (n cap : Nat) (w : World) (hn : n ≤ 1048576) (hcur : Cur w cb ao n cap) (hcode : Code w cb ao n) :
  Calls Tryz.prog 154 #[.pointer (some ⟨cb, 0, none⟩)] w fun e w' => ∃ (v : Value) (l : List R3), e = .returned v ∧ Dl w' w.heap.size v l ∧ Cur w' cb ao n cap ∧ w.grownBy w' (some cb) := by
 have hlt := hcur.lt
 have HC := hid hcur
 have HO := hid hcode
 clear hcur hcode
 go_enter Tryz.func154, Tryz.ntmps154
 go_wp2_with fail
 refine (below4 cb ao n cap _ hn HC.out HO.out 10 (by decide) (by decide)).mono ?_; rintro e w1 ⟨x, hx, rfl, hc1, hg1⟩
 have C1 := hid hc1
 have G1 := hid hg1
 clear hc1 hg1
 go_wp2_with fail
 refine (l04Flags_any cb ao n cap _ hn C1.out (HO.out.later G1.out)).mono ?_; rintro e w2 ⟨v, l, hl, _, rfl, hown, hc2, hg2⟩
 have C2 := hid hc2
 have G2 := hid (only_trans G1.out hg2)
 have O2 := hid hown
 have hs1 := G1.out.size
 have hs2 := hg2.size
 have HL := hid hl
 clear hc2 hg2 hown hl
 have D2 := hid (Dl.of O2.out (by rw [HL.out]; decide) (by rw [HL.out]; decide) hs1)
 by_cases h0 : x = 0
 ·subst h0
  go_wp2_with (at_builtin; refine wpList_append_rg w2 rfl (.tmp 12) (.tmp 14) rfl w1.heap.size _ _ (by rfl) O2.out _ _ _ rfl (by rw [HL.out]; decide) hs2 ?_; rotate_right; intro v3 w3 hown3 hb3)
  go_ret
  exact ⟨_, _, rfl, Dl.of hown3 (by simp) (by rw [List.length_append, HL.out]; decide) hs1, C2.out.later hb3 (by omega), only_add G2.out (hb3.mono hs1)⟩
 ·by_cases h1 : x = 1
  ·subst h1
   obtain ⟨g, c, hv, hg, hlc, hcm⟩ := O2.out.solid' (by rw [HL.out]; decide)
   rw [HL.out] at hv hlc
   subst hv
   have DT : Hid (∃ l' : List R3, l'.length = 2 ∧ Dl w2 w.heap.size (.slice (some ⟨g, 3, none⟩) 2 (c - 1)) l') := by
    show ∃ l' : List R3, _
    have hl := HL.out
    match l, hl with
    | p :: l', hl =>
     have hl2 : l'.length = 2 := by simpa using hl
     obtain ⟨k, o, he, hk, hrow⟩ := (Ow.rs O2.out).2 (by simp)
     simp only [Option.some.injEq, Addr.mk.injEq, and_true] at he
     obtain ⟨rfl, rfl⟩ := he
     exact ⟨l', hl2, _, c - 1, by rw [hl2], by omega, by omega, (by intro e; cases e), fun _ => ⟨g, 3, rfl, hk, by simpa using hrow.tail⟩, by intro x e; simp at e; subst e; exact Nat.le_trans hs1 hg⟩
   go_wp2
   go_ret
   obtain ⟨l', _, hd⟩ := DT.out
   exact ⟨_, l', rfl, hd, C2.out, G2.out⟩
  ·by_cases h2 : x = 2
   ·subst h2
    obtain ⟨g, c, hv, hg, hlc, hcm⟩ := O2.out.solid' (by rw [HL.out]; decide)
    rw [HL.out] at hv hlc
    subst hv
    have HGG := hid hg
    clear hg hlc hcm
    go_wp2_with fail
    refine (below4 cb ao n cap _ hn C2.out (HO.out.later G2.out) 3 (by decide) (by decide)).mono ?_; rintro e w3 ⟨y, hy, rfl, hc3, hg3⟩
    have C3 := hid hc3
    have G3 := hid (only_trans G2.out hg3)
    have O3 := hid (Ow.keep O2.out hg3 (by omega))
    clear hc3 hg3
    go_wp2_with fail
    refine (l03Reg_any cb ao n cap _ hn C3.out (HO.out.later G3.out)).mono ?_; rintro e w4 ⟨v4, t4, b4, rfl, hc4, hg4⟩
    have C4 := hid hc4
    have G4 := hid (only_trans G3.out hg4)
    have O4 := hid (Ow.keep O3.out hg4 (by omega))
    clear hc4 hg4
    have hyl : y < l.length := by rw [HL.out]; omega
    obtain ⟨x1, x2, x3, hc5, hf5⟩ := Ow.spot O4.out y hyl
    have HST := hid (Ow.stored O4.out y hyl (v4, t4, b4))
    have HNE : Hid (g ≠ cb) := by have := HGG.out; show _ ≠ _; omega
    have HWG : Hid (w.heap.size ≤ g) := Nat.le_trans hs1 HGG.out
    clear hyl
    go_wp2
    go_ret
    exact ⟨_, _, rfl, Dl.of HST.out (by simp [HL.out]) (by simp [HL.out]) hs1, ((C4.out.set HNE.out).set HNE.out).set HNE.out, gset (gset (gset G4.out HWG.out _ _) HWG.out _ _) HWG.out _ _⟩
   ·go_wp2
    go_ret
    exact ⟨_, l, rfl, D2.out, C2.out, G2.out⟩
end Go.Proofs.YtmpcmllfgogegaaGreat
namespace Go.Proofs.YtmpcmllfgogegaaGreat
open Go.RowKit
end Go.Proofs.YtmpcmllfgogegaaGreat
namespace Go.Proofs.YtmpcmllfgogegaaGreat
open Go.RowKit
end Go.Proofs.YtmpcmllfgogegaaGreat
namespace Go.Proofs.YtmpcmllfgogegaaGreat
open Go.RowKit
end Go.Proofs.YtmpcmllfgogegaaGreat
namespace Go.Proofs.YtmpcmllfgogegaaGreat
open Go.RowKit
end Go.Proofs.YtmpcmllfgogegaaGreat
namespace Go.Proofs.YtmpcmllfgogegaaGreat
open Go.RowKit
end Go.Proofs.YtmpcmllfgogegaaGreat
namespace Go.Proofs.YtmpcmllfgogegaaGreat
open Go.RowKit
end Go.Proofs.YtmpcmllfgogegaaGreat
namespace Go.Proofs.YtmpcmllfgogegaaGreat
open Go.RowKit
end Go.Proofs.YtmpcmllfgogegaaGreat
namespace Go.Proofs.YtmpcmllfgogegaaGreat
open Go.RowKit
end Go.Proofs.YtmpcmllfgogegaaGreat
namespace Go.Proofs.YtmpcmllfgogegaaGreat
open Go.RowKit
theorem wst_new {a w : World} {r : Option Nat} (h : a.grownBy w r) {j : Nat} (hj : a.heap.size ≤ j) (i : Nat) (x : Value) : a.grownBy (w.setCell ⟨j, i, none⟩ x) r :=
 ⟨h.os, h.tape, h.output, by simpa [World.setCell] using h.size, fun k hk hr => (Below.heap_setCell w ⟨j, i, none⟩ x k (by show k ≠ j; omega)).trans (h.block k hk hr)⟩
theorem grown_below {a w : World} (h : Below a.heap.size a w) (r : Option Nat) : a.grownBy w r := ⟨h.os, h.tape, h.output, h.size, fun k hk _ => h.block k hk⟩
end Go.Proofs.YtmpcmllfgogegaaGreat
namespace Go.Proofs.YtmpcmllfgogegaaGreat
open Go.RowKit
set_option maxHeartbeats 800000 in
set_option maxRecDepth 100000 in
theorem l05Mail_any (cb : Nat) (ao : Option Addr) (n cap : Nat) (w : World) (hn : n ≤ 1048576) (hcur : Cur w cb ao n cap) (hcode : Code w cb ao n) :
  Calls Tryz.prog 153 #[.pointer (some ⟨cb, 0, none⟩)] w fun e w' => ∃ (g u : Int) (v : Value) (l : List R3) (t : ByteArray), e = .returned (.agg #[.int .i64 g, .int .i64 u, v, .string t]) ∧ l.length = 3 ∧ t.size ≤ 20 ∧ Ow w' w.heap.size v l ∧ Cur w' cb ao n cap ∧ w.grownBy w' (some cb) := by
 have hlt := hcur.lt
 have N0 := hid (bpush (bre w) (.cells #[.int .i64 0, .int .i64 0, .slice none 0 0, .string ⟨#[]⟩] 37))
 have M0 := hid (Mg.new w 37 0 0 (.slice none 0 0) ⟨#[]⟩)
 have C0 := hid (hcur.alloc (.cells #[.int .i64 0, .int .i64 0, .slice none 0 0, .string ⟨#[]⟩] 37))
 have O0 := hid (hcode.later (World.grownBy_alloc w (.cells #[.int .i64 0, .int .i64 0, .slice none 0 0, .string ⟨#[]⟩] 37) (some cb)))
 clear hcur hcode
 go_enter Tryz.func153, Tryz.ntmps153
 go_wp2_with fail
 refine (below4 cb ao n cap _ hn C0.out O0.out 6 (by decide) (by decide)).mono ?_; rintro e w1 ⟨x, hx, rfl, hc, hg⟩
 have C1 := hid hc
 have G1 := hid (grown_push hg)
 have M1 := hid (M0.out.grown hg (by simp; omega))
 have O1 := hid (O0.out.later hg)
 clear hc hg M0 C0 O0
 go_wp2_with fail
 refine (below4 cb ao n cap _ hn C1.out O1.out 6 (by decide) (by decide)).mono ?_; rintro e w2 ⟨y, hy, rfl, hc, hg⟩
 have C2 := hid hc
 have G2 := hid (only_trans G1.out hg)
 have M2 := hid (M1.out.grown hg (by simp; omega))
 have O2 := hid (O1.out.later hg)
 clear hc hg M1 C1 O1 G1
 go_wp2_with fail
 refine (l04Flags_any cb ao n cap _ hn C2.out O2.out).mono ?_; rintro e w3 ⟨v, l, hl, _, rfl, hown, hc, hg⟩
 obtain ⟨av, cv, hv, _⟩ := Ow.shape hown
 rw [hl] at hv
 subst hv
 have HL := hid hl
 have L2 : Hid (w.heap.size < w2.heap.size) := M2.out.lt
 have C3 := hid hc
 have G3 := hid (only_trans G2.out hg)
 have M3 := hid (M2.out.grown hg (by simp; omega))
 have O3 := hid (O2.out.later hg)
 have OW := hid hown
 clear hl hown hc hg M2 C2 O2 G2
 go_wp2_with fail
 refine (l05Text_any cb ao n cap _ hn C3.out O3.out).mono ?_; rintro e w4 ⟨t, ht, rfl, hc, hg⟩
 have HT := hid ht
 have l2 := L2.out
 have C4 := hid hc
 have G4 := hid (only_trans G3.out hg)
 have M4 := hid (M3.out.grown hg (by simp; omega))
 have OW4 := hid (Ow.keep OW.out hg (by omega))
 have d := M4.out.cells
 have f := M4.out.loose
 clear ht hc hg M3 C3 O3 G3 OW l2
 go_wp2
 have l2 := L2.out
 have d3 := (set4 M4.out (1 + (x : Int)) (1 + (y : Int)) (.slice av 3 cv) t).cells
 refine bodyPost_ret (v := .agg #[.int .i64 (1 + (x : Int)), .int .i64 (1 + (y : Int)), .slice av 3 cv, .string t]) (by simp [results, Tryz.results153, go_sem, d3]) rfl ⟨_, _, _, l, t, rfl, HL.out, HT.out, ?_, ?_, ?_⟩
 ·exact own_base (own4 OW4.out l2 _ _ _ _) (by omega)
 ·exact (((C4.out.set (by omega)).set (by omega)).set (by omega)).set (by omega)
 ·exact wst_new (wst_new (wst_new (wst_new G4.out (Nat.le_refl _) 0 _) (Nat.le_refl _) 1 _) (Nat.le_refl _) 2 _) (Nat.le_refl _) 3 _
end Go.Proofs.YtmpcmllfgogegaaGreat
namespace Go.Proofs.YtmpcmllfgogegaaGreat
open Go.RowKit
theorem Dl.lower {W : World} {B B' : Nat} {v : Value} {l : List R3} (h : Dl W B v l) (hB : B' ≤ B) : Dl W B' v l := by
 obtain ⟨a, c, h1, h2, h3, h4, h5, h6⟩ := h
 exact ⟨a, c, h1, h2, h3, h4, h5, fun x e => Nat.le_trans hB (h6 x e)⟩
theorem Dl.far {W : World} {B k o n c : Nat} {u : Value} {a : Option Addr} {l : List R3} (h : Dl W B (.slice a n c) l) (hk : ∀ y, a = some y → y.block ≠ k) : Dl (W.setCell ⟨k, o, none⟩ u) B (.slice a n c) l := by
 obtain ⟨a', c', h1, h2, h3, h4, h5, h6⟩ := h
 simp only [Value.slice.injEq] at h1
 obtain ⟨rfl, rfl, rfl⟩ := h1
 exact ⟨a, c, rfl, h2, h3, h4, h5.grown (only_set (cb := k)) hk, h6⟩
theorem tmod4 (x : Nat) : (x : Int).tmod 4 = 0 ∨ (x : Int).tmod 4 = 1 ∨ (x : Int).tmod 4 = 2 ∨ (x : Int).tmod 4 = 3 := by rw [Int.tmod_eq_emod_of_nonneg (by omega)]; omega
theorem tmod3 (x : Nat) : (x : Int).tmod 3 = 0 ∨ (x : Int).tmod 3 = 1 ∨ (x : Int).tmod 3 = 2 := by rw [Int.tmod_eq_emod_of_nonneg (by omega)]; omega
theorem tmodTwo (x : Nat) : ∃ r : Nat, (x : Int).tmod 2 = (r : Int) ∧ r < 2 := ⟨x % 2, by rw [Int.tmod_eq_emod_of_nonneg (by omega)]; omega, by omega⟩
theorem any_end {cb : Nat} {ao : Option Addr} {n cap : Nat} {w W : World} {a : Act} (g u : Int) (f : Value) (l : List R3) (t : ByteArray)
  (hres : (results Tryz.f133 a.tmps).run Tryz.prog ((((W.setCell ⟨w.heap.size, 0, none⟩ (.int .i64 g)).setCell ⟨w.heap.size, 1, none⟩ (.int .i64 u)).setCell ⟨w.heap.size, 2, none⟩ f).setCell ⟨w.heap.size, 3, none⟩ (.string t)) = .ok (.agg #[.int .i64 g, .int .i64 u, f, .string t]) ((((W.setCell ⟨w.heap.size, 0, none⟩ (.int .i64 g)).setCell ⟨w.heap.size, 1, none⟩ (.int .i64 u)).setCell ⟨w.heap.size, 2, none⟩ f).setCell ⟨w.heap.size, 3, none⟩ (.string t)))
  (hd : Dl W (w.heap.size + 1) f l) (ht : t.size ≤ 100) (hc : Cur W cb ao n cap) (hg : w.grownBy W (some cb)) (hne : w.heap.size ≠ cb) (hdef : a.defers = [] := by rfl) :
  bodyPost Tryz.prog Tryz.f133 (fun e w' => Any1 cb ao n cap w e w') Exit.ret a ((((W.setCell ⟨w.heap.size, 0, none⟩ (.int .i64 g)).setCell ⟨w.heap.size, 1, none⟩ (.int .i64 u)).setCell ⟨w.heap.size, 2, none⟩ f).setCell ⟨w.heap.size, 3, none⟩ (.string t)) :=
 bodyPost_ret hres hdef ⟨g, u, f, l, t, rfl, (((hd.set (Nat.lt_succ_self _)).set (Nat.lt_succ_self _)).set (Nat.lt_succ_self _)).set (Nat.lt_succ_self _), ht, (((hc.set hne).set hne).set hne).set hne, wst_new (wst_new (wst_new (wst_new hg (Nat.le_refl _) 0 _) (Nat.le_refl _) 1 _) (Nat.le_refl _) 2 _) (Nat.le_refl _) 3 _⟩
set_option maxHeartbeats 1600000 in
set_option maxRecDepth 100000 in
theorem l05Any_any (cb : Nat) (ao : Option Addr) (n cap : Nat) (w : World) (hn : n ≤ 1048576) (hcur : Cur w cb ao n cap) (hcode : Code w cb ao n) :
  Calls Tryz.prog 133 #[.pointer (some ⟨cb, 0, none⟩)] w fun e w' => Any1 cb ao n cap w e w' := by
 have hlt := hcur.lt
 have M0 := hid (Mg.new w 37 0 0 (.slice none 0 0) ⟨#[]⟩)
 have C0 := hid (hcur.alloc (.cells #[.int .i64 0, .int .i64 0, .slice none 0 0, .string ⟨#[]⟩] 37))
 have O0 := hid (hcode.later (World.grownBy_alloc w (.cells #[.int .i64 0, .int .i64 0, .slice none 0 0, .string ⟨#[]⟩] 37) (some cb)))
 clear hcur hcode
 go_enter Tryz.func133, Tryz.ntmps133
 go_wp2_with fail
 refine (below4 cb ao n cap _ hn C0.out O0.out 10 (by decide) (by decide)).mono ?_; rintro e w1 ⟨k, hk, rfl, hc, hg⟩
 have C1 := hid hc
 have G1 := hid (grown_push hg)
 have M1 := hid (M0.out.grown hg (by simp; omega))
 have O1 := hid (O0.out.later hg)
 clear hc hg M0 C0 O0
 go_wp2_with fail
 refine (below4 cb ao n cap _ hn C1.out O1.out 60 (by decide) (by decide)).mono ?_; rintro e w2 ⟨x, hx, rfl, hc, hg⟩
 have C2 := hid hc
 have G2 := hid (only_trans G1.out hg)
 have M2 := hid (M1.out.grown hg (by simp; omega))
 have O2 := hid (O1.out.later hg)
 clear hc hg M1 C1 O1 G1
 go_wp2_with fail
 refine (l05Mail_any cb ao n cap _ hn C2.out O2.out).mono ?_; rintro e w3 ⟨g, u, v, l, t, rfl, hl, ht, hown, hc, hg⟩
 obtain ⟨av, cv, hv, _⟩ := Ow.shape hown
 rw [hl] at hv
 subst hv
 have HT := hid ht
 have l2 := M2.out.lt
 have D3 := hid (Dl.of (B' := w.heap.size + 1) hown (by omega) (by omega) (by omega))
 have FB : Hid (∀ y, av = some y → y.block < w3.heap.size) := by
  intro y hy
  subst hy
  exact (hown.lt y.block rfl).2
 have C3 := hid hc
 have G3 := hid (only_trans G2.out hg)
 have M3 := hid (M2.out.grown hg (by simp; omega))
 have O3 := hid (O2.out.later hg)
 have L3 : w.heap.size < w3.heap.size := (M2.out.grown hg (by simp; omega)).lt
 have HL3 := hid L3
 have HL := hid hl
 clear ht hown hc hg M2 C2 O2 G2 l2 hl L3
 by_cases h0 : k = 0
 ·subst h0
  have cM : ∀ o1 o2, (((w3.alloc o1).alloc o2).cell? ⟨w.heap.size, 0, none⟩ = some (.int .i64 0) ∧ ((w3.alloc o1).alloc o2).cell? ⟨w.heap.size, 1, none⟩ = some (.int .i64 0) ∧ ((w3.alloc o1).alloc o2).cell? ⟨w.heap.size, 2, none⟩ = some (.slice none 0 0) ∧ ((w3.alloc o1).alloc o2).cell? ⟨w.heap.size, 3, none⟩ = some (.string ⟨#[]⟩)) := fun o1 o2 => ((M3.out.later (bpush (bre w3) o1)).later (bpush (bre _) o2)).cells
  have fM : ∀ o1 o2, (((w3.alloc o1).alloc o2).frozen? ⟨w.heap.size, 0, none⟩ = false ∧ ((w3.alloc o1).alloc o2).frozen? ⟨w.heap.size, 1, none⟩ = false ∧ ((w3.alloc o1).alloc o2).frozen? ⟨w.heap.size, 2, none⟩ = false ∧ ((w3.alloc o1).alloc o2).frozen? ⟨w.heap.size, 3, none⟩ = false) := fun o1 o2 => ((M3.out.later (bpush (bre w3) o1)).later (bpush (bre _) o2)).loose
  have h4 : (x : Int).tmod 4 = 0 ∨ (x : Int).tmod 4 = 1 ∨ (x : Int).tmod 4 = 2 ∨ (x : Int).tmod 4 = 3 := tmod4 x
  rcases h4 with h4 | h4 | h4 | h4
  ·go_wp2
   have l3 := HL3.out
   obtain ⟨o1, ho1⟩ : ∃ o1 : Obj, o1 = .cells #[.int .i64 0, .int .i64 u, .slice av 3 cv, .string t] 37 := ⟨_, rfl⟩
   have d3 := (set4 ((M3.out.later (bpush (bre w3) o1)).later (bpush (bre _) (.cells #[.int .i64 0, .int .i64 9999, .int .i64 10000, .int .i64 (-1)] 3))) 0 u (.slice av 3 cv) t).cells
   have DD := ((D3.out.later (bpush (bre w3) o1)).later (bpush (bre _) (.cells #[.int .i64 0, .int .i64 9999, .int .i64 10000, .int .i64 (-1)] 3)))
   have CC := ((C3.out.alloc o1).alloc (.cells #[.int .i64 0, .int .i64 9999, .int .i64 10000, .int .i64 (-1)] 3))
   have GG := only_trans (only_trans G3.out (World.grownBy_alloc w3 o1 (some cb))) (World.grownBy_alloc _ (.cells #[.int .i64 0, .int .i64 9999, .int .i64 10000, .int .i64 (-1)] 3) (some cb))
   subst ho1
   exact any_end 0 u (.slice av 3 cv) l t (by simp [results, Tryz.results133, go_sem, d3]) DD (Nat.le_trans HT.out (by decide)) CC GG (by omega)
  ·go_wp2
   have l3 := HL3.out
   obtain ⟨o1, ho1⟩ : ∃ o1 : Obj, o1 = .cells #[.int .i64 9999, .int .i64 u, .slice av 3 cv, .string t] 37 := ⟨_, rfl⟩
   have d3 := (set4 ((M3.out.later (bpush (bre w3) o1)).later (bpush (bre _) (.cells #[.int .i64 0, .int .i64 9999, .int .i64 10000, .int .i64 (-1)] 3))) 9999 u (.slice av 3 cv) t).cells
   have DD := ((D3.out.later (bpush (bre w3) o1)).later (bpush (bre _) (.cells #[.int .i64 0, .int .i64 9999, .int .i64 10000, .int .i64 (-1)] 3)))
   have CC := ((C3.out.alloc o1).alloc (.cells #[.int .i64 0, .int .i64 9999, .int .i64 10000, .int .i64 (-1)] 3))
   have GG := only_trans (only_trans G3.out (World.grownBy_alloc w3 o1 (some cb))) (World.grownBy_alloc _ (.cells #[.int .i64 0, .int .i64 9999, .int .i64 10000, .int .i64 (-1)] 3) (some cb))
   subst ho1
   exact any_end 9999 u (.slice av 3 cv) l t (by simp [results, Tryz.results133, go_sem, d3]) DD (Nat.le_trans HT.out (by decide)) CC GG (by omega)
  ·go_wp2
   have l3 := HL3.out
   obtain ⟨o1, ho1⟩ : ∃ o1 : Obj, o1 = .cells #[.int .i64 10000, .int .i64 u, .slice av 3 cv, .string t] 37 := ⟨_, rfl⟩
   have d3 := (set4 ((M3.out.later (bpush (bre w3) o1)).later (bpush (bre _) (.cells #[.int .i64 0, .int .i64 9999, .int .i64 10000, .int .i64 (-1)] 3))) 10000 u (.slice av 3 cv) t).cells
   have DD := ((D3.out.later (bpush (bre w3) o1)).later (bpush (bre _) (.cells #[.int .i64 0, .int .i64 9999, .int .i64 10000, .int .i64 (-1)] 3)))
   have CC := ((C3.out.alloc o1).alloc (.cells #[.int .i64 0, .int .i64 9999, .int .i64 10000, .int .i64 (-1)] 3))
   have GG := only_trans (only_trans G3.out (World.grownBy_alloc w3 o1 (some cb))) (World.grownBy_alloc _ (.cells #[.int .i64 0, .int .i64 9999, .int .i64 10000, .int .i64 (-1)] 3) (some cb))
   subst ho1
   exact any_end 10000 u (.slice av 3 cv) l t (by simp [results, Tryz.results133, go_sem, d3]) DD (Nat.le_trans HT.out (by decide)) CC GG (by omega)
  ·go_wp2
   have l3 := HL3.out
   obtain ⟨o1, ho1⟩ : ∃ o1 : Obj, o1 = .cells #[.int .i64 (-1), .int .i64 u, .slice av 3 cv, .string t] 37 := ⟨_, rfl⟩
   have d3 := (set4 ((M3.out.later (bpush (bre w3) o1)).later (bpush (bre _) (.cells #[.int .i64 0, .int .i64 9999, .int .i64 10000, .int .i64 (-1)] 3))) (-1) u (.slice av 3 cv) t).cells
   have DD := ((D3.out.later (bpush (bre w3) o1)).later (bpush (bre _) (.cells #[.int .i64 0, .int .i64 9999, .int .i64 10000, .int .i64 (-1)] 3)))
   have CC := ((C3.out.alloc o1).alloc (.cells #[.int .i64 0, .int .i64 9999, .int .i64 10000, .int .i64 (-1)] 3))
   have GG := only_trans (only_trans G3.out (World.grownBy_alloc w3 o1 (some cb))) (World.grownBy_alloc _ (.cells #[.int .i64 0, .int .i64 9999, .int .i64 10000, .int .i64 (-1)] 3) (some cb))
   subst ho1
   exact any_end (-1) u (.slice av 3 cv) l t (by simp [results, Tryz.results133, go_sem, d3]) DD (Nat.le_trans HT.out (by decide)) CC GG (by omega)
 by_cases h1 : k = 1
 ·subst h1
  have cM : ∀ o1 o2, (((w3.alloc o1).alloc o2).cell? ⟨w.heap.size, 0, none⟩ = some (.int .i64 0) ∧ ((w3.alloc o1).alloc o2).cell? ⟨w.heap.size, 1, none⟩ = some (.int .i64 0) ∧ ((w3.alloc o1).alloc o2).cell? ⟨w.heap.size, 2, none⟩ = some (.slice none 0 0) ∧ ((w3.alloc o1).alloc o2).cell? ⟨w.heap.size, 3, none⟩ = some (.string ⟨#[]⟩)) := fun o1 o2 => ((M3.out.later (bpush (bre w3) o1)).later (bpush (bre _) o2)).cells
  have fM : ∀ o1 o2, (((w3.alloc o1).alloc o2).frozen? ⟨w.heap.size, 0, none⟩ = false ∧ ((w3.alloc o1).alloc o2).frozen? ⟨w.heap.size, 1, none⟩ = false ∧ ((w3.alloc o1).alloc o2).frozen? ⟨w.heap.size, 2, none⟩ = false ∧ ((w3.alloc o1).alloc o2).frozen? ⟨w.heap.size, 3, none⟩ = false) := fun o1 o2 => ((M3.out.later (bpush (bre w3) o1)).later (bpush (bre _) o2)).loose
  have h4 : (x : Int).tmod 3 = 0 ∨ (x : Int).tmod 3 = 1 ∨ (x : Int).tmod 3 = 2 := tmod3 x
  rcases h4 with h4 | h4 | h4
  ·go_wp2
   have l3 := HL3.out
   obtain ⟨o1, ho1⟩ : ∃ o1 : Obj, o1 = .cells #[.int .i64 g, .int .i64 0, .slice av 3 cv, .string t] 37 := ⟨_, rfl⟩
   have d3 := (set4 ((M3.out.later (bpush (bre w3) o1)).later (bpush (bre _) (.cells #[.int .i64 0, .int .i64 9999, .int .i64 10000] 3))) g 0 (.slice av 3 cv) t).cells
   have DD := ((D3.out.later (bpush (bre w3) o1)).later (bpush (bre _) (.cells #[.int .i64 0, .int .i64 9999, .int .i64 10000] 3)))
   have CC := ((C3.out.alloc o1).alloc (.cells #[.int .i64 0, .int .i64 9999, .int .i64 10000] 3))
   have GG := only_trans (only_trans G3.out (World.grownBy_alloc w3 o1 (some cb))) (World.grownBy_alloc _ (.cells #[.int .i64 0, .int .i64 9999, .int .i64 10000] 3) (some cb))
   subst ho1
   exact any_end g 0 (.slice av 3 cv) l t (by simp [results, Tryz.results133, go_sem, d3]) DD (Nat.le_trans HT.out (by decide)) CC GG (by omega)
  ·go_wp2
   have l3 := HL3.out
   obtain ⟨o1, ho1⟩ : ∃ o1 : Obj, o1 = .cells #[.int .i64 g, .int .i64 9999, .slice av 3 cv, .string t] 37 := ⟨_, rfl⟩
   have d3 := (set4 ((M3.out.later (bpush (bre w3) o1)).later (bpush (bre _) (.cells #[.int .i64 0, .int .i64 9999, .int .i64 10000] 3))) g 9999 (.slice av 3 cv) t).cells
   have DD := ((D3.out.later (bpush (bre w3) o1)).later (bpush (bre _) (.cells #[.int .i64 0, .int .i64 9999, .int .i64 10000] 3)))
   have CC := ((C3.out.alloc o1).alloc (.cells #[.int .i64 0, .int .i64 9999, .int .i64 10000] 3))
   have GG := only_trans (only_trans G3.out (World.grownBy_alloc w3 o1 (some cb))) (World.grownBy_alloc _ (.cells #[.int .i64 0, .int .i64 9999, .int .i64 10000] 3) (some cb))
   subst ho1
   exact any_end g 9999 (.slice av 3 cv) l t (by simp [results, Tryz.results133, go_sem, d3]) DD (Nat.le_trans HT.out (by decide)) CC GG (by omega)
  ·go_wp2
   have l3 := HL3.out
   obtain ⟨o1, ho1⟩ : ∃ o1 : Obj, o1 = .cells #[.int .i64 g, .int .i64 10000, .slice av 3 cv, .string t] 37 := ⟨_, rfl⟩
   have d3 := (set4 ((M3.out.later (bpush (bre w3) o1)).later (bpush (bre _) (.cells #[.int .i64 0, .int .i64 9999, .int .i64 10000] 3))) g 10000 (.slice av 3 cv) t).cells
   have DD := ((D3.out.later (bpush (bre w3) o1)).later (bpush (bre _) (.cells #[.int .i64 0, .int .i64 9999, .int .i64 10000] 3)))
   have CC := ((C3.out.alloc o1).alloc (.cells #[.int .i64 0, .int .i64 9999, .int .i64 10000] 3))
   have GG := only_trans (only_trans G3.out (World.grownBy_alloc w3 o1 (some cb))) (World.grownBy_alloc _ (.cells #[.int .i64 0, .int .i64 9999, .int .i64 10000] 3) (some cb))
   subst ho1
   exact any_end g 10000 (.slice av 3 cv) l t (by simp [results, Tryz.results133, go_sem, d3]) DD (Nat.le_trans HT.out (by decide)) CC GG (by omega)
 have N3 := hid (bpush (bre w3) (.cells #[.int .i64 g, .int .i64 u, .slice av 3 cv, .string t] 37))
 have X4 := hid (Mg.new w3 37 g u (.slice av 3 cv) t)
 have M4 := hid (M3.out.later N3.out)
 have C4 := hid (C3.out.alloc (.cells #[.int .i64 g, .int .i64 u, .slice av 3 cv, .string t] 37))
 have G4 := hid (only_trans G3.out (World.grownBy_alloc w3 (.cells #[.int .i64 g, .int .i64 u, .slice av 3 cv, .string t] 37) (some cb)))
 have D4 := hid (D3.out.later N3.out)
 have O4 := hid (O3.out.later (World.grownBy_alloc w3 (.cells #[.int .i64 g, .int .i64 u, .slice av 3 cv, .string t] 37) (some cb)))
 have c4 := X4.out.cells
 have f4 := X4.out.loose
 have d4 := M4.out.cells
 have e4 := M4.out.loose
 have LW4 : Hid (w3.heap.size < (w3.alloc (.cells #[.int .i64 g, .int .i64 u, .slice av 3 cv, .string t] 37)).heap.size) := X4.out.lt
 clear M3 C3 G3 D3 O3 N3
 by_cases h2 : k = 2
 ·subst h2
  go_wp2_with fail
  refine (l04Any_any cb ao n cap _ hn C4.out O4.out).mono ?_; rintro e w5 ⟨v5, l5, rfl, hd, hc, hg⟩
  obtain ⟨a5, c5, rfl, q1, q2, q3, q4, q5⟩ := hd
  have D5 : Hid (Dl w5 (w3.alloc (.cells #[.int .i64 g, .int .i64 u, .slice av 3 cv, .string t] 37)).heap.size (.slice a5 l5.length c5) l5) := ⟨a5, c5, rfl, q1, q2, q3, q4, q5⟩
  have l3 := HL3.out
  have l4 := LW4.out
  have X5 := hid (X4.out.grown hg (by simp; omega))
  have M5 := hid ((M4.out.grown hg (by simp; omega)).far (j := w3.heap.size) (i := 2) (.slice a5 l5.length c5) (by omega))
  have C5 := hid (hc.set (k := w3.heap.size) (o := 2) (u := .slice a5 l5.length c5) (by omega))
  have G5 := hid (wst_new (only_trans G4.out hg) (j := w3.heap.size) (by omega) 2 (.slice a5 l5.length c5))
  have D6 := hid ((D5.out.set (k := w3.heap.size) (o := 2) (u := .slice a5 l5.length c5) l4).lower (B' := w.heap.size + 1) (by omega))
  have X6 := hid (X5.out.s2 (.slice a5 l5.length c5))
  have cc := X5.out.cells
  have ff := X5.out.loose
  have dd := X6.out.cells
  have d6 := M5.out.cells
  have e6 := M5.out.loose
  clear c4 f4 d4 e4 hc hg q1 q2 q3 q4 q5 l3 l4
  go_wp2
  have l3 := HL3.out
  have d3 := (set4 M5.out g u (.slice a5 l5.length c5) t).cells
  exact any_end g u (.slice a5 l5.length c5) l5 t (by simp [results, Tryz.results133, go_sem, d3]) D6.out (Nat.le_trans HT.out (by decide)) C5.out G5.out (by omega)
 by_cases h3 : k = 3
 ·subst h3
  obtain ⟨r, hr, hr2⟩ : ∃ r : Nat, (x : Int).tmod 2 = (r : Int) ∧ r < 2 := tmodTwo x
  have hrI : (0 : Int) ≤ (r : Int) ∧ (r : Int) < 2 := by omega
  go_wp2_with fail
  rw [show (60 : Int) + (r : Int) = ((60 + r : Nat) : Int) by omega]
  refine (long_any (60 + r) 97 _ (by omega)).mono ?_; rintro e w5 ⟨bs, hbs, rfl, hb⟩
  have l3 := HL3.out
  have l4 := LW4.out
  have X5 := hid (X4.out.later hb)
  have M5 := hid ((M4.out.later hb).far (j := w3.heap.size) (i := 3) (.string ⟨bs.toArray⟩) (by omega))
  have C5 := hid ((C4.out.later hb C4.out.lt).set (k := w3.heap.size) (o := 3) (u := .string ⟨bs.toArray⟩) (by omega))
  have G5 := hid (wst_new (only_trans G4.out (grown_below hb (some cb))) (j := w3.heap.size) (by omega) 3 (.string ⟨bs.toArray⟩))
  have D5 := hid ((D4.out.later hb).far (k := w3.heap.size) (o := 3) (u := .string ⟨bs.toArray⟩) (by intro y hy; have := FB.out y hy; omega))
  have X6 := hid (X5.out.s3 ⟨bs.toArray⟩)
  have HB : Hid ((⟨bs.toArray⟩ : ByteArray).size ≤ 100) := by show bs.toArray.size ≤ 100; simp [hbs]; omega
  have cc := X5.out.cells
  have ff := X5.out.loose
  have dd := X6.out.cells
  have d6 := M5.out.cells
  have e6 := M5.out.loose
  clear c4 f4 d4 e4 hb l3 l4 hbs
  obtain ⟨tt, htt⟩ : ∃ tt : ByteArray, ⟨bs.toArray⟩ = tt := ⟨_, rfl⟩
  rw [htt] at M5 C5 G5 D5 X6 HB d6 e6 dd ⊢
  clear htt
  go_wp2
  have l3 := HL3.out
  have d3 := (set4 M5.out g u (.slice av 3 cv) tt).cells
  exact any_end g u (.slice av 3 cv) l tt (by simp [results, Tryz.results133, go_sem, d3]) D5.out HB.out C5.out G5.out (by omega)
 ·have hk0 : ((k : Int) == 0) = false := beq_eq_false_iff_ne.2 (by omega)
  have hk1 : ((k : Int) == 1) = false := beq_eq_false_iff_ne.2 (by omega)
  have hk2 : ((k : Int) == 2) = false := beq_eq_false_iff_ne.2 (by omega)
  have hk3 : ((k : Int) == 3) = false := beq_eq_false_iff_ne.2 (by omega)
  go_wp2
  have l3 := HL3.out
  have d3 := (set4 M4.out g u (.slice av 3 cv) t).cells
  exact any_end g u (.slice av 3 cv) l t (by simp [results, Tryz.results133, go_sem, d3]) D4.out (Nat.le_trans HT.out (by decide)) C4.out G4.out (by omega)
end Go.Proofs.YtmpcmllfgogegaaGreat
namespace Go.Proofs.YtmpcmllfgogegaaGreat
open Go.RowKit
end Go.Proofs.YtmpcmllfgogegaaGreat
namespace Go.Proofs.YtmpcmllfgogegaaGreat
open Go.RowKit
theorem Rb.wide {lo hi lo' hi' : Nat} {W : World} {a : Option Addr} {l : List R3} (h : Rb lo hi W a l) (h1 : lo' ≤ lo) (h2 : hi ≤ hi') : Rb lo' hi' W a l := by
 intro hn
 obtain ⟨k, o, e1, e2, e3, e4⟩ := h hn
 exact ⟨k, o, e1, by omega, by omega, e4⟩
theorem Ms.wide {lo hi lo' hi' : Nat} {W : World} {a : Option Addr} {L : List M4} (h : Ms lo hi W a L) (h1 : lo' ≤ lo) (h2 : hi ≤ hi') (h3 : hi' ≤ W.heap.size) : Ms lo' hi' W a L := by
 refine ⟨h3, fun i hi' => ?_⟩
 obtain ⟨k, o, fa, fc, e1, e2, e3, e4, e5, e6⟩ := h.2 i hi'
 exact ⟨k, o, fa, fc, e1, by omega, by omega, e4, e5.wide h1 h2, e6⟩
end Go.Proofs.YtmpcmllfgogegaaGreat
namespace Go.Proofs.YtmpcmllfgogegaaGreat
open Go.RowKit
end Go.Proofs.YtmpcmllfgogegaaGreat
namespace Go.Proofs.YtmpcmllfgogegaaGreat
open Go.RowKit
end Go.Proofs.YtmpcmllfgogegaaGreat
namespace Go.Proofs.YtmpcmllfgogegaaGreat
open Go.RowKit
section
variable {W W' : World} {k ty : Nat} {g : Int} {nm : ByteArray} {t b nx : Int} {ms gs : Value}
end
theorem OwB.later {W W' : World} {B : Nat} {mv gv : Value} {L : List M4} {G : List Int} (h : OwB W B mv gv L G) (hb : Below W.heap.size W W') : OwB W' B mv gv L G := by
 obtain ⟨Z, h1, h2, h3, h4⟩ := h
 exact ⟨Z, h1, h2.later hb, own_later h3 hb, h4⟩
end Go.Proofs.YtmpcmllfgogegaaGreat
namespace Go.Proofs.YtmpcmllfgogegaaGreat
open Go.RowKit
end Go.Proofs.YtmpcmllfgogegaaGreat
namespace Go.Proofs.YtmpcmllfgogegaaGreat
open Go.RowKit
end Go.Proofs.YtmpcmllfgogegaaGreat
namespace Go.Proofs.YtmpcmllfgogegaaGreat
open Go.RowKit
end Go.Proofs.YtmpcmllfgogegaaGreat
namespace Go.Proofs.YtmpcmllfgogegaaGreat
open Go.RowKit Go.ChangeMaps
end Go.Proofs.YtmpcmllfgogegaaGreat
namespace Go.Proofs.YtmpcmllfgogegaaGreat
open Go.RowKit
end Go.Proofs.YtmpcmllfgogegaaGreat
namespace Go.Proofs.YtmpcmllfgogegaaGreat
open Go.RowKit Go.ChangeMaps
section
variable {k : Nat} {g : Int} {nm : ByteArray} {t b nx : Int} {L : List M4} {G : List Int}
theorem Dbx.mono {k' : Nat} (h : Dbx k g nm t b nx L G) (hk : k ≤ k') : Dbx k' g nm t b nx L G :=
 ⟨h.right, by have := h.next; omega, Nat.le_trans h.gone hk, h.each, h.out⟩
theorem gd_fnew {fl st sb : Int} (hs : 0 ≤ st ∧ st < 12 ∧ 1 ≤ sb ∧ sb ≤ 2) : ∀ p ∈ fnew fl st sb, gd p := by
 intro p hp
 simp only [fnew, List.mem_cons, List.not_mem_nil, or_false] at hp
 have h0 := bit_le fl 0
 have h1 := bit_le fl 1
 have h2 := bit_le fl 2
 rcases hp with rfl | rfl | rfl
 ·exact ⟨⟨h0.1, by omega⟩, hs⟩
 ·exact ⟨⟨h1.1, by omega⟩, hs⟩
 ·exact ⟨⟨h2.1, by omega⟩, hs⟩
theorem gd_sl {l : List R3} {n st sb : Int} (hs : 0 ≤ st ∧ st < 12 ∧ 1 ≤ sb ∧ sb ≤ 2) (h : ∀ p ∈ l, gd p) : ∀ p ∈ sl l n st sb, gd p := by
 intro p hp
 unfold sl at hp
 split at hp
 ·obtain ⟨i, hi, rfl⟩ := List.mem_mapIdx.1 hp
  have ho := h l[i] (List.getElem_mem hi)
  unfold sp
  split
  ·exact ho
  ·unfold pp
   split
   ·have h0 := bit_le n i
    exact ⟨⟨h0.1, by show bit n i < 2; omega⟩, hs⟩
   ·exact ho
 ·exact h p hp
theorem Dbx.add {gid fl : Int} {tx : ByteArray} {st sb : Int} (h : Dbx k g nm t b nx L G) (hg : 10 ≤ gid ∧ gid ≤ 18) (hs : 0 ≤ st ∧ st < 12 ∧ 1 ≤ sb ∧ sb ≤ 2) :
  Dbx (k + 1) g nm t b (amN (amOk g nm t b nx L G gid fl tx st sb) nx) (amL (amOk g nm t b nx L G gid fl tx st sb) L (nwm gid nx fl tx st sb)) G := by
 refine ⟨am_right h.right, ?_, Nat.le_succ_of_le h.gone, fun m hm => ?_, h.out⟩
 ·have := h.next
  unfold amN
  split <;> omega
 ·unfold amL at hm
  split at hm
  ·rcases List.mem_append.1 hm with hm | hm
   ·exact h.each m hm
   ·simp only [List.mem_cons, List.not_mem_nil, or_false] at hm
    subst hm
    exact ⟨hg, gd_fnew hs⟩
  ·exact h.each m hm
theorem Dbx.flag {p : Bool} {gid n st sb : Int} (h : Dbx k g nm t b nx L G) (hs : 0 ≤ st ∧ st < 12 ∧ 1 ≤ sb ∧ sb ≤ 2) :
  Dbx (k + 1) g nm t b nx (fmL p L gid n st sb) G := by
 refine ⟨fm_right h.right, by have := h.next; omega, Nat.le_succ_of_le h.gone, fun m hm => ?_, h.out⟩
 unfold fmL at hm
 split at hm
 ·obtain ⟨x, hx, rfl⟩ := List.mem_map.1 hm
  have hx' := h.each x hx
  split
  ·exact ⟨hx'.1, gd_sl hs hx'.2⟩
  ·exact hx'
 ·exact h.each m hm
theorem Dbx.take {gid : Int} (h : Dbx k g nm t b nx L G) (hg : 10 ≤ gid ∧ gid ≤ 18) :
  Dbx (k + 1) g nm t b nx (tkL (tkOk g nm t b nx L G gid) L gid) (tkG (tkOk g nm t b nx L G gid) G gid) := by
 refine ⟨tk_right h.right, by have := h.next; omega, ?_, fun m hm => h.each m ((tk_sub _ L gid).subset hm), fun x hx => ?_⟩
 ·unfold tkG
  split
  ·next hk =>
   simp only [tkOk, Bool.and_eq_true, decide_eq_true_eq] at hk
   obtain ⟨h1, h2, h3, h4, h5, h6, h7, h8, h9⟩ := bx_iff.1 h.right
   obtain ⟨A, m, C, hL, hm, hA, hC⟩ := any_split h9 hk.2.1
   have hmm := h7 m (by rw [hL]; simp)
   have hgk : gok gid = true := by
    have := hmm.1
    simp only [mlOk, Bool.and_eq_true] at this
    rw [← hm]
    exact this.1
   have hni : ∀ y ∈ G, y ≠ gid := by rw [← hm]; exact inl_not hmm.2.2
   rw [(pin_gn h6 hgk hni hk.2.2).2]
   have := h.gone
   omega
  ·exact Nat.le_succ_of_le h.gone
 ·unfold tkG at hx
  split at hx
  ·unfold pin at hx
   rcases List.mem_append.1 hx with hx | hx
   ·exact h.out x (List.mem_filter.1 hx).1
   ·rcases List.mem_cons.1 hx with rfl | hx
    ·exact hg
    ·exact h.out x (List.mem_filter.1 hx).1
  ·exact h.out x hx
end
theorem dbx_start {nm : ByteArray} {t b : Int} (y : Nat) (hn : nmOk nm = true) (hs : 0 ≤ t ∧ t < 12 ∧ 1 ≤ b ∧ b ≤ 2) (hy : y < 4) : Dbx 0 7 nm t b (1 + (y : Int)) [] [] := by
 refine ⟨bx_iff.2 ⟨by decide, hn, by simp only [stOk, decide_eq_true_eq]; omega, ⟨by omega, by omega⟩, by simp, by decide, fun m hm => by simp at hm, List.Pairwise.nil, by decide⟩, by omega, by simp, fun m hm => by simp at hm, fun x hx => by simp at hx⟩
theorem Dbx.sm {k : Nat} {g : Int} {nm : ByteArray} {t b nx : Int} {L : List M4} {G : List Int} (h : Dbx k g nm t b nx L G) : L.length ≤ 10 ∧ G.length ≤ 40 ∧ Sm L ∧ nm.size ≤ 12 := by
 obtain ⟨h1, h2, h3⟩ := bx_small h.right
 refine ⟨h1, h2, fun m hm => ?_, ?_⟩
 ·have := h3 m hm
  omega
 ·have := (bx_iff.1 h.right).2.1
  simp only [nmOk, Bool.and_eq_true, decide_eq_true_eq] at this
  omega
end Go.Proofs.YtmpcmllfgogegaaGreat
namespace Go.Proofs.YtmpcmllfgogegaaGreat
open Go.RowKit Go.ChangeMaps
section
variable {k : Nat} {g : Int} {nm : ByteArray} {t b nx : Int} {L : List M4} {G : List Int}
theorem add_l (h : Dbx k g nm t b nx L G) (mn gn : Nat) (hl : L.length = mn) (hgl : G.length = gn) (gid fl : Int) (tx : ByteArray) (st sb : Int) (hg : 10 ≤ gid ∧ gid ≤ 18) (hs : 0 ≤ st ∧ st < 12 ∧ 1 ≤ sb ∧ sb ≤ 2) (htx : tx.size ≤ 1048576) :
  ∃ (p : Bool) (ny : Int) (K : List M4) (N : Nat), Hid (K.length = N) ∧ Hid (Dbx (k + 1) g nm t b ny K G) ∧
   Hid (∀ (lo hh lo' hh' : Nat) (ma : Option Addr) (mc : Nat) (ga : Option Addr) (gc : Nat) (w : World), Ms lo hh w ma L → Is lo' hh' w ga G → (ga = none → gc = 0) →
     Calls Tryz.prog 74 #[.agg #[.int .i64 g, .string nm, .int .i64 t, .int .i64 b, .int .i64 nx, .slice ma mn mc, .slice ga gn gc], .int .i64 gid, .int .i64 fl, .string tx, .agg #[.int .i64 st, .int .i64 sb]] w fun e w' => ∃ a c a' c', e = .returned (.tuple #[.agg #[.int .i64 g, .string nm, .int .i64 t, .int .i64 b, .int .i64 ny, .slice a N c, .slice a' gn c'], .bool p]) ∧ OwB w' w.heap.size (.slice a N c) (.slice a' gn c') K G ∧ Below w.heap.size w w') := by
 obtain ⟨h1, h2, h3, h4⟩ := h.sm
 refine ⟨amOk g nm t b nx L G gid fl tx st sb, amN (amOk g nm t b nx L G gid fl tx st sb) nx, amL (amOk g nm t b nx L G gid fl tx st sb) L (nwm gid nx fl tx st sb), _, rfl, h.add (gid := gid) (fl := fl) (tx := tx) hg hs, fun lo hh lo' hh' ma mc ga gc w hm hi h0 => ?_⟩
 refine (specAdd_any lo hh lo' hh' g nm t b nx ma mn mc ga gn gc L G gid fl tx st sb w (by omega) hl (by omega) h3 hm hgl (by omega) hi h0 htx).mono ?_
 rintro e w' ⟨mv, gv, rfl, ho, hb⟩
 obtain ⟨a, c, a', c', rfl, rfl⟩ := ho.shape
 rw [hgl] at ho ⊢
 exact ⟨a, c, a', c', rfl, ho, hb⟩
theorem take_l (h : Dbx k g nm t b nx L G) (mn gn : Nat) (hl : L.length = mn) (hgl : G.length = gn) (gid : Int) (hg : 10 ≤ gid ∧ gid ≤ 18) :
  ∃ (p : Bool) (K : List M4) (H : List Int) (N M : Nat), Hid (K.length = N) ∧ Hid (H.length = M) ∧ Hid (Dbx (k + 1) g nm t b nx K H) ∧
   Hid (∀ (lo hh lo' hh' : Nat) (ma : Option Addr) (mc : Nat) (ga : Option Addr) (gc : Nat) (w : World), Ms lo hh w ma L → Is lo' hh' w ga G → (ga = none → gc = 0) →
     Calls Tryz.prog 78 #[.agg #[.int .i64 g, .string nm, .int .i64 t, .int .i64 b, .int .i64 nx, .slice ma mn mc, .slice ga gn gc], .int .i64 gid] w fun e w' => ∃ a c a' c', e = .returned (.tuple #[.agg #[.int .i64 g, .string nm, .int .i64 t, .int .i64 b, .int .i64 nx, .slice a N c, .slice a' M c'], .bool p]) ∧ OwB w' w.heap.size (.slice a N c) (.slice a' M c') K H ∧ Below w.heap.size w w') := by
 obtain ⟨h1, h2, h3, h4⟩ := h.sm
 refine ⟨tkOk g nm t b nx L G gid, tkL (tkOk g nm t b nx L G gid) L gid, tkG (tkOk g nm t b nx L G gid) G gid, _, _, rfl, rfl, h.take (gid := gid) hg, fun lo hh lo' hh' ma mc ga gc w hm hi h0 => ?_⟩
 refine (specTake_any lo hh lo' hh' g nm t b nx ma mn mc ga gn gc L G gid w (by omega) hl (by omega) h3 hm hgl (by omega) hi h0).mono ?_
 rintro e w' ⟨mv, gv, rfl, ho, hb⟩
 obtain ⟨a, c, a', c', rfl, rfl⟩ := ho.shape
 exact ⟨a, c, a', c', rfl, ho, hb⟩
end
end Go.Proofs.YtmpcmllfgogegaaGreat
namespace Go.Proofs.YtmpcmllfgogegaaGreat
open Go.RowKit Go.ChangeMaps
theorem pickm_any (cb g k : Nat) (zs : List ByteArray) (ao : Option Addr) (n cap : Nat) (w : World) (hn : n ≤ 1048576) (hcur : Cur w cb ao n cap) (hcode : Code w cb ao n) (hk : zs.length = k) (hk0 : 0 < k) (hk2 : k ≤ 1000) (hg : g ≠ cb)
  (hcell : ∀ i (h : i < zs.length), w.cell? ⟨g, i, none⟩ = some (.string zs[i])) :
  Calls Tryz.prog 115 #[.pointer (some ⟨cb, 0, none⟩), .slice (some ⟨g, 0, none⟩) k k] w fun e w' => ∃ x : ByteArray, x ∈ zs ∧ e = .returned (.string x) ∧ Cur w' cb ao n cap ∧ w.grownBy w' (some cb) := by
 have HC := hide hcur
 have HO := hide hcode
 have HK := hide hk
 have HCELL := hide hcell
 clear hcur hcode hk hcell
 go_enter Tryz.func115, Tryz.ntmps115
 go_wp2_with fail
 refine (below4 cb ao n cap _ hn (unhide HC) (unhide HO) k (by omega) (by omega)).mono ?_; rintro e w1 ⟨x, hx, rfl, hc1, hb1⟩
 have hxl : x < zs.length := by rw [unhide HK]; omega
 obtain ⟨y, hy⟩ : ∃ y, zs[x] = y := ⟨_, rfl⟩
 have hc : w1.cell? ⟨g, x, none⟩ = some (.string y) := hb1.cell (by rw [← hy]; exact unhide HCELL x hxl) (by simp; omega)
 have HY : Hid (y ∈ zs) := by show _ ∈ _; rw [← hy]; exact List.getElem_mem _
 have HC1 := hide hc1
 have hI : (0 : Int) ≤ (x : Int) ∧ (x : Int) < (k : Int) := by omega
 clear hc1 hy
 go_wp2
 go_ret
 exact ⟨y, HY.out, rfl, unhide HC1, hb1⟩
theorem three_strs {W : World} {k e : Nat} {a b c : ByteArray} (h : W.heap[k]? = some (.cells #[.string a, .string b, .string c] e (0, 0))) : ∀ i (h : i < [a, b, c].length), W.cell? ⟨k, i, none⟩ = some (.string [a, b, c][i]) := by
 intro i hi
 have h2 : i = 0 ∨ i = 1 ∨ i = 2 := by simp at hi; omega
 rcases h2 with rfl | rfl | rfl
 ·exact cell_of_row _ _ 0 _ _ _ h
 ·exact cell_of_row _ _ 1 _ _ _ h
 ·exact cell_of_row _ _ 2 _ _ _ h
section
variable {w W W' : World} {cb : Nat} {ao : Option Addr} {n cap kS : Nat} {t b : Int}
theorem Pb.drew (h : Pb w W cb ao n cap kS t b) : Pb w W.drew cb ao n cap kS t b := ⟨h.res, h.sg, h.cur, gdr h.gr, h.lo, h.hi⟩
theorem Pb.alloc (h : Pb w W cb ao n cap kS t b) (o : Obj) : Pb w (W.alloc o) cb ao n cap kS t b :=
 ⟨h.res.later (bpush (bre _) _), h.sg.later (bpush (bre _) _), h.cur.alloc _, gal h.gr _, h.lo, h.hi⟩
theorem Pb.draw (h : Pb w W cb ao n cap kS t b) (hg : W.grownBy W' (some cb)) (hc : Cur W' cb ao n cap) : Pb w W' cb ao n cap kS t b := by
 have h1 := h.lo
 have h2 := h.hi
 exact ⟨h.res.grown hg (fun e => by simp only [Option.some.injEq] at e; omega), h.sg.kept hg (by omega), hc, only_trans h.gr hg, h.lo, h.hi⟩
theorem Pb.size (h : Pb w W cb ao n cap kS t b) : w.heap.size < W.heap.size := h.res.lt
end
theorem Bx.far {W W' : World} {k ty cb : Nat} {g : Int} {nm : ByteArray} {t b nx : Int} {ms gs : Value} (h : Bx W k ty g nm t b nx ms gs) (hg : W.grownBy W' (some cb)) (hk : k ≠ cb) : Bx W' k ty g nm t b nx ms gs := h.grown hg (fun e => by simp only [Option.some.injEq] at e; omega)
section
variable {w W W' : World} {cb : Nat} {ao : Option Addr} {n cap kb k : Nat} {nm : ByteArray} {t b nx : Int} {ma : Option Addr} {mn mc : Nat} {ga : Option Addr} {gn gc : Nat} {L : List M4} {G : List Int}
theorem Lb.drew (h : Lb w W cb ao n cap kb k nm t b nx ma mn mc ga gn gc L G) : Lb w W.drew cb ao n cap kb k nm t b nx ma mn mc ga gn gc L G :=
 ⟨h.res, h.box, h.own.later (bdr (bre _)), h.dbx, h.cur, gdr h.gr, h.lo, h.hi⟩
theorem Lb.later (h : Lb w W cb ao n cap kb k nm t b nx ma mn mc ga gn gc L G) (hb : Below W.heap.size W W') : Lb w W' cb ao n cap kb k nm t b nx ma mn mc ga gn gc L G :=
 ⟨h.res.later hb, h.box.later hb, h.own.later hb, h.dbx, h.cur.later hb h.cur.lt, only_add h.gr (hb.mono h.gr.size), h.lo, h.hi⟩
theorem Lb.draw (h : Lb w W cb ao n cap kb k nm t b nx ma mn mc ga gn gc L G) (hg : W.grownBy W' (some cb)) (hc : Cur W' cb ao n cap) : Lb w W' cb ao n cap kb k nm t b nx ma mn mc ga gn gc L G := by
 have h1 := h.lo
 have h2 := h.hi
 exact ⟨h.res.far hg (by omega), h.box.far hg (by omega), h.own.grown hg (by omega), h.dbx, hc, only_trans h.gr hg, h.lo, h.hi⟩
theorem Lb.reads (h : Lb w W cb ao n cap kb k nm t b nx ma mn mc ga gn gc L G) : mn = L.length ∧ gn = G.length ∧ Ms (kb + 1) W.heap.size W ma L ∧ Is (kb + 1) W.heap.size W ga G := h.own.reads
theorem Lb.put {k' : Nat} {nx' : Int} {a : Option Addr} {N c : Nat} {a' : Option Addr} {M c' : Nat} {K : List M4} {H : List Int} {wv : World} (h : Lb w W cb ao n cap kb k nm t b nx ma mn mc ga gn gc L G) (hb : Below W.heap.size W wv) (ho : OwB wv W.heap.size (.slice a N c) (.slice a' M c') K H) (hd : Dbx k' 7 nm t b nx' K H) :
  Lb w (((((((wv.setCell ⟨kb, 0, none⟩ (.int .i64 7)).setCell ⟨kb, 1, none⟩ (.string nm)).setCell ⟨kb, 2, none⟩ (.int .i64 t)).setCell ⟨kb, 3, none⟩ (.int .i64 b)).setCell ⟨kb, 4, none⟩ (.int .i64 nx')).setCell ⟨kb, 5, none⟩ (.slice a N c)).setCell ⟨kb, 6, none⟩ (.slice a' M c')) cb ao n cap kb k' nm t b nx' a N c a' M c' K H := by
 have h1 := h.lo
 have h2 := h.hi
 have h3 := h.box.lt
 have hl := h.later hb
 have hg := set7_grown wv kb 7 nm t b nx' (.slice a N c) (.slice a' M c')
 have hx := hl.box.set7 7 nm t b nx' (.slice a N c) (.slice a' M c')
 unfold set7 at hg hx
 refine ⟨hl.res.far hg (by omega), hx, ?_, hd, ?_, ?_, h1, h2⟩
 ·exact (ho.base (B := kb + 1) (by omega)).grown hg (by omega)
 ·exact ((((((hl.cur.set (by omega)).set (by omega)).set (by omega)).set (by omega)).set (by omega)).set (by omega)).set (by omega)
 ·exact gset (gset (gset (gset (gset (gset (gset hl.gr (by omega) _ _) (by omega) _ _) (by omega) _ _) (by omega) _ _) (by omega) _ _) (by omega) _ _) (by omega) _ _
end
theorem nm_three {nm : ByteArray} (h : nm ∈ ([⟨#[105, 110, 98, 111, 120]⟩, ⟨#[119, 111, 114, 107]⟩, ⟨#[111, 108, 100, 57]⟩] : List ByteArray)) : nmOk nm = true := by
 simp only [List.mem_cons, List.not_mem_nil, or_false] at h
 rcases h with rfl | rfl | rfl <;> decide
theorem Lb.first {w W : World} {cb : Nat} {ao : Option Addr} {n cap kS k : Nat} {nm : ByteArray} {t b nx : Int} (h : Pb w W cb ao n cap kS t b) (hx : Bx W k 29 0 ⟨#[]⟩ 0 0 0 (.slice none 0 0) (.slice none 0 0)) (hk : w.heap.size < k) (hs : kS ≠ k) (hd : Dbx 0 7 nm t b nx [] []) :
  Lb w (((((((W.setCell ⟨k, 0, none⟩ (.int .i64 7)).setCell ⟨k, 1, none⟩ (.string nm)).setCell ⟨k, 2, none⟩ (.int .i64 t)).setCell ⟨k, 3, none⟩ (.int .i64 b)).setCell ⟨k, 4, none⟩ (.int .i64 nx)).setCell ⟨k, 5, none⟩ (.slice none 0 0)).setCell ⟨k, 6, none⟩ (.slice none 0 0)) cb ao n cap k 0 nm t b nx none 0 0 none 0 0 [] [] ∧
  Sg (((((((W.setCell ⟨k, 0, none⟩ (.int .i64 7)).setCell ⟨k, 1, none⟩ (.string nm)).setCell ⟨k, 2, none⟩ (.int .i64 t)).setCell ⟨k, 3, none⟩ (.int .i64 b)).setCell ⟨k, 4, none⟩ (.int .i64 nx)).setCell ⟨k, 5, none⟩ (.slice none 0 0)).setCell ⟨k, 6, none⟩ (.slice none 0 0)) kS 25 t b := by
 have h2 := h.hi
 have hg := set7_grown W k 7 nm t b nx (.slice none 0 0) (.slice none 0 0)
 have hy := hx.set7 7 nm t b nx (.slice none 0 0) (.slice none 0 0)
 unfold set7 at hg hy
 refine ⟨⟨h.res.far hg (by omega), hy, OwB.nil _ _, hd, ?_, ?_, hk, h2⟩, h.sg.kept hg hs⟩
 ·exact ((((((h.cur.set (by omega)).set (by omega)).set (by omega)).set (by omega)).set (by omega)).set (by omega)).set (by omega)
 ·exact gset (gset (gset (gset (gset (gset (gset h.gr (by omega) _ _) (by omega) _ _) (by omega) _ _) (by omega) _ _) (by omega) _ _) (by omega) _ _) (by omega) _ _
theorem Lb.firstA {w W : World} {cb : Nat} {ao : Option Addr} {n cap kS : Nat} {nm : ByteArray} {t b nx : Int} (h : Pb w W cb ao n cap kS t b) (hd : Dbx 0 7 nm t b nx [] []) :
  Lb w (W.alloc (.cells #[.int .i64 7, .string nm, .int .i64 t, .int .i64 b, .int .i64 nx, .slice none 0 0, .slice none 0 0] 29)) cb ao n cap W.heap.size 0 nm t b nx none 0 0 none 0 0 [] [] ∧
  Sg (W.alloc (.cells #[.int .i64 7, .string nm, .int .i64 t, .int .i64 b, .int .i64 nx, .slice none 0 0, .slice none 0 0] 29)) kS 25 t b := by
 have hp := h.alloc (.cells #[.int .i64 7, .string nm, .int .i64 t, .int .i64 b, .int .i64 nx, .slice none 0 0, .slice none 0 0] 29)
 exact ⟨⟨hp.res, Bx.new _ _ _ _ _ _ _ _ _, OwB.nil _ _, hd, hp.cur, hp.gr, h.res.lt, h.hi⟩, hp.sg⟩
end Go.Proofs.YtmpcmllfgogegaaGreat
namespace Go.Proofs.YtmpcmllfgogegaaGreat
open Go.RowKit Go.ChangeMaps
theorem Is.wide {lo hi lo' hi' : Nat} {W : World} {a : Option Addr} {G : List Int} (h : Is lo hi W a G) (h1 : lo' ≤ lo) (h2 : hi ≤ hi') (h3 : hi' ≤ W.heap.size) : Is lo' hi' W a G := by
 refine ⟨h3, fun i hi' => ?_⟩
 obtain ⟨k, o, e1, e2, e3, e4⟩ := h.2 i hi'
 exact ⟨k, o, e1, by omega, by omega, e4⟩
section
variable {W W' : World} {lo hi : Nat} {nm : ByteArray} {ma : Option Addr} {mn mc : Nat} {ga : Option Addr} {gn gc : Nat} {L : List M4} {G : List Int}
theorem Bg.same (h : Bg W lo hi nm ma mn mc ga gn gc L G) (hs : hi ≤ W'.heap.size) (hk : ∀ k, lo ≤ k → k < hi → W'.heap[k]? = W.heap[k]?) : Bg W' lo hi nm ma mn mc ga gn gc L G :=
 ⟨h.nmz, h.len, h.most, h.sm, h.mails.same hs hk, h.m0, h.glen, h.gmost, h.gone.same hs hk, h.g0⟩
theorem Bg.later (h : Bg W lo hi nm ma mn mc ga gn gc L G) (hb : Below W.heap.size W W') : Bg W' lo hi nm ma mn mc ga gn gc L G :=
 h.same (Nat.le_trans h.mails.1 hb.size) (fun k _ hk => hb.block k (Nat.lt_of_lt_of_le hk h.mails.1))
theorem Bg.far {k : Nat} (h : Bg W lo hi nm ma mn mc ga gn gc L G) (hg : W.grownBy W' (some k)) (hk : k < lo ∨ hi ≤ k) : Bg W' lo hi nm ma mn mc ga gn gc L G :=
 h.same (Nat.le_trans h.mails.1 hg.size) (fun j h1 h2 => hg.block j (Nat.lt_of_lt_of_le h2 h.mails.1) (fun e => by simp only [Option.some.injEq] at e; omega))
theorem Bg.name {nm' : ByteArray} (h : Bg W lo hi nm ma mn mc ga gn gc L G) (hn : nm'.size ≤ 20) : Bg W lo hi nm' ma mn mc ga gn gc L G :=
 ⟨hn, h.len, h.most, h.sm, h.mails, h.m0, h.glen, h.gmost, h.gone, h.g0⟩
end
theorem gr_new {w W W' : World} {cb : Nat} {r : Option Nat} (h : w.grownBy W (some cb)) (hg : W.grownBy W' r) (hr : ∀ j, r = some j → w.heap.size ≤ j) : w.grownBy W' (some cb) :=
 ⟨hg.os.trans h.os, hg.tape.trans h.tape, hg.output.trans h.output, Nat.le_trans h.size hg.size, fun i hi hne => (hg.block i (Nat.lt_of_lt_of_le hi h.size) (fun e => by have := hr i e.symm; omega)).trans (h.block i hi hne)⟩
theorem Cur.grownr {W W' : World} {cb n cap : Nat} {ao : Option Addr} {r : Option Nat} (h : Cur W cb ao n cap) (hg : W.grownBy W' r) (hr : some cb ≠ r) : Cur W' cb ao n cap := by
 obtain ⟨i, x, h1, h2⟩ := h
 exact ⟨i, x, h1, (hg.block cb (Array.getElem?_eq_some_iff.1 h2).1 hr).trans h2⟩
section
variable {w W W' : World} {cb : Nat} {ao : Option Addr} {n cap kb hi : Nat} {g : Int} {nm : ByteArray} {t b nx : Int} {ma : Option Addr} {mn mc : Nat} {ga : Option Addr} {gn gc : Nat} {L : List M4} {G : List Int}
theorem As.drew (h : As w W cb ao n cap kb hi g nm t b nx ma mn mc ga gn gc L G) : As w W.drew cb ao n cap kb hi g nm t b nx ma mn mc ga gn gc L G := ⟨h.res, h.box, h.bg.later (bdr (bre _)), h.cur, gdr h.gr, h.lo, h.hi⟩
theorem As.later (h : As w W cb ao n cap kb hi g nm t b nx ma mn mc ga gn gc L G) (hb : Below W.heap.size W W') : As w W' cb ao n cap kb hi g nm t b nx ma mn mc ga gn gc L G :=
 ⟨h.res.later hb, h.box.later hb, h.bg.later hb, h.cur.later hb h.cur.lt, only_add h.gr (hb.mono h.gr.size), h.lo, h.hi⟩
theorem As.draw (h : As w W cb ao n cap kb hi g nm t b nx ma mn mc ga gn gc L G) (hg : W.grownBy W' (some cb)) (hc : Cur W' cb ao n cap) : As w W' cb ao n cap kb hi g nm t b nx ma mn mc ga gn gc L G := by
 have h1 := h.lo
 have h2 := h.hi
 exact ⟨h.res.far hg (by omega), h.box.far hg (by omega), h.bg.far hg (.inl (by omega)), hc, only_trans h.gr hg, h.lo, h.hi⟩
theorem As.turn {g' : Int} {nm' : ByteArray} {t' b' nx' : Int} (h : As w W cb ao n cap kb hi g nm t b nx ma mn mc ga gn gc L G) (hk : hi ≤ kb) (hg : W.grownBy W' (some kb)) (hx : Bx W' kb 29 g' nm' t' b' nx' (.slice ma mn mc) (.slice ga gn gc)) (hn : nm'.size ≤ 20) : As w W' cb ao n cap kb hi g' nm' t' b' nx' ma mn mc ga gn gc L G := by
 have h1 := h.lo
 have h2 := h.hi
 exact ⟨h.res.far hg (by omega), hx, (h.bg.far hg (.inr hk)).name hn, h.cur.grownr hg (fun e => by simp only [Option.some.injEq] at e; omega), gr_new h.gr hg (fun j e => by simp only [Option.some.injEq] at e; omega), h.lo, h.hi⟩
end
theorem ms_row {W : World} {B lo : Nat} {v : Value} {Z : List Z5} (row : W.ownsRow B 37 4 v Z.length (zc Z)) (hlo : lo ≤ B) (hf : ∀ z ∈ Z, ∃ a c, z.2.2.1 = .slice a z.2.2.2.1.length c ∧ Rb lo W.heap.size W a z.2.2.2.1 ∧ (a = none → c = 0)) :
  ∃ a c, v = .slice a Z.length c ∧ (a = none → c = 0) ∧ Ms lo W.heap.size W a (Z.map md) := by
 rcases row.2 with ⟨h1, h2⟩ | ⟨g, cap, cur, h1, h2, h3, h4, h5, h6, h7⟩
 ·refine ⟨none, 0, by rw [h1, h2], fun _ => rfl, Nat.le_refl _, fun i hi => ?_⟩
  rw [List.length_map] at hi
  omega
 ·subst h1
  refine ⟨_, _, rfl, fun e => by simp at e, Nat.le_refl _, fun i hi => ?_⟩
  rw [List.length_map] at hi
  have e := zc_at Z i hi
  obtain ⟨fa, fc, hf', hr, h0⟩ := hf Z[i] (List.getElem_mem hi)
  rw [hf'] at e
  refine ⟨g, 0, fa, fc, rfl, by omega, (Array.getElem?_eq_some_iff.1 h3).1, ?_, ?_, h0⟩
  ·simp only [Nat.zero_add, List.getElem_map]
   exact ⟨(row.cellAt _ (by omega)).trans e.1, (row.cellAt _ (by omega)).trans e.2.1, (row.cellAt _ (by omega)).trans e.2.2.1, (row.cellAt _ (by omega)).trans e.2.2.2⟩
  ·simpa [md] using hr
theorem Dl.rb {W : World} {B n c : Nat} {a : Option Addr} {l : List R3} (h : Dl W B (.slice a n c) l) : n = l.length ∧ l.length ≤ 4 ∧ Rb B W.heap.size W a l ∧ (a = none → c = 0) := by
 obtain ⟨a', c', h1, h2, h3, h4, h5, h6⟩ := h
 simp only [Value.slice.injEq] at h1
 obtain ⟨rfl, rfl, rfl⟩ := h1
 refine ⟨rfl, h2, fun hn => ?_, h4⟩
 obtain ⟨k, o, e1, e2, e3⟩ := h5 hn
 subst e1
 exact ⟨k, o, rfl, h6 _ rfl, e2, e3⟩
theorem step_append_mg {ops : Array Oper} {o : Oper} {a : Act} {w : World} {K : Act → World → Prop} {Q : Exit → Act → World → Prop} {E : Prop}
  (hg : o.guard = none) (s x : Operand) (hop : o.op = Op.call { callee := Callee.builtin Builtin.append, args := #[s, x], argTypes := #[26, 26] })
  (B : Nat) (v : Value) (Z : List Z5) (hs : a.eval s = v) (z : Z5) (hown : w.ownsRow B 37 4 v Z.length (zc Z)) (hz : ∃ a k c, z.2.2.1 = .slice a k c)
  (hx : a.eval x = .slice (some ⟨w.heap.size, 0, none⟩) 1 1) (hlen : Z.length ≤ 1048576) (hB : B ≤ w.heap.size)
  (hK : ∀ v' w', w'.ownsRow B 37 4 v' (Z ++ [z]).length (zc (Z ++ [z])) → (w.alloc (.cells #[.int .i64 z.1, .int .i64 z.2.1, z.2.2.1, .string z.2.2.2.2] 37)).grownBy w' v.ownBlock → (∀ j, v'.ownBlock = some j → v.ownBlock = some j ∨ w.heap.size < j) → K (a.put o.dst v') w') :
  if Region.wanted o (yielded ops a.tmps) = true then Oper.wp Tryz.prog o a (w.alloc (.cells #[.int .i64 z.1, .int .i64 z.2.1, z.2.2.1, .string z.2.2.2.2] 37)) K Q else E := by
 have hw : Region.wanted o (yielded ops a.tmps) = true := by simp [Region.wanted, hg]
 rw [if_pos hw]
 obtain ⟨i0, hi, hz0, hz1, hz2⟩ := info_parts3 info_ml
 obtain ⟨v', w', hr, h2, h3, h4, h5⟩ := run_append_own_at (P := Tryz.prog) (w.alloc (.cells #[.int .i64 z.1, .int .i64 z.2.1, z.2.2.1, .string z.2.2.2.2] 37)) B 26 o.type 37 i0 _ 4 56 Tryz.underlying26 hi hz0 hz1 hz2 rfl (by decide) v _ _ (hown.alloc _) ⟨w.heap.size, 0, none⟩ 1 1 (zc [z]) rfl (cells_new4 w z 37) (zc_one (fun y hy => by simp at hy; subst hy; exact hz)) (by unfold maxLen; omega) (by omega) (by simp; omega)
 unfold Oper.wp execOp
 simp only [hop, resolve, invoke, builtin, Sem.run_bind, Sem.run_pure, Result.andThen_ok, List.map_toArray, List.map_cons, List.map_nil, hs, hx, hr]
 exact hK v' w' (by rw [zc_app]; simpa using h2) h3 (fun j hj => by
   rcases h5 with h5 | h5
   · exact .inl (by rw [← h5]; exact hj)
   · rw [h5] at hj; simp at hj; exact .inr (by omega))
theorem wpList_append_ig (w : World) {ops : Array Oper} {rest : List Oper} {o : Oper} {a : Act} {Q : Exit → Act → World → Prop} (hgd : o.guard = none) (s x : Operand)
  (ho : o.op = .call { callee := .builtin .append, args := #[s, x], argTypes := #[27, 27] })
  (base : Nat) (v : Value) (bs : List Int) (hs : a.eval s = v) (hown : OwI w base v bs) (n : Int)
  (hx : a.eval x = .slice (some ⟨w.heap.size, 0, none⟩) 1 1) (hlen : bs.length ≤ 1048576) (hbase : base ≤ w.heap.size)
  (h : ∀ v' w', OwI w' base v' (bs ++ [n]) → (w.alloc (.cells #[.int .i64 n] 3)).grownBy w' v.ownBlock → (∀ j, v'.ownBlock = some j → v.ownBlock = some j ∨ w.heap.size < j) → wpList Tryz.prog ops Q rest (a.put o.dst v') w') :
  wpList Tryz.prog ops Q (o :: rest) a (w.alloc (.cells #[.int .i64 n] 3)) := by
 obtain ⟨i0, hi, hz0, hz1, hz2⟩ := info_parts3 info_int
 refine wpList_append_own_at _ hgd s x 27 ho base 3 i0 (.int .i64 0) 1 8 Tryz.underlying27 hi hz0 hz1 hz2 rfl (by decide) v _ _ hs (hown.alloc _) ⟨w.heap.size, 0, none⟩ 1 1 [.int .i64 n] hx rfl (cell_one_int _ _ _) (by intro u hu; simp at hu; subst hu; rfl) (by unfold maxLen; omega) (by omega) (by simp; omega) ?_
 intro v' w' hown' hg _ h5
 exact h v' w' (by simpa [OwI] using hown') hg (fun j hj => by
   rcases h5 with h5 | h5
   · exact .inl (by rw [← h5]; exact hj)
   · rw [h5] at hj; simp at hj; exact .inr (by omega))
theorem own_at {W W' : World} {B e size n : Nat} {x : Value} {xs : List Value} (ho : W.ownsRow B e size x n xs) (hk : ∀ j, x.ownBlock = some j → W'.heap[j]? = W.heap[j]?) : W'.ownsRow B e size x n xs := by
 refine ⟨ho.1, ho.2.imp id ?_⟩
 rintro ⟨g, cap, cur, h1, h2, h3, h4⟩
 exact ⟨g, cap, cur, h1, h2, (hk g (by rw [h1]; rfl)).trans h3, h4⟩
theorem As.more {w w4 W W' : World} {cb : Nat} {ao : Option Addr} {n cap kb hi B lo : Nat} {g : Int} {nm : ByteArray} {t b nx : Int} {ma : Option Addr} {mn mc : Nat} {ga : Option Addr} {gn gc : Nat} {L : List M4} {G : List Int} {a7 : Option Addr} {n7 c7 : Nat} {z : Z5} {Z : List Z5} (h : As w W cb ao n cap kb hi g nm t b nx ma mn mc ga gn gc L G) (h4 : w4.heap.size = kb) (hw4 : w4.grownBy W (some cb)) (hZ : Z.map md = L) (hz4 : OwZ w4 B (.slice ma mn mc) Z) (hi4 : OwI w4 B (.slice ga gn gc) G) (hdj : Dj (.slice ga gn gc) (.slice ma mn mc)) (hB : w.heap.size < B)
  (hz : Dl W lo z.2.2.1 z.2.2.2.1) (hlo : kb < lo) (hzt : z.2.2.2.2.size ≤ 100) (hm : mn ≤ 10) (row : W'.ownsRow B 37 4 (.slice a7 n7 c7) (Z ++ [z]).length (zc (Z ++ [z]))) (hg : (W.alloc (.cells #[.int .i64 z.1, .int .i64 z.2.1, z.2.2.1, .string z.2.2.2.2] 37)).grownBy W' (Value.slice ma mn mc).ownBlock) (hl : ∀ j, (Value.slice a7 n7 c7).ownBlock = some j → (Value.slice ma mn mc).ownBlock = some j ∨ W.heap.size < j) :
  As w (W'.setCell ⟨kb, 5, none⟩ (.slice a7 n7 c7)) cb ao n cap kb (W'.setCell ⟨kb, 5, none⟩ (.slice a7 n7 c7)).heap.size g nm t b nx a7 n7 c7 ga gn gc (L ++ [md z]) G := by
 have h1 := h.lo
 have h2 := h.hi
 have h3 := h.box.lt
 have hown := hz4.grown hw4 (by omega)
 have hoi := OwI.grown hi4 hw4 (by omega)
 have hlt : ∀ j, (Value.slice ma mn mc).ownBlock = some j → j < kb := fun j hj => by have := (hz4.row.lt j hj).2; omega
 have hlg : ∀ j, (Value.slice ga gn gc).ownBlock = some j → j < kb := fun j hj => by have := (hi4.lt j hj).2; omega
 have hblk : ∀ j, j < W.heap.size → (Value.slice ma mn mc).ownBlock ≠ some j → W'.heap[j]? = W.heap[j]? := fun j hj hne => (hg.block j (by simp; omega) (fun e => hne e.symm)).trans (Below.heap_alloc W _ j hj)
 have hblk2 : ∀ j, j < W.heap.size → (Value.slice ma mn mc).ownBlock ≠ some j → j ≠ kb → (W'.setCell ⟨kb, 5, none⟩ (.slice a7 n7 c7)).heap[j]? = W.heap[j]? := fun j hj hne hjk => (heap_setCell_other W' ⟨kb, 5, none⟩ j _ hjk).trans (hblk j hj hne)
 have hsz : (W'.setCell ⟨kb, 5, none⟩ (.slice a7 n7 c7)).heap.size = W'.heap.size := by simp [World.setCell]
 have hszW : W.heap.size < W'.heap.size := by have := hg.size; simp at this; omega
 have hobm : ∀ j, (Value.slice ma mn mc).ownBlock = some j → B ≤ j := fun j hj => (hown.row.lt j hj).1
 have hbox' : Bx W' kb 29 g nm t b nx (.slice ma mn mc) (.slice ga gn gc) := (hblk kb h3 (fun e => by have := hlt kb e; omega)).trans h.box
 have hset : W'.grownBy (W'.setCell ⟨kb, 5, none⟩ (.slice a7 n7 c7)) (some kb) := only_set
 have hrow := own_at (W' := W'.setCell ⟨kb, 5, none⟩ (.slice a7 n7 c7)) row (fun j hj => heap_setCell_other W' ⟨kb, 5, none⟩ j _ (fun e => by
   simp only at e
   rcases hl j hj with hj | hj
   · have := hlt j hj; omega
   · omega))
 have hgo : OwI (W'.setCell ⟨kb, 5, none⟩ (.slice a7 n7 c7)) B (.slice ga gn gc) G := own_at hoi (fun j hj => hblk2 j (hoi.lt j hj).2 (fun e => hdj j hj e) (fun e => by have := hlg j hj; omega))
 have hzl : ∃ a c, z.2.2.1 = .slice a z.2.2.2.1.length c ∧ Rb lo W.heap.size W a z.2.2.2.1 ∧ (a = none → c = 0) ∧ z.2.2.2.1.length ≤ 4 := by
  obtain ⟨a', c', e1, e2⟩ := hz
  have := Dl.rb (W := W) (B := lo) (a := a') (n := z.2.2.2.1.length) (c := c') (l := z.2.2.2.1) ⟨a', c', rfl, e2⟩
  exact ⟨a', c', e1, this.2.2.1, this.2.2.2, this.2.1⟩
 obtain ⟨za, zc', hzs, q3, q4, q5⟩ := hzl
 obtain ⟨a, c, e1, e2, e3⟩ := ms_row (lo := w.heap.size + 1) hrow (by omega) (fun y hy => by
   rcases List.mem_append.1 hy with hy | hy
   · have ho : Ow (W'.setCell ⟨kb, 5, none⟩ (.slice a7 n7 c7)) B y.2.2.1 y.2.2.2.1 := own_at (hown.each y hy) (fun j hj => hblk2 j ((hown.each y hy).lt j hj).2 (fun e => hown.off y hy j e hj) (fun e => by have := ((hz4.each y hy).lt j hj).2; omega))
     obtain ⟨a, c, e1, e2, e3⟩ := Ow.rb ho
     exact ⟨a, c, e1, e2.wide (by omega) (Nat.le_refl _), e3⟩
   · simp at hy
     subst hy
     refine ⟨_, _, hzs, ?_, q4⟩
     refine Rb.wide (lo := lo) (hi := W.heap.size) ?_ (by omega) (by omega)
     exact q3.same (fun k hk1 hk2 => hblk2 k hk2 (fun e => by have := hlt k e; omega) (by omega)))
 simp only [Value.slice.injEq] at e1
 obtain ⟨rfl, rfl, rfl⟩ := e1
 have hlen : Z.length = mn := by rw [← h.bg.len, ← hZ, List.length_map]
 have hlen2 : (Z ++ [z]).length = mn + 1 := by rw [List.length_append, hlen]; rfl
 have hmap : (Z ++ [z]).map md = L ++ [md z] := by rw [List.map_append, hZ]; rfl
 rw [hmap] at e3
 refine ⟨?_, hbox'.s5 _, ⟨h.bg.nmz, by rw [← hmap, List.length_map], by omega, ?_, e3, e2, h.bg.glen, h.bg.gmost, ((OwI.is hgo).2).wide (by omega) (Nat.le_refl _) (Nat.le_refl _), h.bg.g0⟩, ?_, ?_, h1, h2⟩
 ·exact Bx.far ((hblk w.heap.size h.res.lt (fun e => by have := hobm _ e; omega)).trans h.res) hset (by omega)
 ·intro m hmm
  rcases List.mem_append.1 hmm with hmm | hmm
  ·exact h.bg.sm m hmm
  ·simp at hmm
   subst hmm
   exact ⟨by show z.2.2.2.1.length ≤ _; omega, by show z.2.2.2.2.size ≤ _; omega⟩
 ·obtain ⟨i, x, p1, p2⟩ := h.cur
  exact ⟨i, x, p1, (hblk2 cb h.cur.lt (fun e => by have := hobm _ e; omega) (by omega)).trans p2⟩
 ·refine gr_new (gr_new (gal h.gr _) hg (fun j e => ?_)) hset (fun j e => by simp only [Option.some.injEq] at e; omega)
  have := hobm j e
  omega
theorem As.moreG {w w4 W W' : World} {cb : Nat} {ao : Option Addr} {n cap kb hi B : Nat} {g : Int} {nm : ByteArray} {t b nx : Int} {ma : Option Addr} {mn mc : Nat} {ga : Option Addr} {gn gc : Nat} {L : List M4} {G : List Int} {a7 : Option Addr} {n7 c7 : Nat} {x : Int} {Z : List Z5} (h : As w W cb ao n cap kb hi g nm t b nx ma mn mc ga gn gc L G) (h4 : w4.heap.size = kb) (hw4 : w4.grownBy W (some cb)) (hZ : Z.map md = L) (hz4 : OwZ w4 B (.slice ma mn mc) Z) (hi4 : OwI w4 B (.slice ga gn gc) G) (hdj : Dj (.slice ga gn gc) (.slice ma mn mc)) (hdz : ∀ z ∈ Z, Dj (.slice ga gn gc) z.2.2.1) (hB : w.heap.size < B)
  (hm : gn ≤ 40) (row : OwI W' B (.slice a7 n7 c7) (G ++ [x])) (hg : (W.alloc (.cells #[.int .i64 x] 3)).grownBy W' (Value.slice ga gn gc).ownBlock) (hl : ∀ j, (Value.slice a7 n7 c7).ownBlock = some j → (Value.slice ga gn gc).ownBlock = some j ∨ W.heap.size < j) :
  As w (W'.setCell ⟨kb, 6, none⟩ (.slice a7 n7 c7)) cb ao n cap kb (W'.setCell ⟨kb, 6, none⟩ (.slice a7 n7 c7)).heap.size g nm t b nx ma mn mc a7 n7 c7 L (G ++ [x]) := by
 have h1 := h.lo
 have h2 := h.hi
 have h3 := h.box.lt
 have hown := hz4.grown hw4 (by omega)
 have hoi := OwI.grown hi4 hw4 (by omega)
 have hlt : ∀ j, (Value.slice ma mn mc).ownBlock = some j → j < kb := fun j hj => by have := (hz4.row.lt j hj).2; omega
 have hlg : ∀ j, (Value.slice ga gn gc).ownBlock = some j → j < kb := fun j hj => by have := (hi4.lt j hj).2; omega
 have hblk : ∀ j, j < W.heap.size → (Value.slice ga gn gc).ownBlock ≠ some j → W'.heap[j]? = W.heap[j]? := fun j hj hne => (hg.block j (by simp; omega) (fun e => hne e.symm)).trans (Below.heap_alloc W _ j hj)
 have hblk2 : ∀ j, j < W.heap.size → (Value.slice ga gn gc).ownBlock ≠ some j → j ≠ kb → (W'.setCell ⟨kb, 6, none⟩ (.slice a7 n7 c7)).heap[j]? = W.heap[j]? := fun j hj hne hjk => (heap_setCell_other W' ⟨kb, 6, none⟩ j _ hjk).trans (hblk j hj hne)
 have hsz : (W'.setCell ⟨kb, 6, none⟩ (.slice a7 n7 c7)).heap.size = W'.heap.size := by simp [World.setCell]
 have hszW : W.heap.size < W'.heap.size := by have := hg.size; simp at this; omega
 have hobm : ∀ j, (Value.slice ga gn gc).ownBlock = some j → B ≤ j := fun j hj => (hoi.lt j hj).1
 have hbox' : Bx W' kb 29 g nm t b nx (.slice ma mn mc) (.slice ga gn gc) := (hblk kb h3 (fun e => by have := hlg kb e; omega)).trans h.box
 have hset : W'.grownBy (W'.setCell ⟨kb, 6, none⟩ (.slice a7 n7 c7)) (some kb) := only_set
 have hgo : OwI (W'.setCell ⟨kb, 6, none⟩ (.slice a7 n7 c7)) B (.slice a7 n7 c7) (G ++ [x]) := own_at row (fun j hj => heap_setCell_other W' ⟨kb, 6, none⟩ j _ (fun e => by
   simp only at e
   rcases hl j hj with hj | hj
   · have := hlg j hj; omega
   · omega))
 have hzz : OwZ (W'.setCell ⟨kb, 6, none⟩ (.slice a7 n7 c7)) B (.slice ma mn mc) Z := hown.kept (by rw [hsz]; omega)
  (fun j hj => hblk2 j (hown.row.lt j hj).2 (fun e => hdj j e hj) (fun e => by have := hlt j hj; omega))
  (fun z hz j hj => hblk2 j ((hown.each z hz).lt j hj).2 (fun e => hdz z hz j e hj) (fun e => by have := ((hz4.each z hz).lt j hj).2; omega))
 have hn7 := (OwI.is hgo).1
 have hlg2 : (G ++ [x]).length = gn + 1 := by rw [List.length_append, h.bg.glen]; rfl
 refine ⟨?_, hbox'.s6 _, ⟨h.bg.nmz, h.bg.len, h.bg.most, h.bg.sm, by rw [← hZ]; exact hzz.ms.2.wide (by omega) (Nat.le_refl _) (Nat.le_refl _), h.bg.m0, hn7.symm, by omega, ((OwI.is hgo).2).wide (by omega) (Nat.le_refl _) (Nat.le_refl _), own_none hgo⟩, ?_, ?_, h1, h2⟩
 ·exact Bx.far ((hblk w.heap.size h.res.lt (fun e => by have := hobm _ e; omega)).trans h.res) hset (by omega)
 ·obtain ⟨i, y, p1, p2⟩ := h.cur
  exact ⟨i, y, p1, (hblk2 cb h.cur.lt (fun e => by have := hobm _ e; omega) (by omega)).trans p2⟩
 ·refine gr_new (gr_new (gal h.gr _) hg (fun j e => ?_)) hset (fun j e => by simp only [Option.some.injEq] at e; omega)
  have := hobm j e
  omega
theorem row_slice {W : World} {B e size n : Nat} {v : Value} {xs : List Value} (h : W.ownsRow B e size v n xs) : ∃ a k c, v = .slice a k c := by
 rcases h.2 with ⟨h1, h2⟩ | ⟨g, cap, cur, h1, _⟩
 ·exact ⟨none, 0, 0, h1⟩
 ·exact ⟨_, _, _, h1⟩
end Go.Proofs.YtmpcmllfgogegaaGreat
namespace Go.Proofs.YtmpcmllfgogegaaGreat
open Go.RowKit Go.ChangeMaps
end Go.Proofs.YtmpcmllfgogegaaGreat
namespace Go.Proofs.YtmpcmllfgogegaaGreat
open Go.RowKit Go.ChangeMaps
section
variable {W W' : World} {ma : Option Addr} {mn mc : Nat} {ga : Option Addr} {gn gc : Nat} {L : List M4} {G : List Int}
theorem BzL.far {lo k : Nat} (h : BzL W lo ma mn mc ga gn gc L G) (hg : W.grownBy W' (some k)) (hk : k < lo) : Bz W' ma mn mc ga gn gc L G := by
 obtain ⟨h1, hm⟩ := h.mlo
 obtain ⟨h2, hi⟩ := h.glo
 have hkeep : ∀ hh, hh ≤ W.heap.size → ∀ j, lo ≤ j → j < hh → W'.heap[j]? = W.heap[j]? := fun hh hs j h1 h2 => hg.block j (by omega) (fun e => by simp only [Option.some.injEq] at e; omega)
 exact ⟨h.bz.len, h.bz.most, h.bz.sm, ⟨_, _, hm.same (Nat.le_trans hm.1 hg.size) (hkeep _ hm.1)⟩, h.bz.m0, h.bz.glen, h.bz.gmost, ⟨_, _, hi.same (Nat.le_trans hi.1 hg.size) (hkeep _ hi.1)⟩, h.bz.g0⟩
end
section
variable (g : Int) (nm : ByteArray) (t b nx : Int) (mn gn : Nat) (L : List M4) (G : List Int)
end
end Go.Proofs.YtmpcmllfgogegaaGreat
