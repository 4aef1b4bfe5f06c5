/- Stamps and registers drawn. -/
import Derived.Test.YtjnpohbljjlicabJoin
import Derived.Test.YtjnpohbljjlicabDrawB
import Derived.Deep.Cut
namespace Go.Proofs.Ytjnpohbljjlicab
open Go.RowKit

theorem Rg.kept {W W' : World} {k ty cb : Nat} {v t b : Int} (h : Rg W k ty v t b) (hg : W.grownBy W' (some cb)) (hk : k ≠ cb) : Rg W' k ty v t b := (hg.block k h.lt (by simpa using hk)).trans h
theorem Sg.kept {W W' : World} {k ty cb : Nat} {t b : Int} (h : Sg W k ty t b) (hg : W.grownBy W' (some cb)) (hk : k ≠ cb) : Sg W' k ty t b := (hg.block k h.lt (by simpa using hk)).trans h
theorem Sg.loose {W : World} {k ty : Nat} {t b : Int} (h : Sg W k ty t b) : W.frozen? ⟨k, 0, none⟩ = false ∧ W.frozen? ⟨k, 1, none⟩ = false :=
  ⟨frozen_of_row W k 0 _ _ h, frozen_of_row W k 1 _ _ h⟩
theorem gset {w w2 : World} {cb k : Nat} (h : w.grownBy w2 (some cb)) (hk : w.heap.size ≤ k) (o : Nat) (u : Value) : w.grownBy (w2.setCell ⟨k, o, none⟩ u) (some cb) :=
  ⟨h.os, h.tape, h.output, by simp [World.setCell]; exact h.size, fun i hi hr => by rw [Below.heap_setCell _ _ _ _ (show i ≠ k by omega)]; exact h.block i hi hr⟩
theorem gal {w w2 : World} {cb : Nat} (h : w.grownBy w2 (some cb)) (o : Obj) : w.grownBy (w2.alloc o) (some cb) := only_trans h (World.grownBy_alloc _ _ _)
theorem gre (w : World) (cb : Nat) : w.grownBy w (some cb) := ⟨rfl, rfl, rfl, Nat.le_refl _, fun _ _ _ => rfl⟩
theorem gdr {w w2 : World} {cb : Nat} (h : w.grownBy w2 (some cb)) : w.grownBy w2.drew (some cb) := ⟨h.os, h.tape, h.output, h.size, h.block⟩
theorem Cur.set {w : World} {cb n cap k o : Nat} {ao : Option Addr} {u : Value} (h : Cur w cb ao n cap) (hk : k ≠ cb) : Cur (w.setCell ⟨k, o, none⟩ u) cb ao n cap := by
  obtain ⟨i, x, h1, h2⟩ := h
  exact ⟨i, x, h1, by rw [Below.heap_setCell _ _ _ _ (fun e => hk e.symm)]; exact h2⟩
theorem Sg.other {W : World} {k ty g o : Nat} {t b : Int} {u : Value} (h : Sg W k ty t b) (hk : k ≠ g) : Sg (W.setCell ⟨g, o, none⟩ u) k ty t b := (heap_setCell_other W ⟨g, o, none⟩ k u hk).trans h
theorem Rg.other {W : World} {k ty g o : Nat} {v t b : Int} {u : Value} (h : Rg W k ty v t b) (hk : k ≠ g) : Rg (W.setCell ⟨g, o, none⟩ u) k ty v t b := (heap_setCell_other W ⟨g, o, none⟩ k u hk).trans h
theorem Cur.drew {w : World} {cb n cap : Nat} {ao : Option Addr} (h : Cur w cb ao n cap) : Cur w.drew cb ao n cap := h

theorem l03Stamp_any (cb : Nat) (ao : Option Addr) (n cap : Nat) (w : World) (hn : n ≤ 1048576) (hcur : Cur w cb ao n cap) (hcode : Code w cb ao n) :
    Calls Try.prog 72 #[.pointer (some ⟨cb, 0, none⟩)] w fun e w' => ∃ t b : Int, (0 ≤ t ∧ t < 12 ∧ 1 ≤ b ∧ b ≤ 2) ∧ e = .returned (.agg #[.int .i64 t, .int .i64 b]) ∧ Cur w' cb ao n cap ∧ w.grownBy w' (some cb) := by
  have hlt := hcur.lt
  obtain ⟨W0, hW0⟩ : ∃ W0, w.alloc (.cells #[.int .i64 0, .int .i64 0] 45) = W0 := ⟨_, rfl⟩
  have A0 : Hid (Sg W0 w.heap.size 45 0 0) := by subst hW0; exact Sg.new w 45 0 0
  have HC : Hid (Cur W0 cb ao n cap) := by subst hW0; exact hcur.alloc _
  have HO : Hid (Code W0 cb ao n) := by subst hW0; exact hcode.later (World.grownBy_alloc _ _ _)
  have G0 : Hid (w.grownBy W0 (some cb)) := by subst hW0; exact World.grownBy_alloc _ _ _
  clear hcur hcode
  go_enter Try.func72, Try.ntmps72
  go_wp2_with fail
  clear hW0
  refine (below4 cb ao n cap _ hn HC.out HO.out 12 (by omega) (by omega)).mono ?_; rintro e w1 ⟨x, hx, rfl, hc1, hb1⟩
  have HC1 : Hid (Cur w1 cb ao n cap) := hc1
  have HO1 : Hid (Code w1 cb ao n) := HO.out.later hb1
  have G1 : Hid (W0.grownBy w1 (some cb)) := hb1
  clear hc1 hb1
  go_wp2_with fail
  refine (below4 cb ao n cap _ hn HC1.out HO1.out 2 (by omega) (by omega)).mono ?_; rintro e w2 ⟨y, hy, rfl, hc2, hb2⟩
  have HC2 : Hid (Cur w2 cb ao n cap) := hc2
  have G2 : Hid (W0.grownBy w2 (some cb)) := only_trans G1.out hb2
  have A2 : Hid (Sg w2 w.heap.size 45 0 0) := A0.out.kept G2.out (by omega)
  clear hc2 hb2
  have d2 := A2.out.cells
  have f2 := A2.out.loose
  go_wp2_with fail
  have c3 := (A2.out.set' (t' := x) (b' := 1 + y)).cells
  exact bodyPost_ret (v := stv x (1 + y)) (by simp [results, Try.results72, go_sem, c3]) rfl ⟨x, 1 + y, by omega, rfl, (HC2.out.set (by omega)).set (by omega), gset (gset (only_trans G0.out G2.out) (Nat.le_refl _) _ _) (Nat.le_refl _) _ _⟩

theorem row3 (w : World) (x y z : Int) (i : Nat) (h : i < [x, y, z].length) : (w.alloc (.cells #[.int .i64 x, .int .i64 y, .int .i64 z] 3)).cell? ⟨w.heap.size, i, none⟩ = some (.int .i64 [x, y, z][i]) := by
  rw [cell_of_row _ w.heap.size i _ _ (0, 0) (heap_alloc_new w _)]
  have hi : i < 3 := h
  match i, hi with
  | 0, _ => rfl
  | 1, _ => rfl
  | 2, _ => rfl

set_option maxHeartbeats 400000 in
theorem l03Any_any (cb : Nat) (ao : Option Addr) (n cap : Nat) (w : World) (hn : n ≤ 1048576) (hcur : Cur w cb ao n cap) (hcode : Code w cb ao n) :
    Calls Try.prog 74 #[.pointer (some ⟨cb, 0, none⟩)] w fun e w' => ∃ t b : Int, e = .returned (.agg #[.int .i64 t, .int .i64 b]) ∧ Cur w' cb ao n cap ∧ w.grownBy w' (some cb) := by
  have hlt := hcur.lt
  obtain ⟨W0, hW0⟩ : ∃ W0, w.alloc (.cells #[.int .i64 0, .int .i64 0] 45) = W0 := ⟨_, rfl⟩
  have A0 : Hid (Sg W0 w.heap.size 45 0 0) := by subst hW0; exact Sg.new w 45 0 0
  have HC : Hid (Cur W0 cb ao n cap) := by subst hW0; exact hcur.alloc _
  have HO : Hid (Code W0 cb ao n) := by subst hW0; exact hcode.later (World.grownBy_alloc _ _ _)
  have G0 : Hid (w.grownBy W0 (some cb)) := by subst hW0; exact World.grownBy_alloc _ _ _
  have hs0 : w.heap.size < W0.heap.size := A0.out.lt
  clear hcur hcode
  go_enter Try.func74, Try.ntmps74
  go_wp2_with fail
  clear hW0
  refine (l03Stamp_any cb ao n cap _ hn HC.out HO.out).mono ?_; rintro e w1 ⟨t, b, _, rfl, hc1, hb1⟩
  have hs1 := hb1.size
  obtain ⟨W2, hW2⟩ : ∃ W2, w1.alloc (.cells #[.int .i64 t, .int .i64 b] 45) = W2 := ⟨_, rfl⟩
  have A2 : Hid (Sg W2 w1.heap.size 45 t b) := by subst hW2; exact Sg.new w1 45 t b
  have G2 : Hid (W0.grownBy W2 (some cb)) := by subst hW2; exact gal hb1 _
  have HC2 : Hid (Cur W2 cb ao n cap) := by subst hW2; exact hc1.alloc _
  clear hc1 hb1
  go_wp2_with fail
  clear hW2
  refine (below4 cb ao n cap _ hn HC2.out (HO.out.later G2.out) 8 (by omega) (by omega)).mono ?_; rintro e w3 ⟨x, hx, rfl, hc3, hb3⟩
  have HC3 : Hid (Cur w3 cb ao n cap) := hc3
  have A3 : Hid (Sg w3 w1.heap.size 45 t b) := A2.out.kept hb3 (by omega)
  have G3 : Hid (W0.grownBy w3 (some cb)) := only_trans G2.out hb3
  have A30 : Hid (Sg w3 w.heap.size 45 0 0) := A0.out.kept G3.out (by omega)
  have HO3 : Hid (Code w3 cb ao n) := HO.out.later G3.out
  have hs3 : W0.heap.size ≤ w3.heap.size := G3.out.size
  have hne : ¬ w1.heap.size = w.heap.size := by omega
  have hne' : ¬ w.heap.size = w1.heap.size := by omega
  clear hc3 hb3
  by_cases h0 : x = 0
  · have h0' : ((x : Int) == 0) = true := by simp; omega
    clear h0
    go_wp2_with fail
    refine (pickInt_any cb w3.heap.size 3 [-1, 100000, 100001] ao n cap _ hn (HC3.out.alloc _) (HO3.out.later (World.grownBy_alloc _ _ _)) rfl (by decide) (by decide) (by omega) (row3 w3 (-1) 100000 100001)).mono ?_
    rintro e w5 ⟨y, _, rfl, hc5, hb5⟩
    have G5 : Hid (w3.grownBy w5 (some cb)) := only_trans (World.grownBy_alloc _ _ _) hb5
    have HC5 : Hid (Cur w5 cb ao n cap) := hc5
    have A5 : Hid (Sg w5 w1.heap.size 45 t b) := A3.out.kept G5.out (by omega)
    have A50 : Hid (Sg w5 w.heap.size 45 0 0) := A30.out.kept G5.out (by omega)
    have d5 := A5.out.cells
    have f5 := A5.out.loose
    have d50 := A50.out.cells
    have f50 := A50.out.loose
    clear hc5 hb5
    go_wp2_with fail
    have c3 := ((A50.out.other (g := w1.heap.size) (o := 0) (u := .int .i64 y) (by omega)).set' (t' := y) (b' := b)).cells
    exact bodyPost_ret (v := stv y b) (by simp [results, Try.results74, go_sem, c3]) rfl ⟨y, b, rfl, ((HC5.out.set (by omega)).set (by omega)).set (by omega), gset (gset (gset (only_trans G0.out (only_trans G3.out G5.out)) (by omega) _ _) (Nat.le_refl _) _ _) (Nat.le_refl _) _ _⟩
  · have h0' : ((x : Int) == 0) = false := by simp; omega
    by_cases h1 : x = 1
    · have h1' : ((x : Int) == 1) = true := by simp; omega
      clear h0 h1
      go_wp2_with fail
      refine (pickInt_any cb w3.heap.size 3 [-1, 0, 3] ao n cap _ hn (HC3.out.alloc _) (HO3.out.later (World.grownBy_alloc _ _ _)) rfl (by decide) (by decide) (by omega) (row3 w3 (-1) 0 3)).mono ?_
      rintro e w5 ⟨y, _, rfl, hc5, hb5⟩
      have G5 : Hid (w3.grownBy w5 (some cb)) := only_trans (World.grownBy_alloc _ _ _) hb5
      have HC5 : Hid (Cur w5 cb ao n cap) := hc5
      have A5 : Hid (Sg w5 w1.heap.size 45 t b) := A3.out.kept G5.out (by omega)
      have A50 : Hid (Sg w5 w.heap.size 45 0 0) := A30.out.kept G5.out (by omega)
      have d5 := A5.out.cells
      have f5 := A5.out.loose
      have d50 := A50.out.cells
      have f50 := A50.out.loose
      clear hc5 hb5
      go_wp2_with fail
      have c3 := ((A50.out.other (g := w1.heap.size) (o := 1) (u := .int .i64 y) (by omega)).set' (t' := t) (b' := y)).cells
      exact bodyPost_ret (v := stv t y) (by simp [results, Try.results74, go_sem, c3]) rfl ⟨t, y, rfl, ((HC5.out.set (by omega)).set (by omega)).set (by omega), gset (gset (gset (only_trans G0.out (only_trans G3.out G5.out)) (by omega) _ _) (Nat.le_refl _) _ _) (Nat.le_refl _) _ _⟩
    · have h1' : ((x : Int) == 1) = false := by simp; omega
      clear h0 h1
      have d5 := A3.out.cells
      have f5 := A3.out.loose
      have d50 := A30.out.cells
      have f50 := A30.out.loose
      go_wp2_with fail
      have c3 := (A30.out.set' (t' := t) (b' := b)).cells
      exact bodyPost_ret (v := stv t b) (by simp [results, Try.results74, go_sem, c3]) rfl ⟨t, b, rfl, (HC3.out.set (by omega)).set (by omega), gset (gset (only_trans G0.out G3.out) (Nat.le_refl _) _ _) (Nat.le_refl _) _ _⟩

theorem row6 (w : World) (x y z x' y' z' : Int) (i : Nat) (h : i < [x, y, z, x', y', z'].length) : (w.alloc (.cells #[.int .i64 x, .int .i64 y, .int .i64 z, .int .i64 x', .int .i64 y', .int .i64 z'] 3)).cell? ⟨w.heap.size, i, none⟩ = some (.int .i64 [x, y, z, x', y', z'][i]) := by
  rw [cell_of_row _ w.heap.size i _ _ (0, 0) (heap_alloc_new w _)]
  have hi : i < 6 := h
  match i, hi with
  | 0, _ => rfl
  | 1, _ => rfl
  | 2, _ => rfl
  | 3, _ => rfl
  | 4, _ => rfl
  | 5, _ => rfl

set_option maxHeartbeats 400000 in
theorem l03Reg_any (cb : Nat) (ao : Option Addr) (n cap : Nat) (w : World) (hn : n ≤ 1048576) (hcur : Cur w cb ao n cap) (hcode : Code w cb ao n) :
    Calls Try.prog 64 #[.pointer (some ⟨cb, 0, none⟩)] w fun e w' => ∃ v t b : Int, e = .returned (.agg #[.int .i64 v, .int .i64 t, .int .i64 b]) ∧ Cur w' cb ao n cap ∧ w.grownBy w' (some cb) := by
  have hlt := hcur.lt
  obtain ⟨W0, hW0⟩ : ∃ W0, w.alloc (.cells #[.int .i64 0, .int .i64 0, .int .i64 0] 47) = W0 := ⟨_, rfl⟩
  have A0 : Hid (Rg W0 w.heap.size 47 0 0 0) := by subst hW0; exact Rg.new w 47 0 0 0
  have HC : Hid (Cur W0 cb ao n cap) := by subst hW0; exact hcur.alloc _
  have HO : Hid (Code W0 cb ao n) := by subst hW0; exact hcode.later (World.grownBy_alloc _ _ _)
  have G0 : Hid (w.grownBy W0 (some cb)) := by subst hW0; exact World.grownBy_alloc _ _ _
  have hs0 : w.heap.size < W0.heap.size := A0.out.lt
  clear hcur hcode
  go_enter Try.func64, Try.ntmps64
  go_wp2_with fail
  clear hW0
  refine (l03Any_any cb ao n cap _ hn HC.out HO.out).mono ?_; rintro e w1 ⟨t, b, rfl, hc1, hb1⟩
  have hs1 := hb1.size
  obtain ⟨W2, hW2⟩ : ∃ W2, w1.alloc (.cells #[.int .i64 t, .int .i64 b] 45) = W2 := ⟨_, rfl⟩
  have A2 : Hid (Sg W2 w1.heap.size 45 t b) := by subst hW2; exact Sg.new w1 45 t b
  have G2 : Hid (W0.grownBy W2 (some cb)) := by subst hW2; exact gal hb1 _
  have HC2 : Hid (Cur W2 cb ao n cap) := by subst hW2; exact hc1.alloc _
  have HO2 : Hid (Code W2 cb ao n) := HO.out.later G2.out
  have hs2 : w1.heap.size < W2.heap.size := A2.out.lt
  clear hc1 hb1
  go_wp2_with fail
  clear hW2
  have HS : Hid (∀ W, W2.grownBy W (some cb) → W.cell? ⟨w1.heap.size, 0, none⟩ = some (.int .i64 t) ∧ W.cell? ⟨w1.heap.size, 1, none⟩ = some (.int .i64 b)) := fun W h => (A2.out.kept h (by omega)).cells
  have A20 : Hid (Rg W2 w.heap.size 47 0 0 0) := A0.out.kept G2.out (by omega)
  go_region_held3 (fun W => W.cell? ⟨w1.heap.size, 0, none⟩ = some (.int .i64 t) ∧ W.cell? ⟨w1.heap.size, 1, none⟩ = some (.int .i64 b))
    ((first | (refine HS.out _ ?_; (repeat (first | exact gdr (gre _ _) | exact gre _ _ | refine gdr ?_ | refine gal ?_ _ | refine only_trans ?_ (by assumption))); done) | (refine ((((A2.out.kept (cb := cb) ?_ (by omega)).other (by omega)).other (by omega)).other (by omega)).cells; repeat (first | exact gdr (gre _ _) | exact gre _ _ | refine gdr ?_ | refine gal ?_ _ | refine only_trans ?_ (by assumption)))))
    ((first
      | (go_at_call 75; refine (pickInt_any cb W2.heap.size 6 [0, 1, 1, 7, -1, 1000000001] ao n cap _ hn ((HC2.out.alloc _).drew) (HO2.out.later (gdr (World.grownBy_alloc _ _ _))) rfl (by decide) (by decide) (by omega) (row6 W2 0 1 1 7 (-1) 1000000001)).mono ?_; rintro e w5 ⟨y, _, rfl, hc5, hb5⟩; have R5 := A20.out.kept (only_trans (gdr (World.grownBy_alloc _ _ _)) hb5) (by omega); have d5 := R5.cells; have f5 := R5.loose)))
  have G5 : Hid (W2.grownBy w5 (some cb)) := only_trans (gdr (World.grownBy_alloc _ _ _)) hb5
  have c3 := (R5.set' (v' := y) (t' := t) (b' := b)).cells
  go_wp2_with fail
  exact bodyPost_ret (v := rgv y t b) (by simp [results, Try.results64, go_sem, c3]) rfl ⟨y, t, b, rfl, ((hc5.set (by omega)).set (by omega)).set (by omega), gset (gset (gset (only_trans G0.out (only_trans G2.out G5.out)) (Nat.le_refl _) _ _) (Nat.le_refl _) _ _) (Nat.le_refl _) _ _⟩

end Go.Proofs.Ytjnpohbljjlicab
