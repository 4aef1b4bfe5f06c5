/- What is put, drawn. -/
import Derived.Test.YtagfgkmeekgngaaRdrawB
namespace Go.Proofs.Ytagfgkmeekgngaa
open Go.RowKit

theorem row4 (w : World) (x y z x' : Int) (i : Nat) (h : i < [x, y, z, x'].length) : (w.alloc (.cells #[.int .i64 x, .int .i64 y, .int .i64 z, .int .i64 x'] 3)).cell? ⟨w.heap.size, i, none⟩ = some (.int .i64 [x, y, z, x'][i]) := by
  rw [cell_of_row _ w.heap.size i _ _ (0, 0) (heap_alloc_new w _)]
  have hi : i < 4 := h
  match i, hi with
  | 0, _ => rfl
  | 1, _ => rfl
  | 2, _ => rfl
  | 3, _ => rfl

set_option maxHeartbeats 2000000 in
theorem drawPut_any (ao : Option Addr) (n cap : Nat) (w : World) (hn : n ≤ 1048576) (hcode : Code w w.heap.size ao n) :
    Calls Try.prog 14 #[.slice ao n cap] w fun e w' => ∃ v t b z t' b' : Int, e = .returned (.tuple #[.agg #[.int .i64 v, .int .i64 t, .int .i64 b], .int .i64 z, .agg #[.int .i64 t', .int .i64 b']]) ∧ Below w.heap.size w w' := by
  obtain ⟨W0, hW0⟩ : ∃ W0, (w.alloc (.cells #[.int .i64 0, .int .i64 0, .int .i64 0] 27)).alloc (.cells #[.int .i64 0, .int .i64 0] 25) = W0 := ⟨_, rfl⟩
  have A0 : Hid (Rg W0 w.heap.size 27 0 0 0) := by subst hW0; exact (Rg.new w 27 0 0 0).later (bpush (bre _) _)
  have A1 : Hid (Sg W0 (w.heap.size + 1) 25 0 0) := by subst hW0; show Sg _ _ _ _ _; simpa using Sg.new (w.alloc (.cells #[.int .i64 0, .int .i64 0, .int .i64 0] 27)) 25 0 0
  have B0 : Hid (Below w.heap.size w W0) := by subst hW0; exact bpush (bpush (bre _) _) _
  have hs0 : w.heap.size + 1 < W0.heap.size := A1.out.lt
  have HO : Hid (Code W0 W0.heap.size ao n) := by
    subst hW0; intro h; obtain ⟨b, off, h1, h2, h3⟩ := (hcode.later (gal (World.grownBy_alloc w (.cells #[.int .i64 0, .int .i64 0, .int .i64 0] 27) _) (.cells #[.int .i64 0, .int .i64 0] 25))) h; exact ⟨b, off, h1, by simp; omega, h3⟩
  clear hcode
  go_enter Try.func14, Try.ntmps14
  go_wp2_with fail
  clear hW0
  refine (new_any ao n cap _ hn HO.out).mono ?_; rintro e w1 ⟨rfl, hc1, ho1, hb1⟩
  have hs1 : W0.heap.size < w1.heap.size := hc1.lt
  have B1 : Hid (Below W0.heap.size W0 w1) := hb1
  have HC1 : Hid (Cur w1 W0.heap.size ao n cap) := hc1
  have HO1 : Hid (Code w1 W0.heap.size ao n) := ho1
  clear hc1 ho1 hb1
  go_wp2_with fail
  refine (pickInt_any W0.heap.size w1.heap.size 4 [0, 1, 5, -1] ao n cap _ hn (HC1.out.alloc _) (HO1.out.later (World.grownBy_alloc _ _ _)) rfl (by decide) (by decide) (by omega) (row4 w1 0 1 5 (-1))).mono ?_
  rintro e w2 ⟨z, _, rfl, hc2, hb2⟩
  have HC2 : Hid (Cur w2 W0.heap.size ao n cap) := hc2
  have G2 : Hid (w1.grownBy w2 (some W0.heap.size)) := only_trans (World.grownBy_alloc _ _ _) hb2
  have HO2 : Hid (Code w2 W0.heap.size ao n) := HO1.out.later G2.out
  have hz2 := G2.out.size
  clear hc2 hb2
  go_wp2_with fail
  refine (l03Any_any W0.heap.size ao n cap _ hn HC2.out HO2.out).mono ?_; rintro e w3 ⟨t, b, rfl, hc3, hb3⟩
  obtain ⟨W4, hW4⟩ : ∃ W4, w3.alloc (.cells #[.int .i64 t, .int .i64 b] 25) = W4 := ⟨_, rfl⟩
  have S4 : Hid (Sg W4 w3.heap.size 25 t b) := by subst hW4; exact Sg.new w3 25 t b
  have G4 : Hid (w1.grownBy W4 (some W0.heap.size)) := by subst hW4; exact gal (only_trans G2.out hb3) _
  have HC4 : Hid (Cur W4 W0.heap.size ao n cap) := by subst hW4; exact hc3.alloc _
  have HO4 : Hid (Code W4 W0.heap.size ao n) := HO1.out.later G4.out
  have hs4 : w3.heap.size < W4.heap.size := S4.out.lt
  have hz3 := hb3.size
  clear hc3 hb3
  go_wp2_with fail
  clear hW4
  have B4 : Hid (Below W0.heap.size W0 W4) := B1.out.trans (only_below G4.out (Nat.le_refl _) B1.out.size)
  have Z0 : Hid (Rg W4 w.heap.size 27 0 0 0) := A0.out.later B4.out
  have Z1 : Hid (Sg W4 (w.heap.size + 1) 25 0 0) := A1.out.later B4.out
  have K0 : Hid (W4.drew.cell? ⟨w3.heap.size, 0, none⟩ = some (.int .i64 t) ∧ W4.drew.cell? ⟨w3.heap.size, 1, none⟩ = some (.int .i64 b)) := S4.out.cells
  go_region_held3 (fun W => W.cell? ⟨w3.heap.size, 0, none⟩ = some (.int .i64 t) ∧ W.cell? ⟨w3.heap.size, 1, none⟩ = some (.int .i64 b))
    ((first
      | with_reducible exact K0.out
      | with_reducible exact K1.out
      | (refine ((S4.out.kept hb9 (by omega)).ke ?_).cells; repeat (first | with_reducible rfl | refine kset (by omega) ?_))))
    ((first
      | (go_at_call 21; refine (l03Reg_any W0.heap.size ao n cap _ hn HC4.out.drew (HO4.out.later (gdr (gre _ _)))).mono ?_; rintro e w8 ⟨v1, t1, b1, rfl, hc8, hb8⟩; have hb9 : W4.grownBy w8 (some W0.heap.size) := only_trans (gdr (gre _ _)) hb8; have K1 : Hid (w8.cell? ⟨w3.heap.size, 0, none⟩ = some (.int .i64 t) ∧ w8.cell? ⟨w3.heap.size, 1, none⟩ = some (.int .i64 b)) := (S4.out.kept hb9 (by omega)).cells; have Y0 := Z0.out.kept hb9 (by omega); have Y1 := Z1.out.kept hb9 (by omega); have e0 := Y0.cells; have e1 := Y1.cells; have g0 := Y0.loose; have g1 := Y1.loose)))
  rename_i hheld
  clear hheld K1 e0 e1 g0 g1
  obtain ⟨U, hU⟩ : ∃ U, set2 (set3 w8 w.heap.size v1 t1 b1) (w.heap.size + 1) t b = U := ⟨_, rfl⟩
  have F0 : Hid (Rg U w.heap.size 27 v1 t1 b1) := by
    subst hU; exact (Y0.set.other (by omega)).other (by omega)
  have F1 : Hid (Sg U (w.heap.size + 1) 25 t b) := by
    subst hU; exact (((Y1.other (by omega)).other (by omega)).other (by omega)).set
  have BU : Hid (Below w.heap.size w U) := by
    subst hU; exact bset2 (bset3 (btr B0.out (B4.out.trans (only_below hb9 (Nat.le_refl _) (by omega)))) (by omega) _ _ _) (by omega) _ _
  unfold set2 set3 at hU
  rw [hU]
  clear hU hb9 hb8 hc8 Y0 Y1
  go_wp2_with fail
  have c0 := F0.out.cells
  have c1 := F1.out.cells
  exact bodyPost_ret (v := .tuple #[rgv v1 t1 b1, .int .i64 z, stv t b]) (by simp [results, Try.results14, go_sem, c0, c1]) rfl ⟨v1, t1, b1, z, t, b, rfl, BU.out⟩
end Go.Proofs.Ytagfgkmeekgngaa
