/- Three registers drawn; what is put, drawn. -/
import Derived.Test.YtagfgkmeekgngaaRdraw
namespace Go.Proofs.Ytagfgkmeekgngaa
open Go.RowKit

theorem Rg.ke {W W' : World} {k ty : Nat} {v t b : Int} (h : Rg W k ty v t b) (e : W'.heap[k]? = W.heap[k]?) : Rg W' k ty v t b := e.trans h
theorem Sg.ke {W W' : World} {k ty : Nat} {t b : Int} (h : Sg W k ty t b) (e : W'.heap[k]? = W.heap[k]?) : Sg W' k ty t b := e.trans h
theorem kset {W W' : World} {k g o : Nat} {u : Value} (hk : k ≠ g) (h : W'.heap[k]? = W.heap[k]?) : (W'.setCell ⟨g, o, none⟩ u).heap[k]? = W.heap[k]? := (heap_setCell_other W' ⟨g, o, none⟩ k u hk).trans h

set_option maxHeartbeats 2000000 in
theorem drawRegs_any (ao : Option Addr) (n cap : Nat) (w : World) (hn : n ≤ 1048576) (hcode : Code w w.heap.size ao n) :
    Calls Try.prog 6 #[.slice ao n cap] w fun e w' => ∃ v1 t1 b1 v2 t2 b2 v3 t3 b3 : Int, ((0 ≤ v1 ∧ v1 < 3) ∧ 0 ≤ t1 ∧ t1 < 12 ∧ 1 ≤ b1 ∧ b1 ≤ 2) ∧ e = .returned (.tuple #[.agg #[.int .i64 v1, .int .i64 t1, .int .i64 b1], .agg #[.int .i64 v2, .int .i64 t2, .int .i64 b2], .agg #[.int .i64 v3, .int .i64 t3, .int .i64 b3]]) ∧ Below w.heap.size w w' := by
  obtain ⟨W0, hW0⟩ : ∃ W0, ((w.alloc (.cells #[.int .i64 0, .int .i64 0, .int .i64 0] 27)).alloc (.cells #[.int .i64 0, .int .i64 0, .int .i64 0] 27)).alloc (.cells #[.int .i64 0, .int .i64 0, .int .i64 0] 27) = W0 := ⟨_, rfl⟩
  have A0 : Hid (Rg W0 w.heap.size 27 0 0 0) := by subst hW0; exact (Rg.new w 27 0 0 0).later (bpush (bpush (bre _) _) _)
  have A1 : Hid (Rg W0 (w.heap.size + 1) 27 0 0 0) := by subst hW0; exact Rg.later (by simpa using Rg.new (w.alloc (.cells #[.int .i64 0, .int .i64 0, .int .i64 0] 27)) 27 0 0 0) (bpush (bre _) _)
  have A2 : Hid (Rg W0 (w.heap.size + 1 + 1) 27 0 0 0) := by subst hW0; show Rg _ _ _ _ _ _; simpa using Rg.new ((w.alloc (.cells #[.int .i64 0, .int .i64 0, .int .i64 0] 27)).alloc (.cells #[.int .i64 0, .int .i64 0, .int .i64 0] 27)) 27 0 0 0
  have B0 : Hid (Below w.heap.size w W0) := by subst hW0; exact bpush (bpush (bpush (bre _) _) _) _
  have hs0 : w.heap.size + 1 + 1 < W0.heap.size := A2.out.lt
  have HO : Hid (Code W0 W0.heap.size ao n) := by
    subst hW0; intro h; obtain ⟨b, off, h1, h2, h3⟩ := (hcode.later (gal (gal (World.grownBy_alloc w (.cells #[.int .i64 0, .int .i64 0, .int .i64 0] 27) _) (.cells #[.int .i64 0, .int .i64 0, .int .i64 0] 27)) (.cells #[.int .i64 0, .int .i64 0, .int .i64 0] 27))) h; exact ⟨b, off, h1, by simp; omega, h3⟩
  clear hcode
  go_enter Try.func6, Try.ntmps6
  go_wp2_with fail
  clear hW0
  refine (new_any ao n cap _ hn HO.out).mono ?_; rintro e w1 ⟨rfl, hc1, ho1, hb1⟩
  have hs1 : W0.heap.size < w1.heap.size := hc1.lt
  have B1 : Hid (Below W0.heap.size W0 w1) := hb1
  have HC1 : Hid (Cur w1 W0.heap.size ao n cap) := hc1
  have HO1 : Hid (Code w1 W0.heap.size ao n) := ho1
  clear hc1 ho1 hb1
  go_wp2_with fail
  refine (l03Stamp_any W0.heap.size ao n cap _ hn HC1.out HO1.out).mono ?_; rintro e w2 ⟨t2, b2, hr2, rfl, hc2, hb2⟩
  obtain ⟨W2, hW2⟩ : ∃ W2, w2.alloc (.cells #[.int .i64 t2, .int .i64 b2] 25) = W2 := ⟨_, rfl⟩
  have S2 : Hid (Sg W2 w2.heap.size 25 t2 b2) := by subst hW2; exact Sg.new w2 25 t2 b2
  have G2 : Hid (w1.grownBy W2 (some W0.heap.size)) := by subst hW2; exact gal hb2 _
  have HC2 : Hid (Cur W2 W0.heap.size ao n cap) := by subst hW2; exact hc2.alloc _
  have HO2 : Hid (Code W2 W0.heap.size ao n) := HO1.out.later G2.out
  have hs2 : w2.heap.size < W2.heap.size := S2.out.lt
  have hz2 : w1.heap.size ≤ w2.heap.size := hb2.size
  have HR2 : Hid (0 ≤ t2 ∧ t2 < 12 ∧ 1 ≤ b2 ∧ b2 ≤ 2) := hr2
  clear hc2 hb2 hr2
  go_wp2_with fail
  clear hW2
  refine (l03Stamp_any W0.heap.size ao n cap _ hn HC2.out HO2.out).mono ?_; rintro e w3 ⟨t3, b3, hr3, rfl, hc3, hb3⟩
  obtain ⟨W3, hW3⟩ : ∃ W3, w3.alloc (.cells #[.int .i64 t3, .int .i64 b3] 25) = W3 := ⟨_, rfl⟩
  have S3 : Hid (Sg W3 w3.heap.size 25 t3 b3) := by subst hW3; exact Sg.new w3 25 t3 b3
  have G3 : Hid (W2.grownBy W3 (some W0.heap.size)) := by subst hW3; exact gal hb3 _
  have HC3 : Hid (Cur W3 W0.heap.size ao n cap) := by subst hW3; exact hc3.alloc _
  have HO3 : Hid (Code W3 W0.heap.size ao n) := HO2.out.later G3.out
  have hs3 : w3.heap.size < W3.heap.size := S3.out.lt
  have hz3 : W2.heap.size ≤ w3.heap.size := hb3.size
  have HR3 : Hid (0 ≤ t3 ∧ t3 < 12 ∧ 1 ≤ b3 ∧ b3 ≤ 2) := hr3
  clear hc3 hb3 hr3
  go_wp2_with fail
  clear hW3
  refine (l03Stamp_any W0.heap.size ao n cap _ hn HC3.out HO3.out).mono ?_; rintro e w4 ⟨t4, b4, hr4, rfl, hc4, hb4⟩
  obtain ⟨W4, hW4⟩ : ∃ W4, w4.alloc (.cells #[.int .i64 t4, .int .i64 b4] 25) = W4 := ⟨_, rfl⟩
  have S4 : Hid (Sg W4 w4.heap.size 25 t4 b4) := by subst hW4; exact Sg.new w4 25 t4 b4
  have G4 : Hid (W3.grownBy W4 (some W0.heap.size)) := by subst hW4; exact gal hb4 _
  have HC4 : Hid (Cur W4 W0.heap.size ao n cap) := by subst hW4; exact hc4.alloc _
  have HO4 : Hid (Code W4 W0.heap.size ao n) := HO3.out.later G4.out
  have hs4 : w4.heap.size < W4.heap.size := S4.out.lt
  have hz4 : W3.heap.size ≤ w4.heap.size := hb4.size
  have HR4 : Hid (0 ≤ t4 ∧ t4 < 12 ∧ 1 ≤ b4 ∧ b4 ≤ 2) := hr4
  clear hc4 hb4 hr4
  go_wp2_with fail
  clear hW4
  have T5 : Hid (Sg W4 w2.heap.size 25 t2 b2) := (S2.out.kept G3.out (by omega)).kept G4.out (by omega)
  have HS5 : Hid (∀ W, W4.grownBy W (some W0.heap.size) → (W.cell? ⟨w2.heap.size, 0, none⟩ = some (.int .i64 t2) ∧ W.cell? ⟨w2.heap.size, 1, none⟩ = some (.int .i64 b2))) := fun W h => (T5.out.kept h (by omega)).cells
  go_cut [9] from 11 (fun s wx => ∃ (k : Nat) (x : Int), s = .pointer (some ⟨k, 0, none⟩) ∧ (0 ≤ x ∧ x < 3) ∧ W4.heap.size ≤ k ∧ Rg wx k 27 x t2 b2 ∧ Cur wx W0.heap.size ao n cap ∧ W4.grownBy wx (some W0.heap.size))
  case first =>
    go_region_held3 (fun W => (W.cell? ⟨w2.heap.size, 0, none⟩ = some (.int .i64 t2) ∧ W.cell? ⟨w2.heap.size, 1, none⟩ = some (.int .i64 b2)))
      ((refine HS5.out _ ?_; repeat (first | exact gre _ _ | refine gdr ?_ | refine gal ?_ _ | refine only_trans ?_ (by assumption) | refine gset ?_ (by omega) _ _)))
      ((first
        | (go_at_call 19; refine (below4 W0.heap.size ao n cap _ hn (by first | exact HC4.out.drew | exact (HC4.out.alloc _).drew) (by first | exact HO4.out.later (gdr (gre _ _)) | exact HO4.out.later (gdr (gal (gre _ _) _))) 3 (by omega) (by omega)).mono ?_; rintro e w8 ⟨x, hx, rfl, hc8, hb8⟩; (first | (have R8 := (Rg.newd _ 27 0 0 0).kept hb8 (by omega); have d8 := R8.cells; have f8 := R8.loose) | skip))))
    all_goals (try go_wp2_with fail)
    all_goals go_meet
    all_goals
      have hz8 := hb8.size
      simp at hz8
      refine ⟨_, x, rfl, by omega, ?_, ?_, ?_, ?_⟩
      · first | exact Nat.le_refl _ | omega
      · first | with_reducible exact Rg.set' (by assumption) | with_reducible exact Rg.new _ 27 x t2 b2
      · first | exact ((hc8.set (by omega)).set (by omega)).set (by omega) | exact hc8.alloc _
      · repeat (first | exact gre _ _ | refine gdr ?_ | refine gal ?_ _ | refine only_trans ?_ (by assumption) | refine gset ?_ (by omega) _ _)
  case rest =>
  obtain ⟨k5, x5, rfl, hx5, hk5, R5, hc5, hg5⟩ := hcut
  obtain ⟨V5, hV5⟩ : ∃ V, V = wc := ⟨_, rfl⟩
  subst hV5
  have HX5 : Hid (0 ≤ x5 ∧ x5 < 3) := hx5
  have Q5 : Hid (Rg V5 k5 27 x5 t2 b2) := R5
  have hq5 : k5 < V5.heap.size := R5.lt
  have HC5 : Hid (Cur V5 W0.heap.size ao n cap) := hc5
  have G5 : Hid (W4.grownBy V5 (some W0.heap.size)) := hg5
  have HO5 : Hid (Code V5 W0.heap.size ao n) := HO4.out.later hg5
  have hz5 : W4.heap.size ≤ V5.heap.size := hg5.size
  clear hx5 R5 hc5 hg5
  go_wp2_with fail
  have T6 : Hid (Sg V5 w3.heap.size 25 t3 b3) := (S3.out.kept G4.out (by omega)).kept G5.out (by omega)
  have HS6 : Hid (∀ W, V5.grownBy W (some W0.heap.size) → (W.cell? ⟨w3.heap.size, 0, none⟩ = some (.int .i64 t3) ∧ W.cell? ⟨w3.heap.size, 1, none⟩ = some (.int .i64 b3))) := fun W h => (T6.out.kept h (by omega)).cells
  go_cut [10] from 11 (fun s wx => ∃ (k : Nat) (x : Int), s = .pointer (some ⟨k, 0, none⟩) ∧ (0 ≤ x ∧ x < 3) ∧ V5.heap.size ≤ k ∧ Rg wx k 27 x t3 b3 ∧ Cur wx W0.heap.size ao n cap ∧ V5.grownBy wx (some W0.heap.size))
  case first =>
    go_region_held3 (fun W => (W.cell? ⟨w3.heap.size, 0, none⟩ = some (.int .i64 t3) ∧ W.cell? ⟨w3.heap.size, 1, none⟩ = some (.int .i64 b3)))
      ((refine HS6.out _ ?_; repeat (first | exact gre _ _ | refine gdr ?_ | refine gal ?_ _ | refine only_trans ?_ (by assumption) | refine gset ?_ (by omega) _ _)))
      ((first
        | (go_at_call 19; refine (below4 W0.heap.size ao n cap _ hn (by first | exact HC5.out.drew | exact (HC5.out.alloc _).drew) (by first | exact HO5.out.later (gdr (gre _ _)) | exact HO5.out.later (gdr (gal (gre _ _) _))) 3 (by omega) (by omega)).mono ?_; rintro e w8 ⟨x, hx, rfl, hc8, hb8⟩; (first | (have R8 := (Rg.newd _ 27 0 0 0).kept hb8 (by omega); have d8 := R8.cells; have f8 := R8.loose) | skip))))
    all_goals (try go_wp2_with fail)
    all_goals go_meet
    all_goals
      have hz8 := hb8.size
      simp at hz8
      refine ⟨_, x, rfl, by omega, ?_, ?_, ?_, ?_⟩
      · first | exact Nat.le_refl _ | omega
      · first | with_reducible exact Rg.set' (by assumption) | with_reducible exact Rg.new _ 27 x t3 b3
      · first | exact ((hc8.set (by omega)).set (by omega)).set (by omega) | exact hc8.alloc _
      · repeat (first | exact gre _ _ | refine gdr ?_ | refine gal ?_ _ | refine only_trans ?_ (by assumption) | refine gset ?_ (by omega) _ _)
  case rest =>
  obtain ⟨k6, x6, rfl, hx6, hk6, R6, hc6, hg6⟩ := hcut
  obtain ⟨V6, hV6⟩ : ∃ V, V = wc := ⟨_, rfl⟩
  subst hV6
  have HX6 : Hid (0 ≤ x6 ∧ x6 < 3) := hx6
  have Q6 : Hid (Rg V6 k6 27 x6 t3 b3) := R6
  have hq6 : k6 < V6.heap.size := R6.lt
  have HC6 : Hid (Cur V6 W0.heap.size ao n cap) := hc6
  have G6 : Hid (V5.grownBy V6 (some W0.heap.size)) := hg6
  have HO6 : Hid (Code V6 W0.heap.size ao n) := HO5.out.later hg6
  have hz6 : V5.heap.size ≤ V6.heap.size := hg6.size
  clear hx6 R6 hc6 hg6
  go_wp2_with fail
  have T7 : Hid (Sg V6 w4.heap.size 25 t4 b4) := (S4.out.kept G5.out (by omega)).kept G6.out (by omega)
  have Q56 : Hid (Rg V6 k5 27 x5 t2 b2) := Q5.out.kept G6.out (by omega)
  have G16 : Hid (w1.grownBy V6 (some W0.heap.size)) := only_trans G2.out (only_trans G3.out (only_trans G4.out (only_trans G5.out G6.out)))
  have B6 : Hid (Below W0.heap.size W0 V6) := B1.out.trans (only_below G16.out (Nat.le_refl _) B1.out.size)
  have Z0 : Hid (Rg V6 w.heap.size 27 0 0 0) := A0.out.later B6.out
  have Z1 : Hid (Rg V6 (w.heap.size + 1) 27 0 0 0) := A1.out.later B6.out
  have Z2 : Hid (Rg V6 (w.heap.size + 1 + 1) 27 0 0 0) := A2.out.later B6.out
  have K0 : Hid ((V6.drew.cell? ⟨k5, 0, none⟩ = some (.int .i64 x5) ∧ V6.drew.cell? ⟨k5, 1, none⟩ = some (.int .i64 t2) ∧ V6.drew.cell? ⟨k5, 2, none⟩ = some (.int .i64 b2)) ∧ (V6.drew.cell? ⟨k6, 0, none⟩ = some (.int .i64 x6) ∧ V6.drew.cell? ⟨k6, 1, none⟩ = some (.int .i64 t3) ∧ V6.drew.cell? ⟨k6, 2, none⟩ = some (.int .i64 b3)) ∧ (V6.drew.cell? ⟨w4.heap.size, 0, none⟩ = some (.int .i64 t4) ∧ V6.drew.cell? ⟨w4.heap.size, 1, none⟩ = some (.int .i64 b4))) := ⟨Q56.out.cells, Q6.out.cells, T7.out.cells⟩
  go_region_held3 (fun W => (W.cell? ⟨k5, 0, none⟩ = some (.int .i64 x5) ∧ W.cell? ⟨k5, 1, none⟩ = some (.int .i64 t2) ∧ W.cell? ⟨k5, 2, none⟩ = some (.int .i64 b2)) ∧ (W.cell? ⟨k6, 0, none⟩ = some (.int .i64 x6) ∧ W.cell? ⟨k6, 1, none⟩ = some (.int .i64 t3) ∧ W.cell? ⟨k6, 2, none⟩ = some (.int .i64 b3)) ∧ (W.cell? ⟨w4.heap.size, 0, none⟩ = some (.int .i64 t4) ∧ W.cell? ⟨w4.heap.size, 1, none⟩ = some (.int .i64 b4)))
    ((first
      | with_reducible exact K0.out
      | with_reducible exact K1.out
      | (refine ⟨((Q56.out.kept hb9 (by omega)).ke ?_).cells, ((Q6.out.kept hb9 (by omega)).ke ?_).cells, ((T7.out.kept hb9 (by omega)).ke ?_).cells⟩ <;> repeat (first | with_reducible rfl | refine kset (by omega) ?_))))
    ((first
      | (go_at_call 19; refine (below4 W0.heap.size ao n cap _ hn HC6.out.drew (HO6.out.later (gdr (gre _ _))) 3 (by omega) (by omega)).mono ?_; rintro e w8 ⟨x, hx, rfl, hc8, hb8⟩; have hb9 : V6.grownBy w8 (some W0.heap.size) := only_trans (gdr (gre _ _)) hb8; have K1 : Hid ((w8.cell? ⟨k5, 0, none⟩ = some (.int .i64 x5) ∧ w8.cell? ⟨k5, 1, none⟩ = some (.int .i64 t2) ∧ w8.cell? ⟨k5, 2, none⟩ = some (.int .i64 b2)) ∧ (w8.cell? ⟨k6, 0, none⟩ = some (.int .i64 x6) ∧ w8.cell? ⟨k6, 1, none⟩ = some (.int .i64 t3) ∧ w8.cell? ⟨k6, 2, none⟩ = some (.int .i64 b3)) ∧ (w8.cell? ⟨w4.heap.size, 0, none⟩ = some (.int .i64 t4) ∧ w8.cell? ⟨w4.heap.size, 1, none⟩ = some (.int .i64 b4))) := ⟨(Q56.out.kept hb9 (by omega)).cells, (Q6.out.kept hb9 (by omega)).cells, (T7.out.kept hb9 (by omega)).cells⟩; have Y0 := Z0.out.kept hb9 (by omega); have Y1 := Z1.out.kept hb9 (by omega); have Y2 := Z2.out.kept hb9 (by omega); have e0 := Y0.cells; have e1 := Y1.cells; have e2 := Y2.cells; have g0 := Y0.loose; have g1 := Y1.loose; have g2 := Y2.loose)))
  rename_i hheld
  clear hheld K1 e0 e1 e2 g0 g1 g2
  obtain ⟨U, hU⟩ : ∃ U, set3 (set3 (set3 w8 w.heap.size x5 t2 b2) (w.heap.size + 1) x6 t3 b3) (w.heap.size + 1 + 1) x t4 b4 = U := ⟨_, rfl⟩
  have F0 : Hid (Rg U w.heap.size 27 x5 t2 b2) := by
    subst hU; exact ((((((Y0.set.other (by omega)).other (by omega)).other (by omega)).other (by omega)).other (by omega)).other (by omega))
  have F1 : Hid (Rg U (w.heap.size + 1) 27 x6 t3 b3) := by
    subst hU; exact ((((((Y1.other (by omega)).other (by omega)).other (by omega)).set.other (by omega)).other (by omega)).other (by omega))
  have F2 : Hid (Rg U (w.heap.size + 1 + 1) 27 x t4 b4) := by
    subst hU; exact ((((((Y2.other (by omega)).other (by omega)).other (by omega)).other (by omega)).other (by omega)).other (by omega)).set
  have BU : Hid (Below w.heap.size w U) := by
    subst hU; exact bset3 (bset3 (bset3 (btr B0.out (B6.out.trans (only_below hb9 (Nat.le_refl _) (by omega)))) (by omega) _ _ _) (by omega) _ _ _) (by omega) _ _ _
  have hx0 := HX5.out
  have hr0 := HR2.out
  unfold set3 at hU
  rw [hU]
  clear hU hb9 hb8 hc8 Y0 Y1 Y2
  go_wp2_with fail
  have c0 := F0.out.cells
  have c1 := F1.out.cells
  have c2 := F2.out.cells
  exact bodyPost_ret (v := .tuple #[rgv x5 t2 b2, rgv x6 t3 b3, rgv x t4 b4]) (by simp [results, Try.results6, go_sem, c0, c1, c2]) rfl ⟨x5, t2, b2, x6, t3, b3, x, t4, b4, ⟨hx0, hr0⟩, rfl, BU.out⟩
end Go.Proofs.Ytagfgkmeekgngaa
