/- Ku8. -/

import Derived.Test.YtmpcmllfgogegaaGreatuPa8
namespace Go.Proofs.YtmpcmllfgogegaaGreat
open Go.RowKit Go.ChangeMaps
def Ku8 (w : World) (e : Ending) (w' : World) : Prop :=
 ∃ (g1 : Int) (nm1 : ByteArray) (t1 b1 nx1 : Int) (ma1 : Option Addr) (mn1 mc1 : Nat) (ga1 : Option Addr) (gn1 gc1 : Nat) (L1 : List M4) (G1 : List Int) (g2 : Int) (nm2 : ByteArray) (t2 b2 nx2 : Int) (ma2 : Option Addr) (mn2 mc2 : Nat) (ga2 : Option Addr) (gn2 gc2 : Nat) (L2 : List M4) (G2 : List Int) (x : Int), e = .returned (.tuple #[.agg #[.int .i64 g1, .string nm1, .int .i64 t1, .int .i64 b1, .int .i64 nx1, .slice ma1 mn1 mc1, .slice ga1 gn1 gc1], .agg #[.int .i64 g2, .string nm2, .int .i64 t2, .int .i64 b2, .int .i64 nx2, .slice ma2 mn2 mc2, .slice ga2 gn2 gc2], .int .i64 x]) ∧ (Gd nm1 nx1 mn1 gn1 L1 G1 ∧ Gd nm2 nx2 mn2 gn2 L2 G2) ∧ (Bz w' ma1 mn1 mc1 ga1 gn1 gc1 L1 G1 ∧ Bz w' ma2 mn2 mc2 ga2 gn2 gc2 L2 G2) ∧ Below w.heap.size w w'
theorem row8 {W : World} {k : Nat} (h : W.heap[k]? = some (.cells #[.int .i64 10, .int .i64 11, .int .i64 12, .int .i64 20, .int .i64 21, .int .i64 30, .int .i64 31, .int .i64 99] 3 (0, 0))) : ∀ i (h : i < ([10, 11, 12, 20, 21, 30, 31, 99] : List Int).length), W.cell? ⟨k, i, none⟩ = some (.int .i64 ([10, 11, 12, 20, 21, 30, 31, 99] : List Int)[i]) := by
 intro i hi
 have h2 : i = 0 ∨ i = 1 ∨ i = 2 ∨ i = 3 ∨ i = 4 ∨ i = 5 ∨ i = 6 ∨ i = 7 := by simp at hi; omega
 rcases h2 with rfl | rfl | rfl | rfl | rfl | rfl | rfl | rfl
 ·exact cell_of_row _ _ 0 _ _ _ h
 ·exact cell_of_row _ _ 1 _ _ _ h
 ·exact cell_of_row _ _ 2 _ _ _ h
 ·exact cell_of_row _ _ 3 _ _ _ h
 ·exact cell_of_row _ _ 4 _ _ _ h
 ·exact cell_of_row _ _ 5 _ _ _ h
 ·exact cell_of_row _ _ 6 _ _ _ h
 ·exact cell_of_row _ _ 7 _ _ _ h
set_option maxHeartbeats 1600000 in
set_option maxRecDepth 100000 in
theorem drawKeepsUid_any (ao : Option Addr) (n cap : Nat) (w : World) (hn : n ≤ 1048576) (hcode : Code w w.heap.size ao n) :
  Calls Tryz.prog 17 #[.slice ao n cap] w fun e w' => Ku8 w e w' := by
 have HCO := hid hcode
 have e0 : (w.alloc (.cells #[.int .i64 0, .string ⟨#[]⟩, .int .i64 0, .int .i64 0, .int .i64 0, .slice none 0 0, .slice none 0 0] 29)).heap.size = w.heap.size + 1 := by simp
 have e1 : ((w.alloc (.cells #[.int .i64 0, .string ⟨#[]⟩, .int .i64 0, .int .i64 0, .int .i64 0, .slice none 0 0, .slice none 0 0] 29)).alloc (.cells #[.int .i64 0, .string ⟨#[]⟩, .int .i64 0, .int .i64 0, .int .i64 0, .slice none 0 0, .slice none 0 0] 29)).heap.size = w.heap.size + 1 + 1 := by simp
 have R0 := hid ((Bx.new w 29 0 ⟨#[]⟩ 0 0 0 (.slice none 0 0) (.slice none 0 0)).later (bpush (bre _) (.cells #[.int .i64 0, .string ⟨#[]⟩, .int .i64 0, .int .i64 0, .int .i64 0, .slice none 0 0, .slice none 0 0] 29)))
 have R1 : Hid (Bx ((w.alloc (.cells #[.int .i64 0, .string ⟨#[]⟩, .int .i64 0, .int .i64 0, .int .i64 0, .slice none 0 0, .slice none 0 0] 29)).alloc (.cells #[.int .i64 0, .string ⟨#[]⟩, .int .i64 0, .int .i64 0, .int .i64 0, .slice none 0 0, .slice none 0 0] 29)) (w.heap.size + 1) 29 0 ⟨#[]⟩ 0 0 0 (.slice none 0 0) (.slice none 0 0)) := by rw [← e0]; exact Bx.new _ _ _ _ _ _ _ _ _
 have N0 := hid (bpush (bpush (bre w) (.cells #[.int .i64 0, .string ⟨#[]⟩, .int .i64 0, .int .i64 0, .int .i64 0, .slice none 0 0, .slice none 0 0] 29)) (.cells #[.int .i64 0, .string ⟨#[]⟩, .int .i64 0, .int .i64 0, .int .i64 0, .slice none 0 0, .slice none 0 0] 29))
 have O0 := hid (hcode.over N0.out)
 have HS := hid e1
 clear hcode e0 e1
 go_enter Tryz.func17, Tryz.ntmps17
 go_wp2_with fail
 refine (new_any ao n cap _ hn O0.out).mono ?_; rintro e w2 ⟨rfl, hc, ho, hb⟩
 rw [HS.out] at hc ho ⊢
 have hlt := hc.lt
 have bp : Below w2.heap.size w2 (w2.alloc (.cells #[.int .i64 10, .int .i64 11, .int .i64 12, .int .i64 20, .int .i64 21, .int .i64 30, .int .i64 31, .int .i64 99] 3)) := bpush (bre _) _
 have C2 := hid (hc.alloc (.cells #[.int .i64 10, .int .i64 11, .int .i64 12, .int .i64 20, .int .i64 21, .int .i64 30, .int .i64 31, .int .i64 99] 3))
 have O2 := hid (ho.later (World.grownBy_alloc _ (.cells #[.int .i64 10, .int .i64 11, .int .i64 12, .int .i64 20, .int .i64 21, .int .i64 30, .int .i64 31, .int .i64 99] 3) _))
 have R02 := hid ((R0.out.later hb).later bp)
 have R12 := hid ((R1.out.later hb).later bp)
 have B2 := hid (btr (btr N0.out hb) bp)
 have RW := hid (row8 (heap_alloc_new w2 (.cells #[.int .i64 10, .int .i64 11, .int .i64 12, .int .i64 20, .int .i64 21, .int .i64 30, .int .i64 31, .int .i64 99] 3)))
 have HLT := hid hlt
 clear hc ho hb R0 R1 N0 O0 HS bp hlt
 go_wp2_with fail
 refine (pickInt_any (w.heap.size + 1 + 1) _ 8 [10, 11, 12, 20, 21, 30, 31, 99] ao n cap _ hn C2.out O2.out rfl (by decide) (by decide) (by have := HLT.out; omega) RW.out).mono ?_; rintro e w3 ⟨x, hx, rfl, hc, hg⟩
 have hlt := HLT.out
 have R03 := hid (R02.out.gone8 hg (by omega))
 have R13 := hid (R12.out.gone8 hg (by omega))
 have B3 := hid (B2.out.trans (only_below hg (by omega) B2.out.size))
 have S3 : Hid (w.heap.size + 1 + 1 < w3.heap.size) := hc.lt
 clear hc hg R02 R12 B2 C2 O2 hlt HLT RW hx
 go_wp2_with fail
 refine (l08Pair_any ao n cap _ hn (HCO.out.over B3.out)).mono ?_; rintro e w4 ⟨g1, nm1, t1, b1, nx1, ma1, mn1, mc1, ga1, gn1, gc1, L1, G1, g2, nm2, t2, b2, nx2, ma2, mn2, mc2, ga2, gn2, gc2, L2, G2, rfl, kk, ⟨o1, o2⟩, hb⟩
 have bp : Below w4.heap.size w4 ((w4.alloc (.cells #[.int .i64 g1, .string nm1, .int .i64 t1, .int .i64 b1, .int .i64 nx1, .slice ma1 mn1 mc1, .slice ga1 gn1 gc1] 29)).alloc (.cells #[.int .i64 g2, .string nm2, .int .i64 t2, .int .i64 b2, .int .i64 nx2, .slice ma2 mn2 mc2, .slice ga2 gn2 gc2] 29)) := bpush (bpush (bre _) _) _
 have hs : (w4.alloc (.cells #[.int .i64 g1, .string nm1, .int .i64 t1, .int .i64 b1, .int .i64 nx1, .slice ma1 mn1 mc1, .slice ga1 gn1 gc1] 29)).heap.size = w4.heap.size + 1 := by simp
 have KK := hid kk
 have r0 := ((R03.out.later hb).later bp).later (bdr (bre _))
 have r1 := ((R13.out.later hb).later bp).later (bdr (bre _))
 have R06 := hid r0
 have TW := hid (two_outz (g1 := g1) (nm1 := nm1) (t1 := t1) (b1 := b1) (nx1 := nx1) (g2 := g2) (nm2 := nm2) (t2 := t2) (b2 := b2) (nx2 := nx2) r0 r1 (by have := S3.out; omega) ((o1.later bp).later (bdr (bre _))) ((o2.later bp).later (bdr (bre _))))
 have B7 := hid (bdr (btr (btr B3.out hb) bp))
 have X7 := hid (((Bx.new w4 29 g1 nm1 t1 b1 nx1 (.slice ma1 mn1 mc1) (.slice ga1 gn1 gc1)).later (bpush (bre _) (.cells #[.int .i64 g2, .string nm2, .int .i64 t2, .int .i64 b2, .int .i64 nx2, .slice ma2 mn2 mc2, .slice ga2 gn2 gc2] 29))).later (bdr (bre _)))
 have X8 := hid ((Bx.new (w4.alloc (.cells #[.int .i64 g1, .string nm1, .int .i64 t1, .int .i64 b1, .int .i64 nx1, .slice ma1 mn1 mc1, .slice ga1 gn1 gc1] 29)) 29 g2 nm2 t2 b2 nx2 (.slice ma2 mn2 mc2) (.slice ga2 gn2 gc2)).later (bdr (bre _)))
 rw [hs] at X8
 have L7 : Hid (w.heap.size + 1 + 1 < w4.heap.size) := by have := S3.out; have := hb.size; show _ < _; omega
 clear kk r0 r1 o1 o2 hb bp hs R03 R13 B3 S3
 go_wp2_with fail
 obtain ⟨W7, hW7⟩ : ∃ W7, (w4.alloc (.cells #[.int .i64 g1, .string nm1, .int .i64 t1, .int .i64 b1, .int .i64 nx1, .slice ma1 mn1 mc1, .slice ga1 gn1 gc1] 29)).alloc (.cells #[.int .i64 g2, .string nm2, .int .i64 t2, .int .i64 b2, .int .i64 nx2, .slice ma2 mn2 mc2, .slice ga2 gn2 gc2] 29) = W7 := ⟨_, rfl⟩
 obtain ⟨k7, hk7⟩ : ∃ k, w4.heap.size = k := ⟨_, rfl⟩
 rw [hW7] at R06 TW B7
 rw [hW7, hk7] at X7 X8
 rw [hk7] at L7
 rw [hW7, hk7]
 have K0 := hid (And.intro X7.out.cells X8.out.cells)
 clear hW7 hk7
 refine wp_region_noPanic ?_
 refine wp_region_held_drew (S := (fun W => (W.cell? ⟨k7, 0, none⟩ = some (.int .i64 g1) ∧ W.cell? ⟨k7, 1, none⟩ = some (.string nm1) ∧ W.cell? ⟨k7, 2, none⟩ = some (.int .i64 t1) ∧ W.cell? ⟨k7, 3, none⟩ = some (.int .i64 b1) ∧ W.cell? ⟨k7, 4, none⟩ = some (.int .i64 nx1) ∧ W.cell? ⟨k7, 5, none⟩ = some (.slice ma1 mn1 mc1) ∧ W.cell? ⟨k7, 6, none⟩ = some (.slice ga1 gn1 gc1)) ∧ (W.cell? ⟨k7 + 1, 0, none⟩ = some (.int .i64 g2) ∧ W.cell? ⟨k7 + 1, 1, none⟩ = some (.string nm2) ∧ W.cell? ⟨k7 + 1, 2, none⟩ = some (.int .i64 t2) ∧ W.cell? ⟨k7 + 1, 3, none⟩ = some (.int .i64 b2) ∧ W.cell? ⟨k7 + 1, 4, none⟩ = some (.int .i64 nx2) ∧ W.cell? ⟨k7 + 1, 5, none⟩ = some (.slice ma2 mn2 mc2) ∧ W.cell? ⟨k7 + 1, 6, none⟩ = some (.slice ga2 gn2 gc2)))) (by kernel_rfl) (K0.out) (fun hHeld => ?_)
 obtain ⟨WA, hWA⟩ : ∃ WA, W7.drew = WA := ⟨_, rfl⟩
 rw [hWA] at hHeld R06 TW B7 X7 X8
 rw [hWA]
 clear hWA K0
 refine tk 0 ?_
 refine tk 1 ?_
 refine tk 2 ?_
 clear hHeld
 refine ry 3 (fun K hK => ?_)
 have c0 := R06.out.cells
 have f0 := R06.out.loose
 go_simp
 clear c0 f0
 obtain ⟨z1, NXT⟩ := TW.out _ rfl
 have R17 := hid z1
 have NX := hid NXT
 have K1 := hid (And.intro (X7.out.gone8 (set7_grown WA w.heap.size g1 nm1 t1 b1 nx1 (.slice ma1 mn1 mc1) (.slice ga1 gn1 gc1)) (by have := L7.out; omega)).cells (X8.out.gone8 (set7_grown WA w.heap.size g1 nm1 t1 b1 nx1 (.slice ma1 mn1 mc1) (.slice ga1 gn1 gc1)) (by have := L7.out; omega)).cells)
 clear z1 NXT
 unfold set7 at R17 NX K1
 refine hK.out _ _ (K1.out) (fun hHeld => ?_)
 clear hK K
 try simp only [Act.put, tp2, tp3, tp4]
 clear hHeld
 refine ry 4 (fun K hK => ?_)
 have c0 := R17.out.cells
 have f0 := R17.out.loose
 go_simp
 clear c0 f0
 have K2 := hid (And.intro ((X7.out.gone8 (set7_grown WA w.heap.size g1 nm1 t1 b1 nx1 (.slice ma1 mn1 mc1) (.slice ga1 gn1 gc1)) (by have := L7.out; omega)).gone8 (set7_grown _ (w.heap.size + 1) g2 nm2 t2 b2 nx2 (.slice ma2 mn2 mc2) (.slice ga2 gn2 gc2)) (by have := L7.out; omega)).cells ((X8.out.gone8 (set7_grown WA w.heap.size g1 nm1 t1 b1 nx1 (.slice ma1 mn1 mc1) (.slice ga1 gn1 gc1)) (by have := L7.out; omega)).gone8 (set7_grown _ (w.heap.size + 1) g2 nm2 t2 b2 nx2 (.slice ma2 mn2 mc2) (.slice ga2 gn2 gc2)) (by have := L7.out; omega)).cells)
 unfold set7 at K2
 refine hK.out _ _ (K2.out) (fun hHeld => ?_)
 clear hK K
 try simp only [Act.put, tp2, tp3, tp4]
 refine tk 5 ?_
 refine wpAnyH_done (by kernel_rfl) ?_ _
 refine NoPanic.normal ?_
 go_wp2
 obtain ⟨-, z2⟩ := TW.out _ rfl
 obtain ⟨d1, d2, o1, o2, h1, h2⟩ := z2 _ rfl
 have bb := (B7.out.trans (below_of_grown h1 (Nat.le_refl _) B7.out.size)).trans (below_of_grown h2 (Nat.le_succ _) (Nat.le_trans B7.out.size h1.size))
 have d1 := d1.cells
 have d2 := d2.cells
 have z1 := o1.bz
 have z2 := o2.bz
 clear o1 o2 h1 h2
 unfold set7 at d1 d2 bb z1 z2
 refine bodyPost_ret (v := .tuple #[.agg #[.int .i64 g1, .string nm1, .int .i64 t1, .int .i64 b1, .int .i64 nx1, .slice ma1 mn1 mc1, .slice ga1 gn1 gc1], .agg #[.int .i64 g2, .string nm2, .int .i64 t2, .int .i64 b2, .int .i64 nx2, .slice ma2 mn2 mc2, .slice ga2 gn2 gc2], .int .i64 x]) (by simp [results, Tryz.results17, go_sem, d1, d2]) rfl ⟨g1, nm1, t1, b1, nx1, ma1, mn1, mc1, ga1, gn1, gc1, L1, G1, g2, nm2, t2, b2, nx2, ma2, mn2, mc2, ga2, gn2, gc2, L2, G2, x, rfl, KK.out, ⟨z1, z2⟩, bb⟩
end Go.Proofs.YtmpcmllfgogegaaGreat
