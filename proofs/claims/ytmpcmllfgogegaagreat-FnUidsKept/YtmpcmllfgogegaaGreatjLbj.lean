/- Lbj. -/

import Derived.Test.YtmpcmllfgogegaaGreatjDtw
namespace Go.Proofs.YtmpcmllfgogegaaGreat
open Go.RowKit Go.ChangeMaps
structure A8 (W : World) (k : Nat) (nm : ByteArray) (t b nx : Int) (ma : Option Addr) (mn mc : Nat) (ga : Option Addr) (gn gc : Nat) (L : List M4) (G : List Int) : Prop where
 bx : Bx W k 29 7 nm t b nx (.slice ma mn mc) (.slice ga gn gc)
 bz : Bz W ma mn mc ga gn gc L G
section
variable {W W' : World} {k : Nat} {nm : ByteArray} {t b nx : Int} {ma : Option Addr} {mn mc : Nat} {ga : Option Addr} {gn gc : Nat} {L : List M4} {G : List Int}
theorem A8.later (h : A8 W k nm t b nx ma mn mc ga gn gc L G) (hb : Below W.heap.size W W') : A8 W' k nm t b nx ma mn mc ga gn gc L G := ⟨h.bx.later hb, h.bz.later hb⟩
theorem A8.new (hz : Bz W ma mn mc ga gn gc L G) : A8 (W.alloc (.cells #[.int .i64 7, .string nm, .int .i64 t, .int .i64 b, .int .i64 nx, .slice ma mn mc, .slice ga gn gc] 29)) W.heap.size nm t b nx ma mn mc ga gn gc L G := ⟨Bx.new _ _ _ _ _ _ _ _ _, hz.later (bpush (bre _) _)⟩
end
set_option maxHeartbeats 16000000 in
set_option maxRecDepth 100000 in
theorem lawBoxesJoin_any (ao : Option Addr) (n cap : Nat) (w : World) (hcode : Code w w.heap.size ao n) :
  Calls Tryz.prog 3 #[.slice ao n cap] w fun e w' => e = .returned (.bool true) ∧ Below w.heap.size w w' := by
 have HO := hid hcode
 clear hcode
 by_cases hbig : n ≤ 1048576
 ·go_enter Tryz.func3, Tryz.ntmps3
  go_wp2_with fail
  refine (bigF_no ao n cap _ hbig).mono ?_; rintro e w' ⟨rfl, h'⟩
  rw [h']
  clear h'
  go_wp2_with fail
  refine (drawTwo_any ao n cap _ hbig HO.out).mono ?_; rintro e w1 ⟨nm1, t1, b1, nx1, ma1, mn1, mc1, ga1, gn1, gc1, L1, G1, nm2, t2, b2, nx2, ma2, mn2, mc2, ga2, gn2, gc2, L2, G2, rfl, ⟨k1, k2⟩, ⟨z1, z2⟩, hb⟩
  obtain ⟨nm3, t3, b3, nx3, mn3, gn3, L3, G3, nm4, t4, b4, nx4, mn4, gn4, L4, G4, fo, hX, hJ, hF, h4⟩ := join_letters k1 z1.len z1.glen k2 z2.len z2.glen
  have ZZ := hid (And.intro z1 z2)
  have BE := hid hb
  clear z1 z2 hb k1 k2
  have hs : (w1.alloc (.cells #[.int .i64 7, .string nm1, .int .i64 t1, .int .i64 b1, .int .i64 nx1, .slice ma1 mn1 mc1, .slice ga1 gn1 gc1] 29)).heap.size = w1.heap.size + 1 := by simp
  have A := hid ((A8.new (nm := nm1) (t := t1) (b := b1) (nx := nx1) ZZ.out.1).later (bpush (bre _) (.cells #[.int .i64 7, .string nm2, .int .i64 t2, .int .i64 b2, .int .i64 nx2, .slice ma2 mn2 mc2, .slice ga2 gn2 gc2] 29)))
  have B := hid (A8.new (nm := nm2) (t := t2) (b := b2) (nx := nx2) (ZZ.out.2.later (bpush (bre _) (.cells #[.int .i64 7, .string nm1, .int .i64 t1, .int .i64 b1, .int .i64 nx1, .slice ma1 mn1 mc1, .slice ga1 gn1 gc1] 29))))
  have BF := hid (bpush (bpush BE.out (.cells #[.int .i64 7, .string nm1, .int .i64 t1, .int .i64 b1, .int .i64 nx1, .slice ma1 mn1 mc1, .slice ga1 gn1 gc1] 29)) (.cells #[.int .i64 7, .string nm2, .int .i64 t2, .int .i64 b2, .int .i64 nx2, .slice ma2 mn2 mc2, .slice ga2 gn2 gc2] 29))
  rw [hs] at B
  clear ZZ BE hs
  go_wp2_with fail
  obtain ⟨wa, ha⟩ : ∃ W, (w1.alloc (.cells #[.int .i64 7, .string nm1, .int .i64 t1, .int .i64 b1, .int .i64 nx1, .slice ma1 mn1 mc1, .slice ga1 gn1 gc1] 29)).alloc (.cells #[.int .i64 7, .string nm2, .int .i64 t2, .int .i64 b2, .int .i64 nx2, .slice ma2 mn2 mc2, .slice ga2 gn2 gc2] 29) = W := ⟨_, rfl⟩
  obtain ⟨ka, hka⟩ : ∃ k, w1.heap.size = k := ⟨_, rfl⟩
  rw [ha, hka] at A B
  rw [ha] at BF
  rw [ha, hka]
  clear ha hka
  have BE := BF
  clear BF
  refine (hJ.out.1 _ _ _ _ _ _ _ _ _ A.out.bz B.out.bz).mono ?_; rintro e w2 ⟨ma3, mc3, ga3, gc3, rfl, hz, hb⟩
  have J := hid (A8.new (nm := nm3) (t := t3) (b := b3) (nx := nx3) hz.bz)
  replace A := hid ((A.out.later hb).later (bpush (bre _) (.cells #[.int .i64 7, .string nm3, .int .i64 t3, .int .i64 b3, .int .i64 nx3, .slice ma3 mn3 mc3, .slice ga3 gn3 gc3] 29)))
  replace B := hid ((B.out.later hb).later (bpush (bre _) (.cells #[.int .i64 7, .string nm3, .int .i64 t3, .int .i64 b3, .int .i64 nx3, .slice ma3 mn3 mc3, .slice ga3 gn3 gc3] 29)))
  replace BE := hid (bpush (btr BE.out hb) (.cells #[.int .i64 7, .string nm3, .int .i64 t3, .int .i64 b3, .int .i64 nx3, .slice ma3 mn3 mc3, .slice ga3 gn3 gc3] 29))
  clear hz hb
  have ca := A.out.bx.cells
  have cb := B.out.bx.cells
  go_wp2_with fail
  clear ca cb
  obtain ⟨wb, ha⟩ : ∃ W, w2.alloc (.cells #[.int .i64 7, .string nm3, .int .i64 t3, .int .i64 b3, .int .i64 nx3, .slice ma3 mn3 mc3, .slice ga3 gn3 gc3] 29) = W := ⟨_, rfl⟩
  obtain ⟨kj, hka⟩ : ∃ k, w2.heap.size = k := ⟨_, rfl⟩
  rw [ha] at A B BE
  rw [ha, hka] at J
  rw [ha, hka]
  clear ha hka
  refine (hJ.out.2.1 _ _ _ _ _ _ _ _ _ B.out.bz A.out.bz).mono ?_; rintro e w3 ⟨ma5, mc5, ga5, gc5, rfl, hz, hb⟩
  have KK := hid (A8.new (nm := nm3) (t := t3) (b := b3) (nx := nx3) hz.bz)
  replace A := hid ((A.out.later hb).later (bpush (bre _) (.cells #[.int .i64 7, .string nm3, .int .i64 t3, .int .i64 b3, .int .i64 nx3, .slice ma5 mn3 mc5, .slice ga5 gn3 gc5] 29)))
  replace B := hid ((B.out.later hb).later (bpush (bre _) (.cells #[.int .i64 7, .string nm3, .int .i64 t3, .int .i64 b3, .int .i64 nx3, .slice ma5 mn3 mc5, .slice ga5 gn3 gc5] 29)))
  replace J := hid ((J.out.later hb).later (bpush (bre _) (.cells #[.int .i64 7, .string nm3, .int .i64 t3, .int .i64 b3, .int .i64 nx3, .slice ma5 mn3 mc5, .slice ga5 gn3 gc5] 29)))
  replace BE := hid (bpush (btr BE.out hb) (.cells #[.int .i64 7, .string nm3, .int .i64 t3, .int .i64 b3, .int .i64 nx3, .slice ma5 mn3 mc5, .slice ga5 gn3 gc5] 29))
  clear hz hb
  go_wp2_with fail
  obtain ⟨wc, ha⟩ : ∃ W, w3.alloc (.cells #[.int .i64 7, .string nm3, .int .i64 t3, .int .i64 b3, .int .i64 nx3, .slice ma5 mn3 mc5, .slice ga5 gn3 gc5] 29) = W := ⟨_, rfl⟩
  obtain ⟨kk, hka⟩ : ∃ k, w3.heap.size = k := ⟨_, rfl⟩
  rw [ha] at A B J BE
  rw [ha, hka] at KK
  rw [ha, hka]
  clear ha hka
  replace A := hid (A.out.later (bdr (bre _)))
  replace B := hid (B.out.later (bdr (bre _)))
  replace J := hid (J.out.later (bdr (bre _)))
  replace KK := hid (KK.out.later (bdr (bre _)))
  replace BE := hid (bdr BE.out)
  refine wp_region_noPanic ?_
  refine wp_region_held_drew (S := (fun W => (W.cell? ⟨ka, 0, none⟩ = some (.int .i64 7) ∧ W.cell? ⟨ka, 1, none⟩ = some (.string nm1) ∧ W.cell? ⟨ka, 2, none⟩ = some (.int .i64 t1) ∧ W.cell? ⟨ka, 3, none⟩ = some (.int .i64 b1) ∧ W.cell? ⟨ka, 4, none⟩ = some (.int .i64 nx1) ∧ W.cell? ⟨ka, 5, none⟩ = some (.slice ma1 mn1 mc1) ∧ W.cell? ⟨ka, 6, none⟩ = some (.slice ga1 gn1 gc1)) ∧ (W.cell? ⟨ka + 1, 0, none⟩ = some (.int .i64 7) ∧ W.cell? ⟨ka + 1, 1, none⟩ = some (.string nm2) ∧ W.cell? ⟨ka + 1, 2, none⟩ = some (.int .i64 t2) ∧ W.cell? ⟨ka + 1, 3, none⟩ = some (.int .i64 b2) ∧ W.cell? ⟨ka + 1, 4, none⟩ = some (.int .i64 nx2) ∧ W.cell? ⟨ka + 1, 5, none⟩ = some (.slice ma2 mn2 mc2) ∧ W.cell? ⟨ka + 1, 6, none⟩ = some (.slice ga2 gn2 gc2)) ∧ (W.cell? ⟨kj, 0, none⟩ = some (.int .i64 7) ∧ W.cell? ⟨kj, 1, none⟩ = some (.string nm3) ∧ W.cell? ⟨kj, 2, none⟩ = some (.int .i64 t3) ∧ W.cell? ⟨kj, 3, none⟩ = some (.int .i64 b3) ∧ W.cell? ⟨kj, 4, none⟩ = some (.int .i64 nx3) ∧ W.cell? ⟨kj, 5, none⟩ = some (.slice ma3 mn3 mc3) ∧ W.cell? ⟨kj, 6, none⟩ = some (.slice ga3 gn3 gc3)) ∧ (W.cell? ⟨kk, 0, none⟩ = some (.int .i64 7) ∧ W.cell? ⟨kk, 1, none⟩ = some (.string nm3) ∧ W.cell? ⟨kk, 2, none⟩ = some (.int .i64 t3) ∧ W.cell? ⟨kk, 3, none⟩ = some (.int .i64 b3) ∧ W.cell? ⟨kk, 4, none⟩ = some (.int .i64 nx3) ∧ W.cell? ⟨kk, 5, none⟩ = some (.slice ma5 mn3 mc5) ∧ W.cell? ⟨kk, 6, none⟩ = some (.slice ga5 gn3 gc5)))) (by kernel_rfl) (⟨A.out.bx.cells, B.out.bx.cells, J.out.bx.cells, KK.out.bx.cells⟩) (fun hHeld => ?_)
  refine tk 0 ?_
  refine tk 1 ?_
  clear hHeld
  refine ry 2 (fun K hK => ?_)
  go_simp
  refine (sameBox_bz 7 _ _ _ _ _ _ _ _ _ _ _ _ _ _ _ _ _ J.out.bz KK.out.bz).mono ?_
  rintro e v1 ⟨rfl, hb⟩
  replace A := hid (A.out.later hb)
  replace B := hid (B.out.later hb)
  replace J := hid (J.out.later hb)
  replace KK := hid (KK.out.later hb)
  replace BE := hid (btr BE.out hb)
  clear hb
  go_wp2_with fail
  refine hK.out _ _ (⟨A.out.bx.cells, B.out.bx.cells, J.out.bx.cells, KK.out.bx.cells⟩) (fun hHeld => ?_)
  clear hK K
  try simp only [Act.put, tp2, tp3, tp4]
  refine tk 3 ?_
  refine tk 4 ?_
  refine tk 5 ?_
  refine tk 6 ?_
  refine tk 7 ?_
  clear hHeld
  refine ry 8 (fun K hK => ?_)
  go_simp
  refine (hJ.out.2.2.1 _ _ _ _ _ _ _ _ _ A.out.bz B.out.bz).mono ?_
  rintro e v2 ⟨ma6, mc6, ga6, gc6, rfl, hz, hb⟩
  replace A := hid (A.out.later hb)
  replace B := hid (B.out.later hb)
  replace J := hid (J.out.later hb)
  replace KK := hid (KK.out.later hb)
  replace BE := hid (btr BE.out hb)
  have Y := hid hz.bz
  clear hz
  clear hb
  go_wp2_with fail
  refine hK.out _ _ (⟨A.out.bx.cells, B.out.bx.cells, J.out.bx.cells, KK.out.bx.cells⟩) (fun hHeld => ?_)
  clear hK K
  try simp only [Act.put, tp2, tp3, tp4]
  clear hHeld
  refine ry 9 (fun K hK => ?_)
  go_simp
  refine (sameBox_bz 7 _ _ _ _ _ _ _ _ _ _ _ _ _ _ _ _ _ J.out.bz Y.out).mono ?_
  rintro e v3 ⟨rfl, hb⟩
  replace A := hid (A.out.later hb)
  replace B := hid (B.out.later hb)
  replace J := hid (J.out.later hb)
  replace KK := hid (KK.out.later hb)
  replace BE := hid (btr BE.out hb)
  clear hb
  clear Y
  go_wp2_with fail
  refine hK.out _ _ (⟨A.out.bx.cells, B.out.bx.cells, J.out.bx.cells, KK.out.bx.cells⟩) (fun hHeld => ?_)
  clear hK K
  try simp only [Act.put, tp2, tp3, tp4]
  refine tk 10 ?_
  refine tk 11 ?_
  refine tk 12 ?_
  refine tk 13 ?_
  refine tk 14 ?_
  refine tk 16 ?_
  clear hHeld
  refine ry 15 (fun K hK => ?_)
  go_simp
  refine (hJ.out.2.2.2 _ _ _ _ _ _ _ _ _ J.out.bz J.out.bz).mono ?_
  rintro e v4 ⟨ma7, mc7, ga7, gc7, rfl, hz, hb⟩
  replace A := hid (A.out.later hb)
  replace B := hid (B.out.later hb)
  replace J := hid (J.out.later hb)
  replace KK := hid (KK.out.later hb)
  replace BE := hid (btr BE.out hb)
  have Y := hid hz.bz
  clear hz
  clear hb
  go_wp2_with fail
  refine hK.out _ _ (⟨A.out.bx.cells, B.out.bx.cells, J.out.bx.cells, KK.out.bx.cells⟩) (fun hHeld => ?_)
  clear hK K
  try simp only [Act.put, tp2, tp3, tp4]
  clear hHeld
  refine ry 17 (fun K hK => ?_)
  go_simp
  refine (sameBox_bz 7 _ _ _ _ _ _ _ _ _ _ _ _ _ _ _ _ _ Y.out J.out.bz).mono ?_
  rintro e v5 ⟨rfl, hb⟩
  replace A := hid (A.out.later hb)
  replace B := hid (B.out.later hb)
  replace J := hid (J.out.later hb)
  replace KK := hid (KK.out.later hb)
  replace BE := hid (btr BE.out hb)
  clear hb
  clear Y
  go_wp2_with fail
  refine hK.out _ _ (⟨A.out.bx.cells, B.out.bx.cells, J.out.bx.cells, KK.out.bx.cells⟩) (fun hHeld => ?_)
  clear hK K
  try simp only [Act.put, tp2, tp3, tp4]
  refine tk 18 ?_
  refine tk 19 ?_
  refine tk 20 ?_
  refine tk 21 ?_
  refine tk 22 ?_
  refine tk 24 ?_
  refine tk 25 ?_
  clear hHeld
  refine ry 23 (fun K hK => ?_)
  go_simp
  refine (hF.out.1 _ _ _ _ _ _ _ _ _ A.out.bz B.out.bz).mono ?_
  rintro e v6 ⟨rfl, hb⟩
  replace A := hid (A.out.later hb)
  replace B := hid (B.out.later hb)
  replace J := hid (J.out.later hb)
  replace KK := hid (KK.out.later hb)
  replace BE := hid (btr BE.out hb)
  clear hb
  go_wp2_with fail
  refine hK.out _ _ (⟨A.out.bx.cells, B.out.bx.cells, J.out.bx.cells, KK.out.bx.cells⟩) (fun hHeld => ?_)
  clear hK K
  try simp only [Act.put, tp2, tp3, tp4]
  clear hHeld
  refine ry 26 (fun K hK => ?_)
  go_simp
  refine (hF.out.2.1 _ _ _ _ _ _ _ _ _ A.out.bz B.out.bz).mono ?_
  rintro e v7 ⟨rfl, hb⟩
  replace A := hid (A.out.later hb)
  replace B := hid (B.out.later hb)
  replace J := hid (J.out.later hb)
  replace KK := hid (KK.out.later hb)
  replace BE := hid (btr BE.out hb)
  clear hb
  go_wp2_with fail
  refine hK.out _ _ (⟨A.out.bx.cells, B.out.bx.cells, J.out.bx.cells, KK.out.bx.cells⟩) (fun hHeld => ?_)
  clear hK K
  try simp only [Act.put, tp2, tp3, tp4]
  refine tk 27 ?_
  refine tk 28 ?_
  refine wpAnyH_done (by kernel_rfl) ?_ _
  refine NoPanic.normal ?_
  cases fo
  ·go_wp2_with fail
   replace A := hid (A.out.later (bdr (bre _)))
   replace B := hid (B.out.later (bdr (bre _)))
   replace J := hid (J.out.later (bdr (bre _)))
   replace KK := hid (KK.out.later (bdr (bre _)))
   replace BE := hid (bdr BE.out)
   refine wp_region_noPanic ?_
   refine wp_region_held_drew (S := (fun W => (W.cell? ⟨ka, 0, none⟩ = some (.int .i64 7) ∧ W.cell? ⟨ka, 1, none⟩ = some (.string nm1) ∧ W.cell? ⟨ka, 2, none⟩ = some (.int .i64 t1) ∧ W.cell? ⟨ka, 3, none⟩ = some (.int .i64 b1) ∧ W.cell? ⟨ka, 4, none⟩ = some (.int .i64 nx1) ∧ W.cell? ⟨ka, 5, none⟩ = some (.slice ma1 mn1 mc1) ∧ W.cell? ⟨ka, 6, none⟩ = some (.slice ga1 gn1 gc1)) ∧ (W.cell? ⟨ka + 1, 0, none⟩ = some (.int .i64 7) ∧ W.cell? ⟨ka + 1, 1, none⟩ = some (.string nm2) ∧ W.cell? ⟨ka + 1, 2, none⟩ = some (.int .i64 t2) ∧ W.cell? ⟨ka + 1, 3, none⟩ = some (.int .i64 b2) ∧ W.cell? ⟨ka + 1, 4, none⟩ = some (.int .i64 nx2) ∧ W.cell? ⟨ka + 1, 5, none⟩ = some (.slice ma2 mn2 mc2) ∧ W.cell? ⟨ka + 1, 6, none⟩ = some (.slice ga2 gn2 gc2)) ∧ (W.cell? ⟨kj, 0, none⟩ = some (.int .i64 7) ∧ W.cell? ⟨kj, 1, none⟩ = some (.string nm3) ∧ W.cell? ⟨kj, 2, none⟩ = some (.int .i64 t3) ∧ W.cell? ⟨kj, 3, none⟩ = some (.int .i64 b3) ∧ W.cell? ⟨kj, 4, none⟩ = some (.int .i64 nx3) ∧ W.cell? ⟨kj, 5, none⟩ = some (.slice ma3 mn3 mc3) ∧ W.cell? ⟨kj, 6, none⟩ = some (.slice ga3 gn3 gc3)) ∧ (W.cell? ⟨kk, 0, none⟩ = some (.int .i64 7) ∧ W.cell? ⟨kk, 1, none⟩ = some (.string nm3) ∧ W.cell? ⟨kk, 2, none⟩ = some (.int .i64 t3) ∧ W.cell? ⟨kk, 3, none⟩ = some (.int .i64 b3) ∧ W.cell? ⟨kk, 4, none⟩ = some (.int .i64 nx3) ∧ W.cell? ⟨kk, 5, none⟩ = some (.slice ma5 mn3 mc5) ∧ W.cell? ⟨kk, 6, none⟩ = some (.slice ga5 gn3 gc5)))) (by kernel_rfl) (⟨A.out.bx.cells, B.out.bx.cells, J.out.bx.cells, KK.out.bx.cells⟩) (fun hHeld => ?_)
   refine tk 0 ?_
   refine tk 1 ?_
   clear hHeld
   refine ry 2 (fun K hK => ?_)
   go_simp
   refine (hF.out.1 _ _ _ _ _ _ _ _ _ A.out.bz B.out.bz).mono ?_
   rintro e v8 ⟨rfl, hb⟩
   replace A := hid (A.out.later hb)
   replace B := hid (B.out.later hb)
   replace J := hid (J.out.later hb)
   replace KK := hid (KK.out.later hb)
   replace BE := hid (btr BE.out hb)
   clear hb
   go_wp2_with fail
   refine hK.out _ _ (⟨A.out.bx.cells, B.out.bx.cells, J.out.bx.cells, KK.out.bx.cells⟩) (fun hHeld => ?_)
   clear hK K
   try simp only [Act.put, tp2, tp3, tp4]
   refine tk 3 ?_
   refine tk 4 ?_
   refine tn 5 ?_
   refine tn 6 ?_
   refine tn 7 ?_
   refine tn 8 ?_
   refine tn 9 ?_
   refine tn 11 ?_
   refine tn 12 ?_
   refine tn 10 ?_
   refine tn 13 ?_
   refine tn 14 ?_
   refine tn 15 ?_
   refine tn 16 ?_
   refine tn 17 ?_
   refine tn 18 ?_
   refine tn 19 ?_
   refine tn 20 ?_
   refine tn 21 ?_
   refine tn 22 ?_
   refine tn 23 ?_
   refine tn 24 ?_
   refine tn 25 ?_
   refine tn 26 ?_
   refine tn 27 ?_
   refine tn 28 ?_
   refine tn 29 ?_
   refine tk 30 ?_
   refine tk 31 ?_
   refine wpAnyH_done (by kernel_rfl) ?_ _
   refine NoPanic.normal ?_
   go_wp2
   go_ret
   exact ⟨rfl, BE.out⟩
  ·go_wp2_with fail
   replace A := hid (A.out.later (bdr (bre _)))
   replace B := hid (B.out.later (bdr (bre _)))
   replace J := hid (J.out.later (bdr (bre _)))
   replace KK := hid (KK.out.later (bdr (bre _)))
   replace BE := hid (bdr BE.out)
   refine wp_region_noPanic ?_
   refine wp_region_held_drew (S := (fun W => (W.cell? ⟨ka, 0, none⟩ = some (.int .i64 7) ∧ W.cell? ⟨ka, 1, none⟩ = some (.string nm1) ∧ W.cell? ⟨ka, 2, none⟩ = some (.int .i64 t1) ∧ W.cell? ⟨ka, 3, none⟩ = some (.int .i64 b1) ∧ W.cell? ⟨ka, 4, none⟩ = some (.int .i64 nx1) ∧ W.cell? ⟨ka, 5, none⟩ = some (.slice ma1 mn1 mc1) ∧ W.cell? ⟨ka, 6, none⟩ = some (.slice ga1 gn1 gc1)) ∧ (W.cell? ⟨ka + 1, 0, none⟩ = some (.int .i64 7) ∧ W.cell? ⟨ka + 1, 1, none⟩ = some (.string nm2) ∧ W.cell? ⟨ka + 1, 2, none⟩ = some (.int .i64 t2) ∧ W.cell? ⟨ka + 1, 3, none⟩ = some (.int .i64 b2) ∧ W.cell? ⟨ka + 1, 4, none⟩ = some (.int .i64 nx2) ∧ W.cell? ⟨ka + 1, 5, none⟩ = some (.slice ma2 mn2 mc2) ∧ W.cell? ⟨ka + 1, 6, none⟩ = some (.slice ga2 gn2 gc2)) ∧ (W.cell? ⟨kj, 0, none⟩ = some (.int .i64 7) ∧ W.cell? ⟨kj, 1, none⟩ = some (.string nm3) ∧ W.cell? ⟨kj, 2, none⟩ = some (.int .i64 t3) ∧ W.cell? ⟨kj, 3, none⟩ = some (.int .i64 b3) ∧ W.cell? ⟨kj, 4, none⟩ = some (.int .i64 nx3) ∧ W.cell? ⟨kj, 5, none⟩ = some (.slice ma3 mn3 mc3) ∧ W.cell? ⟨kj, 6, none⟩ = some (.slice ga3 gn3 gc3)) ∧ (W.cell? ⟨kk, 0, none⟩ = some (.int .i64 7) ∧ W.cell? ⟨kk, 1, none⟩ = some (.string nm3) ∧ W.cell? ⟨kk, 2, none⟩ = some (.int .i64 t3) ∧ W.cell? ⟨kk, 3, none⟩ = some (.int .i64 b3) ∧ W.cell? ⟨kk, 4, none⟩ = some (.int .i64 nx3) ∧ W.cell? ⟨kk, 5, none⟩ = some (.slice ma5 mn3 mc5) ∧ W.cell? ⟨kk, 6, none⟩ = some (.slice ga5 gn3 gc5)))) (by kernel_rfl) (⟨A.out.bx.cells, B.out.bx.cells, J.out.bx.cells, KK.out.bx.cells⟩) (fun hHeld => ?_)
   refine tk 0 ?_
   refine tk 1 ?_
   clear hHeld
   refine ry 2 (fun K hK => ?_)
   go_simp
   refine (hF.out.1 _ _ _ _ _ _ _ _ _ A.out.bz B.out.bz).mono ?_
   rintro e v8 ⟨rfl, hb⟩
   replace A := hid (A.out.later hb)
   replace B := hid (B.out.later hb)
   replace J := hid (J.out.later hb)
   replace KK := hid (KK.out.later hb)
   replace BE := hid (btr BE.out hb)
   clear hb
   go_wp2_with fail
   refine hK.out _ _ (⟨A.out.bx.cells, B.out.bx.cells, J.out.bx.cells, KK.out.bx.cells⟩) (fun hHeld => ?_)
   clear hK K
   try simp only [Act.put, tp2, tp3, tp4]
   refine tk 3 ?_
   refine tk 4 ?_
   refine tk 5 ?_
   clear hHeld
   refine ry 6 (fun K hK => ?_)
   go_simp
   refine (hF.out.2.2 _ _ _ _ _ J.out.bz).mono ?_
   rintro e v9 ⟨rfl, hb⟩
   replace A := hid (A.out.later hb)
   replace B := hid (B.out.later hb)
   replace J := hid (J.out.later hb)
   replace KK := hid (KK.out.later hb)
   replace BE := hid (btr BE.out hb)
   clear hb
   go_wp2_with fail
   refine hK.out _ _ (⟨A.out.bx.cells, B.out.bx.cells, J.out.bx.cells, KK.out.bx.cells⟩) (fun hHeld => ?_)
   clear hK K
   try simp only [Act.put, tp2, tp3, tp4]
   refine tk 7 ?_
   refine tk 8 ?_
   refine tk 9 ?_
   refine tk 11 ?_
   refine tk 12 ?_
   clear hHeld
   refine ry 10 (fun K hK => ?_)
   go_simp
   refine (h4.out.1 _ _ _ _ _ _ _ _ _ J.out.bz A.out.bz).mono ?_
   rintro e va ⟨ma8, mc8, ga8, gc8, rfl, hz, hb⟩
   replace A := hid (A.out.later hb)
   replace B := hid (B.out.later hb)
   replace J := hid (J.out.later hb)
   replace KK := hid (KK.out.later hb)
   replace BE := hid (btr BE.out hb)
   have Y := hid hz.bz
   clear hz
   clear hb
   go_wp2_with fail
   refine hK.out _ _ (⟨A.out.bx.cells, B.out.bx.cells, J.out.bx.cells, KK.out.bx.cells⟩) (fun hHeld => ?_)
   clear hK K
   try simp only [Act.put, tp2, tp3, tp4]
   clear hHeld
   refine ry 13 (fun K hK => ?_)
   go_simp
   refine (h4.out.2 _ _ _ _ _ _ _ _ _ A.out.bz J.out.bz).mono ?_
   rintro e vb ⟨ma9, mc9, ga9, gc9, rfl, hz, hb⟩
   replace A := hid (A.out.later hb)
   replace B := hid (B.out.later hb)
   replace J := hid (J.out.later hb)
   replace KK := hid (KK.out.later hb)
   replace BE := hid (btr BE.out hb)
   replace Y := hid (Y.out.later hb)
   have Y2 := hid hz.bz
   clear hz
   clear hb
   go_wp2_with fail
   refine hK.out _ _ (⟨A.out.bx.cells, B.out.bx.cells, J.out.bx.cells, KK.out.bx.cells⟩) (fun hHeld => ?_)
   clear hK K
   try simp only [Act.put, tp2, tp3, tp4]
   clear hHeld
   refine ry 14 (fun K hK => ?_)
   go_simp
   refine (sameBox_bz 7 _ _ _ _ _ _ _ _ _ _ _ _ _ _ _ _ _ Y.out Y2.out).mono ?_
   rintro e vc ⟨rfl, hb⟩
   replace A := hid (A.out.later hb)
   replace B := hid (B.out.later hb)
   replace J := hid (J.out.later hb)
   replace KK := hid (KK.out.later hb)
   replace BE := hid (btr BE.out hb)
   clear hb
   clear Y Y2
   have hx1 : nx1 ≤ nx3 := hX.out.1
   have hx2 : nx2 ≤ nx3 := hX.out.2
   go_wp2_with fail
   refine hK.out _ _ (⟨A.out.bx.cells, B.out.bx.cells, J.out.bx.cells, KK.out.bx.cells⟩) (fun hHeld => ?_)
   clear hK K
   try simp only [Act.put, tp2, tp3, tp4]
   refine tk 15 ?_
   refine tk 16 ?_
   refine tk 17 ?_
   refine tk 18 ?_
   refine tk 19 ?_
   refine tk 20 ?_
   refine tk 21 ?_
   refine tk 22 ?_
   refine tk 23 ?_
   refine tk 24 ?_
   refine tk 25 ?_
   refine tk 26 ?_
   refine tk 27 ?_
   refine tk 28 ?_
   refine tk 29 ?_
   refine tk 30 ?_
   refine tk 31 ?_
   refine wpAnyH_done (by kernel_rfl) ?_ _
   refine NoPanic.normal ?_
   go_wp2
   go_ret
   exact ⟨rfl, BE.out⟩
 ·go_enter Tryz.func3, Tryz.ntmps3
  go_wp2_with fail
  refine (bigF_yes ao n cap _ hbig).mono ?_; rintro e w' ⟨rfl, h'⟩
  rw [h']
  clear h'
  go_wp2
  go_ret
  exact ⟨rfl, bre _⟩
end Go.Proofs.YtmpcmllfgogegaaGreat
