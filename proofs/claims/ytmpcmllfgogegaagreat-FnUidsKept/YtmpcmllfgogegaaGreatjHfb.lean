/- Hjb, Hfb. -/

import Derived.Test.YtmpcmllfgogegaaGreatjHjm
namespace Go.Proofs.YtmpcmllfgogegaaGreat
open Go.RowKit Go.Shelf Go.ChangeMaps
def nxt8 (L L' : List M4) (G G' : List Int) (nx nx' : Int) : Int := max (max (jms L L' G G' nx nx' (asl (L.map (·.1) ++ L'.map (·.1)))).2 nx) nx'
set_option maxHeartbeats 4000000 in
set_option maxRecDepth 100000 in
theorem implJoinBox_unlike (l1 h1 l2 h2 : Nat) (g : Int) (nm : ByteArray) (t b nx : Int) (ma : Option Addr) (mn mc : Nat) (ga : Option Addr) (gn gc : Nat) (L : List M4) (G : List Int) (g' : Int) (nm' : ByteArray) (t' b' nx' : Int) (mv' gv' : Value) (w : World) (hnm : nm.size ≤ 1048576) (hl : L.length = mn) (hn : mn ≤ 1048576) (hsm : Sm L) (hm : Ms l1 h1 w ma L) (hm0 : ma = none → mc = 0) (hgl : G.length = gn) (hgn : gn ≤ 1048576) (hs : Is l2 h2 w ga G) (hg0 : ga = none → gc = 0) (hne : g ≠ g') :
  Calls Tryz.prog 10 #[.agg #[.int .i64 g, .string nm, .int .i64 t, .int .i64 b, .int .i64 nx, .slice ma mn mc, .slice ga gn gc], .agg #[.int .i64 g', .string nm', .int .i64 t', .int .i64 b', .int .i64 nx', mv', gv']] w fun e w' => ∃ mv gv, e = .returned (.agg #[.int .i64 g, .string nm, .int .i64 t, .int .i64 b, .int .i64 nx, mv, gv]) ∧ OwB w' w.heap.size mv gv L G ∧ Below w.heap.size w w' := by
 obtain ⟨W0, hW0⟩ : ∃ W0, ((w.alloc (.cells #[.int .i64 g, .string nm, .int .i64 t, .int .i64 b, .int .i64 nx, .slice ma mn mc, .slice ga gn gc] 29)).alloc (.cells #[.int .i64 g', .string nm', .int .i64 t', .int .i64 b', .int .i64 nx', mv', gv'] 29)).alloc (.cells #[.int .i64 0, .string ⟨#[]⟩, .int .i64 0, .int .i64 0, .int .i64 0, .slice none 0 0, .slice none 0 0] 29) = W0 := ⟨_, rfl⟩
 obtain ⟨a0, a1, a2, b0, s0⟩ := three_boxes w _ _ _ _ _ _ _ _ _ _ _ _ _ _ _ _ _ _ _ _ _ _ _ _ W0 hW0
 have R0 := hid a2
 have B0 := hid b0
 have S0 := hid s0
 have HM := hid (hm.later b0)
 have HS := hid (hs.later b0)
 have HL := hid hl
 have HGL := hid hgl
 have HSM := hid hsm
 have HG0 := hid hg0
 have HM0 := hid hm0
 have HNM := hid hnm
 have hgg : (g != g') = true := by simp [hne]
 have c0 := a0.cells
 have c1 := a1.cells
 clear a0 a1 a2 b0 s0 hm hs hl hgl hsm hg0 hne hm0 hnm
 go_enter Tryz.func10, Tryz.ntmps10
 go_wp2_with fail
 clear hW0 c0 c1
 refine (copyOfBox_any l1 h1 l2 h2 g nm t b nx ma mn mc ga gn gc L G W0 HNM.out HL.out hn HSM.out HM.out HM0.out HGL.out hgn HS.out HG0.out).mono ?_; rintro e w1 ⟨mv, gv, rfl, how, hb1⟩
 obtain ⟨Z, hZ, hoz, hoi, hdj, hde⟩ := how
 obtain ⟨va, vc, rfl⟩ := hoz.shape
 obtain ⟨ag, cg, rfl, _⟩ := OwI.shape hoi
 have R1 := hid (R0.out.later hb1)
 have B1 := hid (btr B0.out hb1)
 have OB1 : Hid (OwB w1 W0.heap.size (.slice va Z.length vc) (.slice ag G.length cg) L G) := ⟨Z, hZ, hoz, hoi, hdj, hde⟩
 have r1 := R1.out.cells
 have u1 := R1.out.loose
 clear hZ hoz hoi hdj hde hb1
 go_wp2
 have e2 := set7_grown w1 (w.heap.size + 1 + 1) g nm t b nx (.slice va Z.length vc) (.slice ag G.length cg)
 have d1 := (R1.out.set7 g nm t b nx (.slice va Z.length vc) (.slice ag G.length cg)).cells
 unfold set7 at d1 e2
 have hbs := B1.out.size
 have hs0 := S0.out
 refine bodyPost_ret (v := .agg #[.int .i64 g, .string nm, .int .i64 t, .int .i64 b, .int .i64 nx, .slice va Z.length vc, .slice ag G.length cg]) (by simp [results, Tryz.results10, go_sem, d1]) rfl ⟨_, _, rfl, ?_, ?_⟩
 ·exact (OwB.grown OB1.out e2 (by omega)).base (by omega)
 ·exact B1.out.trans (below_of_grown e2 (by omega) hbs)
set_option maxHeartbeats 4000000 in
set_option maxRecDepth 100000 in
theorem implJoinBox_same (l1 h1 l2 h2 : Nat) (g : Int) (nm : ByteArray) (t b nx : Int) (ma : Option Addr) (mn mc : Nat) (ga : Option Addr) (gn gc : Nat) (L : List M4) (G : List Int) (l3 h3 l4 h4 : Nat) (nm' : ByteArray) (t' b' nx' : Int) (ma' : Option Addr) (mn' mc' : Nat) (ga' : Option Addr) (gn' gc' : Nat) (L' : List M4) (G' : List Int) (w : World)
  (hnm : nm.size ≤ 1048576) (hl : L.length = mn) (hn : mn ≤ 1048576) (hsm : Sm L) (hm : Ms l1 h1 w ma L) (hm0 : ma = none → mc = 0) (hgl : G.length = gn) (hgn : gn ≤ 1048576) (hs : Is l2 h2 w ga G) (hg0 : ga = none → gc = 0)
  (hnm' : nm'.size ≤ 1048576) (hl' : L'.length = mn') (hn' : mn' ≤ 1048576) (hsm' : Sm L') (hm' : Ms l3 h3 w ma' L') (hm0' : ma' = none → mc' = 0) (hgl' : G'.length = gn') (hgn' : gn' ≤ 1048576) (hs' : Is l4 h4 w ga' G') (hg0' : ga' = none → gc' = 0) :
  Calls Tryz.prog 10 #[.agg #[.int .i64 g, .string nm, .int .i64 t, .int .i64 b, .int .i64 nx, .slice ma mn mc, .slice ga gn gc], .agg #[.int .i64 g, .string nm', .int .i64 t', .int .i64 b', .int .i64 nx', .slice ma' mn' mc', .slice ga' gn' gc']] w fun e w' => ∃ mv gv, e = .returned (.agg #[.int .i64 g, .string (if bnm nm t b nm' t' b' = true then nm' else nm), .int .i64 (if bnm nm t b nm' t' b' = true then t' else t), .int .i64 (if bnm nm t b nm' t' b' = true then b' else b), .int .i64 (nxt8 L L' G G' nx nx'), mv, gv]) ∧ OwB w' w.heap.size mv gv (jms L L' G G' nx nx' (asl (L.map (·.1) ++ L'.map (·.1)))).1 (asl (G ++ G')) ∧ Below w.heap.size w w' := by
 obtain ⟨gj, hgj⟩ : ∃ gj, asl (G ++ G') = gj := ⟨_, rfl⟩
 obtain ⟨nxx, hnxx⟩ : ∃ nxx, nxt8 L L' G G' nx nx' = nxx := ⟨_, rfl⟩
 rw [hgj, hnxx]
 have HGJ := hid hgj
 have HNX : Hid (max (max (jms L L' G G' nx nx' (asl (L.map (·.1) ++ L'.map (·.1)))).2 nx) nx' = nxx) := hnxx
 clear hgj hnxx
 obtain ⟨W0, hW0⟩ : ∃ W0, ((w.alloc (.cells #[.int .i64 g, .string nm, .int .i64 t, .int .i64 b, .int .i64 nx, .slice ma mn mc, .slice ga gn gc] 29)).alloc (.cells #[.int .i64 g, .string nm', .int .i64 t', .int .i64 b', .int .i64 nx', .slice ma' mn' mc', .slice ga' gn' gc'] 29)).alloc (.cells #[.int .i64 0, .string ⟨#[]⟩, .int .i64 0, .int .i64 0, .int .i64 0, .slice none 0 0, .slice none 0 0] 29) = W0 := ⟨_, rfl⟩
 obtain ⟨a0, a1, a2, b0, s0⟩ := three_boxes w _ _ _ _ _ _ _ _ _ _ _ _ _ _ _ _ _ _ _ _ _ _ _ _ W0 hW0
 have A0 := hid a0
 have D0 := hid a1
 have R0 := hid a2
 have B0 := hid b0
 have S0 := hid s0
 have HM := hid (hm.later b0)
 have HM' := hid (hm'.later b0)
 have HS := hid (hs.later b0)
 have HS' := hid (hs'.later b0)
 have HL := hid hl
 have HL' := hid hl'
 have HGL := hid hgl
 have HGL' := hid hgl'
 have HSM := hid hsm
 have HSM' := hid hsm'
 have H00 := hid hm0
 have H00' := hid hm0'
 have HG0 := hid hg0
 have HG0' := hid hg0'
 have HNM := hid hnm
 have HNM' := hid hnm'
 have hgg : (g != g) = false := by simp
 have c0 := a0.cells
 have c1 := a1.cells
 obtain ⟨N1, hN1⟩ : ∃ N1, (if bnm nm t b nm' t' b' = true then nm' else nm) = N1 := ⟨_, rfl⟩
 obtain ⟨T1, hT1⟩ : ∃ T1, (if bnm nm t b nm' t' b' = true then t' else t) = T1 := ⟨_, rfl⟩
 obtain ⟨B1, hB1⟩ : ∃ B1, (if bnm nm t b nm' t' b' = true then b' else b) = B1 := ⟨_, rfl⟩
 rw [hN1, hT1, hB1]
 have HN1 := hid hN1
 have HT1 := hid hT1
 have HB1 := hid hB1
 clear hN1 hT1 hB1 a0 a1 a2 b0 s0 hm hm' hs hs' hl hl' hgl hgl' hsm hsm' hm0 hm0' hg0 hg0' hnm hnm'
 go_enter Tryz.func10, Tryz.ntmps10
 go_wp2_with fail
 clear hW0 c0 c1
 have HZ : Hid (∀ W, Below W0.heap.size W0 W → (W.cell? ⟨w.heap.size, 0, none⟩ = some (.int .i64 g) ∧ W.cell? ⟨w.heap.size, 1, none⟩ = some (.string nm) ∧ W.cell? ⟨w.heap.size, 2, none⟩ = some (.int .i64 t) ∧ W.cell? ⟨w.heap.size, 3, none⟩ = some (.int .i64 b) ∧ W.cell? ⟨w.heap.size, 4, none⟩ = some (.int .i64 nx) ∧ W.cell? ⟨w.heap.size, 5, none⟩ = some (.slice ma mn mc) ∧ W.cell? ⟨w.heap.size, 6, none⟩ = some (.slice ga gn gc)) ∧ (W.cell? ⟨w.heap.size + 1, 0, none⟩ = some (.int .i64 g) ∧ W.cell? ⟨w.heap.size + 1, 1, none⟩ = some (.string nm') ∧ W.cell? ⟨w.heap.size + 1, 2, none⟩ = some (.int .i64 t') ∧ W.cell? ⟨w.heap.size + 1, 3, none⟩ = some (.int .i64 b') ∧ W.cell? ⟨w.heap.size + 1, 4, none⟩ = some (.int .i64 nx') ∧ W.cell? ⟨w.heap.size + 1, 5, none⟩ = some (.slice ma' mn' mc') ∧ W.cell? ⟨w.heap.size + 1, 6, none⟩ = some (.slice ga' gn' gc'))) := fun W h => ⟨(A0.out.later h).cells, (D0.out.later h).cells⟩
 refine wp_region_noPanic ?_
 refine wp_region_held_drew (S := fun W => (W.cell? ⟨w.heap.size, 0, none⟩ = some (.int .i64 g) ∧ W.cell? ⟨w.heap.size, 1, none⟩ = some (.string nm) ∧ W.cell? ⟨w.heap.size, 2, none⟩ = some (.int .i64 t) ∧ W.cell? ⟨w.heap.size, 3, none⟩ = some (.int .i64 b) ∧ W.cell? ⟨w.heap.size, 4, none⟩ = some (.int .i64 nx) ∧ W.cell? ⟨w.heap.size, 5, none⟩ = some (.slice ma mn mc) ∧ W.cell? ⟨w.heap.size, 6, none⟩ = some (.slice ga gn gc)) ∧ (W.cell? ⟨w.heap.size + 1, 0, none⟩ = some (.int .i64 g) ∧ W.cell? ⟨w.heap.size + 1, 1, none⟩ = some (.string nm') ∧ W.cell? ⟨w.heap.size + 1, 2, none⟩ = some (.int .i64 t') ∧ W.cell? ⟨w.heap.size + 1, 3, none⟩ = some (.int .i64 b') ∧ W.cell? ⟨w.heap.size + 1, 4, none⟩ = some (.int .i64 nx') ∧ W.cell? ⟨w.heap.size + 1, 5, none⟩ = some (.slice ma' mn' mc') ∧ W.cell? ⟨w.heap.size + 1, 6, none⟩ = some (.slice ga' gn' gc'))) (by kernel_rfl) (HZ.out _ (bdr (bre _))) (fun hHeld => ?_)
 refine tk 0 ?_
 refine tk 1 ?_
 refine tk 2 ?_
 refine tk 3 ?_
 refine tk 4 ?_
 refine tk 5 ?_
 refine wpAnyH_ready (rs := [6, 8]) (by kernel_rfl) (by simp) ?_
 refine rc (fun K hK => ?_) ?_
 ·go_simp
  refine (implJoinGone_any l2 h2 l4 h4 ga gn gc G ga' gn' gc' G' _ HGL.out hgn (HS.out.later (bdr (bre _))) HGL'.out hgn' (HS'.out.later (bdr (bre _)))).mono ?_
  rintro e w1 ⟨gv, rfl, hgo, hb1⟩
  rw [HGJ.out] at hgo
  obtain ⟨ag, cg, rfl, _⟩ := OwI.shape hgo
  have P1 : Hid (Below W0.heap.size W0 w1) := btr (bdr (bre _)) hb1
  have GL0 := hid (fun j hj => (hgo.lt j hj).2)
  have GO := hid (own_base (B := W0.heap.size) hgo (Nat.le_refl _))
  clear hgo hb1
  go_wp2_with fail
  refine hK.out _ _ (HZ.out _ P1.out) (fun hHeld => ?_)
  clear hK K
  refine tk 7 ?_
  clear hHeld
  refine ry 8 (fun K hK => ?_)
  go_simp
  have X1 := hid (Bx.new w1 29 0 ⟨#[]⟩ 0 0 0 (.slice none 0 0) (.slice none 0 0))
  have GL : Hid (∀ j, Value.ownBlock (.slice ag gj.length cg) = some j → j ≠ w1.heap.size) := fun j hj => Nat.ne_of_lt (GL0.out j hj)
  have m1 := X1.out.cells
  have n1 := X1.out.loose
  refine hK.out _ _ (HZ.out _ (bpush P1.out _)) (fun hHeld => ?_)
  clear hK K hHeld
  refine ry 9 (fun K hK => ?_)
  go_simp
  have K7 := hid (bpush P1.out (.cells #[.int .i64 g, .string ⟨#[]⟩, .int .i64 0, .int .i64 0, .int .i64 0, .slice none 0 0, .slice ag gj.length cg] 29))
  have HS8 := hid (HZ.out _ K7.out)
  have X7h := hid (Bx.new w1 29 g ⟨#[]⟩ 0 0 0 (.slice none 0 0) (.slice ag gj.length cg))
  have G7 := hid (GO.out.alloc (.cells #[.int .i64 g, .string ⟨#[]⟩, .int .i64 0, .int .i64 0, .int .i64 0, .slice none 0 0, .slice ag gj.length cg] 29))
  clear m1 n1
  refine hK.out _ _ (HS8.out) (fun hHeld => ?_)
  clear hK K hHeld
  refine wpAnyH_done (by kernel_rfl) ?_ _
  refine NoPanic.normal ?_
  obtain ⟨W3, hW3⟩ : ∃ W3, w1.alloc (.cells #[.int .i64 g, .string ⟨#[]⟩, .int .i64 0, .int .i64 0, .int .i64 0, .slice none 0 0, .slice ag gj.length cg] 29) = W3 := ⟨_, rfl⟩
  rw [hW3] at X7h K7 G7 ⊢
  obtain ⟨OB, hOB⟩ : ∃ OB, w1.heap.size = OB := ⟨_, rfl⟩
  have HOB : Hid (W0.heap.size ≤ OB) := by rw [← hOB]; exact P1.out.size
  rw [hOB] at X7h GL ⊢
  clear hW3 HS8 X1 P1 GO GL0
  have X3 := X7h
  have K3 := K7
  have G3 := G7
  clear X7h K7 G7 hOB
  have c0 := (A0.out.later K3.out).cells
  have c1 := (D0.out.later K3.out).cells
  go_wp2_with fail
  clear c0 c1
  refine (joinedName_any g nm t b nx (.slice ma mn mc) (.slice ga gn gc) g nm' t' b' nx' (.slice ma' mn' mc') (.slice ga' gn' gc') _ HNM.out HNM'.out ⟨_, _, _, rfl⟩ ⟨_, _, _, rfl⟩ ⟨_, _, _, rfl⟩ ⟨_, _, _, rfl⟩).mono ?_
  rintro e w4 ⟨rfl, b4⟩
  rw [HN1.out, HT1.out, HB1.out]
  have X4 := hid (X3.out.later b4)
  have K4 := hid (btr K3.out b4)
  have G4 := hid (own_later G3.out b4)
  clear b4 X3 K3 G3
  have x4 := X4.out.cells
  have y4 := X4.out.loose
  have X5 := hid (((X4.out.s1 N1).s2 T1).s3 B1)
  have K5 := hid (bsk (bsk (bsk K4.out HOB.out 1 (.string N1)) HOB.out 2 (.int .i64 T1)) HOB.out 3 (.int .i64 B1))
  have G5 := hid (owi_far (owi_far (owi_far G4.out GL.out 1 (.string N1)) GL.out 2 (.int .i64 T1)) GL.out 3 (.int .i64 B1))
  have c5 := (A0.out.later K5.out).cells
  have d5 := (D0.out.later K5.out).cells
  go_wp2_with fail
  obtain ⟨W5, hW5⟩ : ∃ W5, ((w4.setCell ⟨OB, 1, none⟩ (.string N1)).setCell ⟨OB, 2, none⟩ (.int .i64 T1)).setCell ⟨OB, 3, none⟩ (.int .i64 B1) = W5 := ⟨_, rfl⟩
  rw [hW5] at X5 K5 G5 ⊢
  clear hW5 x4 y4 c5 d5 X4 K4 G4
  refine (joinedMails_any l1 h1 l2 h2 g nm t b nx ma mn mc ga gn gc L G l3 h3 l4 h4 g nm' t' b' nx' ma' mn' mc' ga' gn' gc' L' G' W5 HNM.out HL.out hn HSM.out (HM.out.later K5.out) H00.out HGL.out hgn (HS.out.later K5.out) HG0.out HNM'.out HL'.out hn' HSM'.out (HM'.out.later K5.out) H00'.out HGL'.out hgn' (HS'.out.later K5.out) HG0'.out).mono ?_
  rintro e w6 ⟨v, Z, rfl, hoz, hzm, hb6⟩
  rw [HNX.out]
  obtain ⟨va, vc, rfl⟩ := hoz.shape
  have s5 := K5.out.size
  have s0 := S0.out
  have o5 := X5.out.lt
  have X6 := hid (X5.out.later hb6)
  have K6 := hid (btr K5.out hb6)
  have G6 := hid (own_later G5.out hb6)
  have R6 := hid (R0.out.later K6.out)
  have x6 := X6.out.cells
  have y6 := X6.out.loose
  have hGL := GL.out
  have hgb := fun j hj => (G5.out.lt j hj)
  have hob := HOB.out
  have hne : w.heap.size + 1 + 1 ≠ OB := by omega
  have X7 := (X6.out.s5 (.slice va Z.length vc)).s4 nxx
  have R7 := (R6.out.far7 (.slice va Z.length vc) 5 hne).far7 (.int .i64 nxx) 4 hne
  have O7 := OwZ.set_far (OwZ.set_far hoz (k := OB) (fun j hj => by have := (hoz.row.lt j hj).1; omega) (fun z hz j hj => by have := ((hoz.each z hz).lt j hj).1; omega) 5 (.slice va Z.length vc)) (k := OB) (fun j hj => by have := (hoz.row.lt j hj).1; omega) (fun z hz j hj => by have := ((hoz.each z hz).lt j hj).1; omega) 4 (.int .i64 nxx)
  have I7 := owi_far (owi_far G6.out (k := OB) hGL 5 (.slice va Z.length vc)) (k := OB) hGL 4 (.int .i64 nxx)
  have k7 := bsk (bsk K6.out hob 5 (.slice va Z.length vc)) hob 4 (.int .i64 nxx)
  have x7 := X7.cells
  have r7 := R7.cells
  have u7 := R7.loose
  have HZM := hid hzm
  have HDZ : Hid (Dj (.slice ag gj.length cg) (.slice va Z.length vc) ∧ ∀ z ∈ Z, Dj (.slice ag gj.length cg) z.2.2.1) := ⟨fun j h1 h2 => by have e1 := (hgb j h1).2; have e2 := (hoz.row.lt j h2).1; omega, fun z hz j h1 h2 => by have e1 := (hgb j h1).2; have e2 := ((hoz.each z hz).lt j h2).1; omega⟩
  have HMZ : Hid ((∀ j, Value.ownBlock (.slice va Z.length vc) = some j → j ≠ w.heap.size + 1 + 1) ∧ (∀ z ∈ Z, ∀ j, z.2.2.1.ownBlock = some j → j ≠ w.heap.size + 1 + 1) ∧ (∀ j, Value.ownBlock (.slice ag gj.length cg) = some j → j ≠ w.heap.size + 1 + 1)) := ⟨fun j hj => by have := (hoz.row.lt j hj).1; omega, fun z hz j hj => by have := ((hoz.each z hz).lt j hj).1; omega, fun j hj => by have := (hgb j hj).1; omega⟩
  have R7h := hid R7
  have O7h := hid (O7.base (show w.heap.size ≤ W5.heap.size by omega))
  have I7h := hid (own_base I7 (show w.heap.size ≤ W0.heap.size by omega))
  have K7h := hid (btr B0.out k7)
  clear hoz hzm hb6 hGL hgb R7 O7 I7 k7 X7 s5 s0 o5 hob hne
  go_wp2
  have e2 := set7_grown ((w6.setCell ⟨OB, 5, none⟩ (.slice va Z.length vc)).setCell ⟨OB, 4, none⟩ (.int .i64 nxx)) (w.heap.size + 1 + 1) g N1 T1 B1 nxx (.slice va Z.length vc) (.slice ag gj.length cg)
  have d1 := (R7h.out.set7 g N1 T1 B1 nxx (.slice va Z.length vc) (.slice ag gj.length cg)).cells
  unfold set7 at d1 e2
  have hbs := K7h.out.size
  have hs0 := S0.out
  refine bodyPost_ret (v := .agg #[.int .i64 g, .string N1, .int .i64 T1, .int .i64 B1, .int .i64 nxx, .slice va Z.length vc, .slice ag gj.length cg]) (by simp [results, Tryz.results10, go_sem, d1]) rfl ⟨_, _, rfl, ?_, ?_⟩
  ·refine ⟨Z, HZM.out, O7h.out.kept e2.size (fun j hj => e2.block j (O7h.out.row.lt j hj).2 (fun e => HMZ.out.1 j hj (Option.some.inj e))) (fun z hz j hj => e2.block j ((O7h.out.each z hz).lt j hj).2 (fun e => HMZ.out.2.1 z hz j hj (Option.some.inj e))), World.ownsRow.kept I7h.out e2 ?_, HDZ.out.1, HDZ.out.2⟩
   cases hc : Value.ownBlock (.slice ag gj.length cg) with
   | none => exact Or.inl rfl
   | some j => exact Or.inr (fun e => HMZ.out.2.2 j hc (Option.some.inj e))
  ·exact K7h.out.trans (below_of_grown e2 (by omega) hbs)
 ·refine rl (fun K hK => ?_)
  go_simp
  refine hK.out _ _ (HZ.out _ (bpush (bdr (bre _)) _)) (fun hHeld => ?_)
  clear hK K hHeld
  refine ry 6 (fun K hK => ?_)
  go_simp
  refine (implJoinGone_any l2 h2 l4 h4 ga gn gc G ga' gn' gc' G' _ HGL.out hgn (HS.out.later (bpush (bdr (bre _)) _)) HGL'.out hgn' (HS'.out.later (bpush (bdr (bre _)) _))).mono ?_
  rintro e w1 ⟨gv, rfl, hgo, hb1⟩
  rw [HGJ.out] at hgo
  obtain ⟨ag, cg, rfl, _⟩ := OwI.shape hgo
  have P1 : Hid (Below W0.heap.size W0 w1) := btr (bpush (bdr (bre _)) _) hb1
  have X1 : Hid (Bx w1 W0.heap.size 29 0 ⟨#[]⟩ 0 0 0 (.slice none 0 0) (.slice none 0 0)) := (Bx.new W0.drew 29 0 ⟨#[]⟩ 0 0 0 (.slice none 0 0) (.slice none 0 0)).later hb1
  have GL : Hid (∀ j, Value.ownBlock (.slice ag gj.length cg) = some j → j ≠ W0.heap.size) := fun j hj e => by have h := (hgo.lt j hj).1; rw [e] at h; simp at h; omega
  have GO := hid (own_base (B := W0.heap.size) hgo (by simp))
  clear hgo hb1
  go_wp2_with fail
  refine hK.out _ _ (HZ.out _ P1.out) (fun hHeld => ?_)
  clear hK K
  refine tk 7 ?_
  clear hHeld
  have m1 := X1.out.cells
  have n1 := X1.out.loose
  refine ry 9 (fun K hK => ?_)
  go_simp
  have e7 := set7_grown w1 W0.heap.size g ⟨#[]⟩ 0 0 0 (.slice none 0 0) (.slice ag gj.length cg)
  have X7 := X1.out.set7 g ⟨#[]⟩ 0 0 0 (.slice none 0 0) (.slice ag gj.length cg)
  have k7 := below_of_grown e7 (Nat.le_refl W0.heap.size) (P1.out.size)
  unfold set7 at e7 X7 k7
  have K7 := hid (P1.out.trans k7)
  have HS8 := hid (HZ.out _ K7.out)
  have G7 := hid (World.ownsRow.kept GO.out e7 (by
    cases hc : Value.ownBlock (.slice ag gj.length cg) with
    | none => exact Or.inl rfl
    | some j => exact Or.inr (fun e => GL.out j hc (Option.some.inj e))))
  have X7h := hid X7
  clear e7 X7 k7 m1 n1
  refine hK.out _ _ (HS8.out) (fun hHeld => ?_)
  clear hK K hHeld
  refine wpAnyH_done (by kernel_rfl) ?_ _
  refine NoPanic.normal ?_
  obtain ⟨W3, hW3⟩ : ∃ W3, (((((((w1.setCell ⟨W0.heap.size, 0, none⟩ (.int .i64 g)).setCell ⟨W0.heap.size, 1, none⟩ (.string ⟨#[]⟩)).setCell ⟨W0.heap.size, 2, none⟩ (.int .i64 0)).setCell ⟨W0.heap.size, 3, none⟩ (.int .i64 0)).setCell ⟨W0.heap.size, 4, none⟩ (.int .i64 0)).setCell ⟨W0.heap.size, 5, none⟩ (.slice none 0 0)).setCell ⟨W0.heap.size, 6, none⟩ (.slice ag gj.length cg)) = W3 := ⟨_, rfl⟩
  rw [hW3] at X7h K7 G7 ⊢
  obtain ⟨OB, hOB⟩ : ∃ OB, W0.heap.size = OB := ⟨_, rfl⟩
  have HOB : Hid (W0.heap.size ≤ OB) := by rw [← hOB]; exact Nat.le_refl _
  have X3 : Hid (Bx W3 OB 29 g ⟨#[]⟩ 0 0 0 (.slice none 0 0) (.slice ag gj.length cg)) := by rw [← hOB]; exact X7h.out
  have GL : Hid (∀ j, Value.ownBlock (.slice ag gj.length cg) = some j → j ≠ OB) := by rw [← hOB]; exact GL.out
  rw [hOB]
  clear hW3 HS8 X1 P1 GO
  have K3 := K7
  have G3 := G7
  clear X7h K7 G7 hOB
  have c0 := (A0.out.later K3.out).cells
  have c1 := (D0.out.later K3.out).cells
  go_wp2_with fail
  clear c0 c1
  refine (joinedName_any g nm t b nx (.slice ma mn mc) (.slice ga gn gc) g nm' t' b' nx' (.slice ma' mn' mc') (.slice ga' gn' gc') _ HNM.out HNM'.out ⟨_, _, _, rfl⟩ ⟨_, _, _, rfl⟩ ⟨_, _, _, rfl⟩ ⟨_, _, _, rfl⟩).mono ?_
  rintro e w4 ⟨rfl, b4⟩
  rw [HN1.out, HT1.out, HB1.out]
  have X4 := hid (X3.out.later b4)
  have K4 := hid (btr K3.out b4)
  have G4 := hid (own_later G3.out b4)
  clear b4 X3 K3 G3
  have x4 := X4.out.cells
  have y4 := X4.out.loose
  have X5 := hid (((X4.out.s1 N1).s2 T1).s3 B1)
  have K5 := hid (bsk (bsk (bsk K4.out HOB.out 1 (.string N1)) HOB.out 2 (.int .i64 T1)) HOB.out 3 (.int .i64 B1))
  have G5 := hid (owi_far (owi_far (owi_far G4.out GL.out 1 (.string N1)) GL.out 2 (.int .i64 T1)) GL.out 3 (.int .i64 B1))
  have c5 := (A0.out.later K5.out).cells
  have d5 := (D0.out.later K5.out).cells
  go_wp2_with fail
  obtain ⟨W5, hW5⟩ : ∃ W5, ((w4.setCell ⟨OB, 1, none⟩ (.string N1)).setCell ⟨OB, 2, none⟩ (.int .i64 T1)).setCell ⟨OB, 3, none⟩ (.int .i64 B1) = W5 := ⟨_, rfl⟩
  rw [hW5] at X5 K5 G5 ⊢
  clear hW5 x4 y4 c5 d5 X4 K4 G4
  refine (joinedMails_any l1 h1 l2 h2 g nm t b nx ma mn mc ga gn gc L G l3 h3 l4 h4 g nm' t' b' nx' ma' mn' mc' ga' gn' gc' L' G' W5 HNM.out HL.out hn HSM.out (HM.out.later K5.out) H00.out HGL.out hgn (HS.out.later K5.out) HG0.out HNM'.out HL'.out hn' HSM'.out (HM'.out.later K5.out) H00'.out HGL'.out hgn' (HS'.out.later K5.out) HG0'.out).mono ?_
  rintro e w6 ⟨v, Z, rfl, hoz, hzm, hb6⟩
  rw [HNX.out]
  obtain ⟨va, vc, rfl⟩ := hoz.shape
  have s5 := K5.out.size
  have s0 := S0.out
  have o5 := X5.out.lt
  have X6 := hid (X5.out.later hb6)
  have K6 := hid (btr K5.out hb6)
  have G6 := hid (own_later G5.out hb6)
  have R6 := hid (R0.out.later K6.out)
  have x6 := X6.out.cells
  have y6 := X6.out.loose
  have hGL := GL.out
  have hgb := fun j hj => (G5.out.lt j hj)
  have hob := HOB.out
  have hne : w.heap.size + 1 + 1 ≠ OB := by omega
  have X7 := (X6.out.s5 (.slice va Z.length vc)).s4 nxx
  have R7 := (R6.out.far7 (.slice va Z.length vc) 5 hne).far7 (.int .i64 nxx) 4 hne
  have O7 := OwZ.set_far (OwZ.set_far hoz (k := OB) (fun j hj => by have := (hoz.row.lt j hj).1; omega) (fun z hz j hj => by have := ((hoz.each z hz).lt j hj).1; omega) 5 (.slice va Z.length vc)) (k := OB) (fun j hj => by have := (hoz.row.lt j hj).1; omega) (fun z hz j hj => by have := ((hoz.each z hz).lt j hj).1; omega) 4 (.int .i64 nxx)
  have I7 := owi_far (owi_far G6.out (k := OB) hGL 5 (.slice va Z.length vc)) (k := OB) hGL 4 (.int .i64 nxx)
  have k7 := bsk (bsk K6.out hob 5 (.slice va Z.length vc)) hob 4 (.int .i64 nxx)
  have x7 := X7.cells
  have r7 := R7.cells
  have u7 := R7.loose
  have HZM := hid hzm
  have HDZ : Hid (Dj (.slice ag gj.length cg) (.slice va Z.length vc) ∧ ∀ z ∈ Z, Dj (.slice ag gj.length cg) z.2.2.1) := ⟨fun j h1 h2 => by have e1 := (hgb j h1).2; have e2 := (hoz.row.lt j h2).1; omega, fun z hz j h1 h2 => by have e1 := (hgb j h1).2; have e2 := ((hoz.each z hz).lt j h2).1; omega⟩
  have HMZ : Hid ((∀ j, Value.ownBlock (.slice va Z.length vc) = some j → j ≠ w.heap.size + 1 + 1) ∧ (∀ z ∈ Z, ∀ j, z.2.2.1.ownBlock = some j → j ≠ w.heap.size + 1 + 1) ∧ (∀ j, Value.ownBlock (.slice ag gj.length cg) = some j → j ≠ w.heap.size + 1 + 1)) := ⟨fun j hj => by have := (hoz.row.lt j hj).1; omega, fun z hz j hj => by have := ((hoz.each z hz).lt j hj).1; omega, fun j hj => by have := (hgb j hj).1; omega⟩
  have R7h := hid R7
  have O7h := hid (O7.base (show w.heap.size ≤ W5.heap.size by omega))
  have I7h := hid (own_base I7 (show w.heap.size ≤ W0.heap.size by omega))
  have K7h := hid (btr B0.out k7)
  clear hoz hzm hb6 hGL hgb R7 O7 I7 k7 X7 s5 s0 o5 hob hne
  go_wp2
  have e2 := set7_grown ((w6.setCell ⟨OB, 5, none⟩ (.slice va Z.length vc)).setCell ⟨OB, 4, none⟩ (.int .i64 nxx)) (w.heap.size + 1 + 1) g N1 T1 B1 nxx (.slice va Z.length vc) (.slice ag gj.length cg)
  have d1 := (R7h.out.set7 g N1 T1 B1 nxx (.slice va Z.length vc) (.slice ag gj.length cg)).cells
  unfold set7 at d1 e2
  have hbs := K7h.out.size
  have hs0 := S0.out
  refine bodyPost_ret (v := .agg #[.int .i64 g, .string N1, .int .i64 T1, .int .i64 B1, .int .i64 nxx, .slice va Z.length vc, .slice ag gj.length cg]) (by simp [results, Tryz.results10, go_sem, d1]) rfl ⟨_, _, rfl, ?_, ?_⟩
  ·refine ⟨Z, HZM.out, O7h.out.kept e2.size (fun j hj => e2.block j (O7h.out.row.lt j hj).2 (fun e => HMZ.out.1 j hj (Option.some.inj e))) (fun z hz j hj => e2.block j ((O7h.out.each z hz).lt j hj).2 (fun e => HMZ.out.2.1 z hz j hj (Option.some.inj e))), World.ownsRow.kept I7h.out e2 ?_, HDZ.out.1, HDZ.out.2⟩
   cases hc : Value.ownBlock (.slice ag gj.length cg) with
   | none => exact Or.inl rfl
   | some j => exact Or.inr (fun e => HMZ.out.2.2 j hc (Option.some.inj e))
  ·exact K7h.out.trans (below_of_grown e2 (by omega) hbs)
def jbY (g nx : Int) (L : List M4) (G : List Int) (g' nx' : Int) (L' : List M4) (G' : List Int) : Int := if g = g' then nxt8 L L' G G' nx nx' else nx
theorem implJoinBox_any (l1 h1 l2 h2 : Nat) (g : Int) (nm : ByteArray) (t b nx : Int) (ma : Option Addr) (mn mc : Nat) (ga : Option Addr) (gn gc : Nat) (L : List M4) (G : List Int) (l3 h3 l4 h4 : Nat) (g' : Int) (nm' : ByteArray) (t' b' nx' : Int) (ma' : Option Addr) (mn' mc' : Nat) (ga' : Option Addr) (gn' gc' : Nat) (L' : List M4) (G' : List Int) (w : World)
  (hnm : nm.size ≤ 1048576) (hl : L.length = mn) (hn : mn ≤ 1048576) (hsm : Sm L) (hm : Ms l1 h1 w ma L) (hm0 : ma = none → mc = 0) (hgl : G.length = gn) (hgn : gn ≤ 1048576) (hs : Is l2 h2 w ga G) (hg0 : ga = none → gc = 0)
  (hnm' : nm'.size ≤ 1048576) (hl' : L'.length = mn') (hn' : mn' ≤ 1048576) (hsm' : Sm L') (hm' : Ms l3 h3 w ma' L') (hm0' : ma' = none → mc' = 0) (hgl' : G'.length = gn') (hgn' : gn' ≤ 1048576) (hs' : Is l4 h4 w ga' G') (hg0' : ga' = none → gc' = 0) :
  Calls Tryz.prog 10 #[.agg #[.int .i64 g, .string nm, .int .i64 t, .int .i64 b, .int .i64 nx, .slice ma mn mc, .slice ga gn gc], .agg #[.int .i64 g', .string nm', .int .i64 t', .int .i64 b', .int .i64 nx', .slice ma' mn' mc', .slice ga' gn' gc']] w fun e w' => ∃ mv gv, e = .returned (.agg #[.int .i64 g, .string (jbN g nm t b g' nm' t' b'), .int .i64 (jbT g nm t b g' nm' t' b'), .int .i64 (jbB g nm t b g' nm' t' b'), .int .i64 (jbY g nx L G g' nx' L' G'), mv, gv]) ∧ OwB w' w.heap.size mv gv (jbL g nx L G g' nx' L' G') (jbG g G g' G') ∧ Below w.heap.size w w' := by
 by_cases e : g = g'
 ·subst e
  have h := implJoinBox_same l1 h1 l2 h2 g nm t b nx ma mn mc ga gn gc L G l3 h3 l4 h4 nm' t' b' nx' ma' mn' mc' ga' gn' gc' L' G' w hnm hl hn hsm hm hm0 hgl hgn hs hg0 hnm' hl' hn' hsm' hm' hm0' hgl' hgn' hs' hg0'
  simpa only [jbN, jbT, jbB, jbY, jbL, jbG, true_and, if_true] using h
 ·have h := implJoinBox_unlike l1 h1 l2 h2 g nm t b nx ma mn mc ga gn gc L G g' nm' t' b' nx' (.slice ma' mn' mc') (.slice ga' gn' gc') w hnm hl hn hsm hm hm0 hgl hgn hs hg0 e
  simpa only [jbN, jbT, jbB, jbY, jbL, jbG, e, false_and, if_false] using h
set_option maxHeartbeats 1600000 in
set_option maxRecDepth 100000 in
theorem implFits_any (l1 h1 l2 h2 : Nat) (g : Int) (nm : ByteArray) (t b nx : Int) (ma : Option Addr) (mn mc : Nat) (ga : Option Addr) (gn gc : Nat) (L : List M4) (G : List Int) (l3 h3 l4 h4 : Nat) (g' : Int) (nm' : ByteArray) (t' b' nx' : Int) (ma' : Option Addr) (mn' mc' : Nat) (ga' : Option Addr) (gn' gc' : Nat) (L' : List M4) (G' : List Int) (w : World) (hnm : nm.size ≤ 1048576) (hl : L.length = mn) (hn : mn ≤ 1048576) (hsm : Sm L) (hm : Ms l1 h1 w ma L) (hm0 : ma = none → mc = 0) (hgl : G.length = gn) (hgn : gn ≤ 1048576) (hs : Is l2 h2 w ga G) (hg0 : ga = none → gc = 0)
  (hnm' : nm'.size ≤ 1048576) (hl' : L'.length = mn') (hn' : mn' ≤ 1048576) (hsm' : Sm L') (hm' : Ms l3 h3 w ma' L') (hm0' : ma' = none → mc' = 0) (hgl' : G'.length = gn') (hgn' : gn' ≤ 1048576) (hs' : Is l4 h4 w ga' G') (hg0' : ga' = none → gc' = 0) (hsum : mn + mn' ≤ 1048576) (hsg : gn + gn' ≤ 1048576) :
  Calls Tryz.prog 13 #[.agg #[.int .i64 g, .string nm, .int .i64 t, .int .i64 b, .int .i64 nx, .slice ma mn mc, .slice ga gn gc], .agg #[.int .i64 g', .string nm', .int .i64 t', .int .i64 b', .int .i64 nx', .slice ma' mn' mc', .slice ga' gn' gc']] w fun e w' => e = .returned (.bool (bxOk g (jbN g nm t b g' nm' t' b') (jbT g nm t b g' nm' t' b') (jbB g nm t b g' nm' t' b') (jbY g nx L G g' nx' L' G') (jbL g nx L G g' nx' L' G') (jbG g G g' G'))) ∧ Below w.heap.size w w' := by
 have hjl := jbL_small (g := g) (nx := nx) (G := G) (g' := g') (nx' := nx') (G' := G') hsm hsm'
 obtain ⟨p, hp, -, csp⟩ := box_l g (jbN g nm t b g' nm' t' b') (jbT g nm t b g' nm' t' b') (jbB g nm t b g' nm' t' b') (jbY g nx L G g' nx' L' G') _ _ (jbL g nx L G g' nx' L' G') (jbG g G g' G') (jbN_size hnm hnm') rfl (by have := hjl.2; omega) hjl.1 rfl (by have := jbG_len (g := g) (G := G) (g' := g') (G' := G'); omega)
 have HX := hid (implJoinBox_any l1 h1 l2 h2 g nm t b nx ma mn mc ga gn gc L G l3 h3 l4 h4 g' nm' t' b' nx' ma' mn' mc' ga' gn' gc' L' G')
 have HP := hid hp.out
 obtain ⟨jn, hjn⟩ : ∃ x, jbN g nm t b g' nm' t' b' = x := ⟨_, rfl⟩
 obtain ⟨jt, hjt⟩ : ∃ x, jbT g nm t b g' nm' t' b' = x := ⟨_, rfl⟩
 obtain ⟨jb, hjb⟩ : ∃ x, jbB g nm t b g' nm' t' b' = x := ⟨_, rfl⟩
 obtain ⟨jx, hjx⟩ : ∃ x, jbY g nx L G g' nx' L' G' = x := ⟨_, rfl⟩
 obtain ⟨jl, hjl2⟩ : ∃ x, jbL g nx L G g' nx' L' G' = x := ⟨_, rfl⟩
 obtain ⟨jg, hjg⟩ : ∃ x, jbG g G g' G' = x := ⟨_, rfl⟩
 rw [hjn, hjt, hjb, hjx, hjl2, hjg] at csp HX HP ⊢
 have CSP := csp
 obtain ⟨W0, hW0⟩ : ∃ W0, (w.alloc (.cells #[.int .i64 g, .string nm, .int .i64 t, .int .i64 b, .int .i64 nx, .slice ma mn mc, .slice ga gn gc] 29)).alloc (.cells #[.int .i64 g', .string nm', .int .i64 t', .int .i64 b', .int .i64 nx', .slice ma' mn' mc', .slice ga' gn' gc'] 29) = W0 := ⟨_, rfl⟩
 have a0 : Bx W0 w.heap.size 29 g nm t b nx (.slice ma mn mc) (.slice ga gn gc) := by subst hW0; exact (Bx.new w _ g nm t b nx _ _).later (bpush (bre _) _)
 have a1 : Bx W0 (w.heap.size + 1) 29 g' nm' t' b' nx' (.slice ma' mn' mc') (.slice ga' gn' gc') := by
  subst hW0
  have h := Bx.new (w.alloc (.cells #[.int .i64 g, .string nm, .int .i64 t, .int .i64 b, .int .i64 nx, .slice ma mn mc, .slice ga gn gc] 29)) 29 g' nm' t' b' nx' (.slice ma' mn' mc') (.slice ga' gn' gc')
  rwa [show (w.alloc (.cells #[.int .i64 g, .string nm, .int .i64 t, .int .i64 b, .int .i64 nx, .slice ma mn mc, .slice ga gn gc] 29)).heap.size = w.heap.size + 1 by simp] at h
 have b0 : Below w.heap.size w W0 := by subst hW0; exact bpush (bpush (bre _) _) _
 have HJ := hid (HX.out W0 hnm hl hn hsm (hm.later b0) hm0 hgl hgn (hs.later b0) hg0 hnm' hl' hn' hsm' (hm'.later b0) hm0' hgl' hgn' (hs'.later b0) hg0')
 have c0 := a0.cells
 have c1 := a1.cells
 have B0 := hid b0
 clear a0 a1 b0 hm hm' hs hs' hl hl' hgl hgl' hsm hsm' hsum hjl hjn hjt hjb hjx hjl2 hjg HX hp csp hn hn' hgn hgn' hg0 hsg hnm hnm' hm0 hm0' hg0'
 go_enter Tryz.func13, Tryz.ntmps13
 go_wp2_with fail
 clear hW0 c0 c1
 refine (HJ.out).mono ?_; rintro e w1 ⟨mv, gv, rfl, how, hb1⟩
 obtain ⟨Z, hZ, hoz, hoi, hdj, hde⟩ := how
 obtain ⟨va, vc, rfl⟩ := hoz.shape
 obtain ⟨ag, cg, rfl, _⟩ := OwI.shape hoi
 have HMS := hid (hZ ▸ hoz.ms.2)
 have HIS := hid (OwI.is hoi).2
 have hzl : Z.length = jl.length := by rw [← hZ, List.length_map]
 rw [hzl]
 have B1 := hid (btr B0.out hb1)
 clear hZ hoz hoi hdj hde hb1 hzl
 go_wp2_with fail
 refine (CSP.out _ _ _ _ va vc ag cg w1 HMS.out HIS.out).mono ?_; rintro e w2 ⟨rfl, hb2⟩
 have B2 := hid (btr B1.out hb2)
 clear hb2
 go_wp2
 go_ret
 exact ⟨by rw [← HP.out]; rfl, B2.out⟩
theorem w64_id {x : Int} (h1 : -9223372036854775808 ≤ x) (h2 : x ≤ 9223372036854775807) : w64 x = x := by show wrap64 x = x; unfold wrap64; omega
theorem jms_up (A B : List M4) (GA GB : List Int) (na nb : Int) : ∀ (gs : List Int) (s : List M4 × Int) (lo : Int), -9223372036854775808 ≤ s.2 → s.2 + gs.length ≤ 9223372036854775807 → (gs.foldl (jst A B GA GB na nb) s).2 ≤ s.2 + gs.length ∧ (lo ≤ s.2 → lo ≤ (gs.foldl (jst A B GA GB na nb) s).2)
 | [], s, lo, _, _ => ⟨by simp, id⟩
 | g :: gs, s, lo, h1, h2 => by
  rw [List.foldl_cons]
  rw [List.length_cons] at h2 ⊢
  have hs : (jst A B GA GB na nb s g).2 = s.2 ∨ (jst A B GA GB na nb s g).2 = w64 (s.2 + 1) := by
   unfold jst
   split
   ·exact Or.inl rfl
   ·split
    ·exact Or.inl rfl
    ·exact Or.inr rfl
  rcases hs with e | e
  ·have r := jms_up A B GA GB na nb gs (jst A B GA GB na nb s g) lo (by rw [e]; exact h1) (by rw [e]; omega)
   rw [e] at r
   exact ⟨by omega, r.2⟩
  ·have e1 : w64 (s.2 + 1) = s.2 + 1 := w64_id (by omega) (by omega)
   rw [e1] at e
   have r := jms_up A B GA GB na nb gs (jst A B GA GB na nb s g) lo (by rw [e]; omega) (by rw [e]; omega)
   rw [e] at r
   exact ⟨by omega, fun h => r.2 (by omega)⟩
end Go.Proofs.YtmpcmllfgogegaaGreat
