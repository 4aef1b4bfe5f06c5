/- Jbx. -/

import Derived.Test.YtmpcmllfgogegaaGreatjSmn
namespace Go.Proofs.YtmpcmllfgogegaaGreat
open Go.RowKit Go.ChangeMaps
theorem owi_far {W : World} {B k : Nat} {v : Value} {G : List Int} (h : OwI W B v G) (h1 : ∀ j, v.ownBlock = some j → j ≠ k) (i : Nat) (x : Value) : OwI (W.setCell ⟨k, i, none⟩ x) B v G :=
 World.ownsRow.kept h (wst (wre _ _) i x) (by cases hc : v.ownBlock with | none => exact Or.inl rfl | some j => exact Or.inr (fun e => h1 j hc (Option.some.inj e)))
theorem Bx.far7 {W : World} {k j ty : Nat} {g : Int} {nm : ByteArray} {t b nx : Int} {ms gs : Value} (h : Bx W k ty g nm t b nx ms gs) (x : Value) (i : Nat) (hk : k ≠ j) : Bx (W.setCell ⟨j, i, none⟩ x) k ty g nm t b nx ms gs := heap_setCell_far x h hk
def bnm (nm : ByteArray) (t b : Int) (nm' : ByteArray) (t' b' : Int) : Bool := later t' b' t b || ((decide (t = t') && decide (b = b')) && !(Op.bytesLess nm'.toList nm.toList || nm'.toList == nm.toList))
set_option maxHeartbeats 16000000 in
set_option maxRecDepth 100000 in
theorem specJoinBox_same (l1 h1 l2 h2 : Nat) (g : Int) (nm : ByteArray) (t b nx : Int) (ma : Option Addr) (mn mc : Nat) (ga : Option Addr) (gn gc : Nat) (L : List M4) (G : List Int) (l3 h3 l4 h4 : Nat) (nm' : ByteArray) (t' b' nx' : Int) (ma' : Option Addr) (mn' mc' : Nat) (ga' : Option Addr) (gn' gc' : Nat) (L' : List M4) (G' : List Int) (w : World) (hl : L.length = mn) (hn : mn ≤ 1048576) (hsm : Sm L) (hm : Ms l1 h1 w ma L) (hgl : G.length = gn) (hgn : gn ≤ 1048576) (hs : Is l2 h2 w ga G) (hl' : L'.length = mn') (hn' : mn' ≤ 1048576) (hsm' : Sm L') (hm' : Ms l3 h3 w ma' L') (hgl' : G'.length = gn') (hgn' : gn' ≤ 1048576) (hs' : Is l4 h4 w ga' G') (hsum : mn + mn' ≤ 1048576) :
  Calls Tryz.prog 12 #[.agg #[.int .i64 g, .string nm, .int .i64 t, .int .i64 b, .int .i64 nx, .slice ma mn mc, .slice ga gn gc], .agg #[.int .i64 g, .string nm', .int .i64 t', .int .i64 b', .int .i64 nx', .slice ma' mn' mc', .slice ga' gn' gc']] w fun e w' => ∃ mv gv, e = .returned (.agg #[.int .i64 g, .string (if bnm nm t b nm' t' b' = true then nm' else nm), .int .i64 (if bnm nm t b nm' t' b' = true then t' else t), .int .i64 (if bnm nm t b nm' t' b' = true then b' else b), .int .i64 (jms L L' G G' nx nx' (asl (L.map (·.1) ++ L'.map (·.1)))).2, mv, gv]) ∧ OwB w' w.heap.size mv gv (jms L L' G G' nx nx' (asl (L.map (·.1) ++ L'.map (·.1)))).1 (asl (G ++ G')) ∧ Below w.heap.size w w' := by
 obtain ⟨jj, hjj⟩ : ∃ jj, (jms L L' G G' nx nx' (asl (L.map (·.1) ++ L'.map (·.1)))) = jj := ⟨_, rfl⟩
 obtain ⟨gj, hgj⟩ : ∃ gj, asl (G ++ G') = gj := ⟨_, rfl⟩
 rw [hjj, hgj]
 have HJJ := hid hjj
 have HGJ := hid hgj
 clear hjj hgj
 obtain ⟨W0, hW0⟩ : ∃ W0, ((w.alloc (.cells #[.int .i64 g, .string nm, .int .i64 t, .int .i64 b, .int .i64 nx, .slice ma mn mc, .slice ga gn gc] 29)).alloc (.cells #[.int .i64 g, .string nm', .int .i64 t', .int .i64 b', .int .i64 nx', .slice ma' mn' mc', .slice ga' gn' gc'] 29)).alloc (.cells #[.int .i64 0, .string ⟨#[]⟩, .int .i64 0, .int .i64 0, .int .i64 0, .slice none 0 0, .slice none 0 0] 29) = W0 := ⟨_, rfl⟩
 obtain ⟨a0, a1, a2, b0, s0⟩ := three_boxes w _ _ _ _ _ _ _ _ _ _ _ _ _ _ _ _ _ _ _ _ _ _ _ _ W0 hW0
 have A0 := hid a0
 have D0 := hid a1
 have R0 := hid a2
 have B0 := hid b0
 have S0 := hid s0
 have HM := hid (hm.later b0)
 have HM' := hid (hm'.later b0)
 have HS := hid (hs.later b0)
 have HS' := hid (hs'.later b0)
 have HL := hid hl
 have HL' := hid hl'
 have HGL := hid hgl
 have HGL' := hid hgl'
 have HSM := hid hsm
 have HSM' := hid hsm'
 have HSU := hid hsum
 have hgg : (g != g) = false := by simp
 have c0 := a0.cells
 have c1 := a1.cells
 obtain ⟨p, hp, cp⟩ := specLater_letter t' b' t b
 have CP := hid cp.out
 have HPP := hid hp.out
 obtain ⟨nbx, hnbx⟩ : ∃ nbx, bnm nm t b nm' t' b' = nbx := ⟨_, rfl⟩
 have HBN : Hid ((p || ((decide (t = t') && decide (b = b')) && !(Op.bytesLess nm'.toList nm.toList || nm'.toList == nm.toList))) = nbx) := by show _ = _; rw [← hnbx, bnm, hp.out]
 rw [hnbx]
 obtain ⟨N1, hN1⟩ : ∃ N1, (if nbx = true then nm' else nm) = N1 := ⟨_, rfl⟩
 obtain ⟨T1, hT1⟩ : ∃ T1, (if nbx = true then t' else t) = T1 := ⟨_, rfl⟩
 obtain ⟨B1, hB1⟩ : ∃ B1, (if nbx = true then b' else b) = B1 := ⟨_, rfl⟩
 rw [hN1, hT1, hB1]
 have HN1 := hid hN1
 have HT1 := hid hT1
 have HB1 := hid hB1
 clear hN1 hT1 hB1
 obtain ⟨q, hq⟩ : ∃ q, (!(Op.bytesLess nm'.toList nm.toList || nm'.toList == nm.toList)) = q := ⟨_, rfl⟩
 rw [hq] at HBN
 have HQ := hid hq
 clear a0 a1 a2 b0 s0 hm hm' hs hs' hl hl' hgl hgl' hsm hsm' hsum hp cp hnbx hq
 go_enter Tryz.func12, Tryz.ntmps12
 go_wp2_with fail
 clear hW0 c0 c1
 have HZ : Hid (∀ W, Below W0.heap.size W0 W → W.cell? ⟨w.heap.size, 0, none⟩ = some (.int .i64 g) ∧ W.cell? ⟨w.heap.size, 1, none⟩ = some (.string nm) ∧ W.cell? ⟨w.heap.size, 2, none⟩ = some (.int .i64 t) ∧ W.cell? ⟨w.heap.size, 3, none⟩ = some (.int .i64 b) ∧ W.cell? ⟨w.heap.size, 6, none⟩ = some (.slice ga gn gc) ∧ W.cell? ⟨w.heap.size + 1, 6, none⟩ = some (.slice ga' gn' gc')) := fun W h => (by obtain ⟨x0, x1, x2, x3, x4, x5, x6⟩ := (A0.out.later h).cells; obtain ⟨y0, y1, y2, y3, y4, y5, y6⟩ := (D0.out.later h).cells; exact ⟨x0, x1, x2, x3, x6, y6⟩)
 refine wp_region_noPanic ?_
 refine wp_region_held_drew (S := (fun W => W.cell? ⟨w.heap.size, 0, none⟩ = some (.int .i64 g) ∧ W.cell? ⟨w.heap.size, 1, none⟩ = some (.string nm) ∧ W.cell? ⟨w.heap.size, 2, none⟩ = some (.int .i64 t) ∧ W.cell? ⟨w.heap.size, 3, none⟩ = some (.int .i64 b) ∧ W.cell? ⟨w.heap.size, 6, none⟩ = some (.slice ga gn gc) ∧ W.cell? ⟨w.heap.size + 1, 6, none⟩ = some (.slice ga' gn' gc'))) (by kernel_rfl) (HZ.out _ (bdr (bre _))) (fun hHeld => ?_)
 refine tk 0 ?_
 refine tk 1 ?_
 refine tk 2 ?_
 refine tk 3 ?_
 refine tk 4 ?_
 refine tk 5 ?_
 refine tk 6 ?_
 refine tk 7 ?_
 refine tk 8 ?_
 refine tk 9 ?_
 clear hHeld
 refine wpAnyH_ready (rs := [10, 12]) (by kernel_rfl) (by simp) ?_
 refine rc (fun K hK => ?_) ?_
 ·go_simp
  refine (specJoinGone_any l2 h2 l4 h4 ga gn gc G ga' gn' gc' G' _ HGL.out hgn (HS.out.later (bdr (bre _))) HGL'.out hgn' (HS'.out.later (bdr (bre _)))).mono ?_
  rintro e w1 ⟨gv, rfl, hgo, hb1⟩
  rw [HGJ.out] at hgo
  obtain ⟨ag, cg, rfl, _⟩ := OwI.shape hgo
  have P1 : Hid (Below W0.heap.size W0 w1) := btr (bdr (bre _)) hb1
  have GL0 := hid (fun j hj => (hgo.lt j hj).2)
  have GO := hid (own_base (B := W0.heap.size) hgo (Nat.le_refl _))
  clear hgo hb1
  go_wp2_with fail
  refine hK.out _ _ (HZ.out _ P1.out) (fun hHeld => ?_)
  clear hK K
  try simp only [Act.put, tp2, tp3, tp4]
  refine tk 11 ?_
  clear hHeld
  refine ry 12 (fun K hK => ?_)
  go_simp
  have X1 := hid (Bx.new w1 29 0 ⟨#[]⟩ 0 0 0 (.slice none 0 0) (.slice none 0 0))
  have GL : Hid (∀ j, Value.ownBlock (.slice ag gj.length cg) = some j → j ≠ w1.heap.size) := fun j hj => Nat.ne_of_lt (GL0.out j hj)
  have m1 := X1.out.cells
  have n1 := X1.out.loose
  refine hK.out _ _ (HZ.out _ (bpush P1.out _)) (fun hHeld => ?_)
  clear hK K
  try simp only [Act.put, tp2, tp3, tp4]
  clear hHeld
  refine ry 13 (fun K hK => ?_)
  go_simp
  have K7 := hid (bpush P1.out (.cells #[.int .i64 g, .string nm, .int .i64 t, .int .i64 b, .int .i64 0, .slice none 0 0, .slice ag gj.length cg] 29))
  have HS8 := hid (HZ.out _ K7.out)
  have X7h := hid (Bx.new w1 29 g nm t b 0 (.slice none 0 0) (.slice ag gj.length cg))
  have G7 := hid (GO.out.alloc (.cells #[.int .i64 g, .string nm, .int .i64 t, .int .i64 b, .int .i64 0, .slice none 0 0, .slice ag gj.length cg] 29))
  clear m1 n1
  refine hK.out _ _ (HS8.out) (fun hHeld => ?_)
  clear hK K
  try simp only [Act.put, tp2, tp3, tp4]
  refine wpAnyH_done (by kernel_rfl) ?_ _
  refine NoPanic.normal ?_
  obtain ⟨W3, hW3⟩ : ∃ W3, w1.alloc (.cells #[.int .i64 g, .string nm, .int .i64 t, .int .i64 b, .int .i64 0, .slice none 0 0, .slice ag gj.length cg] 29) = W3 := ⟨_, rfl⟩
  rw [hW3] at X7h K7 G7 ⊢
  obtain ⟨OB, hOB⟩ : ∃ OB, w1.heap.size = OB := ⟨_, rfl⟩
  have HOB : Hid (W0.heap.size ≤ OB) := by rw [← hOB]; exact P1.out.size
  rw [hOB] at X7h GL ⊢
  clear hW3 HS8 X1 P1 GO GL0
  have X3 := X7h
  have K3 := K7
  have G3 := G7
  clear X7h K7 G7 hOB
  have c0 := (A0.out.later K3.out).cells
  have c1 := (D0.out.later K3.out).cells
  go_wp2_with fail
  clear c0 c1
  refine (CP.out _).mono ?_
  rintro e w4 ⟨rfl, hw4⟩
  have b4 : Below W3.heap.size W3 w4 := by rw [hw4]; exact bpush (bpush (bre _) _) _
  clear hw4
  have X4 := hid (X3.out.later b4)
  have K4 := hid (btr K3.out b4)
  have G4 := hid (own_later G3.out b4)
  have c0 := (A0.out.later K4.out).cells
  have c1 := (D0.out.later K4.out).cells
  clear b4 X3 K3 G3
  cases p
  case true =>
   have HNB : Hid (nbx = true) := by show _ = _; rw [← HBN.out]; rfl
   have x4 := X4.out.cells
   have y4 := X4.out.loose
   have X5 := hid (((X4.out.s1 nm').s2 t').s3 b')
   have K5 := hid (bsk (bsk (bsk K4.out HOB.out 1 (.string nm')) HOB.out 2 (.int .i64 t')) HOB.out 3 (.int .i64 b'))
   have G5 := hid (owi_far (owi_far (owi_far G4.out GL.out 1 (.string nm')) GL.out 2 (.int .i64 t')) GL.out 3 (.int .i64 b'))
   have c5 := (A0.out.later K5.out).cells
   have d5 := (D0.out.later K5.out).cells
   go_wp2_with fail
   obtain ⟨W5, hW5⟩ : ∃ W5, ((w4.setCell ⟨OB, 1, none⟩ (.string nm')).setCell ⟨OB, 2, none⟩ (.int .i64 t')).setCell ⟨OB, 3, none⟩ (.int .i64 b') = W5 := ⟨_, rfl⟩
   rw [hW5] at X5 K5 G5 ⊢
   clear hW5 c0 c1 x4 y4 c5 d5 X4 K4 G4
   refine (specJoin8_any l1 h1 l2 h2 g nm t b nx ma mn mc ga gn gc L G l3 h3 l4 h4 g nm' t' b' nx' ma' mn' mc' ga' gn' gc' L' G' W5 HL.out hn HSM.out (HM.out.later K5.out) HGL.out hgn (HS.out.later K5.out) HL'.out hn' HSM'.out (HM'.out.later K5.out) HGL'.out hgn' (HS'.out.later K5.out) HSU.out).mono ?_
   rintro e w6 ⟨v, Z, rfl, hoz, hzm, hb6⟩
   rw [HJJ.out] at hzm ⊢
   obtain ⟨va, vc, rfl⟩ := hoz.shape
   have s5 := K5.out.size
   have s0 := S0.out
   have o5 := X5.out.lt
   have X6 := hid (X5.out.later hb6)
   have K6 := hid (btr K5.out hb6)
   have G6 := hid (own_later G5.out hb6)
   have R6 := hid (R0.out.later K6.out)
   have x6 := X6.out.cells
   have y6 := X6.out.loose
   have hGL := GL.out
   have hgb := fun j hj => (G5.out.lt j hj)
   have hob := HOB.out
   have hne : w.heap.size + 1 + 1 ≠ OB := by omega
   have X7 := (X6.out.s5 (.slice va Z.length vc)).s4 jj.2
   have R7 := (R6.out.far7 (.slice va Z.length vc) 5 hne).far7 (.int .i64 jj.2) 4 hne
   have O7 := OwZ.set_far (OwZ.set_far hoz (k := OB) (fun j hj => by have := (hoz.row.lt j hj).1; omega) (fun z hz j hj => by have := ((hoz.each z hz).lt j hj).1; omega) 5 (.slice va Z.length vc)) (k := OB) (fun j hj => by have := (hoz.row.lt j hj).1; omega) (fun z hz j hj => by have := ((hoz.each z hz).lt j hj).1; omega) 4 (.int .i64 jj.2)
   have I7 := owi_far (owi_far G6.out (k := OB) hGL 5 (.slice va Z.length vc)) (k := OB) hGL 4 (.int .i64 jj.2)
   have k7 := bsk (bsk K6.out hob 5 (.slice va Z.length vc)) hob 4 (.int .i64 jj.2)
   have x7 := X7.cells
   have r7 := R7.cells
   have u7 := R7.loose
   have OB0 := hid (And.intro (hid hoz.row.lt) (hid hgb))
   have HZM := hid hzm
   have HDZ : Hid (Dj (.slice ag gj.length cg) (.slice va Z.length vc) ∧ ∀ z ∈ Z, Dj (.slice ag gj.length cg) z.2.2.1) := ⟨fun j h1 h2 => by have e1 := (hgb j h1).2; have e2 := (hoz.row.lt j h2).1; omega, fun z hz j h1 h2 => by have e1 := (hgb j h1).2; have e2 := ((hoz.each z hz).lt j h2).1; omega⟩
   have HMZ : Hid ((∀ j, Value.ownBlock (.slice va Z.length vc) = some j → j ≠ w.heap.size + 1 + 1) ∧ (∀ z ∈ Z, ∀ j, z.2.2.1.ownBlock = some j → j ≠ w.heap.size + 1 + 1) ∧ (∀ j, Value.ownBlock (.slice ag gj.length cg) = some j → j ≠ w.heap.size + 1 + 1)) := ⟨fun j hj => by have := (hoz.row.lt j hj).1; omega, fun z hz j hj => by have := ((hoz.each z hz).lt j hj).1; omega, fun j hj => by have := (hgb j hj).1; omega⟩
   have R7h := hid R7
   have O7h := hid (O7.base (show w.heap.size ≤ W5.heap.size by omega))
   have I7h := hid (own_base I7 (show w.heap.size ≤ W0.heap.size by omega))
   have K7h := hid (btr B0.out k7)
   clear hoz hzm hb6 hGL hgb R7 O7 I7 k7 X7 s5 s0 o5 hob hne
   go_wp2
   have e2 := set7_grown ((w6.setCell ⟨OB, 5, none⟩ (.slice va Z.length vc)).setCell ⟨OB, 4, none⟩ (.int .i64 jj.2)) (w.heap.size + 1 + 1) g nm' t' b' jj.2 (.slice va Z.length vc) (.slice ag gj.length cg)
   have d1 := (R7h.out.set7 g nm' t' b' jj.2 (.slice va Z.length vc) (.slice ag gj.length cg)).cells
   unfold set7 at d1 e2
   have hbs := K7h.out.size
   have hs0 := S0.out
   refine bodyPost_ret (v := .agg #[.int .i64 g, .string nm', .int .i64 t', .int .i64 b', .int .i64 jj.2, .slice va Z.length vc, .slice ag gj.length cg]) (by simp [results, Tryz.results12, go_sem, d1]) rfl ⟨_, _, by rw [← HN1.out, ← HT1.out, ← HB1.out, HNB.out]; rfl, ?_, ?_⟩
   ·refine ⟨Z, HZM.out, O7h.out.kept e2.size (fun j hj => e2.block j (O7h.out.row.lt j hj).2 (fun e => HMZ.out.1 j hj (Option.some.inj e))) (fun z hz j hj => e2.block j ((O7h.out.each z hz).lt j hj).2 (fun e => HMZ.out.2.1 z hz j hj (Option.some.inj e))), World.ownsRow.kept I7h.out e2 ?_, HDZ.out.1, HDZ.out.2⟩
    cases hc : Value.ownBlock (.slice ag gj.length cg) with
    | none => exact Or.inl rfl
    | some j => exact Or.inr (fun e => HMZ.out.2.2 j hc (Option.some.inj e))
   ·exact K7h.out.trans (below_of_grown e2 (by omega) hbs)
  case false =>
   by_cases ht : t = t'
   ·subst ht
    by_cases hb : b = b'
    ·subst hb
     have HBN2 : Hid (q = nbx) := by show _ = _; rw [← HBN.out]; simp
     cases q
     case true =>
      have HNB : Hid (nbx = true) := HBN2.out.symm
      have hq := HQ.out
      have x4 := X4.out.cells
      have y4 := X4.out.loose
      have X5 := hid (((X4.out.s1 nm').s2 t).s3 b)
      have K5 := hid (bsk (bsk (bsk K4.out HOB.out 1 (.string nm')) HOB.out 2 (.int .i64 t)) HOB.out 3 (.int .i64 b))
      have G5 := hid (owi_far (owi_far (owi_far G4.out GL.out 1 (.string nm')) GL.out 2 (.int .i64 t)) GL.out 3 (.int .i64 b))
      have c5 := (A0.out.later K5.out).cells
      have d5 := (D0.out.later K5.out).cells
      go_wp2_with fail
      obtain ⟨W5, hW5⟩ : ∃ W5, ((w4.setCell ⟨OB, 1, none⟩ (.string nm')).setCell ⟨OB, 2, none⟩ (.int .i64 t)).setCell ⟨OB, 3, none⟩ (.int .i64 b) = W5 := ⟨_, rfl⟩
      rw [hW5] at X5 K5 G5 ⊢
      clear hW5 c0 c1 x4 y4 c5 d5 X4 K4 G4
      refine (specJoin8_any l1 h1 l2 h2 g nm t b nx ma mn mc ga gn gc L G l3 h3 l4 h4 g nm' t b nx' ma' mn' mc' ga' gn' gc' L' G' W5 HL.out hn HSM.out (HM.out.later K5.out) HGL.out hgn (HS.out.later K5.out) HL'.out hn' HSM'.out (HM'.out.later K5.out) HGL'.out hgn' (HS'.out.later K5.out) HSU.out).mono ?_
      rintro e w6 ⟨v, Z, rfl, hoz, hzm, hb6⟩
      rw [HJJ.out] at hzm ⊢
      obtain ⟨va, vc, rfl⟩ := hoz.shape
      have s5 := K5.out.size
      have s0 := S0.out
      have o5 := X5.out.lt
      have X6 := hid (X5.out.later hb6)
      have K6 := hid (btr K5.out hb6)
      have G6 := hid (own_later G5.out hb6)
      have R6 := hid (R0.out.later K6.out)
      have x6 := X6.out.cells
      have y6 := X6.out.loose
      have hGL := GL.out
      have hgb := fun j hj => (G5.out.lt j hj)
      have hob := HOB.out
      have hne : w.heap.size + 1 + 1 ≠ OB := by omega
      have X7 := (X6.out.s5 (.slice va Z.length vc)).s4 jj.2
      have R7 := (R6.out.far7 (.slice va Z.length vc) 5 hne).far7 (.int .i64 jj.2) 4 hne
      have O7 := OwZ.set_far (OwZ.set_far hoz (k := OB) (fun j hj => by have := (hoz.row.lt j hj).1; omega) (fun z hz j hj => by have := ((hoz.each z hz).lt j hj).1; omega) 5 (.slice va Z.length vc)) (k := OB) (fun j hj => by have := (hoz.row.lt j hj).1; omega) (fun z hz j hj => by have := ((hoz.each z hz).lt j hj).1; omega) 4 (.int .i64 jj.2)
      have I7 := owi_far (owi_far G6.out (k := OB) hGL 5 (.slice va Z.length vc)) (k := OB) hGL 4 (.int .i64 jj.2)
      have k7 := bsk (bsk K6.out hob 5 (.slice va Z.length vc)) hob 4 (.int .i64 jj.2)
      have x7 := X7.cells
      have r7 := R7.cells
      have u7 := R7.loose
      have OB0 := hid (And.intro (hid hoz.row.lt) (hid hgb))
      have HZM := hid hzm
      have HDZ : Hid (Dj (.slice ag gj.length cg) (.slice va Z.length vc) ∧ ∀ z ∈ Z, Dj (.slice ag gj.length cg) z.2.2.1) := ⟨fun j h1 h2 => by have e1 := (hgb j h1).2; have e2 := (hoz.row.lt j h2).1; omega, fun z hz j h1 h2 => by have e1 := (hgb j h1).2; have e2 := ((hoz.each z hz).lt j h2).1; omega⟩
      have HMZ : Hid ((∀ j, Value.ownBlock (.slice va Z.length vc) = some j → j ≠ w.heap.size + 1 + 1) ∧ (∀ z ∈ Z, ∀ j, z.2.2.1.ownBlock = some j → j ≠ w.heap.size + 1 + 1) ∧ (∀ j, Value.ownBlock (.slice ag gj.length cg) = some j → j ≠ w.heap.size + 1 + 1)) := ⟨fun j hj => by have := (hoz.row.lt j hj).1; omega, fun z hz j hj => by have := ((hoz.each z hz).lt j hj).1; omega, fun j hj => by have := (hgb j hj).1; omega⟩
      have R7h := hid R7
      have O7h := hid (O7.base (show w.heap.size ≤ W5.heap.size by omega))
      have I7h := hid (own_base I7 (show w.heap.size ≤ W0.heap.size by omega))
      have K7h := hid (btr B0.out k7)
      clear hoz hzm hb6 hGL hgb R7 O7 I7 k7 X7 s5 s0 o5 hob hne
      go_wp2
      have e2 := set7_grown ((w6.setCell ⟨OB, 5, none⟩ (.slice va Z.length vc)).setCell ⟨OB, 4, none⟩ (.int .i64 jj.2)) (w.heap.size + 1 + 1) g nm' t b jj.2 (.slice va Z.length vc) (.slice ag gj.length cg)
      have d1 := (R7h.out.set7 g nm' t b jj.2 (.slice va Z.length vc) (.slice ag gj.length cg)).cells
      unfold set7 at d1 e2
      have hbs := K7h.out.size
      have hs0 := S0.out
      refine bodyPost_ret (v := .agg #[.int .i64 g, .string nm', .int .i64 t, .int .i64 b, .int .i64 jj.2, .slice va Z.length vc, .slice ag gj.length cg]) (by simp [results, Tryz.results12, go_sem, d1]) rfl ⟨_, _, by rw [← HN1.out, ← HT1.out, ← HB1.out, HNB.out]; rfl, ?_, ?_⟩
      ·refine ⟨Z, HZM.out, O7h.out.kept e2.size (fun j hj => e2.block j (O7h.out.row.lt j hj).2 (fun e => HMZ.out.1 j hj (Option.some.inj e))) (fun z hz j hj => e2.block j ((O7h.out.each z hz).lt j hj).2 (fun e => HMZ.out.2.1 z hz j hj (Option.some.inj e))), World.ownsRow.kept I7h.out e2 ?_, HDZ.out.1, HDZ.out.2⟩
       cases hc : Value.ownBlock (.slice ag gj.length cg) with
       | none => exact Or.inl rfl
       | some j => exact Or.inr (fun e => HMZ.out.2.2 j hc (Option.some.inj e))
      ·exact K7h.out.trans (below_of_grown e2 (by omega) hbs)
     case false =>
      have HNB : Hid (nbx = false) := HBN2.out.symm
      have hq := HQ.out
      go_wp2_with fail
      obtain ⟨W5, hW5⟩ : ∃ W5, w4 = W5 := ⟨_, rfl⟩
      have X5 := X4
      have K5 := K4
      have G5 := G4
      rw [hW5] at X5 K5 G5 ⊢
      clear hW5 c0 c1 X4 K4 G4
      refine (specJoin8_any l1 h1 l2 h2 g nm t b nx ma mn mc ga gn gc L G l3 h3 l4 h4 g nm' t b nx' ma' mn' mc' ga' gn' gc' L' G' W5 HL.out hn HSM.out (HM.out.later K5.out) HGL.out hgn (HS.out.later K5.out) HL'.out hn' HSM'.out (HM'.out.later K5.out) HGL'.out hgn' (HS'.out.later K5.out) HSU.out).mono ?_
      rintro e w6 ⟨v, Z, rfl, hoz, hzm, hb6⟩
      rw [HJJ.out] at hzm ⊢
      obtain ⟨va, vc, rfl⟩ := hoz.shape
      have s5 := K5.out.size
      have s0 := S0.out
      have o5 := X5.out.lt
      have X6 := hid (X5.out.later hb6)
      have K6 := hid (btr K5.out hb6)
      have G6 := hid (own_later G5.out hb6)
      have R6 := hid (R0.out.later K6.out)
      have x6 := X6.out.cells
      have y6 := X6.out.loose
      have hGL := GL.out
      have hgb := fun j hj => (G5.out.lt j hj)
      have hob := HOB.out
      have hne : w.heap.size + 1 + 1 ≠ OB := by omega
      have X7 := (X6.out.s5 (.slice va Z.length vc)).s4 jj.2
      have R7 := (R6.out.far7 (.slice va Z.length vc) 5 hne).far7 (.int .i64 jj.2) 4 hne
      have O7 := OwZ.set_far (OwZ.set_far hoz (k := OB) (fun j hj => by have := (hoz.row.lt j hj).1; omega) (fun z hz j hj => by have := ((hoz.each z hz).lt j hj).1; omega) 5 (.slice va Z.length vc)) (k := OB) (fun j hj => by have := (hoz.row.lt j hj).1; omega) (fun z hz j hj => by have := ((hoz.each z hz).lt j hj).1; omega) 4 (.int .i64 jj.2)
      have I7 := owi_far (owi_far G6.out (k := OB) hGL 5 (.slice va Z.length vc)) (k := OB) hGL 4 (.int .i64 jj.2)
      have k7 := bsk (bsk K6.out hob 5 (.slice va Z.length vc)) hob 4 (.int .i64 jj.2)
      have x7 := X7.cells
      have r7 := R7.cells
      have u7 := R7.loose
      have OB0 := hid (And.intro (hid hoz.row.lt) (hid hgb))
      have HZM := hid hzm
      have HDZ : Hid (Dj (.slice ag gj.length cg) (.slice va Z.length vc) ∧ ∀ z ∈ Z, Dj (.slice ag gj.length cg) z.2.2.1) := ⟨fun j h1 h2 => by have e1 := (hgb j h1).2; have e2 := (hoz.row.lt j h2).1; omega, fun z hz j h1 h2 => by have e1 := (hgb j h1).2; have e2 := ((hoz.each z hz).lt j h2).1; omega⟩
      have HMZ : Hid ((∀ j, Value.ownBlock (.slice va Z.length vc) = some j → j ≠ w.heap.size + 1 + 1) ∧ (∀ z ∈ Z, ∀ j, z.2.2.1.ownBlock = some j → j ≠ w.heap.size + 1 + 1) ∧ (∀ j, Value.ownBlock (.slice ag gj.length cg) = some j → j ≠ w.heap.size + 1 + 1)) := ⟨fun j hj => by have := (hoz.row.lt j hj).1; omega, fun z hz j hj => by have := ((hoz.each z hz).lt j hj).1; omega, fun j hj => by have := (hgb j hj).1; omega⟩
      have R7h := hid R7
      have O7h := hid (O7.base (show w.heap.size ≤ W5.heap.size by omega))
      have I7h := hid (own_base I7 (show w.heap.size ≤ W0.heap.size by omega))
      have K7h := hid (btr B0.out k7)
      clear hoz hzm hb6 hGL hgb R7 O7 I7 k7 X7 s5 s0 o5 hob hne
      go_wp2
      have e2 := set7_grown ((w6.setCell ⟨OB, 5, none⟩ (.slice va Z.length vc)).setCell ⟨OB, 4, none⟩ (.int .i64 jj.2)) (w.heap.size + 1 + 1) g nm t b jj.2 (.slice va Z.length vc) (.slice ag gj.length cg)
      have d1 := (R7h.out.set7 g nm t b jj.2 (.slice va Z.length vc) (.slice ag gj.length cg)).cells
      unfold set7 at d1 e2
      have hbs := K7h.out.size
      have hs0 := S0.out
      refine bodyPost_ret (v := .agg #[.int .i64 g, .string nm, .int .i64 t, .int .i64 b, .int .i64 jj.2, .slice va Z.length vc, .slice ag gj.length cg]) (by simp [results, Tryz.results12, go_sem, d1]) rfl ⟨_, _, by rw [← HN1.out, ← HT1.out, ← HB1.out, HNB.out]; rfl, ?_, ?_⟩
      ·refine ⟨Z, HZM.out, O7h.out.kept e2.size (fun j hj => e2.block j (O7h.out.row.lt j hj).2 (fun e => HMZ.out.1 j hj (Option.some.inj e))) (fun z hz j hj => e2.block j ((O7h.out.each z hz).lt j hj).2 (fun e => HMZ.out.2.1 z hz j hj (Option.some.inj e))), World.ownsRow.kept I7h.out e2 ?_, HDZ.out.1, HDZ.out.2⟩
       cases hc : Value.ownBlock (.slice ag gj.length cg) with
       | none => exact Or.inl rfl
       | some j => exact Or.inr (fun e => HMZ.out.2.2 j hc (Option.some.inj e))
      ·exact K7h.out.trans (below_of_grown e2 (by omega) hbs)
    ·have HNB : Hid (nbx = false) := by show _ = _; rw [← HBN.out]; simp [hb]
     go_wp2_with fail
     obtain ⟨W5, hW5⟩ : ∃ W5, w4 = W5 := ⟨_, rfl⟩
     have X5 := X4
     have K5 := K4
     have G5 := G4
     rw [hW5] at X5 K5 G5 ⊢
     clear hW5 c0 c1 X4 K4 G4
     refine (specJoin8_any l1 h1 l2 h2 g nm t b nx ma mn mc ga gn gc L G l3 h3 l4 h4 g nm' t b' nx' ma' mn' mc' ga' gn' gc' L' G' W5 HL.out hn HSM.out (HM.out.later K5.out) HGL.out hgn (HS.out.later K5.out) HL'.out hn' HSM'.out (HM'.out.later K5.out) HGL'.out hgn' (HS'.out.later K5.out) HSU.out).mono ?_
     rintro e w6 ⟨v, Z, rfl, hoz, hzm, hb6⟩
     rw [HJJ.out] at hzm ⊢
     obtain ⟨va, vc, rfl⟩ := hoz.shape
     have s5 := K5.out.size
     have s0 := S0.out
     have o5 := X5.out.lt
     have X6 := hid (X5.out.later hb6)
     have K6 := hid (btr K5.out hb6)
     have G6 := hid (own_later G5.out hb6)
     have R6 := hid (R0.out.later K6.out)
     have x6 := X6.out.cells
     have y6 := X6.out.loose
     have hGL := GL.out
     have hgb := fun j hj => (G5.out.lt j hj)
     have hob := HOB.out
     have hne : w.heap.size + 1 + 1 ≠ OB := by omega
     have X7 := (X6.out.s5 (.slice va Z.length vc)).s4 jj.2
     have R7 := (R6.out.far7 (.slice va Z.length vc) 5 hne).far7 (.int .i64 jj.2) 4 hne
     have O7 := OwZ.set_far (OwZ.set_far hoz (k := OB) (fun j hj => by have := (hoz.row.lt j hj).1; omega) (fun z hz j hj => by have := ((hoz.each z hz).lt j hj).1; omega) 5 (.slice va Z.length vc)) (k := OB) (fun j hj => by have := (hoz.row.lt j hj).1; omega) (fun z hz j hj => by have := ((hoz.each z hz).lt j hj).1; omega) 4 (.int .i64 jj.2)
     have I7 := owi_far (owi_far G6.out (k := OB) hGL 5 (.slice va Z.length vc)) (k := OB) hGL 4 (.int .i64 jj.2)
     have k7 := bsk (bsk K6.out hob 5 (.slice va Z.length vc)) hob 4 (.int .i64 jj.2)
     have x7 := X7.cells
     have r7 := R7.cells
     have u7 := R7.loose
     have OB0 := hid (And.intro (hid hoz.row.lt) (hid hgb))
     have HZM := hid hzm
     have HDZ : Hid (Dj (.slice ag gj.length cg) (.slice va Z.length vc) ∧ ∀ z ∈ Z, Dj (.slice ag gj.length cg) z.2.2.1) := ⟨fun j h1 h2 => by have e1 := (hgb j h1).2; have e2 := (hoz.row.lt j h2).1; omega, fun z hz j h1 h2 => by have e1 := (hgb j h1).2; have e2 := ((hoz.each z hz).lt j h2).1; omega⟩
     have HMZ : Hid ((∀ j, Value.ownBlock (.slice va Z.length vc) = some j → j ≠ w.heap.size + 1 + 1) ∧ (∀ z ∈ Z, ∀ j, z.2.2.1.ownBlock = some j → j ≠ w.heap.size + 1 + 1) ∧ (∀ j, Value.ownBlock (.slice ag gj.length cg) = some j → j ≠ w.heap.size + 1 + 1)) := ⟨fun j hj => by have := (hoz.row.lt j hj).1; omega, fun z hz j hj => by have := ((hoz.each z hz).lt j hj).1; omega, fun j hj => by have := (hgb j hj).1; omega⟩
     have R7h := hid R7
     have O7h := hid (O7.base (show w.heap.size ≤ W5.heap.size by omega))
     have I7h := hid (own_base I7 (show w.heap.size ≤ W0.heap.size by omega))
     have K7h := hid (btr B0.out k7)
     clear hoz hzm hb6 hGL hgb R7 O7 I7 k7 X7 s5 s0 o5 hob hne
     go_wp2
     have e2 := set7_grown ((w6.setCell ⟨OB, 5, none⟩ (.slice va Z.length vc)).setCell ⟨OB, 4, none⟩ (.int .i64 jj.2)) (w.heap.size + 1 + 1) g nm t b jj.2 (.slice va Z.length vc) (.slice ag gj.length cg)
     have d1 := (R7h.out.set7 g nm t b jj.2 (.slice va Z.length vc) (.slice ag gj.length cg)).cells
     unfold set7 at d1 e2
     have hbs := K7h.out.size
     have hs0 := S0.out
     refine bodyPost_ret (v := .agg #[.int .i64 g, .string nm, .int .i64 t, .int .i64 b, .int .i64 jj.2, .slice va Z.length vc, .slice ag gj.length cg]) (by simp [results, Tryz.results12, go_sem, d1]) rfl ⟨_, _, by rw [← HN1.out, ← HT1.out, ← HB1.out, HNB.out]; rfl, ?_, ?_⟩
     ·refine ⟨Z, HZM.out, O7h.out.kept e2.size (fun j hj => e2.block j (O7h.out.row.lt j hj).2 (fun e => HMZ.out.1 j hj (Option.some.inj e))) (fun z hz j hj => e2.block j ((O7h.out.each z hz).lt j hj).2 (fun e => HMZ.out.2.1 z hz j hj (Option.some.inj e))), World.ownsRow.kept I7h.out e2 ?_, HDZ.out.1, HDZ.out.2⟩
      cases hc : Value.ownBlock (.slice ag gj.length cg) with
      | none => exact Or.inl rfl
      | some j => exact Or.inr (fun e => HMZ.out.2.2 j hc (Option.some.inj e))
     ·exact K7h.out.trans (below_of_grown e2 (by omega) hbs)
   ·have HNB : Hid (nbx = false) := by show _ = _; rw [← HBN.out]; simp [ht]
    go_wp2_with fail
    obtain ⟨W5, hW5⟩ : ∃ W5, w4 = W5 := ⟨_, rfl⟩
    have X5 := X4
    have K5 := K4
    have G5 := G4
    rw [hW5] at X5 K5 G5 ⊢
    clear hW5 c0 c1 X4 K4 G4
    refine (specJoin8_any l1 h1 l2 h2 g nm t b nx ma mn mc ga gn gc L G l3 h3 l4 h4 g nm' t' b' nx' ma' mn' mc' ga' gn' gc' L' G' W5 HL.out hn HSM.out (HM.out.later K5.out) HGL.out hgn (HS.out.later K5.out) HL'.out hn' HSM'.out (HM'.out.later K5.out) HGL'.out hgn' (HS'.out.later K5.out) HSU.out).mono ?_
    rintro e w6 ⟨v, Z, rfl, hoz, hzm, hb6⟩
    rw [HJJ.out] at hzm ⊢
    obtain ⟨va, vc, rfl⟩ := hoz.shape
    have s5 := K5.out.size
    have s0 := S0.out
    have o5 := X5.out.lt
    have X6 := hid (X5.out.later hb6)
    have K6 := hid (btr K5.out hb6)
    have G6 := hid (own_later G5.out hb6)
    have R6 := hid (R0.out.later K6.out)
    have x6 := X6.out.cells
    have y6 := X6.out.loose
    have hGL := GL.out
    have hgb := fun j hj => (G5.out.lt j hj)
    have hob := HOB.out
    have hne : w.heap.size + 1 + 1 ≠ OB := by omega
    have X7 := (X6.out.s5 (.slice va Z.length vc)).s4 jj.2
    have R7 := (R6.out.far7 (.slice va Z.length vc) 5 hne).far7 (.int .i64 jj.2) 4 hne
    have O7 := OwZ.set_far (OwZ.set_far hoz (k := OB) (fun j hj => by have := (hoz.row.lt j hj).1; omega) (fun z hz j hj => by have := ((hoz.each z hz).lt j hj).1; omega) 5 (.slice va Z.length vc)) (k := OB) (fun j hj => by have := (hoz.row.lt j hj).1; omega) (fun z hz j hj => by have := ((hoz.each z hz).lt j hj).1; omega) 4 (.int .i64 jj.2)
    have I7 := owi_far (owi_far G6.out (k := OB) hGL 5 (.slice va Z.length vc)) (k := OB) hGL 4 (.int .i64 jj.2)
    have k7 := bsk (bsk K6.out hob 5 (.slice va Z.length vc)) hob 4 (.int .i64 jj.2)
    have x7 := X7.cells
    have r7 := R7.cells
    have u7 := R7.loose
    have OB0 := hid (And.intro (hid hoz.row.lt) (hid hgb))
    have HZM := hid hzm
    have HDZ : Hid (Dj (.slice ag gj.length cg) (.slice va Z.length vc) ∧ ∀ z ∈ Z, Dj (.slice ag gj.length cg) z.2.2.1) := ⟨fun j h1 h2 => by have e1 := (hgb j h1).2; have e2 := (hoz.row.lt j h2).1; omega, fun z hz j h1 h2 => by have e1 := (hgb j h1).2; have e2 := ((hoz.each z hz).lt j h2).1; omega⟩
    have HMZ : Hid ((∀ j, Value.ownBlock (.slice va Z.length vc) = some j → j ≠ w.heap.size + 1 + 1) ∧ (∀ z ∈ Z, ∀ j, z.2.2.1.ownBlock = some j → j ≠ w.heap.size + 1 + 1) ∧ (∀ j, Value.ownBlock (.slice ag gj.length cg) = some j → j ≠ w.heap.size + 1 + 1)) := ⟨fun j hj => by have := (hoz.row.lt j hj).1; omega, fun z hz j hj => by have := ((hoz.each z hz).lt j hj).1; omega, fun j hj => by have := (hgb j hj).1; omega⟩
    have R7h := hid R7
    have O7h := hid (O7.base (show w.heap.size ≤ W5.heap.size by omega))
    have I7h := hid (own_base I7 (show w.heap.size ≤ W0.heap.size by omega))
    have K7h := hid (btr B0.out k7)
    clear hoz hzm hb6 hGL hgb R7 O7 I7 k7 X7 s5 s0 o5 hob hne
    go_wp2
    have e2 := set7_grown ((w6.setCell ⟨OB, 5, none⟩ (.slice va Z.length vc)).setCell ⟨OB, 4, none⟩ (.int .i64 jj.2)) (w.heap.size + 1 + 1) g nm t b jj.2 (.slice va Z.length vc) (.slice ag gj.length cg)
    have d1 := (R7h.out.set7 g nm t b jj.2 (.slice va Z.length vc) (.slice ag gj.length cg)).cells
    unfold set7 at d1 e2
    have hbs := K7h.out.size
    have hs0 := S0.out
    refine bodyPost_ret (v := .agg #[.int .i64 g, .string nm, .int .i64 t, .int .i64 b, .int .i64 jj.2, .slice va Z.length vc, .slice ag gj.length cg]) (by simp [results, Tryz.results12, go_sem, d1]) rfl ⟨_, _, by rw [← HN1.out, ← HT1.out, ← HB1.out, HNB.out]; rfl, ?_, ?_⟩
    ·refine ⟨Z, HZM.out, O7h.out.kept e2.size (fun j hj => e2.block j (O7h.out.row.lt j hj).2 (fun e => HMZ.out.1 j hj (Option.some.inj e))) (fun z hz j hj => e2.block j ((O7h.out.each z hz).lt j hj).2 (fun e => HMZ.out.2.1 z hz j hj (Option.some.inj e))), World.ownsRow.kept I7h.out e2 ?_, HDZ.out.1, HDZ.out.2⟩
     cases hc : Value.ownBlock (.slice ag gj.length cg) with
     | none => exact Or.inl rfl
     | some j => exact Or.inr (fun e => HMZ.out.2.2 j hc (Option.some.inj e))
    ·exact K7h.out.trans (below_of_grown e2 (by omega) hbs)
 refine rl (fun K hK => ?_)
 go_simp
 skip
 refine hK.out _ _ (HZ.out _ (bpush (bdr (bre _)) _)) (fun hHeld => ?_)
 clear hK K
 try simp only [Act.put, tp2, tp3, tp4]
 clear hHeld
 refine ry 10 (fun K hK => ?_)
 go_simp
 refine (specJoinGone_any l2 h2 l4 h4 ga gn gc G ga' gn' gc' G' _ HGL.out hgn (HS.out.later (bpush (bdr (bre _)) _)) HGL'.out hgn' (HS'.out.later (bpush (bdr (bre _)) _))).mono ?_
 rintro e w1 ⟨gv, rfl, hgo, hb1⟩
 rw [HGJ.out] at hgo
 obtain ⟨ag, cg, rfl, _⟩ := OwI.shape hgo
 have P1 : Hid (Below W0.heap.size W0 w1) := btr (bpush (bdr (bre _)) _) hb1
 have X1 : Hid (Bx w1 W0.heap.size 29 0 ⟨#[]⟩ 0 0 0 (.slice none 0 0) (.slice none 0 0)) := (Bx.new W0.drew 29 0 ⟨#[]⟩ 0 0 0 (.slice none 0 0) (.slice none 0 0)).later hb1
 have GL : Hid (∀ j, Value.ownBlock (.slice ag gj.length cg) = some j → j ≠ W0.heap.size) := fun j hj => (by have h9 := (hgo.lt j hj).1; simp at h9; omega)
 have GO := hid (own_base (B := W0.heap.size) hgo (by simp))
 have m1 := X1.out.cells
 have n1 := X1.out.loose
 clear hgo hb1
 go_wp2_with fail
 refine hK.out _ _ (HZ.out _ P1.out) (fun hHeld => ?_)
 clear hK K
 try simp only [Act.put, tp2, tp3, tp4]
 refine tk 11 ?_
 clear hHeld
 refine ry 13 (fun K hK => ?_)
 go_simp
 have e7 := set7_grown w1 W0.heap.size g nm t b 0 (.slice none 0 0) (.slice ag gj.length cg)
 have X7 := X1.out.set7 g nm t b 0 (.slice none 0 0) (.slice ag gj.length cg)
 have k7 := below_of_grown e7 (Nat.le_refl W0.heap.size) (P1.out.size)
 unfold set7 at e7 X7 k7
 have K7 := hid ((P1.out).trans k7)
 have HS8 := hid (HZ.out _ K7.out)
 have G7 := hid (World.ownsRow.kept GO.out e7 (by cases hc : Value.ownBlock (.slice ag gj.length cg) with | none => exact Or.inl rfl | some j => exact Or.inr (fun e => GL.out j hc (Option.some.inj e))))
 have X7h := hid X7
 clear e7 X7 k7 m1 n1
 refine hK.out _ _ (HS8.out) (fun hHeld => ?_)
 clear hK K
 try simp only [Act.put, tp2, tp3, tp4]
 refine wpAnyH_done (by kernel_rfl) ?_ _
 refine NoPanic.normal ?_
 obtain ⟨W3, hW3⟩ : ∃ W3, (((((((w1.setCell ⟨W0.heap.size, 0, none⟩ (.int .i64 g)).setCell ⟨W0.heap.size, 1, none⟩ (.string nm)).setCell ⟨W0.heap.size, 2, none⟩ (.int .i64 t)).setCell ⟨W0.heap.size, 3, none⟩ (.int .i64 b)).setCell ⟨W0.heap.size, 4, none⟩ (.int .i64 0)).setCell ⟨W0.heap.size, 5, none⟩ (.slice none 0 0)).setCell ⟨W0.heap.size, 6, none⟩ (.slice ag gj.length cg)) = W3 := ⟨_, rfl⟩
 rw [hW3] at X7h K7 G7 ⊢
 obtain ⟨OB, hOB⟩ : ∃ OB, W0.heap.size = OB := ⟨_, rfl⟩
 have HOB : Hid (W0.heap.size ≤ OB) := by rw [← hOB]; exact Nat.le_refl _
 rw [hOB] at X7h GL ⊢
 clear hW3 HS8 X1 P1 GO
 have X3 := X7h
 have K3 := K7
 have G3 := G7
 clear X7h K7 G7 hOB
 have c0 := (A0.out.later K3.out).cells
 have c1 := (D0.out.later K3.out).cells
 go_wp2_with fail
 clear c0 c1
 refine (CP.out _).mono ?_
 rintro e w4 ⟨rfl, hw4⟩
 have b4 : Below W3.heap.size W3 w4 := by rw [hw4]; exact bpush (bpush (bre _) _) _
 clear hw4
 have X4 := hid (X3.out.later b4)
 have K4 := hid (btr K3.out b4)
 have G4 := hid (own_later G3.out b4)
 have c0 := (A0.out.later K4.out).cells
 have c1 := (D0.out.later K4.out).cells
 clear b4 X3 K3 G3
 cases p
 case true =>
  have HNB : Hid (nbx = true) := by show _ = _; rw [← HBN.out]; rfl
  have x4 := X4.out.cells
  have y4 := X4.out.loose
  have X5 := hid (((X4.out.s1 nm').s2 t').s3 b')
  have K5 := hid (bsk (bsk (bsk K4.out HOB.out 1 (.string nm')) HOB.out 2 (.int .i64 t')) HOB.out 3 (.int .i64 b'))
  have G5 := hid (owi_far (owi_far (owi_far G4.out GL.out 1 (.string nm')) GL.out 2 (.int .i64 t')) GL.out 3 (.int .i64 b'))
  have c5 := (A0.out.later K5.out).cells
  have d5 := (D0.out.later K5.out).cells
  go_wp2_with fail
  obtain ⟨W5, hW5⟩ : ∃ W5, ((w4.setCell ⟨OB, 1, none⟩ (.string nm')).setCell ⟨OB, 2, none⟩ (.int .i64 t')).setCell ⟨OB, 3, none⟩ (.int .i64 b') = W5 := ⟨_, rfl⟩
  rw [hW5] at X5 K5 G5 ⊢
  clear hW5 c0 c1 x4 y4 c5 d5 X4 K4 G4
  refine (specJoin8_any l1 h1 l2 h2 g nm t b nx ma mn mc ga gn gc L G l3 h3 l4 h4 g nm' t' b' nx' ma' mn' mc' ga' gn' gc' L' G' W5 HL.out hn HSM.out (HM.out.later K5.out) HGL.out hgn (HS.out.later K5.out) HL'.out hn' HSM'.out (HM'.out.later K5.out) HGL'.out hgn' (HS'.out.later K5.out) HSU.out).mono ?_
  rintro e w6 ⟨v, Z, rfl, hoz, hzm, hb6⟩
  rw [HJJ.out] at hzm ⊢
  obtain ⟨va, vc, rfl⟩ := hoz.shape
  have s5 := K5.out.size
  have s0 := S0.out
  have o5 := X5.out.lt
  have X6 := hid (X5.out.later hb6)
  have K6 := hid (btr K5.out hb6)
  have G6 := hid (own_later G5.out hb6)
  have R6 := hid (R0.out.later K6.out)
  have x6 := X6.out.cells
  have y6 := X6.out.loose
  have hGL := GL.out
  have hgb := fun j hj => (G5.out.lt j hj)
  have hob := HOB.out
  have hne : w.heap.size + 1 + 1 ≠ OB := by omega
  have X7 := (X6.out.s5 (.slice va Z.length vc)).s4 jj.2
  have R7 := (R6.out.far7 (.slice va Z.length vc) 5 hne).far7 (.int .i64 jj.2) 4 hne
  have O7 := OwZ.set_far (OwZ.set_far hoz (k := OB) (fun j hj => by have := (hoz.row.lt j hj).1; omega) (fun z hz j hj => by have := ((hoz.each z hz).lt j hj).1; omega) 5 (.slice va Z.length vc)) (k := OB) (fun j hj => by have := (hoz.row.lt j hj).1; omega) (fun z hz j hj => by have := ((hoz.each z hz).lt j hj).1; omega) 4 (.int .i64 jj.2)
  have I7 := owi_far (owi_far G6.out (k := OB) hGL 5 (.slice va Z.length vc)) (k := OB) hGL 4 (.int .i64 jj.2)
  have k7 := bsk (bsk K6.out hob 5 (.slice va Z.length vc)) hob 4 (.int .i64 jj.2)
  have x7 := X7.cells
  have r7 := R7.cells
  have u7 := R7.loose
  have OB0 := hid (And.intro (hid hoz.row.lt) (hid hgb))
  have HZM := hid hzm
  have HDZ : Hid (Dj (.slice ag gj.length cg) (.slice va Z.length vc) ∧ ∀ z ∈ Z, Dj (.slice ag gj.length cg) z.2.2.1) := ⟨fun j h1 h2 => by have e1 := (hgb j h1).2; have e2 := (hoz.row.lt j h2).1; omega, fun z hz j h1 h2 => by have e1 := (hgb j h1).2; have e2 := ((hoz.each z hz).lt j h2).1; omega⟩
  have HMZ : Hid ((∀ j, Value.ownBlock (.slice va Z.length vc) = some j → j ≠ w.heap.size + 1 + 1) ∧ (∀ z ∈ Z, ∀ j, z.2.2.1.ownBlock = some j → j ≠ w.heap.size + 1 + 1) ∧ (∀ j, Value.ownBlock (.slice ag gj.length cg) = some j → j ≠ w.heap.size + 1 + 1)) := ⟨fun j hj => by have := (hoz.row.lt j hj).1; omega, fun z hz j hj => by have := ((hoz.each z hz).lt j hj).1; omega, fun j hj => by have := (hgb j hj).1; omega⟩
  have R7h := hid R7
  have O7h := hid (O7.base (show w.heap.size ≤ W5.heap.size by omega))
  have I7h := hid (own_base I7 (show w.heap.size ≤ W0.heap.size by omega))
  have K7h := hid (btr B0.out k7)
  clear hoz hzm hb6 hGL hgb R7 O7 I7 k7 X7 s5 s0 o5 hob hne
  go_wp2
  have e2 := set7_grown ((w6.setCell ⟨OB, 5, none⟩ (.slice va Z.length vc)).setCell ⟨OB, 4, none⟩ (.int .i64 jj.2)) (w.heap.size + 1 + 1) g nm' t' b' jj.2 (.slice va Z.length vc) (.slice ag gj.length cg)
  have d1 := (R7h.out.set7 g nm' t' b' jj.2 (.slice va Z.length vc) (.slice ag gj.length cg)).cells
  unfold set7 at d1 e2
  have hbs := K7h.out.size
  have hs0 := S0.out
  refine bodyPost_ret (v := .agg #[.int .i64 g, .string nm', .int .i64 t', .int .i64 b', .int .i64 jj.2, .slice va Z.length vc, .slice ag gj.length cg]) (by simp [results, Tryz.results12, go_sem, d1]) rfl ⟨_, _, by rw [← HN1.out, ← HT1.out, ← HB1.out, HNB.out]; rfl, ?_, ?_⟩
  ·refine ⟨Z, HZM.out, O7h.out.kept e2.size (fun j hj => e2.block j (O7h.out.row.lt j hj).2 (fun e => HMZ.out.1 j hj (Option.some.inj e))) (fun z hz j hj => e2.block j ((O7h.out.each z hz).lt j hj).2 (fun e => HMZ.out.2.1 z hz j hj (Option.some.inj e))), World.ownsRow.kept I7h.out e2 ?_, HDZ.out.1, HDZ.out.2⟩
   cases hc : Value.ownBlock (.slice ag gj.length cg) with
   | none => exact Or.inl rfl
   | some j => exact Or.inr (fun e => HMZ.out.2.2 j hc (Option.some.inj e))
  ·exact K7h.out.trans (below_of_grown e2 (by omega) hbs)
 case false =>
  by_cases ht : t = t'
  ·subst ht
   by_cases hb : b = b'
   ·subst hb
    have HBN2 : Hid (q = nbx) := by show _ = _; rw [← HBN.out]; simp
    cases q
    case true =>
     have HNB : Hid (nbx = true) := HBN2.out.symm
     have hq := HQ.out
     have x4 := X4.out.cells
     have y4 := X4.out.loose
     have X5 := hid (((X4.out.s1 nm').s2 t).s3 b)
     have K5 := hid (bsk (bsk (bsk K4.out HOB.out 1 (.string nm')) HOB.out 2 (.int .i64 t)) HOB.out 3 (.int .i64 b))
     have G5 := hid (owi_far (owi_far (owi_far G4.out GL.out 1 (.string nm')) GL.out 2 (.int .i64 t)) GL.out 3 (.int .i64 b))
     have c5 := (A0.out.later K5.out).cells
     have d5 := (D0.out.later K5.out).cells
     go_wp2_with fail
     obtain ⟨W5, hW5⟩ : ∃ W5, ((w4.setCell ⟨OB, 1, none⟩ (.string nm')).setCell ⟨OB, 2, none⟩ (.int .i64 t)).setCell ⟨OB, 3, none⟩ (.int .i64 b) = W5 := ⟨_, rfl⟩
     rw [hW5] at X5 K5 G5 ⊢
     clear hW5 c0 c1 x4 y4 c5 d5 X4 K4 G4
     refine (specJoin8_any l1 h1 l2 h2 g nm t b nx ma mn mc ga gn gc L G l3 h3 l4 h4 g nm' t b nx' ma' mn' mc' ga' gn' gc' L' G' W5 HL.out hn HSM.out (HM.out.later K5.out) HGL.out hgn (HS.out.later K5.out) HL'.out hn' HSM'.out (HM'.out.later K5.out) HGL'.out hgn' (HS'.out.later K5.out) HSU.out).mono ?_
     rintro e w6 ⟨v, Z, rfl, hoz, hzm, hb6⟩
     rw [HJJ.out] at hzm ⊢
     obtain ⟨va, vc, rfl⟩ := hoz.shape
     have s5 := K5.out.size
     have s0 := S0.out
     have o5 := X5.out.lt
     have X6 := hid (X5.out.later hb6)
     have K6 := hid (btr K5.out hb6)
     have G6 := hid (own_later G5.out hb6)
     have R6 := hid (R0.out.later K6.out)
     have x6 := X6.out.cells
     have y6 := X6.out.loose
     have hGL := GL.out
     have hgb := fun j hj => (G5.out.lt j hj)
     have hob := HOB.out
     have hne : w.heap.size + 1 + 1 ≠ OB := by omega
     have X7 := (X6.out.s5 (.slice va Z.length vc)).s4 jj.2
     have R7 := (R6.out.far7 (.slice va Z.length vc) 5 hne).far7 (.int .i64 jj.2) 4 hne
     have O7 := OwZ.set_far (OwZ.set_far hoz (k := OB) (fun j hj => by have := (hoz.row.lt j hj).1; omega) (fun z hz j hj => by have := ((hoz.each z hz).lt j hj).1; omega) 5 (.slice va Z.length vc)) (k := OB) (fun j hj => by have := (hoz.row.lt j hj).1; omega) (fun z hz j hj => by have := ((hoz.each z hz).lt j hj).1; omega) 4 (.int .i64 jj.2)
     have I7 := owi_far (owi_far G6.out (k := OB) hGL 5 (.slice va Z.length vc)) (k := OB) hGL 4 (.int .i64 jj.2)
     have k7 := bsk (bsk K6.out hob 5 (.slice va Z.length vc)) hob 4 (.int .i64 jj.2)
     have x7 := X7.cells
     have r7 := R7.cells
     have u7 := R7.loose
     have OB0 := hid (And.intro (hid hoz.row.lt) (hid hgb))
     have HZM := hid hzm
     have HDZ : Hid (Dj (.slice ag gj.length cg) (.slice va Z.length vc) ∧ ∀ z ∈ Z, Dj (.slice ag gj.length cg) z.2.2.1) := ⟨fun j h1 h2 => by have e1 := (hgb j h1).2; have e2 := (hoz.row.lt j h2).1; omega, fun z hz j h1 h2 => by have e1 := (hgb j h1).2; have e2 := ((hoz.each z hz).lt j h2).1; omega⟩
     have HMZ : Hid ((∀ j, Value.ownBlock (.slice va Z.length vc) = some j → j ≠ w.heap.size + 1 + 1) ∧ (∀ z ∈ Z, ∀ j, z.2.2.1.ownBlock = some j → j ≠ w.heap.size + 1 + 1) ∧ (∀ j, Value.ownBlock (.slice ag gj.length cg) = some j → j ≠ w.heap.size + 1 + 1)) := ⟨fun j hj => by have := (hoz.row.lt j hj).1; omega, fun z hz j hj => by have := ((hoz.each z hz).lt j hj).1; omega, fun j hj => by have := (hgb j hj).1; omega⟩
     have R7h := hid R7
     have O7h := hid (O7.base (show w.heap.size ≤ W5.heap.size by omega))
     have I7h := hid (own_base I7 (show w.heap.size ≤ W0.heap.size by omega))
     have K7h := hid (btr B0.out k7)
     clear hoz hzm hb6 hGL hgb R7 O7 I7 k7 X7 s5 s0 o5 hob hne
     go_wp2
     have e2 := set7_grown ((w6.setCell ⟨OB, 5, none⟩ (.slice va Z.length vc)).setCell ⟨OB, 4, none⟩ (.int .i64 jj.2)) (w.heap.size + 1 + 1) g nm' t b jj.2 (.slice va Z.length vc) (.slice ag gj.length cg)
     have d1 := (R7h.out.set7 g nm' t b jj.2 (.slice va Z.length vc) (.slice ag gj.length cg)).cells
     unfold set7 at d1 e2
     have hbs := K7h.out.size
     have hs0 := S0.out
     refine bodyPost_ret (v := .agg #[.int .i64 g, .string nm', .int .i64 t, .int .i64 b, .int .i64 jj.2, .slice va Z.length vc, .slice ag gj.length cg]) (by simp [results, Tryz.results12, go_sem, d1]) rfl ⟨_, _, by rw [← HN1.out, ← HT1.out, ← HB1.out, HNB.out]; rfl, ?_, ?_⟩
     ·refine ⟨Z, HZM.out, O7h.out.kept e2.size (fun j hj => e2.block j (O7h.out.row.lt j hj).2 (fun e => HMZ.out.1 j hj (Option.some.inj e))) (fun z hz j hj => e2.block j ((O7h.out.each z hz).lt j hj).2 (fun e => HMZ.out.2.1 z hz j hj (Option.some.inj e))), World.ownsRow.kept I7h.out e2 ?_, HDZ.out.1, HDZ.out.2⟩
      cases hc : Value.ownBlock (.slice ag gj.length cg) with
      | none => exact Or.inl rfl
      | some j => exact Or.inr (fun e => HMZ.out.2.2 j hc (Option.some.inj e))
     ·exact K7h.out.trans (below_of_grown e2 (by omega) hbs)
    case false =>
     have HNB : Hid (nbx = false) := HBN2.out.symm
     have hq := HQ.out
     go_wp2_with fail
     obtain ⟨W5, hW5⟩ : ∃ W5, w4 = W5 := ⟨_, rfl⟩
     have X5 := X4
     have K5 := K4
     have G5 := G4
     rw [hW5] at X5 K5 G5 ⊢
     clear hW5 c0 c1 X4 K4 G4
     refine (specJoin8_any l1 h1 l2 h2 g nm t b nx ma mn mc ga gn gc L G l3 h3 l4 h4 g nm' t b nx' ma' mn' mc' ga' gn' gc' L' G' W5 HL.out hn HSM.out (HM.out.later K5.out) HGL.out hgn (HS.out.later K5.out) HL'.out hn' HSM'.out (HM'.out.later K5.out) HGL'.out hgn' (HS'.out.later K5.out) HSU.out).mono ?_
     rintro e w6 ⟨v, Z, rfl, hoz, hzm, hb6⟩
     rw [HJJ.out] at hzm ⊢
     obtain ⟨va, vc, rfl⟩ := hoz.shape
     have s5 := K5.out.size
     have s0 := S0.out
     have o5 := X5.out.lt
     have X6 := hid (X5.out.later hb6)
     have K6 := hid (btr K5.out hb6)
     have G6 := hid (own_later G5.out hb6)
     have R6 := hid (R0.out.later K6.out)
     have x6 := X6.out.cells
     have y6 := X6.out.loose
     have hGL := GL.out
     have hgb := fun j hj => (G5.out.lt j hj)
     have hob := HOB.out
     have hne : w.heap.size + 1 + 1 ≠ OB := by omega
     have X7 := (X6.out.s5 (.slice va Z.length vc)).s4 jj.2
     have R7 := (R6.out.far7 (.slice va Z.length vc) 5 hne).far7 (.int .i64 jj.2) 4 hne
     have O7 := OwZ.set_far (OwZ.set_far hoz (k := OB) (fun j hj => by have := (hoz.row.lt j hj).1; omega) (fun z hz j hj => by have := ((hoz.each z hz).lt j hj).1; omega) 5 (.slice va Z.length vc)) (k := OB) (fun j hj => by have := (hoz.row.lt j hj).1; omega) (fun z hz j hj => by have := ((hoz.each z hz).lt j hj).1; omega) 4 (.int .i64 jj.2)
     have I7 := owi_far (owi_far G6.out (k := OB) hGL 5 (.slice va Z.length vc)) (k := OB) hGL 4 (.int .i64 jj.2)
     have k7 := bsk (bsk K6.out hob 5 (.slice va Z.length vc)) hob 4 (.int .i64 jj.2)
     have x7 := X7.cells
     have r7 := R7.cells
     have u7 := R7.loose
     have OB0 := hid (And.intro (hid hoz.row.lt) (hid hgb))
     have HZM := hid hzm
     have HDZ : Hid (Dj (.slice ag gj.length cg) (.slice va Z.length vc) ∧ ∀ z ∈ Z, Dj (.slice ag gj.length cg) z.2.2.1) := ⟨fun j h1 h2 => by have e1 := (hgb j h1).2; have e2 := (hoz.row.lt j h2).1; omega, fun z hz j h1 h2 => by have e1 := (hgb j h1).2; have e2 := ((hoz.each z hz).lt j h2).1; omega⟩
     have HMZ : Hid ((∀ j, Value.ownBlock (.slice va Z.length vc) = some j → j ≠ w.heap.size + 1 + 1) ∧ (∀ z ∈ Z, ∀ j, z.2.2.1.ownBlock = some j → j ≠ w.heap.size + 1 + 1) ∧ (∀ j, Value.ownBlock (.slice ag gj.length cg) = some j → j ≠ w.heap.size + 1 + 1)) := ⟨fun j hj => by have := (hoz.row.lt j hj).1; omega, fun z hz j hj => by have := ((hoz.each z hz).lt j hj).1; omega, fun j hj => by have := (hgb j hj).1; omega⟩
     have R7h := hid R7
     have O7h := hid (O7.base (show w.heap.size ≤ W5.heap.size by omega))
     have I7h := hid (own_base I7 (show w.heap.size ≤ W0.heap.size by omega))
     have K7h := hid (btr B0.out k7)
     clear hoz hzm hb6 hGL hgb R7 O7 I7 k7 X7 s5 s0 o5 hob hne
     go_wp2
     have e2 := set7_grown ((w6.setCell ⟨OB, 5, none⟩ (.slice va Z.length vc)).setCell ⟨OB, 4, none⟩ (.int .i64 jj.2)) (w.heap.size + 1 + 1) g nm t b jj.2 (.slice va Z.length vc) (.slice ag gj.length cg)
     have d1 := (R7h.out.set7 g nm t b jj.2 (.slice va Z.length vc) (.slice ag gj.length cg)).cells
     unfold set7 at d1 e2
     have hbs := K7h.out.size
     have hs0 := S0.out
     refine bodyPost_ret (v := .agg #[.int .i64 g, .string nm, .int .i64 t, .int .i64 b, .int .i64 jj.2, .slice va Z.length vc, .slice ag gj.length cg]) (by simp [results, Tryz.results12, go_sem, d1]) rfl ⟨_, _, by rw [← HN1.out, ← HT1.out, ← HB1.out, HNB.out]; rfl, ?_, ?_⟩
     ·refine ⟨Z, HZM.out, O7h.out.kept e2.size (fun j hj => e2.block j (O7h.out.row.lt j hj).2 (fun e => HMZ.out.1 j hj (Option.some.inj e))) (fun z hz j hj => e2.block j ((O7h.out.each z hz).lt j hj).2 (fun e => HMZ.out.2.1 z hz j hj (Option.some.inj e))), World.ownsRow.kept I7h.out e2 ?_, HDZ.out.1, HDZ.out.2⟩
      cases hc : Value.ownBlock (.slice ag gj.length cg) with
      | none => exact Or.inl rfl
      | some j => exact Or.inr (fun e => HMZ.out.2.2 j hc (Option.some.inj e))
     ·exact K7h.out.trans (below_of_grown e2 (by omega) hbs)
   ·have HNB : Hid (nbx = false) := by show _ = _; rw [← HBN.out]; simp [hb]
    go_wp2_with fail
    obtain ⟨W5, hW5⟩ : ∃ W5, w4 = W5 := ⟨_, rfl⟩
    have X5 := X4
    have K5 := K4
    have G5 := G4
    rw [hW5] at X5 K5 G5 ⊢
    clear hW5 c0 c1 X4 K4 G4
    refine (specJoin8_any l1 h1 l2 h2 g nm t b nx ma mn mc ga gn gc L G l3 h3 l4 h4 g nm' t b' nx' ma' mn' mc' ga' gn' gc' L' G' W5 HL.out hn HSM.out (HM.out.later K5.out) HGL.out hgn (HS.out.later K5.out) HL'.out hn' HSM'.out (HM'.out.later K5.out) HGL'.out hgn' (HS'.out.later K5.out) HSU.out).mono ?_
    rintro e w6 ⟨v, Z, rfl, hoz, hzm, hb6⟩
    rw [HJJ.out] at hzm ⊢
    obtain ⟨va, vc, rfl⟩ := hoz.shape
    have s5 := K5.out.size
    have s0 := S0.out
    have o5 := X5.out.lt
    have X6 := hid (X5.out.later hb6)
    have K6 := hid (btr K5.out hb6)
    have G6 := hid (own_later G5.out hb6)
    have R6 := hid (R0.out.later K6.out)
    have x6 := X6.out.cells
    have y6 := X6.out.loose
    have hGL := GL.out
    have hgb := fun j hj => (G5.out.lt j hj)
    have hob := HOB.out
    have hne : w.heap.size + 1 + 1 ≠ OB := by omega
    have X7 := (X6.out.s5 (.slice va Z.length vc)).s4 jj.2
    have R7 := (R6.out.far7 (.slice va Z.length vc) 5 hne).far7 (.int .i64 jj.2) 4 hne
    have O7 := OwZ.set_far (OwZ.set_far hoz (k := OB) (fun j hj => by have := (hoz.row.lt j hj).1; omega) (fun z hz j hj => by have := ((hoz.each z hz).lt j hj).1; omega) 5 (.slice va Z.length vc)) (k := OB) (fun j hj => by have := (hoz.row.lt j hj).1; omega) (fun z hz j hj => by have := ((hoz.each z hz).lt j hj).1; omega) 4 (.int .i64 jj.2)
    have I7 := owi_far (owi_far G6.out (k := OB) hGL 5 (.slice va Z.length vc)) (k := OB) hGL 4 (.int .i64 jj.2)
    have k7 := bsk (bsk K6.out hob 5 (.slice va Z.length vc)) hob 4 (.int .i64 jj.2)
    have x7 := X7.cells
    have r7 := R7.cells
    have u7 := R7.loose
    have OB0 := hid (And.intro (hid hoz.row.lt) (hid hgb))
    have HZM := hid hzm
    have HDZ : Hid (Dj (.slice ag gj.length cg) (.slice va Z.length vc) ∧ ∀ z ∈ Z, Dj (.slice ag gj.length cg) z.2.2.1) := ⟨fun j h1 h2 => by have e1 := (hgb j h1).2; have e2 := (hoz.row.lt j h2).1; omega, fun z hz j h1 h2 => by have e1 := (hgb j h1).2; have e2 := ((hoz.each z hz).lt j h2).1; omega⟩
    have HMZ : Hid ((∀ j, Value.ownBlock (.slice va Z.length vc) = some j → j ≠ w.heap.size + 1 + 1) ∧ (∀ z ∈ Z, ∀ j, z.2.2.1.ownBlock = some j → j ≠ w.heap.size + 1 + 1) ∧ (∀ j, Value.ownBlock (.slice ag gj.length cg) = some j → j ≠ w.heap.size + 1 + 1)) := ⟨fun j hj => by have := (hoz.row.lt j hj).1; omega, fun z hz j hj => by have := ((hoz.each z hz).lt j hj).1; omega, fun j hj => by have := (hgb j hj).1; omega⟩
    have R7h := hid R7
    have O7h := hid (O7.base (show w.heap.size ≤ W5.heap.size by omega))
    have I7h := hid (own_base I7 (show w.heap.size ≤ W0.heap.size by omega))
    have K7h := hid (btr B0.out k7)
    clear hoz hzm hb6 hGL hgb R7 O7 I7 k7 X7 s5 s0 o5 hob hne
    go_wp2
    have e2 := set7_grown ((w6.setCell ⟨OB, 5, none⟩ (.slice va Z.length vc)).setCell ⟨OB, 4, none⟩ (.int .i64 jj.2)) (w.heap.size + 1 + 1) g nm t b jj.2 (.slice va Z.length vc) (.slice ag gj.length cg)
    have d1 := (R7h.out.set7 g nm t b jj.2 (.slice va Z.length vc) (.slice ag gj.length cg)).cells
    unfold set7 at d1 e2
    have hbs := K7h.out.size
    have hs0 := S0.out
    refine bodyPost_ret (v := .agg #[.int .i64 g, .string nm, .int .i64 t, .int .i64 b, .int .i64 jj.2, .slice va Z.length vc, .slice ag gj.length cg]) (by simp [results, Tryz.results12, go_sem, d1]) rfl ⟨_, _, by rw [← HN1.out, ← HT1.out, ← HB1.out, HNB.out]; rfl, ?_, ?_⟩
    ·refine ⟨Z, HZM.out, O7h.out.kept e2.size (fun j hj => e2.block j (O7h.out.row.lt j hj).2 (fun e => HMZ.out.1 j hj (Option.some.inj e))) (fun z hz j hj => e2.block j ((O7h.out.each z hz).lt j hj).2 (fun e => HMZ.out.2.1 z hz j hj (Option.some.inj e))), World.ownsRow.kept I7h.out e2 ?_, HDZ.out.1, HDZ.out.2⟩
     cases hc : Value.ownBlock (.slice ag gj.length cg) with
     | none => exact Or.inl rfl
     | some j => exact Or.inr (fun e => HMZ.out.2.2 j hc (Option.some.inj e))
    ·exact K7h.out.trans (below_of_grown e2 (by omega) hbs)
  ·have HNB : Hid (nbx = false) := by show _ = _; rw [← HBN.out]; simp [ht]
   go_wp2_with fail
   obtain ⟨W5, hW5⟩ : ∃ W5, w4 = W5 := ⟨_, rfl⟩
   have X5 := X4
   have K5 := K4
   have G5 := G4
   rw [hW5] at X5 K5 G5 ⊢
   clear hW5 c0 c1 X4 K4 G4
   refine (specJoin8_any l1 h1 l2 h2 g nm t b nx ma mn mc ga gn gc L G l3 h3 l4 h4 g nm' t' b' nx' ma' mn' mc' ga' gn' gc' L' G' W5 HL.out hn HSM.out (HM.out.later K5.out) HGL.out hgn (HS.out.later K5.out) HL'.out hn' HSM'.out (HM'.out.later K5.out) HGL'.out hgn' (HS'.out.later K5.out) HSU.out).mono ?_
   rintro e w6 ⟨v, Z, rfl, hoz, hzm, hb6⟩
   rw [HJJ.out] at hzm ⊢
   obtain ⟨va, vc, rfl⟩ := hoz.shape
   have s5 := K5.out.size
   have s0 := S0.out
   have o5 := X5.out.lt
   have X6 := hid (X5.out.later hb6)
   have K6 := hid (btr K5.out hb6)
   have G6 := hid (own_later G5.out hb6)
   have R6 := hid (R0.out.later K6.out)
   have x6 := X6.out.cells
   have y6 := X6.out.loose
   have hGL := GL.out
   have hgb := fun j hj => (G5.out.lt j hj)
   have hob := HOB.out
   have hne : w.heap.size + 1 + 1 ≠ OB := by omega
   have X7 := (X6.out.s5 (.slice va Z.length vc)).s4 jj.2
   have R7 := (R6.out.far7 (.slice va Z.length vc) 5 hne).far7 (.int .i64 jj.2) 4 hne
   have O7 := OwZ.set_far (OwZ.set_far hoz (k := OB) (fun j hj => by have := (hoz.row.lt j hj).1; omega) (fun z hz j hj => by have := ((hoz.each z hz).lt j hj).1; omega) 5 (.slice va Z.length vc)) (k := OB) (fun j hj => by have := (hoz.row.lt j hj).1; omega) (fun z hz j hj => by have := ((hoz.each z hz).lt j hj).1; omega) 4 (.int .i64 jj.2)
   have I7 := owi_far (owi_far G6.out (k := OB) hGL 5 (.slice va Z.length vc)) (k := OB) hGL 4 (.int .i64 jj.2)
   have k7 := bsk (bsk K6.out hob 5 (.slice va Z.length vc)) hob 4 (.int .i64 jj.2)
   have x7 := X7.cells
   have r7 := R7.cells
   have u7 := R7.loose
   have OB0 := hid (And.intro (hid hoz.row.lt) (hid hgb))
   have HZM := hid hzm
   have HDZ : Hid (Dj (.slice ag gj.length cg) (.slice va Z.length vc) ∧ ∀ z ∈ Z, Dj (.slice ag gj.length cg) z.2.2.1) := ⟨fun j h1 h2 => by have e1 := (hgb j h1).2; have e2 := (hoz.row.lt j h2).1; omega, fun z hz j h1 h2 => by have e1 := (hgb j h1).2; have e2 := ((hoz.each z hz).lt j h2).1; omega⟩
   have HMZ : Hid ((∀ j, Value.ownBlock (.slice va Z.length vc) = some j → j ≠ w.heap.size + 1 + 1) ∧ (∀ z ∈ Z, ∀ j, z.2.2.1.ownBlock = some j → j ≠ w.heap.size + 1 + 1) ∧ (∀ j, Value.ownBlock (.slice ag gj.length cg) = some j → j ≠ w.heap.size + 1 + 1)) := ⟨fun j hj => by have := (hoz.row.lt j hj).1; omega, fun z hz j hj => by have := ((hoz.each z hz).lt j hj).1; omega, fun j hj => by have := (hgb j hj).1; omega⟩
   have R7h := hid R7
   have O7h := hid (O7.base (show w.heap.size ≤ W5.heap.size by omega))
   have I7h := hid (own_base I7 (show w.heap.size ≤ W0.heap.size by omega))
   have K7h := hid (btr B0.out k7)
   clear hoz hzm hb6 hGL hgb R7 O7 I7 k7 X7 s5 s0 o5 hob hne
   go_wp2
   have e2 := set7_grown ((w6.setCell ⟨OB, 5, none⟩ (.slice va Z.length vc)).setCell ⟨OB, 4, none⟩ (.int .i64 jj.2)) (w.heap.size + 1 + 1) g nm t b jj.2 (.slice va Z.length vc) (.slice ag gj.length cg)
   have d1 := (R7h.out.set7 g nm t b jj.2 (.slice va Z.length vc) (.slice ag gj.length cg)).cells
   unfold set7 at d1 e2
   have hbs := K7h.out.size
   have hs0 := S0.out
   refine bodyPost_ret (v := .agg #[.int .i64 g, .string nm, .int .i64 t, .int .i64 b, .int .i64 jj.2, .slice va Z.length vc, .slice ag gj.length cg]) (by simp [results, Tryz.results12, go_sem, d1]) rfl ⟨_, _, by rw [← HN1.out, ← HT1.out, ← HB1.out, HNB.out]; rfl, ?_, ?_⟩
   ·refine ⟨Z, HZM.out, O7h.out.kept e2.size (fun j hj => e2.block j (O7h.out.row.lt j hj).2 (fun e => HMZ.out.1 j hj (Option.some.inj e))) (fun z hz j hj => e2.block j ((O7h.out.each z hz).lt j hj).2 (fun e => HMZ.out.2.1 z hz j hj (Option.some.inj e))), World.ownsRow.kept I7h.out e2 ?_, HDZ.out.1, HDZ.out.2⟩
    cases hc : Value.ownBlock (.slice ag gj.length cg) with
    | none => exact Or.inl rfl
    | some j => exact Or.inr (fun e => HMZ.out.2.2 j hc (Option.some.inj e))
   ·exact K7h.out.trans (below_of_grown e2 (by omega) hbs)
end Go.Proofs.YtmpcmllfgogegaaGreat
