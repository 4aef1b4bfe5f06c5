/- Jma, Kes. -/

import Derived.Test.YtmpcmllfgogegaaGreatjJc
namespace Go.Proofs.YtmpcmllfgogegaaGreat
open Go.RowKit Go.ChangeMaps
theorem OwZ.set_far {W : World} {B k : Nat} {v : Value} {Z : List Z5} (h : OwZ W B v Z) (h1 : ∀ j, v.ownBlock = some j → j ≠ k) (h2 : ∀ z ∈ Z, ∀ j, z.2.2.1.ownBlock = some j → j ≠ k) (i : Nat) (x : Value) : OwZ (W.setCell ⟨k, i, none⟩ x) B v Z := by
 have hg : W.grownBy (W.setCell ⟨k, i, none⟩ x) (some k) := wst (wre _ _) i x
 exact h.kept hg.size (fun j hj => hg.block j (h.row.lt j hj).2 (fun e => h1 j hj (Option.some.inj e))) (fun z hz j hj => hg.block j ((h.each z hz).lt j hj).2 (fun e => h2 z hz j hj (Option.some.inj e)))
theorem Ow.set_far {W : World} {B k : Nat} {v : Value} {l : List R3} (h : Ow W B v l) (h1 : v.ownBlock ≠ some k) (i : Nat) (x : Value) : Ow (W.setCell ⟨k, i, none⟩ x) B v l :=
 World.ownsRow.kept h (wst (wre _ _) i x) (Or.inr h1)
set_option maxHeartbeats 16000000 in
set_option maxRecDepth 100000 in
theorem specJoin8_any (l1 h1 l2 h2 : Nat) (g : Int) (nm : ByteArray) (t b nx : Int) (ma : Option Addr) (mn mc : Nat) (ga : Option Addr) (gn gc : Nat) (L : List M4) (G : List Int) (l3 h3 l4 h4 : Nat) (g' : Int) (nm' : ByteArray) (t' b' nx' : Int) (ma' : Option Addr) (mn' mc' : Nat) (ga' : Option Addr) (gn' gc' : Nat) (L' : List M4) (G' : List Int) (w : World) (hl : L.length = mn) (hn : mn ≤ 1048576) (hsm : Sm L) (hm : Ms l1 h1 w ma L) (hgl : G.length = gn) (hgn : gn ≤ 1048576) (hs : Is l2 h2 w ga G) (hl' : L'.length = mn') (hn' : mn' ≤ 1048576) (hsm' : Sm L') (hm' : Ms l3 h3 w ma' L') (hgl' : G'.length = gn') (hgn' : gn' ≤ 1048576) (hs' : Is l4 h4 w ga' G') (hsum : mn + mn' ≤ 1048576) :
  Calls Tryz.prog 44 #[.agg #[.int .i64 g, .string nm, .int .i64 t, .int .i64 b, .int .i64 nx, .slice ma mn mc, .slice ga gn gc], .agg #[.int .i64 g', .string nm', .int .i64 t', .int .i64 b', .int .i64 nx', .slice ma' mn' mc', .slice ga' gn' gc']] w fun e w' => ∃ v Z, e = .returned (.tuple #[v, .int .i64 (jms L L' G G' nx nx' (asl (L.map (·.1) ++ L'.map (·.1)))).2]) ∧ OwZ w' w.heap.size v Z ∧ Z.map md = (jms L L' G G' nx nx' (asl (L.map (·.1) ++ L'.map (·.1)))).1 ∧ Below w.heap.size w w' := by
 obtain ⟨gs, hgs⟩ : ∃ gs, asl (L.map (·.1) ++ L'.map (·.1)) = gs := ⟨_, rfl⟩
 rw [hgs]
 have HGS := hid hgs
 clear hgs
 obtain ⟨W0, hW0⟩ : ∃ W0, (w.alloc (.cells #[.int .i64 g, .string nm, .int .i64 t, .int .i64 b, .int .i64 nx, .slice ma mn mc, .slice ga gn gc] 29)).alloc (.cells #[.int .i64 g', .string nm', .int .i64 t', .int .i64 b', .int .i64 nx', .slice ma' mn' mc', .slice ga' gn' gc'] 29) = W0 := ⟨_, rfl⟩
 have a0 : Bx W0 w.heap.size 29 g nm t b nx (.slice ma mn mc) (.slice ga gn gc) := by subst hW0; exact (Bx.new w _ g nm t b nx _ _).later (bpush (bre _) _)
 have a1 : Bx W0 (w.heap.size + 1) 29 g' nm' t' b' nx' (.slice ma' mn' mc') (.slice ga' gn' gc') := by
  subst hW0
  have h := Bx.new (w.alloc (.cells #[.int .i64 g, .string nm, .int .i64 t, .int .i64 b, .int .i64 nx, .slice ma mn mc, .slice ga gn gc] 29)) 29 g' nm' t' b' nx' (.slice ma' mn' mc') (.slice ga' gn' gc')
  rwa [show (w.alloc (.cells #[.int .i64 g, .string nm, .int .i64 t, .int .i64 b, .int .i64 nx, .slice ma mn mc, .slice ga gn gc] 29)).heap.size = w.heap.size + 1 by simp] at h
 have b0 : Below w.heap.size w W0 := by subst hW0; exact bpush (bpush (bre _) _) _
 have c0 := a0.cells
 have c1 := a1.cells
 have A0 := hid a0
 have D0 := hid a1
 have B0 := hid b0
 have HM := hid (hm.later b0)
 have HM' := hid (hm'.later b0)
 have HS := hid (hs.later b0)
 have HS' := hid (hs'.later b0)
 have HL := hid hl
 have HL' := hid hl'
 have HGL := hid hgl
 have HGL' := hid hgl'
 have HSM := hid hsm
 have HSM' := hid hsm'
 have HSU := hid hsum
 clear a0 a1 b0 hm hm' hs hs' hl hl' hgl hgl' hsm hsm' hsum
 go_enter Tryz.func44, Tryz.ntmps44
 go_wp2_with fail
 clear hW0 c0 c1
 refine (specNext_any g nm t b nx (.slice ma mn mc) (.slice ga gn gc) g' nm' t' b' nx' (.slice ma' mn' mc') (.slice ga' gn' gc') W0).mono ?_; rintro e w1 ⟨rfl, hb1⟩
 obtain ⟨W1, hW1⟩ : ∃ W1, w1.alloc (.cells #[] 37) = W1 := ⟨_, rfl⟩
 have bW1 : Below w1.heap.size w1 W1 := by subst hW1; exact bpush (bre _) _
 have oW1 : OwZ W1 w.heap.size (.slice (some ⟨w1.heap.size, 0, none⟩) 0 0) [] := by subst hW1; exact ownZ_empty w1 _ (Nat.le_trans B0.out.size hb1.size)
 have B1 := hid (btr hb1 bW1)
 have OZ := hid oW1
 have HW1 := hid hW1
 obtain ⟨nx0, hnx0⟩ : ∃ nx0, mx8 nx nx' = nx0 := ⟨_, rfl⟩
 rw [hnx0]
 have HNX := hid hnx0
 have c0 := ((A0.out.later hb1).later bW1).cells
 have c1 := ((D0.out.later hb1).later bW1).cells
 rw [← hW1] at c0 c1
 clear hb1 bW1 oW1 hW1 hnx0
 go_wp2_with fail
 rw [HW1.out]
 clear c0 c1
 refine (specGids_any l1 h1 l3 h3 g nm t b nx ma mn mc (.slice ga gn gc) L g' nm' t' b' nx' ma' mn' mc' (.slice ga' gn' gc') L' W1 HL.out hn (HM.out.later B1.out) HL'.out hn' (HM'.out.later B1.out)).mono ?_; rintro e w2 ⟨gv, rfl, hgo, hb2⟩
 have HGN : Hid ((asl (L.map (·.1) ++ L'.map (·.1))).length ≤ mn + mn') := by
  have h := asl_len (L.map (·.1) ++ L'.map (·.1))
  rw [List.length_append, List.length_map, List.length_map, HL.out, HL'.out] at h
  exact h
 have HIN : Hid (∀ x ∈ asl (L.map (·.1) ++ L'.map (·.1)), ¬ (fnd x L = none ∧ fnd x L' = none)) := fun x hx hc => by
  have key : ∀ (l : List M4), x ∈ l.map (·.1) → fnd x l ≠ none := by
   intro l
   induction l with
   | nil => intro h; simp at h
   | cons y l ih =>
    intro h
    rw [fnd]
    by_cases e : y.1 = x
    ·rw [if_pos e]; simp
    ·rw [if_neg e]
     rw [List.map_cons, List.mem_cons] at h
     exact ih (h.resolve_left (fun h' => e h'.symm))
  rcases List.mem_append.1 ((asl_mem _ x).1 hx) with h | h
  ·exact key L h hc.1
  ·exact key L' h hc.2
 rw [HGS.out] at hgo HGN HIN
 obtain ⟨sa, sc, rfl, _⟩ := OwI.shape hgo
 have HGO := hid (OwI.is hgo).2
 have B2 := hid (btr B1.out hb2)
 have OZ2 := hid (OZ.out.later hb2)
 clear hgo hb2 OZ HW1
 have hgl : gs.length ≤ 2097152 := by have := HGN.out; omega
 go_wp2
 go_loopw [6, 7, 9] (fun nv ov iv wr => ∃ (i : Nat) (Z : List Z5) (q : Int), i ≤ gs.length ∧ iv = .int .i64 (i : Int) ∧ nv = .int .i64 q ∧ Hid (q = (jms L L' G G' nx nx' (gs.take i)).2) ∧ OwZ wr w.heap.size ov Z ∧ Hid (Z.map md = (jms L L' G G' nx nx' (gs.take i)).1) ∧ Hid (Z.length ≤ i) ∧ Below w2.heap.size w2 wr) (fun _ _ iv _ => gs.length - (intOf iv).toNat)
 case atStart => exact ⟨0, [], nx0, Nat.zero_le _, rfl, rfl, by rw [← HNX.out]; rfl, OZ2.out, rfl, Nat.le_refl _, bre _⟩
 case round =>
  obtain ⟨i, Z, q, hi, rfl, rfl, HQ, ho, HZ, HZL, hb⟩ := hrel
  have HO := hid ho
  have HB := hid hb
  have HBW := hid (btr B2.out hb)
  clear ho hb
  by_cases hlt : i < gs.length
  ·obtain ⟨k, o, rfl, hk, cg⟩ := (HGO.out.later HB.out).at hlt
   have hsn : jms L L' G G' nx nx' (gs.take (i + 1)) = jst L L' G G' nx nx' (jms L L' G G' nx nx' (gs.take i)) gs[i] := by rw [List.take_succ_eq_append_getElem hlt, jms_snoc]
   have hmem : gs[i] ∈ gs := List.getElem_mem hlt
   obtain ⟨x, hx⟩ : ∃ x, gs[i] = x := ⟨_, rfl⟩
   rw [hx] at cg hsn hmem
   have HSN := hid hsn
   have HIX := hid (HIN.out x hmem)
   have c0 := (A0.out.later HBW.out).cells
   have hI : (0 : Int) ≤ (i : Int) ∧ (i : Int) < (gs.length : Int) := by omega
   clear hx hsn hmem
   go_wp2_with fail
   refine (l06In_any l2 h2 ga gn gc G x wr HGL.out hgn (HS.out.later HBW.out)).mono ?_; rintro e w3 ⟨rfl, hw3⟩
   subst hw3
   obtain ⟨p1, hp1⟩ : ∃ p1, inl x G = p1 := ⟨_, rfl⟩
   rw [hp1]
   have HP1 := hid hp1
   clear hp1 c0 cg
   have c1 := (D0.out.later HBW.out).cells
   cases p1
   case true =>
    have HE : Hid (jms L L' G G' nx nx' (gs.take (i + 1)) = jms L L' G G' nx nx' (gs.take i)) := by show _ = _; rw [HSN.out, jst, if_pos (by rw [HP1.out]; rfl)]
    go_wp2
    go_roundw
    case rel => exact ⟨i + 1, Z, q, by omega, by go_num, rfl, by rw [HE.out]; exact HQ, HO.out, by rw [HE.out]; exact HZ, Nat.le_succ_of_le HZL.out, HB.out⟩
    case measure => simp [intOf]; omega
   case false =>
    go_wp2_with fail
    refine (l06In_any l4 h4 ga' gn' gc' G' x w3 HGL'.out hgn' (HS'.out.later HBW.out)).mono ?_; rintro e w4 ⟨rfl, hw4⟩
    subst hw4
    obtain ⟨p2, hp2⟩ : ∃ p2, inl x G' = p2 := ⟨_, rfl⟩
    rw [hp2]
    have HP2 := hid hp2
    clear hp2 c1
    cases p2
    case true =>
     have HE : Hid (jms L L' G G' nx nx' (gs.take (i + 1)) = jms L L' G G' nx nx' (gs.take i)) := by show _ = _; rw [HSN.out, jst, if_pos (by rw [HP1.out, HP2.out]; rfl)]
     go_wp2
     go_roundw
     case rel => exact ⟨i + 1, Z, q, by omega, by go_num, rfl, by rw [HE.out]; exact HQ, HO.out, by rw [HE.out]; exact HZ, Nat.le_succ_of_le HZL.out, HB.out⟩
     case measure => simp [intOf]; omega
    case false =>
     have c0 := (A0.out.later HBW.out).cells
     go_wp2_with fail
     clear c0
     refine (specMailAt_any l1 h1 g nm t b nx ma mn mc (.slice ga gn gc) L x _ HL.out hn (HM.out.later HBW.out)).mono ?_; rintro e w5 ⟨rfl, hb5⟩
     have BW5 := hid (btr HBW.out hb5)
     have B5 := hid hb5
     have c1 := (D0.out.later BW5.out).cells
     clear hb5
     go_wp2_with fail
     clear c1
     refine (specMailAt_any l3 h3 g' nm' t' b' nx' ma' mn' mc' (.slice ga' gn' gc') L' x _ HL'.out hn' (HM'.out.later BW5.out)).mono ?_; rintro e w6 ⟨rfl, hb6⟩
     have BW6 := hid (btr BW5.out hb6)
     have B6 := hid (btr HB.out (btr B5.out hb6))
     have O6 := hid (HO.out.later (btr B5.out hb6))
     have A6 := hid (A0.out.later BW6.out)
     have D6 := hid (D0.out.later BW6.out)
     have M6 := hid (HM.out.later BW6.out)
     have M6' := hid (HM'.out.later BW6.out)
     obtain ⟨W6, hW6⟩ : ∃ W6, w6.alloc (.cells #[.int .i64 0, .int .i64 0, .slice none 0 0, .string ⟨#[]⟩] 37) = W6 := ⟨_, rfl⟩
     have B7 : Hid (Below w6.heap.size w6 W6) := by subst hW6; exact bpush (bre _) _
     have MB : Hid (Mg W6 w6.heap.size 37 0 0 (.slice none 0 0) ⟨#[]⟩) := by subst hW6; exact Mg.new _ _ _ _ _ _
     have HW6 := hid hW6
     obtain ⟨va, vc, rfl⟩ := O6.out.shape
     have HNJ : Hid ((∀ j, Value.ownBlock (.slice va Z.length vc) = some j → j ≠ w6.heap.size) ∧ (∀ z ∈ Z, ∀ j, z.2.2.1.ownBlock = some j → j < w6.heap.size)) := ⟨fun j hj => by have := (O6.out.row.lt j hj).2; omega, fun z hz j hj => ((O6.out.each z hz).lt j hj).2⟩
     have HSZ : Hid (w2.heap.size ≤ w6.heap.size ∧ w.heap.size ≤ w2.heap.size ∧ W0.heap.size ≤ w6.heap.size) := ⟨B6.out.size, Nat.le_trans B0.out.size B2.out.size, BW6.out.size⟩
     have HZ5 : Hid (Z.length ≤ 1048575) := by have h1 := HZL.out; have h2 := HGN.out; have h3 := HSU.out; show _ ≤ _; omega
     clear hb6 hW6 BW5 B5 HBW HO
     rcases fnd_all x M6.out with ⟨hA1, hA2⟩ | ⟨jA, kA, oA, uA, flA, txA, faA, fcA, rfl, hjA, hA1, hA2, hkA, cA, rA, zA, mA⟩
     ·rcases fnd_all x M6'.out with ⟨hB1, hB2⟩ | ⟨jB, kB, oB, uB, flB, txB, faB, fcB, rfl, hjB, hB1, hB2, hkB, cB, rB, zB, mB⟩
      ·exact absurd ⟨hA1, hB1⟩ HIX.out
      ·rw [hA2, hB2]
       have HSC : Hid (∀ W, Below w6.heap.size w6 W → (W.cell? ⟨w.heap.size, 0, none⟩ = some (.int .i64 g) ∧ W.cell? ⟨w.heap.size, 1, none⟩ = some (.string nm) ∧ W.cell? ⟨w.heap.size, 2, none⟩ = some (.int .i64 t) ∧ W.cell? ⟨w.heap.size, 3, none⟩ = some (.int .i64 b) ∧ W.cell? ⟨w.heap.size, 4, none⟩ = some (.int .i64 nx) ∧ W.cell? ⟨w.heap.size, 5, none⟩ = some (.slice ma mn mc) ∧ W.cell? ⟨w.heap.size, 6, none⟩ = some (.slice ga gn gc)) ∧ (W.cell? ⟨w.heap.size + 1, 0, none⟩ = some (.int .i64 g') ∧ W.cell? ⟨w.heap.size + 1, 1, none⟩ = some (.string nm') ∧ W.cell? ⟨w.heap.size + 1, 2, none⟩ = some (.int .i64 t') ∧ W.cell? ⟨w.heap.size + 1, 3, none⟩ = some (.int .i64 b') ∧ W.cell? ⟨w.heap.size + 1, 4, none⟩ = some (.int .i64 nx') ∧ W.cell? ⟨w.heap.size + 1, 5, none⟩ = some (.slice (some ⟨kB, oB, none⟩) mn' mc') ∧ W.cell? ⟨w.heap.size + 1, 6, none⟩ = some (.slice ga' gn' gc')) ∧ (W.cell? ⟨kB, oB + jB * 4, none⟩ = some (.int .i64 x) ∧ W.cell? ⟨kB, oB + jB * 4 + 1, none⟩ = some (.int .i64 uB) ∧ W.cell? ⟨kB, oB + jB * 4 + 2, none⟩ = some (.slice faB flB.length fcB) ∧ W.cell? ⟨kB, oB + jB * 4 + 3, none⟩ = some (.string txB))) := fun W h => ⟨(A6.out.later h).cells, (D6.out.later h).cells, C4.later cB hkB h⟩
       have HA1 := hid hA1
       have hIB : (0 : Int) ≤ (jB : Int) ∧ (jB : Int) < (mn' : Int) := by have := HL'.out; omega
       have hzB : ((0 : Int) ≤ (jB : Int)) = True := by simp
       have RB := hid rB
       have ZB := hid zB
       have GB := hid (HSM'.out _ mB)
       have HB1 := hid hB1
       have m6 := (MB.out).cells
       have n6 := (MB.out).loose
       rw [← HW6.out] at m6 n6
       have cS := HSC.out W6 B7.out
       rw [← HW6.out] at cS
       clear hA1 hA2 hB1 hB2 rB zB mB hkB cB hjB
       obtain ⟨um, hum⟩ : ∃ um, uB = um := ⟨_, rfl⟩
       obtain ⟨fl, hfl⟩ : ∃ fl, flB = fl := ⟨_, rfl⟩
       obtain ⟨tm, htm⟩ : ∃ tm, txB = tm := ⟨_, rfl⟩
       subst hum hfl htm
       have GM : Hid (gm L L' x = (x, uB, flB, txB)) := by show _ = _; rw [gm, HA1.out, HB1.out]
       go_wp2_with fail
       clear cS m6 n6
       rw [HW6.out]
       refine (l05Copy_any x uB faB flB.length fcB flB txB _ rfl GB.out.1 GB.out.2 (RB.out.later B7.out) ZB.out).mono ?_; rintro e w7 ⟨v, rfl, how, hb7⟩
       have M7L : Hid (w6.heap.size < W6.heap.size) := MB.out.lt
       replace how := own_base (B := W6.heap.size) how (Nat.le_refl _)
       obtain ⟨fa, fc, rfl, _⟩ := Ow.shape how
       have B7c : Hid (Below w6.heap.size w6 w7) := btr B7.out hb7
       have M7 := hid (MB.out.later (hb7))
       have m7 := M7.out.cells
       have n7 := M7.out.loose
       have FN : Hid (Value.ownBlock (.slice fa flB.length fc) ≠ some w6.heap.size) := fun e => by have := (how.lt _ e).1; have h9 := M7L.out; omega
       have FL8 : Hid (∀ j, Value.ownBlock (.slice fa flB.length fc) = some j → w6.heap.size < j) := fun j e => by have := (how.lt _ e).1; have h9 := M7L.out; omega
       have how' := own_base how (show w.heap.size ≤ _ by have h9 := M7L.out; have := HSZ.out; omega)
       have F8 := hid (Ow.set_far (Ow.set_far (Ow.set_far (Ow.set_far how' FN.out 0 (.int .i64 x)) FN.out 1 (.int .i64 uB)) FN.out 2 (.slice fa flB.length fc)) FN.out 3 (.string txB))
       have O8 := hid (OwZ.set_far (OwZ.set_far (OwZ.set_far (OwZ.set_far (O6.out.later B7c.out) HNJ.out.1 (fun z hz j hj => Nat.ne_of_lt (HNJ.out.2 z hz j hj)) 0 (.int .i64 x)) HNJ.out.1 (fun z hz j hj => Nat.ne_of_lt (HNJ.out.2 z hz j hj)) 1 (.int .i64 uB)) HNJ.out.1 (fun z hz j hj => Nat.ne_of_lt (HNJ.out.2 z hz j hj)) 2 (.slice fa flB.length fc)) HNJ.out.1 (fun z hz j hj => Nat.ne_of_lt (HNJ.out.2 z hz j hj)) 3 (.string txB))
       have M8 := hid (set4 M7.out x uB (.slice fa flB.length fc) txB)
       have B8 := hid (bel4 (btr B6.out B7c.out) HSZ.out.1 x uB (.slice fa flB.length fc) txB)
       have BK8 := hid (bel4 B7c.out (Nat.le_refl _) x uB (.slice fa flB.length fc) txB)
       have FD : Hid (∀ y ∈ Z, Dj y.2.2.1 (.slice fa flB.length fc)) := fun y hy j h1 h2 => by have e1 := HNJ.out.2 y hy j h1; have e2 := FL8.out j h2; omega
       have c0 := (A6.out.later BK8.out).cells
       have c1 := (D6.out.later BK8.out).cells
       go_wp2_with fail
       obtain ⟨W8, hW8⟩ : ∃ W8, ((((w7.setCell ⟨w6.heap.size, 0, none⟩ (.int .i64 x)).setCell ⟨w6.heap.size, 1, none⟩ (.int .i64 uB)).setCell ⟨w6.heap.size, 2, none⟩ (.slice fa flB.length fc)).setCell ⟨w6.heap.size, 3, none⟩ (.string txB)) = W8 := ⟨_, rfl⟩
       rw [hW8] at F8 O8 M8 B8 BK8 c0 c1 ⊢
       have M9 := M8
       have F9 := F8
       have O9 := O8
       have B9 := B8
       have BK := BK8
       have MM := M6
       have MM' := M6'
       have AA := A6
       have DD := D6
       clear M8 F8 O8 B8 BK8 hW8 M6 M6' A6 D6 O6 B6 BW6 MB B7 HW6 M7 B7c m7 n7 FL8 HSC
       clear c0 c1
       refine (specKeeps_any l3 h3 l1 h1 g' nm' t' b' nx' _ mn' mc' (.slice ga' gn' gc') L' g nm t b nx _ mn mc (.slice ga gn gc) L x _ HL'.out hn' (MM'.out.later BK.out) HL.out hn (MM.out.later BK.out)).mono ?_; rintro e W9 ⟨rfl, hb9⟩
       have BK9 := hid (btr BK.out hb9)
       have M9 := hid (M9.out.later hb9)
       have F9 := hid (own_later F9.out hb9)
       have O9 := hid (O9.out.later hb9)
       have B9 := hid (btr B9.out hb9)
       clear hb9 BK
       have BK := BK9
       clear BK9
       obtain ⟨kb, hkb⟩ : ∃ kb, kpu L' L nx x = kb := ⟨_, rfl⟩
       rw [hkb]
       have Hkb := hid hkb
       clear hkb
       cases kb
       case false =>
        have m9 := M9.out.cells
        have n9 := M9.out.loose
        have M10 := hid (M9.out.s1 q)
        have F10 := hid (Ow.set_far F9.out FN.out 1 (.int .i64 q))
        have O10 := hid (OwZ.set_far O9.out HNJ.out.1 (fun z hz j hj => Nat.ne_of_lt (HNJ.out.2 z hz j hj)) 1 (.int .i64 q))
        have B10 := hid (bsk B9.out HSZ.out.1 1 (.int .i64 q))
        clear M9 F9 O9 B9
        go_wp2_with fail
        obtain ⟨W10, hW10⟩ : ∃ W10, W9.setCell ⟨w6.heap.size, 1, none⟩ (.int .i64 q) = W10 := ⟨_, rfl⟩
        rw [hW10] at M10 F10 O10 B10 ⊢
        clear hW10 m9 n9
        refine (l08Put_any w.heap.size va Z.length vc Z x q fa flB.length fc flB txB _ (Nat.le_trans HSZ.out.2.1 B10.out.size) O10.out HZ5.out F10.out FD.out).mono ?_; rintro e w11 ⟨v, rfl, hown, -, hb11⟩
        have HE : Hid (jms L L' G G' nx nx' (gs.take (i + 1)) = (ptm (x, q, flB, txB) (jms L L' G G' nx nx' (gs.take i)).1, w64 (q + 1))) := by
         show _ = _
         rw [HSN.out, jst, if_neg (by rw [HP1.out, HP2.out]; simp), if_neg (by rw [kep, hol, hol, HA1.out, HB1.out, Hkb.out]; simp), GM.out, ← HQ.out]
         first | done | rfl
        have O11 := hid hown
        have B11 := hid (btr B10.out hb11)
        have HZ11 : Hid ((ptu (x, q, .slice fa flB.length fc, flB, txB) Z).map md = (jms L L' G G' nx nx' (gs.take (i + 1))).1) := by show _ = _; rw [HE.out, ptu_md, HZ.out]; rfl
        have HL11 : Hid ((ptu (x, q, .slice fa flB.length fc, flB, txB) Z).length ≤ i + 1) := Nat.le_trans (ptu_len _ _) (Nat.succ_le_succ HZL.out)
        have HQ11 : Hid (w64 (q + 1) = (jms L L' G G' nx nx' (gs.take (i + 1))).2) := by show _ = _; rw [HE.out]
        clear hown hb11
        go_wp2
        go_roundw
        case rel => exact ⟨i + 1, _, _, by omega, by go_num, rfl, HQ11, O11.out, HZ11, HL11, B11.out⟩
        case measure => simp [intOf]; omega
       case true =>
        have m9 := M9.out.cells
        go_wp2_with fail
        have F10 := F9
        have O10 := O9
        have B10 := B9
        clear m9 F9 O9 B9
        refine (l08Put_any w.heap.size va Z.length vc Z x uB fa flB.length fc flB txB _ (Nat.le_trans HSZ.out.2.1 B10.out.size) O10.out HZ5.out F10.out FD.out).mono ?_; rintro e w11 ⟨v, rfl, hown, -, hb11⟩
        have HE : Hid (jms L L' G G' nx nx' (gs.take (i + 1)) = (ptm (x, uB, flB, txB) (jms L L' G G' nx nx' (gs.take i)).1, q)) := by
         show _ = _
         rw [HSN.out, jst, if_neg (by rw [HP1.out, HP2.out]; simp), if_pos (by rw [kep, hol, hol, HA1.out, HB1.out, Hkb.out]; rfl), GM.out, ← HQ.out]
         first | done | rfl
        have O11 := hid hown
        have B11 := hid (btr B10.out hb11)
        have HZ11 : Hid ((ptu (x, uB, .slice fa flB.length fc, flB, txB) Z).map md = (jms L L' G G' nx nx' (gs.take (i + 1))).1) := by show _ = _; rw [HE.out, ptu_md, HZ.out]; rfl
        have HL11 : Hid ((ptu (x, uB, .slice fa flB.length fc, flB, txB) Z).length ≤ i + 1) := Nat.le_trans (ptu_len _ _) (Nat.succ_le_succ HZL.out)
        have HQ11 : Hid (q = (jms L L' G G' nx nx' (gs.take (i + 1))).2) := by show _ = _; rw [HE.out]
        clear hown hb11
        go_wp2
        go_roundw
        case rel => exact ⟨i + 1, _, _, by omega, by go_num, rfl, HQ11, O11.out, HZ11, HL11, B11.out⟩
        case measure => simp [intOf]; omega
     ·rcases fnd_all x M6'.out with ⟨hB1, hB2⟩ | ⟨jB, kB, oB, uB, flB, txB, faB, fcB, rfl, hjB, hB1, hB2, hkB, cB, rB, zB, mB⟩
      ·rw [hA2, hB2]
       have HSC : Hid (∀ W, Below w6.heap.size w6 W → (W.cell? ⟨w.heap.size, 0, none⟩ = some (.int .i64 g) ∧ W.cell? ⟨w.heap.size, 1, none⟩ = some (.string nm) ∧ W.cell? ⟨w.heap.size, 2, none⟩ = some (.int .i64 t) ∧ W.cell? ⟨w.heap.size, 3, none⟩ = some (.int .i64 b) ∧ W.cell? ⟨w.heap.size, 4, none⟩ = some (.int .i64 nx) ∧ W.cell? ⟨w.heap.size, 5, none⟩ = some (.slice (some ⟨kA, oA, none⟩) mn mc) ∧ W.cell? ⟨w.heap.size, 6, none⟩ = some (.slice ga gn gc)) ∧ (W.cell? ⟨w.heap.size + 1, 0, none⟩ = some (.int .i64 g') ∧ W.cell? ⟨w.heap.size + 1, 1, none⟩ = some (.string nm') ∧ W.cell? ⟨w.heap.size + 1, 2, none⟩ = some (.int .i64 t') ∧ W.cell? ⟨w.heap.size + 1, 3, none⟩ = some (.int .i64 b') ∧ W.cell? ⟨w.heap.size + 1, 4, none⟩ = some (.int .i64 nx') ∧ W.cell? ⟨w.heap.size + 1, 5, none⟩ = some (.slice ma' mn' mc') ∧ W.cell? ⟨w.heap.size + 1, 6, none⟩ = some (.slice ga' gn' gc')) ∧ (W.cell? ⟨kA, oA + jA * 4, none⟩ = some (.int .i64 x) ∧ W.cell? ⟨kA, oA + jA * 4 + 1, none⟩ = some (.int .i64 uA) ∧ W.cell? ⟨kA, oA + jA * 4 + 2, none⟩ = some (.slice faA flA.length fcA) ∧ W.cell? ⟨kA, oA + jA * 4 + 3, none⟩ = some (.string txA))) := fun W h => ⟨(A6.out.later h).cells, (D6.out.later h).cells, C4.later cA hkA h⟩
       have hIA : (0 : Int) ≤ (jA : Int) ∧ (jA : Int) < (mn : Int) := by have := HL.out; omega
       have hzA : ((0 : Int) ≤ (jA : Int)) = True := by simp
       have RA := hid rA
       have ZA := hid zA
       have GA := hid (HSM.out _ mA)
       have HA1 := hid hA1
       have HB1 := hid hB1
       have m6 := (MB.out).cells
       have n6 := (MB.out).loose
       rw [← HW6.out] at m6 n6
       have cS := HSC.out W6 B7.out
       rw [← HW6.out] at cS
       clear hA1 hA2 hB1 hB2 rA zA mA hkA cA hjA
       obtain ⟨um, hum⟩ : ∃ um, uA = um := ⟨_, rfl⟩
       obtain ⟨fl, hfl⟩ : ∃ fl, flA = fl := ⟨_, rfl⟩
       obtain ⟨tm, htm⟩ : ∃ tm, txA = tm := ⟨_, rfl⟩
       subst hum hfl htm
       have GM : Hid (gm L L' x = (x, uA, flA, txA)) := by show _ = _; rw [gm, HA1.out, HB1.out]
       go_wp2_with fail
       clear cS m6 n6
       rw [HW6.out]
       refine (l05Copy_any x uA faA flA.length fcA flA txA _ rfl GA.out.1 GA.out.2 (RA.out.later B7.out) ZA.out).mono ?_; rintro e w7 ⟨v, rfl, how, hb7⟩
       have M7L : Hid (w6.heap.size < W6.heap.size) := MB.out.lt
       replace how := own_base (B := W6.heap.size) how (Nat.le_refl _)
       obtain ⟨fa, fc, rfl, _⟩ := Ow.shape how
       have B7c : Hid (Below w6.heap.size w6 w7) := btr B7.out hb7
       have M7 := hid (MB.out.later (hb7))
       have m7 := M7.out.cells
       have n7 := M7.out.loose
       have FN : Hid (Value.ownBlock (.slice fa flA.length fc) ≠ some w6.heap.size) := fun e => by have := (how.lt _ e).1; have h9 := M7L.out; omega
       have FL8 : Hid (∀ j, Value.ownBlock (.slice fa flA.length fc) = some j → w6.heap.size < j) := fun j e => by have := (how.lt _ e).1; have h9 := M7L.out; omega
       have how' := own_base how (show w.heap.size ≤ _ by have h9 := M7L.out; have := HSZ.out; omega)
       have F8 := hid (Ow.set_far (Ow.set_far (Ow.set_far (Ow.set_far how' FN.out 0 (.int .i64 x)) FN.out 1 (.int .i64 uA)) FN.out 2 (.slice fa flA.length fc)) FN.out 3 (.string txA))
       have O8 := hid (OwZ.set_far (OwZ.set_far (OwZ.set_far (OwZ.set_far (O6.out.later B7c.out) HNJ.out.1 (fun z hz j hj => Nat.ne_of_lt (HNJ.out.2 z hz j hj)) 0 (.int .i64 x)) HNJ.out.1 (fun z hz j hj => Nat.ne_of_lt (HNJ.out.2 z hz j hj)) 1 (.int .i64 uA)) HNJ.out.1 (fun z hz j hj => Nat.ne_of_lt (HNJ.out.2 z hz j hj)) 2 (.slice fa flA.length fc)) HNJ.out.1 (fun z hz j hj => Nat.ne_of_lt (HNJ.out.2 z hz j hj)) 3 (.string txA))
       have M8 := hid (set4 M7.out x uA (.slice fa flA.length fc) txA)
       have B8 := hid (bel4 (btr B6.out B7c.out) HSZ.out.1 x uA (.slice fa flA.length fc) txA)
       have BK8 := hid (bel4 B7c.out (Nat.le_refl _) x uA (.slice fa flA.length fc) txA)
       have FD : Hid (∀ y ∈ Z, Dj y.2.2.1 (.slice fa flA.length fc)) := fun y hy j h1 h2 => by have e1 := HNJ.out.2 y hy j h1; have e2 := FL8.out j h2; omega
       have c0 := (A6.out.later BK8.out).cells
       have c1 := (D6.out.later BK8.out).cells
       go_wp2_with fail
       obtain ⟨W8, hW8⟩ : ∃ W8, ((((w7.setCell ⟨w6.heap.size, 0, none⟩ (.int .i64 x)).setCell ⟨w6.heap.size, 1, none⟩ (.int .i64 uA)).setCell ⟨w6.heap.size, 2, none⟩ (.slice fa flA.length fc)).setCell ⟨w6.heap.size, 3, none⟩ (.string txA)) = W8 := ⟨_, rfl⟩
       rw [hW8] at F8 O8 M8 B8 BK8 c0 c1 ⊢
       have M9 := M8
       have F9 := F8
       have O9 := O8
       have B9 := B8
       have BK := BK8
       have MM := M6
       have MM' := M6'
       have AA := A6
       have DD := D6
       clear M8 F8 O8 B8 BK8 hW8 M6 M6' A6 D6 O6 B6 BW6 MB B7 HW6 M7 B7c m7 n7 FL8 HSC
       clear c0 c1
       refine (specKeeps_any l1 h1 l3 h3 g nm t b nx _ mn mc (.slice ga gn gc) L g' nm' t' b' nx' _ mn' mc' (.slice ga' gn' gc') L' x _ HL.out hn (MM.out.later BK.out) HL'.out hn' (MM'.out.later BK.out)).mono ?_; rintro e W9 ⟨rfl, hb9⟩
       have BK9 := hid (btr BK.out hb9)
       have M9 := hid (M9.out.later hb9)
       have F9 := hid (own_later F9.out hb9)
       have O9 := hid (O9.out.later hb9)
       have B9 := hid (btr B9.out hb9)
       clear hb9 BK
       have BK := BK9
       clear BK9
       obtain ⟨ka, hka⟩ : ∃ ka, kpu L L' nx' x = ka := ⟨_, rfl⟩
       rw [hka]
       have Hka := hid hka
       clear hka
       cases ka
       case false =>
        have m9 := M9.out.cells
        have n9 := M9.out.loose
        have M10 := hid (M9.out.s1 q)
        have F10 := hid (Ow.set_far F9.out FN.out 1 (.int .i64 q))
        have O10 := hid (OwZ.set_far O9.out HNJ.out.1 (fun z hz j hj => Nat.ne_of_lt (HNJ.out.2 z hz j hj)) 1 (.int .i64 q))
        have B10 := hid (bsk B9.out HSZ.out.1 1 (.int .i64 q))
        clear M9 F9 O9 B9
        go_wp2_with fail
        obtain ⟨W10, hW10⟩ : ∃ W10, W9.setCell ⟨w6.heap.size, 1, none⟩ (.int .i64 q) = W10 := ⟨_, rfl⟩
        rw [hW10] at M10 F10 O10 B10 ⊢
        clear hW10 m9 n9
        refine (l08Put_any w.heap.size va Z.length vc Z x q fa flA.length fc flA txA _ (Nat.le_trans HSZ.out.2.1 B10.out.size) O10.out HZ5.out F10.out FD.out).mono ?_; rintro e w11 ⟨v, rfl, hown, -, hb11⟩
        have HE : Hid (jms L L' G G' nx nx' (gs.take (i + 1)) = (ptm (x, q, flA, txA) (jms L L' G G' nx nx' (gs.take i)).1, w64 (q + 1))) := by
         show _ = _
         rw [HSN.out, jst, if_neg (by rw [HP1.out, HP2.out]; simp), if_neg (by rw [kep, hol, hol, HA1.out, HB1.out, Hka.out]; simp), GM.out, ← HQ.out]
         first | done | rfl
        have O11 := hid hown
        have B11 := hid (btr B10.out hb11)
        have HZ11 : Hid ((ptu (x, q, .slice fa flA.length fc, flA, txA) Z).map md = (jms L L' G G' nx nx' (gs.take (i + 1))).1) := by show _ = _; rw [HE.out, ptu_md, HZ.out]; rfl
        have HL11 : Hid ((ptu (x, q, .slice fa flA.length fc, flA, txA) Z).length ≤ i + 1) := Nat.le_trans (ptu_len _ _) (Nat.succ_le_succ HZL.out)
        have HQ11 : Hid (w64 (q + 1) = (jms L L' G G' nx nx' (gs.take (i + 1))).2) := by show _ = _; rw [HE.out]
        clear hown hb11
        go_wp2
        go_roundw
        case rel => exact ⟨i + 1, _, _, by omega, by go_num, rfl, HQ11, O11.out, HZ11, HL11, B11.out⟩
        case measure => simp [intOf]; omega
       case true =>
        have m9 := M9.out.cells
        go_wp2_with fail
        have F10 := F9
        have O10 := O9
        have B10 := B9
        clear m9 F9 O9 B9
        refine (l08Put_any w.heap.size va Z.length vc Z x uA fa flA.length fc flA txA _ (Nat.le_trans HSZ.out.2.1 B10.out.size) O10.out HZ5.out F10.out FD.out).mono ?_; rintro e w11 ⟨v, rfl, hown, -, hb11⟩
        have HE : Hid (jms L L' G G' nx nx' (gs.take (i + 1)) = (ptm (x, uA, flA, txA) (jms L L' G G' nx nx' (gs.take i)).1, q)) := by
         show _ = _
         rw [HSN.out, jst, if_neg (by rw [HP1.out, HP2.out]; simp), if_pos (by rw [kep, hol, hol, HA1.out, HB1.out, Hka.out]; rfl), GM.out, ← HQ.out]
         first | done | rfl
        have O11 := hid hown
        have B11 := hid (btr B10.out hb11)
        have HZ11 : Hid ((ptu (x, uA, .slice fa flA.length fc, flA, txA) Z).map md = (jms L L' G G' nx nx' (gs.take (i + 1))).1) := by show _ = _; rw [HE.out, ptu_md, HZ.out]; rfl
        have HL11 : Hid ((ptu (x, uA, .slice fa flA.length fc, flA, txA) Z).length ≤ i + 1) := Nat.le_trans (ptu_len _ _) (Nat.succ_le_succ HZL.out)
        have HQ11 : Hid (q = (jms L L' G G' nx nx' (gs.take (i + 1))).2) := by show _ = _; rw [HE.out]
        clear hown hb11
        go_wp2
        go_roundw
        case rel => exact ⟨i + 1, _, _, by omega, by go_num, rfl, HQ11, O11.out, HZ11, HL11, B11.out⟩
        case measure => simp [intOf]; omega
      ·rw [hA2, hB2]
       have HSC : Hid (∀ W, Below w6.heap.size w6 W → (W.cell? ⟨w.heap.size, 0, none⟩ = some (.int .i64 g) ∧ W.cell? ⟨w.heap.size, 1, none⟩ = some (.string nm) ∧ W.cell? ⟨w.heap.size, 2, none⟩ = some (.int .i64 t) ∧ W.cell? ⟨w.heap.size, 3, none⟩ = some (.int .i64 b) ∧ W.cell? ⟨w.heap.size, 4, none⟩ = some (.int .i64 nx) ∧ W.cell? ⟨w.heap.size, 5, none⟩ = some (.slice (some ⟨kA, oA, none⟩) mn mc) ∧ W.cell? ⟨w.heap.size, 6, none⟩ = some (.slice ga gn gc)) ∧ (W.cell? ⟨w.heap.size + 1, 0, none⟩ = some (.int .i64 g') ∧ W.cell? ⟨w.heap.size + 1, 1, none⟩ = some (.string nm') ∧ W.cell? ⟨w.heap.size + 1, 2, none⟩ = some (.int .i64 t') ∧ W.cell? ⟨w.heap.size + 1, 3, none⟩ = some (.int .i64 b') ∧ W.cell? ⟨w.heap.size + 1, 4, none⟩ = some (.int .i64 nx') ∧ W.cell? ⟨w.heap.size + 1, 5, none⟩ = some (.slice (some ⟨kB, oB, none⟩) mn' mc') ∧ W.cell? ⟨w.heap.size + 1, 6, none⟩ = some (.slice ga' gn' gc')) ∧ (W.cell? ⟨kA, oA + jA * 4, none⟩ = some (.int .i64 x) ∧ W.cell? ⟨kA, oA + jA * 4 + 1, none⟩ = some (.int .i64 uA) ∧ W.cell? ⟨kA, oA + jA * 4 + 2, none⟩ = some (.slice faA flA.length fcA) ∧ W.cell? ⟨kA, oA + jA * 4 + 3, none⟩ = some (.string txA)) ∧ (W.cell? ⟨kB, oB + jB * 4, none⟩ = some (.int .i64 x) ∧ W.cell? ⟨kB, oB + jB * 4 + 1, none⟩ = some (.int .i64 uB) ∧ W.cell? ⟨kB, oB + jB * 4 + 2, none⟩ = some (.slice faB flB.length fcB) ∧ W.cell? ⟨kB, oB + jB * 4 + 3, none⟩ = some (.string txB))) := fun W h => ⟨(A6.out.later h).cells, (D6.out.later h).cells, C4.later cA hkA h, C4.later cB hkB h⟩
       have hIA : (0 : Int) ≤ (jA : Int) ∧ (jA : Int) < (mn : Int) := by have := HL.out; omega
       have hzA : ((0 : Int) ≤ (jA : Int)) = True := by simp
       have RA := hid rA
       have ZA := hid zA
       have GA := hid (HSM.out _ mA)
       have HA1 := hid hA1
       have hIB : (0 : Int) ≤ (jB : Int) ∧ (jB : Int) < (mn' : Int) := by have := HL'.out; omega
       have hzB : ((0 : Int) ≤ (jB : Int)) = True := by simp
       have RB := hid rB
       have ZB := hid zB
       have GB := hid (HSM'.out _ mB)
       have HB1 := hid hB1
       have m6 := (MB.out).cells
       have n6 := (MB.out).loose
       rw [← HW6.out] at m6 n6
       have cS := HSC.out W6 B7.out
       rw [← HW6.out] at cS
       clear hA1 hA2 hB1 hB2 rA zA mA hkA cA hjA rB zB mB hkB cB hjB
       obtain ⟨um, hum⟩ : ∃ um, jmu x uA x uB = um := ⟨_, rfl⟩
       obtain ⟨fl, hfl⟩ : ∃ fl, jml x flA x flB = fl := ⟨_, rfl⟩
       obtain ⟨tm, htm⟩ : ∃ tm, jmt x txA x txB = tm := ⟨_, rfl⟩
       have GM : Hid (gm L L' x = (x, um, fl, tm)) := by show _ = _; rw [gm, HA1.out, HB1.out]; dsimp only; rw [hum, hfl, htm]
       have HJ : Hid (jmu x uA x uB = um ∧ jml x flA x flB = fl ∧ jmt x txA x txB = tm) := ⟨hum, hfl, htm⟩
       clear hum hfl htm
       go_wp2_with fail
       clear cS m6 n6
       rw [HW6.out]
       go_region_held3 (fun W => (W.cell? ⟨w.heap.size, 0, none⟩ = some (.int .i64 g) ∧ W.cell? ⟨w.heap.size, 1, none⟩ = some (.string nm) ∧ W.cell? ⟨w.heap.size, 2, none⟩ = some (.int .i64 t) ∧ W.cell? ⟨w.heap.size, 3, none⟩ = some (.int .i64 b) ∧ W.cell? ⟨w.heap.size, 4, none⟩ = some (.int .i64 nx) ∧ W.cell? ⟨w.heap.size, 5, none⟩ = some (.slice (some ⟨kA, oA, none⟩) mn mc) ∧ W.cell? ⟨w.heap.size, 6, none⟩ = some (.slice ga gn gc)) ∧ (W.cell? ⟨w.heap.size + 1, 0, none⟩ = some (.int .i64 g') ∧ W.cell? ⟨w.heap.size + 1, 1, none⟩ = some (.string nm') ∧ W.cell? ⟨w.heap.size + 1, 2, none⟩ = some (.int .i64 t') ∧ W.cell? ⟨w.heap.size + 1, 3, none⟩ = some (.int .i64 b') ∧ W.cell? ⟨w.heap.size + 1, 4, none⟩ = some (.int .i64 nx') ∧ W.cell? ⟨w.heap.size + 1, 5, none⟩ = some (.slice (some ⟨kB, oB, none⟩) mn' mc') ∧ W.cell? ⟨w.heap.size + 1, 6, none⟩ = some (.slice ga' gn' gc')) ∧ (W.cell? ⟨kA, oA + jA * 4, none⟩ = some (.int .i64 x) ∧ W.cell? ⟨kA, oA + jA * 4 + 1, none⟩ = some (.int .i64 uA) ∧ W.cell? ⟨kA, oA + jA * 4 + 2, none⟩ = some (.slice faA flA.length fcA) ∧ W.cell? ⟨kA, oA + jA * 4 + 3, none⟩ = some (.string txA)) ∧ (W.cell? ⟨kB, oB + jB * 4, none⟩ = some (.int .i64 x) ∧ W.cell? ⟨kB, oB + jB * 4 + 1, none⟩ = some (.int .i64 uB) ∧ W.cell? ⟨kB, oB + jB * 4 + 2, none⟩ = some (.slice faB flB.length fcB) ∧ W.cell? ⟨kB, oB + jB * 4 + 3, none⟩ = some (.string txB)))
        ((first | exact HSC.out _ (btr B7.out (bdr (bre _))) | exact HS8.out | exact HSC.out _ B7c.out))
        ((go_at_call 96; (with_reducible refine (specJoinMail_any x uA faA flA.length fcA flA txA x uB faB flB.length fcB flB txB _ rfl rfl GA.out.1 GB.out.1 GA.out.2 GB.out.2 (RA.out.later (btr B7.out (bdr (bre _)))) (RB.out.later (btr B7.out (bdr (bre _)))) ZA.out).mono ?_);
          rintro e w7 ⟨v, rfl, how, hb7⟩;
          rw [HJ.out.1, HJ.out.2.2];
          rw [HJ.out.2.1] at how;
          replace how := own_base (B := W6.heap.size) how (Nat.le_refl _);
          have M7L : Hid (w6.heap.size < W6.heap.size) := MB.out.lt;
          obtain ⟨fa, fc, rfl, _⟩ := Ow.shape how;
          have B7c : Hid (Below w6.heap.size w6 w7) := btr (btr B7.out (bdr (bre _))) hb7;
          have M7 := hid (MB.out.later (btr (bdr (bre _)) hb7));
          have m7 := M7.out.cells;
          have n7 := M7.out.loose;
          have FN : Hid (Value.ownBlock (.slice fa fl.length fc) ≠ some w6.heap.size) := fun e => by have := (how.lt _ e).1; have h9 := M7L.out; omega;
          have FL8 : Hid (∀ j, Value.ownBlock (.slice fa fl.length fc) = some j → w6.heap.size < j) := fun j e => by have := (how.lt _ e).1; have h9 := M7L.out; omega;
          have how' := own_base how (show w.heap.size ≤ _ by have h9 := M7L.out; have := HSZ.out; omega);
          have F8 := hid (Ow.set_far (Ow.set_far (Ow.set_far (Ow.set_far how' FN.out 0 (.int .i64 x)) FN.out 1 (.int .i64 um)) FN.out 2 (.slice fa fl.length fc)) FN.out 3 (.string tm));
          have O8 := hid (OwZ.set_far (OwZ.set_far (OwZ.set_far (OwZ.set_far (O6.out.later B7c.out) HNJ.out.1 (fun z hz j hj => Nat.ne_of_lt (HNJ.out.2 z hz j hj)) 0 (.int .i64 x)) HNJ.out.1 (fun z hz j hj => Nat.ne_of_lt (HNJ.out.2 z hz j hj)) 1 (.int .i64 um)) HNJ.out.1 (fun z hz j hj => Nat.ne_of_lt (HNJ.out.2 z hz j hj)) 2 (.slice fa fl.length fc)) HNJ.out.1 (fun z hz j hj => Nat.ne_of_lt (HNJ.out.2 z hz j hj)) 3 (.string tm));
          have M8 := hid (set4 M7.out x um (.slice fa fl.length fc) tm);
          have B8 := hid (bel4 (btr B6.out B7c.out) HSZ.out.1 x um (.slice fa fl.length fc) tm);
          have BK8 := hid (bel4 B7c.out (Nat.le_refl _) x um (.slice fa fl.length fc) tm);
          have FD : Hid (∀ y ∈ Z, Dj y.2.2.1 (.slice fa fl.length fc)) := fun y hy j h1 h2 => by have e1 := HNJ.out.2 y hy j h1; have e2 := FL8.out j h2; omega;
          have HS8 := hid (HSC.out _ BK8.out)))
       obtain ⟨W8, hW8⟩ : ∃ W8, ((((w7.setCell ⟨w6.heap.size, 0, none⟩ (.int .i64 x)).setCell ⟨w6.heap.size, 1, none⟩ (.int .i64 um)).setCell ⟨w6.heap.size, 2, none⟩ (.slice fa fl.length fc)).setCell ⟨w6.heap.size, 3, none⟩ (.string tm)) = W8 := ⟨_, rfl⟩
       rw [hW8] at F8 O8 M8 B8 BK8 ⊢
       have M9 := M8
       have F9 := F8
       have O9 := O8
       have B9 := B8
       have BK := BK8
       have MM := M6
       have MM' := M6'
       have AA := A6
       have DD := D6
       clear M8 F8 O8 B8 BK8 hW8 M6 M6' A6 D6 O6 B6 BW6 MB B7 HW6 M7 B7c m7 n7 FL8 HSC
       have c0 := (AA.out.later BK.out).cells
       have c1 := (DD.out.later BK.out).cells
       go_wp2_with fail
       clear c0 c1
       refine (specKeeps_any l1 h1 l3 h3 g nm t b nx _ mn mc (.slice ga gn gc) L g' nm' t' b' nx' _ mn' mc' (.slice ga' gn' gc') L' x _ HL.out hn (MM.out.later BK.out) HL'.out hn' (MM'.out.later BK.out)).mono ?_; rintro e W9 ⟨rfl, hb9⟩
       have BK9 := hid (btr BK.out hb9)
       have M9 := hid (M9.out.later hb9)
       have F9 := hid (own_later F9.out hb9)
       have O9 := hid (O9.out.later hb9)
       have B9 := hid (btr B9.out hb9)
       clear hb9 BK
       have BK := BK9
       clear BK9
       obtain ⟨ka, hka⟩ : ∃ ka, kpu L L' nx' x = ka := ⟨_, rfl⟩
       rw [hka]
       have Hka := hid hka
       clear hka
       cases ka
       case false =>
        have m9 := M9.out.cells
        have n9 := M9.out.loose
        have M10 := hid (M9.out.s1 q)
        have F10 := hid (Ow.set_far F9.out FN.out 1 (.int .i64 q))
        have O10 := hid (OwZ.set_far O9.out HNJ.out.1 (fun z hz j hj => Nat.ne_of_lt (HNJ.out.2 z hz j hj)) 1 (.int .i64 q))
        have B10 := hid (bsk B9.out HSZ.out.1 1 (.int .i64 q))
        clear M9 F9 O9 B9
        go_wp2_with fail
        obtain ⟨W10, hW10⟩ : ∃ W10, W9.setCell ⟨w6.heap.size, 1, none⟩ (.int .i64 q) = W10 := ⟨_, rfl⟩
        rw [hW10] at M10 F10 O10 B10 ⊢
        clear hW10 m9 n9
        refine (l08Put_any w.heap.size va Z.length vc Z x q fa fl.length fc fl tm _ (Nat.le_trans HSZ.out.2.1 B10.out.size) O10.out HZ5.out F10.out FD.out).mono ?_; rintro e w11 ⟨v, rfl, hown, -, hb11⟩
        have HE : Hid (jms L L' G G' nx nx' (gs.take (i + 1)) = (ptm (x, q, fl, tm) (jms L L' G G' nx nx' (gs.take i)).1, w64 (q + 1))) := by
         show _ = _
         rw [HSN.out, jst, if_neg (by rw [HP1.out, HP2.out]; simp), if_neg (by rw [kep, hol, hol, HA1.out, HB1.out, Hka.out]; simp), GM.out, ← HQ.out]
         first | done | rfl
        have O11 := hid hown
        have B11 := hid (btr B10.out hb11)
        have HZ11 : Hid ((ptu (x, q, .slice fa fl.length fc, fl, tm) Z).map md = (jms L L' G G' nx nx' (gs.take (i + 1))).1) := by show _ = _; rw [HE.out, ptu_md, HZ.out]; rfl
        have HL11 : Hid ((ptu (x, q, .slice fa fl.length fc, fl, tm) Z).length ≤ i + 1) := Nat.le_trans (ptu_len _ _) (Nat.succ_le_succ HZL.out)
        have HQ11 : Hid (w64 (q + 1) = (jms L L' G G' nx nx' (gs.take (i + 1))).2) := by show _ = _; rw [HE.out]
        clear hown hb11
        go_wp2
        go_roundw
        case rel => exact ⟨i + 1, _, _, by omega, by go_num, rfl, HQ11, O11.out, HZ11, HL11, B11.out⟩
        case measure => simp [intOf]; omega
       case true =>
        have c0 := (AA.out.later BK.out).cells
        have c1 := (DD.out.later BK.out).cells
        go_wp2_with fail
        clear c0 c1
        refine (specKeeps_any l3 h3 l1 h1 g' nm' t' b' nx' _ mn' mc' (.slice ga' gn' gc') L' g nm t b nx _ mn mc (.slice ga gn gc) L x _ HL'.out hn' (MM'.out.later BK.out) HL.out hn (MM.out.later BK.out)).mono ?_; rintro e W9 ⟨rfl, hb9⟩
        have BK9 := hid (btr BK.out hb9)
        have M9 := hid (M9.out.later hb9)
        have F9 := hid (own_later F9.out hb9)
        have O9 := hid (O9.out.later hb9)
        have B9 := hid (btr B9.out hb9)
        clear hb9 BK
        have BK := BK9
        clear BK9
        obtain ⟨kb, hkb⟩ : ∃ kb, kpu L' L nx x = kb := ⟨_, rfl⟩
        rw [hkb]
        have Hkb := hid hkb
        clear hkb
        cases kb
        case false =>
         have m9 := M9.out.cells
         have n9 := M9.out.loose
         have M10 := hid (M9.out.s1 q)
         have F10 := hid (Ow.set_far F9.out FN.out 1 (.int .i64 q))
         have O10 := hid (OwZ.set_far O9.out HNJ.out.1 (fun z hz j hj => Nat.ne_of_lt (HNJ.out.2 z hz j hj)) 1 (.int .i64 q))
         have B10 := hid (bsk B9.out HSZ.out.1 1 (.int .i64 q))
         clear M9 F9 O9 B9
         go_wp2_with fail
         obtain ⟨W10, hW10⟩ : ∃ W10, W9.setCell ⟨w6.heap.size, 1, none⟩ (.int .i64 q) = W10 := ⟨_, rfl⟩
         rw [hW10] at M10 F10 O10 B10 ⊢
         clear hW10 m9 n9
         refine (l08Put_any w.heap.size va Z.length vc Z x q fa fl.length fc fl tm _ (Nat.le_trans HSZ.out.2.1 B10.out.size) O10.out HZ5.out F10.out FD.out).mono ?_; rintro e w11 ⟨v, rfl, hown, -, hb11⟩
         have HE : Hid (jms L L' G G' nx nx' (gs.take (i + 1)) = (ptm (x, q, fl, tm) (jms L L' G G' nx nx' (gs.take i)).1, w64 (q + 1))) := by
          show _ = _
          rw [HSN.out, jst, if_neg (by rw [HP1.out, HP2.out]; simp), if_neg (by rw [kep, hol, hol, HA1.out, HB1.out, Hka.out, Hkb.out]; simp), GM.out, ← HQ.out]
          first | done | rfl
         have O11 := hid hown
         have B11 := hid (btr B10.out hb11)
         have HZ11 : Hid ((ptu (x, q, .slice fa fl.length fc, fl, tm) Z).map md = (jms L L' G G' nx nx' (gs.take (i + 1))).1) := by show _ = _; rw [HE.out, ptu_md, HZ.out]; rfl
         have HL11 : Hid ((ptu (x, q, .slice fa fl.length fc, fl, tm) Z).length ≤ i + 1) := Nat.le_trans (ptu_len _ _) (Nat.succ_le_succ HZL.out)
         have HQ11 : Hid (w64 (q + 1) = (jms L L' G G' nx nx' (gs.take (i + 1))).2) := by show _ = _; rw [HE.out]
         clear hown hb11
         go_wp2
         go_roundw
         case rel => exact ⟨i + 1, _, _, by omega, by go_num, rfl, HQ11, O11.out, HZ11, HL11, B11.out⟩
         case measure => simp [intOf]; omega
        case true =>
         have m9 := M9.out.cells
         go_wp2_with fail
         have F10 := F9
         have O10 := O9
         have B10 := B9
         clear m9 F9 O9 B9
         refine (l08Put_any w.heap.size va Z.length vc Z x um fa fl.length fc fl tm _ (Nat.le_trans HSZ.out.2.1 B10.out.size) O10.out HZ5.out F10.out FD.out).mono ?_; rintro e w11 ⟨v, rfl, hown, -, hb11⟩
         have HE : Hid (jms L L' G G' nx nx' (gs.take (i + 1)) = (ptm (x, um, fl, tm) (jms L L' G G' nx nx' (gs.take i)).1, q)) := by
          show _ = _
          rw [HSN.out, jst, if_neg (by rw [HP1.out, HP2.out]; simp), if_pos (by rw [kep, hol, hol, HA1.out, HB1.out, Hka.out, Hkb.out]; rfl), GM.out, ← HQ.out]
          first | done | rfl
         have O11 := hid hown
         have B11 := hid (btr B10.out hb11)
         have HZ11 : Hid ((ptu (x, um, .slice fa fl.length fc, fl, tm) Z).map md = (jms L L' G G' nx nx' (gs.take (i + 1))).1) := by show _ = _; rw [HE.out, ptu_md, HZ.out]; rfl
         have HL11 : Hid ((ptu (x, um, .slice fa fl.length fc, fl, tm) Z).length ≤ i + 1) := Nat.le_trans (ptu_len _ _) (Nat.succ_le_succ HZL.out)
         have HQ11 : Hid (q = (jms L L' G G' nx nx' (gs.take (i + 1))).2) := by show _ = _; rw [HE.out]
         clear hown hb11
         go_wp2
         go_roundw
         case rel => exact ⟨i + 1, _, _, by omega, by go_num, rfl, HQ11, O11.out, HZ11, HL11, B11.out⟩
         case measure => simp [intOf]; omega
  ·have HE : Hid (gs.take i = gs) := List.take_of_length_le (by omega)
   rw [HE.out] at HQ HZ
   have HQ2 := hid HQ.out
   clear HE HQ
   go_wp2
   go_ret2
   exact ⟨_, Z, by rw [← HQ2.out]; rfl, HO.out, HZ.out, btr (btr B0.out B2.out) HB.out⟩
set_option maxHeartbeats 4000000 in
set_option maxRecDepth 100000 in
theorem keptEach_any (l1 h1 : Nat) (g : Int) (nm : ByteArray) (t b nx : Int) (ma : Option Addr) (mn mc : Nat) (gv : Value) (L : List M4) (l3 h3 : Nat) (g' : Int) (nm' : ByteArray) (t' b' nx' : Int) (ma' : Option Addr) (mn' mc' : Nat) (gv' : Value) (L' : List M4) (x : Int) (w : World) (hl : L.length = mn) (hn : mn ≤ 1048576) (hm : Ms l1 h1 w ma L) (hl' : L'.length = mn') (hn' : mn' ≤ 1048576) (hm' : Ms l3 h3 w ma' L') :
  Calls Tryz.prog 89 #[.agg #[.int .i64 g, .string nm, .int .i64 t, .int .i64 b, .int .i64 nx, .slice ma mn mc, gv], .agg #[.int .i64 g', .string nm', .int .i64 t', .int .i64 b', .int .i64 nx', .slice ma' mn' mc', gv'], .int .i64 x] w fun e w' => e = .returned (.bool (kep L L' nx nx' x)) ∧ Below w.heap.size w w' := by
 obtain ⟨W0, hW0⟩ : ∃ W0, (w.alloc (.cells #[.int .i64 g, .string nm, .int .i64 t, .int .i64 b, .int .i64 nx, .slice ma mn mc, gv] 29)).alloc (.cells #[.int .i64 g', .string nm', .int .i64 t', .int .i64 b', .int .i64 nx', .slice ma' mn' mc', gv'] 29) = W0 := ⟨_, rfl⟩
 have a0 : Bx W0 w.heap.size 29 g nm t b nx (.slice ma mn mc) gv := by subst hW0; exact (Bx.new w _ g nm t b nx _ _).later (bpush (bre _) _)
 have a1 : Bx W0 (w.heap.size + 1) 29 g' nm' t' b' nx' (.slice ma' mn' mc') gv' := by
  subst hW0
  have h := Bx.new (w.alloc (.cells #[.int .i64 g, .string nm, .int .i64 t, .int .i64 b, .int .i64 nx, .slice ma mn mc, gv] 29)) 29 g' nm' t' b' nx' (.slice ma' mn' mc') gv'
  rwa [show (w.alloc (.cells #[.int .i64 g, .string nm, .int .i64 t, .int .i64 b, .int .i64 nx, .slice ma mn mc, gv] 29)).heap.size = w.heap.size + 1 by simp] at h
 have b0 : Below w.heap.size w W0 := by subst hW0; exact bpush (bpush (bre _) _) _
 have c0 := a0.cells
 have c1 := a1.cells
 have A0 := hid a0
 have D0 := hid a1
 have B0 := hid b0
 have HM := hid (hm.later b0)
 have HM' := hid (hm'.later b0)
 have HL := hid hl
 have HL' := hid hl'
 clear a0 a1 b0 hm hm' hl hl'
 go_enter Tryz.func89, Tryz.ntmps89
 go_wp2_with fail
 clear hW0 c0 c1
 refine (implHolds_any l1 h1 g nm t b nx ma mn mc gv L x _ HL.out hn (HM.out.later (bre _))).mono ?_; rintro e w1 ⟨rfl, hb⟩
 have P1 := hid (btr (bre _) hb)
 obtain ⟨p1, hp1⟩ : ∃ p1, hol x L = p1 := ⟨_, rfl⟩
 rw [hp1]
 have Hp1 := hid hp1
 have c0 := (A0.out.later P1.out).cells
 have c1 := (D0.out.later P1.out).cells
 clear hb hp1
 cases p1
 case false =>
  go_wp2_with fail
  clear c0 c1
  refine (implHolds_any l3 h3 g' nm' t' b' nx' ma' mn' mc' gv' L' x _ HL'.out hn' (HM'.out.later P1.out)).mono ?_; rintro e w2 ⟨rfl, hb⟩
  have P2 := hid (btr P1.out hb)
  obtain ⟨q1, hq1⟩ : ∃ q1, hol x L' = q1 := ⟨_, rfl⟩
  rw [hq1]
  have Hq1 := hid hq1
  have c0 := (A0.out.later P2.out).cells
  have c1 := (D0.out.later P2.out).cells
  clear hb hq1
  cases q1
  case false =>
   have HE : Hid (kep L L' nx nx' x = true) := by show _ = _; rw [kep, Hp1.out, Hq1.out]; rfl
   go_wp2
   go_ret
   exact ⟨by rw [HE.out]; rfl, btr B0.out P2.out⟩
  case true =>
   go_wp2_with fail
   clear c0 c1
   refine (implKeeps_any l3 h3 l1 h1 g' nm' t' b' nx' ma' mn' mc' gv' L' g nm t b nx ma mn mc gv L x _ HL'.out hn' (HM'.out.later P2.out) HL.out hn (HM.out.later P2.out)).mono ?_; rintro e w3 ⟨rfl, hb⟩
   have P3 := hid (btr P2.out hb)
   obtain ⟨q2, hq2⟩ : ∃ q2, kpu L' L nx x = q2 := ⟨_, rfl⟩
   rw [hq2]
   have Hq2 := hid hq2
   have c0 := (A0.out.later P3.out).cells
   have c1 := (D0.out.later P3.out).cells
   clear hb hq2
   cases q2
   case false =>
    have HE : Hid (kep L L' nx nx' x = false) := by show _ = _; rw [kep, Hp1.out, Hq1.out, Hq2.out]; rfl
    go_wp2
    go_ret
    exact ⟨by rw [HE.out]; rfl, btr B0.out P3.out⟩
   case true =>
    have HE : Hid (kep L L' nx nx' x = true) := by show _ = _; rw [kep, Hp1.out, Hq1.out, Hq2.out]; rfl
    go_wp2
    go_ret
    exact ⟨by rw [HE.out]; rfl, btr B0.out P3.out⟩
 case true =>
  go_wp2_with fail
  clear c0 c1
  refine (implKeeps_any l1 h1 l3 h3 g nm t b nx ma mn mc gv L g' nm' t' b' nx' ma' mn' mc' gv' L' x _ HL.out hn (HM.out.later P1.out) HL'.out hn' (HM'.out.later P1.out)).mono ?_; rintro e w2 ⟨rfl, hb⟩
  have P2 := hid (btr P1.out hb)
  obtain ⟨p2, hp2⟩ : ∃ p2, kpu L L' nx' x = p2 := ⟨_, rfl⟩
  rw [hp2]
  have Hp2 := hid hp2
  have c0 := (A0.out.later P2.out).cells
  have c1 := (D0.out.later P2.out).cells
  clear hb hp2
  cases p2
  case false =>
   have HE : Hid (kep L L' nx nx' x = false) := by show _ = _; rw [kep, Hp1.out, Hp2.out]; rfl
   go_wp2
   go_ret
   exact ⟨by rw [HE.out]; rfl, btr B0.out P2.out⟩
  case true =>
   go_wp2_with fail
   clear c0 c1
   refine (implHolds_any l3 h3 g' nm' t' b' nx' ma' mn' mc' gv' L' x _ HL'.out hn' (HM'.out.later P2.out)).mono ?_; rintro e w3 ⟨rfl, hb⟩
   have P3 := hid (btr P2.out hb)
   obtain ⟨q1, hq1⟩ : ∃ q1, hol x L' = q1 := ⟨_, rfl⟩
   rw [hq1]
   have Hq1 := hid hq1
   have c0 := (A0.out.later P3.out).cells
   have c1 := (D0.out.later P3.out).cells
   clear hb hq1
   cases q1
   case false =>
    have HE : Hid (kep L L' nx nx' x = true) := by show _ = _; rw [kep, Hp1.out, Hp2.out, Hq1.out]; rfl
    go_wp2
    go_ret
    exact ⟨by rw [HE.out]; rfl, btr B0.out P3.out⟩
   case true =>
    go_wp2_with fail
    clear c0 c1
    refine (implKeeps_any l3 h3 l1 h1 g' nm' t' b' nx' ma' mn' mc' gv' L' g nm t b nx ma mn mc gv L x _ HL'.out hn' (HM'.out.later P3.out) HL.out hn (HM.out.later P3.out)).mono ?_; rintro e w4 ⟨rfl, hb⟩
    have P4 := hid (btr P3.out hb)
    obtain ⟨q2, hq2⟩ : ∃ q2, kpu L' L nx x = q2 := ⟨_, rfl⟩
    rw [hq2]
    have Hq2 := hid hq2
    have c0 := (A0.out.later P4.out).cells
    have c1 := (D0.out.later P4.out).cells
    clear hb hq2
    cases q2
    case false =>
     have HE : Hid (kep L L' nx nx' x = false) := by show _ = _; rw [kep, Hp1.out, Hp2.out, Hq1.out, Hq2.out]; rfl
     go_wp2
     go_ret
     exact ⟨by rw [HE.out]; rfl, btr B0.out P4.out⟩
    case true =>
     have HE : Hid (kep L L' nx nx' x = true) := by show _ = _; rw [kep, Hp1.out, Hp2.out, Hq1.out, Hq2.out]; rfl
     go_wp2
     go_ret
     exact ⟨by rw [HE.out]; rfl, btr B0.out P4.out⟩
end Go.Proofs.YtmpcmllfgogegaaGreat
