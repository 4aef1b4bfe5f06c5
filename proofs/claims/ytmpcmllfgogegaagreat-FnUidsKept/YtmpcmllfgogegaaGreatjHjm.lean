/- Hjm. -/

import Derived.Test.YtmpcmllfgogegaaGreatjHc
namespace Go.Proofs.YtmpcmllfgogegaaGreat
open Go.RowKit Go.Shelf Go.ChangeMaps
theorem owz_dj {W W' : World} {B B' : Nat} {v v' : Value} {Z Z' : List Z5} (h : OwZ W B v Z) (h' : OwZ W' B' v' Z') (hB : W.heap.size ≤ B') : ∀ z ∈ Z, ∀ z' ∈ Z', Dj z.2.2.1 z'.2.2.1 := fun z hz z' hz' j hj hj' => by
 have h1 := ((h.each z hz).lt j hj).2
 have h2 := ((h'.each z' hz').lt j hj').1
 omega
theorem zc_uid (u : Int) : ∀ (Z : List Z5) (i : Nat) (h : i < Z.length), (zc Z).set (i * 4 + 1) (.int .i64 u) = zc (Z.set i (Z[i].1, u, Z[i].2.2))
 | [], _, h => by simp at h
 | z :: Z, 0, _ => by simp [zc]
 | z :: Z, i + 1, h => by
  have ih := zc_uid u Z i (by simpa using h)
  rw [show (i + 1) * 4 + 1 = i * 4 + 1 + 1 + 1 + 1 + 1 by omega]
  simp only [zc, List.set_cons_succ, List.getElem_cons_succ, ih]
theorem set_flags (Z : List Z5) (i : Nat) (h : i < Z.length) (u : Int) : (Z.set i (Z[i].1, u, Z[i].2.2)).map (fun z => z.2.2) = Z.map (fun z => z.2.2) := by
 rw [List.map_set]
 apply List.ext_getElem (by simp)
 intro j h1 h2
 rw [List.getElem_set]
 split
 ·rename_i e; subst e; simp
 ·rfl
theorem OwZ.uid {W : World} {B g n c : Nat} {Z : List Z5} (h : OwZ W B (.slice (some ⟨g, 0, none⟩) n c) Z) (i : Nat) (hi : i < Z.length) (u : Int) : OwZ (W.setCell ⟨g, i * 4 + 1, none⟩ (.int .i64 u)) B (.slice (some ⟨g, 0, none⟩) n c) (Z.set i (Z[i].1, u, Z[i].2.2)) := by
 obtain rfl := h.ms.1
 have hg : W.grownBy (W.setCell ⟨g, i * 4 + 1, none⟩ (.int .i64 u)) (some g) := wst (wre _ _) _ _
 have h1 := (World.ownsRow.stored h.row (i * 4 + 1) (.int .i64 u)).1
 rw [zc_uid u Z i hi] at h1
 have hf := set_flags Z i hi u
 have hmem : ∀ z ∈ Z.set i (Z[i].1, u, Z[i].2.2), ∃ z0 ∈ Z, z0.2.2 = z.2.2 := fun z hz => by
  have : z.2.2 ∈ (Z.set i (Z[i].1, u, Z[i].2.2)).map (fun z => z.2.2) := List.mem_map.2 ⟨z, hz, rfl⟩
  rw [hf] at this
  exact List.mem_map.1 this
 refine ⟨by rw [List.length_set]; exact h1, fun z hz => ?_, fun z hz => ?_, ?_⟩
 ·obtain ⟨z0, h2, h3⟩ := hmem z hz
  rw [← h3]
  exact own_kept (h.each z0 h2) hg (fun j hj e => h.off z0 h2 j (by cases e; rfl) hj)
 ·obtain ⟨z0, h2, h3⟩ := hmem z hz
  rw [← h3]
  exact h.off z0 h2
 ·have h4 : (Z.map (fun z => z.2.2)).Pairwise (fun x y => Dj x.1 y.1) := List.pairwise_map.2 h.apart
  rw [← hf, List.pairwise_map] at h4
  exact h4
theorem fldM (g : Int) (nm : ByteArray) (t b nx : Int) (a : Option Addr) (n c : Nat) (gv : Value) (W : World) : (Instr.field 29 (.agg #[.int .i64 g, .string nm, .int .i64 t, .int .i64 b, .int .i64 nx, .slice a n c, gv]) 4).run Tryz.prog W = .ok (.slice a n c) W := by
 simp only [Instr.field, Sem.run_bind, run_underlying Tryz.underlying29, Result.andThen]
 simp [part, asAgg, Tryz.isAgg26, Tryz.sizeOf26]
set_option maxRecDepth 100000 in
set_option maxHeartbeats 4000000 in
theorem joinedMails_any (l1 h1 l2 h2 : Nat) (g : Int) (nm : ByteArray) (t b nx : Int) (ma : Option Addr) (mn mc : Nat) (ga : Option Addr) (gn gc : Nat) (L : List M4) (G : List Int) (l3 h3 l4 h4 : Nat) (g' : Int) (nm' : ByteArray) (t' b' nx' : Int) (ma' : Option Addr) (mn' mc' : Nat) (ga' : Option Addr) (gn' gc' : Nat) (L' : List M4) (G' : List Int) (w : World)
  (hnm : nm.size ≤ 1048576) (hl : L.length = mn) (hn : mn ≤ 1048576) (hsm : Sm L) (hm : Ms l1 h1 w ma L) (hm0 : ma = none → mc = 0) (hgl : G.length = gn) (hgn : gn ≤ 1048576) (hs : Is l2 h2 w ga G) (hg0 : ga = none → gc = 0)
  (hnm' : nm'.size ≤ 1048576) (hl' : L'.length = mn') (hn' : mn' ≤ 1048576) (hsm' : Sm L') (hm' : Ms l3 h3 w ma' L') (hm0' : ma' = none → mc' = 0) (hgl' : G'.length = gn') (hgn' : gn' ≤ 1048576) (hs' : Is l4 h4 w ga' G') (hg0' : ga' = none → gc' = 0) :
  Calls Tryz.prog 40 #[.agg #[.int .i64 g, .string nm, .int .i64 t, .int .i64 b, .int .i64 nx, .slice ma mn mc, .slice ga gn gc], .agg #[.int .i64 g', .string nm', .int .i64 t', .int .i64 b', .int .i64 nx', .slice ma' mn' mc', .slice ga' gn' gc']] w fun e w' =>
   ∃ v Y, e = .returned (.tuple #[v, .int .i64 (max (max (jms L L' G G' nx nx' (asl (L.map (·.1) ++ L'.map (·.1)))).2 nx) nx')]) ∧ OwZ w' w.heap.size v Y ∧ Y.map md = (jms L L' G G' nx nx' (asl (L.map (·.1) ++ L'.map (·.1)))).1 ∧ Below w.heap.size w w' := by
 obtain ⟨W0, hW0⟩ : ∃ W0, (w.alloc (.cells #[.int .i64 g, .string nm, .int .i64 t, .int .i64 b, .int .i64 nx, .slice ma mn mc, .slice ga gn gc] 29)).alloc (.cells #[.int .i64 g', .string nm', .int .i64 t', .int .i64 b', .int .i64 nx', .slice ma' mn' mc', .slice ga' gn' gc'] 29) = W0 := ⟨_, rfl⟩
 have a0 : Bx W0 w.heap.size 29 g nm t b nx (.slice ma mn mc) (.slice ga gn gc) := by subst hW0; exact (Bx.new w _ g nm t b nx _ _).later (bpush (bre _) _)
 have a1 : Bx W0 (w.heap.size + 1) 29 g' nm' t' b' nx' (.slice ma' mn' mc') (.slice ga' gn' gc') := by
  subst hW0
  have h := Bx.new (w.alloc (.cells #[.int .i64 g, .string nm, .int .i64 t, .int .i64 b, .int .i64 nx, .slice ma mn mc, .slice ga gn gc] 29)) 29 g' nm' t' b' nx' (.slice ma' mn' mc') (.slice ga' gn' gc')
  rwa [show (w.alloc (.cells #[.int .i64 g, .string nm, .int .i64 t, .int .i64 b, .int .i64 nx, .slice ma mn mc, .slice ga gn gc] 29)).heap.size = w.heap.size + 1 by simp] at h
 have b0 : Below w.heap.size w W0 := by subst hW0; exact bpush (bpush (bre _) _) _
 have A0 := hid a0
 have D0 := hid a1
 have B0 := hid b0
 have HM := hid (hm.later b0)
 have HM' := hid (hm'.later b0)
 have HS := hid (hs.later b0)
 have HS' := hid (hs'.later b0)
 have HL := hid hl
 have HL' := hid hl'
 have HGL := hid hgl
 have HGL' := hid hgl'
 have HSM := hid hsm
 have HSM' := hid hsm'
 have H00 := hid hm0
 have H00' := hid hm0'
 have HG0 := hid hg0
 have HG0' := hid hg0'
 have HNM := hid hnm
 have HNM' := hid hnm'
 clear a0 a1 b0 hm hm' hs hs' hl hl' hgl hgl' hsm hsm' hm0 hm0' hg0 hg0' hnm hnm'
 go_enter Tryz.func40, Tryz.ntmps40
 go_wp2_with fail
 clear hW0
 obtain ⟨W1, hW1⟩ : ∃ W1, W0.alloc (.cells #[.func (.func 85) #[] #[], .func (.func 86) #[] #[]] 102) = W1 := ⟨_, rfl⟩
 have b1 : Below W0.heap.size W0 W1 := by subst hW1; exact bpush (bre _) _
 have k1 : Kd W1 W0.heap.size 102 85 86 := by subst hW1; exact heap_alloc_new W0 _
 rw [hW1]
 have B1 := hid (btr B0.out b1)
 have HZ : Hid (∀ W, Below W1.heap.size W1 W → (W.cell? ⟨w.heap.size, 0, none⟩ = some (.int .i64 g) ∧ W.cell? ⟨w.heap.size, 1, none⟩ = some (.string nm) ∧ W.cell? ⟨w.heap.size, 2, none⟩ = some (.int .i64 t) ∧ W.cell? ⟨w.heap.size, 3, none⟩ = some (.int .i64 b) ∧ W.cell? ⟨w.heap.size, 4, none⟩ = some (.int .i64 nx) ∧ W.cell? ⟨w.heap.size, 5, none⟩ = some (.slice ma mn mc) ∧ W.cell? ⟨w.heap.size, 6, none⟩ = some (.slice ga gn gc)) ∧ (W.cell? ⟨w.heap.size + 1, 0, none⟩ = some (.int .i64 g') ∧ W.cell? ⟨w.heap.size + 1, 1, none⟩ = some (.string nm') ∧ W.cell? ⟨w.heap.size + 1, 2, none⟩ = some (.int .i64 t') ∧ W.cell? ⟨w.heap.size + 1, 3, none⟩ = some (.int .i64 b') ∧ W.cell? ⟨w.heap.size + 1, 4, none⟩ = some (.int .i64 nx') ∧ W.cell? ⟨w.heap.size + 1, 5, none⟩ = some (.slice ma' mn' mc') ∧ W.cell? ⟨w.heap.size + 1, 6, none⟩ = some (.slice ga' gn' gc')) ∧ (W.cell? ⟨W0.heap.size, 0, none⟩ = some (.func (.func 85) #[] #[]) ∧ W.cell? ⟨W0.heap.size, 1, none⟩ = some (.func (.func 86) #[] #[]))) := fun W h => ⟨((A0.out.later b1).later h).cells, ((D0.out.later b1).later h).cells, (k1.later h).cells⟩
 have HK1 := hid k1
 have HM1 := hid (HM.out.later b1)
 have HM1' := hid (HM'.out.later b1)
 have HS1 := hid (HS.out.later b1)
 have HS1' := hid (HS'.out.later b1)
 clear hW1 b1 k1 HM HM' HS HS'
 have hfl := fldM
 go_region_held3 (fun W => (W.cell? ⟨w.heap.size, 0, none⟩ = some (.int .i64 g) ∧ W.cell? ⟨w.heap.size, 1, none⟩ = some (.string nm) ∧ W.cell? ⟨w.heap.size, 2, none⟩ = some (.int .i64 t) ∧ W.cell? ⟨w.heap.size, 3, none⟩ = some (.int .i64 b) ∧ W.cell? ⟨w.heap.size, 4, none⟩ = some (.int .i64 nx) ∧ W.cell? ⟨w.heap.size, 5, none⟩ = some (.slice ma mn mc) ∧ W.cell? ⟨w.heap.size, 6, none⟩ = some (.slice ga gn gc)) ∧ (W.cell? ⟨w.heap.size + 1, 0, none⟩ = some (.int .i64 g') ∧ W.cell? ⟨w.heap.size + 1, 1, none⟩ = some (.string nm') ∧ W.cell? ⟨w.heap.size + 1, 2, none⟩ = some (.int .i64 t') ∧ W.cell? ⟨w.heap.size + 1, 3, none⟩ = some (.int .i64 b') ∧ W.cell? ⟨w.heap.size + 1, 4, none⟩ = some (.int .i64 nx') ∧ W.cell? ⟨w.heap.size + 1, 5, none⟩ = some (.slice ma' mn' mc') ∧ W.cell? ⟨w.heap.size + 1, 6, none⟩ = some (.slice ga' gn' gc')) ∧ (W.cell? ⟨W0.heap.size, 0, none⟩ = some (.func (.func 85) #[] #[]) ∧ W.cell? ⟨W0.heap.size, 1, none⟩ = some (.func (.func 86) #[] #[])))
  ((first | exact HZ.out _ (bdr (bre _)) | exact HZ.out _ C1.out | exact HZ.out _ C2.out | exact HZ.out _ C3.out))
  ((first
    | (go_at_call 38; (with_reducible refine (copyOfBox_any l1 h1 l2 h2 g nm t b nx ma mn mc ga gn gc L G _ HNM.out HL.out hn HSM.out (HM1.out.later (bdr (bre _))) H00.out HGL.out hgn (HS1.out.later (bdr (bre _))) HG0.out).mono ?_); rintro e w1 ⟨mv, gv, rfl, o1, p1⟩; obtain ⟨Za, ea, oa, oi, -⟩ := o1; obtain ⟨va, vc, rfl⟩ := oa.shape; obtain ⟨xa, xc, rfl, -⟩ := OwI.shape oi; clear oi; have EA := hid ea; have OA : Hid (OwZ w1 W1.heap.size (.slice va Za.length vc) Za) := oa; have C1 : Hid (Below W1.heap.size W1 w1) := btr (bdr (bre _)) p1; clear oa ea p1)
    | (go_at_call 38; (with_reducible refine (copyOfBox_any l3 h3 l4 h4 g' nm' t' b' nx' ma' mn' mc' ga' gn' gc' L' G' _ HNM'.out HL'.out hn' HSM'.out (HM1'.out.later C1.out) H00'.out HGL'.out hgn' (HS1'.out.later C1.out) HG0'.out).mono ?_); rintro e w2 ⟨mv2, gv2, rfl, o2, p2⟩; obtain ⟨Zb, eb, ob, oi2, -⟩ := o2; obtain ⟨va2, vc2, rfl⟩ := ob.shape; obtain ⟨xa2, xc2, rfl, -⟩ := OwI.shape oi2; clear oi2; have EB := hid eb; have OB : Hid (OwZ w2 W1.heap.size (.slice va2 Zb.length vc2) Zb) := ob.base C1.out.size; have DJ := hid (owz_dj OA.out ob (Nat.le_refl _)); have OA2 := hid (OA.out.later p2); have C2 : Hid (Below W1.heap.size W1 w2) := btr C1.out p2; clear ob eb p2)
    | (go_at_call 87; (with_reducible refine (joined9_any W1.heap.size va Za.length vc Za va2 Zb.length vc2 Zb _ C2.out.size rfl (by have := congrArg List.length EA.out; rw [List.length_map, HL.out] at this; omega) OA2.out (by rw [EA.out]; exact HSM.out) rfl (by have := congrArg List.length EB.out; rw [List.length_map, HL'.out] at this; omega) OB.out (by rw [EB.out]; exact HSM'.out) DJ.out).mono ?_); rintro e w3 ⟨v3, Y3, rfl, o3, y3, p3⟩; rw [EA.out, EB.out] at y3; have O3 := hid o3; have E3 := hid y3; have C3 : Hid (Below W1.heap.size W1 w3) := btr C2.out p3; clear o3 y3 p3)))
 obtain ⟨va3, vc3, rfl⟩ := O3.out.shape
 obtain ⟨n3, hn3⟩ : ∃ n3, Y3.length = n3 := ⟨_, rfl⟩
 rw [hn3] at O3 ⊢
 have HN3 : Hid (Y3.length ≤ 2097152) := by
  have h := congrArg List.length E3.out
  rw [List.length_map, List.length_map] at h
  have h2 := asl_len (L.map (·.1) ++ L'.map (·.1))
  rw [List.length_append, List.length_map, List.length_map, HL.out, HL'.out] at h2
  show _ ≤ _
  omega
 have HN3e := hid hn3
 clear hn3 OA OA2 OB EA EB DJ
 obtain ⟨J, hJ⟩ : ∃ J, asl (G ++ G') = J := ⟨_, rfl⟩
 have HJ := hid hJ
 have HJL : Hid (J.length ≤ 2097152) := by
  have h2 := asl_len (G ++ G')
  rw [hJ, List.length_append, HGL.out, HGL'.out] at h2
  show _ ≤ _
  omega
 clear hJ
 go_wp2_with fail
 go_region_held3 (fun W => (W.cell? ⟨w.heap.size, 0, none⟩ = some (.int .i64 g) ∧ W.cell? ⟨w.heap.size, 1, none⟩ = some (.string nm) ∧ W.cell? ⟨w.heap.size, 2, none⟩ = some (.int .i64 t) ∧ W.cell? ⟨w.heap.size, 3, none⟩ = some (.int .i64 b) ∧ W.cell? ⟨w.heap.size, 4, none⟩ = some (.int .i64 nx) ∧ W.cell? ⟨w.heap.size, 5, none⟩ = some (.slice ma mn mc) ∧ W.cell? ⟨w.heap.size, 6, none⟩ = some (.slice ga gn gc)) ∧ (W.cell? ⟨w.heap.size + 1, 0, none⟩ = some (.int .i64 g') ∧ W.cell? ⟨w.heap.size + 1, 1, none⟩ = some (.string nm') ∧ W.cell? ⟨w.heap.size + 1, 2, none⟩ = some (.int .i64 t') ∧ W.cell? ⟨w.heap.size + 1, 3, none⟩ = some (.int .i64 b') ∧ W.cell? ⟨w.heap.size + 1, 4, none⟩ = some (.int .i64 nx') ∧ W.cell? ⟨w.heap.size + 1, 5, none⟩ = some (.slice ma' mn' mc') ∧ W.cell? ⟨w.heap.size + 1, 6, none⟩ = some (.slice ga' gn' gc')) ∧ (W.cell? ⟨W0.heap.size, 0, none⟩ = some (.func (.func 85) #[] #[]) ∧ W.cell? ⟨W0.heap.size, 1, none⟩ = some (.func (.func 86) #[] #[])))
  ((first | exact HZ.out _ (bdr C3.out) | exact HZ.out _ C4.out | exact HZ.out _ C5.out))
  ((first
    | (go_at_call 26; (with_reducible refine (implJoinGone_any l2 h2 l4 h4 ga gn gc G ga' gn' gc' G' _ HGL.out hgn (HS1.out.later (bdr C3.out)) HGL'.out hgn' (HS1'.out.later (bdr C3.out))).mono ?_); rintro e w4 ⟨v4, rfl, o4, p4⟩; rw [HJ.out] at o4; obtain ⟨xa4, xc4, rfl, -⟩ := OwI.shape o4; have O4 : Hid (OwI w4 w3.heap.size (.slice xa4 J.length xc4) J) := o4; have P4 : Hid (Below w3.heap.size w3 w4) := btr (bdr (bre _)) p4; have C4 : Hid (Below W1.heap.size W1 w4) := btr C3.out P4.out; clear o4 p4)
    | (go_at_call 88; (with_reducible refine (without9_any w3.heap.size w4.heap.size xa4 J.length xc4 J W1.heap.size (.slice va3 n3 vc3) Y3 _ (by have := HN3.out; omega) (O3.out.later P4.out) rfl (by have := HJL.out; omega) (OwI.is O4.out).2 (fun j hj => (O3.out.row.lt j hj).2)).mono ?_); rintro e w5 ⟨v5, rfl, o5, q5, e5⟩; have O5 := hid o5; have C5 : Hid (Below W1.heap.size W1 w5) := C4.out.trans (below_grownR q5 (fun j hj => (O3.out.row.lt j hj).1) C4.out.size); clear o5 q5 e5)))
 obtain ⟨va5, vc5, rfl⟩ := O5.out.shape
 obtain ⟨Y5, hY5⟩ : ∃ Y5, Y3.filter (kpz J) = Y5 := ⟨_, rfl⟩
 rw [hY5] at O5 ⊢
 obtain ⟨n5, hn5⟩ : ∃ n5, Y5.length = n5 := ⟨_, rfl⟩
 rw [hn5] at O5 ⊢
 have HN5 : Hid (n5 ≤ 2097152) := by
  have h := List.length_filter_le (kpz J) Y3
  rw [hY5, hn5] at h
  have := HN3.out
  show _ ≤ _
  omega
 have HY5 : Hid (Y5.map md = ((asl (L.map (·.1) ++ L'.map (·.1))).map (gm L L')).filter (fun m => !(inl m.1 G || inl m.1 G'))) := by
  show _ = _
  rw [← hY5, ← E3.out, List.filter_map]
  congr 1
  refine List.filter_congr (fun z _ => ?_)
  show (!inl z.1 J) = _
  rw [← HJ.out, inl_asl]
  rfl
 have HN5e := hid hn5
 have hn5b : n5 ≤ 2097152 := HN5.out
 clear hY5 hn5 O4 P4 C4
 have ca := (HZ.out _ C5.out).1
 have cb := (HZ.out _ C5.out).2.1
 obtain ⟨mx, hmx⟩ : ∃ mx : Int, max nx nx' = mx := ⟨_, rfl⟩
 have hmx2 : (if nx' > nx then nx' else nx) = mx := by rw [← hmx, Int.max_def]; split <;> split <;> omega
 have HMX : Hid (mx8 nx nx' = mx) := by
  show _ = _
  rw [← hmx, mx8, Int.max_def]
  split <;> split <;> omega
 go_wp2
 clear ca cb hmx hmx2
 go_loopw [8, 35] (fun nv iv wr => ∃ (i : Nat) (R : List Z5) (q : Int), i ≤ n5 ∧ nv = .int .i64 q ∧ iv = .int .i64 (i : Int) ∧ OwZ wr W1.heap.size (.slice va5 n5 vc5) R ∧ Hid (((R.take i).map md, q) = ((Y5.take i).map md).foldl (nst L L' nx nx') ([], mx)) ∧ Hid (R.drop i = Y5.drop i) ∧ Below W1.heap.size W1 wr) (fun _ iv _ => n5 - (intOf iv).toNat)
 case atStart => exact ⟨0, Y5, mx, Nat.zero_le _, rfl, rfl, O5.out, rfl, rfl, C5.out⟩
 case round =>
  obtain ⟨i, R, q, hi, rfl, rfl, hR, HF, HD, hB⟩ := hrel
  have hRl : R.length = n5 := hR.ms.1.symm
  have HR := hid hR
  have HB := hid hB
  have HRL := hid hRl
  clear hR hB hRl
  by_cases hlt : i < n5
  ·have hil : i < R.length := by rw [HRL.out]; exact hlt
   have hiy : i < Y5.length := by rw [HN5e.out]; exact hlt
   have hRi : R[i] = Y5[i] := by
    have h1 := congrArg (fun l => l[0]?) HD.out
    simp only [List.getElem?_drop, Nat.add_zero] at h1
    rw [List.getElem?_eq_getElem hil, List.getElem?_eq_getElem hiy] at h1
    exact Option.some.inj h1
   obtain ⟨gk, rfl, hgk, c0, c1, c2, c3⟩ := HR.out.at hil
   obtain ⟨-, f0, f1, f2, f3⟩ := HR.out.spot i hil
   obtain ⟨fa, fn, fc, hf⟩ := HR.out.sl R[i] (List.getElem_mem hil)
   have hst := fun W (h : OwZ W W1.heap.size (.slice (some ⟨gk, 0, none⟩) n5 vc5) R) => h.uid i hil q
   have hTk : ∀ z, (R.set i z).take (i + 1) = R.take i ++ [z] := fun z => by
    rw [List.take_succ_eq_append_getElem (by simpa using hil), List.take_set_of_le (Nat.le_refl _)]
    simp
   have hDk : ∀ z, (R.set i z).drop (i + 1) = Y5.drop (i + 1) := fun z => by
    rw [List.drop_set_of_lt (by omega)]
    have h1 := congrArg (fun l => l.drop 1) HD.out
    simpa [List.drop_drop, Nat.add_comm] using h1
   have hTk0 : R.take (i + 1) = R.take i ++ [R[i]] := List.take_succ_eq_append_getElem hil
   have hDk0 : R.drop (i + 1) = Y5.drop (i + 1) := by
    have h1 := congrArg (fun l => l.drop 1) HD.out
    simpa [List.drop_drop, Nat.add_comm] using h1
   have hYk : (Y5.take (i + 1)).map md = (Y5.take i).map md ++ [md R[i]] := by
    rw [List.take_succ_eq_append_getElem hiy, List.map_append, hRi]
    rfl
   obtain ⟨p, hp⟩ : ∃ p, R[i] = p := ⟨_, rfl⟩
   rw [hp] at c0 c1 c2 c3 hf hst hTk0 hYk
   obtain ⟨y, u, f, l, tx⟩ := p
   dsimp only at c0 c1 c2 c3 hf hst
   subst hf
   have HST := hid hst
   have HTK := hid hTk
   have HDK := hid hDk
   have HTK0 := hid hTk0
   have HDK0 := hid hDk0
   have HYK := hid hYk
   have hI : (0 : Int) ≤ (i : Int) ∧ (i : Int) < (n5 : Int) := by omega
   obtain ⟨W2, hW2⟩ : ∃ W2, wr.alloc (.cells #[.int .i64 y, .int .i64 u, .slice fa fn fc, .string tx] 37) = W2 := ⟨_, rfl⟩
   have a2 : Mg W2 wr.heap.size 37 y u (.slice fa fn fc) tx := by subst hW2; exact Mg.new _ _ _ _ _ _
   have b2 : Below wr.heap.size wr W2 := by subst hW2; exact bpush (bre _) _
   have B2 := hid (btr HB.out b2)
   have B2' := hid b2
   have cm := a2.cells
   have ca := (HZ.out _ B2.out).1
   have cb := (HZ.out _ B2.out).2.1
   clear hst hTk hDk hTk0 hDk0 hYk hp hRi a2 b2
   go_wp2_with fail
   clear hW2 c0 c1 c2 c3 cm ca cb f0 f1 f2 f3
   refine (keptEach_any l1 h1 g nm t b nx ma mn mc (.slice ga gn gc) L l3 h3 g' nm' t' b' nx' ma' mn' mc' (.slice ga' gn' gc') L' y _ HL.out hn (HM1.out.later B2.out) HL'.out hn' (HM1'.out.later B2.out)).mono ?_; rintro e w6 ⟨rfl, p6⟩
   obtain ⟨kq, hkq⟩ : ∃ kq, kep L L' nx nx' y = kq := ⟨_, rfl⟩
   rw [hkq]
   have HKQ := hid hkq
   have R6 := hid ((HR.out.later B2'.out).later p6)
   have B6 := hid (btr B2.out p6)
   clear hkq p6
   cases kq
   ·have f6 := (R6.out.spot i hil).2.2.1
    have c6 := (R6.out.spot i hil).1.2.1
    have HR7 := hid (HST.out _ R6.out)
    have hB7 : Below W1.heap.size W1 (w6.setCell ⟨gk, i * 4 + 1, none⟩ (.int .i64 q)) := bset B6.out (show W1.heap.size ≤ (⟨gk, i * 4 + 1, none⟩ : Addr).block from (HR.out.row.lt gk rfl).1) _
    have HB7 := hid hB7
    clear hB7
    go_wp2
    go_roundw
    case rel =>
     refine ⟨i + 1, R.set i (y, q, .slice fa fn fc, l, tx), w64 (q + 1), by omega, rfl, by go_num, HR7.out, ?_, HDK.out _, HB7.out⟩
     show _ = _
     rw [HTK.out, List.map_append, HYK.out, nfold_snoc, ← HF.out]
     unfold nst
     rw [if_neg (by show ¬ kep L L' nx nx' y = true; rw [HKQ.out]; simp)]
     rfl
    case measure => simp [intOf]; omega
   ·go_wp2
    go_roundw
    case rel =>
     refine ⟨i + 1, R, q, by omega, rfl, by go_num, R6.out, ?_, HDK0.out, B6.out⟩
     show _ = _
     rw [HTK0.out, List.map_append, HYK.out, nfold_snoc, ← HF.out]
     unfold nst
     rw [if_pos (by show kep L L' nx nx' y = true; exact HKQ.out)]
     rfl
    case measure => simp [intOf]; omega
  ·have hin : i = n5 := by omega
   subst hin
   have HFF : Hid ((R.map md, q) = (Y5.map md).foldl (nst L L' nx nx') ([], mx)) := by
    have h := HF.out
    rw [List.take_of_length_le (by rw [HRL.out]; exact Nat.le_refl _), List.take_of_length_le (by rw [HN5e.out]; exact Nat.le_refl _)] at h
    exact h
   have HJ2 : Hid ((jms L L' G G' nx nx' (asl (L.map (·.1) ++ L'.map (·.1)))).2 = q ∧ ∀ Y : List M4, (∀ m, m ∈ Y ↔ m ∈ R.map md) → Y.Pairwise ug → Y = (jms L L' G G' nx nx' (asl (L.map (·.1) ++ L'.map (·.1)))).1) := by
    have hgid : ∀ g ∈ asl (L.map (·.1) ++ L'.map (·.1)), (gm L L' g).1 = g := fun g hg => gm_gid (gids_have hg)
    have hj := jms_nst L L' G G' nx nx' (asl (L.map (·.1) ++ L'.map (·.1))) ([], mx) ([], mx) hgid rfl (fun _ => Iff.rfl)
    rw [← HY5.out, ← HFF.out] at hj
    refine ⟨by unfold jms; rw [HMX.out]; exact hj.1, fun Y hY hu => ?_⟩
    refine jms_sorted (fun m => ?_) hu
    rw [HMX.out, ← HY5.out, ← HFF.out]
    exact hY m
   have HPW : Hid (R.Pairwise (fun x y => x.1 < y.1)) := by
    have h1 := nfold_gids L L' nx nx' (Y5.map md) ([], mx)
    rw [← HFF.out] at h1
    have h2 : (R.map md).map (·.1) = (Y5.map md).map (·.1) := by simpa using h1
    have h3 : ((Y5.map md).map (·.1)).Pairwise (· < ·) := by
     rw [HY5.out]
     have h4 : (((asl (L.map (·.1) ++ L'.map (·.1))).map (gm L L')).map (·.1)) = asl (L.map (·.1) ++ L'.map (·.1)) := by
      rw [List.map_map]
      conv => rhs; rw [← List.map_id (asl (L.map (·.1) ++ L'.map (·.1)))]
      exact List.map_congr_left (fun g hg => gm_gid (gids_have hg))
     have h5 : (((asl (L.map (·.1) ++ L'.map (·.1))).map (gm L L')).filter (fun m => !(inl m.1 G || inl m.1 G'))).map (·.1) |>.Sublist (((asl (L.map (·.1) ++ L'.map (·.1))).map (gm L L')).map (·.1)) := List.Sublist.map _ List.filter_sublist
     rw [h4] at h5
     exact (asl_asc _).sublist h5
    rw [← h2, List.map_map] at h3
    exact List.pairwise_map.1 h3
   go_wp2_with fail
   refine (stb8_any W1.heap.size (.slice va5 i vc5) R _ (by rw [HRL.out]; omega) HR.out HPW.out).mono ?_; rintro e w7 ⟨⟨u7, rfl⟩, Z', z1, z2, z3, z4⟩
   have HZ1 : Hid (Z'.map md = (jms L L' G G' nx nx' (asl (L.map (·.1) ++ L'.map (·.1)))).1) := HJ2.out.2 _ (fun m => (z1.map md).mem_iff) z2
   have O7 := hid (z3.base (Nat.le_trans B1.out.size (Nat.le_refl _)))
   have C7 : Hid (Below W1.heap.size W1 w7) := HB.out.trans (below_grownR z4 (fun j hj => (HR.out.row.lt j hj).1) HB.out.size)
   have cz := HZ.out _ C7.out
   obtain ⟨ca, cb, -⟩ := cz
   obtain ⟨r, hr⟩ : ∃ r : Int, max (max q nx) nx' = r := ⟨_, rfl⟩
   have HRR : Hid (max (max (jms L L' G G' nx nx' (asl (L.map (·.1) ++ L'.map (·.1)))).2 nx) nx' = r) := by show _ = _; rw [HJ2.out.1]; exact hr
   clear z1 z2 z3 z4
   go_wp2_with fail
   go_region_held3 (fun W => W.cell? ⟨w.heap.size, 4, none⟩ = some (.int .i64 nx) ∧ W.cell? ⟨w.heap.size + 1, 4, none⟩ = some (.int .i64 nx'))
    (exact ⟨ca.2.2.2.2.1, cb.2.2.2.2.1⟩)
    (fail)
   have hr2 : (if (if q < nx then nx else q) < nx' then nx' else if q < nx then nx else q) = r := by
    rw [← hr, Int.max_def, Int.max_def]
    repeat' split
    all_goals omega
   rw [hr2]
   clear hr hr2 ca cb
   go_wp2
   go_ret2
   exact ⟨_, Z', by rw [HRR.out]; rfl, (O7.out.later (bdr (bre _))), HZ1.out, btr B1.out (bdr C7.out)⟩
end Go.Proofs.YtmpcmllfgogegaaGreat
