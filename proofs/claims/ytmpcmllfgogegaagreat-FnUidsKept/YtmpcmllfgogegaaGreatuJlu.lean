/- Jlu. -/

import Derived.Test.YtmpcmllfgogegaaGreatuKu8
namespace Go.Proofs.YtmpcmllfgogegaaGreat
open Go.RowKit Go.ChangeMaps
def Up (L : List M4) (nx g u : Int) : Prop :=
 (∀ k (h : k < L.length), L[k].2.1 = u → L[k].1 = g) ∧ ((mat g L 0 = -1 ∧ nx ≤ u) ∨ ∃ (k : Nat) (h : k < L.length), mat g L 0 = (k : Int) ∧ L[k].2.1 = u)
theorem up_of {L : List M4} {nx g u : Int} (h1 : ∀ x ∈ L, x.2.1 = u → x.1 = g) (h2 : ∀ x, fnd g L = some x → x.2.1 = u) (h3 : fnd g L = none → nx ≤ u) : Up L nx g u := by
 refine ⟨fun k h e => h1 _ (List.getElem_mem h) e, ?_⟩
 rcases mat_fnd g L 0 with ⟨k1, k2⟩ | ⟨j, hj, k1, k2⟩
 ·exact Or.inl ⟨k2, h3 k1⟩
 ·exact Or.inr ⟨j, hj, by rw [k2, Nat.zero_add], h2 _ k1⟩
theorem uids_one {L : List M4} (h : Upr L) : ∀ x ∈ L, ∀ y ∈ L, x.2.1 = y.2.1 → x = y := by
 unfold Upr at h
 induction L with
 | nil => intro x hx; cases hx
 | cons m L ih =>
  have p := List.pairwise_cons.1 h
  intro x hx y hy e
  rcases List.mem_cons.1 hx with rfl | kx
  ·rcases List.mem_cons.1 hy with rfl | ky
   ·rfl
   ·have := p.1 y ky; omega
  ·rcases List.mem_cons.1 hy with rfl | ky
   ·have := p.1 x kx; omega
   ·exact ih p.2 x kx y ky e
def JM (nm1 : ByteArray) (t1 b1 nx1 : Int) (mn1 gn1 : Nat) (L1 : List M4) (G1 : List Int) (nm2 : ByteArray) (t2 b2 nx2 : Int) (mn2 gn2 : Nat) (L2 : List M4) (G2 : List Int) (n : Nat) : Prop :=
 ∀ (ma : Option Addr) (mc : Nat) (ga : Option Addr) (gc : Nat) (ma' : Option Addr) (mc' : Nat) (ga' : Option Addr) (gc' : Nat) (W : World), Bz W ma mn1 mc ga gn1 gc L1 G1 → Bz W ma' mn2 mc' ga' gn2 gc' L2 G2 →
  Calls Tryz.prog 20 #[.agg #[.int .i64 7, .string nm1, .int .i64 t1, .int .i64 b1, .int .i64 nx1, .slice ma mn1 mc, .slice ga gn1 gc], .agg #[.int .i64 7, .string nm2, .int .i64 t2, .int .i64 b2, .int .i64 nx2, .slice ma' mn2 mc', .slice ga' gn2 gc']] W fun e w' => ∃ a c, e = .returned (.slice a n c) ∧ Below W.heap.size W w'
section
variable {nm1 : ByteArray} {t1 b1 nx1 : Int} {mn1 gn1 : Nat} {L1 : List M4} {G1 : List Int} {nm2 : ByteArray} {t2 b2 nx2 : Int} {mn2 gn2 : Nat} {L2 : List M4} {G2 : List Int}
theorem jm_of (ha : Gd nm1 nx1 mn1 gn1 L1 G1) (hb : Gd nm2 nx2 mn2 gn2 L2 G2) : JM nm1 t1 b1 nx1 mn1 gn1 L1 G1 nm2 t2 b2 nx2 mn2 gn2 L2 G2 (jbL 7 nx1 L1 G1 7 nx2 L2 G2).length := by
 intro ma mc ga gc ma' mc' ga' gc' W hz hz'
 obtain ⟨l1, h1, hm⟩ := hz.mails
 obtain ⟨l2, h2, hi⟩ := hz.gone
 obtain ⟨l3, h3, hm'⟩ := hz'.mails
 obtain ⟨l4, h4, hi'⟩ := hz'.gone
 refine (implJoinMails_any l1 h1 l2 h2 7 nm1 t1 b1 nx1 ma mn1 mc ga gn1 gc L1 G1 l3 h3 l4 h4 7 nm2 t2 b2 nx2 ma' mn2 mc' ga' gn2 gc' L2 G2 W ha.nmz hz.len hz.most hz.sm hm hz.m0 hz.glen hz.gmost hi hz.g0 hb.nmz hz'.len hz'.most hz'.sm hm' hz'.m0 hz'.glen hz'.gmost hi' hz'.g0).mono ?_
 rintro e w' ⟨v, Z, rfl, ho, hZ, hbe⟩
 obtain ⟨a, c, rfl⟩ := ho.shape
 have eL : jbL 7 nx1 L1 G1 7 nx2 L2 G2 = (jms L1 L2 G1 G2 nx1 nx2 (asl (L1.map (·.1) ++ L2.map (·.1)))).1 := if_pos rfl
 refine ⟨a, c, ?_, hbe⟩
 rw [eL, ← hZ, List.length_map]
theorem uid_letters (h1 : bxOk 7 nm1 t1 b1 nx1 L1 G1 = true) (hl1 : L1.length = mn1) (hg1 : G1.length = gn1) (h2 : bxOk 7 nm2 t2 b2 nx2 L2 G2 = true) (hl2 : L2.length = mn2) (hg2 : G2.length = gn2) :
  ∃ (nm3 : ByteArray) (t3 b3 nx3 : Int) (mn3 gn3 : Nat) (L3 : List M4) (G3 : List Int), Hid (JI nm1 t1 b1 nx1 mn1 gn1 L1 G1 nm2 t2 b2 nx2 mn2 gn2 L2 G2 nm3 t3 b3 nx3 mn3 gn3 L3 G3 ∧ JS nm1 t1 b1 nx1 mn1 gn1 L1 G1 nm2 t2 b2 nx2 mn2 gn2 L2 G2 nm3 t3 b3 nx3 mn3 gn3 L3 G3 ∧ JM nm1 t1 b1 nx1 mn1 gn1 L1 G1 nm2 t2 b2 nx2 mn2 gn2 L2 G2 mn3) ∧ Hid (∀ i (h : i < L3.length), ¬ (nx1 ≤ L3[i].2.1 ∧ nx2 ≤ L3[i].2.1) → Up L1 nx1 L3[i].1 L3[i].2.1 ∧ Up L2 nx2 L3[i].1 L3[i].2.1) ∧ Hid (mn1 ≤ 10 ∧ mn2 ≤ 10 ∧ mn3 ≤ 20) := by
 obtain ⟨ha, a1, a2, a3, a4⟩ := gd_of h1 hl1 hg1
 obtain ⟨hb, b1', b2', b3', b4'⟩ := gd_of h2 hl2 hg2
 obtain ⟨-, -, -, -, -, -, a7, a8, -⟩ := bx_iff.1 h1
 obtain ⟨-, -, -, -, -, -, c7, c8, -⟩ := bx_iff.1 h2
 have eL : jbL 7 nx1 L1 G1 7 nx2 L2 G2 = (jms L1 L2 G1 G2 nx1 nx2 (asl (L1.map (·.1) ++ L2.map (·.1)))).1 := if_pos rfl
 have hlen := asl_len (L1.map (·.1) ++ L2.map (·.1))
 rw [List.length_append, List.length_map, List.length_map] at hlen
 have hx := mx8_ge nx1 nx2
 have hxl : mx8 nx1 nx2 ≤ 10000 := by unfold mx8; split <;> omega
 have hj := Gd.join (g := 7) (g' := 7) (t := t1) (b := b1) (t' := t2) (b' := b2) ha hb
 refine ⟨_, _, _, _, _, _, _, _, ⟨ji_of ha hb, js_of ha hb, jm_of ha hb⟩, ?_, ⟨a1, b1', by have := hj.2.2.1; omega⟩⟩
 intro i hi hold
 have hm : (jbL 7 nx1 L1 G1 7 nx2 L2 G2)[i] ∈ (jms L1 L2 G1 G2 nx1 nx2 (asl (L1.map (·.1) ++ L2.map (·.1)))).1 := by rw [← eL]; exact List.getElem_mem hi
 obtain ⟨p1, p2, p3, p4, p5, p6⟩ := uid_kept (by omega) (by omega) (fun x hx => (a7 x hx).2.1) (fun x hx => (c7 x hx).2.1) (uids_one a8) (uids_one c8) hm hold
 exact ⟨up_of p1 p3 p5, up_of p2 p4 p6⟩
end
end Go.Proofs.YtmpcmllfgogegaaGreat
