/- Lml. -/

import Derived.Test.YtmpcmllfgogegaaGreatmJlk
namespace Go.Proofs.YtmpcmllfgogegaaGreat
open Go.RowKit Go.ChangeMaps
def Ib (W : World) (a : Option Addr) (n : Nat) (G : List Int) : Prop := G.length = n ∧ n ≤ 1048576 ∧ ∃ lo hi, Is lo hi W a G
theorem Ib.later {W W' : World} {a : Option Addr} {n : Nat} {G : List Int} (h : Ib W a n G) (hb : Below W.heap.size W W') : Ib W' a n G := by
 obtain ⟨h1, h2, lo, hi, h3⟩ := h
 exact ⟨h1, h2, lo, hi, h3.later hb⟩
theorem Bz.ib {W : World} {ma : Option Addr} {mn mc : Nat} {ga : Option Addr} {gn gc : Nat} {L : List M4} {G : List Int} (h : Bz W ma mn mc ga gn gc L G) : Ib W ga gn G := ⟨h.glen, h.gmost, h.gone⟩
def GI (f : Nat) (gn : Nat) (G : List Int) (gn' : Nat) (G' : List Int) (n : Nat) (R : List Int) : Prop :=
 ∀ (ga : Option Addr) (gc : Nat) (ga' : Option Addr) (gc' : Nat) (W : World), Ib W ga gn G → Ib W ga' gn' G' → Calls Tryz.prog f #[.slice ga gn gc, .slice ga' gn' gc'] W fun e w' => ∃ a c, e = .returned (.slice a n c) ∧ Ib w' a n R ∧ Below W.heap.size W w'
theorem gi_of {gn gn' : Nat} {G G' : List Int} (h : gn + gn' ≤ 1048576) : GI 26 gn G gn' G' (asl (G ++ G')).length (asl (G ++ G')) ∧ GI 27 gn G gn' G' (asl (G ++ G')).length (asl (G ++ G')) := by
 constructor
 all_goals
  rintro ga gc ga' gc' W ⟨h1, h2, lo, hi, h3⟩ ⟨k1, k2, lo', hi', k3⟩
  have hlen := asl_len (G ++ G')
  rw [List.length_append] at hlen
  first
   | refine (implJoinGone_any lo hi lo' hi' ga gn gc G ga' gn' gc' G' W h1 h2 h3 k1 k2 k3).mono ?_
   | refine (specJoinGone_any lo hi lo' hi' ga gn gc G ga' gn' gc' G' W h1 h2 h3 k1 k2 k3).mono ?_
  rintro e w' ⟨v, rfl, ho, hb⟩
  obtain ⟨a, c, rfl, _⟩ := OwI.shape ho
  exact ⟨a, c, rfl, ⟨rfl, by omega, _, _, (OwI.is ho).2⟩, hb⟩
theorem sameI_ib (ao bo : Option Addr) (n ca cb : Nat) (G : List Int) (w : World) (h : Ib w ao n G) (h' : Ib w bo n G) :
  Calls Tryz.prog 25 #[.slice ao n ca, .slice bo n cb] w fun e w' => e = .returned (.bool true) ∧ Below w.heap.size w w' := by
 obtain ⟨h1, h2, lo, hi, h3⟩ := h
 obtain ⟨k1, k2, lo', hi', k3⟩ := h'
 exact sameInts_any lo hi lo' hi' ao bo n ca cb G w h1 h2 h3 k3
theorem in_ib (ao : Option Addr) (n cap : Nat) (G : List Int) (x : Int) (w : World) (h : Ib w ao n G) : Calls Tryz.prog 22 #[.slice ao n cap, .int .i64 x] w fun e w' => e = .returned (.bool (inl x G)) ∧ w' = w := by
 obtain ⟨h1, h2, lo, hi, h3⟩ := h
 exact lawIn8_any lo hi ao n cap G x w h1 h2 h3
theorem holds_bz (g : Int) (nm : ByteArray) (t b nx : Int) (x : Int) {ma : Option Addr} {mn mc : Nat} {ga : Option Addr} {gn gc : Nat} {L : List M4} {G : List Int} (w : World) (h : Bz w ma mn mc ga gn gc L G) :
  Calls Tryz.prog 21 #[.agg #[.int .i64 g, .string nm, .int .i64 t, .int .i64 b, .int .i64 nx, .slice ma mn mc, .slice ga gn gc], .int .i64 x] w fun e w' => e = .returned (.bool (hol x L)) ∧ Below w.heap.size w w' := by
 obtain ⟨lo, hi, hm⟩ := h.mails
 exact implHolds_any lo hi g nm t b nx ma mn mc _ L x w h.len h.most hm
section
variable {nm1 : ByteArray} {t1 b1 nx1 : Int} {mn1 gn1 : Nat} {L1 : List M4} {G1 : List Int} {nm2 : ByteArray} {t2 b2 nx2 : Int} {mn2 gn2 : Nat} {L2 : List M4} {G2 : List Int}
theorem kept_letters (h1 : bxOk 7 nm1 t1 b1 nx1 L1 G1 = true) (hl1 : L1.length = mn1) (hg1 : G1.length = gn1) (h2 : bxOk 7 nm2 t2 b2 nx2 L2 G2 = true) (hl2 : L2.length = mn2) (hg2 : G2.length = gn2) :
  ∃ (nm3 : ByteArray) (t3 b3 nx3 : Int) (mn3 gn3 : Nat) (L3 : List M4) (G3 : List Int), Hid (JI nm1 t1 b1 nx1 mn1 gn1 L1 G1 nm2 t2 b2 nx2 mn2 gn2 L2 G2 nm3 t3 b3 nx3 mn3 gn3 L3 G3) ∧ Hid (∀ i (h : i < L1.length), hol L1[i].1 L3 = !inl L1[i].1 G2) ∧ Hid (∀ i (h : i < L2.length), hol L2[i].1 L3 = !inl L2[i].1 G1) ∧ Hid (ctr (fun g => hol g L3) L1 mn1 + ctr (fun g => hol g L3 && !hol g L1) L2 mn2 = mn3) ∧ Hid (GI 26 gn2 G2 gn1 G1 gn3 G3) ∧ Hid (mn1 ≤ 10 ∧ mn2 ≤ 10) := by
 obtain ⟨ha, a1, a2, a3, a4⟩ := gd_of h1 hl1 hg1
 obtain ⟨hb, b1', b2', b3', b4'⟩ := gd_of h2 hl2 hg2
 obtain ⟨p1, p2, p3⟩ := kept_pure h1 h2
 have eG : jbG 7 G1 7 G2 = asl (G2 ++ G1) := by rw [(jbX_comm 7 nx1 L1 G1 nx2 L2 G2).2.2]; exact if_pos rfl
 refine ⟨_, _, _, _, _, _, _, _, ji_of ha hb, fun i h => p1 _ (List.getElem_mem h), fun i h => p2 _ (List.getElem_mem h), ?_, ?_, ⟨a1, b1'⟩⟩
 ·rw [← hl1, ← hl2]
  exact p3
 ·rw [eG]
  exact (gi_of (by omega)).1
end
def JA (f : Nat) (g1 : Int) (nm1 : ByteArray) (t1 b1 nx1 : Int) (mn1 gn1 : Nat) (L1 : List M4) (G1 : List Int) (g2 : Int) (nm2 : ByteArray) (t2 b2 nx2 : Int) (mn2 gn2 : Nat) (L2 : List M4) (G2 : List Int) (nm3 : ByteArray) (t3 b3 nx3 : Int) (mn3 gn3 : Nat) (L3 : List M4) (G3 : List Int) : Prop :=
 ∀ (ma : Option Addr) (mc : Nat) (ga : Option Addr) (gc : Nat) (ma' : Option Addr) (mc' : Nat) (ga' : Option Addr) (gc' : Nat) (W : World), Bz W ma mn1 mc ga gn1 gc L1 G1 → Bz W ma' mn2 mc' ga' gn2 gc' L2 G2 →
  Calls Tryz.prog f #[.agg #[.int .i64 g1, .string nm1, .int .i64 t1, .int .i64 b1, .int .i64 nx1, .slice ma mn1 mc, .slice ga gn1 gc], .agg #[.int .i64 g2, .string nm2, .int .i64 t2, .int .i64 b2, .int .i64 nx2, .slice ma' mn2 mc', .slice ga' gn2 gc']] W fun e w' => ∃ a c a' c', e = .returned (.agg #[.int .i64 g1, .string nm3, .int .i64 t3, .int .i64 b3, .int .i64 nx3, .slice a mn3 c, .slice a' gn3 c']) ∧ BzL w' W.heap.size a mn3 c a' gn3 c' L3 G3 ∧ Below W.heap.size W w'
theorem any_letters {g1 : Int} {nm1 : ByteArray} {t1 b1 nx1 : Int} {mn1 gn1 : Nat} {L1 : List M4} {G1 : List Int} {g2 : Int} {nm2 : ByteArray} {t2 b2 nx2 : Int} {mn2 gn2 : Nat} {L2 : List M4} {G2 : List Int} (ha : Gd nm1 nx1 mn1 gn1 L1 G1) (hb : Gd nm2 nx2 mn2 gn2 L2 G2) :
  ∃ (nm3 : ByteArray) (t3 b3 nx3 : Int) (mn3 gn3 : Nat) (L3 : List M4) (G3 : List Int), Hid (JA 10 g1 nm1 t1 b1 nx1 mn1 gn1 L1 G1 g2 nm2 t2 b2 nx2 mn2 gn2 L2 G2 nm3 t3 b3 nx3 mn3 gn3 L3 G3) ∧ Hid (JA 12 g1 nm1 t1 b1 nx1 mn1 gn1 L1 G1 g2 nm2 t2 b2 nx2 mn2 gn2 L2 G2 nm3 t3 b3 nx3 mn3 gn3 L3 G3) :=
 ⟨_, _, _, _, _, _, _, _, fun ma mc ga gc ma' mc' ga' gc' W hz hz' => joinI_bz g1 nm1 t1 b1 nx1 mn1 gn1 L1 G1 g2 nm2 t2 b2 nx2 mn2 gn2 L2 G2 ha hb ma mc ga gc ma' mc' ga' gc' W hz hz', fun ma mc ga gc ma' mc' ga' gc' W hz hz' => joinS_bz g1 nm1 t1 b1 nx1 mn1 gn1 L1 G1 g2 nm2 t2 b2 nx2 mn2 gn2 L2 G2 ha hb ma mc ga gc ma' mc' ga' gc' W hz hz'⟩
structure S8 (w W : World) (ka kj : Nat) (nm1 : ByteArray) (t1 b1 nx1 : Int) (ma1 : Option Addr) (mn1 mc1 : Nat) (ga1 : Option Addr) (gn1 gc1 : Nat) (L1 : List M4) (G1 : List Int) (nm2 : ByteArray) (t2 b2 nx2 : Int) (ma2 : Option Addr) (mn2 mc2 : Nat) (ga2 : Option Addr) (gn2 gc2 : Nat) (L2 : List M4) (G2 : List Int) (nm3 : ByteArray) (t3 b3 nx3 : Int) (ma3 : Option Addr) (mn3 mc3 : Nat) (ga3 : Option Addr) (gn3 gc3 : Nat) (L3 : List M4) (G3 : List Int) : Prop where
 a : A8 W ka nm1 t1 b1 nx1 ma1 mn1 mc1 ga1 gn1 gc1 L1 G1
 b : A8 W (ka + 1) nm2 t2 b2 nx2 ma2 mn2 mc2 ga2 gn2 gc2 L2 G2
 j : A8 W kj nm3 t3 b3 nx3 ma3 mn3 mc3 ga3 gn3 gc3 L3 G3
 be : Below w.heap.size w W
theorem S8.later {w W W' : World} {ka kj : Nat} {nm1 : ByteArray} {t1 b1 nx1 : Int} {ma1 : Option Addr} {mn1 mc1 : Nat} {ga1 : Option Addr} {gn1 gc1 : Nat} {L1 : List M4} {G1 : List Int} {nm2 : ByteArray} {t2 b2 nx2 : Int} {ma2 : Option Addr} {mn2 mc2 : Nat} {ga2 : Option Addr} {gn2 gc2 : Nat} {L2 : List M4} {G2 : List Int} {nm3 : ByteArray} {t3 b3 nx3 : Int} {ma3 : Option Addr} {mn3 mc3 : Nat} {ga3 : Option Addr} {gn3 gc3 : Nat} {L3 : List M4} {G3 : List Int} (h : S8 w W ka kj nm1 t1 b1 nx1 ma1 mn1 mc1 ga1 gn1 gc1 L1 G1 nm2 t2 b2 nx2 ma2 mn2 mc2 ga2 gn2 gc2 L2 G2 nm3 t3 b3 nx3 ma3 mn3 mc3 ga3 gn3 gc3 L3 G3) (hb : Below W.heap.size W W') : S8 w W' ka kj nm1 t1 b1 nx1 ma1 mn1 mc1 ga1 gn1 gc1 L1 G1 nm2 t2 b2 nx2 ma2 mn2 mc2 ga2 gn2 gc2 L2 G2 nm3 t3 b3 nx3 ma3 mn3 mc3 ga3 gn3 gc3 L3 G3 := ⟨h.a.later hb, h.b.later hb, h.j.later hb, btr h.be hb⟩
set_option maxHeartbeats 16000000 in
set_option maxRecDepth 100000 in
theorem lawMailsKept_any (ao : Option Addr) (n cap : Nat) (w : World) (hcode : Code w w.heap.size ao n) :
  Calls Tryz.prog 5 #[.slice ao n cap] w fun e w' => e = .returned (.bool true) ∧ Below w.heap.size w w' := by
 have HO := hid hcode
 clear hcode
 by_cases hbig : n ≤ 1048576
 ·go_enter Tryz.func5, Tryz.ntmps5
  go_wp2_with fail
  refine (bigF_no ao n cap _ hbig).mono ?_; rintro e w' ⟨rfl, h'⟩
  rw [h']
  clear h'
  go_wp2_with fail
  refine (drawTwo_any ao n cap _ hbig HO.out).mono ?_; rintro e w1 ⟨nm1, t1, b1, nx1, ma1, mn1, mc1, ga1, gn1, gc1, L1, G1, nm2, t2, b2, nx2, ma2, mn2, mc2, ga2, gn2, gc2, L2, G2, rfl, ⟨k1, k2⟩, ⟨z1, z2⟩, hb⟩
  obtain ⟨nm3, t3, b3, nx3, mn3, gn3, L3, G3, hJ, F1, F2, CN, GJ, HMN⟩ := kept_letters k1 z1.len z1.glen k2 z2.len z2.glen
  have ZZ := hid (And.intro z1 z2)
  have BE := hid hb
  clear z1 z2 hb k1 k2
  have hs : (w1.alloc (.cells #[.int .i64 7, .string nm1, .int .i64 t1, .int .i64 b1, .int .i64 nx1, .slice ma1 mn1 mc1, .slice ga1 gn1 gc1] 29)).heap.size = w1.heap.size + 1 := by simp
  have A := hid ((A8.new (nm := nm1) (t := t1) (b := b1) (nx := nx1) ZZ.out.1).later (bpush (bre _) (.cells #[.int .i64 7, .string nm2, .int .i64 t2, .int .i64 b2, .int .i64 nx2, .slice ma2 mn2 mc2, .slice ga2 gn2 gc2] 29)))
  have B := hid (A8.new (nm := nm2) (t := t2) (b := b2) (nx := nx2) (ZZ.out.2.later (bpush (bre _) (.cells #[.int .i64 7, .string nm1, .int .i64 t1, .int .i64 b1, .int .i64 nx1, .slice ma1 mn1 mc1, .slice ga1 gn1 gc1] 29))))
  have BF := hid (bpush (bpush BE.out (.cells #[.int .i64 7, .string nm1, .int .i64 t1, .int .i64 b1, .int .i64 nx1, .slice ma1 mn1 mc1, .slice ga1 gn1 gc1] 29)) (.cells #[.int .i64 7, .string nm2, .int .i64 t2, .int .i64 b2, .int .i64 nx2, .slice ma2 mn2 mc2, .slice ga2 gn2 gc2] 29))
  rw [hs] at B
  clear ZZ BE hs
  go_wp2_with fail
  obtain ⟨wa, ha⟩ : ∃ W, (w1.alloc (.cells #[.int .i64 7, .string nm1, .int .i64 t1, .int .i64 b1, .int .i64 nx1, .slice ma1 mn1 mc1, .slice ga1 gn1 gc1] 29)).alloc (.cells #[.int .i64 7, .string nm2, .int .i64 t2, .int .i64 b2, .int .i64 nx2, .slice ma2 mn2 mc2, .slice ga2 gn2 gc2] 29) = W := ⟨_, rfl⟩
  obtain ⟨ka, hka⟩ : ∃ k, w1.heap.size = k := ⟨_, rfl⟩
  rw [ha, hka] at A B
  rw [ha] at BF
  rw [ha, hka]
  clear ha hka
  refine (hJ.out _ _ _ _ _ _ _ _ _ A.out.bz B.out.bz).mono ?_; rintro e w2 ⟨ma3, mc3, ga3, gc3, rfl, hz, hb⟩
  have J := hid (A8.new (nm := nm3) (t := t3) (b := b3) (nx := nx3) hz.bz)
  replace A := hid ((A.out.later hb).later (bpush (bre _) (.cells #[.int .i64 7, .string nm3, .int .i64 t3, .int .i64 b3, .int .i64 nx3, .slice ma3 mn3 mc3, .slice ga3 gn3 gc3] 29)))
  replace B := hid ((B.out.later hb).later (bpush (bre _) (.cells #[.int .i64 7, .string nm3, .int .i64 t3, .int .i64 b3, .int .i64 nx3, .slice ma3 mn3 mc3, .slice ga3 gn3 gc3] 29)))
  have BE := hid (bpush (btr BF.out hb) (.cells #[.int .i64 7, .string nm3, .int .i64 t3, .int .i64 b3, .int .i64 nx3, .slice ma3 mn3 mc3, .slice ga3 gn3 gc3] 29))
  clear hz hb BF
  go_wp2
  obtain ⟨wb, ha⟩ : ∃ W, w2.alloc (.cells #[.int .i64 7, .string nm3, .int .i64 t3, .int .i64 b3, .int .i64 nx3, .slice ma3 mn3 mc3, .slice ga3 gn3 gc3] 29) = W := ⟨_, rfl⟩
  obtain ⟨kj, hka⟩ : ∃ k, w2.heap.size = k := ⟨_, rfl⟩
  rw [ha] at A B BE
  rw [ha, hka] at J
  rw [ha, hka]
  clear ha hka
  have SS : Hid (S8 w wb ka kj nm1 t1 b1 nx1 ma1 mn1 mc1 ga1 gn1 gc1 L1 G1 nm2 t2 b2 nx2 ma2 mn2 mc2 ga2 gn2 gc2 L2 G2 nm3 t3 b3 nx3 ma3 mn3 mc3 ga3 gn3 gc3 L3 G3) := ⟨A.out, B.out, J.out, BE.out⟩
  clear A B J BE
  go_loopw [6, 7] (fun nv iv wr => ∃ i : Nat, i ≤ mn1 ∧ iv = .int .i64 (i : Int) ∧ nv = .int .i64 ((ctr (fun g => hol g L3) L1 i : Nat) : Int) ∧ S8 w wr ka kj nm1 t1 b1 nx1 ma1 mn1 mc1 ga1 gn1 gc1 L1 G1 nm2 t2 b2 nx2 ma2 mn2 mc2 ga2 gn2 gc2 L2 G2 nm3 t3 b3 nx3 ma3 mn3 mc3 ga3 gn3 gc3 L3 G3) (fun _ iv _ => mn1 - (intOf iv).toNat)
  case atStart => exact ⟨0, Nat.zero_le _, rfl, by rw [ctr_zero]; rfl, SS.out⟩
  case round =>
   obtain ⟨i, hi, rfl, rfl, hS⟩ := hrel
   replace SS := hid hS
   clear hS
   by_cases hlt : i < mn1
   ·have hil : i < L1.length := by rw [SS.out.a.bz.len]; exact hlt
    have hF := F1.out i hil
    have hC := ctr_succ (fun g => hol g L3) L1 hil
    have hle := ctr_le (fun g => hol g L3) L1 i
    obtain ⟨lo, hh, hm⟩ := SS.out.a.bz.mails
    obtain ⟨y, hy⟩ : ∃ y, L1[i].1 = y := ⟨_, rfl⟩
    obtain ⟨k, o, fa, fc, hka, hk, ⟨c, -, -, -⟩, -⟩ := hm.at hil
    rw [hy] at c hF hC
    obtain ⟨p, hp⟩ : ∃ p, inl y G2 = p := ⟨_, rfl⟩
    rw [hp] at hF
    try dsimp only at hC
    rw [hF] at hC
    have HF := hid hF
    have HP := hid hp
    obtain ⟨cn, hcn⟩ : ∃ cn, ctr (fun g => hol g L3) L1 i = cn := ⟨_, rfl⟩
    rw [hcn] at hC hle ⊢
    have HC := hid hC
    have HLE : Hid (cn ≤ mn1) := by show _ ≤ _; omega
    have hI : (0 : Int) ≤ (i : Int) ∧ (i : Int) < (mn1 : Int) := by omega
    have ca := SS.out.a.bx.cells
    rw [hka] at ca
    clear hF hp hC hm hy hcn hle hka
    go_wp2_with fail
    clear ca c
    replace SS := hid (SS.out.later (bdr (bre _)))
    refine wp_region_noPanic ?_
    refine wp_region_held_drew (S := (fun W => (W.cell? ⟨ka, 0, none⟩ = some (.int .i64 7) ∧ W.cell? ⟨ka, 1, none⟩ = some (.string nm1) ∧ W.cell? ⟨ka, 2, none⟩ = some (.int .i64 t1) ∧ W.cell? ⟨ka, 3, none⟩ = some (.int .i64 b1) ∧ W.cell? ⟨ka, 4, none⟩ = some (.int .i64 nx1) ∧ W.cell? ⟨ka, 5, none⟩ = some (.slice ma1 mn1 mc1) ∧ W.cell? ⟨ka, 6, none⟩ = some (.slice ga1 gn1 gc1)) ∧ (W.cell? ⟨ka + 1, 0, none⟩ = some (.int .i64 7) ∧ W.cell? ⟨ka + 1, 1, none⟩ = some (.string nm2) ∧ W.cell? ⟨ka + 1, 2, none⟩ = some (.int .i64 t2) ∧ W.cell? ⟨ka + 1, 3, none⟩ = some (.int .i64 b2) ∧ W.cell? ⟨ka + 1, 4, none⟩ = some (.int .i64 nx2) ∧ W.cell? ⟨ka + 1, 5, none⟩ = some (.slice ma2 mn2 mc2) ∧ W.cell? ⟨ka + 1, 6, none⟩ = some (.slice ga2 gn2 gc2)) ∧ (W.cell? ⟨kj, 0, none⟩ = some (.int .i64 7) ∧ W.cell? ⟨kj, 1, none⟩ = some (.string nm3) ∧ W.cell? ⟨kj, 2, none⟩ = some (.int .i64 t3) ∧ W.cell? ⟨kj, 3, none⟩ = some (.int .i64 b3) ∧ W.cell? ⟨kj, 4, none⟩ = some (.int .i64 nx3) ∧ W.cell? ⟨kj, 5, none⟩ = some (.slice ma3 mn3 mc3) ∧ W.cell? ⟨kj, 6, none⟩ = some (.slice ga3 gn3 gc3)))) (by kernel_rfl) (⟨SS.out.a.bx.cells, SS.out.b.bx.cells, SS.out.j.bx.cells⟩) (fun hHeld => ?_)
    refine tk 0 ?_
    refine tk 1 ?_
    refine tk 3 ?_
    refine tk 4 ?_
    refine tk 5 ?_
    clear hHeld
    refine ry 2 (fun K hK => ?_)
    go_simp
    refine (holds_bz 7 _ _ _ _ y _ SS.out.j.bz).mono ?_
    rintro e v1 ⟨rfl, hb⟩
    rw [HF.out]
    replace SS := hid (SS.out.later hb)
    clear hb
    go_wp2_with fail
    refine hK.out _ _ (⟨SS.out.a.bx.cells, SS.out.b.bx.cells, SS.out.j.bx.cells⟩) (fun hHeld => ?_)
    clear hK K
    try simp only [Act.put, tp2, tp3, tp4]
    clear hHeld
    refine ry 6 (fun K hK => ?_)
    go_simp
    refine (in_ib _ _ _ G2 y _ SS.out.b.bz.ib).mono ?_
    rintro e v2 ⟨rfl, rfl⟩
    rw [HP.out]
    go_wp2_with fail
    refine hK.out _ _ (⟨SS.out.a.bx.cells, SS.out.b.bx.cells, SS.out.j.bx.cells⟩) (fun hHeld => ?_)
    clear hK K
    try simp only [Act.put, tp2, tp3, tp4]
    refine tk 7 ?_
    refine wpAnyH_done (by kernel_rfl) ?_ _
    refine NoPanic.normal ?_
    cases p
    ·go_wp2_with fail
     refine (holds_bz 7 _ _ _ _ y _ SS.out.j.bz).mono ?_; rintro e v3 ⟨rfl, hb⟩
     rw [HF.out]
     replace SS := hid (SS.out.later hb)
     clear hb
     have hmn := HMN.out
     have hle := HLE.out
     go_wp2
     go_roundw
     case rel => exact ⟨i + 1, by omega, by go_num, by rw [show _ = cn + 1 from HC.out]; go_num, SS.out⟩
     case measure => simp [intOf]; omega
    ·go_wp2_with fail
     refine (holds_bz 7 _ _ _ _ y _ SS.out.j.bz).mono ?_; rintro e v3 ⟨rfl, hb⟩
     rw [HF.out]
     replace SS := hid (SS.out.later hb)
     clear hb
     have hmn := HMN.out
     have hle := HLE.out
     go_wp2
     go_roundw
     case rel => exact ⟨i + 1, by omega, by go_num, by rw [show _ = cn from HC.out], SS.out⟩
     case measure => simp [intOf]; omega
   ·have hi2 : i = mn1 := by omega
    rw [hi2]
    clear hi2 hlt hi
    have ca := SS.out.a.bx.cells
    go_wp2_with fail
    clear ca
    obtain ⟨c1, hc1⟩ : ∃ c, ctr (fun g => hol g L3) L1 mn1 = c := ⟨_, rfl⟩
    have hle := ctr_le (fun g => hol g L3) L1 mn1
    rw [hc1] at CN hle ⊢
    have HC1 := hid hle
    clear hle hc1
    go_wp2
    go_loopw [6, 9] (fun nv iv wr => ∃ i : Nat, i ≤ mn2 ∧ iv = .int .i64 (i : Int) ∧ nv = .int .i64 ((c1 + ctr (fun g => hol g L3 && !hol g L1) L2 i : Nat) : Int) ∧ S8 w wr ka kj nm1 t1 b1 nx1 ma1 mn1 mc1 ga1 gn1 gc1 L1 G1 nm2 t2 b2 nx2 ma2 mn2 mc2 ga2 gn2 gc2 L2 G2 nm3 t3 b3 nx3 ma3 mn3 mc3 ga3 gn3 gc3 L3 G3) (fun _ iv _ => mn2 - (intOf iv).toNat)
    case atStart => exact ⟨0, Nat.zero_le _, rfl, by rw [ctr_zero]; rfl, SS.out⟩
    case round =>
     obtain ⟨i, hi, rfl, rfl, hS⟩ := hrel
     replace SS := hid hS
     clear hS
     by_cases hlt : i < mn2
     ·have hil : i < L2.length := by rw [SS.out.b.bz.len]; exact hlt
      have hF := F2.out i hil
      have hC := ctr_succ (fun g => hol g L3 && !hol g L1) L2 hil
      have hle := ctr_le (fun g => hol g L3 && !hol g L1) L2 i
      obtain ⟨lo, hh, hm⟩ := SS.out.b.bz.mails
      obtain ⟨y, hy⟩ : ∃ y, L2[i].1 = y := ⟨_, rfl⟩
      obtain ⟨k, o, fa, fc, hka, hk, ⟨c, -, -, -⟩, -⟩ := hm.at hil
      rw [hy] at c hF hC
      obtain ⟨p, hp⟩ : ∃ p, inl y G1 = p := ⟨_, rfl⟩
      rw [hp] at hF
      try dsimp only at hC
      rw [hF] at hC
      have HF := hid hF
      have HP := hid hp
      obtain ⟨q, hq⟩ : ∃ q, hol y L1 = q := ⟨_, rfl⟩
      rw [hq] at hC
      have HQ := hid hq
      clear hq
      obtain ⟨cn, hcn⟩ : ∃ cn, ctr (fun g => hol g L3 && !hol g L1) L2 i = cn := ⟨_, rfl⟩
      rw [hcn] at hC hle ⊢
      have HC := hid hC
      have HLE : Hid (cn ≤ mn2) := by show _ ≤ _; omega
      have hI : (0 : Int) ≤ (i : Int) ∧ (i : Int) < (mn2 : Int) := by omega
      have ca := SS.out.b.bx.cells
      rw [hka] at ca
      clear hF hp hC hm hy hcn hle hka
      go_wp2_with fail
      clear ca c
      replace SS := hid (SS.out.later (bdr (bre _)))
      refine wp_region_noPanic ?_
      refine wp_region_held_drew (S := (fun W => (W.cell? ⟨ka, 0, none⟩ = some (.int .i64 7) ∧ W.cell? ⟨ka, 1, none⟩ = some (.string nm1) ∧ W.cell? ⟨ka, 2, none⟩ = some (.int .i64 t1) ∧ W.cell? ⟨ka, 3, none⟩ = some (.int .i64 b1) ∧ W.cell? ⟨ka, 4, none⟩ = some (.int .i64 nx1) ∧ W.cell? ⟨ka, 5, none⟩ = some (.slice ma1 mn1 mc1) ∧ W.cell? ⟨ka, 6, none⟩ = some (.slice ga1 gn1 gc1)) ∧ (W.cell? ⟨ka + 1, 0, none⟩ = some (.int .i64 7) ∧ W.cell? ⟨ka + 1, 1, none⟩ = some (.string nm2) ∧ W.cell? ⟨ka + 1, 2, none⟩ = some (.int .i64 t2) ∧ W.cell? ⟨ka + 1, 3, none⟩ = some (.int .i64 b2) ∧ W.cell? ⟨ka + 1, 4, none⟩ = some (.int .i64 nx2) ∧ W.cell? ⟨ka + 1, 5, none⟩ = some (.slice ma2 mn2 mc2) ∧ W.cell? ⟨ka + 1, 6, none⟩ = some (.slice ga2 gn2 gc2)) ∧ (W.cell? ⟨kj, 0, none⟩ = some (.int .i64 7) ∧ W.cell? ⟨kj, 1, none⟩ = some (.string nm3) ∧ W.cell? ⟨kj, 2, none⟩ = some (.int .i64 t3) ∧ W.cell? ⟨kj, 3, none⟩ = some (.int .i64 b3) ∧ W.cell? ⟨kj, 4, none⟩ = some (.int .i64 nx3) ∧ W.cell? ⟨kj, 5, none⟩ = some (.slice ma3 mn3 mc3) ∧ W.cell? ⟨kj, 6, none⟩ = some (.slice ga3 gn3 gc3)))) (by kernel_rfl) (⟨SS.out.a.bx.cells, SS.out.b.bx.cells, SS.out.j.bx.cells⟩) (fun hHeld => ?_)
      refine tk 0 ?_
      refine tk 1 ?_
      refine tk 3 ?_
      refine tk 4 ?_
      refine tk 5 ?_
      clear hHeld
      refine ry 2 (fun K hK => ?_)
      go_simp
      refine (holds_bz 7 _ _ _ _ y _ SS.out.j.bz).mono ?_
      rintro e v1 ⟨rfl, hb⟩
      rw [HF.out]
      replace SS := hid (SS.out.later hb)
      clear hb
      go_wp2_with fail
      refine hK.out _ _ (⟨SS.out.a.bx.cells, SS.out.b.bx.cells, SS.out.j.bx.cells⟩) (fun hHeld => ?_)
      clear hK K
      try simp only [Act.put, tp2, tp3, tp4]
      clear hHeld
      refine ry 6 (fun K hK => ?_)
      go_simp
      refine (in_ib _ _ _ G1 y _ SS.out.a.bz.ib).mono ?_
      rintro e v2 ⟨rfl, rfl⟩
      rw [HP.out]
      go_wp2_with fail
      refine hK.out _ _ (⟨SS.out.a.bx.cells, SS.out.b.bx.cells, SS.out.j.bx.cells⟩) (fun hHeld => ?_)
      clear hK K
      try simp only [Act.put, tp2, tp3, tp4]
      refine tk 7 ?_
      refine wpAnyH_done (by kernel_rfl) ?_ _
      refine NoPanic.normal ?_
      cases p
      ·cases q
       ·go_wp2_with fail
        refine (holds_bz 7 _ _ _ _ y _ SS.out.j.bz).mono ?_; rintro e v3 ⟨rfl, hb⟩
        rw [HF.out]
        replace SS := hid (SS.out.later hb)
        clear hb
        have ca := SS.out.a.bx.cells
        go_wp2_with fail
        clear ca
        refine (holds_bz 7 _ _ _ _ y _ SS.out.a.bz).mono ?_; rintro e v4 ⟨rfl, hb⟩
        rw [HQ.out]
        replace SS := hid (SS.out.later hb)
        clear hb
        have hmn := HMN.out
        have hle := HLE.out
        have hcc := HC1.out
        go_wp2
        go_roundw
        case rel => exact ⟨i + 1, by omega, by go_num, by rw [show _ = cn + 1 from HC.out]; go_num, SS.out⟩
        case measure => simp [intOf]; omega
       ·go_wp2_with fail
        refine (holds_bz 7 _ _ _ _ y _ SS.out.j.bz).mono ?_; rintro e v3 ⟨rfl, hb⟩
        rw [HF.out]
        replace SS := hid (SS.out.later hb)
        clear hb
        have ca := SS.out.a.bx.cells
        go_wp2_with fail
        clear ca
        refine (holds_bz 7 _ _ _ _ y _ SS.out.a.bz).mono ?_; rintro e v4 ⟨rfl, hb⟩
        rw [HQ.out]
        replace SS := hid (SS.out.later hb)
        clear hb
        have hmn := HMN.out
        have hle := HLE.out
        have hcc := HC1.out
        go_wp2
        go_roundw
        case rel => exact ⟨i + 1, by omega, by go_num, by rw [show _ = cn from HC.out]; go_num, SS.out⟩
        case measure => simp [intOf]; omega
      ·go_wp2_with fail
       refine (holds_bz 7 _ _ _ _ y _ SS.out.j.bz).mono ?_; rintro e v3 ⟨rfl, hb⟩
       rw [HF.out]
       replace SS := hid (SS.out.later hb)
       clear hb
       have hmn := HMN.out
       have hle := HLE.out
       have hcc := HC1.out
       go_wp2
       go_roundw
       case rel => exact ⟨i + 1, by omega, by go_num, by rw [show _ = cn from HC.out]; go_num, SS.out⟩
       case measure => simp [intOf]; omega
     ·have hi2 : i = mn2 := by omega
      rw [hi2]
      clear hi2 hlt hi
      have ca := SS.out.b.bx.cells
      go_wp2_with fail
      clear ca
      rw [CN.out]
      refine (drawJoinGone_any ao n cap _ hbig (HO.out.over SS.out.be)).mono ?_; rintro e w5 ⟨va, cva, vb, cvb, XA, XB, rfl, oa, ob, la, lb, hb⟩
      replace SS := hid (SS.out.later hb)
      have IA : Hid (Ib w5 va XA.length XA) := ⟨rfl, by omega, _, _, (OwI.is oa).2⟩
      have IB : Hid (Ib w5 vb XB.length XB) := ⟨rfl, by omega, _, _, (OwI.is ob).2⟩
      obtain ⟨R, rn, GXI, GXS⟩ : ∃ (R : List Int) (rn : Nat), Hid (GI 26 XA.length XA XB.length XB rn R) ∧ Hid (GI 27 XA.length XA XB.length XB rn R) := ⟨_, _, (gi_of (by omega)).1, (gi_of (by omega)).2⟩
      obtain ⟨xn, hxn⟩ : ∃ x, XA.length = x := ⟨_, rfl⟩
      obtain ⟨yn, hyn⟩ : ∃ x, XB.length = x := ⟨_, rfl⟩
      rw [hxn] at IA GXI GXS ⊢
      rw [hyn] at IB GXI GXS ⊢
      clear hxn hyn oa ob la lb hb
      go_wp2_with fail
      refine (drawJoinBox_any ao n cap _ hbig (HO.out.over SS.out.be)).mono ?_; rintro e w6 ⟨g4, nm4, t4, b4, nx4, ma4, mn4, mc4, ga4, gn4, gc4, L4, G4, g5, nm5, t5, b5, nx5, ma5, mn5, mc5, ga5, gn5, gc5, L5, G5, rfl, ⟨d1, d2⟩, ⟨q1, q2⟩, hb⟩
      obtain ⟨nm6, t6, b6, nx6, mn6, gn6, L6, G6, JU, JV⟩ := any_letters (g1 := g4) (t1 := t4) (b1 := b4) (g2 := g5) (t2 := t5) (b2 := b5) d1 d2
      have hs : (w6.alloc (.cells #[.int .i64 g4, .string nm4, .int .i64 t4, .int .i64 b4, .int .i64 nx4, .slice ma4 mn4 mc4, .slice ga4 gn4 gc4] 29)).heap.size = w6.heap.size + 1 := by simp
      have bp : Below w6.heap.size w6 ((w6.alloc (.cells #[.int .i64 g4, .string nm4, .int .i64 t4, .int .i64 b4, .int .i64 nx4, .slice ma4 mn4 mc4, .slice ga4 gn4 gc4] 29)).alloc (.cells #[.int .i64 g5, .string nm5, .int .i64 t5, .int .i64 b5, .int .i64 nx5, .slice ma5 mn5 mc5, .slice ga5 gn5 gc5] 29)) := bpush (bpush (bre _) _) _
      replace SS := hid ((SS.out.later hb).later bp)
      replace IA := hid ((IA.out.later hb).later bp)
      replace IB := hid ((IB.out.later hb).later bp)
      have ZU := hid (q1.bz.later bp)
      have ZV := hid (q2.bz.later bp)
      have U := hid ((Bx.new w6 29 g4 nm4 t4 b4 nx4 (.slice ma4 mn4 mc4) (.slice ga4 gn4 gc4)).later (bpush (bre _) (.cells #[.int .i64 g5, .string nm5, .int .i64 t5, .int .i64 b5, .int .i64 nx5, .slice ma5 mn5 mc5, .slice ga5 gn5 gc5] 29)))
      have V := hid (Bx.new (w6.alloc (.cells #[.int .i64 g4, .string nm4, .int .i64 t4, .int .i64 b4, .int .i64 nx4, .slice ma4 mn4 mc4, .slice ga4 gn4 gc4] 29)) 29 g5 nm5 t5 b5 nx5 (.slice ma5 mn5 mc5) (.slice ga5 gn5 gc5))
      rw [hs] at V
      clear hs bp d1 d2 q1 q2 hb
      go_wp2_with fail
      obtain ⟨wd, ha⟩ : ∃ W, (w6.alloc (.cells #[.int .i64 g4, .string nm4, .int .i64 t4, .int .i64 b4, .int .i64 nx4, .slice ma4 mn4 mc4, .slice ga4 gn4 gc4] 29)).alloc (.cells #[.int .i64 g5, .string nm5, .int .i64 t5, .int .i64 b5, .int .i64 nx5, .slice ma5 mn5 mc5, .slice ga5 gn5 gc5] 29) = W := ⟨_, rfl⟩
      obtain ⟨ku, hka⟩ : ∃ k, w6.heap.size = k := ⟨_, rfl⟩
      rw [ha] at SS IA IB ZU ZV
      rw [ha, hka] at U V
      rw [ha, hka]
      clear ha hka
      replace SS := hid (SS.out.later (bdr (bre _)))
      replace IA := hid (IA.out.later (bdr (bre _)))
      replace IB := hid (IB.out.later (bdr (bre _)))
      replace U := hid (U.out.later (bdr (bre _)))
      replace V := hid (V.out.later (bdr (bre _)))
      replace ZU := hid (ZU.out.later (bdr (bre _)))
      replace ZV := hid (ZV.out.later (bdr (bre _)))
      refine wp_region_noPanic ?_
      refine wp_region_held_drew (S := (fun W => (W.cell? ⟨ka, 0, none⟩ = some (.int .i64 7) ∧ W.cell? ⟨ka, 1, none⟩ = some (.string nm1) ∧ W.cell? ⟨ka, 2, none⟩ = some (.int .i64 t1) ∧ W.cell? ⟨ka, 3, none⟩ = some (.int .i64 b1) ∧ W.cell? ⟨ka, 4, none⟩ = some (.int .i64 nx1) ∧ W.cell? ⟨ka, 5, none⟩ = some (.slice ma1 mn1 mc1) ∧ W.cell? ⟨ka, 6, none⟩ = some (.slice ga1 gn1 gc1)) ∧ (W.cell? ⟨ka + 1, 0, none⟩ = some (.int .i64 7) ∧ W.cell? ⟨ka + 1, 1, none⟩ = some (.string nm2) ∧ W.cell? ⟨ka + 1, 2, none⟩ = some (.int .i64 t2) ∧ W.cell? ⟨ka + 1, 3, none⟩ = some (.int .i64 b2) ∧ W.cell? ⟨ka + 1, 4, none⟩ = some (.int .i64 nx2) ∧ W.cell? ⟨ka + 1, 5, none⟩ = some (.slice ma2 mn2 mc2) ∧ W.cell? ⟨ka + 1, 6, none⟩ = some (.slice ga2 gn2 gc2)) ∧ (W.cell? ⟨kj, 0, none⟩ = some (.int .i64 7) ∧ W.cell? ⟨kj, 1, none⟩ = some (.string nm3) ∧ W.cell? ⟨kj, 2, none⟩ = some (.int .i64 t3) ∧ W.cell? ⟨kj, 3, none⟩ = some (.int .i64 b3) ∧ W.cell? ⟨kj, 4, none⟩ = some (.int .i64 nx3) ∧ W.cell? ⟨kj, 5, none⟩ = some (.slice ma3 mn3 mc3) ∧ W.cell? ⟨kj, 6, none⟩ = some (.slice ga3 gn3 gc3)) ∧ (W.cell? ⟨ku, 0, none⟩ = some (.int .i64 g4) ∧ W.cell? ⟨ku, 1, none⟩ = some (.string nm4) ∧ W.cell? ⟨ku, 2, none⟩ = some (.int .i64 t4) ∧ W.cell? ⟨ku, 3, none⟩ = some (.int .i64 b4) ∧ W.cell? ⟨ku, 4, none⟩ = some (.int .i64 nx4) ∧ W.cell? ⟨ku, 5, none⟩ = some (.slice ma4 mn4 mc4) ∧ W.cell? ⟨ku, 6, none⟩ = some (.slice ga4 gn4 gc4)) ∧ (W.cell? ⟨ku + 1, 0, none⟩ = some (.int .i64 g5) ∧ W.cell? ⟨ku + 1, 1, none⟩ = some (.string nm5) ∧ W.cell? ⟨ku + 1, 2, none⟩ = some (.int .i64 t5) ∧ W.cell? ⟨ku + 1, 3, none⟩ = some (.int .i64 b5) ∧ W.cell? ⟨ku + 1, 4, none⟩ = some (.int .i64 nx5) ∧ W.cell? ⟨ku + 1, 5, none⟩ = some (.slice ma5 mn5 mc5) ∧ W.cell? ⟨ku + 1, 6, none⟩ = some (.slice ga5 gn5 gc5)))) (by kernel_rfl) (⟨SS.out.a.bx.cells, SS.out.b.bx.cells, SS.out.j.bx.cells, U.out.cells, V.out.cells⟩) (fun hHeld => ?_)
      refine tk 0 ?_
      refine tk 1 ?_
      refine tk 2 ?_
      refine tk 3 ?_
      refine tk 4 ?_
      refine tk 5 ?_
      refine tk 6 ?_
      refine tk 7 ?_
      refine tk 8 ?_
      refine tk 9 ?_
      refine tk 10 ?_
      refine tk 11 ?_
      clear hHeld
      refine ry 12 (fun K hK => ?_)
      go_simp
      refine (GJ.out _ _ _ _ _ SS.out.b.bz.ib SS.out.a.bz.ib).mono ?_
      rintro e x1 ⟨ay, cy, rfl, hI, hb⟩
      replace SS := hid (SS.out.later hb)
      replace IA := hid (IA.out.later hb)
      replace IB := hid (IB.out.later hb)
      replace U := hid (U.out.later hb)
      replace V := hid (V.out.later hb)
      replace ZU := hid (ZU.out.later hb)
      replace ZV := hid (ZV.out.later hb)
      have Y := hid hI
      clear hI
      clear hb
      go_wp2_with fail
      refine hK.out _ _ (⟨SS.out.a.bx.cells, SS.out.b.bx.cells, SS.out.j.bx.cells, U.out.cells, V.out.cells⟩) (fun hHeld => ?_)
      clear hK K
      try simp only [Act.put, tp2, tp3, tp4]
      clear hHeld
      refine ry 13 (fun K hK => ?_)
      go_simp
      refine (sameI_ib _ _ _ _ _ G3 _ SS.out.j.bz.ib Y.out).mono ?_
      rintro e x2 ⟨rfl, hb⟩
      replace SS := hid (SS.out.later hb)
      replace IA := hid (IA.out.later hb)
      replace IB := hid (IB.out.later hb)
      replace U := hid (U.out.later hb)
      replace V := hid (V.out.later hb)
      replace ZU := hid (ZU.out.later hb)
      replace ZV := hid (ZV.out.later hb)
      clear Y
      clear hb
      go_wp2_with fail
      refine hK.out _ _ (⟨SS.out.a.bx.cells, SS.out.b.bx.cells, SS.out.j.bx.cells, U.out.cells, V.out.cells⟩) (fun hHeld => ?_)
      clear hK K
      try simp only [Act.put, tp2, tp3, tp4]
      refine tk 14 ?_
      refine tk 15 ?_
      refine tk 16 ?_
      refine tk 17 ?_
      refine tk 19 ?_
      refine tk 20 ?_
      clear hHeld
      refine ry 18 (fun K hK => ?_)
      go_simp
      refine (GXI.out _ _ _ _ _ IA.out IB.out).mono ?_
      rintro e x3 ⟨ay, cy, rfl, hI, hb⟩
      replace SS := hid (SS.out.later hb)
      replace IA := hid (IA.out.later hb)
      replace IB := hid (IB.out.later hb)
      replace U := hid (U.out.later hb)
      replace V := hid (V.out.later hb)
      replace ZU := hid (ZU.out.later hb)
      replace ZV := hid (ZV.out.later hb)
      have Y := hid hI
      clear hI
      clear hb
      go_wp2_with fail
      refine hK.out _ _ (⟨SS.out.a.bx.cells, SS.out.b.bx.cells, SS.out.j.bx.cells, U.out.cells, V.out.cells⟩) (fun hHeld => ?_)
      clear hK K
      try simp only [Act.put, tp2, tp3, tp4]
      clear hHeld
      refine ry 21 (fun K hK => ?_)
      go_simp
      refine (GXS.out _ _ _ _ _ IA.out IB.out).mono ?_
      rintro e x4 ⟨az, cz, rfl, hI, hb⟩
      replace SS := hid (SS.out.later hb)
      replace IA := hid (IA.out.later hb)
      replace IB := hid (IB.out.later hb)
      replace U := hid (U.out.later hb)
      replace V := hid (V.out.later hb)
      replace ZU := hid (ZU.out.later hb)
      replace ZV := hid (ZV.out.later hb)
      replace Y := hid (Y.out.later hb)
      have Y2 := hid hI
      clear hI
      clear hb
      go_wp2_with fail
      refine hK.out _ _ (⟨SS.out.a.bx.cells, SS.out.b.bx.cells, SS.out.j.bx.cells, U.out.cells, V.out.cells⟩) (fun hHeld => ?_)
      clear hK K
      try simp only [Act.put, tp2, tp3, tp4]
      clear hHeld
      refine ry 22 (fun K hK => ?_)
      go_simp
      refine (sameI_ib _ _ _ _ _ R _ Y.out Y2.out).mono ?_
      rintro e x5 ⟨rfl, hb⟩
      replace SS := hid (SS.out.later hb)
      replace IA := hid (IA.out.later hb)
      replace IB := hid (IB.out.later hb)
      replace U := hid (U.out.later hb)
      replace V := hid (V.out.later hb)
      replace ZU := hid (ZU.out.later hb)
      replace ZV := hid (ZV.out.later hb)
      clear Y Y2
      clear hb
      go_wp2_with fail
      refine hK.out _ _ (⟨SS.out.a.bx.cells, SS.out.b.bx.cells, SS.out.j.bx.cells, U.out.cells, V.out.cells⟩) (fun hHeld => ?_)
      clear hK K
      try simp only [Act.put, tp2, tp3, tp4]
      refine tk 23 ?_
      refine tk 24 ?_
      refine tk 25 ?_
      refine tk 26 ?_
      refine tk 28 ?_
      refine tk 29 ?_
      clear hHeld
      refine ry 27 (fun K hK => ?_)
      go_simp
      refine (JU.out _ _ _ _ _ _ _ _ _ ZU.out ZV.out).mono ?_
      rintro e x6 ⟨ma6, mc6, ga6, gc6, rfl, hz, hb⟩
      replace SS := hid (SS.out.later hb)
      replace IA := hid (IA.out.later hb)
      replace IB := hid (IB.out.later hb)
      replace U := hid (U.out.later hb)
      replace V := hid (V.out.later hb)
      replace ZU := hid (ZU.out.later hb)
      replace ZV := hid (ZV.out.later hb)
      have Y := hid hz.bz
      clear hz
      clear hb
      go_wp2_with fail
      refine hK.out _ _ (⟨SS.out.a.bx.cells, SS.out.b.bx.cells, SS.out.j.bx.cells, U.out.cells, V.out.cells⟩) (fun hHeld => ?_)
      clear hK K
      try simp only [Act.put, tp2, tp3, tp4]
      clear hHeld
      refine ry 30 (fun K hK => ?_)
      go_simp
      refine (JV.out _ _ _ _ _ _ _ _ _ ZU.out ZV.out).mono ?_
      rintro e x7 ⟨ma7, mc7, ga7, gc7, rfl, hz, hb⟩
      replace SS := hid (SS.out.later hb)
      replace IA := hid (IA.out.later hb)
      replace IB := hid (IB.out.later hb)
      replace U := hid (U.out.later hb)
      replace V := hid (V.out.later hb)
      replace ZU := hid (ZU.out.later hb)
      replace ZV := hid (ZV.out.later hb)
      replace Y := hid (Y.out.later hb)
      have Y2 := hid hz.bz
      clear hz
      clear hb
      go_wp2_with fail
      refine hK.out _ _ (⟨SS.out.a.bx.cells, SS.out.b.bx.cells, SS.out.j.bx.cells, U.out.cells, V.out.cells⟩) (fun hHeld => ?_)
      clear hK K
      try simp only [Act.put, tp2, tp3, tp4]
      clear hHeld
      refine ry 31 (fun K hK => ?_)
      go_simp
      refine (sameBox_bz g4 _ _ _ _ _ _ _ _ _ _ _ _ _ _ _ _ _ Y.out Y2.out).mono ?_
      rintro e x8 ⟨rfl, hb⟩
      replace SS := hid (SS.out.later hb)
      replace IA := hid (IA.out.later hb)
      replace IB := hid (IB.out.later hb)
      replace U := hid (U.out.later hb)
      replace V := hid (V.out.later hb)
      replace ZU := hid (ZU.out.later hb)
      replace ZV := hid (ZV.out.later hb)
      clear Y Y2
      clear hb
      go_wp2_with fail
      refine hK.out _ _ (⟨SS.out.a.bx.cells, SS.out.b.bx.cells, SS.out.j.bx.cells, U.out.cells, V.out.cells⟩) (fun hHeld => ?_)
      clear hK K
      try simp only [Act.put, tp2, tp3, tp4]
      refine tk 32 ?_
      refine tk 33 ?_
      refine wpAnyH_done (by kernel_rfl) ?_ _
      refine NoPanic.normal ?_
      go_wp2
      go_ret
      exact ⟨rfl, SS.out.be⟩
 ·go_enter Tryz.func5, Tryz.ntmps5
  go_wp2_with fail
  refine (bigF_yes ao n cap _ hbig).mono ?_; rintro e w' ⟨rfl, h'⟩
  rw [h']
  clear h'
  go_wp2
  go_ret
  exact ⟨rfl, bre _⟩
end Go.Proofs.YtmpcmllfgogegaaGreat
