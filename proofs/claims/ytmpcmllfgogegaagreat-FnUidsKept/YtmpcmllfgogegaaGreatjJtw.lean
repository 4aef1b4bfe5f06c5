/- Jtw, Jlt. -/

import Derived.Test.YtmpcmllfgogegaaGreatjTwo
namespace Go.Proofs.YtmpcmllfgogegaaGreat
open Go.RowKit Go.ChangeMaps
theorem nx_small {g nx : Int} {L : List M4} {G : List Int} {nx' : Int} {L' : List M4} {G' : List Int} (h1 : 0 ≤ nx ∧ nx ≤ 1000000) (h2 : 0 ≤ nx' ∧ nx' ≤ 1000000) (hl : L.length + L'.length ≤ 1048576) :
  jbY g nx L G g nx' L' G' = jbX g nx L G g nx' L' G' ∧ (nx ≤ jbX g nx L G g nx' L' G' ∧ nx' ≤ jbX g nx L G g nx' L' G') ∧ jbX g nx L G g nx' L' G' ≤ max nx nx' + ((L.length + L'.length : Nat) : Int) := by
 have eY : jbY g nx L G g nx' L' G' = nxt8 L L' G G' nx nx' := by unfold jbY; rw [if_pos rfl]
 have eX : jbX g nx L G g nx' L' G' = (jms L L' G G' nx nx' (asl (L.map (·.1) ++ L'.map (·.1)))).2 := by unfold jbX; rw [if_pos rfl]
 rw [eY, eX]
 have hlen := asl_len (L.map (·.1) ++ L'.map (·.1))
 rw [List.length_append, List.length_map, List.length_map] at hlen
 have hm : mx8 nx nx' = max nx nx' := by unfold mx8; rw [Int.max_def]; split <;> split <;> omega
 have hge : nx ≤ mx8 nx nx' ∧ nx' ≤ mx8 nx nx' := by unfold mx8; split <;> omega
 have hle : mx8 nx nx' ≤ 1000000 := by unfold mx8; split <;> omega
 have r := jms_up L L' G G' nx nx' (asl (L.map (·.1) ++ L'.map (·.1))) ([], mx8 nx nx') (mx8 nx nx') (by show _ ≤ mx8 nx nx'; omega) (by show mx8 nx nx' + _ ≤ _; omega)
 have ej : (jms L L' G G' nx nx' (asl (L.map (·.1) ++ L'.map (·.1)))).2 = ((asl (L.map (·.1) ++ L'.map (·.1))).foldl (jst L L' G G' nx nx') ([], mx8 nx nx')).2 := rfl
 rw [← ej] at r
 have r1 : mx8 nx nx' ≤ (jms L L' G G' nx nx' (asl (L.map (·.1) ++ L'.map (·.1)))).2 := r.2 (Int.le_refl _)
 have r2 : (jms L L' G G' nx nx' (asl (L.map (·.1) ++ L'.map (·.1)))).2 ≤ mx8 nx nx' + ((asl (L.map (·.1) ++ L'.map (·.1))).length : Int) := r.1
 refine ⟨?_, ⟨by omega, by omega⟩, ?_⟩
 ·unfold nxt8
  rw [Int.max_def, Int.max_def]
  split <;> split <;> omega
 ·rw [← hm]
  omega
structure Gd (nm : ByteArray) (nx : Int) (mn gn : Nat) (L : List M4) (G : List Int) : Prop where
 nmz : nm.size ≤ 1048576
 nx0 : 0 ≤ nx ∧ nx ≤ 200000
 len : L.length = mn
 most : mn ≤ 10000
 sm : Sm L
 glen : G.length = gn
 gmost : gn ≤ 10000
theorem Gd.join {g : Int} {nm : ByteArray} {t b nx : Int} {mn gn : Nat} {L : List M4} {G : List Int} {g' : Int} {nm' : ByteArray} {t' b' nx' : Int} {mn' gn' : Nat} {L' : List M4} {G' : List Int} (ha : Gd nm nx mn gn L G) (hb : Gd nm' nx' mn' gn' L' G') :
  (jbY g nx L G g' nx' L' G' = jbX g nx L G g' nx' L' G') ∧ (0 ≤ jbX g nx L G g' nx' L' G' ∧ jbX g nx L G g' nx' L' G' ≤ max nx nx' + (mn + mn' : Nat)) ∧ (jbL g nx L G g' nx' L' G').length ≤ mn + mn' ∧ Sm (jbL g nx L G g' nx' L' G') ∧ (jbG g G g' G').length ≤ gn + gn' ∧ (jbN g nm t b g' nm' t' b').size ≤ 1048576 := by
 have h1 := ha.len
 have h2 := hb.len
 have h3 := ha.glen
 have h4 := hb.glen
 have h5 := ha.most
 have h6 := hb.most
 have hx := ha.nx0
 have hx' := hb.nx0
 have hj := jbL_small (g := g) (nx := nx) (G := G) (g' := g') (nx' := nx') (G' := G') ha.sm hb.sm
 have hg := jbG_len (g := g) (G := G) (g' := g') (G' := G')
 have hX : jbY g nx L G g' nx' L' G' = jbX g nx L G g' nx' L' G' ∧ 0 ≤ jbX g nx L G g' nx' L' G' ∧ jbX g nx L G g' nx' L' G' ≤ max nx nx' + (mn + mn' : Nat) := by
  by_cases e : g = g'
  ·subst e
   obtain ⟨a1, a2, a3⟩ := nx_small (g := g) (nx := nx) (L := L) (G := G) (nx' := nx') (L' := L') (G' := G') (by omega) (by omega) (by omega)
   exact ⟨a1, by omega, by rw [h1, h2] at a3; exact a3⟩
  ·have eX : jbX g nx L G g' nx' L' G' = nx := by unfold jbX; rw [if_neg e]
   have eY : jbY g nx L G g' nx' L' G' = nx := by unfold jbY; rw [if_neg e]
   rw [eX, eY]
   exact ⟨rfl, hx.1, by omega⟩
 exact ⟨hX.1, hX.2, by have := hj.2; omega, hj.1, by omega, jbN_size ha.nmz hb.nmz⟩
theorem joinI_bz (g : Int) (nm : ByteArray) (t b nx : Int) (mn gn : Nat) (L : List M4) (G : List Int) (g' : Int) (nm' : ByteArray) (t' b' nx' : Int) (mn' gn' : Nat) (L' : List M4) (G' : List Int) (ha : Gd nm nx mn gn L G) (hb : Gd nm' nx' mn' gn' L' G') (ma : Option Addr) (mc : Nat) (ga : Option Addr) (gc : Nat) (ma' : Option Addr) (mc' : Nat) (ga' : Option Addr) (gc' : Nat) (W : World) (hz : Bz W ma mn mc ga gn gc L G) (hz' : Bz W ma' mn' mc' ga' gn' gc' L' G') :
  Calls Tryz.prog 10 #[.agg #[.int .i64 g, .string nm, .int .i64 t, .int .i64 b, .int .i64 nx, .slice ma mn mc, .slice ga gn gc], .agg #[.int .i64 g', .string nm', .int .i64 t', .int .i64 b', .int .i64 nx', .slice ma' mn' mc', .slice ga' gn' gc']] W fun e w' => ∃ a c a' c', e = .returned (.agg #[.int .i64 g, .string (jbN g nm t b g' nm' t' b'), .int .i64 (jbT g nm t b g' nm' t' b'), .int .i64 (jbB g nm t b g' nm' t' b'), .int .i64 (jbX g nx L G g' nx' L' G'), .slice a (jbL g nx L G g' nx' L' G').length c, .slice a' (jbG g G g' G').length c']) ∧ BzL w' W.heap.size a (jbL g nx L G g' nx' L' G').length c a' (jbG g G g' G').length c' (jbL g nx L G g' nx' L' G') (jbG g G g' G') ∧ Below W.heap.size W w' := by
 obtain ⟨l1, h1, hm⟩ := hz.mails
 obtain ⟨l2, h2, hi⟩ := hz.gone
 obtain ⟨l3, h3, hm'⟩ := hz'.mails
 obtain ⟨l4, h4, hi'⟩ := hz'.gone
 obtain ⟨e1, -, e3, e4, e5, -⟩ := Gd.join (g := g) (g' := g') (t := t) (b := b) (t' := t') (b' := b') ha hb
 have h5 := ha.most
 have h6 := hb.most
 have h7 := ha.gmost
 have h8 := hb.gmost
 refine (implJoinBox_any l1 h1 l2 h2 g nm t b nx ma mn mc ga gn gc L G l3 h3 l4 h4 g' nm' t' b' nx' ma' mn' mc' ga' gn' gc' L' G' W ha.nmz hz.len hz.most hz.sm hm hz.m0 hz.glen hz.gmost hi hz.g0 hb.nmz hz'.len hz'.most hz'.sm hm' hz'.m0 hz'.glen hz'.gmost hi' hz'.g0).mono ?_
 rintro e w' ⟨mv, gv, rfl, ho, hbe⟩
 obtain ⟨a, c, a', c', rfl, rfl, hbz⟩ := own_bz ho (by omega) e4 (by omega)
 rw [e1]
 exact ⟨a, c, a', c', rfl, hbz, hbe⟩
theorem joinS_bz (g : Int) (nm : ByteArray) (t b nx : Int) (mn gn : Nat) (L : List M4) (G : List Int) (g' : Int) (nm' : ByteArray) (t' b' nx' : Int) (mn' gn' : Nat) (L' : List M4) (G' : List Int) (ha : Gd nm nx mn gn L G) (hb : Gd nm' nx' mn' gn' L' G') (ma : Option Addr) (mc : Nat) (ga : Option Addr) (gc : Nat) (ma' : Option Addr) (mc' : Nat) (ga' : Option Addr) (gc' : Nat) (W : World) (hz : Bz W ma mn mc ga gn gc L G) (hz' : Bz W ma' mn' mc' ga' gn' gc' L' G') :
  Calls Tryz.prog 12 #[.agg #[.int .i64 g, .string nm, .int .i64 t, .int .i64 b, .int .i64 nx, .slice ma mn mc, .slice ga gn gc], .agg #[.int .i64 g', .string nm', .int .i64 t', .int .i64 b', .int .i64 nx', .slice ma' mn' mc', .slice ga' gn' gc']] W fun e w' => ∃ a c a' c', e = .returned (.agg #[.int .i64 g, .string (jbN g nm t b g' nm' t' b'), .int .i64 (jbT g nm t b g' nm' t' b'), .int .i64 (jbB g nm t b g' nm' t' b'), .int .i64 (jbX g nx L G g' nx' L' G'), .slice a (jbL g nx L G g' nx' L' G').length c, .slice a' (jbG g G g' G').length c']) ∧ BzL w' W.heap.size a (jbL g nx L G g' nx' L' G').length c a' (jbG g G g' G').length c' (jbL g nx L G g' nx' L' G') (jbG g G g' G') ∧ Below W.heap.size W w' := by
 obtain ⟨l1, h1, hm⟩ := hz.mails
 obtain ⟨l2, h2, hi⟩ := hz.gone
 obtain ⟨l3, h3, hm'⟩ := hz'.mails
 obtain ⟨l4, h4, hi'⟩ := hz'.gone
 obtain ⟨-, -, e3, e4, e5, -⟩ := Gd.join (g := g) (g' := g') (t := t) (b := b) (t' := t') (b' := b') ha hb
 have h5 := ha.most
 have h6 := hb.most
 have h7 := ha.gmost
 have h8 := hb.gmost
 refine (specJoinBox_any l1 h1 l2 h2 g nm t b nx ma mn mc ga gn gc L G l3 h3 l4 h4 g' nm' t' b' nx' ma' mn' mc' ga' gn' gc' L' G' W hz.len hz.most hz.sm hm hz.glen hz.gmost hi hz.g0 hz'.len hz'.most hz'.sm hm' hz'.glen hz'.gmost hi' (by omega)).mono ?_
 rintro e w' ⟨mv, gv, rfl, ho, hbe⟩
 obtain ⟨a, c, a', c', rfl, rfl, hbz⟩ := own_bz ho (by omega) e4 (by omega)
 exact ⟨a, c, a', c', rfl, hbz, hbe⟩
theorem fitsI_bz (g : Int) (nm : ByteArray) (t b nx : Int) (mn gn : Nat) (L : List M4) (G : List Int) (g' : Int) (nm' : ByteArray) (t' b' nx' : Int) (mn' gn' : Nat) (L' : List M4) (G' : List Int) (ha : Gd nm nx mn gn L G) (hb : Gd nm' nx' mn' gn' L' G') (ma : Option Addr) (mc : Nat) (ga : Option Addr) (gc : Nat) (ma' : Option Addr) (mc' : Nat) (ga' : Option Addr) (gc' : Nat) (W : World) (hz : Bz W ma mn mc ga gn gc L G) (hz' : Bz W ma' mn' mc' ga' gn' gc' L' G') :
  Calls Tryz.prog 13 #[.agg #[.int .i64 g, .string nm, .int .i64 t, .int .i64 b, .int .i64 nx, .slice ma mn mc, .slice ga gn gc], .agg #[.int .i64 g', .string nm', .int .i64 t', .int .i64 b', .int .i64 nx', .slice ma' mn' mc', .slice ga' gn' gc']] W fun e w' => e = .returned (.bool (bxOk g (jbN g nm t b g' nm' t' b') (jbT g nm t b g' nm' t' b') (jbB g nm t b g' nm' t' b') (jbX g nx L G g' nx' L' G') (jbL g nx L G g' nx' L' G') (jbG g G g' G'))) ∧ Below W.heap.size W w' := by
 obtain ⟨l1, h1, hm⟩ := hz.mails
 obtain ⟨l2, h2, hi⟩ := hz.gone
 obtain ⟨l3, h3, hm'⟩ := hz'.mails
 obtain ⟨l4, h4, hi'⟩ := hz'.gone
 obtain ⟨e1, -, e3, e4, e5, -⟩ := Gd.join (g := g) (g' := g') (t := t) (b := b) (t' := t') (b' := b') ha hb
 have h5 := ha.most
 have h6 := hb.most
 have h7 := ha.gmost
 have h8 := hb.gmost
 rw [← e1]
 exact implFits_any l1 h1 l2 h2 g nm t b nx ma mn mc ga gn gc L G l3 h3 l4 h4 g' nm' t' b' nx' ma' mn' mc' ga' gn' gc' L' G' W ha.nmz hz.len hz.most hz.sm hm hz.m0 hz.glen hz.gmost hi hz.g0 hb.nmz hz'.len hz'.most hz'.sm hm' hz'.m0 hz'.glen hz'.gmost hi' hz'.g0 (by omega) (by omega)
theorem fitsS_bz (g : Int) (nm : ByteArray) (t b nx : Int) (mn gn : Nat) (L : List M4) (G : List Int) (g' : Int) (nm' : ByteArray) (t' b' nx' : Int) (mn' gn' : Nat) (L' : List M4) (G' : List Int) (ha : Gd nm nx mn gn L G) (hb : Gd nm' nx' mn' gn' L' G') (ma : Option Addr) (mc : Nat) (ga : Option Addr) (gc : Nat) (ma' : Option Addr) (mc' : Nat) (ga' : Option Addr) (gc' : Nat) (W : World) (hz : Bz W ma mn mc ga gn gc L G) (hz' : Bz W ma' mn' mc' ga' gn' gc' L' G') :
  Calls Tryz.prog 14 #[.agg #[.int .i64 g, .string nm, .int .i64 t, .int .i64 b, .int .i64 nx, .slice ma mn mc, .slice ga gn gc], .agg #[.int .i64 g', .string nm', .int .i64 t', .int .i64 b', .int .i64 nx', .slice ma' mn' mc', .slice ga' gn' gc']] W fun e w' => e = .returned (.bool (bxOk g (jbN g nm t b g' nm' t' b') (jbT g nm t b g' nm' t' b') (jbB g nm t b g' nm' t' b') (jbX g nx L G g' nx' L' G') (jbL g nx L G g' nx' L' G') (jbG g G g' G'))) ∧ Below W.heap.size W w' := by
 obtain ⟨l1, h1, hm⟩ := hz.mails
 obtain ⟨l2, h2, hi⟩ := hz.gone
 obtain ⟨l3, h3, hm'⟩ := hz'.mails
 obtain ⟨l4, h4, hi'⟩ := hz'.gone
 have h5 := ha.most
 have h6 := hb.most
 have h7 := ha.gmost
 have h8 := hb.gmost
 exact specFits_any l1 h1 l2 h2 g nm t b nx ma mn mc ga gn gc L G l3 h3 l4 h4 g' nm' t' b' nx' ma' mn' mc' ga' gn' gc' L' G' W hz.len hz.most hz.sm hm hz.glen hz.gmost hi hz.g0 hz'.len hz'.most hz'.sm hm' hz'.glen hz'.gmost hi' (by omega) (by omega) ha.nmz hb.nmz
def JI (nm1 : ByteArray) (t1 b1 nx1 : Int) (mn1 gn1 : Nat) (L1 : List M4) (G1 : List Int) (nm2 : ByteArray) (t2 b2 nx2 : Int) (mn2 gn2 : Nat) (L2 : List M4) (G2 : List Int) (nm3 : ByteArray) (t3 b3 nx3 : Int) (mn3 gn3 : Nat) (L3 : List M4) (G3 : List Int) : Prop :=
 ∀ (ma : Option Addr) (mc : Nat) (ga : Option Addr) (gc : Nat) (ma' : Option Addr) (mc' : Nat) (ga' : Option Addr) (gc' : Nat) (W : World), Bz W ma mn1 mc ga gn1 gc L1 G1 → Bz W ma' mn2 mc' ga' gn2 gc' L2 G2 →
  Calls Tryz.prog 10 #[.agg #[.int .i64 7, .string nm1, .int .i64 t1, .int .i64 b1, .int .i64 nx1, .slice ma mn1 mc, .slice ga gn1 gc], .agg #[.int .i64 7, .string nm2, .int .i64 t2, .int .i64 b2, .int .i64 nx2, .slice ma' mn2 mc', .slice ga' gn2 gc']] W fun e w' => ∃ a c a' c', e = .returned (.agg #[.int .i64 7, .string nm3, .int .i64 t3, .int .i64 b3, .int .i64 nx3, .slice a mn3 c, .slice a' gn3 c']) ∧ BzL w' W.heap.size a mn3 c a' gn3 c' L3 G3 ∧ Below W.heap.size W w'
def JS (nm1 : ByteArray) (t1 b1 nx1 : Int) (mn1 gn1 : Nat) (L1 : List M4) (G1 : List Int) (nm2 : ByteArray) (t2 b2 nx2 : Int) (mn2 gn2 : Nat) (L2 : List M4) (G2 : List Int) (nm3 : ByteArray) (t3 b3 nx3 : Int) (mn3 gn3 : Nat) (L3 : List M4) (G3 : List Int) : Prop :=
 ∀ (ma : Option Addr) (mc : Nat) (ga : Option Addr) (gc : Nat) (ma' : Option Addr) (mc' : Nat) (ga' : Option Addr) (gc' : Nat) (W : World), Bz W ma mn1 mc ga gn1 gc L1 G1 → Bz W ma' mn2 mc' ga' gn2 gc' L2 G2 →
  Calls Tryz.prog 12 #[.agg #[.int .i64 7, .string nm1, .int .i64 t1, .int .i64 b1, .int .i64 nx1, .slice ma mn1 mc, .slice ga gn1 gc], .agg #[.int .i64 7, .string nm2, .int .i64 t2, .int .i64 b2, .int .i64 nx2, .slice ma' mn2 mc', .slice ga' gn2 gc']] W fun e w' => ∃ a c a' c', e = .returned (.agg #[.int .i64 7, .string nm3, .int .i64 t3, .int .i64 b3, .int .i64 nx3, .slice a mn3 c, .slice a' gn3 c']) ∧ BzL w' W.heap.size a mn3 c a' gn3 c' L3 G3 ∧ Below W.heap.size W w'
def FI (nm1 : ByteArray) (t1 b1 nx1 : Int) (mn1 gn1 : Nat) (L1 : List M4) (G1 : List Int) (nm2 : ByteArray) (t2 b2 nx2 : Int) (mn2 gn2 : Nat) (L2 : List M4) (G2 : List Int) (p : Bool) : Prop :=
 ∀ (ma : Option Addr) (mc : Nat) (ga : Option Addr) (gc : Nat) (ma' : Option Addr) (mc' : Nat) (ga' : Option Addr) (gc' : Nat) (W : World), Bz W ma mn1 mc ga gn1 gc L1 G1 → Bz W ma' mn2 mc' ga' gn2 gc' L2 G2 →
  Calls Tryz.prog 13 #[.agg #[.int .i64 7, .string nm1, .int .i64 t1, .int .i64 b1, .int .i64 nx1, .slice ma mn1 mc, .slice ga gn1 gc], .agg #[.int .i64 7, .string nm2, .int .i64 t2, .int .i64 b2, .int .i64 nx2, .slice ma' mn2 mc', .slice ga' gn2 gc']] W fun e w' => e = .returned (.bool p) ∧ Below W.heap.size W w'
def FS (nm1 : ByteArray) (t1 b1 nx1 : Int) (mn1 gn1 : Nat) (L1 : List M4) (G1 : List Int) (nm2 : ByteArray) (t2 b2 nx2 : Int) (mn2 gn2 : Nat) (L2 : List M4) (G2 : List Int) (p : Bool) : Prop :=
 ∀ (ma : Option Addr) (mc : Nat) (ga : Option Addr) (gc : Nat) (ma' : Option Addr) (mc' : Nat) (ga' : Option Addr) (gc' : Nat) (W : World), Bz W ma mn1 mc ga gn1 gc L1 G1 → Bz W ma' mn2 mc' ga' gn2 gc' L2 G2 →
  Calls Tryz.prog 14 #[.agg #[.int .i64 7, .string nm1, .int .i64 t1, .int .i64 b1, .int .i64 nx1, .slice ma mn1 mc, .slice ga gn1 gc], .agg #[.int .i64 7, .string nm2, .int .i64 t2, .int .i64 b2, .int .i64 nx2, .slice ma' mn2 mc', .slice ga' gn2 gc']] W fun e w' => e = .returned (.bool p) ∧ Below W.heap.size W w'
def BI (nm1 : ByteArray) (t1 b1 nx1 : Int) (mn1 gn1 : Nat) (L1 : List M4) (G1 : List Int) (p : Bool) : Prop :=
 ∀ (ma : Option Addr) (mc : Nat) (ga : Option Addr) (gc : Nat) (W : World), Bz W ma mn1 mc ga gn1 gc L1 G1 → Calls Tryz.prog 15 #[.agg #[.int .i64 7, .string nm1, .int .i64 t1, .int .i64 b1, .int .i64 nx1, .slice ma mn1 mc, .slice ga gn1 gc]] W fun e w' => e = .returned (.bool p) ∧ Below W.heap.size W w'
section
variable {nm1 : ByteArray} {t1 b1 nx1 : Int} {mn1 gn1 : Nat} {L1 : List M4} {G1 : List Int} {nm2 : ByteArray} {t2 b2 nx2 : Int} {mn2 gn2 : Nat} {L2 : List M4} {G2 : List Int}
theorem ji_of (ha : Gd nm1 nx1 mn1 gn1 L1 G1) (hb : Gd nm2 nx2 mn2 gn2 L2 G2) : JI nm1 t1 b1 nx1 mn1 gn1 L1 G1 nm2 t2 b2 nx2 mn2 gn2 L2 G2 (jbN 7 nm1 t1 b1 7 nm2 t2 b2) (jbT 7 nm1 t1 b1 7 nm2 t2 b2) (jbB 7 nm1 t1 b1 7 nm2 t2 b2) (jbX 7 nx1 L1 G1 7 nx2 L2 G2) (jbL 7 nx1 L1 G1 7 nx2 L2 G2).length (jbG 7 G1 7 G2).length (jbL 7 nx1 L1 G1 7 nx2 L2 G2) (jbG 7 G1 7 G2) :=
 fun ma mc ga gc ma' mc' ga' gc' W hz hz' => joinI_bz 7 nm1 t1 b1 nx1 mn1 gn1 L1 G1 7 nm2 t2 b2 nx2 mn2 gn2 L2 G2 ha hb ma mc ga gc ma' mc' ga' gc' W hz hz'
theorem js_of (ha : Gd nm1 nx1 mn1 gn1 L1 G1) (hb : Gd nm2 nx2 mn2 gn2 L2 G2) : JS nm1 t1 b1 nx1 mn1 gn1 L1 G1 nm2 t2 b2 nx2 mn2 gn2 L2 G2 (jbN 7 nm1 t1 b1 7 nm2 t2 b2) (jbT 7 nm1 t1 b1 7 nm2 t2 b2) (jbB 7 nm1 t1 b1 7 nm2 t2 b2) (jbX 7 nx1 L1 G1 7 nx2 L2 G2) (jbL 7 nx1 L1 G1 7 nx2 L2 G2).length (jbG 7 G1 7 G2).length (jbL 7 nx1 L1 G1 7 nx2 L2 G2) (jbG 7 G1 7 G2) :=
 fun ma mc ga gc ma' mc' ga' gc' W hz hz' => joinS_bz 7 nm1 t1 b1 nx1 mn1 gn1 L1 G1 7 nm2 t2 b2 nx2 mn2 gn2 L2 G2 ha hb ma mc ga gc ma' mc' ga' gc' W hz hz'
theorem ji_comm (ha : Gd nm1 nx1 mn1 gn1 L1 G1) (hb : Gd nm2 nx2 mn2 gn2 L2 G2) : JI nm2 t2 b2 nx2 mn2 gn2 L2 G2 nm1 t1 b1 nx1 mn1 gn1 L1 G1 (jbN 7 nm1 t1 b1 7 nm2 t2 b2) (jbT 7 nm1 t1 b1 7 nm2 t2 b2) (jbB 7 nm1 t1 b1 7 nm2 t2 b2) (jbX 7 nx1 L1 G1 7 nx2 L2 G2) (jbL 7 nx1 L1 G1 7 nx2 L2 G2).length (jbG 7 G1 7 G2).length (jbL 7 nx1 L1 G1 7 nx2 L2 G2) (jbG 7 G1 7 G2) := by
 obtain ⟨c1, c2, c3⟩ := jbN_comm 7 nm1 t1 b1 nm2 t2 b2
 obtain ⟨d1, d2, d3⟩ := jbX_comm 7 nx1 L1 G1 nx2 L2 G2
 rw [c1, c2, c3, d1, d2, d3]
 exact ji_of hb ha
theorem gd_of (h : bxOk 7 nm1 t1 b1 nx1 L1 G1 = true) (hl : L1.length = mn1) (hg : G1.length = gn1) : Gd nm1 nx1 mn1 gn1 L1 G1 ∧ mn1 ≤ 10 ∧ gn1 ≤ 40 ∧ 1 ≤ nx1 ∧ nx1 ≤ 10000 := by
 obtain ⟨s1, s2, s3, s4⟩ := ok8_sm h
 have hx : 1 ≤ nx1 ∧ nx1 ≤ 10000 := by
  unfold bxOk at h
  simp only [Bool.and_eq_true, decide_eq_true_eq] at h
  exact h.2.2.2.1
 exact ⟨⟨by omega, by omega, hl, by omega, s3, hg, by omega⟩, by omega, by omega, hx⟩
theorem gd_join (ha : Gd nm1 nx1 mn1 gn1 L1 G1) (hb : Gd nm2 nx2 mn2 gn2 L2 G2) (h1 : mn1 ≤ 5000 ∧ gn1 ≤ 5000 ∧ nx1 ≤ 100000) (h2 : mn2 ≤ 5000 ∧ gn2 ≤ 5000 ∧ nx2 ≤ 100000) : Gd (jbN 7 nm1 t1 b1 7 nm2 t2 b2) (jbX 7 nx1 L1 G1 7 nx2 L2 G2) (jbL 7 nx1 L1 G1 7 nx2 L2 G2).length (jbG 7 G1 7 G2).length (jbL 7 nx1 L1 G1 7 nx2 L2 G2) (jbG 7 G1 7 G2) := by
 obtain ⟨-, e2, e3, e4, e5, e6⟩ := Gd.join (g := 7) (g' := 7) (t := t1) (b := b1) (t' := t2) (b' := b2) ha hb
 exact ⟨e6, by omega, rfl, by omega, e4, rfl, by omega⟩
theorem join_letters (h1 : bxOk 7 nm1 t1 b1 nx1 L1 G1 = true) (hl1 : L1.length = mn1) (hg1 : G1.length = gn1) (h2 : bxOk 7 nm2 t2 b2 nx2 L2 G2 = true) (hl2 : L2.length = mn2) (hg2 : G2.length = gn2) :
  ∃ (nm3 : ByteArray) (t3 b3 nx3 : Int) (mn3 gn3 : Nat) (L3 : List M4) (G3 : List Int) (nm4 : ByteArray) (t4 b4 nx4 : Int) (mn4 gn4 : Nat) (L4 : List M4) (G4 : List Int) (fo : Bool), Hid (nx1 ≤ nx3 ∧ nx2 ≤ nx3) ∧ Hid (JI nm1 t1 b1 nx1 mn1 gn1 L1 G1 nm2 t2 b2 nx2 mn2 gn2 L2 G2 nm3 t3 b3 nx3 mn3 gn3 L3 G3 ∧ JI nm2 t2 b2 nx2 mn2 gn2 L2 G2 nm1 t1 b1 nx1 mn1 gn1 L1 G1 nm3 t3 b3 nx3 mn3 gn3 L3 G3 ∧ JS nm1 t1 b1 nx1 mn1 gn1 L1 G1 nm2 t2 b2 nx2 mn2 gn2 L2 G2 nm3 t3 b3 nx3 mn3 gn3 L3 G3 ∧ JI nm3 t3 b3 nx3 mn3 gn3 L3 G3 nm3 t3 b3 nx3 mn3 gn3 L3 G3 nm3 t3 b3 nx3 mn3 gn3 L3 G3) ∧ Hid (FI nm1 t1 b1 nx1 mn1 gn1 L1 G1 nm2 t2 b2 nx2 mn2 gn2 L2 G2 fo ∧ FS nm1 t1 b1 nx1 mn1 gn1 L1 G1 nm2 t2 b2 nx2 mn2 gn2 L2 G2 fo ∧ BI nm3 t3 b3 nx3 mn3 gn3 L3 G3 fo) ∧ Hid (JI nm3 t3 b3 nx3 mn3 gn3 L3 G3 nm1 t1 b1 nx1 mn1 gn1 L1 G1 nm4 t4 b4 nx4 mn4 gn4 L4 G4 ∧ JI nm1 t1 b1 nx1 mn1 gn1 L1 G1 nm3 t3 b3 nx3 mn3 gn3 L3 G3 nm4 t4 b4 nx4 mn4 gn4 L4 G4) := by
 obtain ⟨ha, a1, a2, a3, a4⟩ := gd_of h1 hl1 hg1
 obtain ⟨hb, b1', b2', b3', b4'⟩ := gd_of h2 hl2 hg2
 have hj := gd_join (t1 := t1) (b1 := b1) (t2 := t2) (b2 := b2) ha hb (by omega) (by omega)
 obtain ⟨n1, n2, n3⟩ := nx_small (g := 7) (nx := nx1) (L := L1) (G := G1) (nx' := nx2) (L' := L2) (G' := G2) (by omega) (by omega) (by omega)
 have hjs := ji_of (t1 := (jbT 7 nm1 t1 b1 7 nm2 t2 b2)) (b1 := (jbB 7 nm1 t1 b1 7 nm2 t2 b2)) (t2 := (jbT 7 nm1 t1 b1 7 nm2 t2 b2)) (b2 := (jbB 7 nm1 t1 b1 7 nm2 t2 b2)) hj hj
 obtain ⟨r1, r2, r3⟩ := jb_again 7 nx1 L1 G1 nx2 L2 G2
 rw [r1, r2, r3] at hjs
 have q1 : ∀ (x : ByteArray) (y z : Int), jbN 7 x y z 7 x y z = x ∧ jbT 7 x y z 7 x y z = y ∧ jbB 7 x y z 7 x y z = z := fun x y z => ⟨by unfold jbN; split <;> rfl, by unfold jbT; split <;> rfl, by unfold jbB; split <;> rfl⟩
 rw [(q1 _ _ _).1, (q1 _ _ _).2.1, (q1 _ _ _).2.2] at hjs
 refine ⟨_, _, _, _, _, _, _, _, _, _, _, _, _, _, _, _, bxOk 7 (jbN 7 nm1 t1 b1 7 nm2 t2 b2) (jbT 7 nm1 t1 b1 7 nm2 t2 b2) (jbB 7 nm1 t1 b1 7 nm2 t2 b2) (jbX 7 nx1 L1 G1 7 nx2 L2 G2) (jbL 7 nx1 L1 G1 7 nx2 L2 G2) (jbG 7 G1 7 G2), n2, ⟨ji_of ha hb, ji_comm ha hb, js_of ha hb, hjs⟩, ⟨?_, ?_, ?_⟩, ⟨ji_of hj ha, ji_comm hj ha⟩⟩
 ·exact fun ma mc ga gc ma' mc' ga' gc' W hz hz' => fitsI_bz 7 nm1 t1 b1 nx1 mn1 gn1 L1 G1 7 nm2 t2 b2 nx2 mn2 gn2 L2 G2 ha hb ma mc ga gc ma' mc' ga' gc' W hz hz'
 ·exact fun ma mc ga gc ma' mc' ga' gc' W hz hz' => fitsS_bz 7 nm1 t1 b1 nx1 mn1 gn1 L1 G1 7 nm2 t2 b2 nx2 mn2 gn2 L2 G2 ha hb ma mc ga gc ma' mc' ga' gc' W hz hz'
 ·intro ma mc ga gc W hz
  obtain ⟨l1, hh1, hm⟩ := hz.mails
  obtain ⟨l2, hh2, hi⟩ := hz.gone
  exact implBoxOk_any l1 hh1 l2 hh2 7 _ _ _ _ ma _ mc ga _ gc _ _ W hj.nmz hz.len hz.most hz.sm hm hz.glen hz.gmost hi
end
end Go.Proofs.YtmpcmllfgogegaaGreat
