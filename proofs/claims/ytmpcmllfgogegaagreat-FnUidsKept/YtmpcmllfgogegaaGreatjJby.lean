/- Jby, Jbz, Jnm. -/

import Derived.Test.YtmpcmllfgogegaaGreatjJbx
namespace Go.Proofs.YtmpcmllfgogegaaGreat
open Go.RowKit Go.ChangeMaps
set_option maxHeartbeats 4000000 in
set_option maxRecDepth 100000 in
theorem specJoinBox_unlike (l1 h1 l2 h2 : Nat) (g : Int) (nm : ByteArray) (t b nx : Int) (ma : Option Addr) (mn mc : Nat) (ga : Option Addr) (gn gc : Nat) (L : List M4) (G : List Int) (g' : Int) (nm' : ByteArray) (t' b' nx' : Int) (mv' gv' : Value) (w : World) (hl : L.length = mn) (hn : mn ≤ 1048576) (hsm : Sm L) (hm : Ms l1 h1 w ma L) (hgl : G.length = gn) (hgn : gn ≤ 1048576) (hs : Is l2 h2 w ga G) (hg0 : ga = none → gc = 0) (hne : g ≠ g') :
  Calls Tryz.prog 12 #[.agg #[.int .i64 g, .string nm, .int .i64 t, .int .i64 b, .int .i64 nx, .slice ma mn mc, .slice ga gn gc], .agg #[.int .i64 g', .string nm', .int .i64 t', .int .i64 b', .int .i64 nx', mv', gv']] w fun e w' => ∃ mv gv, e = .returned (.agg #[.int .i64 g, .string nm, .int .i64 t, .int .i64 b, .int .i64 nx, mv, gv]) ∧ OwB w' w.heap.size mv gv L G ∧ Below w.heap.size w w' := by
 obtain ⟨W0, hW0⟩ : ∃ W0, ((w.alloc (.cells #[.int .i64 g, .string nm, .int .i64 t, .int .i64 b, .int .i64 nx, .slice ma mn mc, .slice ga gn gc] 29)).alloc (.cells #[.int .i64 g', .string nm', .int .i64 t', .int .i64 b', .int .i64 nx', mv', gv'] 29)).alloc (.cells #[.int .i64 0, .string ⟨#[]⟩, .int .i64 0, .int .i64 0, .int .i64 0, .slice none 0 0, .slice none 0 0] 29) = W0 := ⟨_, rfl⟩
 obtain ⟨a0, a1, a2, b0, s0⟩ := three_boxes w _ _ _ _ _ _ _ _ _ _ _ _ _ _ _ _ _ _ _ _ _ _ _ _ W0 hW0
 have R0 := hid a2
 have B0 := hid b0
 have S0 := hid s0
 have HM := hid (hm.later b0)
 have HS := hid (hs.later b0)
 have HL := hid hl
 have HGL := hid hgl
 have HSM := hid hsm
 have HG0 := hid hg0
 have hgg : (g != g') = true := by simp [hne]
 have c0 := a0.cells
 have c1 := a1.cells
 clear a0 a1 a2 b0 s0 hm hs hl hgl hsm hg0 hne
 go_enter Tryz.func12, Tryz.ntmps12
 go_wp2_with fail
 clear hW0 c0 c1
 refine (l06Copy_any l1 h1 l2 h2 g nm t b nx ma mn mc ga gn gc L G W0 HL.out hn HSM.out HM.out HGL.out hgn HS.out HG0.out).mono ?_; rintro e w1 ⟨mv, gv, rfl, how, hb1⟩
 obtain ⟨Z, hZ, hoz, hoi, hdj, hde⟩ := how
 obtain ⟨va, vc, rfl⟩ := hoz.shape
 obtain ⟨ag, cg, rfl, _⟩ := OwI.shape hoi
 have R1 := hid (R0.out.later hb1)
 have B1 := hid (btr B0.out hb1)
 have OB1 : Hid (OwB w1 W0.heap.size (.slice va Z.length vc) (.slice ag G.length cg) L G) := ⟨Z, hZ, hoz, hoi, hdj, hde⟩
 have r1 := R1.out.cells
 have u1 := R1.out.loose
 clear hZ hoz hoi hdj hde hb1
 go_wp2
 have e2 := set7_grown w1 (w.heap.size + 1 + 1) g nm t b nx (.slice va Z.length vc) (.slice ag G.length cg)
 have d1 := (R1.out.set7 g nm t b nx (.slice va Z.length vc) (.slice ag G.length cg)).cells
 unfold set7 at d1 e2
 have hbs := B1.out.size
 have hs0 := S0.out
 refine bodyPost_ret (v := .agg #[.int .i64 g, .string nm, .int .i64 t, .int .i64 b, .int .i64 nx, .slice va Z.length vc, .slice ag G.length cg]) (by simp [results, Tryz.results12, go_sem, d1]) rfl ⟨_, _, rfl, ?_, ?_⟩
 ·exact (OwB.grown OB1.out e2 (by omega)).base (by omega)
 ·exact B1.out.trans (below_of_grown e2 (by omega) hbs)
def jbC (c : Bool) {α : Type} (x y : α) : α := if c = true then x else y
def jbN (g : Int) (nm : ByteArray) (t b : Int) (g' : Int) (nm' : ByteArray) (t' b' : Int) : ByteArray := if g = g' ∧ bnm nm t b nm' t' b' = true then nm' else nm
def jbT (g : Int) (nm : ByteArray) (t b : Int) (g' : Int) (nm' : ByteArray) (t' b' : Int) : Int := if g = g' ∧ bnm nm t b nm' t' b' = true then t' else t
def jbB (g : Int) (nm : ByteArray) (t b : Int) (g' : Int) (nm' : ByteArray) (t' b' : Int) : Int := if g = g' ∧ bnm nm t b nm' t' b' = true then b' else b
def jbX (g nx : Int) (L : List M4) (G : List Int) (g' nx' : Int) (L' : List M4) (G' : List Int) : Int := if g = g' then (jms L L' G G' nx nx' (asl (L.map (·.1) ++ L'.map (·.1)))).2 else nx
def jbL (g nx : Int) (L : List M4) (G : List Int) (g' nx' : Int) (L' : List M4) (G' : List Int) : List M4 := if g = g' then (jms L L' G G' nx nx' (asl (L.map (·.1) ++ L'.map (·.1)))).1 else L
def jbG (g : Int) (G : List Int) (g' : Int) (G' : List Int) : List Int := if g = g' then asl (G ++ G') else G
theorem specJoinBox_any (l1 h1 l2 h2 : Nat) (g : Int) (nm : ByteArray) (t b nx : Int) (ma : Option Addr) (mn mc : Nat) (ga : Option Addr) (gn gc : Nat) (L : List M4) (G : List Int) (l3 h3 l4 h4 : Nat) (g' : Int) (nm' : ByteArray) (t' b' nx' : Int) (ma' : Option Addr) (mn' mc' : Nat) (ga' : Option Addr) (gn' gc' : Nat) (L' : List M4) (G' : List Int) (w : World) (hl : L.length = mn) (hn : mn ≤ 1048576) (hsm : Sm L) (hm : Ms l1 h1 w ma L) (hgl : G.length = gn) (hgn : gn ≤ 1048576) (hs : Is l2 h2 w ga G) (hg0 : ga = none → gc = 0) (hl' : L'.length = mn') (hn' : mn' ≤ 1048576) (hsm' : Sm L') (hm' : Ms l3 h3 w ma' L') (hgl' : G'.length = gn') (hgn' : gn' ≤ 1048576) (hs' : Is l4 h4 w ga' G') (hsum : mn + mn' ≤ 1048576) :
  Calls Tryz.prog 12 #[.agg #[.int .i64 g, .string nm, .int .i64 t, .int .i64 b, .int .i64 nx, .slice ma mn mc, .slice ga gn gc], .agg #[.int .i64 g', .string nm', .int .i64 t', .int .i64 b', .int .i64 nx', .slice ma' mn' mc', .slice ga' gn' gc']] w fun e w' => ∃ mv gv, e = .returned (.agg #[.int .i64 g, .string (jbN g nm t b g' nm' t' b'), .int .i64 (jbT g nm t b g' nm' t' b'), .int .i64 (jbB g nm t b g' nm' t' b'), .int .i64 (jbX g nx L G g' nx' L' G'), mv, gv]) ∧ OwB w' w.heap.size mv gv (jbL g nx L G g' nx' L' G') (jbG g G g' G') ∧ Below w.heap.size w w' := by
 by_cases e : g = g'
 ·subst e
  refine (specJoinBox_same l1 h1 l2 h2 g nm t b nx ma mn mc ga gn gc L G l3 h3 l4 h4 nm' t' b' nx' ma' mn' mc' ga' gn' gc' L' G' w hl hn hsm hm hgl hgn hs hl' hn' hsm' hm' hgl' hgn' hs' hsum).mono ?_
  rintro e w' ⟨mv, gv, h1, h2, h3⟩
  refine ⟨mv, gv, ?_, ?_, h3⟩
  ·rw [h1, jbN, jbT, jbB, jbX]; simp
  ·rw [jbL, jbG, if_pos rfl, if_pos rfl]; exact h2
 ·refine (specJoinBox_unlike l1 h1 l2 h2 g nm t b nx ma mn mc ga gn gc L G g' nm' t' b' nx' _ _ w hl hn hsm hm hgl hgn hs hg0 e).mono ?_
  rintro e' w' ⟨mv, gv, h1, h2, h3⟩
  refine ⟨mv, gv, ?_, ?_, h3⟩
  ·rw [h1, jbN, jbT, jbB, jbX]; simp [e]
  ·rw [jbL, jbG, if_neg e, if_neg e]; exact h2
theorem ptm_len (m : M4) (L : List M4) : (ptm m L).length = L.length + 1 := by
 unfold ptm
 rw [List.length_append, List.length_cons]
 have : (L.filter (fun y => decide (y.2.1 ≤ m.2.1))).length + (L.filter (fun y => decide (m.2.1 < y.2.1))).length = L.length := by
  induction L with
  | nil => rfl
  | cons y L ih =>
   simp only [List.filter_cons, List.length_cons]
   by_cases h : y.2.1 ≤ m.2.1
   ·have h' : ¬ m.2.1 < y.2.1 := by omega
    simp only [h, h', decide_true, decide_false, if_true, Bool.false_eq_true, if_false, List.length_cons]; omega
   ·have h' : m.2.1 < y.2.1 := by omega
    simp only [h, h', decide_true, decide_false, if_true, Bool.false_eq_true, if_false, List.length_cons]; omega
 omega
theorem ptm_mem (m : M4) (L : List M4) (y : M4) : y ∈ ptm m L ↔ y = m ∨ y ∈ L := by
 unfold ptm
 rw [List.mem_append, List.mem_cons, List.mem_filter, List.mem_filter, decide_eq_true_eq, decide_eq_true_eq]
 constructor
 ·rintro (h | h | h)
  ·exact .inr h.1
  ·exact .inl h
  ·exact .inr h.1
 ·rintro (h | h)
  ·exact .inr (.inl h)
  ·rcases Int.lt_or_le m.2.1 y.2.1 with e | e
   ·exact .inr (.inr ⟨h, e⟩)
   ·exact .inl ⟨h, e⟩
theorem fnd_mem {x : Int} {L : List M4} {m : M4} (h : fnd x L = some m) : m ∈ L ∧ m.1 = x := by
 induction L with
 | nil => simp [fnd] at h
 | cons y L ih =>
  rw [fnd] at h
  by_cases e : y.1 = x
  ·rw [if_pos e] at h; obtain rfl := Option.some.inj h; exact ⟨by simp, e⟩
  ·rw [if_neg e] at h; exact ⟨List.mem_cons_of_mem _ (ih h).1, (ih h).2⟩
theorem gm_small {A B : List M4} (ha : Sm A) (hb : Sm B) (g : Int) : (gm A B g).2.2.1.length ≤ 1048576 ∧ (gm A B g).2.2.2.size ≤ 1048576 := by
 unfold gm
 cases h1 : fnd g A with
 | none =>
  cases h2 : fnd g B with
  | none => exact ⟨Nat.zero_le _, Nat.zero_le _⟩
  | some y => exact hb y (fnd_mem h2).1
 | some x =>
  have ex := ha x (fnd_mem h1).1
  cases h2 : fnd g B with
  | none => exact ex
  | some y =>
   have ey := hb y (fnd_mem h2).1
   refine ⟨?_, ?_⟩
   ·show (jml x.1 x.2.2.1 y.1 y.2.2.1).length ≤ _
    unfold jml
    split
    ·rw [jl_len]; omega
    ·exact ex.1
   ·show (jmt x.1 x.2.2.2 y.1 y.2.2.2).size ≤ _
    unfold jmt mxs
    split
    ·split
     ·exact ey.2
     ·exact ex.2
    ·exact ex.2
theorem jms_small {A B : List M4} {GA GB : List Int} {na nb : Int} (ha : Sm A) (hb : Sm B) (gs : List Int) : ∀ s : List M4 × Int, Sm s.1 → Sm (gs.foldl (jst A B GA GB na nb) s).1 ∧ (gs.foldl (jst A B GA GB na nb) s).1.length ≤ s.1.length + gs.length := by
 induction gs with
 | nil => intro s hs; exact ⟨hs, by simp⟩
 | cons g gs ih =>
  intro s hs
  rw [List.foldl_cons]
  have key : Sm (jst A B GA GB na nb s g).1 ∧ (jst A B GA GB na nb s g).1.length ≤ s.1.length + 1 := by
   unfold jst
   split
   ·exact ⟨hs, Nat.le_succ _⟩
   ·split
    ·refine ⟨fun y hy => ?_, Nat.le_of_eq (ptm_len _ _)⟩
     rcases (ptm_mem _ _ y).1 hy with rfl | hy
     ·exact gm_small ha hb g
     ·exact hs y hy
    ·refine ⟨fun y hy => ?_, Nat.le_of_eq (ptm_len _ _)⟩
     rcases (ptm_mem _ _ y).1 hy with rfl | hy
     ·exact gm_small ha hb g
     ·exact hs y hy
  have h := ih _ key.1
  exact ⟨h.1, by rw [List.length_cons]; omega⟩
theorem jbL_small {g nx : Int} {L : List M4} {G : List Int} {g' nx' : Int} {L' : List M4} {G' : List Int} (ha : Sm L) (hb : Sm L') : Sm (jbL g nx L G g' nx' L' G') ∧ (jbL g nx L G g' nx' L' G').length ≤ L.length + L'.length := by
 unfold jbL
 split
 ·have h := jms_small (GA := G) (GB := G') (na := nx) (nb := nx') ha hb (asl (L.map (·.1) ++ L'.map (·.1))) ([], mx8 nx nx') (fun y hy => by cases hy)
  have h2 := asl_len (L.map (·.1) ++ L'.map (·.1))
  rw [List.length_append, List.length_map, List.length_map] at h2
  refine ⟨h.1, Nat.le_trans h.2 ?_⟩
  simpa using h2
 ·exact ⟨ha, by omega⟩
theorem jbG_len {g : Int} {G : List Int} {g' : Int} {G' : List Int} : (jbG g G g' G').length ≤ G.length + G'.length := by
 unfold jbG
 split
 ·have h2 := asl_len (G ++ G'); rw [List.length_append] at h2; exact h2
 ·omega
theorem jbN_size {g : Int} {nm : ByteArray} {t b g' : Int} {nm' : ByteArray} {t' b' : Int} (h1 : nm.size ≤ 1048576) (h2 : nm'.size ≤ 1048576) : (jbN g nm t b g' nm' t' b').size ≤ 1048576 := by
 unfold jbN
 split
 ·exact h2
 ·exact h1
set_option maxHeartbeats 4000000 in
set_option maxRecDepth 100000 in
theorem specFits_any (l1 h1 l2 h2 : Nat) (g : Int) (nm : ByteArray) (t b nx : Int) (ma : Option Addr) (mn mc : Nat) (ga : Option Addr) (gn gc : Nat) (L : List M4) (G : List Int) (l3 h3 l4 h4 : Nat) (g' : Int) (nm' : ByteArray) (t' b' nx' : Int) (ma' : Option Addr) (mn' mc' : Nat) (ga' : Option Addr) (gn' gc' : Nat) (L' : List M4) (G' : List Int) (w : World) (hl : L.length = mn) (hn : mn ≤ 1048576) (hsm : Sm L) (hm : Ms l1 h1 w ma L) (hgl : G.length = gn) (hgn : gn ≤ 1048576) (hs : Is l2 h2 w ga G) (hg0 : ga = none → gc = 0) (hl' : L'.length = mn') (hn' : mn' ≤ 1048576) (hsm' : Sm L') (hm' : Ms l3 h3 w ma' L') (hgl' : G'.length = gn') (hgn' : gn' ≤ 1048576) (hs' : Is l4 h4 w ga' G') (hsum : mn + mn' ≤ 1048576) (hsg : gn + gn' ≤ 1048576) (hnm : nm.size ≤ 1048576) (hnm' : nm'.size ≤ 1048576) :
  Calls Tryz.prog 14 #[.agg #[.int .i64 g, .string nm, .int .i64 t, .int .i64 b, .int .i64 nx, .slice ma mn mc, .slice ga gn gc], .agg #[.int .i64 g', .string nm', .int .i64 t', .int .i64 b', .int .i64 nx', .slice ma' mn' mc', .slice ga' gn' gc']] w fun e w' => e = .returned (.bool (bxOk g (jbN g nm t b g' nm' t' b') (jbT g nm t b g' nm' t' b') (jbB g nm t b g' nm' t' b') (jbX g nx L G g' nx' L' G') (jbL g nx L G g' nx' L' G') (jbG g G g' G'))) ∧ Below w.heap.size w w' := by
 have hjl := jbL_small (g := g) (nx := nx) (G := G) (g' := g') (nx' := nx') (G' := G') hsm hsm'
 obtain ⟨p, hp, csp, -⟩ := box_l g (jbN g nm t b g' nm' t' b') (jbT g nm t b g' nm' t' b') (jbB g nm t b g' nm' t' b') (jbX g nx L G g' nx' L' G') _ _ (jbL g nx L G g' nx' L' G') (jbG g G g' G') (jbN_size hnm hnm') rfl (by have := hjl.2; omega) hjl.1 rfl (by have := jbG_len (g := g) (G := G) (g' := g') (G' := G'); omega)
 have HX := hid (specJoinBox_any l1 h1 l2 h2 g nm t b nx ma mn mc ga gn gc L G l3 h3 l4 h4 g' nm' t' b' nx' ma' mn' mc' ga' gn' gc' L' G')
 have HP := hid hp.out
 obtain ⟨jn, hjn⟩ : ∃ x, jbN g nm t b g' nm' t' b' = x := ⟨_, rfl⟩
 obtain ⟨jt, hjt⟩ : ∃ x, jbT g nm t b g' nm' t' b' = x := ⟨_, rfl⟩
 obtain ⟨jb, hjb⟩ : ∃ x, jbB g nm t b g' nm' t' b' = x := ⟨_, rfl⟩
 obtain ⟨jx, hjx⟩ : ∃ x, jbX g nx L G g' nx' L' G' = x := ⟨_, rfl⟩
 obtain ⟨jl, hjl2⟩ : ∃ x, jbL g nx L G g' nx' L' G' = x := ⟨_, rfl⟩
 obtain ⟨jg, hjg⟩ : ∃ x, jbG g G g' G' = x := ⟨_, rfl⟩
 rw [hjn, hjt, hjb, hjx, hjl2, hjg] at csp HX HP ⊢
 have CSP := csp
 obtain ⟨W0, hW0⟩ : ∃ W0, (w.alloc (.cells #[.int .i64 g, .string nm, .int .i64 t, .int .i64 b, .int .i64 nx, .slice ma mn mc, .slice ga gn gc] 29)).alloc (.cells #[.int .i64 g', .string nm', .int .i64 t', .int .i64 b', .int .i64 nx', .slice ma' mn' mc', .slice ga' gn' gc'] 29) = W0 := ⟨_, rfl⟩
 have a0 : Bx W0 w.heap.size 29 g nm t b nx (.slice ma mn mc) (.slice ga gn gc) := by subst hW0; exact (Bx.new w _ g nm t b nx _ _).later (bpush (bre _) _)
 have a1 : Bx W0 (w.heap.size + 1) 29 g' nm' t' b' nx' (.slice ma' mn' mc') (.slice ga' gn' gc') := by
  subst hW0
  have h := Bx.new (w.alloc (.cells #[.int .i64 g, .string nm, .int .i64 t, .int .i64 b, .int .i64 nx, .slice ma mn mc, .slice ga gn gc] 29)) 29 g' nm' t' b' nx' (.slice ma' mn' mc') (.slice ga' gn' gc')
  rwa [show (w.alloc (.cells #[.int .i64 g, .string nm, .int .i64 t, .int .i64 b, .int .i64 nx, .slice ma mn mc, .slice ga gn gc] 29)).heap.size = w.heap.size + 1 by simp] at h
 have b0 : Below w.heap.size w W0 := by subst hW0; exact bpush (bpush (bre _) _) _
 have HJ := hid (HX.out W0 hl hn hsm (hm.later b0) hgl hgn (hs.later b0) hg0 hl' hn' hsm' (hm'.later b0) hgl' hgn' (hs'.later b0) hsum)
 have c0 := a0.cells
 have c1 := a1.cells
 have B0 := hid b0
 clear a0 a1 b0 hm hm' hs hs' hl hl' hgl hgl' hsm hsm' hsum hjl hjn hjt hjb hjx hjl2 hjg HX hp csp hn hn' hgn hgn' hg0 hsg hnm hnm'
 go_enter Tryz.func14, Tryz.ntmps14
 go_wp2_with fail
 clear hW0 c0 c1
 refine (HJ.out).mono ?_; rintro e w1 ⟨mv, gv, rfl, how, hb1⟩
 obtain ⟨Z, hZ, hoz, hoi, hdj, hde⟩ := how
 obtain ⟨va, vc, rfl⟩ := hoz.shape
 obtain ⟨ag, cg, rfl, _⟩ := OwI.shape hoi
 have HMS := hid (hZ ▸ hoz.ms.2)
 have HIS := hid (OwI.is hoi).2
 have hzl : Z.length = jl.length := by rw [← hZ, List.length_map]
 rw [hzl]
 have B1 := hid (btr B0.out hb1)
 clear hZ hoz hoi hdj hde hb1 hzl
 go_wp2_with fail
 refine (CSP.out _ _ _ _ va vc ag cg w1 HMS.out HIS.out).mono ?_; rintro e w2 ⟨rfl, hb2⟩
 have B2 := hid (btr B1.out hb2)
 clear hb2
 go_wp2
 go_ret
 exact ⟨by rw [← HP.out]; rfl, B2.out⟩
theorem Sg.loose8 {W : World} {k ty : Nat} {t b : Int} (h : Sg W k ty t b) : W.frozen? ⟨k, 0, none⟩ = false ∧ W.frozen? ⟨k, 1, none⟩ = false :=
 ⟨frozen_of_row W k 0 _ _ h, frozen_of_row W k 1 _ _ h⟩
set_option maxHeartbeats 8000000 in
set_option maxRecDepth 100000 in
theorem joinedName_any (g : Int) (nm : ByteArray) (t b nx : Int) (mv gv : Value) (g' : Int) (nm' : ByteArray) (t' b' nx' : Int) (mv' gv' : Value) (w : World) (hnm : nm.size ≤ 1048576) (hnm' : nm'.size ≤ 1048576) (hv : ∃ a n c, mv = .slice a n c) (hv2 : ∃ a n c, gv = .slice a n c) (hv' : ∃ a n c, mv' = .slice a n c) (hv2' : ∃ a n c, gv' = .slice a n c) :
  Calls Tryz.prog 39 #[.agg #[.int .i64 g, .string nm, .int .i64 t, .int .i64 b, .int .i64 nx, mv, gv], .agg #[.int .i64 g', .string nm', .int .i64 t', .int .i64 b', .int .i64 nx', mv', gv']] w fun e w' => e = .returned (.tuple #[.string (if bnm nm t b nm' t' b' = true then nm' else nm), .agg #[.int .i64 (if bnm nm t b nm' t' b' = true then t' else t), .int .i64 (if bnm nm t b nm' t' b' = true then b' else b)]]) ∧ Below w.heap.size w w' := by
 obtain ⟨va, vn, vc, rfl⟩ := hv
 obtain ⟨ua, un, uc, rfl⟩ := hv2
 obtain ⟨va', vn', vc', rfl⟩ := hv'
 obtain ⟨ua', un', uc', rfl⟩ := hv2'
 obtain ⟨W0, hW0⟩ : ∃ W0, (((w.alloc (.cells #[.int .i64 g, .string nm, .int .i64 t, .int .i64 b, .int .i64 nx, (.slice va vn vc), (.slice ua un uc)] 29)).alloc (.cells #[.int .i64 g', .string nm', .int .i64 t', .int .i64 b', .int .i64 nx', (.slice va' vn' vc'), (.slice ua' un' uc')] 29)).alloc (.cells #[.int .i64 0, .int .i64 0] 25)).alloc (.cells #[.int .i64 g, .string nm, .int .i64 t, .int .i64 b, .int .i64 nx, (.slice va vn vc), (.slice ua un uc)] 29) = W0 := ⟨_, rfl⟩
 have a0 : Bx W0 w.heap.size 29 g nm t b nx (.slice va vn vc) (.slice ua un uc) := by subst hW0; exact (Bx.new w _ g nm t b nx _ _).later (bpush (bpush (bpush (bre _) _) _) _)
 have a1 : Bx W0 (w.heap.size + 1) 29 g' nm' t' b' nx' (.slice va' vn' vc') (.slice ua' un' uc') := by
  subst hW0
  refine Bx.later ?_ (bpush (bpush (bre _) _) _)
  simpa using Bx.new (w.alloc (.cells #[.int .i64 g, .string nm, .int .i64 t, .int .i64 b, .int .i64 nx, (.slice va vn vc), (.slice ua un uc)] 29)) 29 g' nm' t' b' nx' (.slice va' vn' vc') (.slice ua' un' uc')
 have a2 : Sg W0 (w.heap.size + 1 + 1) 25 0 0 := by
  subst hW0
  refine Sg.later ?_ (bpush (bre _) _)
  simpa using Sg.new ((w.alloc (.cells #[.int .i64 g, .string nm, .int .i64 t, .int .i64 b, .int .i64 nx, (.slice va vn vc), (.slice ua un uc)] 29)).alloc (.cells #[.int .i64 g', .string nm', .int .i64 t', .int .i64 b', .int .i64 nx', (.slice va' vn' vc'), (.slice ua' un' uc')] 29)) 25 0 0
 have a3 : Bx W0 (w.heap.size + 1 + 1 + 1) 29 g nm t b nx (.slice va vn vc) (.slice ua un uc) := by
  subst hW0
  simpa using Bx.new (((w.alloc (.cells #[.int .i64 g, .string nm, .int .i64 t, .int .i64 b, .int .i64 nx, (.slice va vn vc), (.slice ua un uc)] 29)).alloc (.cells #[.int .i64 g', .string nm', .int .i64 t', .int .i64 b', .int .i64 nx', (.slice va' vn' vc'), (.slice ua' un' uc')] 29)).alloc (.cells #[.int .i64 0, .int .i64 0] 25)) 29 g nm t b nx (.slice va vn vc) (.slice ua un uc)
 have b0 : Below w.heap.size w W0 := by subst hW0; exact bpush (bpush (bpush (bpush (bre _) _) _) _) _
 have A0 := hid a0
 have D0 := hid a1
 have T0 := hid a2
 have L0 := hid a3
 have B0 := hid b0
 have HNS1 := hid hnm
 have HNS2 := hid hnm'
 have c0 := a0.cells
 have c1 := a1.cells
 obtain ⟨p, hp⟩ : ∃ p, later t' b' t b = p := ⟨_, rfl⟩
 have CP := hid (implLater_any t' b' t b)
 rw [hp] at CP
 obtain ⟨nbx, hnbx⟩ : ∃ nbx, bnm nm t b nm' t' b' = nbx := ⟨_, rfl⟩
 have HBN : Hid ((p || ((decide (t = t') && decide (b = b')) && !(Op.bytesLess nm'.toList nm.toList || nm'.toList == nm.toList))) = nbx) := by show _ = _; rw [← hnbx, bnm, hp]
 rw [hnbx]
 obtain ⟨N1, hN1⟩ : ∃ N1, (if nbx = true then nm' else nm) = N1 := ⟨_, rfl⟩
 obtain ⟨T1, hT1⟩ : ∃ T1, (if nbx = true then t' else t) = T1 := ⟨_, rfl⟩
 obtain ⟨B1, hB1⟩ : ∃ B1, (if nbx = true then b' else b) = B1 := ⟨_, rfl⟩
 rw [hN1, hT1, hB1]
 have HN1 := hid hN1
 have HT1 := hid hT1
 have HB1 := hid hB1
 obtain ⟨q, hq⟩ : ∃ q, (!(Op.bytesLess nm'.toList nm.toList || nm'.toList == nm.toList)) = q := ⟨_, rfl⟩
 rw [hq] at HBN
 have HQ := hid hq
 clear a0 a1 a2 a3 b0 hnm hnm' hp hnbx hN1 hT1 hB1 hq
 go_enter Tryz.func39, Tryz.ntmps39
 go_wp2_with fail
 clear hW0 c0 c1
 refine (CP.out _).mono ?_
 rintro e w4 ⟨rfl, hb4⟩
 have X4 := hid (L0.out.later hb4)
 have S4 := hid (T0.out.later hb4)
 have K4 := hid (btr B0.out hb4)
 have c0 := (A0.out.later hb4).cells
 have c1 := (D0.out.later hb4).cells
 clear hb4 L0 T0
 cases p
 case true =>
  have HNB : Hid (nbx = true) := by show _ = _; rw [← HBN.out]; rfl
  have x4 := X4.out.cells
  have y4 := X4.out.loose
  have e7 := set7_grown w4 (w.heap.size + 1 + 1 + 1) g' nm' t' b' nx' (.slice va' vn' vc') (.slice ua' un' uc')
  have X7 := X4.out.set7 g' nm' t' b' nx' (.slice va' vn' vc') (.slice ua' un' uc')
  have hsz := K4.out.size
  have k7 := below_of_grown e7 (show w.heap.size ≤ w.heap.size + 1 + 1 + 1 by omega) hsz
  have s7 := S4.out.kept e7 (show w.heap.size + 1 + 1 ≠ w.heap.size + 1 + 1 + 1 by omega)
  unfold set7 at e7 X7 k7 s7
  have X5 := hid X7
  have K5 := hid (K4.out.trans k7)
  have S5 := hid s7
  have x5 := X5.out.cells
  have HNS := HNS2
  clear e7 X7 k7 s7 hsz
  go_wp2_with fail
  obtain ⟨W5, hW5⟩ : ∃ W5, (((((((w4.setCell ⟨w.heap.size + 1 + 1 + 1, 0, none⟩ (.int .i64 g')).setCell ⟨w.heap.size + 1 + 1 + 1, 1, none⟩ (.string nm')).setCell ⟨w.heap.size + 1 + 1 + 1, 2, none⟩ (.int .i64 t')).setCell ⟨w.heap.size + 1 + 1 + 1, 3, none⟩ (.int .i64 b')).setCell ⟨w.heap.size + 1 + 1 + 1, 4, none⟩ (.int .i64 nx')).setCell ⟨w.heap.size + 1 + 1 + 1, 5, none⟩ (.slice va' vn' vc')).setCell ⟨w.heap.size + 1 + 1 + 1, 6, none⟩ (.slice ua' un' uc')) = W5 := ⟨_, rfl⟩
  rw [hW5] at X5 S5 K5 ⊢
  clear hW5 x4 y4 x5 c0 c1 X4 S4 K4
  have HZ : Hid (∀ W, Below W5.heap.size W5 W → W.cell? ⟨w.heap.size + 1 + 1 + 1, 1, none⟩ = some (.string nm') ∧ W.cell? ⟨w.heap.size + 1 + 1 + 1, 2, none⟩ = some (.int .i64 t') ∧ W.cell? ⟨w.heap.size + 1 + 1 + 1, 3, none⟩ = some (.int .i64 b')) := fun W h => (by obtain ⟨x0, x1, x2, x3, x4, x5, x6⟩ := (X5.out.later h).cells; exact ⟨x1, x2, x3⟩)
  have HZ2 : Hid (∀ W, Bx W (w.heap.size + 1 + 1 + 1) 29 g' nm' t' b' nx' (.slice va' vn' vc') (.slice ua' un' uc') → W.cell? ⟨w.heap.size + 1 + 1 + 1, 1, none⟩ = some (.string nm') ∧ W.cell? ⟨w.heap.size + 1 + 1 + 1, 2, none⟩ = some (.int .i64 t') ∧ W.cell? ⟨w.heap.size + 1 + 1 + 1, 3, none⟩ = some (.int .i64 b')) := fun W h => (by obtain ⟨x0, x1, x2, x3, x4, x5, x6⟩ := h.cells; exact ⟨x1, x2, x3⟩)
  go_region_held3 (fun W => W.cell? ⟨w.heap.size + 1 + 1 + 1, 1, none⟩ = some (.string nm') ∧ W.cell? ⟨w.heap.size + 1 + 1 + 1, 2, none⟩ = some (.int .i64 t') ∧ W.cell? ⟨w.heap.size + 1 + 1 + 1, 3, none⟩ = some (.int .i64 b'))
   ((first | with_reducible exact HZ.out _ (bdr (bre _)) | with_reducible exact HZ.out _ P1.out | with_reducible exact HS8.out))
   ((go_at_call 80; (with_reducible refine (clone_any nm' _ HNS.out).mono ?_); rintro e w6 ⟨rfl, hb6⟩;
     have P1 : Hid (Below W5.heap.size W5 w6) := btr (bdr (bre _)) hb6;
     have S6 := hid (S5.out.later P1.out);
     have s6 := S6.out.cells;
     have z6 := S6.out.loose8;
     have S7 := hid (S6.out.set' (t' := t') (b' := b'));
     have X7 := hid (Bx.far7 (Bx.far7 (X5.out.later P1.out) (.int .i64 t') 0 (show w.heap.size + 1 + 1 + 1 ≠ w.heap.size + 1 + 1 by omega)) (.int .i64 b') 1 (show w.heap.size + 1 + 1 + 1 ≠ w.heap.size + 1 + 1 by omega));
     have HS8 := hid (HZ2.out _ X7.out)))
  have K7 := hid (bsk (bsk (btr K5.out P1.out) (show w.heap.size ≤ w.heap.size + 1 + 1 by omega) 0 (.int .i64 t')) (show w.heap.size ≤ w.heap.size + 1 + 1 by omega) 1 (.int .i64 b'))
  have d7 := S7.out.cells
  clear HZ HZ2 HS8 s6 z6 S6 P1
  go_wp2
  refine bodyPost_ret (v := .tuple #[.string nm', .agg #[.int .i64 t', .int .i64 b']]) (by simp [results, Tryz.results39, go_sem, d7]) rfl ⟨by rw [← HN1.out, ← HT1.out, ← HB1.out, HNB.out]; rfl, ?_⟩
  exact K7.out
 case false =>
  by_cases ht : t = t'
  ·subst ht
   by_cases hb : b = b'
   ·subst hb
    have HBN2 : Hid (q = nbx) := by show _ = _; rw [← HBN.out]; simp
    cases q
    case true =>
     have HNB : Hid (nbx = true) := HBN2.out.symm
     have hq := HQ.out
     have x4 := X4.out.cells
     have y4 := X4.out.loose
     have e7 := set7_grown w4 (w.heap.size + 1 + 1 + 1) g' nm' t b nx' (.slice va' vn' vc') (.slice ua' un' uc')
     have X7 := X4.out.set7 g' nm' t b nx' (.slice va' vn' vc') (.slice ua' un' uc')
     have hsz := K4.out.size
     have k7 := below_of_grown e7 (show w.heap.size ≤ w.heap.size + 1 + 1 + 1 by omega) hsz
     have s7 := S4.out.kept e7 (show w.heap.size + 1 + 1 ≠ w.heap.size + 1 + 1 + 1 by omega)
     unfold set7 at e7 X7 k7 s7
     have X5 := hid X7
     have K5 := hid (K4.out.trans k7)
     have S5 := hid s7
     have x5 := X5.out.cells
     have HNS := HNS2
     clear e7 X7 k7 s7 hsz
     go_wp2_with fail
     obtain ⟨W5, hW5⟩ : ∃ W5, (((((((w4.setCell ⟨w.heap.size + 1 + 1 + 1, 0, none⟩ (.int .i64 g')).setCell ⟨w.heap.size + 1 + 1 + 1, 1, none⟩ (.string nm')).setCell ⟨w.heap.size + 1 + 1 + 1, 2, none⟩ (.int .i64 t)).setCell ⟨w.heap.size + 1 + 1 + 1, 3, none⟩ (.int .i64 b)).setCell ⟨w.heap.size + 1 + 1 + 1, 4, none⟩ (.int .i64 nx')).setCell ⟨w.heap.size + 1 + 1 + 1, 5, none⟩ (.slice va' vn' vc')).setCell ⟨w.heap.size + 1 + 1 + 1, 6, none⟩ (.slice ua' un' uc')) = W5 := ⟨_, rfl⟩
     rw [hW5] at X5 S5 K5 ⊢
     clear hW5 x4 y4 x5 c0 c1 X4 S4 K4
     have HZ : Hid (∀ W, Below W5.heap.size W5 W → W.cell? ⟨w.heap.size + 1 + 1 + 1, 1, none⟩ = some (.string nm') ∧ W.cell? ⟨w.heap.size + 1 + 1 + 1, 2, none⟩ = some (.int .i64 t) ∧ W.cell? ⟨w.heap.size + 1 + 1 + 1, 3, none⟩ = some (.int .i64 b)) := fun W h => (by obtain ⟨x0, x1, x2, x3, x4, x5, x6⟩ := (X5.out.later h).cells; exact ⟨x1, x2, x3⟩)
     have HZ2 : Hid (∀ W, Bx W (w.heap.size + 1 + 1 + 1) 29 g' nm' t b nx' (.slice va' vn' vc') (.slice ua' un' uc') → W.cell? ⟨w.heap.size + 1 + 1 + 1, 1, none⟩ = some (.string nm') ∧ W.cell? ⟨w.heap.size + 1 + 1 + 1, 2, none⟩ = some (.int .i64 t) ∧ W.cell? ⟨w.heap.size + 1 + 1 + 1, 3, none⟩ = some (.int .i64 b)) := fun W h => (by obtain ⟨x0, x1, x2, x3, x4, x5, x6⟩ := h.cells; exact ⟨x1, x2, x3⟩)
     go_region_held3 (fun W => W.cell? ⟨w.heap.size + 1 + 1 + 1, 1, none⟩ = some (.string nm') ∧ W.cell? ⟨w.heap.size + 1 + 1 + 1, 2, none⟩ = some (.int .i64 t) ∧ W.cell? ⟨w.heap.size + 1 + 1 + 1, 3, none⟩ = some (.int .i64 b))
      ((first | with_reducible exact HZ.out _ (bdr (bre _)) | with_reducible exact HZ.out _ P1.out | with_reducible exact HS8.out))
      ((go_at_call 80; (with_reducible refine (clone_any nm' _ HNS.out).mono ?_); rintro e w6 ⟨rfl, hb6⟩;
        have P1 : Hid (Below W5.heap.size W5 w6) := btr (bdr (bre _)) hb6;
        have S6 := hid (S5.out.later P1.out);
        have s6 := S6.out.cells;
        have z6 := S6.out.loose8;
        have S7 := hid (S6.out.set' (t' := t) (b' := b));
        have X7 := hid (Bx.far7 (Bx.far7 (X5.out.later P1.out) (.int .i64 t) 0 (show w.heap.size + 1 + 1 + 1 ≠ w.heap.size + 1 + 1 by omega)) (.int .i64 b) 1 (show w.heap.size + 1 + 1 + 1 ≠ w.heap.size + 1 + 1 by omega));
        have HS8 := hid (HZ2.out _ X7.out)))
     have K7 := hid (bsk (bsk (btr K5.out P1.out) (show w.heap.size ≤ w.heap.size + 1 + 1 by omega) 0 (.int .i64 t)) (show w.heap.size ≤ w.heap.size + 1 + 1 by omega) 1 (.int .i64 b))
     have d7 := S7.out.cells
     clear HZ HZ2 HS8 s6 z6 S6 P1
     go_wp2
     refine bodyPost_ret (v := .tuple #[.string nm', .agg #[.int .i64 t, .int .i64 b]]) (by simp [results, Tryz.results39, go_sem, d7]) rfl ⟨by rw [← HN1.out, ← HT1.out, ← HB1.out, HNB.out]; rfl, ?_⟩
     exact K7.out
    case false =>
     have HNB : Hid (nbx = false) := HBN2.out.symm
     have hq := HQ.out
     have x4 := X4.out.cells
     go_wp2_with fail
     obtain ⟨W5, hW5⟩ : ∃ W5, w4 = W5 := ⟨_, rfl⟩
     have X5 := X4
     have S5 := S4
     have K5 := K4
     have HNS := HNS1
     rw [hW5] at X5 S5 K5 ⊢
     clear hW5 x4 c0 c1 X4 S4 K4
     have HZ : Hid (∀ W, Below W5.heap.size W5 W → W.cell? ⟨w.heap.size + 1 + 1 + 1, 1, none⟩ = some (.string nm) ∧ W.cell? ⟨w.heap.size + 1 + 1 + 1, 2, none⟩ = some (.int .i64 t) ∧ W.cell? ⟨w.heap.size + 1 + 1 + 1, 3, none⟩ = some (.int .i64 b)) := fun W h => (by obtain ⟨x0, x1, x2, x3, x4, x5, x6⟩ := (X5.out.later h).cells; exact ⟨x1, x2, x3⟩)
     have HZ2 : Hid (∀ W, Bx W (w.heap.size + 1 + 1 + 1) 29 g nm t b nx (.slice va vn vc) (.slice ua un uc) → W.cell? ⟨w.heap.size + 1 + 1 + 1, 1, none⟩ = some (.string nm) ∧ W.cell? ⟨w.heap.size + 1 + 1 + 1, 2, none⟩ = some (.int .i64 t) ∧ W.cell? ⟨w.heap.size + 1 + 1 + 1, 3, none⟩ = some (.int .i64 b)) := fun W h => (by obtain ⟨x0, x1, x2, x3, x4, x5, x6⟩ := h.cells; exact ⟨x1, x2, x3⟩)
     go_region_held3 (fun W => W.cell? ⟨w.heap.size + 1 + 1 + 1, 1, none⟩ = some (.string nm) ∧ W.cell? ⟨w.heap.size + 1 + 1 + 1, 2, none⟩ = some (.int .i64 t) ∧ W.cell? ⟨w.heap.size + 1 + 1 + 1, 3, none⟩ = some (.int .i64 b))
      ((first | with_reducible exact HZ.out _ (bdr (bre _)) | with_reducible exact HZ.out _ P1.out | with_reducible exact HS8.out))
      ((go_at_call 80; (with_reducible refine (clone_any nm _ HNS.out).mono ?_); rintro e w6 ⟨rfl, hb6⟩;
        have P1 : Hid (Below W5.heap.size W5 w6) := btr (bdr (bre _)) hb6;
        have S6 := hid (S5.out.later P1.out);
        have s6 := S6.out.cells;
        have z6 := S6.out.loose8;
        have S7 := hid (S6.out.set' (t' := t) (b' := b));
        have X7 := hid (Bx.far7 (Bx.far7 (X5.out.later P1.out) (.int .i64 t) 0 (show w.heap.size + 1 + 1 + 1 ≠ w.heap.size + 1 + 1 by omega)) (.int .i64 b) 1 (show w.heap.size + 1 + 1 + 1 ≠ w.heap.size + 1 + 1 by omega));
        have HS8 := hid (HZ2.out _ X7.out)))
     have K7 := hid (bsk (bsk (btr K5.out P1.out) (show w.heap.size ≤ w.heap.size + 1 + 1 by omega) 0 (.int .i64 t)) (show w.heap.size ≤ w.heap.size + 1 + 1 by omega) 1 (.int .i64 b))
     have d7 := S7.out.cells
     clear HZ HZ2 HS8 s6 z6 S6 P1
     go_wp2
     refine bodyPost_ret (v := .tuple #[.string nm, .agg #[.int .i64 t, .int .i64 b]]) (by simp [results, Tryz.results39, go_sem, d7]) rfl ⟨by rw [← HN1.out, ← HT1.out, ← HB1.out, HNB.out]; rfl, ?_⟩
     exact K7.out
   ·have HNB : Hid (nbx = false) := by show _ = _; rw [← HBN.out]; simp [hb]
    have hb2 : ¬ b' = b := fun h => hb h.symm
    have x4 := X4.out.cells
    go_wp2_with fail
    obtain ⟨W5, hW5⟩ : ∃ W5, w4 = W5 := ⟨_, rfl⟩
    have X5 := X4
    have S5 := S4
    have K5 := K4
    have HNS := HNS1
    rw [hW5] at X5 S5 K5 ⊢
    clear hW5 x4 c0 c1 X4 S4 K4
    have HZ : Hid (∀ W, Below W5.heap.size W5 W → W.cell? ⟨w.heap.size + 1 + 1 + 1, 1, none⟩ = some (.string nm) ∧ W.cell? ⟨w.heap.size + 1 + 1 + 1, 2, none⟩ = some (.int .i64 t) ∧ W.cell? ⟨w.heap.size + 1 + 1 + 1, 3, none⟩ = some (.int .i64 b)) := fun W h => (by obtain ⟨x0, x1, x2, x3, x4, x5, x6⟩ := (X5.out.later h).cells; exact ⟨x1, x2, x3⟩)
    have HZ2 : Hid (∀ W, Bx W (w.heap.size + 1 + 1 + 1) 29 g nm t b nx (.slice va vn vc) (.slice ua un uc) → W.cell? ⟨w.heap.size + 1 + 1 + 1, 1, none⟩ = some (.string nm) ∧ W.cell? ⟨w.heap.size + 1 + 1 + 1, 2, none⟩ = some (.int .i64 t) ∧ W.cell? ⟨w.heap.size + 1 + 1 + 1, 3, none⟩ = some (.int .i64 b)) := fun W h => (by obtain ⟨x0, x1, x2, x3, x4, x5, x6⟩ := h.cells; exact ⟨x1, x2, x3⟩)
    go_region_held3 (fun W => W.cell? ⟨w.heap.size + 1 + 1 + 1, 1, none⟩ = some (.string nm) ∧ W.cell? ⟨w.heap.size + 1 + 1 + 1, 2, none⟩ = some (.int .i64 t) ∧ W.cell? ⟨w.heap.size + 1 + 1 + 1, 3, none⟩ = some (.int .i64 b))
     ((first | with_reducible exact HZ.out _ (bdr (bre _)) | with_reducible exact HZ.out _ P1.out | with_reducible exact HS8.out))
     ((go_at_call 80; (with_reducible refine (clone_any nm _ HNS.out).mono ?_); rintro e w6 ⟨rfl, hb6⟩;
       have P1 : Hid (Below W5.heap.size W5 w6) := btr (bdr (bre _)) hb6;
       have S6 := hid (S5.out.later P1.out);
       have s6 := S6.out.cells;
       have z6 := S6.out.loose8;
       have S7 := hid (S6.out.set' (t' := t) (b' := b));
       have X7 := hid (Bx.far7 (Bx.far7 (X5.out.later P1.out) (.int .i64 t) 0 (show w.heap.size + 1 + 1 + 1 ≠ w.heap.size + 1 + 1 by omega)) (.int .i64 b) 1 (show w.heap.size + 1 + 1 + 1 ≠ w.heap.size + 1 + 1 by omega));
       have HS8 := hid (HZ2.out _ X7.out)))
    have K7 := hid (bsk (bsk (btr K5.out P1.out) (show w.heap.size ≤ w.heap.size + 1 + 1 by omega) 0 (.int .i64 t)) (show w.heap.size ≤ w.heap.size + 1 + 1 by omega) 1 (.int .i64 b))
    have d7 := S7.out.cells
    clear HZ HZ2 HS8 s6 z6 S6 P1
    go_wp2
    refine bodyPost_ret (v := .tuple #[.string nm, .agg #[.int .i64 t, .int .i64 b]]) (by simp [results, Tryz.results39, go_sem, d7]) rfl ⟨by rw [← HN1.out, ← HT1.out, ← HB1.out, HNB.out]; rfl, ?_⟩
    exact K7.out
  ·have HNB : Hid (nbx = false) := by show _ = _; rw [← HBN.out]; simp [ht]
   have ht2 : ¬ t' = t := fun h => ht h.symm
   have x4 := X4.out.cells
   go_wp2_with fail
   obtain ⟨W5, hW5⟩ : ∃ W5, w4 = W5 := ⟨_, rfl⟩
   have X5 := X4
   have S5 := S4
   have K5 := K4
   have HNS := HNS1
   rw [hW5] at X5 S5 K5 ⊢
   clear hW5 x4 c0 c1 X4 S4 K4
   have HZ : Hid (∀ W, Below W5.heap.size W5 W → W.cell? ⟨w.heap.size + 1 + 1 + 1, 1, none⟩ = some (.string nm) ∧ W.cell? ⟨w.heap.size + 1 + 1 + 1, 2, none⟩ = some (.int .i64 t) ∧ W.cell? ⟨w.heap.size + 1 + 1 + 1, 3, none⟩ = some (.int .i64 b)) := fun W h => (by obtain ⟨x0, x1, x2, x3, x4, x5, x6⟩ := (X5.out.later h).cells; exact ⟨x1, x2, x3⟩)
   have HZ2 : Hid (∀ W, Bx W (w.heap.size + 1 + 1 + 1) 29 g nm t b nx (.slice va vn vc) (.slice ua un uc) → W.cell? ⟨w.heap.size + 1 + 1 + 1, 1, none⟩ = some (.string nm) ∧ W.cell? ⟨w.heap.size + 1 + 1 + 1, 2, none⟩ = some (.int .i64 t) ∧ W.cell? ⟨w.heap.size + 1 + 1 + 1, 3, none⟩ = some (.int .i64 b)) := fun W h => (by obtain ⟨x0, x1, x2, x3, x4, x5, x6⟩ := h.cells; exact ⟨x1, x2, x3⟩)
   go_region_held3 (fun W => W.cell? ⟨w.heap.size + 1 + 1 + 1, 1, none⟩ = some (.string nm) ∧ W.cell? ⟨w.heap.size + 1 + 1 + 1, 2, none⟩ = some (.int .i64 t) ∧ W.cell? ⟨w.heap.size + 1 + 1 + 1, 3, none⟩ = some (.int .i64 b))
    ((first | with_reducible exact HZ.out _ (bdr (bre _)) | with_reducible exact HZ.out _ P1.out | with_reducible exact HS8.out))
    ((go_at_call 80; (with_reducible refine (clone_any nm _ HNS.out).mono ?_); rintro e w6 ⟨rfl, hb6⟩;
      have P1 : Hid (Below W5.heap.size W5 w6) := btr (bdr (bre _)) hb6;
      have S6 := hid (S5.out.later P1.out);
      have s6 := S6.out.cells;
      have z6 := S6.out.loose8;
      have S7 := hid (S6.out.set' (t' := t) (b' := b));
      have X7 := hid (Bx.far7 (Bx.far7 (X5.out.later P1.out) (.int .i64 t) 0 (show w.heap.size + 1 + 1 + 1 ≠ w.heap.size + 1 + 1 by omega)) (.int .i64 b) 1 (show w.heap.size + 1 + 1 + 1 ≠ w.heap.size + 1 + 1 by omega));
      have HS8 := hid (HZ2.out _ X7.out)))
   have K7 := hid (bsk (bsk (btr K5.out P1.out) (show w.heap.size ≤ w.heap.size + 1 + 1 by omega) 0 (.int .i64 t)) (show w.heap.size ≤ w.heap.size + 1 + 1 by omega) 1 (.int .i64 b))
   have d7 := S7.out.cells
   clear HZ HZ2 HS8 s6 z6 S6 P1
   go_wp2
   refine bodyPost_ret (v := .tuple #[.string nm, .agg #[.int .i64 t, .int .i64 b]]) (by simp [results, Tryz.results39, go_sem, d7]) rfl ⟨by rw [← HN1.out, ← HT1.out, ← HB1.out, HNB.out]; rfl, ?_⟩
   exact K7.out
end Go.Proofs.YtmpcmllfgogegaaGreat
