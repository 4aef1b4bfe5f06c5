/- Jbz, Jlw, Jlx, in one text. -/
import Derived.Test.YtgpnbifdbeenbabGreatJby
namespace Go.Proofs.YtgpnbifdbeenbabGreat
open Go.RowKit Go.ChangeMaps

theorem ptm_len (m : M4) (L : List M4) : (ptm m L).length = L.length + 1 := by
  unfold ptm
  rw [List.length_append, List.length_cons]
  have : (L.filter (fun y => decide (y.2.1 ≤ m.2.1))).length + (L.filter (fun y => decide (m.2.1 < y.2.1))).length = L.length := by
    induction L with
    | nil => rfl
    | cons y L ih =>
      simp only [List.filter_cons, List.length_cons]
      by_cases h : y.2.1 ≤ m.2.1
      · have h' : ¬ m.2.1 < y.2.1 := by omega
        simp only [h, h', decide_true, decide_false, if_true, Bool.false_eq_true, if_false, List.length_cons]; omega
      · have h' : m.2.1 < y.2.1 := by omega
        simp only [h, h', decide_true, decide_false, if_true, Bool.false_eq_true, if_false, List.length_cons]; omega
  omega
theorem ptm_mem (m : M4) (L : List M4) (y : M4) : y ∈ ptm m L ↔ y = m ∨ y ∈ L := by
  unfold ptm
  rw [List.mem_append, List.mem_cons, List.mem_filter, List.mem_filter, decide_eq_true_eq, decide_eq_true_eq]
  constructor
  · rintro (h | h | h)
    · exact .inr h.1
    · exact .inl h
    · exact .inr h.1
  · rintro (h | h)
    · exact .inr (.inl h)
    · rcases Int.lt_or_le m.2.1 y.2.1 with e | e
      · exact .inr (.inr ⟨h, e⟩)
      · exact .inl ⟨h, e⟩
theorem fnd_mem {x : Int} {L : List M4} {m : M4} (h : fnd x L = some m) : m ∈ L ∧ m.1 = x := by
  induction L with
  | nil => simp [fnd] at h
  | cons y L ih =>
    rw [fnd] at h
    by_cases e : y.1 = x
    · rw [if_pos e] at h; obtain rfl := Option.some.inj h; exact ⟨by simp, e⟩
    · rw [if_neg e] at h; exact ⟨List.mem_cons_of_mem _ (ih h).1, (ih h).2⟩
/-- The mail of a Gid is small, where the boxes' are. -/
theorem gm_small {A B : List M4} (ha : Sm A) (hb : Sm B) (g : Int) : (gm A B g).2.2.1.length ≤ 1048576 ∧ (gm A B g).2.2.2.size ≤ 1048576 := by
  unfold gm
  cases h1 : fnd g A with
  | none =>
    cases h2 : fnd g B with
    | none => exact ⟨Nat.zero_le _, Nat.zero_le _⟩
    | some y => exact hb y (fnd_mem h2).1
  | some x =>
    have ex := ha x (fnd_mem h1).1
    cases h2 : fnd g B with
    | none => exact ex
    | some y =>
      have ey := hb y (fnd_mem h2).1
      refine ⟨?_, ?_⟩
      · show (jml x.1 x.2.2.1 y.1 y.2.2.1).length ≤ _
        unfold jml
        split
        · rw [jl_len]; omega
        · exact ex.1
      · show (jmt x.1 x.2.2.2 y.1 y.2.2.2).size ≤ _
        unfold jmt mxs
        split
        · split
          · exact ey.2
          · exact ex.2
        · exact ex.2
theorem jms_small {A B : List M4} {GA GB : List Int} {na nb : Int} (ha : Sm A) (hb : Sm B) (gs : List Int) : ∀ s : List M4 × Int, Sm s.1 → Sm (gs.foldl (jst A B GA GB na nb) s).1 ∧ (gs.foldl (jst A B GA GB na nb) s).1.length ≤ s.1.length + gs.length := by
  induction gs with
  | nil => intro s hs; exact ⟨hs, by simp⟩
  | cons g gs ih =>
    intro s hs
    rw [List.foldl_cons]
    have key : Sm (jst A B GA GB na nb s g).1 ∧ (jst A B GA GB na nb s g).1.length ≤ s.1.length + 1 := by
      unfold jst
      split
      · exact ⟨hs, Nat.le_succ _⟩
      · split
        · refine ⟨fun y hy => ?_, Nat.le_of_eq (ptm_len _ _)⟩
          rcases (ptm_mem _ _ y).1 hy with rfl | hy
          · exact gm_small ha hb g
          · exact hs y hy
        · refine ⟨fun y hy => ?_, Nat.le_of_eq (ptm_len _ _)⟩
          rcases (ptm_mem _ _ y).1 hy with rfl | hy
          · exact gm_small ha hb g
          · exact hs y hy
    have h := ih _ key.1
    exact ⟨h.1, by rw [List.length_cons]; omega⟩
theorem jbL_small {g nx : Int} {L : List M4} {G : List Int} {g' nx' : Int} {L' : List M4} {G' : List Int} (ha : Sm L) (hb : Sm L') : Sm (jbL g nx L G g' nx' L' G') ∧ (jbL g nx L G g' nx' L' G').length ≤ L.length + L'.length := by
  unfold jbL
  split
  · have h := jms_small (GA := G) (GB := G') (na := nx) (nb := nx') ha hb (asl (L.map (·.1) ++ L'.map (·.1))) ([], mx8 nx nx') (fun y hy => by cases hy)
    have h2 := asl_len (L.map (·.1) ++ L'.map (·.1))
    rw [List.length_append, List.length_map, List.length_map] at h2
    refine ⟨h.1, Nat.le_trans h.2 ?_⟩
    simpa using h2
  · exact ⟨ha, by omega⟩
theorem jbG_len {g : Int} {G : List Int} {g' : Int} {G' : List Int} : (jbG g G g' G').length ≤ G.length + G'.length := by
  unfold jbG
  split
  · have h2 := asl_len (G ++ G'); rw [List.length_append] at h2; exact h2
  · omega
theorem jbN_size {g : Int} {nm : ByteArray} {t b g' : Int} {nm' : ByteArray} {t' b' : Int} (h1 : nm.size ≤ 1048576) (h2 : nm'.size ≤ 1048576) : (jbN g nm t b g' nm' t' b').size ≤ 1048576 := by
  unfold jbN
  split
  · exact h2
  · exact h1

set_option maxHeartbeats 4000000 in
set_option maxRecDepth 100000 in
theorem specFits_any (l1 h1 l2 h2 : Nat) (g : Int) (nm : ByteArray) (t b nx : Int) (ma : Option Addr) (mn mc : Nat) (ga : Option Addr) (gn gc : Nat) (L : List M4) (G : List Int) (l3 h3 l4 h4 : Nat) (g' : Int) (nm' : ByteArray) (t' b' nx' : Int) (ma' : Option Addr) (mn' mc' : Nat) (ga' : Option Addr) (gn' gc' : Nat) (L' : List M4) (G' : List Int) (w : World) (hl : L.length = mn) (hn : mn ≤ 1048576) (hsm : Sm L) (hm : Ms l1 h1 w ma L) (hgl : G.length = gn) (hgn : gn ≤ 1048576) (hs : Is l2 h2 w ga G) (hg0 : ga = none → gc = 0) (hl' : L'.length = mn') (hn' : mn' ≤ 1048576) (hsm' : Sm L') (hm' : Ms l3 h3 w ma' L') (hgl' : G'.length = gn') (hgn' : gn' ≤ 1048576) (hs' : Is l4 h4 w ga' G') (hsum : mn + mn' ≤ 1048576) (hsg : gn + gn' ≤ 1048576) (hnm : nm.size ≤ 1048576) (hnm' : nm'.size ≤ 1048576) :
    Calls Tryz.prog 18 #[.agg #[.int .i64 g, .string nm, .int .i64 t, .int .i64 b, .int .i64 nx, .slice ma mn mc, .slice ga gn gc], .agg #[.int .i64 g', .string nm', .int .i64 t', .int .i64 b', .int .i64 nx', .slice ma' mn' mc', .slice ga' gn' gc']] w fun e w' => e = .returned (.bool (bxOk g (jbN g nm t b g' nm' t' b') (jbT g nm t b g' nm' t' b') (jbB g nm t b g' nm' t' b') (jbX g nx L G g' nx' L' G') (jbL g nx L G g' nx' L' G') (jbG g G g' G'))) ∧ Below w.heap.size w w' := by
  have hjl := jbL_small (g := g) (nx := nx) (G := G) (g' := g') (nx' := nx') (G' := G') hsm hsm'
  obtain ⟨p, hp, csp, -⟩ := box_l g (jbN g nm t b g' nm' t' b') (jbT g nm t b g' nm' t' b') (jbB g nm t b g' nm' t' b') (jbX g nx L G g' nx' L' G') _ _ (jbL g nx L G g' nx' L' G') (jbG g G g' G') (jbN_size hnm hnm') rfl (by have := hjl.2; omega) hjl.1 rfl (by have := jbG_len (g := g) (G := G) (g' := g') (G' := G'); omega)
  have HX := hid (specJoinBox_any l1 h1 l2 h2 g nm t b nx ma mn mc ga gn gc L G l3 h3 l4 h4 g' nm' t' b' nx' ma' mn' mc' ga' gn' gc' L' G')
  have HP := hid hp.out
  obtain ⟨jn, hjn⟩ : ∃ x, jbN g nm t b g' nm' t' b' = x := ⟨_, rfl⟩
  obtain ⟨jt, hjt⟩ : ∃ x, jbT g nm t b g' nm' t' b' = x := ⟨_, rfl⟩
  obtain ⟨jb, hjb⟩ : ∃ x, jbB g nm t b g' nm' t' b' = x := ⟨_, rfl⟩
  obtain ⟨jx, hjx⟩ : ∃ x, jbX g nx L G g' nx' L' G' = x := ⟨_, rfl⟩
  obtain ⟨jl, hjl2⟩ : ∃ x, jbL g nx L G g' nx' L' G' = x := ⟨_, rfl⟩
  obtain ⟨jg, hjg⟩ : ∃ x, jbG g G g' G' = x := ⟨_, rfl⟩
  rw [hjn, hjt, hjb, hjx, hjl2, hjg] at csp HX HP ⊢
  have CSP := csp
  obtain ⟨W0, hW0⟩ : ∃ W0, (w.alloc (.cells #[.int .i64 g, .string nm, .int .i64 t, .int .i64 b, .int .i64 nx, .slice ma mn mc, .slice ga gn gc] 33)).alloc (.cells #[.int .i64 g', .string nm', .int .i64 t', .int .i64 b', .int .i64 nx', .slice ma' mn' mc', .slice ga' gn' gc'] 33) = W0 := ⟨_, rfl⟩
  have a0 : Bx W0 w.heap.size 33 g nm t b nx (.slice ma mn mc) (.slice ga gn gc) := by subst hW0; exact (Bx.new w _ g nm t b nx _ _).later (bpush (bre _) _)
  have a1 : Bx W0 (w.heap.size + 1) 33 g' nm' t' b' nx' (.slice ma' mn' mc') (.slice ga' gn' gc') := by
    subst hW0
    have h := Bx.new (w.alloc (.cells #[.int .i64 g, .string nm, .int .i64 t, .int .i64 b, .int .i64 nx, .slice ma mn mc, .slice ga gn gc] 33)) 33 g' nm' t' b' nx' (.slice ma' mn' mc') (.slice ga' gn' gc')
    rwa [show (w.alloc (.cells #[.int .i64 g, .string nm, .int .i64 t, .int .i64 b, .int .i64 nx, .slice ma mn mc, .slice ga gn gc] 33)).heap.size = w.heap.size + 1 by simp] at h
  have b0 : Below w.heap.size w W0 := by subst hW0; exact bpush (bpush (bre _) _) _
  have HJ := hid (HX.out W0 hl hn hsm (hm.later b0) hgl hgn (hs.later b0) hg0 hl' hn' hsm' (hm'.later b0) hgl' hgn' (hs'.later b0) hsum)
  have c0 := a0.cells
  have c1 := a1.cells
  have B0 := hid b0
  clear a0 a1 b0 hm hm' hs hs' hl hl' hgl hgl' hsm hsm' hsum hjl hjn hjt hjb hjx hjl2 hjg HX hp csp hn hn' hgn hgn' hg0 hsg hnm hnm'
  go_enter Tryz.func18, Tryz.ntmps18
  go_wp2_with fail
  clear hW0 c0 c1
  refine (HJ.out).mono ?_; rintro e w1 ⟨mv, gv, rfl, how, hb1⟩
  obtain ⟨Z, hZ, hoz, hoi, hdj, hde⟩ := how
  obtain ⟨va, vc, rfl⟩ := hoz.shape
  obtain ⟨ag, cg, rfl, _⟩ := OwI.shape hoi
  have HMS := hid (hZ ▸ hoz.ms.2)
  have HIS := hid (OwI.is hoi).2
  have hzl : Z.length = jl.length := by rw [← hZ, List.length_map]
  rw [hzl]
  have B1 := hid (btr B0.out hb1)
  clear hZ hoz hoi hdj hde hb1 hzl
  go_wp2_with fail
  refine (CSP.out _ _ _ _ va vc ag cg w1 HMS.out HIS.out).mono ?_; rintro e w2 ⟨rfl, hb2⟩
  have B2 := hid (btr B1.out hb2)
  clear hb2
  go_wp2
  go_ret
  exact ⟨by rw [← HP.out]; rfl, B2.out⟩
end Go.Proofs.YtgpnbifdbeenbabGreat

namespace Go.Proofs.YtgpnbifdbeenbabGreat
open Go.RowKit Go.ChangeMaps

theorem jpw_comm (p q : R3) : jp p q = jp q p := by
  have iff : ∀ p q : R3, jp p q = if (p.2.1 = q.2.1 ∧ p.2.2 = q.2.2 ∧ p.1 < q.1) ∨ p.2.1 < q.2.1 ∨ (p.2.1 = q.2.1 ∧ p.2.2 < q.2.2) then q else p := by
    intro p q
    unfold jp
    by_cases h : cb q.1 q.2.1 q.2.2 p.1 p.2.1 p.2.2 = true
    · rw [if_pos h, if_pos (by have := cb_iff.1 h; omega)]
    · rw [if_neg h, if_neg (fun k => h (cb_iff.2 (by omega)))]
  rw [iff, iff]
  split
  · rw [if_neg (by omega)]
  · split
    · rfl
    · exact Prod.ext (by omega) (Prod.ext (by omega) (by omega))
theorem jpw_self (p : R3) : jp p p = p := by unfold jp; split <;> rfl
theorem jlw_comm (a b : List R3) : jl a b = jl b a := by
  unfold jl
  induction a generalizing b with
  | nil => cases b <;> rfl
  | cons p a ih =>
    cases b with
    | nil => rfl
    | cons q b => rw [List.zipWith_cons_cons, List.zipWith_cons_cons, jpw_comm, ih]
theorem jlw_self (a : List R3) : jl a a = a := by
  unfold jl
  induction a with
  | nil => rfl
  | cons p a ih => rw [List.zipWith_cons_cons, jpw_self, ih]
theorem ba_ext {x y : ByteArray} (h : x.toList = y.toList) : x = y := by
  cases x; cases y
  rename_i a b
  have : a.toList = b.toList := by simpa [ByteArray.toList_eq] using h
  congr 1
  exact Array.toList_inj.1 this
theorem mxs_comm (x y : ByteArray) : mxs x y = mxs y x := by
  unfold mxs
  have h := less_tri x.toList y.toList
  have h2 := less_tri y.toList x.toList
  cases e : Op.bytesLess x.toList y.toList with
  | true =>
    have e2 : Op.bytesLess y.toList x.toList = false := by rw [e] at h; simp at h; exact h.1
    rw [e2]; rfl
  | false =>
    cases e2 : Op.bytesLess y.toList x.toList with
    | true => rfl
    | false =>
      rw [e, e2] at h
      simp at h
      exact (ba_ext h).symm
theorem mxs_self (x : ByteArray) : mxs x x = x := by unfold mxs; split <;> rfl
theorem gm_comm (A B : List M4) (g : Int) : gm A B g = gm B A g := by
  unfold gm
  cases h1 : fnd g A with
  | none => cases h2 : fnd g B <;> rfl
  | some x =>
    cases h2 : fnd g B with
    | none => rfl
    | some y =>
      have e : x.1 = y.1 := (fnd_mem h1).2.trans (fnd_mem h2).2.symm
      show (x.1, jmu x.1 x.2.1 y.1 y.2.1, jml x.1 x.2.2.1 y.1 y.2.2.1, jmt x.1 x.2.2.2 y.1 y.2.2.2) = (y.1, jmu y.1 y.2.1 x.1 x.2.1, jml y.1 y.2.2.1 x.1 x.2.2.1, jmt y.1 y.2.2.2 x.1 x.2.2.2)
      rw [e]
      unfold jmu jml jmt
      rw [if_pos rfl, if_pos rfl, if_pos rfl, if_pos rfl, if_pos rfl, if_pos rfl, jlw_comm, mxs_comm]
      congr 2
      split <;> split <;> omega
theorem kep_comm (A B : List M4) (na nb g : Int) : kep A B na nb g = kep B A nb na g := by unfold kep; rw [Bool.and_comm]
theorem mx8_comm (x y : Int) : mx8 x y = mx8 y x := by unfold mx8; split <;> split <;> omega
theorem jst_comm (A B : List M4) (GA GB : List Int) (na nb : Int) : jst A B GA GB na nb = jst B A GB GA nb na := by
  funext s g
  unfold jst
  rw [Bool.or_comm, kep_comm, gm_comm]
theorem jms_comm (A B : List M4) (GA GB : List Int) (na nb : Int) (gs : List Int) : jms A B GA GB na nb gs = jms B A GB GA nb na gs := by
  unfold jms
  rw [jst_comm, mx8_comm]
theorem asl_comm (a b : List Int) : asl (a ++ b) = asl (b ++ a) := asl_same (fun y => by rw [List.mem_append, List.mem_append]; exact Or.comm)
/-- The name, too. -/
theorem bnm_comm (nm : ByteArray) (t b : Int) (nm' : ByteArray) (t' b' : Int) : bnm nm t b nm' t' b' = true → bnm nm' t' b' nm t b = false := by
  intro h
  unfold bnm at h ⊢
  simp only [Bool.or_eq_true, Bool.and_eq_true, decide_eq_true_eq, later_iff] at h
  rw [Bool.or_eq_false_iff]
  refine ⟨?_, ?_⟩
  · rw [← Bool.not_eq_true, later_iff]; omega
  · rcases h with h | ⟨⟨h1, h2⟩, h3⟩
    · have : ¬ (t' = t ∧ b' = b) := by omega
      by_cases e : t' = t
      · have e2 : ¬ b' = b := fun e2 => this ⟨e, e2⟩
        simp [e2]
      · simp [e]
    · have := less_tri nm.toList nm'.toList
      rw [h3] at this
      rw [this]; simp
theorem bnm_none {nm : ByteArray} {t b : Int} {nm' : ByteArray} {t' b' : Int} (h1 : bnm nm t b nm' t' b' = false) (h2 : bnm nm' t' b' nm t b = false) : nm = nm' ∧ t = t' ∧ b = b' := by
  unfold bnm at h1 h2
  rw [Bool.or_eq_false_iff, ← Bool.not_eq_true, later_iff] at h1 h2
  have et : t = t' := by omega
  have eb : b = b' := by omega
  refine ⟨?_, et, eb⟩
  have q1 := h1.2
  have q2 := h2.2
  simp only [et, eb, decide_true, Bool.true_and, Bool.not_eq_false', Bool.or_eq_true] at q1 q2
  rcases q1 with q1 | q1
  · rcases q2 with q2 | q2
    · have := less_tri nm'.toList nm.toList
      rw [q1, q2] at this; simp at this
    · exact ba_ext (by simpa using q2)
  · exact (ba_ext (by simpa using q1)).symm
theorem jbN_comm (g : Int) (nm : ByteArray) (t b : Int) (nm' : ByteArray) (t' b' : Int) : jbN g nm t b g nm' t' b' = jbN g nm' t' b' g nm t b ∧ jbT g nm t b g nm' t' b' = jbT g nm' t' b' g nm t b ∧ jbB g nm t b g nm' t' b' = jbB g nm' t' b' g nm t b := by
  unfold jbN jbT jbB
  cases e : bnm nm t b nm' t' b' with
  | true =>
    have e2 := bnm_comm nm t b nm' t' b' e
    simp [e2]
  | false =>
    cases e2 : bnm nm' t' b' nm t b with
    | true => simp
    | false =>
      obtain ⟨h1, h2, h3⟩ := bnm_none e e2
      simp [h1, h2, h3]
theorem jbX_comm (g nx : Int) (L : List M4) (G : List Int) (nx' : Int) (L' : List M4) (G' : List Int) : jbX g nx L G g nx' L' G' = jbX g nx' L' G' g nx L G ∧ jbL g nx L G g nx' L' G' = jbL g nx' L' G' g nx L G ∧ jbG g G g G' = jbG g G' g G := by
  unfold jbX jbL jbG
  rw [if_pos rfl, if_pos rfl, if_pos rfl, if_pos rfl, if_pos rfl, if_pos rfl, jms_comm, asl_comm (L.map _), asl_comm G]
  exact ⟨rfl, rfl, rfl⟩
end Go.Proofs.YtgpnbifdbeenbabGreat

namespace Go.Proofs.YtgpnbifdbeenbabGreat
open Go.RowKit Go.ChangeMaps

/-- By Uid, and of like ones by Gid. -/
def ug (x y : M4) : Prop := x.2.1 < y.2.1 ∨ (x.2.1 = y.2.1 ∧ x.1 < y.1)
theorem strict_same {α : Type} {R : α → α → Prop} (asym : ∀ x y, R x y → ¬ R y x) {X Y : List α} (hx : X.Pairwise R) (hy : Y.Pairwise R) (h : ∀ y, y ∈ X ↔ y ∈ Y) : X = Y := by
  induction X generalizing Y with
  | nil =>
    cases Y with
    | nil => rfl
    | cons y Y => exact absurd ((h y).2 (by simp)) (by simp)
  | cons x X ih =>
    cases Y with
    | nil => exact absurd ((h x).1 (by simp)) (by simp)
    | cons y Y =>
      have px := List.pairwise_cons.1 hx
      have py := List.pairwise_cons.1 hy
      have e : x = y := by
        rcases List.mem_cons.1 ((h x).1 (by simp)) with e | e
        · exact e
        · rcases List.mem_cons.1 ((h y).2 (by simp)) with e' | e'
          · exact e'.symm
          · exact absurd (py.1 x e) (asym x y (px.1 y e'))
      subst e
      rw [ih px.2 py.2 (fun z => ?_)]
      constructor
      · intro hz
        rcases List.mem_cons.1 ((h z).1 (List.mem_cons_of_mem _ hz)) with e | e
        · subst e; exact absurd (px.1 z hz) (fun k => asym z z k k)
        · exact e
      · intro hz
        rcases List.mem_cons.1 ((h z).2 (List.mem_cons_of_mem _ hz)) with e | e
        · subst e; exact absurd (py.1 z hz) (fun k => asym z z k k)
        · exact e
theorem ug_asym (x y : M4) : ug x y → ¬ ug y x := by unfold ug; omega
theorem ptm_ug {m : M4} {L : List M4} (h : L.Pairwise ug) (hg : ∀ y ∈ L, y.1 < m.1) : (ptm m L).Pairwise ug := by
  unfold ptm
  rw [List.pairwise_append, List.pairwise_cons]
  refine ⟨h.sublist List.filter_sublist, ⟨fun y hy => ?_, h.sublist List.filter_sublist⟩, fun y hy z hz => ?_⟩
  · exact .inl (by simpa using (List.mem_filter.1 hy).2)
  · have h1 : y.2.1 ≤ m.2.1 := by simpa using (List.mem_filter.1 hy).2
    rcases List.mem_cons.1 hz with rfl | hz
    · have h2 := hg y (List.mem_filter.1 hy).1
      unfold ug; omega
    · have h2 : m.2.1 < z.2.1 := by simpa using (List.mem_filter.1 hz).2
      exact .inl (by omega)
theorem gm_gid {A B : List M4} {g : Int} (h : ¬ (fnd g A = none ∧ fnd g B = none)) : (gm A B g).1 = g := by
  unfold gm
  cases h1 : fnd g A with
  | none =>
    cases h2 : fnd g B with
    | none => exact absurd ⟨h1, h2⟩ h
    | some y => exact (fnd_mem h2).2
  | some x =>
    cases h2 : fnd g B with
    | none => exact (fnd_mem h1).2
    | some y => exact (fnd_mem h1).2
/-- One Gid's mail, as it stands in what both come to. -/
theorem jst_cases (A B : List M4) (GA GB : List Int) (na nb : Int) (s : List M4 × Int) (g : Int) : jst A B GA GB na nb s g = s ∧ (inl g GA || inl g GB) = true ∨ (inl g GA || inl g GB) = false ∧ ∃ m n, m.1 = (gm A B g).1 ∧ (m = gm A B g ∧ kep A B na nb g = true ∧ n = s.2 ∨ m = stu (gm A B g) s.2 ∧ kep A B na nb g = false ∧ n = w64 (s.2 + 1)) ∧ jst A B GA GB na nb s g = (ptm m s.1, n) := by
  unfold jst
  cases h1 : (inl g GA || inl g GB) with
  | true => exact .inl ⟨by simp, rfl⟩
  | false =>
    refine .inr ⟨rfl, ?_⟩
    cases h2 : kep A B na nb g with
    | true => exact ⟨gm A B g, s.2, rfl, .inl ⟨rfl, rfl, rfl⟩, by simp⟩
    | false => exact ⟨stu (gm A B g) s.2, w64 (s.2 + 1), rfl, .inr ⟨rfl, rfl, rfl⟩, by simp⟩
/-- The order of what both come to, and its Gids. -/
theorem jms_ug (A B : List M4) (GA GB : List Int) (na nb : Int) : ∀ (gs : List Int) (s : List M4 × Int), gs.Pairwise (· < ·) → (∀ g ∈ gs, ¬ (fnd g A = none ∧ fnd g B = none)) → s.1.Pairwise ug → (∀ y ∈ s.1, ∀ g ∈ gs, y.1 < g) →
    (gs.foldl (jst A B GA GB na nb) s).1.Pairwise ug ∧ ∀ y, y ∈ (gs.foldl (jst A B GA GB na nb) s).1 → y ∈ s.1 ∨ (y.1 ∈ gs ∧ (inl y.1 GA || inl y.1 GB) = false)
  | [], s, _, _, h3, _ => ⟨h3, fun _ h => .inl h⟩
  | g :: gs, s, h1, h2, h3, h4 => by
    have p1 := List.pairwise_cons.1 h1
    rw [List.foldl_cons]
    rcases jst_cases A B GA GB na nb s g with ⟨e, _⟩ | ⟨hin, m, n, hm, _, e⟩
    · rw [e]
      have r := jms_ug A B GA GB na nb gs s p1.2 (fun x hx => h2 x (List.mem_cons_of_mem _ hx)) h3 (fun y hy x hx => h4 y hy x (List.mem_cons_of_mem _ hx))
      exact ⟨r.1, fun y hy => (r.2 y hy).imp id (fun k => ⟨List.mem_cons_of_mem _ k.1, k.2⟩)⟩
    · rw [e]
      have hg : m.1 = g := hm.trans (gm_gid (h2 g (by simp)))
      have r := jms_ug A B GA GB na nb gs (ptm m s.1, n) p1.2 (fun x hx => h2 x (List.mem_cons_of_mem _ hx)) (ptm_ug h3 (fun y hy => by rw [hg]; exact h4 y hy g (by simp))) (fun y hy x hx => by
        rcases (ptm_mem _ _ y).1 hy with rfl | hy
        · rw [hg]; exact p1.1 x hx
        · exact h4 y hy x (List.mem_cons_of_mem _ hx))
      refine ⟨r.1, fun y hy => ?_⟩
      rcases r.2 y hy with k | k
      · rcases (ptm_mem _ _ y).1 k with rfl | k
        · exact .inr ⟨by rw [hg]; simp, by rw [hg]; exact hin⟩
        · exact .inl k
      · exact .inr ⟨List.mem_cons_of_mem _ k.1, k.2⟩
theorem fnd_some {x : Int} : ∀ {l : List M4}, x ∈ l.map (·.1) → fnd x l ≠ none
  | [], h => by simp at h
  | y :: l, h => by
    rw [fnd]
    by_cases e : y.1 = x
    · rw [if_pos e]; simp
    · rw [if_neg e]
      rw [List.map_cons, List.mem_cons] at h
      exact fnd_some (h.resolve_left (fun h' => e h'.symm))
theorem gids_have {A B : List M4} {g : Int} (h : g ∈ asl (A.map (·.1) ++ B.map (·.1))) : ¬ (fnd g A = none ∧ fnd g B = none) := fun hc => by
  rcases List.mem_append.1 ((asl_mem _ g).1 h) with k | k
  · exact fnd_some k hc.1
  · exact fnd_some k hc.2
/-- Of a list with a Gid once each the first of a Gid is the one. -/
theorem fnd_one {L : List M4} (h : ∀ x ∈ L, ∀ y ∈ L, x.1 = y.1 → x = y) {m : M4} (hm : m ∈ L) : fnd m.1 L = some m := by
  cases e : fnd m.1 L with
  | none => exact absurd e (fnd_some (List.mem_map_of_mem hm))
  | some y => rw [h y (fnd_mem e).1 m hm (fnd_mem e).2]
/-- What is in order by Uid and Gid, with a Gid once each and none that is gone, comes to itself. -/
theorem jms_self {L : List M4} {G : List Int} {nx : Int} (h1 : L.Pairwise ug) (h2 : ∀ x ∈ L, ∀ y ∈ L, x.1 = y.1 → x = y) (h3 : ∀ x ∈ L, inl x.1 G = false) : jms L L G G nx nx (asl (L.map (·.1) ++ L.map (·.1))) = (L, nx) := by
  have hgm : ∀ m ∈ L, gm L L m.1 = m := fun m hm => by
    unfold gm
    rw [fnd_one h2 hm]
    show (m.1, jmu m.1 m.2.1 m.1 m.2.1, jml m.1 m.2.2.1 m.1 m.2.2.1, jmt m.1 m.2.2.2 m.1 m.2.2.2) = m
    unfold jmu jml jmt
    rw [if_pos rfl, if_pos rfl, if_pos rfl, jlw_self, mxs_self]
    split <;> rfl
  have hkp : ∀ m ∈ L, kep L L nx nx m.1 = true := fun m hm => by
    unfold kep hol kpu
    rw [fnd_one h2 hm]
    simp
  have hmem : ∀ g ∈ asl (L.map (·.1) ++ L.map (·.1)), ∃ m ∈ L, m.1 = g := fun g hg => by
    rcases List.mem_append.1 ((asl_mem _ g).1 hg) with k | k <;> exact List.mem_map.1 k
  have hall : ∀ m ∈ L, m.1 ∈ asl (L.map (·.1) ++ L.map (·.1)) := fun m hm => (asl_mem _ _).2 (List.mem_append_left _ (List.mem_map_of_mem hm))
  have hu := jms_ug L L G G nx nx (asl (L.map (·.1) ++ L.map (·.1))) ([], mx8 nx nx) (asl_asc _) (fun g hg => gids_have hg) List.Pairwise.nil (fun y hy => by cases hy)
  have key : ∀ (gs : List Int) (s : List M4 × Int), (∀ g ∈ gs, ∃ m ∈ L, m.1 = g) → (gs.foldl (jst L L G G nx nx) s).2 = s.2 ∧ ∀ y, y ∈ (gs.foldl (jst L L G G nx nx) s).1 ↔ y ∈ s.1 ∨ (y ∈ L ∧ y.1 ∈ gs) := by
    intro gs
    induction gs with
    | nil => intro s _; exact ⟨rfl, fun y => by simp⟩
    | cons g gs ih =>
      intro s hs
      obtain ⟨m, hm, rfl⟩ := hs g (by simp)
      rw [List.foldl_cons]
      have e : jst L L G G nx nx s m.1 = (ptm m s.1, s.2) := by
        unfold jst
        rw [h3 m hm, if_neg (by simp), if_pos (hkp m hm), hgm m hm]
      rw [e]
      have r := ih (ptm m s.1, s.2) (fun x hx => hs x (List.mem_cons_of_mem _ hx))
      refine ⟨r.1, fun y => ?_⟩
      rw [r.2 y, ptm_mem, List.mem_cons]
      constructor
      · rintro ((k | k) | k)
        · subst k; exact .inr ⟨hm, .inl rfl⟩
        · exact .inl k
        · exact .inr ⟨k.1, .inr k.2⟩
      · rintro (k | ⟨k1, k2 | k2⟩)
        · exact .inl (.inr k)
        · exact .inl (.inl (h2 y k1 m hm k2))
        · exact .inr ⟨k1, k2⟩
  have r := key (asl (L.map (·.1) ++ L.map (·.1))) ([], mx8 nx nx) hmem
  have e1 : (jms L L G G nx nx (asl (L.map (·.1) ++ L.map (·.1)))).1 = L := strict_same ug_asym hu.1 h1 (fun y => by
    rw [show (jms L L G G nx nx (asl (L.map (·.1) ++ L.map (·.1)))) = (asl (L.map (·.1) ++ L.map (·.1))).foldl (jst L L G G nx nx) ([], mx8 nx nx) from rfl, r.2 y]
    exact ⟨fun k => k.elim (fun k => by cases k) (fun k => k.1), fun k => .inr ⟨k, hall y k⟩⟩)
  have e2 : (jms L L G G nx nx (asl (L.map (·.1) ++ L.map (·.1)))).2 = nx := by
    rw [show (jms L L G G nx nx (asl (L.map (·.1) ++ L.map (·.1)))) = (asl (L.map (·.1) ++ L.map (·.1))).foldl (jst L L G G nx nx) ([], mx8 nx nx) from rfl, r.1]
    show mx8 nx nx = nx
    unfold mx8; split <;> rfl
  exact Prod.ext e1 e2
/-- In an order by Uid and Gid, where the Gids are told by the rounds, each Gid stands once. -/
theorem jms_once (A B : List M4) (GA GB : List Int) (na nb : Int) : ∀ (gs : List Int) (s : List M4 × Int), gs.Pairwise (· < ·) → (∀ g ∈ gs, ¬ (fnd g A = none ∧ fnd g B = none)) → (∀ x ∈ s.1, ∀ y ∈ s.1, x.1 = y.1 → x = y) → (∀ y ∈ s.1, ∀ g ∈ gs, y.1 < g) →
    ∀ x ∈ (gs.foldl (jst A B GA GB na nb) s).1, ∀ y ∈ (gs.foldl (jst A B GA GB na nb) s).1, x.1 = y.1 → x = y
  | [], s, _, _, h3, _ => h3
  | g :: gs, s, h1, h2, h3, h4 => by
    have p1 := List.pairwise_cons.1 h1
    rw [List.foldl_cons]
    rcases jst_cases A B GA GB na nb s g with ⟨e, _⟩ | ⟨_, m, n, hm, _, e⟩
    · rw [e]
      exact jms_once A B GA GB na nb gs s p1.2 (fun x hx => h2 x (List.mem_cons_of_mem _ hx)) h3 (fun y hy x hx => h4 y hy x (List.mem_cons_of_mem _ hx))
    · rw [e]
      have hg : m.1 = g := hm.trans (gm_gid (h2 g (by simp)))
      refine jms_once A B GA GB na nb gs (ptm m s.1, n) p1.2 (fun x hx => h2 x (List.mem_cons_of_mem _ hx)) (fun x hx y hy exy => ?_) (fun y hy x hx => ?_)
      · rcases (ptm_mem _ _ x).1 hx with ex | kx
        · rcases (ptm_mem _ _ y).1 hy with ey | ky
          · rw [ex, ey]
          · have := h4 y ky g (by simp); rw [ex] at exy; omega
        · rcases (ptm_mem _ _ y).1 hy with ey | ky
          · have := h4 x kx g (by simp); rw [ey] at exy; omega
          · exact h3 x kx y ky exy
      · rcases (ptm_mem _ _ y).1 hy with rfl | hy
        · rw [hg]; exact p1.1 x hx
        · exact h4 y hy x (List.mem_cons_of_mem _ hx)
/-- What two boxes of one Gid come to comes to itself again. -/
theorem jb_again (g nx : Int) (L : List M4) (G : List Int) (nx' : Int) (L' : List M4) (G' : List Int) :
    jbL g (jbX g nx L G g nx' L' G') (jbL g nx L G g nx' L' G') (jbG g G g G') g (jbX g nx L G g nx' L' G') (jbL g nx L G g nx' L' G') (jbG g G g G') = jbL g nx L G g nx' L' G' ∧
    jbX g (jbX g nx L G g nx' L' G') (jbL g nx L G g nx' L' G') (jbG g G g G') g (jbX g nx L G g nx' L' G') (jbL g nx L G g nx' L' G') (jbG g G g G') = jbX g nx L G g nx' L' G' ∧ jbG g (jbG g G g G') g (jbG g G g G') = jbG g G g G' := by
  have eL : jbL g nx L G g nx' L' G' = (jms L L' G G' nx nx' (asl (L.map (·.1) ++ L'.map (·.1)))).1 := if_pos rfl
  have eG : jbG g G g G' = asl (G ++ G') := if_pos rfl
  have hu := jms_ug L L' G G' nx nx' (asl (L.map (·.1) ++ L'.map (·.1))) ([], mx8 nx nx') (asl_asc _) (fun g hg => gids_have hg) List.Pairwise.nil (fun y hy => by cases hy)
  have ho := jms_once L L' G G' nx nx' (asl (L.map (·.1) ++ L'.map (·.1))) ([], mx8 nx nx') (asl_asc _) (fun g hg => gids_have hg) (fun x hx => by cases hx) (fun y hy => by cases hy)
  have hs := jms_self (L := jbL g nx L G g nx' L' G') (G := jbG g G g G') (nx := jbX g nx L G g nx' L' G') (by rw [eL]; exact hu.1) (by rw [eL]; exact ho) (fun x hx => by
    rw [eL] at hx
    rcases hu.2 x hx with k | k
    · cases k
    · rw [Bool.or_eq_false_iff] at k
      rw [eG, in_false]
      intro hx2
      rcases List.mem_append.1 ((asl_mem _ _).1 hx2) with e | e
      · exact (in_false _ _).1 k.2.1 e
      · exact (in_false _ _).1 k.2.2 e)
  refine ⟨?_, ?_, ?_⟩
  · show (if g = g then _ else _) = _
    rw [if_pos rfl, hs]
  · show (if g = g then _ else _) = _
    rw [if_pos rfl, hs]
  · show (if g = g then _ else _) = _
    rw [if_pos rfl, eG]
    exact asc_same (asl_asc _) (asl_asc _) (fun y => by rw [asl_mem, List.mem_append, or_self])
end Go.Proofs.YtgpnbifdbeenbabGreat

