/- What two boxes come to, and whether it fits: the program's own. -/
import Derived.Test.YtgpnbifdbeenbabGreatHjb
namespace Go.Proofs.YtgpnbifdbeenbabGreat
open Go.RowKit Go.Shelf Go.ChangeMaps

def jbY (g nx : Int) (L : List M4) (G : List Int) (g' nx' : Int) (L' : List M4) (G' : List Int) : Int := if g = g' then nxt8 L L' G G' nx nx' else nx
theorem implJoinBox_any (l1 h1 l2 h2 : Nat) (g : Int) (nm : ByteArray) (t b nx : Int) (ma : Option Addr) (mn mc : Nat) (ga : Option Addr) (gn gc : Nat) (L : List M4) (G : List Int) (l3 h3 l4 h4 : Nat) (g' : Int) (nm' : ByteArray) (t' b' nx' : Int) (ma' : Option Addr) (mn' mc' : Nat) (ga' : Option Addr) (gn' gc' : Nat) (L' : List M4) (G' : List Int) (w : World)
    (hnm : nm.size ≤ 1048576) (hl : L.length = mn) (hn : mn ≤ 1048576) (hsm : Sm L) (hm : Ms l1 h1 w ma L) (hm0 : ma = none → mc = 0) (hgl : G.length = gn) (hgn : gn ≤ 1048576) (hs : Is l2 h2 w ga G) (hg0 : ga = none → gc = 0)
    (hnm' : nm'.size ≤ 1048576) (hl' : L'.length = mn') (hn' : mn' ≤ 1048576) (hsm' : Sm L') (hm' : Ms l3 h3 w ma' L') (hm0' : ma' = none → mc' = 0) (hgl' : G'.length = gn') (hgn' : gn' ≤ 1048576) (hs' : Is l4 h4 w ga' G') (hg0' : ga' = none → gc' = 0) :
    Calls Tryz.prog 16 #[.agg #[.int .i64 g, .string nm, .int .i64 t, .int .i64 b, .int .i64 nx, .slice ma mn mc, .slice ga gn gc], .agg #[.int .i64 g', .string nm', .int .i64 t', .int .i64 b', .int .i64 nx', .slice ma' mn' mc', .slice ga' gn' gc']] w fun e w' => ∃ mv gv, e = .returned (.agg #[.int .i64 g, .string (jbN g nm t b g' nm' t' b'), .int .i64 (jbT g nm t b g' nm' t' b'), .int .i64 (jbB g nm t b g' nm' t' b'), .int .i64 (jbY g nx L G g' nx' L' G'), mv, gv]) ∧ OwB w' w.heap.size mv gv (jbL g nx L G g' nx' L' G') (jbG g G g' G') ∧ Below w.heap.size w w' := by
  by_cases e : g = g'
  · subst e
    have h := implJoinBox_same l1 h1 l2 h2 g nm t b nx ma mn mc ga gn gc L G l3 h3 l4 h4 nm' t' b' nx' ma' mn' mc' ga' gn' gc' L' G' w hnm hl hn hsm hm hm0 hgl hgn hs hg0 hnm' hl' hn' hsm' hm' hm0' hgl' hgn' hs' hg0'
    simpa only [jbN, jbT, jbB, jbY, jbL, jbG, true_and, if_true] using h
  · have h := implJoinBox_unlike l1 h1 l2 h2 g nm t b nx ma mn mc ga gn gc L G g' nm' t' b' nx' (.slice ma' mn' mc') (.slice ga' gn' gc') w hnm hl hn hsm hm hm0 hgl hgn hs hg0 e
    simpa only [jbN, jbT, jbB, jbY, jbL, jbG, e, false_and, if_false] using h

set_option maxHeartbeats 1600000 in
set_option maxRecDepth 100000 in
theorem implFits_any (l1 h1 l2 h2 : Nat) (g : Int) (nm : ByteArray) (t b nx : Int) (ma : Option Addr) (mn mc : Nat) (ga : Option Addr) (gn gc : Nat) (L : List M4) (G : List Int) (l3 h3 l4 h4 : Nat) (g' : Int) (nm' : ByteArray) (t' b' nx' : Int) (ma' : Option Addr) (mn' mc' : Nat) (ga' : Option Addr) (gn' gc' : Nat) (L' : List M4) (G' : List Int) (w : World) (hnm : nm.size ≤ 1048576) (hl : L.length = mn) (hn : mn ≤ 1048576) (hsm : Sm L) (hm : Ms l1 h1 w ma L) (hm0 : ma = none → mc = 0) (hgl : G.length = gn) (hgn : gn ≤ 1048576) (hs : Is l2 h2 w ga G) (hg0 : ga = none → gc = 0)
    (hnm' : nm'.size ≤ 1048576) (hl' : L'.length = mn') (hn' : mn' ≤ 1048576) (hsm' : Sm L') (hm' : Ms l3 h3 w ma' L') (hm0' : ma' = none → mc' = 0) (hgl' : G'.length = gn') (hgn' : gn' ≤ 1048576) (hs' : Is l4 h4 w ga' G') (hg0' : ga' = none → gc' = 0) (hsum : mn + mn' ≤ 1048576) (hsg : gn + gn' ≤ 1048576) :
    Calls Tryz.prog 19 #[.agg #[.int .i64 g, .string nm, .int .i64 t, .int .i64 b, .int .i64 nx, .slice ma mn mc, .slice ga gn gc], .agg #[.int .i64 g', .string nm', .int .i64 t', .int .i64 b', .int .i64 nx', .slice ma' mn' mc', .slice ga' gn' gc']] w fun e w' => e = .returned (.bool (bxOk g (jbN g nm t b g' nm' t' b') (jbT g nm t b g' nm' t' b') (jbB g nm t b g' nm' t' b') (jbY g nx L G g' nx' L' G') (jbL g nx L G g' nx' L' G') (jbG g G g' G'))) ∧ Below w.heap.size w w' := by
  have hjl := jbL_small (g := g) (nx := nx) (G := G) (g' := g') (nx' := nx') (G' := G') hsm hsm'
  obtain ⟨p, hp, -, csp⟩ := box_l g (jbN g nm t b g' nm' t' b') (jbT g nm t b g' nm' t' b') (jbB g nm t b g' nm' t' b') (jbY g nx L G g' nx' L' G') _ _ (jbL g nx L G g' nx' L' G') (jbG g G g' G') (jbN_size hnm hnm') rfl (by have := hjl.2; omega) hjl.1 rfl (by have := jbG_len (g := g) (G := G) (g' := g') (G' := G'); omega)
  have HX := hid (implJoinBox_any l1 h1 l2 h2 g nm t b nx ma mn mc ga gn gc L G l3 h3 l4 h4 g' nm' t' b' nx' ma' mn' mc' ga' gn' gc' L' G')
  have HP := hid hp.out
  obtain ⟨jn, hjn⟩ : ∃ x, jbN g nm t b g' nm' t' b' = x := ⟨_, rfl⟩
  obtain ⟨jt, hjt⟩ : ∃ x, jbT g nm t b g' nm' t' b' = x := ⟨_, rfl⟩
  obtain ⟨jb, hjb⟩ : ∃ x, jbB g nm t b g' nm' t' b' = x := ⟨_, rfl⟩
  obtain ⟨jx, hjx⟩ : ∃ x, jbY g nx L G g' nx' L' G' = x := ⟨_, rfl⟩
  obtain ⟨jl, hjl2⟩ : ∃ x, jbL g nx L G g' nx' L' G' = x := ⟨_, rfl⟩
  obtain ⟨jg, hjg⟩ : ∃ x, jbG g G g' G' = x := ⟨_, rfl⟩
  rw [hjn, hjt, hjb, hjx, hjl2, hjg] at csp HX HP ⊢
  have CSP := csp
  obtain ⟨W0, hW0⟩ : ∃ W0, (w.alloc (.cells #[.int .i64 g, .string nm, .int .i64 t, .int .i64 b, .int .i64 nx, .slice ma mn mc, .slice ga gn gc] 33)).alloc (.cells #[.int .i64 g', .string nm', .int .i64 t', .int .i64 b', .int .i64 nx', .slice ma' mn' mc', .slice ga' gn' gc'] 33) = W0 := ⟨_, rfl⟩
  have a0 : Bx W0 w.heap.size 33 g nm t b nx (.slice ma mn mc) (.slice ga gn gc) := by subst hW0; exact (Bx.new w _ g nm t b nx _ _).later (bpush (bre _) _)
  have a1 : Bx W0 (w.heap.size + 1) 33 g' nm' t' b' nx' (.slice ma' mn' mc') (.slice ga' gn' gc') := by
    subst hW0
    have h := Bx.new (w.alloc (.cells #[.int .i64 g, .string nm, .int .i64 t, .int .i64 b, .int .i64 nx, .slice ma mn mc, .slice ga gn gc] 33)) 33 g' nm' t' b' nx' (.slice ma' mn' mc') (.slice ga' gn' gc')
    rwa [show (w.alloc (.cells #[.int .i64 g, .string nm, .int .i64 t, .int .i64 b, .int .i64 nx, .slice ma mn mc, .slice ga gn gc] 33)).heap.size = w.heap.size + 1 by simp] at h
  have b0 : Below w.heap.size w W0 := by subst hW0; exact bpush (bpush (bre _) _) _
  have HJ := hid (HX.out W0 hnm hl hn hsm (hm.later b0) hm0 hgl hgn (hs.later b0) hg0 hnm' hl' hn' hsm' (hm'.later b0) hm0' hgl' hgn' (hs'.later b0) hg0')
  have c0 := a0.cells
  have c1 := a1.cells
  have B0 := hid b0
  clear a0 a1 b0 hm hm' hs hs' hl hl' hgl hgl' hsm hsm' hsum hjl hjn hjt hjb hjx hjl2 hjg HX hp csp hn hn' hgn hgn' hg0 hsg hnm hnm' hm0 hm0' hg0'
  go_enter Tryz.func19, Tryz.ntmps19
  go_wp2_with fail
  clear hW0 c0 c1
  refine (HJ.out).mono ?_; rintro e w1 ⟨mv, gv, rfl, how, hb1⟩
  obtain ⟨Z, hZ, hoz, hoi, hdj, hde⟩ := how
  obtain ⟨va, vc, rfl⟩ := hoz.shape
  obtain ⟨ag, cg, rfl, _⟩ := OwI.shape hoi
  have HMS := hid (hZ ▸ hoz.ms.2)
  have HIS := hid (OwI.is hoi).2
  have hzl : Z.length = jl.length := by rw [← hZ, List.length_map]
  rw [hzl]
  have B1 := hid (btr B0.out hb1)
  clear hZ hoz hoi hdj hde hb1 hzl
  go_wp2_with fail
  refine (CSP.out _ _ _ _ va vc ag cg w1 HMS.out HIS.out).mono ?_; rintro e w2 ⟨rfl, hb2⟩
  have B2 := hid (btr B1.out hb2)
  clear hb2
  go_wp2
  go_ret
  exact ⟨by rw [← HP.out]; rfl, B2.out⟩

theorem w64_id {x : Int} (h1 : -9223372036854775808 ≤ x) (h2 : x ≤ 9223372036854775807) : w64 x = x := by show wrap64 x = x; unfold wrap64; omega
/-- From below the greatest on, each step adds one at most. -/
theorem jms_up (A B : List M4) (GA GB : List Int) (na nb : Int) : ∀ (gs : List Int) (s : List M4 × Int) (lo : Int), -9223372036854775808 ≤ s.2 → s.2 + gs.length ≤ 9223372036854775807 → (gs.foldl (jst A B GA GB na nb) s).2 ≤ s.2 + gs.length ∧ (lo ≤ s.2 → lo ≤ (gs.foldl (jst A B GA GB na nb) s).2)
  | [], s, lo, _, _ => ⟨by simp, id⟩
  | g :: gs, s, lo, h1, h2 => by
    rw [List.foldl_cons]
    rw [List.length_cons] at h2 ⊢
    have hs : (jst A B GA GB na nb s g).2 = s.2 ∨ (jst A B GA GB na nb s g).2 = w64 (s.2 + 1) := by
      unfold jst
      split
      · exact Or.inl rfl
      · split
        · exact Or.inl rfl
        · exact Or.inr rfl
    rcases hs with e | e
    · have r := jms_up A B GA GB na nb gs (jst A B GA GB na nb s g) lo (by rw [e]; exact h1) (by rw [e]; omega)
      rw [e] at r
      exact ⟨by omega, r.2⟩
    · have e1 : w64 (s.2 + 1) = s.2 + 1 := w64_id (by omega) (by omega)
      rw [e1] at e
      have r := jms_up A B GA GB na nb gs (jst A B GA GB na nb s g) lo (by rw [e]; omega) (by rw [e]; omega)
      rw [e] at r
      exact ⟨by omega, fun h => r.2 (by omega)⟩
/-- The next number: it grows, or it passes the greatest. -/
theorem jms_next (K mx : Int) (hK : K ≤ 2097152) (hmx0 : mx = 9223372036854775807) (A B : List M4) (GA GB : List Int) (na nb : Int) : ∀ (gs : List Int) (s : List M4 × Int), -mx - 1 ≤ s.2 → s.2 ≤ mx → (gs.length : Int) ≤ K →
    (s.2 ≤ (gs.foldl (jst A B GA GB na nb) s).2 ∧ (gs.foldl (jst A B GA GB na nb) s).2 ≤ mx) ∨ ((gs.foldl (jst A B GA GB na nb) s).2 < 0 ∧ mx < s.2 + gs.length)
  | [], s, h1, h2, _ => Or.inl ⟨Int.le_refl _, h2⟩
  | g :: gs, s, h1, h2, h3 => by
    rw [List.foldl_cons]
    rw [List.length_cons] at h3
    have key : jst A B GA GB na nb s g = s ∨ ((jst A B GA GB na nb s g).2 = s.2 ∨ (jst A B GA GB na nb s g).2 = w64 (s.2 + 1)) := by
      unfold jst
      split
      · exact Or.inl rfl
      · split
        · exact Or.inr (Or.inl rfl)
        · exact Or.inr (Or.inr rfl)
    have hs : (jst A B GA GB na nb s g).2 = s.2 ∨ (jst A B GA GB na nb s g).2 = w64 (s.2 + 1) := by
      rcases key with e | e
      · left; rw [e]
      · exact e
    rcases hs with e | e
    · have r := jms_next K mx hK hmx0 A B GA GB na nb gs (jst A B GA GB na nb s g) (by rw [e]; exact h1) (by rw [e]; exact h2) (by omega)
      rw [e] at r
      rcases r with r | r
      · exact Or.inl r
      · exact Or.inr ⟨r.1, by rw [List.length_cons]; omega⟩
    · by_cases ho : s.2 + 1 ≤ mx
      · have e1 : w64 (s.2 + 1) = s.2 + 1 := w64_id (by omega) (by omega)
        rw [e1] at e
        have r := jms_next K mx hK hmx0 A B GA GB na nb gs (jst A B GA GB na nb s g) (by rw [e]; omega) (by rw [e]; exact ho) (by omega)
        rw [e] at r
        rcases r with r | r
        · exact Or.inl ⟨by omega, r.2⟩
        · exact Or.inr ⟨r.1, by rw [List.length_cons]; omega⟩
      · have hmx : s.2 = 9223372036854775807 := by omega
        have e1 : w64 (s.2 + 1) = -9223372036854775808 := by rw [hmx]; show wrap64 _ = _; unfold wrap64; omega
        rw [e1] at e
        have r := (jms_up A B GA GB na nb gs (jst A B GA GB na nb s g) (-9223372036854775808) (by rw [e]; exact Int.le_refl _) (by rw [e]; omega)).1
        rw [e] at r
        exact Or.inr ⟨by omega, by rw [List.length_cons]; omega⟩

/-- What fits in the one fits in the other. -/
theorem fits_same (g : Int) (nm : ByteArray) (t b nx : Int) (L : List M4) (G : List Int) (g' : Int) (nm' : ByteArray) (t' b' nx' : Int) (L' : List M4) (G' : List Int) (h1 : -9223372036854775808 ≤ nx ∧ nx ≤ 9223372036854775807) (h2 : -9223372036854775808 ≤ nx' ∧ nx' ≤ 9223372036854775807) (hl : L.length + L'.length ≤ 1048576) :
    bxOk g (jbN g nm t b g' nm' t' b') (jbT g nm t b g' nm' t' b') (jbB g nm t b g' nm' t' b') (jbY g nx L G g' nx' L' G') (jbL g nx L G g' nx' L' G') (jbG g G g' G') = bxOk g (jbN g nm t b g' nm' t' b') (jbT g nm t b g' nm' t' b') (jbB g nm t b g' nm' t' b') (jbX g nx L G g' nx' L' G') (jbL g nx L G g' nx' L' G') (jbG g G g' G') := by
  by_cases e : g = g'
  · have eY : jbY g nx L G g' nx' L' G' = nxt8 L L' G G' nx nx' := by unfold jbY; rw [if_pos e]
    have eX : jbX g nx L G g' nx' L' G' = (jms L L' G G' nx nx' (asl (L.map (·.1) ++ L'.map (·.1)))).2 := by unfold jbX; rw [if_pos e]
    rw [eY, eX]
    have hlen := asl_len (L.map (·.1) ++ L'.map (·.1))
    rw [List.length_append, List.length_map, List.length_map] at hlen
    have hm : mx8 nx nx' = max nx nx' := by unfold mx8; rw [Int.max_def]; split <;> split <;> omega
    have hb : -9223372036854775808 ≤ mx8 nx nx' ∧ mx8 nx nx' ≤ 9223372036854775807 := by unfold mx8; split <;> omega
    have hge : nx ≤ mx8 nx nx' ∧ nx' ≤ mx8 nx nx' := by unfold mx8; split <;> omega
    have r := jms_next 2097152 9223372036854775807 (Int.le_refl _) rfl L L' G G' nx nx' (asl (L.map (·.1) ++ L'.map (·.1))) ([], mx8 nx nx') (by have := hb.1; show _ ≤ mx8 nx nx'; omega) hb.2 (by omega)
    have ej : (jms L L' G G' nx nx' (asl (L.map (·.1) ++ L'.map (·.1)))).2 = ((asl (L.map (·.1) ++ L'.map (·.1))).foldl (jst L L' G G' nx nx') ([], mx8 nx nx')).2 := rfl
    rw [← ej] at r
    rcases r with r | r
    · have r1 : mx8 nx nx' ≤ (jms L L' G G' nx nx' (asl (L.map (·.1) ++ L'.map (·.1)))).2 := r.1
      have : nxt8 L L' G G' nx nx' = (jms L L' G G' nx nx' (asl (L.map (·.1) ++ L'.map (·.1)))).2 := by
        unfold nxt8
        rw [Int.max_def, Int.max_def]
        split <;> split <;> omega
      rw [this]
    · have r1 : 9223372036854775807 < mx8 nx nx' + ((asl (L.map (·.1) ++ L'.map (·.1))).length : Int) := r.2
      have hbig : ¬ nxt8 L L' G G' nx nx' ≤ 10000 := by
        unfold nxt8
        rw [Int.max_def, Int.max_def]
        have hmx : mx8 nx nx' = nx ∨ mx8 nx nx' = nx' := by unfold mx8; split <;> simp
        split <;> split <;> omega
      have hneg : ¬ 1 ≤ (jms L L' G G' nx nx' (asl (L.map (·.1) ++ L'.map (·.1)))).2 := by omega
      unfold bxOk
      simp [hbig, hneg]
  · have eY : jbY g nx L G g' nx' L' G' = nx := by unfold jbY; rw [if_neg e]
    have eX : jbX g nx L G g' nx' L' G' = nx := by unfold jbX; rw [if_neg e]
    rw [eY, eX]
end Go.Proofs.YtgpnbifdbeenbabGreat
