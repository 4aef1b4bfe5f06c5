/- What two boxes come to, as the specification has it: boxes of unlike Gids; the mails alone. -/
import Derived.Test.YtgpnbifdbeenbabGreatJbx
namespace Go.Proofs.YtgpnbifdbeenbabGreat
open Go.RowKit Go.ChangeMaps

set_option maxHeartbeats 4000000 in
set_option maxRecDepth 100000 in
theorem specJoinBox_unlike (l1 h1 l2 h2 : Nat) (g : Int) (nm : ByteArray) (t b nx : Int) (ma : Option Addr) (mn mc : Nat) (ga : Option Addr) (gn gc : Nat) (L : List M4) (G : List Int) (g' : Int) (nm' : ByteArray) (t' b' nx' : Int) (mv' gv' : Value) (w : World) (hl : L.length = mn) (hn : mn ≤ 1048576) (hsm : Sm L) (hm : Ms l1 h1 w ma L) (hgl : G.length = gn) (hgn : gn ≤ 1048576) (hs : Is l2 h2 w ga G) (hg0 : ga = none → gc = 0) (hne : g ≠ g') :
    Calls Tryz.prog 15 #[.agg #[.int .i64 g, .string nm, .int .i64 t, .int .i64 b, .int .i64 nx, .slice ma mn mc, .slice ga gn gc], .agg #[.int .i64 g', .string nm', .int .i64 t', .int .i64 b', .int .i64 nx', mv', gv']] w fun e w' => ∃ mv gv, e = .returned (.agg #[.int .i64 g, .string nm, .int .i64 t, .int .i64 b, .int .i64 nx, mv, gv]) ∧ OwB w' w.heap.size mv gv L G ∧ Below w.heap.size w w' := by
  obtain ⟨W0, hW0⟩ : ∃ W0, ((w.alloc (.cells #[.int .i64 g, .string nm, .int .i64 t, .int .i64 b, .int .i64 nx, .slice ma mn mc, .slice ga gn gc] 33)).alloc (.cells #[.int .i64 g', .string nm', .int .i64 t', .int .i64 b', .int .i64 nx', mv', gv'] 33)).alloc (.cells #[.int .i64 0, .string ⟨#[]⟩, .int .i64 0, .int .i64 0, .int .i64 0, .slice none 0 0, .slice none 0 0] 33) = W0 := ⟨_, rfl⟩
  obtain ⟨a0, a1, a2, b0, s0⟩ := three_boxes w _ _ _ _ _ _ _ _ _ _ _ _ _ _ _ _ _ _ _ _ _ _ _ _ W0 hW0
  have R0 := hid a2
  have B0 := hid b0
  have S0 := hid s0
  have HM := hid (hm.later b0)
  have HS := hid (hs.later b0)
  have HL := hid hl
  have HGL := hid hgl
  have HSM := hid hsm
  have HG0 := hid hg0
  have hgg : (g != g') = true := by simp [hne]
  have c0 := a0.cells
  have c1 := a1.cells
  clear a0 a1 a2 b0 s0 hm hs hl hgl hsm hg0 hne
  go_enter Tryz.func15, Tryz.ntmps15
  go_wp2_with fail
  clear hW0 c0 c1
  refine (l06Copy_any l1 h1 l2 h2 g nm t b nx ma mn mc ga gn gc L G W0 HL.out hn HSM.out HM.out HGL.out hgn HS.out HG0.out).mono ?_; rintro e w1 ⟨mv, gv, rfl, how, hb1⟩
  obtain ⟨Z, hZ, hoz, hoi, hdj, hde⟩ := how
  obtain ⟨va, vc, rfl⟩ := hoz.shape
  obtain ⟨ag, cg, rfl, _⟩ := OwI.shape hoi
  have R1 := hid (R0.out.later hb1)
  have B1 := hid (btr B0.out hb1)
  have OB1 : Hid (OwB w1 W0.heap.size (.slice va Z.length vc) (.slice ag G.length cg) L G) := ⟨Z, hZ, hoz, hoi, hdj, hde⟩
  have r1 := R1.out.cells
  have u1 := R1.out.loose
  clear hZ hoz hoi hdj hde hb1
  go_wp2
  have e2 := set7_grown w1 (w.heap.size + 1 + 1) g nm t b nx (.slice va Z.length vc) (.slice ag G.length cg)
  have d1 := (R1.out.set7 g nm t b nx (.slice va Z.length vc) (.slice ag G.length cg)).cells
  unfold set7 at d1 e2
  have hbs := B1.out.size
  have hs0 := S0.out
  refine bodyPost_ret (v := .agg #[.int .i64 g, .string nm, .int .i64 t, .int .i64 b, .int .i64 nx, .slice va Z.length vc, .slice ag G.length cg]) (by simp [results, Tryz.results15, go_sem, d1]) rfl ⟨_, _, rfl, ?_, ?_⟩
  · exact (OwB.grown OB1.out e2 (by omega)).base (by omega)
  · exact B1.out.trans (below_of_grown e2 (by omega) hbs)

/-- What two boxes come to. -/
def jbC (c : Bool) {α : Type} (x y : α) : α := if c = true then x else y
def jbN (g : Int) (nm : ByteArray) (t b : Int) (g' : Int) (nm' : ByteArray) (t' b' : Int) : ByteArray := if g = g' ∧ bnm nm t b nm' t' b' = true then nm' else nm
def jbT (g : Int) (nm : ByteArray) (t b : Int) (g' : Int) (nm' : ByteArray) (t' b' : Int) : Int := if g = g' ∧ bnm nm t b nm' t' b' = true then t' else t
def jbB (g : Int) (nm : ByteArray) (t b : Int) (g' : Int) (nm' : ByteArray) (t' b' : Int) : Int := if g = g' ∧ bnm nm t b nm' t' b' = true then b' else b
def jbX (g nx : Int) (L : List M4) (G : List Int) (g' nx' : Int) (L' : List M4) (G' : List Int) : Int := if g = g' then (jms L L' G G' nx nx' (asl (L.map (·.1) ++ L'.map (·.1)))).2 else nx
def jbL (g nx : Int) (L : List M4) (G : List Int) (g' nx' : Int) (L' : List M4) (G' : List Int) : List M4 := if g = g' then (jms L L' G G' nx nx' (asl (L.map (·.1) ++ L'.map (·.1)))).1 else L
def jbG (g : Int) (G : List Int) (g' : Int) (G' : List Int) : List Int := if g = g' then asl (G ++ G') else G

theorem specJoinBox_any (l1 h1 l2 h2 : Nat) (g : Int) (nm : ByteArray) (t b nx : Int) (ma : Option Addr) (mn mc : Nat) (ga : Option Addr) (gn gc : Nat) (L : List M4) (G : List Int) (l3 h3 l4 h4 : Nat) (g' : Int) (nm' : ByteArray) (t' b' nx' : Int) (ma' : Option Addr) (mn' mc' : Nat) (ga' : Option Addr) (gn' gc' : Nat) (L' : List M4) (G' : List Int) (w : World) (hl : L.length = mn) (hn : mn ≤ 1048576) (hsm : Sm L) (hm : Ms l1 h1 w ma L) (hgl : G.length = gn) (hgn : gn ≤ 1048576) (hs : Is l2 h2 w ga G) (hg0 : ga = none → gc = 0) (hl' : L'.length = mn') (hn' : mn' ≤ 1048576) (hsm' : Sm L') (hm' : Ms l3 h3 w ma' L') (hgl' : G'.length = gn') (hgn' : gn' ≤ 1048576) (hs' : Is l4 h4 w ga' G') (hsum : mn + mn' ≤ 1048576) :
    Calls Tryz.prog 15 #[.agg #[.int .i64 g, .string nm, .int .i64 t, .int .i64 b, .int .i64 nx, .slice ma mn mc, .slice ga gn gc], .agg #[.int .i64 g', .string nm', .int .i64 t', .int .i64 b', .int .i64 nx', .slice ma' mn' mc', .slice ga' gn' gc']] w fun e w' => ∃ mv gv, e = .returned (.agg #[.int .i64 g, .string (jbN g nm t b g' nm' t' b'), .int .i64 (jbT g nm t b g' nm' t' b'), .int .i64 (jbB g nm t b g' nm' t' b'), .int .i64 (jbX g nx L G g' nx' L' G'), mv, gv]) ∧ OwB w' w.heap.size mv gv (jbL g nx L G g' nx' L' G') (jbG g G g' G') ∧ Below w.heap.size w w' := by
  by_cases e : g = g'
  · subst e
    refine (specJoinBox_same l1 h1 l2 h2 g nm t b nx ma mn mc ga gn gc L G l3 h3 l4 h4 nm' t' b' nx' ma' mn' mc' ga' gn' gc' L' G' w hl hn hsm hm hgl hgn hs hl' hn' hsm' hm' hgl' hgn' hs' hsum).mono ?_
    rintro e w' ⟨mv, gv, h1, h2, h3⟩
    refine ⟨mv, gv, ?_, ?_, h3⟩
    · rw [h1, jbN, jbT, jbB, jbX]; simp
    · rw [jbL, jbG, if_pos rfl, if_pos rfl]; exact h2
  · refine (specJoinBox_unlike l1 h1 l2 h2 g nm t b nx ma mn mc ga gn gc L G g' nm' t' b' nx' _ _ w hl hn hsm hm hgl hgn hs hg0 e).mono ?_
    rintro e' w' ⟨mv, gv, h1, h2, h3⟩
    refine ⟨mv, gv, ?_, ?_, h3⟩
    · rw [h1, jbN, jbT, jbB, jbX]; simp [e]
    · rw [jbL, jbG, if_neg e, if_neg e]; exact h2
end Go.Proofs.YtgpnbifdbeenbabGreat
