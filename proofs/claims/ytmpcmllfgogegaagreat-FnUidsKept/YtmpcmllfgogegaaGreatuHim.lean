/- Him. -/

import Derived.Test.YtmpcmllfgogegaaGreatuD
namespace Go.Proofs.YtmpcmllfgogegaaGreat
open Go.RowKit Go.ChangeMaps
set_option maxRecDepth 100000 in
theorem implJoinMails_any (l1 h1 l2 h2 : Nat) (g : Int) (nm : ByteArray) (t b nx : Int) (ma : Option Addr) (mn mc : Nat) (ga : Option Addr) (gn gc : Nat) (L : List M4) (G : List Int) (l3 h3 l4 h4 : Nat) (g' : Int) (nm' : ByteArray) (t' b' nx' : Int) (ma' : Option Addr) (mn' mc' : Nat) (ga' : Option Addr) (gn' gc' : Nat) (L' : List M4) (G' : List Int) (w : World) (hnm : nm.size ≤ 1048576) (hl : L.length = mn) (hn : mn ≤ 1048576) (hsm : Sm L) (hm : Ms l1 h1 w ma L) (hm0 : ma = none → mc = 0) (hgl : G.length = gn) (hgn : gn ≤ 1048576) (hs : Is l2 h2 w ga G) (hg0 : ga = none → gc = 0)
  (hnm' : nm'.size ≤ 1048576) (hl' : L'.length = mn') (hn' : mn' ≤ 1048576) (hsm' : Sm L') (hm' : Ms l3 h3 w ma' L') (hm0' : ma' = none → mc' = 0) (hgl' : G'.length = gn') (hgn' : gn' ≤ 1048576) (hs' : Is l4 h4 w ga' G') (hg0' : ga' = none → gc' = 0) :
  Calls Tryz.prog 20 #[.agg #[.int .i64 g, .string nm, .int .i64 t, .int .i64 b, .int .i64 nx, .slice ma mn mc, .slice ga gn gc], .agg #[.int .i64 g', .string nm', .int .i64 t', .int .i64 b', .int .i64 nx', .slice ma' mn' mc', .slice ga' gn' gc']] w fun e w' => ∃ v Z, e = .returned v ∧ OwZ w' w.heap.size v Z ∧ Z.map md = (jms L L' G G' nx nx' (asl (L.map (·.1) ++ L'.map (·.1)))).1 ∧ Below w.heap.size w w' := by
 obtain ⟨W0, hW0⟩ : ∃ W0, (w.alloc (.cells #[.int .i64 g, .string nm, .int .i64 t, .int .i64 b, .int .i64 nx, .slice ma mn mc, .slice ga gn gc] 29)).alloc (.cells #[.int .i64 g', .string nm', .int .i64 t', .int .i64 b', .int .i64 nx', .slice ma' mn' mc', .slice ga' gn' gc'] 29) = W0 := ⟨_, rfl⟩
 have a0 : Bx W0 w.heap.size 29 g nm t b nx (.slice ma mn mc) (.slice ga gn gc) := by subst hW0; exact (Bx.new w _ g nm t b nx _ _).later (bpush (bre _) _)
 have a1 : Bx W0 (w.heap.size + 1) 29 g' nm' t' b' nx' (.slice ma' mn' mc') (.slice ga' gn' gc') := by
  subst hW0
  have h := Bx.new (w.alloc (.cells #[.int .i64 g, .string nm, .int .i64 t, .int .i64 b, .int .i64 nx, .slice ma mn mc, .slice ga gn gc] 29)) 29 g' nm' t' b' nx' (.slice ma' mn' mc') (.slice ga' gn' gc')
  rwa [show (w.alloc (.cells #[.int .i64 g, .string nm, .int .i64 t, .int .i64 b, .int .i64 nx, .slice ma mn mc, .slice ga gn gc] 29)).heap.size = w.heap.size + 1 by simp] at h
 have b0 : Below w.heap.size w W0 := by subst hW0; exact bpush (bpush (bre _) _) _
 have HC := hid (joinedMails_any l1 h1 l2 h2 g nm t b nx ma mn mc ga gn gc L G l3 h3 l4 h4 g' nm' t' b' nx' ma' mn' mc' ga' gn' gc' L' G' W0 hnm hl hn hsm (hm.later b0) hm0 hgl hgn (hs.later b0) hg0 hnm' hl' hn' hsm' (hm'.later b0) hm0' hgl' hgn' (hs'.later b0) hg0')
 have c0 := a0.cells
 have c1 := a1.cells
 have B0 := hid b0
 clear a0 a1 b0 hnm hl hn hsm hm hm0 hgl hgn hs hg0 hnm' hl' hn' hsm' hm' hm0' hgl' hgn' hs' hg0'
 go_enter Tryz.func20, Tryz.ntmps20
 go_wp2_with fail
 clear hW0
 refine HC.out.mono ?_; rintro e w1 ⟨v, Z, rfl, o1, e1, p1⟩
 have O1 := hid (o1.base B0.out.size)
 have E1 := hid e1
 obtain ⟨q, hq⟩ : ∃ q, max (max (jms L L' G G' nx nx' (asl (L.map (·.1) ++ L'.map (·.1)))).2 nx) nx' = q := ⟨_, rfl⟩
 rw [hq]
 obtain ⟨va, vc, rfl⟩ := o1.shape
 have P1 := hid (btr B0.out p1)
 clear o1 e1 p1 c0 c1 hq
 go_wp2
 go_ret
 exact ⟨_, Z, rfl, O1.out, E1.out, P1.out⟩
end Go.Proofs.YtmpcmllfgogegaaGreat
