/- Whether a box is right: the program's own, whole; in letters. -/
import Derived.Test.YtfmacodnjhegcamGreatBoxI
namespace Go.Proofs.YtfmacodnjhegcamGreat
open Go.RowKit Go.ChangeMaps

set_option maxHeartbeats 3200000 in
set_option maxRecDepth 100000 in
theorem implBoxOk_any (lo hh lo' hh' : Nat) (g : Int) (nm : ByteArray) (t b nx : Int) (ma : Option Addr) (mn mc : Nat) (ga : Option Addr) (gn gc : Nat) (L : List M4) (G : List Int) (w : World) (hnm : nm.size ≤ 1048576) (hl : L.length = mn) (hn : mn ≤ 1048576) (hsm : Sm L) (hm : Ms lo hh w ma L) (hgl : G.length = gn) (hgn : gn ≤ 1048576) (hs : Is lo' hh' w ga G) :
    Calls Tryz.prog 26 #[.agg #[.int .i64 g, .string nm, .int .i64 t, .int .i64 b, .int .i64 nx, .slice ma mn mc, .slice ga gn gc]] w fun e w' => e = .returned (.bool (bxOk g nm t b nx L G)) ∧ Below w.heap.size w w' := by
  obtain ⟨p1, hp1, cp1⟩ := gid_l g
  obtain ⟨p2, hp2, _, cp2⟩ := name_l nm hnm
  obtain ⟨p3, hp3, _, cp3⟩ := st_l t b
  obtain ⟨p6, hp6⟩ : ∃ p6, gnOk G = p6 := ⟨_, rfl⟩
  obtain ⟨p7, hp7⟩ : ∃ p7, (decide ((mn : Int) ≤ 10) && bxm nx G L) = p7 := ⟨_, rfl⟩
  have HX : Hid (bxOk g nm t b nx L G = (p1 && (p2 && (p3 && ((decide (1 ≤ nx) && decide (nx ≤ 10000)) && (p6 && p7)))))) := by
    show _ = _
    rw [hp1.out, hp2.out, hp3.out, ← hp6, ← hp7, ← hl]
    unfold bxOk
    generalize gok g = x1
    generalize nmOk nm = x2
    generalize stOk t b = x3
    generalize gnOk G = x4
    generalize bxm nx G L = x5
    generalize decide ((L.length : Int) ≤ 10) = x6
    cases x4 <;> cases x6 <;> simp
  obtain ⟨W0, hW0⟩ : ∃ W0, w.alloc (.cells #[.int .i64 g, .string nm, .int .i64 t, .int .i64 b, .int .i64 nx, .slice ma mn mc, .slice ga gn gc] 32) = W0 := ⟨_, rfl⟩
  have a0 : Bx W0 w.heap.size 32 g nm t b nx (.slice ma mn mc) (.slice ga gn gc) := by subst hW0; exact Bx.new w _ g nm t b nx _ _
  have b0 : Below w.heap.size w W0 := by subst hW0; exact bpush (bre _) _
  have c0 := a0.cells
  have HP6 := hid hp6
  have HP7 := hid hp7
  have HL := hid hl
  have HN := hid hn
  have HSM := hid hsm
  have HR := hid hm
  have HGL := hid hgl
  have HGN := hid hgn
  have HIS := hid hs
  have A0 := hid a0
  have B0 := hid b0
  clear hp1 hp2 hp3 hp6 hp7 hl hsm hm hgl hgn hs a0 b0 hnm
  go_enter Tryz.func26, Tryz.ntmps26
  go_wp2_with fail
  clear hW0
  refine (cp1.out _).mono ?_; rintro e w1 ⟨rfl, h1⟩
  subst h1
  cases p1
  · have HE : Hid (bxOk g nm t b nx L G = false) := by show _ = _; rw [HX.out]; rfl
    go_wp2
    go_ret
    exact ⟨by rw [HE.out]; rfl, B0.out⟩
  go_wp2_with fail
  refine (cp2.out _).mono ?_; rintro e w2 ⟨rfl, hb2⟩
  have a2 := A0.out.later hb2
  have A2 := hid a2
  have B2 := hid (btr B0.out hb2)
  have c0 := a2.cells
  clear a2 hb2 A0 B0
  cases p2
  · have HE : Hid (bxOk g nm t b nx L G = false) := by show _ = _; rw [HX.out]; rfl
    go_wp2
    go_ret
    exact ⟨by rw [HE.out]; rfl, B2.out⟩
  go_wp2_with fail
  refine (cp3.out _).mono ?_; rintro e w3 ⟨rfl, hb3⟩
  have a3 := A2.out.later hb3
  have A3 := hid a3
  have B3 := hid (btr B2.out hb3)
  have c0 := a3.cells
  clear a3 hb3 A2 B2
  cases p3
  · have HE : Hid (bxOk g nm t b nx L G = false) := by show _ = _; rw [HX.out]; rfl
    go_wp2
    go_ret
    exact ⟨by rw [HE.out]; rfl, B3.out⟩
  by_cases h1 : 1 ≤ nx
  case neg =>
    have HE : Hid (bxOk g nm t b nx L G = false) := by show _ = _; rw [HX.out]; simp [h1]
    go_wp2
    go_ret
    exact ⟨by rw [HE.out]; rfl, B3.out⟩
  by_cases h2 : nx ≤ 10000
  case neg =>
    have HE : Hid (bxOk g nm t b nx L G = false) := by show _ = _; rw [HX.out]; simp [h2]
    go_wp2
    go_ret
    exact ⟨by rw [HE.out]; rfl, B3.out⟩
  have HX2 : Hid (bxOk g nm t b nx L G = (p6 && p7)) := by show _ = _; rw [HX.out]; simp [h1, h2]
  go_wp2_with fail
  refine (goneOk_any lo' hh' ga gn gc G _ HGL.out HGN.out (HIS.out.later B3.out)).mono ?_; rintro e w5 ⟨rfl, h5⟩
  subst h5
  rw [HP6.out]
  cases p6
  · have HE : Hid (bxOk g nm t b nx L G = false) := by show _ = _; rw [HX2.out]; rfl
    go_wp2
    go_ret
    exact ⟨by rw [HE.out]; rfl, B3.out⟩
  go_wp2_with fail
  refine (mailsOk_any lo hh lo' hh' g nm t b nx ma mn mc ga gn gc L G _ HL.out HN.out HSM.out (HR.out.later B3.out) HGL.out HGN.out (HIS.out.later B3.out)).mono ?_; rintro e w6 ⟨rfl, hb6⟩
  rw [HP7.out]
  have B6 := hid (btr B3.out hb6)
  have HE : Hid (bxOk g nm t b nx L G = p7) := by show _ = _; rw [HX2.out]; rfl
  clear hb6 c0 HX HX2
  go_wp2
  go_ret
  exact ⟨by rw [HE.out]; rfl, B6.out⟩

/-- Whether a box is right, in one letter. -/
theorem box_l (g : Int) (nm : ByteArray) (t b nx : Int) (mn gn : Nat) (L : List M4) (G : List Int) (hnm : nm.size ≤ 1048576) (hl : L.length = mn) (hn : mn ≤ 1048576) (hsm : Sm L) (hgl : G.length = gn) (hgn : gn ≤ 1048576) :
    ∃ p : Bool, Hid (p = bxOk g nm t b nx L G) ∧
      Hid (∀ (lo hh lo' hh' : Nat) (ma : Option Addr) (mc : Nat) (ga : Option Addr) (gc : Nat) (w : World), Ms lo hh w ma L → Is lo' hh' w ga G → Calls Tryz.prog 19 #[.agg #[.int .i64 g, .string nm, .int .i64 t, .int .i64 b, .int .i64 nx, .slice ma mn mc, .slice ga gn gc]] w fun e w' => e = .returned (.bool p) ∧ Below w.heap.size w w') ∧
      Hid (∀ (lo hh lo' hh' : Nat) (ma : Option Addr) (mc : Nat) (ga : Option Addr) (gc : Nat) (w : World), Ms lo hh w ma L → Is lo' hh' w ga G → Calls Tryz.prog 26 #[.agg #[.int .i64 g, .string nm, .int .i64 t, .int .i64 b, .int .i64 nx, .slice ma mn mc, .slice ga gn gc]] w fun e w' => e = .returned (.bool p) ∧ Below w.heap.size w w') :=
  ⟨_, rfl, fun lo hh lo' hh' ma mc ga gc w h1 h2 => specBoxOk_any lo hh lo' hh' g nm t b nx ma mn mc ga gn gc L G w hnm hl hn hsm h1 hgl hgn h2, fun lo hh lo' hh' ma mc ga gc w h1 h2 => implBoxOk_any lo hh lo' hh' g nm t b nx ma mn mc ga gn gc L G w hnm hl hn hsm h1 hgl hgn h2⟩
end Go.Proofs.YtfmacodnjhegcamGreat
