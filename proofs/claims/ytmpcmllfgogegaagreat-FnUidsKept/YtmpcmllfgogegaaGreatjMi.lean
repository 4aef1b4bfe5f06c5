/- Mi. -/

import Derived.Test.YtmpcmllfgogegaaGreatjBoxT
namespace Go.Proofs.YtmpcmllfgogegaaGreat
open Go.RowKit Go.ChangeMaps
theorem len_shelf {W : World} {B b c : Nat} {E : List En} (h : OwMp W B b E c) : (Builtin.len_ #[115] 3 #[.map (some b)]).run Tryz.prog W = .ok (.int .i64 (E.length : Int)) W := by
 simp [Builtin.len_, MapKept.run_getObj_map h.lies, Result.andThen, goInt]
set_option maxHeartbeats 3200000 in
set_option maxRecDepth 100000 in
theorem mailsOk_any (lo hh lo' hh' : Nat) (g : Int) (nm : ByteArray) (t b nx : Int) (ma : Option Addr) (mn mc : Nat) (ga : Option Addr) (gn gc : Nat) (L : List M4) (G : List Int) (w : World) (hl : L.length = mn) (hn : mn ≤ 1048576) (hsm : Sm L) (hm : Ms lo hh w ma L) (hgl : G.length = gn) (hgn : gn ≤ 1048576) (hs : Is lo' hh' w ga G) :
  Calls Tryz.prog 50 #[.agg #[.int .i64 g, .string nm, .int .i64 t, .int .i64 b, .int .i64 nx, .slice ma mn mc, .slice ga gn gc]] w fun e w' => e = .returned (.bool (decide ((mn : Int) ≤ 10) && bxm nx G L)) ∧ Below w.heap.size w w' := by
 obtain ⟨W0, hW0⟩ : ∃ W0, w.alloc (.cells #[.int .i64 g, .string nm, .int .i64 t, .int .i64 b, .int .i64 nx, .slice ma mn mc, .slice ga gn gc] 29) = W0 := ⟨_, rfl⟩
 have a0 : Bx W0 w.heap.size 29 g nm t b nx (.slice ma mn mc) (.slice ga gn gc) := by subst hW0; exact Bx.new w _ g nm t b nx _ _
 have b0 : Below w.heap.size w W0 := by subst hW0; exact bpush (bre _) _
 have c0 := a0.cells
 have HL := hid hl
 have HSM := hid hsm
 have HN := hid hn
 have HR := hid hm
 have HGL := hid hgl
 have HGN := hid hgn
 have HIS := hid hs
 have A0 := hid a0
 have B0 := hid b0
 clear hl hsm hm hgl hgn hs a0 b0
 by_cases h10 : (mn : Int) ≤ 10
 case neg =>
  have HE : Hid ((decide ((mn : Int) ≤ 10) && bxm nx G L) = false) := by show _ = _; simp [h10]
  have h11 : (10 : Int) < (mn : Int) := by omega
  go_enter Tryz.func50, Tryz.ntmps50
  go_wp2
  go_ret
  exact ⟨by rw [HE.out]; rfl, B0.out⟩
 have HX : Hid ((decide ((mn : Int) ≤ 10) && bxm nx G L) = bxm nx G L) := by show _ = _; simp [h10]
 have h11 : ¬ (10 : Int) < (mn : Int) := by omega
 go_enter Tryz.func50, Tryz.ntmps50
 go_wp2
 clear hW0 h10 h11
 go_loopw [3, 13] (fun lv iv wr => ∃ (i : Nat) (q : Int), i ≤ mn ∧ lv = .int .i64 q ∧ iv = .int .i64 (i : Int) ∧ Hid (q = us L i) ∧ Hid (∀ j, j < i → j < L.length → stp nx G L j = true) ∧ Below W0.heap.size W0 wr) (fun _ iv _ => mn - (intOf iv).toNat)
 case atStart => exact ⟨0, 0, Nat.zero_le _, rfl, rfl, rfl, fun j hj => absurd hj (Nat.not_lt_zero _), bre _⟩
 case round =>
  obtain ⟨i, q, hin, rfl, rfl, HQ, HA, hb⟩ := hrel
  have HB5 := hid hb
  have a6 := A0.out.later hb
  have c0 := a6.cells
  have HB := hid (btr B0.out hb)
  have A6 := hid a6
  clear a6 hb
  by_cases hlt : i < mn
  ·have hil : i < L.length := by rw [HL.out]; exact hlt
   obtain ⟨k, o, fa, fc, rfl, hk, ⟨d0, d1, d2, d3⟩, hrs, _⟩ := (HR.out.later HB.out).at hil
   have hmem := HSM.out L[i] (List.getElem_mem hil)
   have hus := us_succ hil
   obtain ⟨r, hr⟩ : ∃ r, L[i] = r := ⟨_, rfl⟩
   obtain ⟨g1, u1, l1, t1⟩ := r
   have HST := hid (stp_at (nx := nx) (G := G) hil hr)
   rw [hr] at d0 d1 d2 d3 hrs hmem hus
   have HRS := hid hrs
   obtain ⟨m, hm⟩ : ∃ m, l1.length = m := ⟨_, rfl⟩
   dsimp only at d0 d1 d2 d3 hus
   rw [hm] at d2
   have HM := hid hm
   have HML : Hid (m ≤ 1048576) := by show _ ≤ _; rw [← hm]; exact hmem.1
   obtain ⟨p, hp⟩ : ∃ p, mlOk g1 u1 l1 t1 = p := ⟨_, rfl⟩
   obtain ⟨si, hsi⟩ : ∃ si, inl g1 G = si := ⟨_, rfl⟩
   have HP := hid hp
   have HSI := hid hsi
   have HUS := hid hus
   have hI : (0 : Int) ≤ (i : Int) ∧ (i : Int) < (mn : Int) := by omega
   rw [HP.out, HSI.out, ← HQ.out] at HST
   clear hr hrs hmem hm hp hsi hk hus
   go_wp2_with fail
   obtain ⟨W1, hW1⟩ : ∃ W1, wr.alloc (.cells #[.int .i64 g1, .int .i64 u1, .slice fa m fc, .string t1] 37) = W1 := ⟨_, rfl⟩
   have a1 : Mg W1 wr.heap.size 37 g1 u1 (.slice fa m fc) t1 := by subst hW1; exact Mg.new _ _ _ _ _ _
   have A1 := hid a1
   have B1 : Hid (Below wr.heap.size wr W1) := by subst hW1; exact bpush (bre _) _
   rw [hW1]
   clear hW1 d0 d1 d2 d3 c0 a1
   refine (implMailOk_any g1 u1 fa m fc l1 t1 _ HM.out HML.out (HRS.out.later B1.out)).mono ?_; rintro e w2 ⟨rfl, hb2⟩
   rw [HP.out]
   have c0 := (A6.out.later (btr B1.out hb2)).cells
   have c1 := (A1.out.later hb2).cells
   have B2 := hid (btr B1.out hb2)
   clear hb2
   cases p
   ·have HE : Hid ((decide ((mn : Int) ≤ 10) && bxm nx G L) = false) := by show _ = _; rw [HX.out, bxm_bad hil (by rw [HST.out]; rfl)]
    go_wp2
    go_ret
    exact ⟨by rw [HE.out]; rfl, btr HB.out B2.out⟩
   by_cases hq : q < u1
   case neg =>
    have HE : Hid ((decide ((mn : Int) ≤ 10) && bxm nx G L) = false) := by show _ = _; rw [HX.out, bxm_bad hil (by rw [HST.out]; simp [hq])]
    have hq2 : u1 ≤ q := by omega
    go_wp2
    go_ret
    exact ⟨by rw [HE.out]; rfl, btr HB.out B2.out⟩
   have hq2 : ¬ u1 ≤ q := by omega
   by_cases hx : u1 < nx
   case neg =>
    have HE : Hid ((decide ((mn : Int) ≤ 10) && bxm nx G L) = false) := by show _ = _; rw [HX.out, bxm_bad hil (by rw [HST.out]; simp [hx])]
    have hx2 : nx ≤ u1 := by omega
    go_wp2
    go_ret
    exact ⟨by rw [HE.out]; rfl, btr HB.out B2.out⟩
   have hx2 : ¬ nx ≤ u1 := by omega
   go_wp2_with fail
   refine (contains_any lo' hh' ga gn gc G g1 _ HGL.out HGN.out (HIS.out.later (btr HB.out B2.out))).mono ?_; rintro e w3 ⟨rfl, h3⟩
   subst h3
   rw [HSI.out]
   cases si
   ·have HE : Hid (∀ j, j < i + 1 → j < L.length → stp nx G L j = true) := by
     intro j hj h
     by_cases hji : j < i
     ·exact HA.out j hji h
     ·obtain rfl : j = i := by omega
      rw [HST.out]; simp [hq, hx]
    go_wp2
    go_roundw
    case rel => exact ⟨i + 1, u1, by omega, rfl, by go_num, HUS.out.symm, HE, btr HB5.out B2.out⟩
    case measure => simp [intOf]; omega
   ·have HE : Hid ((decide ((mn : Int) ≤ 10) && bxm nx G L) = false) := by show _ = _; rw [HX.out, bxm_bad hil (by rw [HST.out]; simp)]
    go_wp2
    go_ret
    exact ⟨by rw [HE.out]; rfl, btr HB.out B2.out⟩
  ·obtain ⟨z, hz⟩ : ∃ z : Nat, (shl L).length = z := ⟨_, rfl⟩
   have HE : Hid ((decide ((mn : Int) ≤ 10) && bxm nx G L) = ((z : Int) == (mn : Int))) := by
    show _ = _
    have e := HL.out
    rw [HX.out, bxm, alr_all (fun j hj => HA.out j (by omega) hj), ← shl_len, hz, e, Bool.true_and]
    rfl
   have HZ := hid hz
   have HZL := hid (shl_le L)
   clear hz
   have HS : Hid (∀ W, Below wr.heap.size wr W → W.cell? ⟨w.heap.size, 0, none⟩ = some (.int .i64 g) ∧ W.cell? ⟨w.heap.size, 1, none⟩ = some (.string nm) ∧ W.cell? ⟨w.heap.size, 2, none⟩ = some (.int .i64 t) ∧ W.cell? ⟨w.heap.size, 3, none⟩ = some (.int .i64 b) ∧ W.cell? ⟨w.heap.size, 4, none⟩ = some (.int .i64 nx) ∧ W.cell? ⟨w.heap.size, 5, none⟩ = some (.slice ma mn mc) ∧ W.cell? ⟨w.heap.size, 6, none⟩ = some (.slice ga gn gc)) := fun W h => (A6.out.later h).cells
   go_wp2_with fail
   refine wp_region_noPanic ?_
   refine wp_region_held_drew (S := (fun W => W.cell? ⟨w.heap.size, 0, none⟩ = some (.int .i64 g) ∧ W.cell? ⟨w.heap.size, 1, none⟩ = some (.string nm) ∧ W.cell? ⟨w.heap.size, 2, none⟩ = some (.int .i64 t) ∧ W.cell? ⟨w.heap.size, 3, none⟩ = some (.int .i64 b) ∧ W.cell? ⟨w.heap.size, 4, none⟩ = some (.int .i64 nx) ∧ W.cell? ⟨w.heap.size, 5, none⟩ = some (.slice ma mn mc) ∧ W.cell? ⟨w.heap.size, 6, none⟩ = some (.slice ga gn gc))) (by kernel_rfl) (HS.out _ (bdr (bre _))) (fun hHeld => ?_)
   refine tk 0 ?_
   refine tk 1 ?_
   refine tk 4 ?_
   refine tk 5 ?_
   refine tk 6 ?_
   clear hHeld
   refine ry 2 (fun K hK => ?_)
   go_simp
   refine (shelfOf_any lo hh ma mn mc L _ HL.out HN.out HSM.out (HR.out.later (btr HB.out (bdr (bre _))))).mono ?_; rintro e w2 ⟨rfl, ⟨E, cl, hE, hmp⟩, hb2⟩
   have hEz : E.length = z := by rw [← HZ.out, ← hE, List.length_map]
   have hlen : (Builtin.len_ #[115] 3 #[.map (some wr.heap.size)]).run Tryz.prog w2 = .ok (.int .i64 (z : Int)) w2 := by
    have h := len_shelf hmp
    rw [hEz] at h
    exact h
   have B2 := hid (show Below wr.heap.size wr w2 from btr (bdr (bre _)) hb2)
   clear hE hEz hmp hb2
   go_wp2_with fail
   refine hK.out _ _ (HS.out _ B2.out) (fun hHeld => ?_)
   clear hK K
   try simp only [tp0, tp1, tp2, tp3, tp4]
   clear hHeld
   refine ry 3 (fun K hK => ?_)
   go_simp
   go_wp2_with fail
   refine hK.out _ _ (HS.out _ B2.out) (fun hHeld => ?_)
   clear hK K
   try simp only [tp0, tp1, tp2, tp3, tp4]
   refine tk 7 ?_
   refine tk 8 ?_
   refine wpAnyH_done (by kernel_rfl) ?_ _
   refine NoPanic.normal ?_
   go_wp2
   go_ret
   exact ⟨by rw [HE.out]; rfl, btr HB.out B2.out⟩
set_option maxHeartbeats 3200000 in
set_option maxRecDepth 100000 in
theorem implBoxOk_any (lo hh lo' hh' : Nat) (g : Int) (nm : ByteArray) (t b nx : Int) (ma : Option Addr) (mn mc : Nat) (ga : Option Addr) (gn gc : Nat) (L : List M4) (G : List Int) (w : World) (hnm : nm.size ≤ 1048576) (hl : L.length = mn) (hn : mn ≤ 1048576) (hsm : Sm L) (hm : Ms lo hh w ma L) (hgl : G.length = gn) (hgn : gn ≤ 1048576) (hs : Is lo' hh' w ga G) :
  Calls Tryz.prog 15 #[.agg #[.int .i64 g, .string nm, .int .i64 t, .int .i64 b, .int .i64 nx, .slice ma mn mc, .slice ga gn gc]] w fun e w' => e = .returned (.bool (bxOk g nm t b nx L G)) ∧ Below w.heap.size w w' := by
 obtain ⟨p1, hp1, cp1⟩ := gid_l g
 obtain ⟨p2, hp2, _, cp2⟩ := name_l nm hnm
 obtain ⟨p3, hp3, _, cp3⟩ := st_l t b
 obtain ⟨p6, hp6⟩ : ∃ p6, gnOk G = p6 := ⟨_, rfl⟩
 obtain ⟨p7, hp7⟩ : ∃ p7, (decide ((mn : Int) ≤ 10) && bxm nx G L) = p7 := ⟨_, rfl⟩
 have HX : Hid (bxOk g nm t b nx L G = (p1 && (p2 && (p3 && ((decide (1 ≤ nx) && decide (nx ≤ 10000)) && (p6 && p7)))))) := by
  show _ = _
  rw [hp1.out, hp2.out, hp3.out, ← hp6, ← hp7, ← hl]
  unfold bxOk
  generalize gok g = x1
  generalize nmOk nm = x2
  generalize stOk t b = x3
  generalize gnOk G = x4
  generalize bxm nx G L = x5
  generalize decide ((L.length : Int) ≤ 10) = x6
  cases x4 <;> cases x6 <;> simp
 obtain ⟨W0, hW0⟩ : ∃ W0, w.alloc (.cells #[.int .i64 g, .string nm, .int .i64 t, .int .i64 b, .int .i64 nx, .slice ma mn mc, .slice ga gn gc] 29) = W0 := ⟨_, rfl⟩
 have a0 : Bx W0 w.heap.size 29 g nm t b nx (.slice ma mn mc) (.slice ga gn gc) := by subst hW0; exact Bx.new w _ g nm t b nx _ _
 have b0 : Below w.heap.size w W0 := by subst hW0; exact bpush (bre _) _
 have c0 := a0.cells
 have HP6 := hid hp6
 have HP7 := hid hp7
 have HL := hid hl
 have HN := hid hn
 have HSM := hid hsm
 have HR := hid hm
 have HGL := hid hgl
 have HGN := hid hgn
 have HIS := hid hs
 have A0 := hid a0
 have B0 := hid b0
 clear hp1 hp2 hp3 hp6 hp7 hl hsm hm hgl hgn hs a0 b0 hnm
 go_enter Tryz.func15, Tryz.ntmps15
 go_wp2_with fail
 clear hW0
 refine (cp1.out _).mono ?_; rintro e w1 ⟨rfl, h1⟩
 subst h1
 cases p1
 ·have HE : Hid (bxOk g nm t b nx L G = false) := by show _ = _; rw [HX.out]; rfl
  go_wp2
  go_ret
  exact ⟨by rw [HE.out]; rfl, B0.out⟩
 go_wp2_with fail
 refine (cp2.out _).mono ?_; rintro e w2 ⟨rfl, hb2⟩
 have a2 := A0.out.later hb2
 have A2 := hid a2
 have B2 := hid (btr B0.out hb2)
 have c0 := a2.cells
 clear a2 hb2 A0 B0
 cases p2
 ·have HE : Hid (bxOk g nm t b nx L G = false) := by show _ = _; rw [HX.out]; rfl
  go_wp2
  go_ret
  exact ⟨by rw [HE.out]; rfl, B2.out⟩
 go_wp2_with fail
 refine (cp3.out _).mono ?_; rintro e w3 ⟨rfl, hb3⟩
 have a3 := A2.out.later hb3
 have A3 := hid a3
 have B3 := hid (btr B2.out hb3)
 have c0 := a3.cells
 clear a3 hb3 A2 B2
 cases p3
 ·have HE : Hid (bxOk g nm t b nx L G = false) := by show _ = _; rw [HX.out]; rfl
  go_wp2
  go_ret
  exact ⟨by rw [HE.out]; rfl, B3.out⟩
 by_cases h1 : 1 ≤ nx
 case neg =>
  have HE : Hid (bxOk g nm t b nx L G = false) := by show _ = _; rw [HX.out]; simp [h1]
  go_wp2
  go_ret
  exact ⟨by rw [HE.out]; rfl, B3.out⟩
 by_cases h2 : nx ≤ 10000
 case neg =>
  have HE : Hid (bxOk g nm t b nx L G = false) := by show _ = _; rw [HX.out]; simp [h2]
  go_wp2
  go_ret
  exact ⟨by rw [HE.out]; rfl, B3.out⟩
 have HX2 : Hid (bxOk g nm t b nx L G = (p6 && p7)) := by show _ = _; rw [HX.out]; simp [h1, h2]
 go_wp2_with fail
 refine (goneOk_any lo' hh' ga gn gc G _ HGL.out HGN.out (HIS.out.later B3.out)).mono ?_; rintro e w5 ⟨rfl, h5⟩
 subst h5
 rw [HP6.out]
 cases p6
 ·have HE : Hid (bxOk g nm t b nx L G = false) := by show _ = _; rw [HX2.out]; rfl
  go_wp2
  go_ret
  exact ⟨by rw [HE.out]; rfl, B3.out⟩
 go_wp2_with fail
 refine (mailsOk_any lo hh lo' hh' g nm t b nx ma mn mc ga gn gc L G _ HL.out HN.out HSM.out (HR.out.later B3.out) HGL.out HGN.out (HIS.out.later B3.out)).mono ?_; rintro e w6 ⟨rfl, hb6⟩
 rw [HP7.out]
 have B6 := hid (btr B3.out hb6)
 have HE : Hid (bxOk g nm t b nx L G = p7) := by show _ = _; rw [HX2.out]; rfl
 clear hb6 c0 HX HX2
 go_wp2
 go_ret
 exact ⟨by rw [HE.out]; rfl, B6.out⟩
theorem box_l (g : Int) (nm : ByteArray) (t b nx : Int) (mn gn : Nat) (L : List M4) (G : List Int) (hnm : nm.size ≤ 1048576) (hl : L.length = mn) (hn : mn ≤ 1048576) (hsm : Sm L) (hgl : G.length = gn) (hgn : gn ≤ 1048576) :
  ∃ p : Bool, Hid (p = bxOk g nm t b nx L G) ∧
   Hid (∀ (lo hh lo' hh' : Nat) (ma : Option Addr) (mc : Nat) (ga : Option Addr) (gc : Nat) (w : World), Ms lo hh w ma L → Is lo' hh' w ga G → Calls Tryz.prog 45 #[.agg #[.int .i64 g, .string nm, .int .i64 t, .int .i64 b, .int .i64 nx, .slice ma mn mc, .slice ga gn gc]] w fun e w' => e = .returned (.bool p) ∧ Below w.heap.size w w') ∧
   Hid (∀ (lo hh lo' hh' : Nat) (ma : Option Addr) (mc : Nat) (ga : Option Addr) (gc : Nat) (w : World), Ms lo hh w ma L → Is lo' hh' w ga G → Calls Tryz.prog 15 #[.agg #[.int .i64 g, .string nm, .int .i64 t, .int .i64 b, .int .i64 nx, .slice ma mn mc, .slice ga gn gc]] w fun e w' => e = .returned (.bool p) ∧ Below w.heap.size w w') :=
 ⟨_, rfl, fun lo hh lo' hh' ma mc ga gc w h1 h2 => specBoxOk_any lo hh lo' hh' g nm t b nx ma mn mc ga gn gc L G w hnm hl hn hsm h1 hgl hgn h2, fun lo hh lo' hh' ma mc ga gc w h1 h2 => implBoxOk_any lo hh lo' hh' g nm t b nx ma mn mc ga gn gc L G w hnm hl hn hsm h1 hgl hgn h2⟩
end Go.Proofs.YtmpcmllfgogegaaGreat
