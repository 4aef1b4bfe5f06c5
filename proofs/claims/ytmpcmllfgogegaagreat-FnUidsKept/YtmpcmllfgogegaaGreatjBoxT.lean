/- BoxT. -/

import Derived.Test.YtmpcmllfgogegaaGreatjMh
namespace Go.Proofs.YtmpcmllfgogegaaGreat
open Go.RowKit Go.ChangeMaps
set_option maxHeartbeats 16000000 in
set_option maxRecDepth 100000 in
theorem specBoxOk_any (lo hi lo' hi' : Nat) (g : Int) (nm : ByteArray) (t b nx : Int) (ma : Option Addr) (mn mc : Nat) (ga : Option Addr) (gn gc : Nat) (L : List M4) (G : List Int) (w : World) (hnm : nm.size ≤ 1048576) (hl : L.length = mn) (hn : mn ≤ 1048576) (hsm : Sm L) (hm : Ms lo hi w ma L) (hgl : G.length = gn) (hgn : gn ≤ 1048576) (hs : Is lo' hi' w ga G) :
  Calls Tryz.prog 45 #[.agg #[.int .i64 g, .string nm, .int .i64 t, .int .i64 b, .int .i64 nx, .slice ma mn mc, .slice ga gn gc]] w fun e w' => e = .returned (.bool (bxOk g nm t b nx L G)) ∧ Below w.heap.size w w' := by
 obtain ⟨p1, hp1, cp1⟩ := in_l g
 obtain ⟨p2, hp2, cp2, _⟩ := name_l nm hnm
 obtain ⟨p3, hp3, cp3, _⟩ := st_l t b
 obtain ⟨p4, hp4, cp4⟩ := in_range nx 1 10000
 obtain ⟨p6, hp6⟩ : ∃ p6, gnOk G = p6 := ⟨_, rfl⟩
 have HX : Hid (bxOk g nm t b nx L G = (p1 && (p2 && (p3 && (p4 && (decide ((mn : Int) ≤ 10) && (p6 && bxm nx G L))))))) := by show _ = _; rw [hp1.out, hp2.out, hp3.out, hp4.out, ← hp6, ← hl]; rfl
 obtain ⟨W0, hW0⟩ : ∃ W0, w.alloc (.cells #[.int .i64 g, .string nm, .int .i64 t, .int .i64 b, .int .i64 nx, .slice ma mn mc, .slice ga gn gc] 29) = W0 := ⟨_, rfl⟩
 have a0 : Bx W0 w.heap.size 29 g nm t b nx (.slice ma mn mc) (.slice ga gn gc) := by subst hW0; exact Bx.new w _ g nm t b nx _ _
 have b0 : Below w.heap.size w W0 := by subst hW0; exact bpush (bre _) _
 have c0 := a0.cells
 have HP6 := hid hp6
 have HL := hid hl
 have HN := hid hn
 have HSM := hid hsm
 have HR := hid hm
 have HGL := hid hgl
 have HGN := hid hgn
 have HIS := hid hs
 have A0 := hid a0
 have B0 := hid b0
 clear hp1 hp2 hp3 hp4 hp6 hl hsm hm hgl hgn hs a0 b0 hnm
 go_enter Tryz.func45, Tryz.ntmps45
 go_wp2_with fail
 clear hW0
 refine (cp1.out _).mono ?_; rintro e w1 ⟨rfl, h1⟩
 subst h1
 cases p1
 ·have HE : Hid (bxOk g nm t b nx L G = false) := by show _ = _; rw [HX.out]; rfl
  go_wp2
  go_ret
  exact ⟨by rw [HE.out]; rfl, B0.out⟩
 go_wp2_with fail
 refine (cp2.out _).mono ?_; rintro e w2 ⟨rfl, hb2⟩
 have a2 := A0.out.later hb2
 have A2 := hid a2
 have B2 := hid (btr B0.out hb2)
 have c0 := a2.cells
 clear a2 hb2 A0 B0
 cases p2
 ·have HE : Hid (bxOk g nm t b nx L G = false) := by show _ = _; rw [HX.out]; rfl
  go_wp2
  go_ret
  exact ⟨by rw [HE.out]; rfl, B2.out⟩
 go_wp2_with fail
 refine (cp3.out _).mono ?_; rintro e w3 ⟨rfl, hb3⟩
 have a3 := A2.out.later hb3
 have A3 := hid a3
 have B3 := hid (btr B2.out hb3)
 have c0 := a3.cells
 clear a3 hb3 A2 B2
 cases p3
 ·have HE : Hid (bxOk g nm t b nx L G = false) := by show _ = _; rw [HX.out]; rfl
  go_wp2
  go_ret
  exact ⟨by rw [HE.out]; rfl, B3.out⟩
 go_wp2_with fail
 refine (cp4.out _).mono ?_; rintro e w4 ⟨rfl, h4⟩
 subst h4
 cases p4
 ·have HE : Hid (bxOk g nm t b nx L G = false) := by show _ = _; rw [HX.out]; rfl
  go_wp2
  go_ret
  exact ⟨by rw [HE.out]; rfl, B3.out⟩
 by_cases h10 : (mn : Int) ≤ 10
 case neg =>
  have HE : Hid (bxOk g nm t b nx L G = false) := by show _ = _; rw [HX.out]; simp [h10]
  have h11 : (10 : Int) < (mn : Int) := by omega
  go_wp2
  go_ret
  exact ⟨by rw [HE.out]; rfl, B3.out⟩
 have h11 : ¬ (10 : Int) < (mn : Int) := by omega
 go_wp2_with fail
 refine (l06Sorted_any lo' hi' ga gn gc G _ HGL.out HGN.out (HIS.out.later B3.out)).mono ?_; rintro e w5 ⟨rfl, hb5⟩
 rw [HP6.out]
 have a5 := A3.out.later hb5
 have A5 := hid a5
 have B5 := hid (btr B3.out hb5)
 have c0 := a5.cells
 clear a5 hb5 A3 B3
 cases p6
 ·have HE : Hid (bxOk g nm t b nx L G = false) := by show _ = _; rw [HX.out]; simp
  go_wp2
  go_ret
  exact ⟨by rw [HE.out]; rfl, B5.out⟩
 have HX : Hid (bxOk g nm t b nx L G = bxm nx G L) := by show _ = _; rw [HX.out]; simp [h10]
 go_wp2
 clear h10 h11 cp1 cp2 cp3 cp4 HP6
 go_loopw [3] (fun iv wr => ∃ (i : Nat), i ≤ mn ∧ iv = .int .i64 (i : Int) ∧ Hid (∀ j, j < i → ∀ h : j < L.length, stp nx G L j = true ∧ mat L[j].1 L 0 = (j : Int)) ∧ Below w5.heap.size w5 wr) (fun iv _ => mn - (intOf iv).toNat)
 case atStart => exact ⟨0, Nat.zero_le _, rfl, fun j hj => absurd hj (Nat.not_lt_zero _), bre _⟩
 case round =>
  obtain ⟨i, hin, rfl, HA, hb⟩ := hrel
  have HB5 := hid hb
  have a6 := A5.out.later hb
  have c0 := a6.cells
  have HB := hid (btr B5.out hb)
  have A6 := hid a6
  clear a6 hb
  by_cases hlt : i < mn
  ·have hil : i < L.length := by rw [HL.out]; exact hlt
   obtain ⟨k, o, fa, fc, rfl, hk, ⟨d0, d1, d2, d3⟩, hrs, _⟩ := (HR.out.later HB.out).at hil
   have hmem := HSM.out L[i] (List.getElem_mem hil)
   obtain ⟨q, hq⟩ : ∃ q, L[i] = q := ⟨_, rfl⟩
   obtain ⟨g1, u1, l1, t1⟩ := q
   have HST := hid (stp_at (nx := nx) (G := G) hil hq)
   have HPI : Hid (L[i].1 = g1) := by show _ = _; rw [hq]
   rw [hq] at d0 d1 d2 d3 hrs hmem
   have HRS := hid hrs
   obtain ⟨m, hm⟩ : ∃ m, l1.length = m := ⟨_, rfl⟩
   dsimp only at d0 d1 d2 d3
   rw [hm] at d2
   have HM := hid hm
   have HML : Hid (m ≤ 1048576) := by show _ ≤ _; rw [← hm]; exact hmem.1
   obtain ⟨p, hp⟩ : ∃ p, mlOk g1 u1 l1 t1 = p := ⟨_, rfl⟩
   obtain ⟨si, hsi⟩ : ∃ si, inl g1 G = si := ⟨_, rfl⟩
   obtain ⟨mt, hmt⟩ : ∃ mt, mat g1 L 0 = mt := ⟨_, rfl⟩
   have HP := hid hp
   have HSI := hid hsi
   have HMT := hid hmt
   have HP0 := hid (fun h : p = true => mlOk_pos (hp ▸ h))
   have hI : (0 : Int) ≤ (i : Int) ∧ (i : Int) < (mn : Int) := by omega
   have HK := hid hk
   have HD1 := hid d1
   have HQ := hid hq
   rw [HP.out, HSI.out] at HST
   clear hq hrs hmem hm hp hsi hmt hk
   go_wp2_with fail
   obtain ⟨W1, hW1⟩ : ∃ W1, wr.alloc (.cells #[.int .i64 g1, .int .i64 u1, .slice fa m fc, .string t1] 37) = W1 := ⟨_, rfl⟩
   have A1 : Hid (Mg W1 wr.heap.size 37 g1 u1 (.slice fa m fc) t1) := by subst hW1; exact Mg.new _ _ _ _ _ _
   have B1 : Hid (Below wr.heap.size wr W1) := by subst hW1; exact bpush (bre _) _
   rw [hW1]
   clear hW1 d0 d1 d2 d3
   by_cases h0 : i = 0
   ·have hu0 : us L i = 0 := by rw [h0]; rfl
    rw [hu0] at HST
    have hpos : ¬ (0 : Int) < (i : Int) := by omega
    have hposN : ¬ 0 < i := by omega
    have HS : Hid (∀ W, Below W1.heap.size W1 W → (W.cell? ⟨w.heap.size, 0, none⟩ = some (.int .i64 g) ∧ W.cell? ⟨w.heap.size, 1, none⟩ = some (.string nm) ∧ W.cell? ⟨w.heap.size, 2, none⟩ = some (.int .i64 t) ∧ W.cell? ⟨w.heap.size, 3, none⟩ = some (.int .i64 b) ∧ W.cell? ⟨w.heap.size, 4, none⟩ = some (.int .i64 nx) ∧ W.cell? ⟨w.heap.size, 5, none⟩ = some (.slice (some ⟨k, o, none⟩) mn mc) ∧ W.cell? ⟨w.heap.size, 6, none⟩ = some (.slice ga gn gc)) ∧ (W.cell? ⟨wr.heap.size, 0, none⟩ = some (.int .i64 g1) ∧ W.cell? ⟨wr.heap.size, 1, none⟩ = some (.int .i64 u1) ∧ W.cell? ⟨wr.heap.size, 2, none⟩ = some (.slice fa m fc) ∧ W.cell? ⟨wr.heap.size, 3, none⟩ = some (.string t1))) := fun W h => ⟨(A6.out.later (btr B1.out h)).cells, (A1.out.later h).cells⟩
    clear h0 hu0 c0
    refine wp_region_noPanic ?_
    refine wp_region_held_drew (S := (fun W => (W.cell? ⟨w.heap.size, 0, none⟩ = some (.int .i64 g) ∧ W.cell? ⟨w.heap.size, 1, none⟩ = some (.string nm) ∧ W.cell? ⟨w.heap.size, 2, none⟩ = some (.int .i64 t) ∧ W.cell? ⟨w.heap.size, 3, none⟩ = some (.int .i64 b) ∧ W.cell? ⟨w.heap.size, 4, none⟩ = some (.int .i64 nx) ∧ W.cell? ⟨w.heap.size, 5, none⟩ = some (.slice (some ⟨k, o, none⟩) mn mc) ∧ W.cell? ⟨w.heap.size, 6, none⟩ = some (.slice ga gn gc)) ∧ (W.cell? ⟨wr.heap.size, 0, none⟩ = some (.int .i64 g1) ∧ W.cell? ⟨wr.heap.size, 1, none⟩ = some (.int .i64 u1) ∧ W.cell? ⟨wr.heap.size, 2, none⟩ = some (.slice fa m fc) ∧ W.cell? ⟨wr.heap.size, 3, none⟩ = some (.string t1)))) (by kernel_rfl) (HS.out _ (bdr (bre _))) (fun hHeld => ?_)
    refine tk 0 ?_
    clear hHeld
    refine ry 1 (fun K hK => ?_)
    go_simp
    refine (specMailOk_any g1 u1 fa m fc l1 t1 _ HM.out HML.out (HRS.out.later (btr B1.out bb))).mono ?_; rintro e w2 ⟨rfl, hb2⟩
    rw [HP.out]
    go_wp2_with fail
    refine hK.out _ _ (HS.out _ bb) (fun hHeld => ?_)
    clear hK K
    try simp only [tp0, tp1, tp2, tp3, tp4]
    cases p
    ·refine tk 2 ?_
     refine tk 3 ?_
     refine tn 4 ?_
     refine tn 5 ?_
     refine tn 6 ?_
     refine tn 7 ?_
     refine tn 8 ?_
     refine tk 9 ?_
     refine tk 10 ?_
     refine tn 11 ?_
     refine tn 12 ?_
     refine tn 13 ?_
     refine tn 14 ?_
     refine tn 15 ?_
     refine tn 16 ?_
     refine tn 17 ?_
     refine tn 18 ?_
     refine tn 19 ?_
     refine tn 20 ?_
     refine tn 21 ?_
     refine tn 22 ?_
     refine tn 23 ?_
     refine tn 24 ?_
     refine tk 25 ?_
     refine tk 26 ?_
     refine tn 27 ?_
     refine tn 28 ?_
     refine tn 29 ?_
     refine tn 30 ?_
     refine tn 31 ?_
     refine tk 32 ?_
     refine tk 33 ?_
     refine tn 34 ?_
     refine tn 35 ?_
     refine tn 36 ?_
     refine tn 38 ?_
     refine tn 37 ?_
     refine tn 39 ?_
     refine tk 40 ?_
     refine wpAnyH_done (by kernel_rfl) ?_ _
     refine NoPanic.normal ?_
     have HE : Hid (bxOk g nm t b nx L G = false) := by show _ = _; rw [HX.out, bxm_bad hil (by rw [HST.out]; rfl)]
     clear hHeld
     go_wp2
     go_ret
     exact ⟨by rw [HE.out]; rfl, btr HB.out (btr B1.out bb)⟩
    ·refine tk 2 ?_
     refine tk 3 ?_
     refine tk 4 ?_
     refine tk 5 ?_
     refine tk 6 ?_
     refine tk 7 ?_
     by_cases hq : u1 < nx
     ·have hq2 : ¬ nx ≤ u1 := by omega
      refine tk 8 ?_
      refine tk 9 ?_
      refine tk 10 ?_
      refine tk 11 ?_
      ·refine tk 12 ?_
       refine tk 13 ?_
       refine tn 14 ?_
       refine tn 15 ?_
       refine tn 16 ?_
       refine tn 17 ?_
       refine tn 18 ?_
       refine tn 19 ?_
       refine tn 20 ?_
       refine tn 21 ?_
       refine tn 22 ?_
       refine tn 23 ?_
       refine tk 24 ?_
       refine tk 25 ?_
       refine tk 26 ?_
       refine tk 27 ?_
       refine tk 28 ?_
       refine tk 29 ?_
       refine tk 30 ?_
       clear hHeld
       refine ry 31 (fun K hK => ?_)
       go_simp
       refine (l06In_any lo' hi' ga gn gc G g1 _ HGL.out HGN.out (HIS.out.later (btr HB.out (btr B1.out bb)))).mono ?_; rintro e w3 ⟨rfl, h3⟩
       subst h3
       rw [HSI.out]
       go_wp2_with fail
       refine hK.out _ _ (HS.out _ bb) (fun hHeld => ?_)
       clear hK K
       try simp only [tp0, tp1, tp2, tp3, tp4]
       cases si
       ·refine tk 32 ?_
        refine tk 33 ?_
        refine tk 34 ?_
        refine tk 35 ?_
        refine tk 36 ?_
        refine tk 38 ?_
        clear hHeld
        refine ry 37 (fun K hK => ?_)
        go_simp
        refine (specMailAt_any lo hi g nm t b nx (some ⟨k, o, none⟩) mn mc (.slice ga gn gc) L g1 _ HL.out HN.out (HR.out.later (btr HB.out (btr B1.out bb)))).mono ?_; rintro e w4 ⟨rfl, hb4⟩
        rw [HMT.out]
        go_wp2_with fail
        refine hK.out _ _ (HS.out _ bb) (fun hHeld => ?_)
        clear hK K
        try simp only [tp0, tp1, tp2, tp3, tp4]
        by_cases hmt : mt = (i : Int)
        ·have hmt2 : (mt != (i : Int)) = false := by simp [hmt]
         refine tk 39 ?_
         refine tk 40 ?_
         refine wpAnyH_done (by kernel_rfl) ?_ _
         refine NoPanic.normal ?_
         have hp0 : 0 < u1 := HP0.out (by first | rfl | trivial)
         have HE : Hid (∀ j, j < i + 1 → ∀ h : j < L.length, stp nx G L j = true ∧ mat L[j].1 L 0 = (j : Int)) := by
          intro j hj h
          by_cases hji : j < i
          ·exact HA.out j hji h
          ·obtain rfl : j = i := by omega
           exact ⟨by rw [HST.out]; simp [hq, hp0], by rw [HPI.out, HMT.out]; exact hmt⟩
         clear hHeld
         go_wp2
         go_roundw
         case rel => exact ⟨i + 1, by omega, by go_num, HE, btr HB5.out (btr B1.out bb)⟩
         case measure => simp [intOf]; omega
        ·have hmt2 : (mt != (i : Int)) = true := by simp [hmt]
         refine tk 39 ?_
         refine tk 40 ?_
         refine wpAnyH_done (by kernel_rfl) ?_ _
         refine NoPanic.normal ?_
         have HE : Hid (bxOk g nm t b nx L G = false) := by show _ = _; rw [HX.out, bxm, uq_bad hil (by rw [HPI.out, HMT.out]; exact hmt), Bool.and_false]
         clear hHeld
         go_wp2
         go_ret
         exact ⟨by rw [HE.out]; rfl, btr HB.out (btr B1.out bb)⟩
       ·refine tk 32 ?_
        refine tk 33 ?_
        refine tn 34 ?_
        refine tn 35 ?_
        refine tn 36 ?_
        refine tn 38 ?_
        refine tn 37 ?_
        refine tn 39 ?_
        refine tk 40 ?_
        refine wpAnyH_done (by kernel_rfl) ?_ _
        refine NoPanic.normal ?_
        have HE : Hid (bxOk g nm t b nx L G = false) := by show _ = _; rw [HX.out, bxm_bad hil (by rw [HST.out]; simp)]
        clear hHeld
        go_wp2
        go_ret
        exact ⟨by rw [HE.out]; rfl, btr HB.out (btr B1.out bb)⟩
     ·have hq2 : nx ≤ u1 := by omega
      refine tk 8 ?_
      refine tk 9 ?_
      refine tk 10 ?_
      refine tn 11 ?_
      refine tn 12 ?_
      refine tn 13 ?_
      refine tn 14 ?_
      refine tn 15 ?_
      refine tn 16 ?_
      refine tn 17 ?_
      refine tn 18 ?_
      refine tn 19 ?_
      refine tn 20 ?_
      refine tn 21 ?_
      refine tn 22 ?_
      refine tn 23 ?_
      refine tn 24 ?_
      refine tk 25 ?_
      refine tk 26 ?_
      refine tn 27 ?_
      refine tn 28 ?_
      refine tn 29 ?_
      refine tn 30 ?_
      refine tn 31 ?_
      refine tk 32 ?_
      refine tk 33 ?_
      refine tn 34 ?_
      refine tn 35 ?_
      refine tn 36 ?_
      refine tn 38 ?_
      refine tn 37 ?_
      refine tn 39 ?_
      refine tk 40 ?_
      refine wpAnyH_done (by kernel_rfl) ?_ _
      refine NoPanic.normal ?_
      have HE : Hid (bxOk g nm t b nx L G = false) := by show _ = _; rw [HX.out, bxm_bad hil (by rw [HST.out]; simp [hq])]
      clear hHeld
      go_wp2
      go_ret
      exact ⟨by rw [HE.out]; rfl, btr HB.out (btr B1.out bb)⟩
   ·obtain ⟨j, hj⟩ : ∃ j : Nat, i = j + 1 := ⟨i - 1, by omega⟩
    have hjl : j < L.length := by omega
    obtain ⟨k', o', fa', fc', e', hk', ⟨_, dj, _, _⟩, _⟩ := (HR.out.later HB.out).at hjl
    simp only [Option.some.injEq, Addr.mk.injEq, and_true] at e'
    obtain ⟨rfl, rfl⟩ := e'
    obtain ⟨y, hy⟩ : ∃ y, L[j].2.1 = y := ⟨_, rfl⟩
    have huy : us L i = y := by rw [hj, us_succ hjl, hy]
    rw [hy] at dj
    rw [huy] at HST
    have hij : (i : Int) - 1 = (j : Int) := by omega
    have hwj : IntKind.i64.wrap (j : Int) = (j : Int) := by rw [IntKind.wrap_i64]; omega
    have hJ : (0 : Int) ≤ (j : Int) ∧ (j : Int) < (mn : Int) := by omega
    have hpos : (0 : Int) < (i : Int) := by omega
    have hposN : 0 < i := by omega
    have HS : Hid (∀ W, Below W1.heap.size W1 W → (W.cell? ⟨w.heap.size, 0, none⟩ = some (.int .i64 g) ∧ W.cell? ⟨w.heap.size, 1, none⟩ = some (.string nm) ∧ W.cell? ⟨w.heap.size, 2, none⟩ = some (.int .i64 t) ∧ W.cell? ⟨w.heap.size, 3, none⟩ = some (.int .i64 b) ∧ W.cell? ⟨w.heap.size, 4, none⟩ = some (.int .i64 nx) ∧ W.cell? ⟨w.heap.size, 5, none⟩ = some (.slice (some ⟨k, o, none⟩) mn mc) ∧ W.cell? ⟨w.heap.size, 6, none⟩ = some (.slice ga gn gc)) ∧ (W.cell? ⟨wr.heap.size, 0, none⟩ = some (.int .i64 g1) ∧ W.cell? ⟨wr.heap.size, 1, none⟩ = some (.int .i64 u1) ∧ W.cell? ⟨wr.heap.size, 2, none⟩ = some (.slice fa m fc) ∧ W.cell? ⟨wr.heap.size, 3, none⟩ = some (.string t1)) ∧ W.cell? ⟨k, o + j * 4 + 1, none⟩ = some (.int .i64 y)) := fun W h => ⟨(A6.out.later (btr B1.out h)).cells, (A1.out.later h).cells, ((btr B1.out h).cell (p := ⟨k, _, none⟩) HK.out).trans dj⟩
    have HDJ := hid dj
    clear h0 hj hy huy c0 dj hk'
    refine wp_region_noPanic ?_
    refine wp_region_held_drew (S := (fun W => (W.cell? ⟨w.heap.size, 0, none⟩ = some (.int .i64 g) ∧ W.cell? ⟨w.heap.size, 1, none⟩ = some (.string nm) ∧ W.cell? ⟨w.heap.size, 2, none⟩ = some (.int .i64 t) ∧ W.cell? ⟨w.heap.size, 3, none⟩ = some (.int .i64 b) ∧ W.cell? ⟨w.heap.size, 4, none⟩ = some (.int .i64 nx) ∧ W.cell? ⟨w.heap.size, 5, none⟩ = some (.slice (some ⟨k, o, none⟩) mn mc) ∧ W.cell? ⟨w.heap.size, 6, none⟩ = some (.slice ga gn gc)) ∧ (W.cell? ⟨wr.heap.size, 0, none⟩ = some (.int .i64 g1) ∧ W.cell? ⟨wr.heap.size, 1, none⟩ = some (.int .i64 u1) ∧ W.cell? ⟨wr.heap.size, 2, none⟩ = some (.slice fa m fc) ∧ W.cell? ⟨wr.heap.size, 3, none⟩ = some (.string t1)) ∧ W.cell? ⟨k, o + j * 4 + 1, none⟩ = some (.int .i64 y))) (by kernel_rfl) (HS.out _ (bdr (bre _))) (fun hHeld => ?_)
    refine tk 0 ?_
    clear hHeld
    refine ry 1 (fun K hK => ?_)
    go_simp
    refine (specMailOk_any g1 u1 fa m fc l1 t1 _ HM.out HML.out (HRS.out.later (btr B1.out bb))).mono ?_; rintro e w2 ⟨rfl, hb2⟩
    rw [HP.out]
    go_wp2_with fail
    refine hK.out _ _ (HS.out _ bb) (fun hHeld => ?_)
    clear hK K
    try simp only [tp0, tp1, tp2, tp3, tp4]
    cases p
    ·refine tk 2 ?_
     refine tk 3 ?_
     refine tn 4 ?_
     refine tn 5 ?_
     refine tn 6 ?_
     refine tn 7 ?_
     refine tn 8 ?_
     refine tk 9 ?_
     refine tk 10 ?_
     refine tn 11 ?_
     refine tn 12 ?_
     refine tn 13 ?_
     refine tn 14 ?_
     refine tn 15 ?_
     refine tn 16 ?_
     refine tn 17 ?_
     refine tn 18 ?_
     refine tn 19 ?_
     refine tn 20 ?_
     refine tn 21 ?_
     refine tn 22 ?_
     refine tn 23 ?_
     refine tn 24 ?_
     refine tk 25 ?_
     refine tk 26 ?_
     refine tn 27 ?_
     refine tn 28 ?_
     refine tn 29 ?_
     refine tn 30 ?_
     refine tn 31 ?_
     refine tk 32 ?_
     refine tk 33 ?_
     refine tn 34 ?_
     refine tn 35 ?_
     refine tn 36 ?_
     refine tn 38 ?_
     refine tn 37 ?_
     refine tn 39 ?_
     refine tk 40 ?_
     refine wpAnyH_done (by kernel_rfl) ?_ _
     refine NoPanic.normal ?_
     have HE : Hid (bxOk g nm t b nx L G = false) := by show _ = _; rw [HX.out, bxm_bad hil (by rw [HST.out]; rfl)]
     clear hHeld
     go_wp2
     go_ret
     exact ⟨by rw [HE.out]; rfl, btr HB.out (btr B1.out bb)⟩
    ·refine tk 2 ?_
     refine tk 3 ?_
     refine tk 4 ?_
     refine tk 5 ?_
     refine tk 6 ?_
     refine tk 7 ?_
     by_cases hq : u1 < nx
     ·have hq2 : ¬ nx ≤ u1 := by omega
      refine tk 8 ?_
      refine tk 9 ?_
      refine tk 10 ?_
      refine tk 11 ?_
      ·refine tk 12 ?_
       refine tk 13 ?_
       refine tk 14 ?_
       refine tk 15 ?_
       refine tk 16 ?_
       refine tk 17 ?_
       refine tk 18 ?_
       refine tk 19 ?_
       refine tk 20 ?_
       refine tk 21 ?_
       refine tk 22 ?_
       by_cases hle : y < u1
       ·have hle2 : ¬ u1 ≤ y := by omega
        refine tk 23 ?_
        refine tk 24 ?_
        refine tk 25 ?_
        refine tk 26 ?_
        refine tk 27 ?_
        refine tk 28 ?_
        refine tk 29 ?_
        refine tk 30 ?_
        clear hHeld
        refine ry 31 (fun K hK => ?_)
        go_simp
        refine (l06In_any lo' hi' ga gn gc G g1 _ HGL.out HGN.out (HIS.out.later (btr HB.out (btr B1.out bb)))).mono ?_; rintro e w3 ⟨rfl, h3⟩
        subst h3
        rw [HSI.out]
        go_wp2_with fail
        refine hK.out _ _ (HS.out _ bb) (fun hHeld => ?_)
        clear hK K
        try simp only [tp0, tp1, tp2, tp3, tp4]
        cases si
        ·refine tk 32 ?_
         refine tk 33 ?_
         refine tk 34 ?_
         refine tk 35 ?_
         refine tk 36 ?_
         refine tk 38 ?_
         clear hHeld
         refine ry 37 (fun K hK => ?_)
         go_simp
         refine (specMailAt_any lo hi g nm t b nx (some ⟨k, o, none⟩) mn mc (.slice ga gn gc) L g1 _ HL.out HN.out (HR.out.later (btr HB.out (btr B1.out bb)))).mono ?_; rintro e w4 ⟨rfl, hb4⟩
         rw [HMT.out]
         go_wp2_with fail
         refine hK.out _ _ (HS.out _ bb) (fun hHeld => ?_)
         clear hK K
         try simp only [tp0, tp1, tp2, tp3, tp4]
         by_cases hmt : mt = (i : Int)
         ·have hmt2 : (mt != (i : Int)) = false := by simp [hmt]
          refine tk 39 ?_
          refine tk 40 ?_
          refine wpAnyH_done (by kernel_rfl) ?_ _
          refine NoPanic.normal ?_
          have HE : Hid (∀ j, j < i + 1 → ∀ h : j < L.length, stp nx G L j = true ∧ mat L[j].1 L 0 = (j : Int)) := by
           intro j hj h
           by_cases hji : j < i
           ·exact HA.out j hji h
           ·obtain rfl : j = i := by omega
            exact ⟨by rw [HST.out]; simp [hq, hle], by rw [HPI.out, HMT.out]; exact hmt⟩
          clear hHeld
          go_wp2
          go_roundw
          case rel => exact ⟨i + 1, by omega, by go_num, HE, btr HB5.out (btr B1.out bb)⟩
          case measure => simp [intOf]; omega
         ·have hmt2 : (mt != (i : Int)) = true := by simp [hmt]
          refine tk 39 ?_
          refine tk 40 ?_
          refine wpAnyH_done (by kernel_rfl) ?_ _
          refine NoPanic.normal ?_
          have HE : Hid (bxOk g nm t b nx L G = false) := by show _ = _; rw [HX.out, bxm, uq_bad hil (by rw [HPI.out, HMT.out]; exact hmt), Bool.and_false]
          clear hHeld
          go_wp2
          go_ret
          exact ⟨by rw [HE.out]; rfl, btr HB.out (btr B1.out bb)⟩
        ·refine tk 32 ?_
         refine tk 33 ?_
         refine tn 34 ?_
         refine tn 35 ?_
         refine tn 36 ?_
         refine tn 38 ?_
         refine tn 37 ?_
         refine tn 39 ?_
         refine tk 40 ?_
         refine wpAnyH_done (by kernel_rfl) ?_ _
         refine NoPanic.normal ?_
         have HE : Hid (bxOk g nm t b nx L G = false) := by show _ = _; rw [HX.out, bxm_bad hil (by rw [HST.out]; simp)]
         clear hHeld
         go_wp2
         go_ret
         exact ⟨by rw [HE.out]; rfl, btr HB.out (btr B1.out bb)⟩
       ·have hle2 : u1 ≤ y := by omega
        refine tk 23 ?_
        refine tk 24 ?_
        refine tk 25 ?_
        refine tk 26 ?_
        refine tn 27 ?_
        refine tn 28 ?_
        refine tn 29 ?_
        refine tn 30 ?_
        refine tn 31 ?_
        refine tk 32 ?_
        refine tk 33 ?_
        refine tn 34 ?_
        refine tn 35 ?_
        refine tn 36 ?_
        refine tn 38 ?_
        refine tn 37 ?_
        refine tn 39 ?_
        refine tk 40 ?_
        refine wpAnyH_done (by kernel_rfl) ?_ _
        refine NoPanic.normal ?_
        have HE : Hid (bxOk g nm t b nx L G = false) := by show _ = _; rw [HX.out, bxm_bad hil (by rw [HST.out]; simp [hle])]
        clear hHeld
        go_wp2
        go_ret
        exact ⟨by rw [HE.out]; rfl, btr HB.out (btr B1.out bb)⟩
     ·have hq2 : nx ≤ u1 := by omega
      refine tk 8 ?_
      refine tk 9 ?_
      refine tk 10 ?_
      refine tn 11 ?_
      refine tn 12 ?_
      refine tn 13 ?_
      refine tn 14 ?_
      refine tn 15 ?_
      refine tn 16 ?_
      refine tn 17 ?_
      refine tn 18 ?_
      refine tn 19 ?_
      refine tn 20 ?_
      refine tn 21 ?_
      refine tn 22 ?_
      refine tn 23 ?_
      refine tn 24 ?_
      refine tk 25 ?_
      refine tk 26 ?_
      refine tn 27 ?_
      refine tn 28 ?_
      refine tn 29 ?_
      refine tn 30 ?_
      refine tn 31 ?_
      refine tk 32 ?_
      refine tk 33 ?_
      refine tn 34 ?_
      refine tn 35 ?_
      refine tn 36 ?_
      refine tn 38 ?_
      refine tn 37 ?_
      refine tn 39 ?_
      refine tk 40 ?_
      refine wpAnyH_done (by kernel_rfl) ?_ _
      refine NoPanic.normal ?_
      have HE : Hid (bxOk g nm t b nx L G = false) := by show _ = _; rw [HX.out, bxm_bad hil (by rw [HST.out]; simp [hq])]
      clear hHeld
      go_wp2
      go_ret
      exact ⟨by rw [HE.out]; rfl, btr HB.out (btr B1.out bb)⟩
  ·have HE : Hid (bxOk g nm t b nx L G = true) := by
    show _ = _
    have e := HL.out
    rw [HX.out, bxm, alr_all (fun j hj => (HA.out j (by omega) hj).1), uq_all (fun j hj => (HA.out j (by omega) hj).2)]
    rfl
   go_wp2
   go_ret
   exact ⟨by rw [HE.out]; rfl, HB.out⟩
end Go.Proofs.YtmpcmllfgogegaaGreat
