/- BoxT, Mi, Itz, Cpz. -/
import Derived.Test.YtdkedgedkgabnaaGreatDoorR6
namespace Go.Proofs.YtdkedgedkgabnaaGreatDoor
open Go.RowKit Go.ChangeMaps
set_option maxHeartbeats 16000000 in
set_option maxRecDepth 100000 in
theorem specBoxOk_any (lo hi lo' hi' : Nat) (g : Int) (nm : ByteArray) (t b nx : Int) (ma : Option Addr) (mn mc : Nat) (ga : Option Addr) (gn gc : Nat) (L : List M4) (G : List Int) (w : World) (hnm : nm.size ≤ 1048576) (hl : L.length = mn) (hn : mn ≤ 1048576) (hsm : Sm L) (hm : Ms lo hi w ma L) (hgl : G.length = gn) (hgn : gn ≤ 1048576) (hs : Is lo' hi' w ga G) :
  Calls Tryz.prog 19 #[.agg #[.int .i64 g, .string nm, .int .i64 t, .int .i64 b, .int .i64 nx, .slice ma mn mc, .slice ga gn gc]] w fun e w' => e = .returned (.bool (bxOk g nm t b nx L G)) ∧ Below w.heap.size w w' := by
 obtain ⟨p1, hp1, cp1⟩ := in_l g
 obtain ⟨p2, hp2, cp2, _⟩ := name_l nm hnm
 obtain ⟨p3, hp3, cp3, _⟩ := st_l t b
 obtain ⟨p4, hp4, cp4⟩ := in_range nx 1 10000
 obtain ⟨p6, hp6⟩ : ∃ p6, gnOk G = p6 := ⟨_, rfl⟩
 have HX : Hid (bxOk g nm t b nx L G = (p1 && (p2 && (p3 && (p4 && (decide ((mn : Int) ≤ 10) && (p6 && bxm nx G L))))))) := by show _ = _; rw [hp1.out, hp2.out, hp3.out, hp4.out, ← hp6, ← hl]; rfl
 obtain ⟨W0, hW0⟩ : ∃ W0, w.alloc (.cells #[.int .i64 g, .string nm, .int .i64 t, .int .i64 b, .int .i64 nx, .slice ma mn mc, .slice ga gn gc] 38) = W0 := ⟨_, rfl⟩
 have a0 : Bx W0 w.heap.size 38 g nm t b nx (.slice ma mn mc) (.slice ga gn gc) := by subst hW0; exact Bx.new w _ g nm t b nx _ _
 have b0 : Below w.heap.size w W0 := by subst hW0; exact bpush (bre _) _
 have c0 := a0.cells
 have HP6 := hid hp6
 have HL := hid hl
 have HN := hid hn
 have HSM := hid hsm
 have HR := hid hm
 have HGL := hid hgl
 have HGN := hid hgn
 have HIS := hid hs
 have A0 := hid a0
 have B0 := hid b0
 clear hp1 hp2 hp3 hp4 hp6 hl hsm hm hgl hgn hs a0 b0 hnm
 go_enter Tryz.func19, Tryz.ntmps19
 go_wp2_with fail
 clear hW0
 refine (cp1.out _).mono ?_; rintro e w1 ⟨rfl, h1⟩
 subst h1
 cases p1
 ·have HE : Hid (bxOk g nm t b nx L G = false) := by show _ = _; rw [HX.out]; rfl
  go_wp2
  go_ret
  exact ⟨by rw [HE.out]; rfl, B0.out⟩
 go_wp2_with fail
 refine (cp2.out _).mono ?_; rintro e w2 ⟨rfl, hb2⟩
 have a2 := A0.out.later hb2
 have A2 := hid a2
 have B2 := hid (btr B0.out hb2)
 have c0 := a2.cells
 clear a2 hb2 A0 B0
 cases p2
 ·have HE : Hid (bxOk g nm t b nx L G = false) := by show _ = _; rw [HX.out]; rfl
  go_wp2
  go_ret
  exact ⟨by rw [HE.out]; rfl, B2.out⟩
 go_wp2_with fail
 refine (cp3.out _).mono ?_; rintro e w3 ⟨rfl, hb3⟩
 have a3 := A2.out.later hb3
 have A3 := hid a3
 have B3 := hid (btr B2.out hb3)
 have c0 := a3.cells
 clear a3 hb3 A2 B2
 cases p3
 ·have HE : Hid (bxOk g nm t b nx L G = false) := by show _ = _; rw [HX.out]; rfl
  go_wp2
  go_ret
  exact ⟨by rw [HE.out]; rfl, B3.out⟩
 go_wp2_with fail
 refine (cp4.out _).mono ?_; rintro e w4 ⟨rfl, h4⟩
 subst h4
 cases p4
 ·have HE : Hid (bxOk g nm t b nx L G = false) := by show _ = _; rw [HX.out]; rfl
  go_wp2
  go_ret
  exact ⟨by rw [HE.out]; rfl, B3.out⟩
 by_cases h10 : (mn : Int) ≤ 10
 case neg =>
  have HE : Hid (bxOk g nm t b nx L G = false) := by show _ = _; rw [HX.out]; simp [h10]
  have h11 : (10 : Int) < (mn : Int) := by omega
  go_wp2
  go_ret
  exact ⟨by rw [HE.out]; rfl, B3.out⟩
 have h11 : ¬ (10 : Int) < (mn : Int) := by omega
 go_wp2_with fail
 refine (l06Sorted_any lo' hi' ga gn gc G _ HGL.out HGN.out (HIS.out.later B3.out)).mono ?_; rintro e w5 ⟨rfl, hb5⟩
 rw [HP6.out]
 have a5 := A3.out.later hb5
 have A5 := hid a5
 have B5 := hid (btr B3.out hb5)
 have c0 := a5.cells
 clear a5 hb5 A3 B3
 cases p6
 ·have HE : Hid (bxOk g nm t b nx L G = false) := by show _ = _; rw [HX.out]; simp
  go_wp2
  go_ret
  exact ⟨by rw [HE.out]; rfl, B5.out⟩
 have HX : Hid (bxOk g nm t b nx L G = bxm nx G L) := by show _ = _; rw [HX.out]; simp [h10]
 go_wp2
 clear h10 h11 cp1 cp2 cp3 cp4 HP6
 go_loopw [3] (fun iv wr => ∃ (i : Nat), i ≤ mn ∧ iv = .int .i64 (i : Int) ∧ Hid (∀ j, j < i → ∀ h : j < L.length, stp nx G L j = true ∧ mat L[j].1 L 0 = (j : Int)) ∧ Below w5.heap.size w5 wr) (fun iv _ => mn - (intOf iv).toNat)
 case atStart => exact ⟨0, Nat.zero_le _, rfl, fun j hj => absurd hj (Nat.not_lt_zero _), bre _⟩
 case round =>
  obtain ⟨i, hin, rfl, HA, hb⟩ := hrel
  have HB5 := hid hb
  have a6 := A5.out.later hb
  have c0 := a6.cells
  have HB := hid (btr B5.out hb)
  have A6 := hid a6
  clear a6 hb
  by_cases hlt : i < mn
  ·have hil : i < L.length := by rw [HL.out]; exact hlt
   obtain ⟨k, o, fa, fc, rfl, hk, ⟨d0, d1, d2, d3⟩, hrs, _⟩ := (HR.out.later HB.out).at hil
   have hmem := HSM.out L[i] (List.getElem_mem hil)
   obtain ⟨q, hq⟩ : ∃ q, L[i] = q := ⟨_, rfl⟩
   obtain ⟨g1, u1, l1, t1⟩ := q
   have HST := hid (stp_at (nx := nx) (G := G) hil hq)
   have HPI : Hid (L[i].1 = g1) := by show _ = _; rw [hq]
   rw [hq] at d0 d1 d2 d3 hrs hmem
   have HRS := hid hrs
   obtain ⟨m, hm⟩ : ∃ m, l1.length = m := ⟨_, rfl⟩
   dsimp only at d0 d1 d2 d3
   rw [hm] at d2
   have HM := hid hm
   have HML : Hid (m ≤ 1048576) := by show _ ≤ _; rw [← hm]; exact hmem.1
   obtain ⟨p, hp⟩ : ∃ p, mlOk g1 u1 l1 t1 = p := ⟨_, rfl⟩
   obtain ⟨si, hsi⟩ : ∃ si, inl g1 G = si := ⟨_, rfl⟩
   obtain ⟨mt, hmt⟩ : ∃ mt, mat g1 L 0 = mt := ⟨_, rfl⟩
   have HP := hid hp
   have HSI := hid hsi
   have HMT := hid hmt
   have HP0 := hid (fun h : p = true => mlOk_pos (hp ▸ h))
   have hI : (0 : Int) ≤ (i : Int) ∧ (i : Int) < (mn : Int) := by omega
   have HK := hid hk
   have HD1 := hid d1
   have HQ := hid hq
   rw [HP.out, HSI.out] at HST
   clear hq hrs hmem hm hp hsi hmt hk
   go_wp2_with fail
   obtain ⟨W1, hW1⟩ : ∃ W1, wr.alloc (.cells #[.int .i64 g1, .int .i64 u1, .slice fa m fc, .string t1] 78) = W1 := ⟨_, rfl⟩
   have A1 : Hid (Mg W1 wr.heap.size 78 g1 u1 (.slice fa m fc) t1) := by subst hW1; exact Mg.new _ _ _ _ _ _
   have B1 : Hid (Below wr.heap.size wr W1) := by subst hW1; exact bpush (bre _) _
   rw [hW1]
   clear hW1 d0 d1 d2 d3
   by_cases h0 : i = 0
   ·have hu0 : us L i = 0 := by rw [h0]; rfl
    rw [hu0] at HST
    have hpos : ¬ (0 : Int) < (i : Int) := by omega
    have hposN : ¬ 0 < i := by omega
    have HS : Hid (∀ W, Below W1.heap.size W1 W → (W.cell? ⟨w.heap.size, 0, none⟩ = some (.int .i64 g) ∧ W.cell? ⟨w.heap.size, 1, none⟩ = some (.string nm) ∧ W.cell? ⟨w.heap.size, 2, none⟩ = some (.int .i64 t) ∧ W.cell? ⟨w.heap.size, 3, none⟩ = some (.int .i64 b) ∧ W.cell? ⟨w.heap.size, 4, none⟩ = some (.int .i64 nx) ∧ W.cell? ⟨w.heap.size, 5, none⟩ = some (.slice (some ⟨k, o, none⟩) mn mc) ∧ W.cell? ⟨w.heap.size, 6, none⟩ = some (.slice ga gn gc)) ∧ (W.cell? ⟨wr.heap.size, 0, none⟩ = some (.int .i64 g1) ∧ W.cell? ⟨wr.heap.size, 1, none⟩ = some (.int .i64 u1) ∧ W.cell? ⟨wr.heap.size, 2, none⟩ = some (.slice fa m fc) ∧ W.cell? ⟨wr.heap.size, 3, none⟩ = some (.string t1))) := fun W h => ⟨(A6.out.later (btr B1.out h)).cells, (A1.out.later h).cells⟩
    clear h0 hu0 c0
    refine wp_region_noPanic ?_
    refine wp_region_held_drew (S := (fun W => (W.cell? ⟨w.heap.size, 0, none⟩ = some (.int .i64 g) ∧ W.cell? ⟨w.heap.size, 1, none⟩ = some (.string nm) ∧ W.cell? ⟨w.heap.size, 2, none⟩ = some (.int .i64 t) ∧ W.cell? ⟨w.heap.size, 3, none⟩ = some (.int .i64 b) ∧ W.cell? ⟨w.heap.size, 4, none⟩ = some (.int .i64 nx) ∧ W.cell? ⟨w.heap.size, 5, none⟩ = some (.slice (some ⟨k, o, none⟩) mn mc) ∧ W.cell? ⟨w.heap.size, 6, none⟩ = some (.slice ga gn gc)) ∧ (W.cell? ⟨wr.heap.size, 0, none⟩ = some (.int .i64 g1) ∧ W.cell? ⟨wr.heap.size, 1, none⟩ = some (.int .i64 u1) ∧ W.cell? ⟨wr.heap.size, 2, none⟩ = some (.slice fa m fc) ∧ W.cell? ⟨wr.heap.size, 3, none⟩ = some (.string t1)))) (by kernel_rfl) (HS.out _ (bdr (bre _))) (fun hHeld => ?_)
    refine tk 0 ?_
    clear hHeld
    refine ry 1 (fun K hK => ?_)
    go_simp
    refine (specMailOk_any g1 u1 fa m fc l1 t1 _ HM.out HML.out (HRS.out.later (btr B1.out bb))).mono ?_; rintro e w2 ⟨rfl, hb2⟩
    rw [HP.out]
    go_wp2_with fail
    refine hK.out _ _ (HS.out _ bb) (fun hHeld => ?_)
    clear hK K
    try simp only [tp0, tp1, tp2, tp3, tp4]
    cases p
    ·refine tk 2 ?_
     refine tk 3 ?_
     refine tn 4 ?_
     refine tn 5 ?_
     refine tn 6 ?_
     refine tn 7 ?_
     refine tn 8 ?_
     refine tk 9 ?_
     refine tk 10 ?_
     refine tn 11 ?_
     refine tn 12 ?_
     refine tn 13 ?_
     refine tn 14 ?_
     refine tn 15 ?_
     refine tn 16 ?_
     refine tn 17 ?_
     refine tn 18 ?_
     refine tn 19 ?_
     refine tn 20 ?_
     refine tn 21 ?_
     refine tn 22 ?_
     refine tn 23 ?_
     refine tn 24 ?_
     refine tk 25 ?_
     refine tk 26 ?_
     refine tn 27 ?_
     refine tn 28 ?_
     refine tn 29 ?_
     refine tn 30 ?_
     refine tn 31 ?_
     refine tk 32 ?_
     refine tk 33 ?_
     refine tn 34 ?_
     refine tn 35 ?_
     refine tn 36 ?_
     refine tn 38 ?_
     refine tn 37 ?_
     refine tn 39 ?_
     refine tk 40 ?_
     refine wpAnyH_done (by kernel_rfl) ?_ _
     refine NoPanic.normal ?_
     have HE : Hid (bxOk g nm t b nx L G = false) := by show _ = _; rw [HX.out, bxm_bad hil (by rw [HST.out]; rfl)]
     clear hHeld
     go_wp2
     go_ret
     exact ⟨by rw [HE.out]; rfl, btr HB.out (btr B1.out bb)⟩
    ·refine tk 2 ?_
     refine tk 3 ?_
     refine tk 4 ?_
     refine tk 5 ?_
     refine tk 6 ?_
     refine tk 7 ?_
     by_cases hq : u1 < nx
     ·have hq2 : ¬ nx ≤ u1 := by omega
      refine tk 8 ?_
      refine tk 9 ?_
      refine tk 10 ?_
      refine tk 11 ?_
      ·refine tk 12 ?_
       refine tk 13 ?_
       refine tn 14 ?_
       refine tn 15 ?_
       refine tn 16 ?_
       refine tn 17 ?_
       refine tn 18 ?_
       refine tn 19 ?_
       refine tn 20 ?_
       refine tn 21 ?_
       refine tn 22 ?_
       refine tn 23 ?_
       refine tk 24 ?_
       refine tk 25 ?_
       refine tk 26 ?_
       refine tk 27 ?_
       refine tk 28 ?_
       refine tk 29 ?_
       refine tk 30 ?_
       clear hHeld
       refine ry 31 (fun K hK => ?_)
       go_simp
       refine (l06In_any lo' hi' ga gn gc G g1 _ HGL.out HGN.out (HIS.out.later (btr HB.out (btr B1.out bb)))).mono ?_; rintro e w3 ⟨rfl, h3⟩
       subst h3
       rw [HSI.out]
       go_wp2_with fail
       refine hK.out _ _ (HS.out _ bb) (fun hHeld => ?_)
       clear hK K
       try simp only [tp0, tp1, tp2, tp3, tp4]
       cases si
       ·refine tk 32 ?_
        refine tk 33 ?_
        refine tk 34 ?_
        refine tk 35 ?_
        refine tk 36 ?_
        refine tk 38 ?_
        clear hHeld
        refine ry 37 (fun K hK => ?_)
        go_simp
        refine (specMailAt_any lo hi g nm t b nx (some ⟨k, o, none⟩) mn mc (.slice ga gn gc) L g1 _ HL.out HN.out (HR.out.later (btr HB.out (btr B1.out bb)))).mono ?_; rintro e w4 ⟨rfl, hb4⟩
        rw [HMT.out]
        go_wp2_with fail
        refine hK.out _ _ (HS.out _ bb) (fun hHeld => ?_)
        clear hK K
        try simp only [tp0, tp1, tp2, tp3, tp4]
        by_cases hmt : mt = (i : Int)
        ·have hmt2 : (mt != (i : Int)) = false := by simp [hmt]
         refine tk 39 ?_
         refine tk 40 ?_
         refine wpAnyH_done (by kernel_rfl) ?_ _
         refine NoPanic.normal ?_
         have hp0 : 0 < u1 := HP0.out (by first | rfl | trivial)
         have HE : Hid (∀ j, j < i + 1 → ∀ h : j < L.length, stp nx G L j = true ∧ mat L[j].1 L 0 = (j : Int)) := by
          intro j hj h
          by_cases hji : j < i
          ·exact HA.out j hji h
          ·obtain rfl : j = i := by omega
           exact ⟨by rw [HST.out]; simp [hq, hp0], by rw [HPI.out, HMT.out]; exact hmt⟩
         clear hHeld
         go_wp2
         go_roundw
         case rel => exact ⟨i + 1, by omega, by go_num, HE, btr HB5.out (btr B1.out bb)⟩
         case measure => simp [intOf]; omega
        ·have hmt2 : (mt != (i : Int)) = true := by simp [hmt]
         refine tk 39 ?_
         refine tk 40 ?_
         refine wpAnyH_done (by kernel_rfl) ?_ _
         refine NoPanic.normal ?_
         have HE : Hid (bxOk g nm t b nx L G = false) := by show _ = _; rw [HX.out, bxm, uq_bad hil (by rw [HPI.out, HMT.out]; exact hmt), Bool.and_false]
         clear hHeld
         go_wp2
         go_ret
         exact ⟨by rw [HE.out]; rfl, btr HB.out (btr B1.out bb)⟩
       ·refine tk 32 ?_
        refine tk 33 ?_
        refine tn 34 ?_
        refine tn 35 ?_
        refine tn 36 ?_
        refine tn 38 ?_
        refine tn 37 ?_
        refine tn 39 ?_
        refine tk 40 ?_
        refine wpAnyH_done (by kernel_rfl) ?_ _
        refine NoPanic.normal ?_
        have HE : Hid (bxOk g nm t b nx L G = false) := by show _ = _; rw [HX.out, bxm_bad hil (by rw [HST.out]; simp)]
        clear hHeld
        go_wp2
        go_ret
        exact ⟨by rw [HE.out]; rfl, btr HB.out (btr B1.out bb)⟩
     ·have hq2 : nx ≤ u1 := by omega
      refine tk 8 ?_
      refine tk 9 ?_
      refine tk 10 ?_
      refine tn 11 ?_
      refine tn 12 ?_
      refine tn 13 ?_
      refine tn 14 ?_
      refine tn 15 ?_
      refine tn 16 ?_
      refine tn 17 ?_
      refine tn 18 ?_
      refine tn 19 ?_
      refine tn 20 ?_
      refine tn 21 ?_
      refine tn 22 ?_
      refine tn 23 ?_
      refine tn 24 ?_
      refine tk 25 ?_
      refine tk 26 ?_
      refine tn 27 ?_
      refine tn 28 ?_
      refine tn 29 ?_
      refine tn 30 ?_
      refine tn 31 ?_
      refine tk 32 ?_
      refine tk 33 ?_
      refine tn 34 ?_
      refine tn 35 ?_
      refine tn 36 ?_
      refine tn 38 ?_
      refine tn 37 ?_
      refine tn 39 ?_
      refine tk 40 ?_
      refine wpAnyH_done (by kernel_rfl) ?_ _
      refine NoPanic.normal ?_
      have HE : Hid (bxOk g nm t b nx L G = false) := by show _ = _; rw [HX.out, bxm_bad hil (by rw [HST.out]; simp [hq])]
      clear hHeld
      go_wp2
      go_ret
      exact ⟨by rw [HE.out]; rfl, btr HB.out (btr B1.out bb)⟩
   ·obtain ⟨j, hj⟩ : ∃ j : Nat, i = j + 1 := ⟨i - 1, by omega⟩
    have hjl : j < L.length := by omega
    obtain ⟨k', o', fa', fc', e', hk', ⟨_, dj, _, _⟩, _⟩ := (HR.out.later HB.out).at hjl
    simp only [Option.some.injEq, Addr.mk.injEq, and_true] at e'
    obtain ⟨rfl, rfl⟩ := e'
    obtain ⟨y, hy⟩ : ∃ y, L[j].2.1 = y := ⟨_, rfl⟩
    have huy : us L i = y := by rw [hj, us_succ hjl, hy]
    rw [hy] at dj
    rw [huy] at HST
    have hij : (i : Int) - 1 = (j : Int) := by omega
    have hwj : IntKind.i64.wrap (j : Int) = (j : Int) := by rw [IntKind.wrap_i64]; omega
    have hJ : (0 : Int) ≤ (j : Int) ∧ (j : Int) < (mn : Int) := by omega
    have hpos : (0 : Int) < (i : Int) := by omega
    have hposN : 0 < i := by omega
    have HS : Hid (∀ W, Below W1.heap.size W1 W → (W.cell? ⟨w.heap.size, 0, none⟩ = some (.int .i64 g) ∧ W.cell? ⟨w.heap.size, 1, none⟩ = some (.string nm) ∧ W.cell? ⟨w.heap.size, 2, none⟩ = some (.int .i64 t) ∧ W.cell? ⟨w.heap.size, 3, none⟩ = some (.int .i64 b) ∧ W.cell? ⟨w.heap.size, 4, none⟩ = some (.int .i64 nx) ∧ W.cell? ⟨w.heap.size, 5, none⟩ = some (.slice (some ⟨k, o, none⟩) mn mc) ∧ W.cell? ⟨w.heap.size, 6, none⟩ = some (.slice ga gn gc)) ∧ (W.cell? ⟨wr.heap.size, 0, none⟩ = some (.int .i64 g1) ∧ W.cell? ⟨wr.heap.size, 1, none⟩ = some (.int .i64 u1) ∧ W.cell? ⟨wr.heap.size, 2, none⟩ = some (.slice fa m fc) ∧ W.cell? ⟨wr.heap.size, 3, none⟩ = some (.string t1)) ∧ W.cell? ⟨k, o + j * 4 + 1, none⟩ = some (.int .i64 y)) := fun W h => ⟨(A6.out.later (btr B1.out h)).cells, (A1.out.later h).cells, ((btr B1.out h).cell (p := ⟨k, _, none⟩) HK.out).trans dj⟩
    have HDJ := hid dj
    clear h0 hj hy huy c0 dj hk'
    refine wp_region_noPanic ?_
    refine wp_region_held_drew (S := (fun W => (W.cell? ⟨w.heap.size, 0, none⟩ = some (.int .i64 g) ∧ W.cell? ⟨w.heap.size, 1, none⟩ = some (.string nm) ∧ W.cell? ⟨w.heap.size, 2, none⟩ = some (.int .i64 t) ∧ W.cell? ⟨w.heap.size, 3, none⟩ = some (.int .i64 b) ∧ W.cell? ⟨w.heap.size, 4, none⟩ = some (.int .i64 nx) ∧ W.cell? ⟨w.heap.size, 5, none⟩ = some (.slice (some ⟨k, o, none⟩) mn mc) ∧ W.cell? ⟨w.heap.size, 6, none⟩ = some (.slice ga gn gc)) ∧ (W.cell? ⟨wr.heap.size, 0, none⟩ = some (.int .i64 g1) ∧ W.cell? ⟨wr.heap.size, 1, none⟩ = some (.int .i64 u1) ∧ W.cell? ⟨wr.heap.size, 2, none⟩ = some (.slice fa m fc) ∧ W.cell? ⟨wr.heap.size, 3, none⟩ = some (.string t1)) ∧ W.cell? ⟨k, o + j * 4 + 1, none⟩ = some (.int .i64 y))) (by kernel_rfl) (HS.out _ (bdr (bre _))) (fun hHeld => ?_)
    refine tk 0 ?_
    clear hHeld
    refine ry 1 (fun K hK => ?_)
    go_simp
    refine (specMailOk_any g1 u1 fa m fc l1 t1 _ HM.out HML.out (HRS.out.later (btr B1.out bb))).mono ?_; rintro e w2 ⟨rfl, hb2⟩
    rw [HP.out]
    go_wp2_with fail
    refine hK.out _ _ (HS.out _ bb) (fun hHeld => ?_)
    clear hK K
    try simp only [tp0, tp1, tp2, tp3, tp4]
    cases p
    ·refine tk 2 ?_
     refine tk 3 ?_
     refine tn 4 ?_
     refine tn 5 ?_
     refine tn 6 ?_
     refine tn 7 ?_
     refine tn 8 ?_
     refine tk 9 ?_
     refine tk 10 ?_
     refine tn 11 ?_
     refine tn 12 ?_
     refine tn 13 ?_
     refine tn 14 ?_
     refine tn 15 ?_
     refine tn 16 ?_
     refine tn 17 ?_
     refine tn 18 ?_
     refine tn 19 ?_
     refine tn 20 ?_
     refine tn 21 ?_
     refine tn 22 ?_
     refine tn 23 ?_
     refine tn 24 ?_
     refine tk 25 ?_
     refine tk 26 ?_
     refine tn 27 ?_
     refine tn 28 ?_
     refine tn 29 ?_
     refine tn 30 ?_
     refine tn 31 ?_
     refine tk 32 ?_
     refine tk 33 ?_
     refine tn 34 ?_
     refine tn 35 ?_
     refine tn 36 ?_
     refine tn 38 ?_
     refine tn 37 ?_
     refine tn 39 ?_
     refine tk 40 ?_
     refine wpAnyH_done (by kernel_rfl) ?_ _
     refine NoPanic.normal ?_
     have HE : Hid (bxOk g nm t b nx L G = false) := by show _ = _; rw [HX.out, bxm_bad hil (by rw [HST.out]; rfl)]
     clear hHeld
     go_wp2
     go_ret
     exact ⟨by rw [HE.out]; rfl, btr HB.out (btr B1.out bb)⟩
    ·refine tk 2 ?_
     refine tk 3 ?_
     refine tk 4 ?_
     refine tk 5 ?_
     refine tk 6 ?_
     refine tk 7 ?_
     by_cases hq : u1 < nx
     ·have hq2 : ¬ nx ≤ u1 := by omega
      refine tk 8 ?_
      refine tk 9 ?_
      refine tk 10 ?_
      refine tk 11 ?_
      ·refine tk 12 ?_
       refine tk 13 ?_
       refine tk 14 ?_
       refine tk 15 ?_
       refine tk 16 ?_
       refine tk 17 ?_
       refine tk 18 ?_
       refine tk 19 ?_
       refine tk 20 ?_
       refine tk 21 ?_
       refine tk 22 ?_
       by_cases hle : y < u1
       ·have hle2 : ¬ u1 ≤ y := by omega
        refine tk 23 ?_
        refine tk 24 ?_
        refine tk 25 ?_
        refine tk 26 ?_
        refine tk 27 ?_
        refine tk 28 ?_
        refine tk 29 ?_
        refine tk 30 ?_
        clear hHeld
        refine ry 31 (fun K hK => ?_)
        go_simp
        refine (l06In_any lo' hi' ga gn gc G g1 _ HGL.out HGN.out (HIS.out.later (btr HB.out (btr B1.out bb)))).mono ?_; rintro e w3 ⟨rfl, h3⟩
        subst h3
        rw [HSI.out]
        go_wp2_with fail
        refine hK.out _ _ (HS.out _ bb) (fun hHeld => ?_)
        clear hK K
        try simp only [tp0, tp1, tp2, tp3, tp4]
        cases si
        ·refine tk 32 ?_
         refine tk 33 ?_
         refine tk 34 ?_
         refine tk 35 ?_
         refine tk 36 ?_
         refine tk 38 ?_
         clear hHeld
         refine ry 37 (fun K hK => ?_)
         go_simp
         refine (specMailAt_any lo hi g nm t b nx (some ⟨k, o, none⟩) mn mc (.slice ga gn gc) L g1 _ HL.out HN.out (HR.out.later (btr HB.out (btr B1.out bb)))).mono ?_; rintro e w4 ⟨rfl, hb4⟩
         rw [HMT.out]
         go_wp2_with fail
         refine hK.out _ _ (HS.out _ bb) (fun hHeld => ?_)
         clear hK K
         try simp only [tp0, tp1, tp2, tp3, tp4]
         by_cases hmt : mt = (i : Int)
         ·have hmt2 : (mt != (i : Int)) = false := by simp [hmt]
          refine tk 39 ?_
          refine tk 40 ?_
          refine wpAnyH_done (by kernel_rfl) ?_ _
          refine NoPanic.normal ?_
          have HE : Hid (∀ j, j < i + 1 → ∀ h : j < L.length, stp nx G L j = true ∧ mat L[j].1 L 0 = (j : Int)) := by
           intro j hj h
           by_cases hji : j < i
           ·exact HA.out j hji h
           ·obtain rfl : j = i := by omega
            exact ⟨by rw [HST.out]; simp [hq, hle], by rw [HPI.out, HMT.out]; exact hmt⟩
          clear hHeld
          go_wp2
          go_roundw
          case rel => exact ⟨i + 1, by omega, by go_num, HE, btr HB5.out (btr B1.out bb)⟩
          case measure => simp [intOf]; omega
         ·have hmt2 : (mt != (i : Int)) = true := by simp [hmt]
          refine tk 39 ?_
          refine tk 40 ?_
          refine wpAnyH_done (by kernel_rfl) ?_ _
          refine NoPanic.normal ?_
          have HE : Hid (bxOk g nm t b nx L G = false) := by show _ = _; rw [HX.out, bxm, uq_bad hil (by rw [HPI.out, HMT.out]; exact hmt), Bool.and_false]
          clear hHeld
          go_wp2
          go_ret
          exact ⟨by rw [HE.out]; rfl, btr HB.out (btr B1.out bb)⟩
        ·refine tk 32 ?_
         refine tk 33 ?_
         refine tn 34 ?_
         refine tn 35 ?_
         refine tn 36 ?_
         refine tn 38 ?_
         refine tn 37 ?_
         refine tn 39 ?_
         refine tk 40 ?_
         refine wpAnyH_done (by kernel_rfl) ?_ _
         refine NoPanic.normal ?_
         have HE : Hid (bxOk g nm t b nx L G = false) := by show _ = _; rw [HX.out, bxm_bad hil (by rw [HST.out]; simp)]
         clear hHeld
         go_wp2
         go_ret
         exact ⟨by rw [HE.out]; rfl, btr HB.out (btr B1.out bb)⟩
       ·have hle2 : u1 ≤ y := by omega
        refine tk 23 ?_
        refine tk 24 ?_
        refine tk 25 ?_
        refine tk 26 ?_
        refine tn 27 ?_
        refine tn 28 ?_
        refine tn 29 ?_
        refine tn 30 ?_
        refine tn 31 ?_
        refine tk 32 ?_
        refine tk 33 ?_
        refine tn 34 ?_
        refine tn 35 ?_
        refine tn 36 ?_
        refine tn 38 ?_
        refine tn 37 ?_
        refine tn 39 ?_
        refine tk 40 ?_
        refine wpAnyH_done (by kernel_rfl) ?_ _
        refine NoPanic.normal ?_
        have HE : Hid (bxOk g nm t b nx L G = false) := by show _ = _; rw [HX.out, bxm_bad hil (by rw [HST.out]; simp [hle])]
        clear hHeld
        go_wp2
        go_ret
        exact ⟨by rw [HE.out]; rfl, btr HB.out (btr B1.out bb)⟩
     ·have hq2 : nx ≤ u1 := by omega
      refine tk 8 ?_
      refine tk 9 ?_
      refine tk 10 ?_
      refine tn 11 ?_
      refine tn 12 ?_
      refine tn 13 ?_
      refine tn 14 ?_
      refine tn 15 ?_
      refine tn 16 ?_
      refine tn 17 ?_
      refine tn 18 ?_
      refine tn 19 ?_
      refine tn 20 ?_
      refine tn 21 ?_
      refine tn 22 ?_
      refine tn 23 ?_
      refine tn 24 ?_
      refine tk 25 ?_
      refine tk 26 ?_
      refine tn 27 ?_
      refine tn 28 ?_
      refine tn 29 ?_
      refine tn 30 ?_
      refine tn 31 ?_
      refine tk 32 ?_
      refine tk 33 ?_
      refine tn 34 ?_
      refine tn 35 ?_
      refine tn 36 ?_
      refine tn 38 ?_
      refine tn 37 ?_
      refine tn 39 ?_
      refine tk 40 ?_
      refine wpAnyH_done (by kernel_rfl) ?_ _
      refine NoPanic.normal ?_
      have HE : Hid (bxOk g nm t b nx L G = false) := by show _ = _; rw [HX.out, bxm_bad hil (by rw [HST.out]; simp [hq])]
      clear hHeld
      go_wp2
      go_ret
      exact ⟨by rw [HE.out]; rfl, btr HB.out (btr B1.out bb)⟩
  ·have HE : Hid (bxOk g nm t b nx L G = true) := by
    show _ = _
    have e := HL.out
    rw [HX.out, bxm, alr_all (fun j hj => (HA.out j (by omega) hj).1), uq_all (fun j hj => (HA.out j (by omega) hj).2)]
    rfl
   go_wp2
   go_ret
   exact ⟨by rw [HE.out]; rfl, HB.out⟩
theorem len_shelf {W : World} {B b c : Nat} {E : List En} (h : OwMp W B b E c) : (Builtin.len_ #[159] 3 #[.map (some b)]).run Tryz.prog W = .ok (.int .i64 (E.length : Int)) W := by
 simp [Builtin.len_, MapKept.run_getObj_map h.lies, Result.andThen, goInt]
set_option maxHeartbeats 3200000 in
set_option maxRecDepth 100000 in
theorem mailsOk_any (lo hh lo' hh' : Nat) (g : Int) (nm : ByteArray) (t b nx : Int) (ma : Option Addr) (mn mc : Nat) (ga : Option Addr) (gn gc : Nat) (L : List M4) (G : List Int) (w : World) (hl : L.length = mn) (hn : mn ≤ 1048576) (hsm : Sm L) (hm : Ms lo hh w ma L) (hgl : G.length = gn) (hgn : gn ≤ 1048576) (hs : Is lo' hh' w ga G) :
  Calls Tryz.prog 100 #[.agg #[.int .i64 g, .string nm, .int .i64 t, .int .i64 b, .int .i64 nx, .slice ma mn mc, .slice ga gn gc]] w fun e w' => e = .returned (.bool (decide ((mn : Int) ≤ 10) && bxm nx G L)) ∧ Below w.heap.size w w' := by
 obtain ⟨W0, hW0⟩ : ∃ W0, w.alloc (.cells #[.int .i64 g, .string nm, .int .i64 t, .int .i64 b, .int .i64 nx, .slice ma mn mc, .slice ga gn gc] 38) = W0 := ⟨_, rfl⟩
 have a0 : Bx W0 w.heap.size 38 g nm t b nx (.slice ma mn mc) (.slice ga gn gc) := by subst hW0; exact Bx.new w _ g nm t b nx _ _
 have b0 : Below w.heap.size w W0 := by subst hW0; exact bpush (bre _) _
 have c0 := a0.cells
 have HL := hid hl
 have HSM := hid hsm
 have HN := hid hn
 have HR := hid hm
 have HGL := hid hgl
 have HGN := hid hgn
 have HIS := hid hs
 have A0 := hid a0
 have B0 := hid b0
 clear hl hsm hm hgl hgn hs a0 b0
 by_cases h10 : (mn : Int) ≤ 10
 case neg =>
  have HE : Hid ((decide ((mn : Int) ≤ 10) && bxm nx G L) = false) := by show _ = _; simp [h10]
  have h11 : (10 : Int) < (mn : Int) := by omega
  go_enter Tryz.func100, Tryz.ntmps100
  go_wp2
  go_ret
  exact ⟨by rw [HE.out]; rfl, B0.out⟩
 have HX : Hid ((decide ((mn : Int) ≤ 10) && bxm nx G L) = bxm nx G L) := by show _ = _; simp [h10]
 have h11 : ¬ (10 : Int) < (mn : Int) := by omega
 go_enter Tryz.func100, Tryz.ntmps100
 go_wp2
 clear hW0 h10 h11
 go_loopw [3, 13] (fun lv iv wr => ∃ (i : Nat) (q : Int), i ≤ mn ∧ lv = .int .i64 q ∧ iv = .int .i64 (i : Int) ∧ Hid (q = us L i) ∧ Hid (∀ j, j < i → j < L.length → stp nx G L j = true) ∧ Below W0.heap.size W0 wr) (fun _ iv _ => mn - (intOf iv).toNat)
 case atStart => exact ⟨0, 0, Nat.zero_le _, rfl, rfl, rfl, fun j hj => absurd hj (Nat.not_lt_zero _), bre _⟩
 case round =>
  obtain ⟨i, q, hin, rfl, rfl, HQ, HA, hb⟩ := hrel
  have HB5 := hid hb
  have a6 := A0.out.later hb
  have c0 := a6.cells
  have HB := hid (btr B0.out hb)
  have A6 := hid a6
  clear a6 hb
  by_cases hlt : i < mn
  ·have hil : i < L.length := by rw [HL.out]; exact hlt
   obtain ⟨k, o, fa, fc, rfl, hk, ⟨d0, d1, d2, d3⟩, hrs, _⟩ := (HR.out.later HB.out).at hil
   have hmem := HSM.out L[i] (List.getElem_mem hil)
   have hus := us_succ hil
   obtain ⟨r, hr⟩ : ∃ r, L[i] = r := ⟨_, rfl⟩
   obtain ⟨g1, u1, l1, t1⟩ := r
   have HST := hid (stp_at (nx := nx) (G := G) hil hr)
   rw [hr] at d0 d1 d2 d3 hrs hmem hus
   have HRS := hid hrs
   obtain ⟨m, hm⟩ : ∃ m, l1.length = m := ⟨_, rfl⟩
   dsimp only at d0 d1 d2 d3 hus
   rw [hm] at d2
   have HM := hid hm
   have HML : Hid (m ≤ 1048576) := by show _ ≤ _; rw [← hm]; exact hmem.1
   obtain ⟨p, hp⟩ : ∃ p, mlOk g1 u1 l1 t1 = p := ⟨_, rfl⟩
   obtain ⟨si, hsi⟩ : ∃ si, inl g1 G = si := ⟨_, rfl⟩
   have HP := hid hp
   have HSI := hid hsi
   have HUS := hid hus
   have hI : (0 : Int) ≤ (i : Int) ∧ (i : Int) < (mn : Int) := by omega
   rw [HP.out, HSI.out, ← HQ.out] at HST
   clear hr hrs hmem hm hp hsi hk hus
   go_wp2_with fail
   obtain ⟨W1, hW1⟩ : ∃ W1, wr.alloc (.cells #[.int .i64 g1, .int .i64 u1, .slice fa m fc, .string t1] 78) = W1 := ⟨_, rfl⟩
   have a1 : Mg W1 wr.heap.size 78 g1 u1 (.slice fa m fc) t1 := by subst hW1; exact Mg.new _ _ _ _ _ _
   have A1 := hid a1
   have B1 : Hid (Below wr.heap.size wr W1) := by subst hW1; exact bpush (bre _) _
   rw [hW1]
   clear hW1 d0 d1 d2 d3 c0 a1
   refine (implMailOk_any g1 u1 fa m fc l1 t1 _ HM.out HML.out (HRS.out.later B1.out)).mono ?_; rintro e w2 ⟨rfl, hb2⟩
   rw [HP.out]
   have c0 := (A6.out.later (btr B1.out hb2)).cells
   have c1 := (A1.out.later hb2).cells
   have B2 := hid (btr B1.out hb2)
   clear hb2
   cases p
   ·have HE : Hid ((decide ((mn : Int) ≤ 10) && bxm nx G L) = false) := by show _ = _; rw [HX.out, bxm_bad hil (by rw [HST.out]; rfl)]
    go_wp2
    go_ret
    exact ⟨by rw [HE.out]; rfl, btr HB.out B2.out⟩
   by_cases hq : q < u1
   case neg =>
    have HE : Hid ((decide ((mn : Int) ≤ 10) && bxm nx G L) = false) := by show _ = _; rw [HX.out, bxm_bad hil (by rw [HST.out]; simp [hq])]
    have hq2 : u1 ≤ q := by omega
    go_wp2
    go_ret
    exact ⟨by rw [HE.out]; rfl, btr HB.out B2.out⟩
   have hq2 : ¬ u1 ≤ q := by omega
   by_cases hx : u1 < nx
   case neg =>
    have HE : Hid ((decide ((mn : Int) ≤ 10) && bxm nx G L) = false) := by show _ = _; rw [HX.out, bxm_bad hil (by rw [HST.out]; simp [hx])]
    have hx2 : nx ≤ u1 := by omega
    go_wp2
    go_ret
    exact ⟨by rw [HE.out]; rfl, btr HB.out B2.out⟩
   have hx2 : ¬ nx ≤ u1 := by omega
   go_wp2_with fail
   refine (contains_any lo' hh' ga gn gc G g1 _ HGL.out HGN.out (HIS.out.later (btr HB.out B2.out))).mono ?_; rintro e w3 ⟨rfl, h3⟩
   subst h3
   rw [HSI.out]
   cases si
   ·have HE : Hid (∀ j, j < i + 1 → j < L.length → stp nx G L j = true) := by
     intro j hj h
     by_cases hji : j < i
     ·exact HA.out j hji h
     ·obtain rfl : j = i := by omega
      rw [HST.out]; simp [hq, hx]
    go_wp2
    go_roundw
    case rel => exact ⟨i + 1, u1, by omega, rfl, by go_num, HUS.out.symm, HE, btr HB5.out B2.out⟩
    case measure => simp [intOf]; omega
   ·have HE : Hid ((decide ((mn : Int) ≤ 10) && bxm nx G L) = false) := by show _ = _; rw [HX.out, bxm_bad hil (by rw [HST.out]; simp)]
    go_wp2
    go_ret
    exact ⟨by rw [HE.out]; rfl, btr HB.out B2.out⟩
  ·obtain ⟨z, hz⟩ : ∃ z : Nat, (shl L).length = z := ⟨_, rfl⟩
   have HE : Hid ((decide ((mn : Int) ≤ 10) && bxm nx G L) = ((z : Int) == (mn : Int))) := by
    show _ = _
    have e := HL.out
    rw [HX.out, bxm, alr_all (fun j hj => HA.out j (by omega) hj), ← shl_len, hz, e, Bool.true_and]
    rfl
   have HZ := hid hz
   have HZL := hid (shl_le L)
   clear hz
   have HS : Hid (∀ W, Below wr.heap.size wr W → W.cell? ⟨w.heap.size, 0, none⟩ = some (.int .i64 g) ∧ W.cell? ⟨w.heap.size, 1, none⟩ = some (.string nm) ∧ W.cell? ⟨w.heap.size, 2, none⟩ = some (.int .i64 t) ∧ W.cell? ⟨w.heap.size, 3, none⟩ = some (.int .i64 b) ∧ W.cell? ⟨w.heap.size, 4, none⟩ = some (.int .i64 nx) ∧ W.cell? ⟨w.heap.size, 5, none⟩ = some (.slice ma mn mc) ∧ W.cell? ⟨w.heap.size, 6, none⟩ = some (.slice ga gn gc)) := fun W h => (A6.out.later h).cells
   go_wp2_with fail
   refine wp_region_noPanic ?_
   refine wp_region_held_drew (S := (fun W => W.cell? ⟨w.heap.size, 0, none⟩ = some (.int .i64 g) ∧ W.cell? ⟨w.heap.size, 1, none⟩ = some (.string nm) ∧ W.cell? ⟨w.heap.size, 2, none⟩ = some (.int .i64 t) ∧ W.cell? ⟨w.heap.size, 3, none⟩ = some (.int .i64 b) ∧ W.cell? ⟨w.heap.size, 4, none⟩ = some (.int .i64 nx) ∧ W.cell? ⟨w.heap.size, 5, none⟩ = some (.slice ma mn mc) ∧ W.cell? ⟨w.heap.size, 6, none⟩ = some (.slice ga gn gc))) (by kernel_rfl) (HS.out _ (bdr (bre _))) (fun hHeld => ?_)
   refine tk 0 ?_
   refine tk 1 ?_
   refine tk 4 ?_
   refine tk 5 ?_
   refine tk 6 ?_
   clear hHeld
   refine ry 2 (fun K hK => ?_)
   go_simp
   refine (shelfOf_any lo hh ma mn mc L _ HL.out HN.out HSM.out (HR.out.later (btr HB.out (bdr (bre _))))).mono ?_; rintro e w2 ⟨rfl, ⟨E, cl, hE, hmp⟩, hb2⟩
   have hEz : E.length = z := by rw [← HZ.out, ← hE, List.length_map]
   have hlen : (Builtin.len_ #[159] 3 #[.map (some wr.heap.size)]).run Tryz.prog w2 = .ok (.int .i64 (z : Int)) w2 := by
    have h := len_shelf hmp
    rw [hEz] at h
    exact h
   have B2 := hid (show Below wr.heap.size wr w2 from btr (bdr (bre _)) hb2)
   clear hE hEz hmp hb2
   go_wp2_with fail
   refine hK.out _ _ (HS.out _ B2.out) (fun hHeld => ?_)
   clear hK K
   try simp only [tp0, tp1, tp2, tp3, tp4]
   clear hHeld
   refine ry 3 (fun K hK => ?_)
   go_simp
   go_wp2_with fail
   refine hK.out _ _ (HS.out _ B2.out) (fun hHeld => ?_)
   clear hK K
   try simp only [tp0, tp1, tp2, tp3, tp4]
   refine tk 7 ?_
   refine tk 8 ?_
   refine wpAnyH_done (by kernel_rfl) ?_ _
   refine NoPanic.normal ?_
   go_wp2
   go_ret
   exact ⟨by rw [HE.out]; rfl, btr HB.out B2.out⟩
end Go.Proofs.YtdkedgedkgabnaaGreatDoor
namespace Go.Proofs.YtdkedgedkgabnaaGreatDoor
open Go.RowKit Go.ChangeMaps
set_option maxHeartbeats 3200000 in
set_option maxRecDepth 100000 in
theorem implBoxOk_any (lo hh lo' hh' : Nat) (g : Int) (nm : ByteArray) (t b nx : Int) (ma : Option Addr) (mn mc : Nat) (ga : Option Addr) (gn gc : Nat) (L : List M4) (G : List Int) (w : World) (hnm : nm.size ≤ 1048576) (hl : L.length = mn) (hn : mn ≤ 1048576) (hsm : Sm L) (hm : Ms lo hh w ma L) (hgl : G.length = gn) (hgn : gn ≤ 1048576) (hs : Is lo' hh' w ga G) :
  Calls Tryz.prog 46 #[.agg #[.int .i64 g, .string nm, .int .i64 t, .int .i64 b, .int .i64 nx, .slice ma mn mc, .slice ga gn gc]] w fun e w' => e = .returned (.bool (bxOk g nm t b nx L G)) ∧ Below w.heap.size w w' := by
 obtain ⟨p1, hp1, cp1⟩ := gid_l g
 obtain ⟨p2, hp2, _, cp2⟩ := name_l nm hnm
 obtain ⟨p3, hp3, _, cp3⟩ := st_l t b
 obtain ⟨p6, hp6⟩ : ∃ p6, gnOk G = p6 := ⟨_, rfl⟩
 obtain ⟨p7, hp7⟩ : ∃ p7, (decide ((mn : Int) ≤ 10) && bxm nx G L) = p7 := ⟨_, rfl⟩
 have HX : Hid (bxOk g nm t b nx L G = (p1 && (p2 && (p3 && ((decide (1 ≤ nx) && decide (nx ≤ 10000)) && (p6 && p7)))))) := by
  show _ = _
  rw [hp1.out, hp2.out, hp3.out, ← hp6, ← hp7, ← hl]
  unfold bxOk
  generalize gok g = x1
  generalize nmOk nm = x2
  generalize stOk t b = x3
  generalize gnOk G = x4
  generalize bxm nx G L = x5
  generalize decide ((L.length : Int) ≤ 10) = x6
  cases x4 <;> cases x6 <;> simp
 obtain ⟨W0, hW0⟩ : ∃ W0, w.alloc (.cells #[.int .i64 g, .string nm, .int .i64 t, .int .i64 b, .int .i64 nx, .slice ma mn mc, .slice ga gn gc] 38) = W0 := ⟨_, rfl⟩
 have a0 : Bx W0 w.heap.size 38 g nm t b nx (.slice ma mn mc) (.slice ga gn gc) := by subst hW0; exact Bx.new w _ g nm t b nx _ _
 have b0 : Below w.heap.size w W0 := by subst hW0; exact bpush (bre _) _
 have c0 := a0.cells
 have HP6 := hid hp6
 have HP7 := hid hp7
 have HL := hid hl
 have HN := hid hn
 have HSM := hid hsm
 have HR := hid hm
 have HGL := hid hgl
 have HGN := hid hgn
 have HIS := hid hs
 have A0 := hid a0
 have B0 := hid b0
 clear hp1 hp2 hp3 hp6 hp7 hl hsm hm hgl hgn hs a0 b0 hnm
 go_enter Tryz.func46, Tryz.ntmps46
 go_wp2_with fail
 clear hW0
 refine (cp1.out _).mono ?_; rintro e w1 ⟨rfl, h1⟩
 subst h1
 cases p1
 ·have HE : Hid (bxOk g nm t b nx L G = false) := by show _ = _; rw [HX.out]; rfl
  go_wp2
  go_ret
  exact ⟨by rw [HE.out]; rfl, B0.out⟩
 go_wp2_with fail
 refine (cp2.out _).mono ?_; rintro e w2 ⟨rfl, hb2⟩
 have a2 := A0.out.later hb2
 have A2 := hid a2
 have B2 := hid (btr B0.out hb2)
 have c0 := a2.cells
 clear a2 hb2 A0 B0
 cases p2
 ·have HE : Hid (bxOk g nm t b nx L G = false) := by show _ = _; rw [HX.out]; rfl
  go_wp2
  go_ret
  exact ⟨by rw [HE.out]; rfl, B2.out⟩
 go_wp2_with fail
 refine (cp3.out _).mono ?_; rintro e w3 ⟨rfl, hb3⟩
 have a3 := A2.out.later hb3
 have A3 := hid a3
 have B3 := hid (btr B2.out hb3)
 have c0 := a3.cells
 clear a3 hb3 A2 B2
 cases p3
 ·have HE : Hid (bxOk g nm t b nx L G = false) := by show _ = _; rw [HX.out]; rfl
  go_wp2
  go_ret
  exact ⟨by rw [HE.out]; rfl, B3.out⟩
 by_cases h1 : 1 ≤ nx
 case neg =>
  have HE : Hid (bxOk g nm t b nx L G = false) := by show _ = _; rw [HX.out]; simp [h1]
  go_wp2
  go_ret
  exact ⟨by rw [HE.out]; rfl, B3.out⟩
 by_cases h2 : nx ≤ 10000
 case neg =>
  have HE : Hid (bxOk g nm t b nx L G = false) := by show _ = _; rw [HX.out]; simp [h2]
  go_wp2
  go_ret
  exact ⟨by rw [HE.out]; rfl, B3.out⟩
 have HX2 : Hid (bxOk g nm t b nx L G = (p6 && p7)) := by show _ = _; rw [HX.out]; simp [h1, h2]
 go_wp2_with fail
 refine (goneOk_any lo' hh' ga gn gc G _ HGL.out HGN.out (HIS.out.later B3.out)).mono ?_; rintro e w5 ⟨rfl, h5⟩
 subst h5
 rw [HP6.out]
 cases p6
 ·have HE : Hid (bxOk g nm t b nx L G = false) := by show _ = _; rw [HX2.out]; rfl
  go_wp2
  go_ret
  exact ⟨by rw [HE.out]; rfl, B3.out⟩
 go_wp2_with fail
 refine (mailsOk_any lo hh lo' hh' g nm t b nx ma mn mc ga gn gc L G _ HL.out HN.out HSM.out (HR.out.later B3.out) HGL.out HGN.out (HIS.out.later B3.out)).mono ?_; rintro e w6 ⟨rfl, hb6⟩
 rw [HP7.out]
 have B6 := hid (btr B3.out hb6)
 have HE : Hid (bxOk g nm t b nx L G = p7) := by show _ = _; rw [HX2.out]; rfl
 clear hb6 c0 HX HX2
 go_wp2
 go_ret
 exact ⟨by rw [HE.out]; rfl, B6.out⟩
end Go.Proofs.YtdkedgedkgabnaaGreatDoor
namespace Go.Proofs.YtdkedgedkgabnaaGreatDoor
open Go.RowKit Go.Shelf Go.ChangeMaps
attribute [local go_sem] Oper.semAt_some
end Go.Proofs.YtdkedgedkgabnaaGreatDoor
namespace Go.Proofs.YtdkedgedkgabnaaGreatDoor
open Go.RowKit Go.Shelf Go.ChangeMaps
attribute [local go_sem] Oper.semAt_some
theorem zc_one {Z : List Z5} (h : ∀ z ∈ Z, ∃ a k c, z.2.2.1 = .slice a k c) : ∀ u ∈ zc Z, u.oneCell' = true := by
 induction Z with
 | nil => intro u hu; cases hu
 | cons z Z ih =>
  intro u hu
  simp only [zc, List.mem_cons] at hu
  rcases hu with rfl | rfl | rfl | rfl | hu
  ·rfl
  ·rfl
  ·obtain ⟨a, k, c, hz⟩ := h z (by simp)
   rw [hz]; rfl
  ·rfl
  ·exact ih (fun y hy => h y (by simp [hy])) u hu
theorem cells_new4 (w : World) (z : Z5) (e : Nat) : ∀ j u, (zc [z])[j]? = some u → (w.alloc (.cells #[.int .i64 z.1, .int .i64 z.2.1, z.2.2.1, .string z.2.2.2.2] e)).cell? ((⟨w.heap.size, 0, none⟩ : Addr).add j) = some u := by
 intro j u hu
 have h := heap_alloc_new w (.cells #[.int .i64 z.1, .int .i64 z.2.1, z.2.2.1, .string z.2.2.2.2] e)
 rw [addr_add, Nat.zero_add, cell_of_row _ _ _ _ _ _ h]
 simpa [zc] using hu
end Go.Proofs.YtdkedgedkgabnaaGreatDoor
namespace Go.Proofs.YtdkedgedkgabnaaGreatDoor
open Go.RowKit Go.ChangeMaps
end Go.Proofs.YtdkedgedkgabnaaGreatDoor
namespace Go.Proofs.YtdkedgedkgabnaaGreatDoor
open Go.RowKit Go.ChangeMaps
end Go.Proofs.YtdkedgedkgabnaaGreatDoor
namespace Go.Proofs.YtdkedgedkgabnaaGreatDoor
open Go.RowKit Go.ChangeMaps
end Go.Proofs.YtdkedgedkgabnaaGreatDoor
namespace Go.Proofs.YtdkedgedkgabnaaGreatDoor
open Go.RowKit Go.ChangeMaps
theorem OwZ.snoc {w w' : World} {B : Nat} {v v' : Value} {Z : List Z5} (hown : OwZ w B v Z) (z : Z5) (ho : Ow w B z.2.2.1 z.2.2.2.1) (hv : Dj v z.2.2.1) (hd : ∀ y ∈ Z, Dj y.2.2.1 z.2.2.1) (o : Obj)
  (hrow : w'.ownsRow B 78 4 v' (Z.length + 1) (zc Z ++ zc [z])) (hg : (w.alloc o).grownBy w' v.ownBlock) (hloc : v'.ownBlock = v.ownBlock ∨ v'.ownBlock = some (w.alloc o).heap.size) : OwZ w' B v' (Z ++ [z]) := by
 have hkeep : ∀ {x : Value} {l : List R3}, Ow w B x l → Dj v x → Ow w' B x l := fun hx hdx => by
  have h1 := hx.alloc o
  refine World.ownsRow.kept h1 hg ?_
  cases hxb : Value.ownBlock _ with
  | none => exact Or.inl rfl
  | some j => exact Or.inr (fun e => hdx j e.symm hxb)
 have hoff : ∀ {x : Value} {l : List R3}, Ow w B x l → Dj v x → Dj v' x := fun hx hdx j hj hj' => by
  rcases hloc with h | h
  ·exact hdx j (by rw [← h]; exact hj) hj'
  ·rw [h] at hj
   have := (hx.lt j hj').2
   simp at hj
   omega
 refine ⟨?_, fun y hy => ?_, fun y hy => ?_, ?_⟩
 ·rw [zc_app]; simpa using hrow
 ·rcases List.mem_append.1 hy with hy | hy
  ·exact hkeep (hown.each y hy) (hown.off y hy)
  ·simp at hy; subst hy; exact hkeep ho hv
 ·rcases List.mem_append.1 hy with hy | hy
  ·exact hoff (hown.each y hy) (hown.off y hy)
  ·simp at hy; subst hy; exact hoff ho hv
 ·rw [List.pairwise_append]
  refine ⟨hown.apart, by simp, ?_⟩
  intro x hx y hy
  simp at hy
  subst hy
  exact hd x hx
theorem z_one {z : Z5} {W : World} {B : Nat} (ho : Ow W B z.2.2.1 z.2.2.2.1) : ∀ u ∈ zc [z], u.oneCell' = true :=
 zc_one (fun y hy => by simp at hy; subst hy; obtain ⟨a, c, h, _⟩ := Ow.shape ho; exact ⟨a, _, c, h⟩)
theorem wpList_append_ml {ops : Array Oper} {rest : List Oper} {o : Oper} {a : Act} {w : World} {Q : Exit → Act → World → Prop} (hgd : o.guard = none) (s x : Operand)
  (hop : o.op = .call { callee := .builtin .append, args := #[s, x], argTypes := #[36, 36] })
  (B : Nat) (v : Value) (Z : List Z5) (hs : a.eval s = v) (z : Z5) (hown : OwZ w B v Z) (ho : Ow w B z.2.2.1 z.2.2.2.1) (hv : Dj v z.2.2.1) (hd : ∀ y ∈ Z, Dj y.2.2.1 z.2.2.1)
  (hx : a.eval x = .slice (some ⟨w.heap.size, 0, none⟩) 1 1) (hlen : Z.length ≤ 1048576) (hB : B ≤ w.heap.size)
  (hK : ∀ v' w', OwZ w' B v' (Z ++ [z]) → Below B w w' → (w.alloc (.cells #[.int .i64 z.1, .int .i64 z.2.1, z.2.2.1, .string z.2.2.2.2] 78)).grownBy w' v.ownBlock → (∀ j, v'.ownBlock = some j → v.ownBlock = some j ∨ w.heap.size ≤ j) → wpList Tryz.prog ops Q rest (a.put o.dst v') w') :
  wpList Tryz.prog ops Q (o :: rest) a (w.alloc (.cells #[.int .i64 z.1, .int .i64 z.2.1, z.2.2.1, .string z.2.2.2.2] 78)) := by
 obtain ⟨i0, hi, hz0, hz1, hz2⟩ := info_parts3 info_ml
 refine wpList_append_own_at _ hgd s x 36 hop B 78 i0 _ 4 56 Tryz.underlying36 hi hz0 hz1 hz2 rfl (by decide) v _ _ hs (hown.row.alloc _) ⟨w.heap.size, 0, none⟩ 1 1 (zc [z]) hx rfl (cells_new4 w z 78) (z_one ho) (by unfold maxLen; omega) (by omega) (by simp; omega) ?_
 intro v' w' h2 h3 h4 h5
 exact hK v' w' (hown.snoc z ho hv hd _ h2 h3 h5) (((Below.refl B w).alloc hB _).grown h3 (by simp; omega) (fun k hk => (hown.row.lt k hk).1)) h3 (fun j hj => by
   rcases h5 with h5 | h5
   · exact .inl (by rw [← h5]; exact hj)
   · rw [h5] at hj; simp at hj; exact .inr (by omega))
theorem Is.all {lo hi : Nat} {W : World} {ad : Addr} {G : List Int} (h : Is lo hi W (some ad) G) : ∀ j u, (G.map (Value.int .i64))[j]? = some u → W.cell? (ad.add j) = some u := by
 intro j u hu
 have hj : j < G.length := by have := (List.getElem?_eq_some_iff.1 hu).1; simpa using this
 obtain ⟨k, o, h1, _, _, hc⟩ := h.2 j hj
 simp only [Option.some.injEq] at h1
 subst h1
 rw [addr_add, hc]
 rw [List.getElem?_map, List.getElem?_eq_getElem hj] at hu
 simpa using hu
theorem ownI_empty (W : World) (B : Nat) (hB : B ≤ W.heap.size) : OwI (W.alloc (.cells #[] 3)) B (.slice (some ⟨W.heap.size, 0, none⟩) 0 0) [] :=
 World.ownsRow_lit (base := B) (e := 3) (size := 1) W #[] 0 hB (by unfold maxLen; omega) rfl
theorem info_int : (Tryz.prog.info? 3).map (fun i => (i.zero, i.size, i.bytes)) = some (some (.int .i64 0), 1, 8) := by kernel_rfl
end Go.Proofs.YtdkedgedkgabnaaGreatDoor
namespace Go.Proofs.YtdkedgedkgabnaaGreatDoor
open Go.RowKit Go.ChangeMaps
end Go.Proofs.YtdkedgedkgabnaaGreatDoor
namespace Go.Proofs.YtdkedgedkgabnaaGreatDoor
open Go.RowKit Go.ChangeMaps
theorem mid_set {P : List Z5} {x z : Z5} {C : List Z5} : (P ++ x :: C).set P.length z = P ++ z :: C := by
 rw [List.set_append_right _ _ (Nat.le_refl _)]; simp
theorem dropc {X : List Z5} {i : Nat} (h : i < X.length) : X.drop i = X[i] :: X.drop (i + 1) := List.drop_eq_getElem_cons h
end Go.Proofs.YtdkedgedkgabnaaGreatDoor
namespace Go.Proofs.YtdkedgedkgabnaaGreatDoor
open Go.RowKit Go.ChangeMaps
end Go.Proofs.YtdkedgedkgabnaaGreatDoor
