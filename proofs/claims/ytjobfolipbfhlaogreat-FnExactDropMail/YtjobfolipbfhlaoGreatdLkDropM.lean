/- LkDropM. -/

import Derived.Test.YtjobfolipbfhlaoGreatdOpenS
namespace Go.Proofs.YtjobfolipbfhlaoGreat
open Go.RowKit Go.ChangeMaps

/-- What comes of DropMail, in letters. -/
theorem pairDropM (y tm : Int) (bn gn : Nat) (S : List X7) (G : List Int) (box gid : Int) (hl : S.length = bn) (hn : bn ≤ 1048576) (hsb : Sb S) (hgl : G.length = gn) (hgn : gn ≤ 1048576) (hsz : szB S + gn ≤ 1048576) :
    ∃ (p : Bool) (tn : Int) (K : List X7) (H : List Int) (N M : Nat), (K.length = N ∧ N ≤ 1048576 ∧ Sb K ∧ kx 1 K ≤ 6291456) ∧ (H.length = M ∧ M ≤ 1048576) ∧ Hid (∀ (lo hh lo' hh' km kg : Nat) (w : World), Bs lo hh w (some ⟨km, 0, none⟩) S → Is lo' hh' w (some ⟨kg, 0, none⟩) G → Calls Tryz.prog 21 #[.agg #[.int .i64 y, .int .i64 tm, .slice (some ⟨km, 0, none⟩) bn bn, .slice (some ⟨kg, 0, none⟩) gn gn], .int .i64 box, .int .i64 gid] w fun e w' => ∃ a c a' c', e = .returned (.tuple #[.agg #[.int .i64 y, .int .i64 tn, .slice a N c, .slice a' M c'], .bool p]) ∧ OwT w' w.heap.size (.slice a N c) (.slice a' M c') K H ∧ Below w.heap.size w w') ∧ Hid (∀ (lo hh lo' hh' km kg : Nat) (w : World), Bs lo hh w (some ⟨km, 0, none⟩) S → Is lo' hh' w (some ⟨kg, 0, none⟩) G → Calls Tryz.prog 22 #[.agg #[.int .i64 y, .int .i64 tm, .slice (some ⟨km, 0, none⟩) bn bn, .slice (some ⟨kg, 0, none⟩) gn gn], .int .i64 box, .int .i64 gid] w fun e w' => ∃ a c a' c', e = .returned (.tuple #[.agg #[.int .i64 y, .int .i64 tn, .slice a N c, .slice a' M c'], .bool p]) ∧ OwT w' w.heap.size (.slice a N c) (.slice a' M c') K H ∧ Below w.heap.size w w') := by
  obtain ⟨p, hp⟩ : ∃ p, (sOk y tm S G && ((chB S box (dmK gid) (dmF gid)).1 && sOk y (tm) (chB S box (dmK gid) (dmF gid)).2 G)) = p := ⟨_, rfl⟩
  have hsm := pik_small (y := y) (tm1 := tm) (S := S) (S1 := (chB S box (dmK gid) (dmF gid)).2) (G := G) (G1 := G) p (fun h => by
    rw [h] at hp
    simp only [Bool.and_eq_true] at hp
    exact hp.2.2) hsb (by omega)
  refine ⟨p, pik p (tm) tm, pik p (chB S box (dmK gid) (dmF gid)).2 S, pik p G G, _, _, ⟨rfl, hsm.1⟩, ⟨rfl, hsm.2⟩, ?_, ?_⟩
  · intro lo hh lo' hh' km kg w hm hs
    refine (specDropM_any lo hh lo' hh' y tm _ bn bn _ gn gn S G box gid w hl hn hsb hm hgl hgn hs (by intro h; cases h) p (dropM_right.trans hp)).mono ?_
    rintro e w' ⟨bv, gv, rfl, ho, hb⟩
    obtain ⟨a, c, a', c', rfl, rfl⟩ := ho.shape
    exact ⟨a, c, a', c', rfl, ho, hb⟩
  · intro lo hh lo' hh' km kg w hm hs
    refine (implDropM_any lo hh lo' hh' y tm _ bn bn _ gn gn S G box gid w hl hn hsb hm (by intro h; cases h) hgl hgn hs (by intro h; cases h) p hp).mono ?_
    rintro e w' ⟨bv, gv, rfl, ho, hb⟩
    obtain ⟨a, c, a', c', rfl, rfl⟩ := ho.shape
    exact ⟨a, c, a', c', rfl, ho, hb⟩

set_option maxHeartbeats 8000000 in
set_option maxRecDepth 100000 in
theorem lawDropMS_any (y tm : Int) (ba : Option Addr) (bn bc : Nat) (ga : Option Addr) (gn gc : Nat) (S : List X7) (G : List Int) (box gid : Int) (w : World) (hl : S.length = bn) (hn : (bn : Int) ≤ 9223372036854775807) (hft : FitB S) (hm : Bs 0 w.heap.size w ba S) (hgl : G.length = gn) (hgn : (gn : Int) ≤ 9223372036854775807) (hs : Is 0 w.heap.size w ga G) :
    Calls Tryz.prog 7 #[.agg #[.int .i64 y, .int .i64 tm, .slice ba bn bc, .slice ga gn gc], .int .i64 box, .int .i64 gid] w fun e w' => e = .returned (.bool true) ∧ Below w.heap.size w w' := by
  obtain ⟨W0, hW0⟩ : ∃ W0, w.alloc (.cells #[.int .i64 y, .int .i64 tm, .slice ba bn bc, .slice ga gn gc] 25) = W0 := ⟨_, rfl⟩
  have a0 : Sx W0 w.heap.size 25 y tm (.slice ba bn bc) (.slice ga gn gc) := by subst hW0; exact Sx.new w _ y tm _ _
  have b0 : Below w.heap.size w W0 := by subst hW0; exact bpush (bre _) _
  have c0 := a0.cells
  have A0 := hid a0
  have B0 := hid b0
  have HM := hid hm
  have HS' := hid hs
  have HF := hid hft
  have HL := hid hl
  have HGL := hid hgl
  have HN := hid hn
  have HGN := hid hgn
  clear a0 b0 hm hs hft hl hgl hn hgn
  go_enter Tryz.func7, Tryz.ntmps7
  go_wp2_with fail
  clear hW0
  refine (szStore_any 0 w.heap.size y tm ba bn bc ga gn gc S _ HL.out HN.out HF.out (HM.out.later B0.out) HGN.out).mono ?_; rintro e w1 ⟨rfl, hb1⟩
  have A0 := hid (A0.out.later hb1)
  have B1 := hid (btr B0.out hb1)
  clear hb1 B0 c0
  by_cases hbig : (1048576 : Int) < ((szB S + gn : Nat) : Int)
  · rw [szr_over hbig]
    clear hbig
    go_wp2
    go_ret
    exact ⟨rfl, B1.out⟩
  obtain ⟨s2, s3, s4⟩ := smallT hbig
  have hsz : szB S + gn ≤ 1048576 := by omega
  obtain ⟨q, hq⟩ : ∃ q, szr 1048576 (szB S + gn) = q := ⟨_, rfl⟩
  have h0 : ¬ q < 0 := by rw [← hq, szr_fits hbig]; omega
  rw [hq]
  obtain ⟨p, tn, K, H, N, M, ⟨k1, k2, k3, k4⟩, ⟨k5, k6⟩, CSP, CIM⟩ := pairDropM y tm bn gn S G box gid HL.out (by rw [← HL.out]; exact s2) s4 HGL.out s3 hsz
  have S2 : Hid (bn ≤ 1048576) := by show _ ≤ _; rw [← HL.out]; exact s2
  have S3 := hid s3
  have S4 := hid s4
  have SF : Hid (kx 1 S ≤ 6291456) := by show _ ≤ _; have := kx_sz 1 S; omega
  have K1 := hid k1
  have K2 := hid k2
  have K3 := hid k3
  have K4 := hid k4
  have K5 := hid k5
  have K6 := hid k6
  clear hq hbig s2 s3 s4 hsz k1 k2 k3 k4 k5 k6
  have xx : (p != p) = false := by cases p <;> rfl
  have HMw1 := hid (HM.out.later B1.out)
  have HIw1 := hid (HS'.out.later B1.out)
  have e9 := A0.out.cells
  go_wp2_with fail
  refine (toStore_any 0 w.heap.size 0 w.heap.size y tm ba bn bc ga gn gc S G _ HL.out S2.out S4.out HMw1.out HGL.out S3.out HIw1.out).mono ?_; rintro e v1 ⟨km, kg, rfl, how, hb1⟩
  have P1 := hid how.reads.2.2.1
  have P2 := hid how.reads.2.2.2
  clear how e9
  go_wp2_with fail
  refine (CSP.out _ _ _ _ _ _ _ P1.out P2.out).mono ?_; rintro e v3 ⟨av, cv, av', cv', rfl, ho3, hb3⟩
  have hb4 := btr hb1 hb3
  have hle : w1.heap.size ≤ v1.heap.size := hb1.size
  clear P1 P2 hb1 hb3
  obtain ⟨kv, hkv⟩ : ∃ kv, v3.heap.size = kv := ⟨_, rfl⟩
  obtain ⟨w2, hw2⟩ : ∃ w2, v3.alloc (.cells #[.int .i64 y, .int .i64 tn, .slice av N cv, .slice av' M cv'] 29) = w2 := ⟨_, rfl⟩
  have hv : AnsS w1 w2 kv y tn (.slice av N cv) (.slice av' M cv') K H := by rw [← hw2, ← hkv]; exact anss_last ho3 hle hb4
  clear ho3 hb4 hle
  obtain ⟨BV, HV, ov, bv, tv, dv⟩ := hv.own
  have Q1 := hid tv
  have Q2 : Hid (kv < w2.heap.size) := hv.box.lt
  have Q6 : Hid (w.heap.size < w1.heap.size) := A0.out.lt
  have Q7 : Hid (w1.heap.size ≤ w2.heap.size) := hv.bel.size
  have V2 := hid hv.box
  have OV2 := hid ov
  have hb := hv.bel
  have A2 := hid (A0.out.later hb)
  have B2 := hid (btr B1.out hb)
  have e0 := A2.out.cells
  clear hb hv ov bv tv dv A0 B1 HMw1 HIw1
  go_wp2_with fail
  clear hw2 hkv
  refine (toStore_any 0 w.heap.size 0 w.heap.size y tm ba bn bc ga gn gc S G _ HL.out S2.out S4.out (HM.out.later B2.out) HGL.out S3.out (HS'.out.later B2.out)).mono ?_; rintro e w4 ⟨km4, kg4, rfl, how, hb4⟩
  obtain ⟨W5, hW5⟩ : ∃ W5, w4.alloc (.cells #[.int .i64 y, .int .i64 tm, .slice (some ⟨km4, 0, none⟩) bn bn, .slice (some ⟨kg4, 0, none⟩) gn gn] 29) = W5 := ⟨_, rfl⟩
  have n5 : Below w4.heap.size w4 W5 := by rw [← hW5]; exact bpush (bre _) _
  have x5 : Sx W5 w4.heap.size 29 y tm (.slice (some ⟨km4, 0, none⟩) bn bn) (.slice (some ⟨kg4, 0, none⟩) gn gn) := by rw [← hW5]; exact Sx.new _ _ _ _ _ _
  have hb5 := btr hb4 n5
  have X5 := hid x5
  have OX5 := hid (how.u.later n5)
  have Q3 : Hid (w2.heap.size ≤ w4.heap.size) := hb4.size
  have Q4 : Hid (w4.heap.size < W5.heap.size) := x5.lt
  have A5 := hid (A2.out.later hb5)
  have B5 := hid (btr B2.out hb5)
  have V5 := hid (V2.out.later hb5)
  have OV5 := hid (OV2.out.later hb5)
  have PM := hid OX5.out.t.reads.2.2.1
  have PI := hid OX5.out.t.reads.2.2.2
  clear e0 hb4 n5 x5 hb5 how A2 B2 V2 OV2
  have e9 := X5.out.cells
  go_wp2_with fail
  clear hW5
  refine (CIM.out _ _ _ _ _ _ _ PM.out PI.out).mono ?_; rintro e v3 ⟨ag, cg, ag', cg', rfl, ho3, hb4⟩
  have hle : W5.heap.size ≤ W5.heap.size := Nat.le_refl _
  clear e9
  obtain ⟨kg, hkg⟩ : ∃ kg, v3.heap.size = kg := ⟨_, rfl⟩
  obtain ⟨w6, hw6⟩ : ∃ w6, v3.alloc (.cells #[.int .i64 y, .int .i64 tn, .slice ag N cg, .slice ag' M cg'] 29) = w6 := ⟨_, rfl⟩
  have hv : AnsS W5 w6 kg y tn (.slice ag N cg) (.slice ag' M cg') K H := by rw [← hw6, ← hkg]; exact anss_last ho3 hle hb4
  clear ho3 hb4 hle
  obtain ⟨BG, HG, ov, bv, tv, dv⟩ := hv.own
  have Q5 := hid bv
  have Q8 := hid dv
  have Q9 : Hid (W5.heap.size ≤ kg) := hv.le
  have Gb6 := hid hv.box
  have OG6 := hid ov
  have hb := hv.bel
  have A6 := hid (A5.out.later hb)
  have B6 := hid (btr B5.out hb)
  have V6 := hid (V5.out.later hb)
  have OV6 := hid (OV5.out.later hb)
  have X6 := hid (X5.out.later hb)
  have OX6 := hid (OX5.out.later hb)
  clear hb hv ov bv tv dv A5 B5 V5 OV5 X5 OX5 PM PI
  have e0 := Gb6.out.cells
  have e2 := V6.out.cells
  go_wp2_with fail
  clear hw6 hkg
  refine (eqStore_any _ _ _ _ _ _ _ _ y tn _ N _ _ M _ _ _ _ _ K H _ K1.out K2.out K3.out OG6.out.t.reads.2.2.1 OV6.out.t.reads.2.2.1 K5.out K6.out OG6.out.t.reads.2.2.2 OV6.out.t.reads.2.2.2).mono ?_; rintro e w7 ⟨rfl, hb⟩
  clear e0 e2
  have A7 := hid (A6.out.later hb)
  have B7 := hid (btr B6.out hb)
  have V7 := hid (V6.out.later hb)
  have OV7 := hid (OV6.out.later hb)
  have X7 := hid (X6.out.later hb)
  have OX7 := hid (OX6.out.later hb)
  have Gb7 := hid (Gb6.out.later hb)
  have OG7 := hid (OG6.out.later hb)
  clear A6 B6 V6 OV6 X6 OX6 Gb6 OG6
  clear hb
  have HSX : Hid (∀ W, Below w7.heap.size w7 W → (W.cell? ⟨w4.heap.size, 0, none⟩ = some (.int .i64 y) ∧ W.cell? ⟨w4.heap.size, 1, none⟩ = some (.int .i64 tm) ∧ W.cell? ⟨w4.heap.size, 2, none⟩ = some (.slice (some ⟨km4, 0, none⟩) bn bn) ∧ W.cell? ⟨w4.heap.size, 3, none⟩ = some (.slice (some ⟨kg4, 0, none⟩) gn gn)) ∧ (W.cell? ⟨w.heap.size, 0, none⟩ = some (.int .i64 y) ∧ W.cell? ⟨w.heap.size, 1, none⟩ = some (.int .i64 tm) ∧ W.cell? ⟨w.heap.size, 2, none⟩ = some (.slice ba bn bc) ∧ W.cell? ⟨w.heap.size, 3, none⟩ = some (.slice ga gn gc))) :=
    fun W h => ⟨(X7.out.later h).cells, (A7.out.later h).cells⟩
  have PM := hid OX7.out.t.reads.2.2.1
  have PI := hid OX7.out.t.reads.2.2.2
  go_wp2_with fail
  go_region_held3 (fun W => (W.cell? ⟨w4.heap.size, 0, none⟩ = some (.int .i64 y) ∧ W.cell? ⟨w4.heap.size, 1, none⟩ = some (.int .i64 tm) ∧ W.cell? ⟨w4.heap.size, 2, none⟩ = some (.slice (some ⟨km4, 0, none⟩) bn bn) ∧ W.cell? ⟨w4.heap.size, 3, none⟩ = some (.slice (some ⟨kg4, 0, none⟩) gn gn)) ∧ (W.cell? ⟨w.heap.size, 0, none⟩ = some (.int .i64 y) ∧ W.cell? ⟨w.heap.size, 1, none⟩ = some (.int .i64 tm) ∧ W.cell? ⟨w.heap.size, 2, none⟩ = some (.slice ba bn bc) ∧ W.cell? ⟨w.heap.size, 3, none⟩ = some (.slice ga gn gc)))
    ((refine HSX.out _ ?_; repeat (first | exact bdr (bre _) | exact C8.out | exact D8.out | refine btr ?_ (by assumption))))
    ((first
      | (go_at_call 10; refine (toStore_any 0 w.heap.size 0 w.heap.size y tm ba bn bc ga gn gc S G _ HL.out S2.out S4.out (HM.out.later (btr B7.out (bdr (bre _)))) HGL.out S3.out (HS'.out.later (btr B7.out (bdr (bre _))))).mono ?_; rintro e w8 ⟨km8, kg8, rfl, how8, hb8⟩; have R8 := hid how8; have C8 : Hid (Below w7.heap.size w7 w8) := btr (bdr (bre _)) hb8; clear how8 hb8)
      | (go_at_call 12; refine (eqStore_any _ _ _ _ _ _ _ _ y tm _ bn _ _ gn _ _ _ _ _ S G w8 HL.out S2.out S4.out (PM.out.later C8.out) R8.out.reads.2.2.1 HGL.out S3.out (PI.out.later C8.out) R8.out.reads.2.2.2).mono ?_; rintro e w9 ⟨rfl, hb9⟩; have D8 : Hid (Below w7.heap.size w7 w9) := btr C8.out hb9; clear hb9)))
  have hb := D8.out
  clear PM PI HSX C8 D8 R8
  have A8 := hid (A7.out.later hb)
  have B8 := hid (btr B7.out hb)
  have V8 := hid (V7.out.later hb)
  have OV8 := hid (OV7.out.later hb)
  have X8 := hid (X7.out.later hb)
  have OX8 := hid (OX7.out.later hb)
  have Gb8 := hid (Gb7.out.later hb)
  have OG8 := hid (OG7.out.later hb)
  clear A7 B7 V7 OV7 X7 OX7 Gb7 OG7
  clear hb
  have e0 := X8.out.cells
  go_wp2_with fail
  refine (markStore_any w2.heap.size w4.heap.size y tm _ bn bn _ gn gn S G _ OX8.out HL.out S2.out (sb_smx S4.out) HGL.out S3.out SF.out).mono ?_; rintro e w10 ⟨rfl, -, hc⟩
  have q1 := Q1.out
  have q2 := Q2.out
  have q3 := Q3.out
  have q4 := Q4.out
  have q5 := Q5.out
  have q6 := Q6.out
  have q7 := Q7.out
  have q9 := Q9.out
  have A9 := hid (A8.out.chg hc (by omega))
  have V9 := hid (V8.out.chg hc (by omega))
  have Gb9 := hid (Gb8.out.chg hc (by omega))
  have OV9 := hid (OV8.out.chg hc (by intro j h1 h2; omega))
  have OG9 := hid (OG8.out.chg hc (by intro j h1 h2; omega))
  have B9 : Hid (Below w.heap.size w w10) := B8.out.trans (hc.below B8.out.size (by intro j h; omega))
  obtain ⟨q0, hq0⟩ : ∃ q0 : Nat, kx 1 S + gn = q0 := ⟨_, rfl⟩
  rw [hq0]
  have hq1 : ¬ ((q0 : Nat) : Int) < 0 := by omega
  clear e0 hc q1 q2 q3 q4 q5 q6 q7 q9 hq0 A8 V8 Gb8 OV8 OG8 B8 X8 OX8
  have e0 := Gb9.out.cells
  have e2 := V9.out.cells
  go_wp2_with fail
  refine (eqStore_any _ _ _ _ _ _ _ _ y tn _ N _ _ M _ _ _ _ _ K H _ K1.out K2.out K3.out OG9.out.t.reads.2.2.1 OV9.out.t.reads.2.2.1 K5.out K6.out OG9.out.t.reads.2.2.2 OV9.out.t.reads.2.2.2).mono ?_; rintro e w11 ⟨rfl, hb⟩
  clear e0 e2
  have A10 := hid (A9.out.later hb)
  have B10 := hid (btr B9.out hb)
  have V10 := hid (V9.out.later hb)
  have OV10 := hid (OV9.out.later hb)
  have Gb10 := hid (Gb9.out.later hb)
  have OG10 := hid (OG9.out.later hb)
  clear A9 B9 V9 OV9 Gb9 OG9
  clear hb
  have e0 := Gb10.out.cells
  go_wp2_with fail
  refine (markStore_any BG HG y tn _ N _ _ M _ K H _ OG10.out K1.out K2.out (sb_smx K3.out) K5.out K6.out K4.out).mono ?_; rintro e w12 ⟨rfl, hmk, hc⟩
  have q1 := Q1.out
  have q2 := Q2.out
  have q3 := Q3.out
  have q4 := Q4.out
  have q5 := Q5.out
  have q6 := Q6.out
  have q7 := Q7.out
  have q8 := Q8.out
  have A11 := hid (A10.out.chg hc (by omega))
  have V11 := hid (V10.out.chg hc (by omega))
  have Gb11 := hid (Gb10.out.chg hc (by omega))
  have OV11 := hid (OV10.out.chg hc (by intro j h1 h2; omega))
  have MG11 := hid hmk
  have B11 : Hid (Below w.heap.size w w12) := B10.out.trans (hc.below B10.out.size (by intro j h; omega))
  obtain ⟨qm, hqm⟩ : ∃ qm : Nat, kx 1 K + M = qm := ⟨_, rfl⟩
  rw [hqm]
  have HQM := hid hqm
  have hm1 : ¬ ((qm : Nat) : Int) < 0 := by omega
  have hm2 : (((qm : Nat) : Int) != ((qm : Nat) : Int)) = false := by simp
  clear e0 hc hmk q1 q2 q3 q4 q5 q6 q7 q8 hqm A10 V10 Gb10 OV10 OG10 B10 hq1
  have e0 := Gb11.out.cells
  go_wp2_with fail
  refine (heldStore_any _ _ y tn _ N _ _ M _ K _ MG11.out K1.out K2.out (sb_smx K3.out) K6.out K4.out).mono ?_; rintro e w13 ⟨rfl, hb⟩
  rw [HQM.out]
  clear e0
  have A12 := hid (A11.out.later hb)
  have B12 := hid (btr B11.out hb)
  have V12 := hid (V11.out.later hb)
  have OV12 := hid (OV11.out.later hb)
  have Gb12 := hid (Gb11.out.later hb)
  have MG12 := hid (MG11.out.later hb)
  clear A11 B11 V11 OV11 Gb11 MG11
  clear hb
  have HMw13 := hid (HM.out.later B12.out)
  have HIw13 := hid (HS'.out.later B12.out)
  have e9 := A12.out.cells
  go_wp2_with fail
  refine (toStore_any 0 w.heap.size 0 w.heap.size y tm ba bn bc ga gn gc S G _ HL.out S2.out S4.out HMw13.out HGL.out S3.out HIw13.out).mono ?_; rintro e v1 ⟨km, kg, rfl, how, hb1⟩
  have P1 := hid how.reads.2.2.1
  have P2 := hid how.reads.2.2.2
  clear how e9
  go_wp2_with fail
  refine (CIM.out _ _ _ _ _ _ _ P1.out P2.out).mono ?_; rintro e v3 ⟨ah, ch, ah', ch', rfl, ho3, hb3⟩
  have hb4 := btr hb1 hb3
  have hle : w13.heap.size ≤ v1.heap.size := hb1.size
  clear P1 P2 hb1 hb3
  obtain ⟨kh, hkh⟩ : ∃ kh, v3.heap.size = kh := ⟨_, rfl⟩
  obtain ⟨w14, hw14⟩ : ∃ w14, v3.alloc (.cells #[.int .i64 y, .int .i64 tn, .slice ah N ch, .slice ah' M ch'] 29) = w14 := ⟨_, rfl⟩
  have hv : AnsS w13 w14 kh y tn (.slice ah N ch) (.slice ah' M ch') K H := by rw [← hw14, ← hkh]; exact anss_last ho3 hle hb4
  clear ho3 hb4 hle
  obtain ⟨BH, HH, ov, bv, tv, dv⟩ := hv.own
  have hb := hv.bel
  have A13 := hid (A12.out.later hb)
  have B13 := hid (btr B12.out hb)
  have V13 := hid (V12.out.later hb)
  have OV13 := hid (OV12.out.later hb)
  have Gb13 := hid (Gb12.out.later hb)
  have MG13 := hid (MG12.out.later hb)
  clear A12 B12 V12 OV12 Gb12 MG12
  have Hb13 := hid hv.box
  have OH13 := hid ov
  clear hb hv ov bv tv dv HMw13 HIw13
  have e0 := Hb13.out.cells
  have e2 := V13.out.cells
  go_wp2_with fail
  clear hw14 hkh
  refine (eqStore_any _ _ _ _ _ _ _ _ y tn _ N _ _ M _ _ _ _ _ K H _ K1.out K2.out K3.out OH13.out.t.reads.2.2.1 OV13.out.t.reads.2.2.1 K5.out K6.out OH13.out.t.reads.2.2.2 OV13.out.t.reads.2.2.2).mono ?_; rintro e w15 ⟨rfl, hb⟩
  clear e0 e2
  have A14 := hid (A13.out.later hb)
  have B14 := hid (btr B13.out hb)
  have V14 := hid (V13.out.later hb)
  have OV14 := hid (OV13.out.later hb)
  have Gb14 := hid (Gb13.out.later hb)
  have MG14 := hid (MG13.out.later hb)
  clear A13 B13 V13 OV13 Gb13 MG13
  clear hb
  have e0 := Gb14.out.cells
  go_wp2_with fail
  refine (heldStore_any _ _ y tn _ N _ _ M _ K _ MG14.out K1.out K2.out (sb_smx K3.out) K6.out K4.out).mono ?_; rintro e w16 ⟨rfl, hb⟩
  rw [HQM.out]
  clear e0
  go_wp2
  go_ret
  exact ⟨rfl, btr B14.out hb⟩
end Go.Proofs.YtjobfolipbfhlaoGreat

