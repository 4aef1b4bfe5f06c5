/- What is said of a store: the walk. -/
import Derived.Test.YtanahkieondboaaDoorSdm
namespace Go.Proofs.YtanahkieondboaaDoor
open Go.RowKit Go.ChangeMaps

set_option maxHeartbeats 16000000 in
set_option maxRecDepth 100000 in
theorem specSaidOf_any (l1 h1 : Nat) (y tm : Int) (ba : Option Addr) (bn bc : Nat) (ga : Option Addr) (gn gc : Nat) (S : List X7) (G : List Int) (w : World) (ta : Tg w l1 h1 ba bn bc ga gn gc S G) (hr : ∀ x ∈ S, x.2.2.2.2.1 ≤ 9223372036854775807 ∧ ∀ m ∈ x.2.2.2.2.2.1, m.2.1 ≤ 9223372036854775807) :
    Calls Tryd.prog 8 #[.agg #[.int .i64 y, .int .i64 tm, .slice ba bn bc, .slice ga gn gc]] w fun e w' => e = .returned (.string (sdo S)) ∧ Below w.heap.size w w' := by
  obtain ⟨W0, hW0⟩ : ∃ W0, w.alloc (.cells #[.int .i64 y, .int .i64 tm, .slice ba bn bc, .slice ga gn gc] 32) = W0 := ⟨_, rfl⟩
  have a0 : Sx W0 w.heap.size 32 y tm (.slice ba bn bc) (.slice ga gn gc) := by subst hW0; exact Sx.new w _ y tm _ _
  have b0 : Below w.heap.size w W0 := by subst hW0; exact bpush (bre _) _
  have TA := hid (ta.later b0)
  have A0 := hid a0
  have B0 := hid b0
  have HRR := hid hr
  have hbn := ta.most
  clear ta a0 b0 hr
  go_enter Tryd.func8, Tryd.ntmps8
  go_wp2
  clear hW0
  go_loopw [3, 4] (fun tv iv wr => ∃ i : Nat, i ≤ bn ∧ iv = .int .i64 (i : Int) ∧ tv = .string (sdo (S.take i)) ∧ Hid ((sdo (S.take i)).size ≤ i * 43000000000) ∧ Below W0.heap.size W0 wr) (fun _ iv _ => bn - (intOf iv).toNat)
  case atStart => exact ⟨0, Nat.zero_le _, rfl, rfl, hid (by show (0 : Nat) ≤ _; omega), bre _⟩
  case round =>
    obtain ⟨i, hi, rfl, rfl, HTS, hb⟩ := hrel
    have HB := hid hb
    have ca := (A0.out.later hb).cells
    clear hb
    by_cases hlt : i < bn
    · have hil : i < S.length := by rw [TA.out.len]; exact hlt
      obtain ⟨k1, o1, ma1, mc1, ga1, gc1, hk1, hkk1, d1, hms1, -, -, -⟩ := (TA.out.boxes.later HB.out).at hil
      have hmem := TA.out.sb S[i] (List.getElem_mem hil)
      have hrr := HRR.out S[i] (List.getElem_mem hil)
      obtain ⟨q, hq⟩ : ∃ q, S[i] = q := ⟨_, rfl⟩
      obtain ⟨g1, nm1, t1, b1, nx1, L1, G1⟩ := q
      rw [hq] at d1 hms1 hmem hrr
      dsimp only at d1 hms1 hmem hrr
      obtain ⟨m1, hm1⟩ : ∃ m, L1.length = m := ⟨_, rfl⟩
      obtain ⟨n1, hn1⟩ : ∃ m, G1.length = m := ⟨_, rfl⟩
      rw [hm1, hn1] at d1
      rw [hm1, hn1] at hmem
      obtain ⟨t0, ht0⟩ : ∃ t, sdo (S.take i) = t := ⟨_, rfl⟩
      rw [ht0] at HTS ⊢
      have HM1 := hid hm1
      have HNM := hid hmem.1
      have HMM := hid hmem.2.1
      have HSM := hid hmem.2.2.1
      have HNX := hid hrr.1
      have HUU := hid hrr.2
      have HQ := hid hq
      have HT0 := hid ht0
      have hI : (0 : Int) ≤ (i : Int) ∧ (i : Int) < (bn : Int) := by omega
      have htz := HTS.out
      have hnz := hmem.1
      have hmm := hmem.2.1
      subst hk1
      unfold C7 at d1
      have XB := hid (Bx.new wr 43 g1 nm1 t1 b1 nx1 (.slice ma1 m1 mc1) (.slice ga1 n1 gc1))
      have CB := (Bx.new wr 43 g1 nm1 t1 b1 nx1 (.slice ma1 m1 mc1) (.slice ga1 n1 gc1)).cells
      clear hm1 hn1 hmem hrr hq ht0
      go_wp2_with fail
      clear d1 ca CB
      obtain ⟨W5, hW5⟩ : ∃ W, wr.alloc (.cells #[.int .i64 g1, .string nm1, .int .i64 t1, .int .i64 b1, .int .i64 nx1, .slice ma1 m1 mc1, .slice ga1 n1 gc1] 43) = W := ⟨_, rfl⟩
      obtain ⟨kb, hkb⟩ : ∃ k, wr.heap.size = k := ⟨_, rfl⟩
      have B5 : Hid (Below wr.heap.size wr W5) := hid (by rw [← hW5]; exact bpush (bre _) _)
      have HMS := hid (hms1.later B5.out)
      rw [hW5, hkb] at XB
      rw [hW5, hkb]
      have HBX := XB
      clear hW5 hkb hms1 XB
      have q1 : (9223372036854775807 < t0.size + nm1.size) = False := eq_false (by omega)
      have q2 : (9223372036854775807 < t0.size + nm1.size + 1) = False := eq_false (by omega)
      have HSS : Hid (∀ W, Below W5.heap.size W5 W → W.cell? ⟨kb, 1, none⟩ = some (.string nm1) ∧ W.cell? ⟨kb, 4, none⟩ = some (.int .i64 nx1)) := hid (fun W hbW => ⟨(HBX.out.later hbW).cells.2.1, (HBX.out.later hbW).cells.2.2.2.2.1⟩)
      refine wp_region_noPanic ?_
      refine wp_region_held_drew (S := (fun W => W.cell? ⟨kb, 1, none⟩ = some (.string nm1) ∧ W.cell? ⟨kb, 4, none⟩ = some (.int .i64 nx1))) (by kernel_rfl) (HSS.out _ (bdr (bre _))) (fun hHeld => ?_)
      refine tk 0 ?_
      refine tk 1 ?_
      refine tk 2 ?_
      refine tk 5 ?_
      refine tk 6 ?_
      refine tk 3 ?_
      refine tk 4 ?_
      clear hHeld
      refine ry 7 (fun K hK => ?_)
      go_simp
      refine (l09Num_any nx1 _ HNX.out).mono ?_; rintro e w6 ⟨rfl, hb6⟩
      obtain ⟨s1, hs1⟩ : ∃ s, nmb nx1 = s := ⟨_, rfl⟩
      rw [hs1]
      have hz1 : s1.size ≤ 19 := by rw [← hs1]; exact nmb_size nx1 HNX.out
      have HS1 := hid hs1
      have B6 := hid (show Below W5.heap.size W5 w6 from btr (bdr (bre _)) hb6)
      clear hb6 hs1
      go_wp2_with fail
      refine hK.out _ _ (HSS.out _ B6.out) (fun hHeld => ?_)
      clear hK K
      try simp only [Act.put, List.setIfInBounds_toArray, List.set_cons_zero, List.set_cons_succ]
      have q3 : (9223372036854775807 < t0.size + nm1.size + 1 + s1.size) = False := eq_false (by omega)
      have q4 : (9223372036854775807 < t0.size + nm1.size + 1 + s1.size + 1) = False := eq_false (by omega)
      refine tk 8 ?_
      refine tk 9 ?_
      refine tk 10 ?_
      refine wpAnyH_done (by kernel_rfl) ?_ _
      refine NoPanic.normal ?_
      clear hHeld
      clear q1 q2 q3 q4
      obtain ⟨th, hth⟩ : ∃ t, (((t0 ++ nm1) ++ ⟨#[32]⟩) ++ s1) ++ ⟨#[10]⟩ = t := ⟨_, rfl⟩
      have HTH : Hid (sdh t0 (g1, nm1, t1, b1, nx1, L1, G1) = th) := hid (by unfold sdh; dsimp only; rw [HS1.out, hth])
      have HTHZ : Hid (th.size ≤ i * 43000000000 + 1048576 + 40) := hid (by
        have h9 := sdh_size t0 (g1, nm1, t1, b1, nx1, L1, G1) HNX.out
        rw [HTH.out] at h9
        dsimp only at h9
        omega)
      rw [hth]
      replace HMS := hid (HMS.out.later B6.out)
      replace HBX := hid (HBX.out.later B6.out)
      replace HB := hid (btr HB.out (btr B5.out B6.out))
      clear hth HSS B5 B6 hz1 htz hnz
      go_wp2_with fail
      obtain ⟨W8, rfl⟩ : ∃ W, W = w6 := ⟨_, rfl⟩
      go_loopw [3, 6] (fun tv kv wr => ∃ k : Nat, k ≤ m1 ∧ kv = .int .i64 (k : Int) ∧ tv = .string ((L1.take k).foldl sdm th) ∧ Hid (((L1.take k).foldl sdm th).size ≤ i * 43000000000 + 1048576 + 40 + k * 40100) ∧ Bx wr kb 43 g1 nm1 t1 b1 nx1 (.slice ma1 m1 mc1) (.slice ga1 n1 gc1) ∧ Below W8.heap.size W8 wr) (fun _ kv _ => m1 - (intOf kv).toNat)
      case atStart => exact ⟨0, Nat.zero_le _, rfl, rfl, hid (by show th.size ≤ _; have := HTHZ.out; omega), HBX.out, bre _⟩
      case round =>
        obtain ⟨k, hk, rfl, rfl, HTZ, hbx, hb6⟩ := hrel
        replace HBX := hid hbx
        have HB6 := hid hb6
        obtain ⟨tt, htt⟩ : ∃ t, (L1.take k).foldl sdm th = t := ⟨_, rfl⟩
        rw [htt] at HTZ ⊢
        have HTT := hid htt
        have htz := HTZ.out
        clear hbx hb6 htt
        by_cases hlk : k < m1
        · have hkl : k < L1.length := by rw [HM1.out]; exact hlk
          obtain ⟨k2, o2, fa, fc, hka, hkk, ⟨d0, d1, d2, d3⟩, hrs, hf0⟩ := (HMS.out.later HB6.out).at hkl
          subst hka
          have hsm := HSM.out L1[k] (List.getElem_mem hkl)
          have hmu := HUU.out L1[k] (List.getElem_mem hkl)
          obtain ⟨mg, hmg⟩ : ∃ v, L1[k].1 = v := ⟨_, rfl⟩
          obtain ⟨mu, hmu1⟩ : ∃ v, L1[k].2.1 = v := ⟨_, rfl⟩
          obtain ⟨fl, hfl⟩ : ∃ v, L1[k].2.2.1 = v := ⟨_, rfl⟩
          obtain ⟨tx, htx⟩ : ∃ v, L1[k].2.2.2 = v := ⟨_, rfl⟩
          have HMK : Hid (L1[k] = (mg, mu, fl, tx)) := hid (by rw [← hmg, ← hmu1, ← hfl, ← htx])
          rw [hmg] at d0
          rw [hmu1] at d1 hmu
          rw [hfl] at d2 hrs hsm
          rw [htx] at d3 hsm
          obtain ⟨lf, hlf⟩ : ∃ v, fl.length = v := ⟨_, rfl⟩
          rw [hlf] at d2 hsm
          have HLF := hid hlf
          have HLN := hid hsm.1
          have HTX := hid hsm.2
          have HMU := hid hmu
          have HRS0 := hid hrs
          have HFF : Hid (fof fl (min lf 3) ≤ 9223372036854775807) := hid (by have h9 := fof_small fl; rw [hlf] at h9; omega)
          have hst := sdm_take th L1 k hkl
          rw [HMK.out, HTT.out] at hst
          have HST := hid hst
          have cb := HBX.out.cells
          have hKI : (0 : Int) ≤ (k : Int) ∧ (k : Int) < (m1 : Int) := by omega
          have MM := hid (Mg.new wr 46 mg mu (.slice fa lf fc) tx)
          have CM := (Mg.new wr 46 mg mu (.slice fa lf fc) tx).cells
          clear hmg hmu1 hfl htx hlf hsm hmu hrs hf0 hst
          go_wp2_with fail
          clear d0 d1 d2 d3 cb CM
          obtain ⟨W6, hW6⟩ : ∃ W, wr.alloc (.cells #[.int .i64 mg, .int .i64 mu, .slice fa lf fc, .string tx] 46) = W := ⟨_, rfl⟩
          obtain ⟨km, hkm⟩ : ∃ k, wr.heap.size = k := ⟨_, rfl⟩
          have B66 : Hid (Below wr.heap.size wr W6) := hid (by rw [← hW6]; exact bpush (bre _) _)
          have HRS := hid (HRS0.out.later B66.out)
          rw [hW6, hkm] at MM
          rw [hW6, hkm]
          clear hW6 hkm HRS0
          obtain ⟨bb, hex⟩ := hex_any tx W6 HTX.out
          refine hex.mono ?_; rintro e w7 ⟨rfl, hb7⟩
          obtain ⟨s4, hs4⟩ : ∃ s, hx9 tx = s := ⟨_, rfl⟩
          have hz4 : s4.size ≤ 40000 := by rw [← hs4]; exact hx9_size tx
          have HS4 := hid hs4
          rw [hs4]
          have HMX := hid (MM.out.later hb7)
          replace HRS := hid (HRS.out.later hb7)
          have B7 := hid (show Below wr.heap.size wr w7 from btr B66.out hb7)
          obtain ⟨W7, rfl⟩ : ∃ W, W = w7 := ⟨_, rfl⟩
          clear hex hb7 hs4 MM B66
          go_wp2_with fail
          have q1 : (9223372036854775807 < tt.size + 1) = False := eq_false (by omega)
          have HSS : Hid (∀ W, Below W7.heap.size W7 W → W.cell? ⟨km, 1, none⟩ = some (.int .i64 mu) ∧ W.cell? ⟨km, 2, none⟩ = some (.slice fa lf fc)) := hid (fun W hbW => ⟨(HMX.out.later hbW).cells.2.1, (HMX.out.later hbW).cells.2.2.1⟩)
          refine wp_region_noPanic ?_
          refine wp_region_held_drew (S := (fun W => W.cell? ⟨km, 1, none⟩ = some (.int .i64 mu) ∧ W.cell? ⟨km, 2, none⟩ = some (.slice fa lf fc))) (by kernel_rfl) (HSS.out _ (bdr (bre _))) (fun hHeld => ?_)
          refine tk 0 ?_
          refine tk 1 ?_
          refine tk 2 ?_
          refine tk 3 ?_
          refine tk 7 ?_
          refine tk 8 ?_
          refine tk 13 ?_
          clear hHeld
          refine ry 4 (fun K hK => ?_)
          go_simp
          refine (l09Num_any mu _ HMU.out).mono ?_; rintro e w8 ⟨rfl, hb8⟩
          obtain ⟨s2, hs2⟩ : ∃ s, nmb mu = s := ⟨_, rfl⟩
          rw [hs2]
          have hz2 : s2.size ≤ 19 := by rw [← hs2]; exact nmb_size mu HMU.out
          have HS2 := hid hs2
          have B8 := hid (show Below W7.heap.size W7 w8 from btr (bdr (bre _)) hb8)
          clear hb8 hs2
          go_wp2_with fail
          refine hK.out _ _ (HSS.out _ B8.out) (fun hHeld => ?_)
          clear hK K
          try simp only [Act.put, List.setIfInBounds_toArray, List.set_cons_zero, List.set_cons_succ]
          have q2 : (9223372036854775807 < tt.size + 1 + s2.size) = False := eq_false (by omega)
          have q3 : (9223372036854775807 < tt.size + 1 + s2.size + 1) = False := eq_false (by omega)
          refine tk 5 ?_
          refine tk 6 ?_
          clear hHeld
          refine ry 9 (fun K hK => ?_)
          go_simp
          refine (specFlagsOf_any fa lf fc fl _ HLF.out HLN.out (HRS.out.later B8.out)).mono ?_; rintro e w9 ⟨rfl, hb9⟩
          have B9 := hid (btr B8.out hb9)
          clear hb9
          go_wp2_with fail
          refine hK.out _ _ (HSS.out _ B9.out) (fun hHeld => ?_)
          clear hK K
          try simp only [Act.put, List.setIfInBounds_toArray, List.set_cons_zero, List.set_cons_succ]
          clear hHeld
          refine ry 10 (fun K hK => ?_)
          go_simp
          refine (decimal_pos (fof fl (min lf 3)) _ HFF.out).mono ?_; rintro e w10 ⟨rfl, hb10⟩
          obtain ⟨s3, hs3⟩ : ∃ s : ByteArray, (⟨(dg (fof fl (min lf 3))).toArray⟩ : ByteArray) = s := ⟨_, rfl⟩
          rw [hs3]
          have hz3 : s3.size ≤ 19 := by have h9 := fdg_size fl; unfold fdg at h9; rw [HLF.out, hs3] at h9; exact h9
          have HS3 : Hid (fdg fl = s3) := hid (by unfold fdg; rw [HLF.out, hs3])
          have B10 := hid (btr B9.out hb10)
          clear hb10 hs3
          go_wp2_with fail
          refine hK.out _ _ (HSS.out _ B10.out) (fun hHeld => ?_)
          clear hK K
          try simp only [Act.put, List.setIfInBounds_toArray, List.set_cons_zero, List.set_cons_succ]
          have q4 : (9223372036854775807 < tt.size + 1 + s2.size + 1 + s3.size) = False := eq_false (by omega)
          have q5 : (9223372036854775807 < tt.size + 1 + s2.size + 1 + s3.size + 1) = False := eq_false (by omega)
          have q6 : (9223372036854775807 < tt.size + 1 + s2.size + 1 + s3.size + 1 + s4.size) = False := eq_false (by omega)
          have q7 : (9223372036854775807 < tt.size + 1 + s2.size + 1 + s3.size + 1 + s4.size + 1) = False := eq_false (by omega)
          refine tk 11 ?_
          refine tk 12 ?_
          refine tk 14 ?_
          refine tk 15 ?_
          refine tk 16 ?_
          refine wpAnyH_done (by kernel_rfl) ?_ _
          refine NoPanic.normal ?_
          clear hHeld
          clear q1 q2 q3 q4 q5 q6 q7
          have HNEW : Hid (sdm tt (mg, mu, fl, tx) = ((((((tt ++ ⟨#[32]⟩) ++ s2) ++ ⟨#[32]⟩) ++ s3) ++ ⟨#[32]⟩) ++ s4) ++ ⟨#[10]⟩) := hid (by unfold sdm; dsimp only; rw [HS2.out, HS3.out, HS4.out])
          have HSZ : Hid ((sdm tt (mg, mu, fl, tx)).size ≤ tt.size + 40100) := hid (sdm_size tt (mg, mu, fl, tx) HMU.out)
          have BX := hid (btr HB6.out (btr B7.out B10.out))
          have HBN := hid (HBX.out.later (btr B7.out B10.out))
          have hk9 := HTZ.out
          clear HSS
          go_wp2
          go_roundw
          case rel => exact ⟨k + 1, by omega, by go_num, by rw [HST.out, HNEW.out], hid (by rw [HST.out]; have h9 := HSZ.out; omega), HBN.out, BX.out⟩
          case measure => simp [intOf]; omega
        · have hkm : k = m1 := by omega
          have HEQ : Hid (tt = sdo (S.take (i + 1))) := hid (by
            rw [sdb_take S i hil, HQ.out, HT0.out, ← HTT.out, hkm, ← HM1.out, List.take_length, ← HTH.out]
            rfl)
          have hk9 := HTZ.out
          have cb := HBX.out.cells
          go_wp2
          go_roundw
          case rel => exact ⟨i + 1, by omega, by go_num, by rw [HEQ.out], hid (by rw [← HEQ.out]; omega), btr HB.out HB6.out⟩
          case measure => simp [intOf]; omega
    · have HE : Hid (sdo (S.take i) = sdo S) := hid (by rw [List.take_of_length_le (by rw [TA.out.len]; omega)])
      go_wp2
      go_ret
      exact ⟨by rw [← HE.out]; rfl, btr B0.out HB.out⟩
end Go.Proofs.YtanahkieondboaaDoor
