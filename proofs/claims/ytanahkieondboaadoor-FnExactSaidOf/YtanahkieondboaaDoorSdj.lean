/- What is said of a store, as the program says it: the walk. -/
import Derived.Test.YtanahkieondboaaDoorSdi
namespace Go.Proofs.YtanahkieondboaaDoor
open Go.RowKit Go.ChangeMaps

theorem said_head (t nm s : ByteArray) : t ++ (nm ++ ⟨#[32]⟩ ++ s ++ ⟨#[10]⟩) = t ++ nm ++ ⟨#[32]⟩ ++ s ++ ⟨#[10]⟩ := by simp only [ByteArray.append_assoc]
theorem said_line (t u f h : ByteArray) : t ++ (⟨#[32]⟩ ++ u ++ ⟨#[32]⟩ ++ f ++ ⟨#[32]⟩ ++ h ++ ⟨#[10]⟩) = t ++ ⟨#[32]⟩ ++ u ++ ⟨#[32]⟩ ++ f ++ ⟨#[32]⟩ ++ h ++ ⟨#[10]⟩ := by simp only [ByteArray.append_assoc]

set_option maxHeartbeats 16000000 in
set_option maxRecDepth 100000 in
theorem implSaidOf_any (l1 h1 : Nat) (y tm : Int) (ba : Option Addr) (bn bc : Nat) (ga : Option Addr) (gn gc : Nat) (S : List X7) (G : List Int) (w : World) (ta : Tg w l1 h1 ba bn bc ga gn gc S G) (hcp : Bc w ba S) (htm : tml S ≤ 1048576) (hr : ∀ x ∈ S, x.2.2.2.2.1 ≤ 9223372036854775807 ∧ ∀ m ∈ x.2.2.2.2.2.1, m.2.1 ≤ 9223372036854775807) (htab : Lib.TabIs Tryd.prog w "internal/strconv.uint64pow10" .u64 Lib.pow10Tab) :
    Calls Tryd.prog 10 #[.agg #[.int .i64 y, .int .i64 tm, .slice ba bn bc, .slice ga gn gc]] w fun e w' => e = .returned (.string (sdo S)) ∧ Below w.heap.size w w' := by
  have HTAB := hid htab
  have TA := hid ta
  have HRR := hid hr
  have HCP := hid hcp
  have HTM := hid htm
  have hbn := ta.most
  obtain ⟨kz, hkz⟩ : ∃ k, w.heap.size = k := ⟨_, rfl⟩
  have HKZ := hid hkz
  obtain ⟨W0, hW0⟩ : ∃ W0, (w.alloc (.cells #[.int .i64 y, .int .i64 tm, .slice ba bn bc, .slice ga gn gc] 32)).alloc (.cells #[.pointer none, .slice none 0 0] 55) = W0 := ⟨_, rfl⟩
  have b0 : Below w.heap.size w W0 := by subst hW0; exact bpush (bpush (bre _) _) _
  have a0 : Sx W0 w.heap.size 32 y tm (.slice ba bn bc) (.slice ga gn gc) := by subst hW0; exact (Sx.new w _ y tm _ _).later (bpush (bre _) _)
  have u0 : Bu (w.heap.size + 1) (w.heap.size + 1) ⟨#[]⟩ W0 := by
    subst hW0
    refine Or.inl ⟨Nat.le_refl _, .slice none 0 0, ?_, ⟨rfl, Or.inl ⟨rfl, rfl⟩⟩, by simp [Value.ownBlock]⟩
    have := heap_alloc_new (w.alloc (.cells #[.int .i64 y, .int .i64 tm, .slice ba bn bc, .slice ga gn gc] 32)) (.cells #[.pointer none, .slice none 0 0] 55)
    simpa using this
  have z0 : w.heap.size + 1 < W0.heap.size := by subst hW0; simp
  have c0 := a0.cells
  rw [← hW0] at c0
  have HW0 := hid hW0
  have U0 := hid u0
  have B0 := hid b0
  have Z0 := hid z0
  clear ta hr hcp htm htab a0 u0 b0 z0 hkz hW0
  go_enter Tryd.func10, Tryd.ntmps10
  go_wp2
  rw [HW0.out]
  clear HW0 c0
  go_loopw [14] (fun iv wr => ∃ i : Nat, i ≤ bn ∧ iv = .int .i64 (i : Int) ∧ Bu (w.heap.size + 1) (w.heap.size + 1) (sdo (S.take i)) wr ∧ Hid ((sdo (S.take i)).size ≤ i * 1048700 + tml (S.take i) * 40100) ∧ Below w.heap.size w wr ∧ Hid (w.heap.size + 1 < wr.heap.size)) (fun iv _ => bn - (intOf iv).toNat)
  case atStart => exact ⟨0, Nat.zero_le _, rfl, U0.out, hid (by show (0 : Nat) ≤ _; omega), B0.out, Z0⟩
  case round =>
    obtain ⟨i, hi, rfl, hu, HTS, hb, HZ⟩ := hrel
    have HB := hid hb
    have HU := hid hu
    clear hb hu U0 B0 Z0
    by_cases hlt : i < bn
    · have hil : i < S.length := by rw [TA.out.len]; exact hlt
      obtain ⟨k1, o1, ma1, mc1, ga1, gc1, hk1, hkk1, d1, hms1, -, -, -⟩ := TA.out.boxes.at hil
      have hmem := TA.out.sb S[i] (List.getElem_mem hil)
      have hrr := HRR.out S[i] (List.getElem_mem hil)
      have hcap := HCP.out i hil k1 o1 _ _ _ hk1 d1.2.2.2.2.2.1
      have htk := tml_take S i hil
      have htl := tml_le S (i + 1)
      have hst := sdb_take S i hil
      obtain ⟨q, hq⟩ : ∃ q, S[i] = q := ⟨_, rfl⟩
      obtain ⟨g1, nm1, t1, b1, nx1, L1, G1⟩ := q
      rw [hq] at d1 hms1 hmem hrr hcap htk hst
      dsimp only at d1 hms1 hmem hrr hcap htk
      obtain ⟨m1, hm1⟩ : ∃ m, L1.length = m := ⟨_, rfl⟩
      obtain ⟨n1, hn1⟩ : ∃ m, G1.length = m := ⟨_, rfl⟩
      rw [hm1, hn1] at d1
      rw [hm1, hn1] at hmem
      rw [hm1] at htk
      rw [htk] at htl
      obtain ⟨tb, htb⟩ : ∃ n, tml (S.take i) = n := ⟨_, rfl⟩
      obtain ⟨t0, ht0⟩ : ∃ t, sdo (S.take i) = t := ⟨_, rfl⟩
      rw [ht0] at HTS HU hst
      rw [htb] at HTS htl htk
      have HTL : Hid (tb + m1 ≤ 1048576) := hid (Nat.le_trans htl HTM.out)
      have HM1 := hid hm1
      have HNM := hid hmem.1
      have HMM := hid hmem.2.1
      have HSM := hid hmem.2.2.1
      have HNX := hid hrr.1
      have HUU := hid hrr.2
      have HST0 := hid hst
      have HTK := hid htk
      have HCAP := hid hcap
      have HMS := hid hms1
      have hI : (0 : Int) ≤ (i : Int) ∧ (i : Int) < (bn : Int) := by omega
      have dl := d1.later hkk1 HB.out
      subst hk1
      unfold C7 at dl
      have CB := (Bx.new wr 43 g1 nm1 t1 b1 nx1 (.slice ma1 m1 mc1) (.slice ga1 n1 gc1)).cells
      have XB := hid (Bx.new wr 43 g1 nm1 t1 b1 nx1 (.slice ma1 m1 mc1) (.slice ga1 n1 gc1))
      clear hm1 hn1 hmem hrr hq ht0 htb htk htl hcap hst hms1 d1 hkk1
      go_wp2_with fail
      clear dl CB
      obtain ⟨W5, hW5⟩ : ∃ W, wr.alloc (.cells #[.int .i64 g1, .string nm1, .int .i64 t1, .int .i64 b1, .int .i64 nx1, .slice ma1 m1 mc1, .slice ga1 n1 gc1] 43) = W := ⟨_, rfl⟩
      obtain ⟨kb, hkb⟩ : ∃ k, wr.heap.size = k := ⟨_, rfl⟩
      have B5 : Hid (Below wr.heap.size wr W5) := hid (by rw [← hW5]; exact bpush (bre _) _)
      have HKB : Hid (kb ≠ w.heap.size + 1) := hid (by have h9 := HZ.out; rw [hkb] at h9; omega)
      rw [hW5, hkb] at XB
      rw [hW5, hkb]
      replace HU := hid (HU.out.later B5.out)
      replace HB := hid (btr HB.out B5.out)
      replace HZ := hid (Nat.lt_of_lt_of_le HZ.out B5.out.size)
      clear hW5 hkb
      have HNZ := HNM.out
      have q2 : (9223372036854775807 < nm1.size + 1) = False := eq_false (by omega)
      have HSS : Hid (∀ W, Bx W kb 43 g1 nm1 t1 b1 nx1 (.slice ma1 m1 mc1) (.slice ga1 n1 gc1) → W.cell? ⟨kb, 1, none⟩ = some (.string nm1) ∧ W.cell? ⟨kb, 4, none⟩ = some (.int .i64 nx1)) := hid (fun W hbW => ⟨hbW.cells.2.1, hbW.cells.2.2.2.2.1⟩)
      refine wp_region_noPanic ?_
      refine wp_region_held_drew (S := (fun W => W.cell? ⟨kb, 1, none⟩ = some (.string nm1) ∧ W.cell? ⟨kb, 4, none⟩ = some (.int .i64 nx1))) (by kernel_rfl) (HSS.out _ (XB.out.later (bdr (bre _)))) (fun hHeld => ?_)
      refine tk 0 ?_
      refine tk 1 ?_
      refine tk 2 ?_
      refine tk 3 ?_
      refine tk 4 ?_
      clear hHeld
      refine ry 5 (fun K hK => ?_)
      go_simp
      refine (implNum_any nx1 _ HNX.out (tab_later (bdr HB.out) HTAB.out)).mono ?_; rintro e w6 ⟨rfl, hb6⟩
      obtain ⟨s1, hs1⟩ : ∃ s, nmb nx1 = s := ⟨_, rfl⟩
      rw [hs1]
      have hz1 : s1.size ≤ 19 := by rw [← hs1]; exact nmb_size nx1 HNX.out
      have HS1 := hid hs1
      have B6 := hid (show Below W5.heap.size W5 w6 from btr (bdr (bre _)) hb6)
      replace XB := hid (XB.out.later B6.out)
      replace HU := hid (HU.out.later B6.out)
      replace HB := hid (btr HB.out B6.out)
      replace HZ := hid (Nat.lt_of_lt_of_le HZ.out B6.out.size)
      clear hb6 hs1 B5 B6
      go_wp2_with fail
      refine hK.out _ _ (HSS.out _ XB.out) (fun hHeld => ?_)
      clear hK K
      try simp only [Act.put, List.setIfInBounds_toArray, List.set_cons_zero, List.set_cons_succ]
      have q3 : (9223372036854775807 < nm1.size + 1 + s1.size) = False := eq_false (by omega)
      have q4 : (9223372036854775807 < nm1.size + 1 + s1.size + 1) = False := eq_false (by omega)
      refine tk 6 ?_
      refine tk 7 ?_
      clear hHeld
      clear q2 q3 q4
      obtain ⟨sh, hsh⟩ : ∃ s, nm1 ++ ⟨#[32]⟩ ++ s1 ++ ⟨#[10]⟩ = s := ⟨_, rfl⟩
      have HSH : Hid (sh.size ≤ 1048640) := hid (by
        rw [← hsh]
        have e1 : (⟨#[32]⟩ : ByteArray).size = 1 := rfl
        have e2 : (⟨#[10]⟩ : ByteArray).size = 1 := rfl
        simp only [ByteArray.size_append]
        omega)
      have HTH : Hid (sdh t0 (g1, nm1, t1, b1, nx1, L1, G1) = t0 ++ sh) := hid (by unfold sdh; dsimp only; rw [HS1.out, ← hsh, said_head])
      refine ry 8 (fun K hK => ?_)
      go_simp
      try rw [hsh]
      refine (write_bu (w.heap.size + 1) (w.heap.size + 1) t0 sh _ HU.out (by have h8 := HTS.out; have h7 := HSH.out; have h6 := HTL.out; omega) (Nat.le_of_lt HZ.out)).mono ?_; rintro e w7 ⟨rfl, hu7, hb7, hk7⟩
      replace XB := hid (XB.out.kept hk7 HKB.out)
      replace HU := hid hu7
      replace HB := hid (HB.out.trans (hb7.mono (Nat.le_succ _)))
      replace HZ := hid (Nat.lt_of_lt_of_le HZ.out hb7.size)
      clear hu7 hb7 hk7 hsh
      go_wp2_with fail
      refine hK.out _ _ (HSS.out _ XB.out) (fun hHeld => ?_)
      clear hK K
      try simp only [Act.put, List.setIfInBounds_toArray, List.set_cons_zero, List.set_cons_succ]
      refine wpAnyH_done (by kernel_rfl) ?_ _
      refine NoPanic.normal ?_
      clear hHeld
      obtain ⟨th, hth⟩ : ∃ t, t0 ++ sh = t := ⟨_, rfl⟩
      rw [hth] at HU HTH
      have HTHZ : Hid (th.size ≤ (i + 1) * 1048700 + tb * 40100) := hid (by rw [← hth, ByteArray.size_append]; have h8 := HTS.out; have h7 := HSH.out; omega)
      have cb := XB.out.cells
      have hmm := HMM.out
      clear hth HSS HS1 hz1 HNZ
      go_wp2
      clear cb
      go_loopw [30] (fun kv wr => ∃ k : Nat, k ≤ m1 ∧ kv = .int .i64 (k : Int) ∧ Bu (w.heap.size + 1) (w.heap.size + 1) ((L1.take k).foldl sdm th) wr ∧ Hid (((L1.take k).foldl sdm th).size ≤ (i + 1) * 1048700 + (tb + k) * 40100) ∧ Below w.heap.size w wr ∧ Hid (w.heap.size + 1 < wr.heap.size)) (fun kv _ => m1 - (intOf kv).toNat)
      case atStart => exact ⟨0, Nat.zero_le _, rfl, HU.out, HTHZ, HB.out, HZ⟩
      case round =>
        obtain ⟨k, hk, rfl, hu, HTZ, hb, HZ⟩ := hrel
        replace HU := hid hu
        replace HB := hid hb
        obtain ⟨tt, htt⟩ : ∃ t, (L1.take k).foldl sdm th = t := ⟨_, rfl⟩
        rw [htt] at HTZ HU
        have HTT := hid htt
        clear hu hb htt
        by_cases hlk : k < m1
        · have hkl : k < L1.length := by rw [HM1.out]; exact hlk
          obtain ⟨k2, o2, fa, fc, hka, hkk, d9, hrs, hf0⟩ := HMS.out.at hkl
          have hcap := HCAP.out k hkl k2 o2 _ _ _ hka d9.2.2.1
          have dl := C4.later d9 hkk HB.out
          have hsm := HSM.out L1[k] (List.getElem_mem hkl)
          have hmu := HUU.out L1[k] (List.getElem_mem hkl)
          have hst := sdm_take th L1 k hkl
          have hsz := sdm_size tt L1[k] hmu
          obtain ⟨q, hq⟩ : ∃ q, L1[k] = q := ⟨_, rfl⟩
          obtain ⟨mg, mu, fl, tx⟩ := q
          rw [hq] at dl hrs hcap hsm hmu hst hsz
          rw [HTT.out] at hst
          dsimp only at dl hrs hcap hsm hmu
          obtain ⟨lf, hlf⟩ : ∃ v, fl.length = v := ⟨_, rfl⟩
          rw [hlf] at dl hcap hsm
          have HLF := hid hlf
          have HLN := hid hsm.1
          have HTX := hid hsm.2
          have HMU := hid hmu
          have HRS := hid (hrs.later HB.out)
          have HCP2 := hid hcap
          have HST := hid hst
          have HSZ := hid hsz
          have hKI : (0 : Int) ≤ (k : Int) ∧ (k : Int) < (m1 : Int) := by omega
          subst hka
          obtain ⟨c0, c1, c2, c3⟩ := dl
          have CM := (Mg.new wr 46 mg mu (.slice fa lf fc) tx).cells
          have XM := hid (Mg.new wr 46 mg mu (.slice fa lf fc) tx)
          clear hq hlf hsm hmu hrs hcap hst hsz hf0 d9 hkk
          go_wp2_with fail
          clear c0 c1 c2 c3 CM
          obtain ⟨W6, hW6⟩ : ∃ W, wr.alloc (.cells #[.int .i64 mg, .int .i64 mu, .slice fa lf fc, .string tx] 46) = W := ⟨_, rfl⟩
          obtain ⟨km, hkm⟩ : ∃ k, wr.heap.size = k := ⟨_, rfl⟩
          have B6 : Hid (Below wr.heap.size wr W6) := hid (by rw [← hW6]; exact bpush (bre _) _)
          have HKM : Hid (km ≠ w.heap.size + 1) := hid (by have h9 := HZ.out; rw [hkm] at h9; omega)
          rw [hW6, hkm] at XM
          rw [hW6, hkm]
          replace HU := hid (HU.out.later B6.out)
          replace HB := hid (btr HB.out B6.out)
          replace HZ := hid (Nat.lt_of_lt_of_le HZ.out B6.out.size)
          replace HRS := hid (HRS.out.later B6.out)
          clear hW6 hkm
          obtain ⟨bb, hex⟩ := hexI_any tx W6 HTX.out
          refine hex.mono ?_; rintro e w7 ⟨rfl, hb7⟩
          obtain ⟨s4, hs4⟩ : ∃ s, hx9 tx = s := ⟨_, rfl⟩
          have hz4 : s4.size ≤ 40000 := by rw [← hs4]; exact hx9_size tx
          have HS4 := hid hs4
          rw [hs4]
          replace XM := hid (XM.out.later hb7)
          replace HU := hid (HU.out.later hb7)
          replace HB := hid (btr HB.out hb7)
          replace HZ := hid (Nat.lt_of_lt_of_le HZ.out hb7.size)
          replace HRS := hid (HRS.out.later hb7)
          obtain ⟨W7, rfl⟩ : ∃ W, W = w7 := ⟨_, rfl⟩
          clear hex hb7 hs4 B6
          go_wp2_with fail
          have HSS : Hid (∀ W, Mg W km 46 mg mu (.slice fa lf fc) tx → W.cell? ⟨km, 1, none⟩ = some (.int .i64 mu) ∧ W.cell? ⟨km, 2, none⟩ = some (.slice fa lf fc)) := hid (fun W hbW => ⟨hbW.cells.2.1, hbW.cells.2.2.1⟩)
          refine wp_region_noPanic ?_
          refine wp_region_held_drew (S := (fun W => W.cell? ⟨km, 1, none⟩ = some (.int .i64 mu) ∧ W.cell? ⟨km, 2, none⟩ = some (.slice fa lf fc))) (by kernel_rfl) (HSS.out _ (XM.out.later (bdr (bre _)))) (fun hHeld => ?_)
          refine tk 0 ?_
          refine tk 1 ?_
          refine tk 5 ?_
          refine tk 6 ?_
          refine tk 11 ?_
          clear hHeld
          refine ry 2 (fun K hK => ?_)
          go_simp
          refine (implNum_any mu _ HMU.out (tab_later (bdr HB.out) HTAB.out)).mono ?_; rintro e w8 ⟨rfl, hb8⟩
          obtain ⟨s2, hs2⟩ : ∃ s, nmb mu = s := ⟨_, rfl⟩
          rw [hs2]
          have hz2 : s2.size ≤ 19 := by rw [← hs2]; exact nmb_size mu HMU.out
          have HS2 := hid hs2
          have B8 := hid (show Below W7.heap.size W7 w8 from btr (bdr (bre _)) hb8)
          replace XM := hid (XM.out.later B8.out)
          replace HU := hid (HU.out.later B8.out)
          replace HB := hid (btr HB.out B8.out)
          replace HZ := hid (Nat.lt_of_lt_of_le HZ.out B8.out.size)
          replace HRS := hid (HRS.out.later B8.out)
          clear hb8 hs2 B8
          go_wp2_with fail
          refine hK.out _ _ (HSS.out _ XM.out) (fun hHeld => ?_)
          clear hK K
          try simp only [Act.put, List.setIfInBounds_toArray, List.set_cons_zero, List.set_cons_succ]
          have q1 : (9223372036854775807 < 1 + s2.size) = False := eq_false (by omega)
          have q2 : (9223372036854775807 < 1 + s2.size + 1) = False := eq_false (by omega)
          refine tk 3 ?_
          refine tk 4 ?_
          clear hHeld
          refine ry 7 (fun K hK => ?_)
          go_simp
          refine (implFlagsOf_any fa lf fc fl _ HLF.out HLN.out HCP2.out HRS.out).mono ?_; rintro e w9 ⟨rfl, hb9⟩
          obtain ⟨ff, hff⟩ : ∃ n, fof fl (min lf 3) = n := ⟨_, rfl⟩
          have HFF : Hid (ff ≤ 7) := hid (by have h9 := fof_small fl; rw [HLF.out, hff] at h9; exact h9)
          have HFD : Hid (fdg fl = nmb ff) := hid (by unfold fdg; rw [HLF.out, hff, nmb_nat])
          rw [hff]
          replace XM := hid (XM.out.later hb9)
          replace HU := hid (HU.out.later hb9)
          replace HB := hid (btr HB.out hb9)
          replace HZ := hid (Nat.lt_of_lt_of_le HZ.out hb9.size)
          clear hff hb9
          go_wp2_with fail
          refine hK.out _ _ (HSS.out _ XM.out) (fun hHeld => ?_)
          clear hK K hHeld
          try simp only [Act.put, List.setIfInBounds_toArray, List.set_cons_zero, List.set_cons_succ]
          refine ry 8 (fun K hK => ?_)
          go_simp
          refine (implNum_any ff _ (by have h9 := HFF.out; omega) (tab_later HB.out HTAB.out)).mono ?_; rintro e w10 ⟨rfl, hb10⟩
          obtain ⟨s3, hs3⟩ : ∃ s, nmb ff = s := ⟨_, rfl⟩
          have hz3 : s3.size ≤ 19 := by rw [← hs3]; exact nmb_size ff (by have h9 := HFF.out; omega)
          rw [hs3] at HFD
          rw [hs3]
          replace XM := hid (XM.out.later hb10)
          replace HU := hid (HU.out.later hb10)
          replace HB := hid (btr HB.out hb10)
          replace HZ := hid (Nat.lt_of_lt_of_le HZ.out hb10.size)
          clear hs3 hb10
          go_wp2_with fail
          refine hK.out _ _ (HSS.out _ XM.out) (fun hHeld => ?_)
          clear hK K
          try simp only [Act.put, List.setIfInBounds_toArray, List.set_cons_zero, List.set_cons_succ]
          have q3 : (9223372036854775807 < 1 + s2.size + 1 + s3.size) = False := eq_false (by omega)
          have q4 : (9223372036854775807 < 1 + s2.size + 1 + s3.size + 1) = False := eq_false (by omega)
          have q5 : (9223372036854775807 < 1 + s2.size + 1 + s3.size + 1 + s4.size) = False := eq_false (by omega)
          have q6 : (9223372036854775807 < 1 + s2.size + 1 + s3.size + 1 + s4.size + 1) = False := eq_false (by omega)
          refine tk 9 ?_
          refine tk 10 ?_
          refine tk 12 ?_
          refine tk 13 ?_
          clear hHeld
          clear q1 q2 q3 q4 q5 q6
          obtain ⟨sh2, hsh⟩ : ∃ s, ⟨#[32]⟩ ++ s2 ++ ⟨#[32]⟩ ++ s3 ++ ⟨#[32]⟩ ++ s4 ++ ⟨#[10]⟩ = s := ⟨_, rfl⟩
          have HSH2 : Hid (sh2.size ≤ 40100) := hid (by
            rw [← hsh]
            have e1 : (⟨#[32]⟩ : ByteArray).size = 1 := rfl
            have e2 : (⟨#[10]⟩ : ByteArray).size = 1 := rfl
            simp only [ByteArray.size_append]
            omega)
          have HTM2 : Hid (sdm tt (mg, mu, fl, tx) = tt ++ sh2) := hid (by unfold sdm; dsimp only; rw [HS2.out, HFD.out, HS4.out, ← hsh, said_line])
          refine ry 14 (fun K hK => ?_)
          go_simp
          try rw [hsh]
          refine (write_bu (w.heap.size + 1) (w.heap.size + 1) tt sh2 _ HU.out (by have h8 := HTZ.out; have h7 := HSH2.out; have h6 := HTL.out; omega) (Nat.le_of_lt HZ.out)).mono ?_; rintro e w11 ⟨rfl, hu7, hb7, hk7⟩
          replace XM := hid (XM.out.kept hk7 HKM.out)
          replace HU := hid hu7
          replace HB := hid (HB.out.trans (hb7.mono (Nat.le_succ _)))
          replace HZ := hid (Nat.lt_of_lt_of_le HZ.out hb7.size)
          clear hu7 hb7 hk7 hsh
          go_wp2_with fail
          refine hK.out _ _ (HSS.out _ XM.out) (fun hHeld => ?_)
          clear hK K
          try simp only [Act.put, List.setIfInBounds_toArray, List.set_cons_zero, List.set_cons_succ]
          refine wpAnyH_done (by kernel_rfl) ?_ _
          refine NoPanic.normal ?_
          clear hHeld hz2 hz3 hz4
          go_wp2
          go_roundw
          case rel => exact ⟨k + 1, by omega, by go_num, by rw [HST.out, HTM2.out]; exact HU.out, hid (by show ((L1.take (k + 1)).foldl sdm th).size ≤ _; rw [HST.out, HTM2.out, ByteArray.size_append]; have h8 := HTZ.out; have h7 := HSH2.out; omega), HB.out, HZ⟩
          case measure => simp [intOf]; omega
        · have HEN : Hid (sdo (S.take (i + 1)) = tt) := hid (by
            rw [HST0.out]
            show (L1.foldl sdm (sdh t0 (g1, nm1, t1, b1, nx1, L1, G1))) = tt
            rw [HTH.out, ← HTT.out, List.take_of_length_le (by rw [HM1.out]; omega)])
          go_wp2
          go_roundw
          case rel => exact ⟨i + 1, by omega, by go_num, by rw [HEN.out]; exact HU.out, hid (by show (sdo (S.take (i + 1))).size ≤ _; rw [HEN.out, HTK.out]; have h8 := HTZ.out; rw [show k = m1 by omega] at h8; exact h8), HB.out, HZ⟩
          case measure => simp [intOf]; omega
    · have HEN : Hid (sdo (S.take i) = sdo S) := hid (by rw [List.take_of_length_le (by rw [TA.out.len]; omega)])
      rw [HEN.out] at HU
      obtain ⟨t, ht⟩ : ∃ t, sdo S = t := ⟨_, rfl⟩
      rw [ht] at HU
      have HT9 := hid ht
      clear ht HEN HTS
      go_wp2_with fail
      refine (Tryd.Builder_String_any_k (w.heap.size + 1) (w.heap.size + 1) t.data.toList _ HU.out (Nat.le_of_lt HZ.out)).mono ?_; rintro e w9 ⟨rfl, -, hb9, -⟩
      have B9 := hid (HB.out.trans (hb9.mono (Nat.le_succ _)))
      clear hb9
      go_wp2
      go_ret
      exact ⟨ret_str (by rw [HT9.out]), B9.out⟩
end Go.Proofs.YtanahkieondboaaDoor
