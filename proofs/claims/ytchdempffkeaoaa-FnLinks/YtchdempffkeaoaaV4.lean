/- K9e. -/
import Derived.Test.YtchdempffkeaoaaV3
namespace Go.Proofs.Ytchdempffkeaoaa
open Go.RowKit Go.ChangeMaps
set_option maxHeartbeats 16000000 in
set_option maxRecDepth 100000 in
theorem fnLinks_any (ao : Option Addr) (n cap : Nat) (w : World) (hcode : Code w w.heap.size ao n) :
    Calls Try.prog 3 #[.slice ao n cap] w fun e w' => e = .returned (.bool true) ∧ Below w.heap.size w w' := by
  have HO := hid hcode
  clear hcode
  by_cases hbig : n ≤ 1048576
  case neg =>
    go_enter Try.func3, Try.ntmps3
    go_wp2_with fail
    refine (big17_yes ao n cap _ (by omega)).mono ?_; rintro e w' ⟨rfl, h'⟩
    subst h'
    go_wp2_with fail
    go_ret
    exact ⟨rfl, bre _⟩
  go_enter Try.func3, Try.ntmps3
  go_wp2_with fail
  refine (big17_no ao n cap _ hbig).mono ?_; rintro e w' ⟨rfl, h'⟩
  subst h'
  go_wp2_with fail
  refine (drawPlaces17_any ao n cap _ hbig HO.out).mono ?_; rintro e w1 ⟨g, cp, Z, rfl, hzl, hz, hg1, hg2, hcs, hb⟩
  have BE := hid hb
  have HZL := hid hzl
  have HZ : Hid (∀ i (h : i < Z.length), Z[i] < 10000) := hid (fun i h => hz _ (List.getElem_mem h))
  have HG := hid (And.intro hg1 hg2)
  have HP : Hid (∀ W, w1.grownBy W none → ∀ i (h : i < Z.length), W.cell? ⟨g, i, none⟩ = some (.int .i64 (Z[i] : Int))) := hid (fun W h i hi => (cell_sameT (h.block g hg2 (by simp))).trans (hcs i hi))
  have HC := hid hcs
  clear hzl hz hg1 hg2 hcs hb
  go_wp2_with fail
  refine (implLinkNew_any 3 _).mono ?_; rintro e v2 ⟨aa, ca, rfl, ho, hb⟩
  obtain ⟨w2, hw2⟩ : ∃ W, v2.alloc (.cells #[.int .i64 3, .slice aa 0 ca, .int .i64 1, .int .i64 1] 28) = W := ⟨_, rfl⟩
  have AB := hid (Lk.newest hw2)
  have b2 := wpush hw2
  have OA := hid (OwV.later ho b2)
  have HOA : Hid (∀ j, Value.ownBlock (.slice aa 0 ca) = some j → w1.heap.size ≤ j ∧ j < v2.heap.size) := hid (fun j hj => World.ownsRow.lt ho j hj)
  have L1 : Hid (w1.heap.size ≤ v2.heap.size ∧ v2.heap.size < w2.heap.size) := hid ⟨hb.size, AB.out.lt⟩
  have B12 : Hid (Below w1.heap.size w1 w2) := hid (btr hb b2)
  clear ho hb b2
  go_wp2_with fail
  clear hw2
  refine (implLinkNew_any 3 _).mono ?_; rintro e v3 ⟨ab, cb, rfl, ho, hb⟩
  obtain ⟨w3, hw3⟩ : ∃ W, v3.alloc (.cells #[.int .i64 3, .slice ab 0 cb, .int .i64 1, .int .i64 1] 28) = W := ⟨_, rfl⟩
  have BB := hid (Lk.newest hw3)
  have b3 := wpush hw3
  have OB := hid (OwV.later ho b3)
  have HOB : Hid (∀ j, Value.ownBlock (.slice ab 0 cb) = some j → w2.heap.size ≤ j ∧ j < v3.heap.size) := hid (fun j hj => World.ownsRow.lt ho j hj)
  have L2 : Hid (w2.heap.size ≤ v3.heap.size ∧ v3.heap.size < w3.heap.size) := hid ⟨hb.size, BB.out.lt⟩
  have AB := hid ((AB.out.later hb).later b3)
  have OA := hid (OwV.later (OwV.later OA.out hb) b3)
  have B13 : Hid (Below w1.heap.size w1 w3) := hid (btr (btr B12.out hb) b3)
  clear ho hb b3 B12
  have hc0 : w3.cell? ⟨g, 0, none⟩ = some (.int .i64 (Z[0]'(by rw [HZL.out]; decide) : Int)) := (B13.out.cell (p := ⟨g, 0, none⟩) HG.out.2).trans (HC.out 0 _)
  obtain ⟨z0, hz0⟩ : ∃ z, Z[0]'(by rw [HZL.out]; decide) = z := ⟨_, rfl⟩
  have HZ0 : Hid (z0 < 10000) := hid (by rw [← hz0]; exact HZ.out 0 _)
  rw [hz0] at hc0
  clear hz0
  obtain ⟨N, hN⟩ : ∃ N : Nat, 1 + z0 % 4 = N := ⟨_, rfl⟩
  have hNi : (1 + (z0 : Int) % 4) = (N : Int) := by omega
  have HN : Hid (1 ≤ N ∧ N ≤ 4) := hid (by omega)
  obtain ⟨S, hS⟩ : ∃ S, (Z.map tx17).take N = S := ⟨_, rfl⟩
  have HSL : Hid (S.length = N) := hid (by rw [← hS, List.length_take, List.length_map, HZL.out]; omega)
  have HSA : Hid (∀ i (h : i < S.length) (h' : i < Z.length), S[i] = tx17 Z[i]) := hid (by subst hS; intro i h h'; simp)
  have HSZ : Hid (∀ x ∈ S, 1 ≤ x.size ∧ x.size ≤ 400) := hid (by
    intro x hx
    obtain ⟨i, hi, rfl⟩ := List.getElem_of_mem hx
    have h' : i < Z.length := by rw [HZL.out]; have := HSL.out; have := HN.out; omega
    rw [HSA.out i hi h']
    exact tx17_size _ (HZ.out i h'))
  clear hN hS
  go_wp2_with fail
  clear hNi hc0
  go_loopw [7, 8] (fun sv iv wr => ∃ (k : Nat) (sa : Option Addr) (sc : Nat) (wa : Option Addr) (wc : Nat), k ≤ N ∧ iv = .int .i64 (k : Int) ∧ sv = .slice sa k sc ∧ OwV wr w3.heap.size (.slice sa k sc) (S.take k) ∧ Lk wr v2.heap.size 28 3 (.slice wa k wc) 1 1 ∧ OwV wr w1.heap.size (.slice wa k wc) (S.take k) ∧ (∀ j, Value.ownBlock (.slice wa k wc) = some j → Value.ownBlock (.slice sa k sc) ≠ some j ∧ j ≠ v2.heap.size ∧ j ≠ v3.heap.size) ∧ w3.grownBy wr (some v2.heap.size)) (fun _ iv _ => N - (intOf iv).toNat)
  case atStart =>
    have b4 := bpush (bre w3) (.cells #[] 9)
    refine ⟨0, some ⟨w3.heap.size, 0, none⟩, 0, aa, ca, Nat.zero_le _, rfl, rfl, ?_, AB.out.later b4, OwV.later OA.out b4, fun j hj => ?_, gof _ b4⟩
    · exact ownV_empty17 w3 w3.heap.size (Nat.le_refl _)
    · have h := HOA.out j hj
      have l2 := L2.out
      have l1 := L1.out
      refine ⟨fun e => ?_, by omega, by omega⟩
      simp only [Value.ownBlock, Option.some.injEq] at e
      omega
  case round =>
    obtain ⟨k, sa, sc, wa, wc, hk, rfl, rfl, hos, hlk, how, hne, hg⟩ := hrel
    have OS := hid hos
    have AB := hid hlk
    have OA := hid how
    have NE := hid hne
    have GW := hid hg
    clear hos hlk how hne hg
    by_cases hlt : k < N
    · have hkZ : k < Z.length := by rw [HZL.out]; have := HN.out; omega
      have hkS : k < S.length := by rw [HSL.out]; exact hlt
      have hc : wr.cell? ⟨g, k, none⟩ = some (.int .i64 (Z[k] : Int)) := by
        have h1 : wr.heap[g]? = w3.heap[g]? := GW.out.block g (Nat.lt_of_lt_of_le HG.out.2 B13.out.size) (by have h1 := HG.out; have h2 := L1.out; simp; omega)
        have h2 := B13.out.block g HG.out.2
        exact (cell_sameT (h1.trans h2)).trans (HC.out k hkZ)
      obtain ⟨zk, hzk⟩ : ∃ z, Z[k] = z := ⟨_, rfl⟩
      have hzl : zk < 10000 := by rw [← hzk]; exact HZ.out k hkZ
      have HT : Hid (S[k] = tx17 zk) := hid (by rw [HSA.out k hkS hkZ, hzk])
      rw [hzk] at hc
      have hk12 : k < 12 := by have := HN.out; omega
      clear hzk
      go_wp2_with fail
      obtain ⟨D, hD⟩ : ∃ D : ByteArray, ⟨(dg zk).toArray⟩ = D := ⟨_, rfl⟩
      have hT : (⟨#[116, 101, 120, 116]⟩ : ByteArray) ++ D = tx17 zk := by rw [← hD]; rfl
      have hts := tx17_size zk hzl
      obtain ⟨T, hT2⟩ : ∃ T, tx17 zk = T := ⟨_, rfl⟩
      rw [hT2] at hT HT hts
      have hsz : 4 + D.size ≤ 400 := by have h := congrArg ByteArray.size hT; rw [ByteArray.size_append] at h; have h4 : (⟨#[116, 101, 120, 116]⟩ : ByteArray).size = 4 := rfl; omega
      have HTS := hid hts
      have CD := hid (decimal_pos zk wr (by omega))
      rw [hD] at CD
      clear hT2 hts hD hzl
      refine CD.out.mono ?_; rintro e w5 ⟨rfl, hb⟩
      have OS := hid (OwV.later OS.out hb)
      have AB := hid (AB.out.later hb)
      have OA := hid (OwV.later OA.out hb)
      have GW := hid (wtr GW.out (gof _ hb))
      have LS : Hid (w3.heap.size ≤ w5.heap.size) := hid GW.out.size
      have c0 := AB.out.cells
      clear hb CD hc hk12
      go_wp2_with fail
      clear c0 hsz
      refine (implLinkPut_any _ _ 3 1 1 wa k wc (S.take k) T _ (by rw [List.length_take, HSL.out]; omega) (by have := HN.out; omega) (fun x hx => by have := HSZ.out x (List.mem_of_mem_take hx); omega) (OwV.is OA.out).2 (own_none17 OA.out) (by have := HTS.out; omega)).mono ?_; rintro e w6 ⟨ag, cg, rfl, ho, hb⟩
      have hlp := lpw_put (G := S.take k) (t := T) (by rw [List.length_take]; have := HN.out; omega) HTS.out
      have htk : S.take k ++ [T] = S.take (k + 1) := by rw [List.take_succ_eq_append_getElem hkS, HT.out]
      have hln : (S.take (k + 1)).length = k + 1 := by rw [List.length_take, HSL.out]; omega
      rw [hlp.1, htk, hln] at ho
      rw [hlp.1, htk, hln]
      have OG := hid ho
      have KG : Hid (∀ j, Value.ownBlock (.slice ag (k + 1) cg) = some j → w5.heap.size ≤ j ∧ j < w6.heap.size) := hid (fun j hj => World.ownsRow.lt ho j hj)
      have KS : Hid (∀ j, Value.ownBlock (.slice sa k sc) = some j → w3.heap.size ≤ j ∧ j < w5.heap.size) := hid (fun j hj => World.ownsRow.lt OS.out j hj)
      have OS := hid (OwV.later OS.out hb)
      have AB := hid (AB.out.later hb)
      have GW := hid (wtr GW.out (gof _ hb))
      have L56 : Hid (w5.heap.size ≤ w6.heap.size) := hid hb.size
      have c0 := AB.out.cells
      have f0 := AB.out.loose
      clear hb ho hlp
      go_upto_region 13 with fail
      obtain ⟨W7, hW7⟩ : ∃ W, putL w6 v2.heap.size 3 (.slice ag (k + 1) cg) 1 1 = W := ⟨_, rfl⟩
      have g7 := putL_grown w6 v2.heap.size 3 (.slice ag (k + 1) cg) 1 1
      have x7 := AB.out.put 3 (.slice ag (k + 1) cg) 1 1
      rw [hW7] at g7 x7
      unfold putL at hW7
      rw [hW7]
      have l1 := L1.out; have l2 := L2.out; have ls := LS.out; have l56 := L56.out
      have AB := hid x7
      have OS := hid (own_off17 OS.out g7 (fun j hj e => by have := KS.out j hj; simp at e; omega))
      have OG := hid (own_off17 OG.out g7 (fun j hj e => by have := KG.out j hj; simp at e; omega))
      have GW := hid (wtr GW.out g7)
      have L67 : Hid (w6.heap.size ≤ W7.heap.size) := hid g7.size
      clear hW7 g7 x7 c0 f0 l1 l2 ls l56
      obtain ⟨i0, hi0, hz0, hz1, hz2⟩ := info_parts17 info_str17
      have HTX : Hid (∀ (W : World) j u, ([Value.string T] : List Value)[j]? = some u → (W.alloc (.cells #[.string T] 9)).cell? ((⟨W.heap.size, 0, none⟩ : Addr).add j) = some u) := by
        intro W j u hu
        cases j with
        | zero =>
          simp at hu; subst hu
          have h := heap_alloc_new W (.cells #[.string T] 9)
          exact cell_of_row _ _ 0 _ _ _ h
        | succ j => simp at hu
      have LTK : Hid ((S.take k).length = k) := hid (by rw [List.length_take, HSL.out]; omega)
      go_wp2_with (at_builtin; refine wpList_append_own_at _ rfl (.tmp 52) (.tmp 54) 26 rfl w3.heap.size 9 i0 _ 1 16 Try.underlying26 hi0 hz0 hz1 hz2 rfl (by decide) _ _ _ (by rfl) (OwV.later OS.out (bpush (bre _) _)) ⟨W7.heap.size, 0, none⟩ 1 1 [.string T] (by rfl) rfl (HTX.out W7) (by intro u hu; simp at hu; subst hu; rfl) (by have := LTK.out; have := HN.out; unfold maxLen; omega) (by have := LTK.out; have := HN.out; omega) (by have h1 := LS.out; have h2 := L56.out; have h3 := L67.out; simp; omega) ?_; intro v8 w8 hown8 hg8 _ h8)
      have own8 : OwV w8 w3.heap.size v8 (S.take (k + 1)) := by rw [← htk]; simpa [OwV] using hown8
      obtain ⟨sa', sc', hv8, _⟩ := own8.shape
      rw [hln] at hv8
      subst hv8
      have bx : Below W7.heap.size W7 (W7.alloc (.cells #[.string T] 9)) := bpush (bre _) _
      have hW8 : (W7.alloc (.cells #[.string T] 9)).heap.size = W7.heap.size + 1 := by simp
      have l1 := L1.out; have l2 := L2.out; have ls := LS.out; have l56 := L56.out; have l67 := L67.out
      have r1 := (AB.out.later bx).grown hg8 (fun e => by have := KS.out _ e.symm; omega)
      have r2 := own_base (own_off17 (OwV.later OG.out bx) hg8 (fun j hj e => by have h1 := KS.out j e; have h2 := KG.out j hj; omega)) (show w1.heap.size ≤ w5.heap.size by omega)
      have r3 : ∀ j, Value.ownBlock (.slice ag (k + 1) cg) = some j → Value.ownBlock (.slice sa' (k + 1) sc') ≠ some j ∧ j ≠ v2.heap.size ∧ j ≠ v3.heap.size := fun j hj => by
        have h2 := KG.out j hj
        refine ⟨fun e => ?_, by omega, by omega⟩
        rcases h8 with h | h
        · have h1 := KS.out j (h.symm.trans e); omega
        · rw [h, hW8] at e; simp only [Option.some.injEq] at e; omega
      have r4 := wtr_far17 (wtr GW.out (gof _ bx)) hg8 (fun j hj => (KS.out j hj).1)
      have RR := hid (And.intro own8 (And.intro r1 (And.intro r2 (And.intro r3 r4))))
      clear own8 r1 r2 r3 r4 bx hW8 l1 l2 ls l56 l67 h8 hg8 hown8
      have hN4 : k < 12 := by have := HN.out; omega
      have hw4 : wrap64 ((k : Int) + 1) = (k : Int) + 1 := by unfold wrap64; omega
      go_roundw
      case rel => exact ⟨k + 1, sa', sc', ag, cg, hlt, by go_num, rfl, RR.out.1, RR.out.2.1, RR.out.2.2.1, RR.out.2.2.2.1, RR.out.2.2.2.2⟩
      case measure => rw [hw4]; simp [intOf]; omega
    · obtain rfl : N = k := by omega
      have hSk : S.take N = S := List.take_of_length_le (by rw [HSL.out]; exact Nat.le_refl _)
      rw [hSk] at OS OA
      clear hSk hlt
      have l1 := L1.out; have l2 := L2.out
      have hne : some v3.heap.size ≠ some v2.heap.size := by simp; omega
      have b9 : Below wr.heap.size wr (wr.alloc (.cells #[] 9)) := bpush (bre _) _
      have kbr := BB.out.grown GW.out hne
      have obr := own_off17 OB.out GW.out (fun q hq e => by have := HOB.out q hq; simp at e; omega)
      have lw := GW.out.size
      have LN : Hid (LnS wr (wr.alloc (.cells #[] 9)) v2.heap.size v3.heap.size w1.heap.size S 0 0 0 wa N wc ab cb (some ⟨wr.heap.size, 0, none⟩) 0) := hid ⟨AB.out.later b9, by rw [List.drop_zero]; exact (SlV.of OA.out).later b9, kbr.later b9, ((SlV.of obr).later b9).base (by omega), by rw [List.take_zero]; exact ownV_empty17 wr _ (Nat.le_refl _), fun q hq => ⟨(NE.out q hq).2.1, (NE.out q hq).2.2, fun e => by have h1 := (World.ownsRow.lt OA.out q hq).2; simp [Value.ownBlock] at e; omega⟩, fun q hq => by have h1 := HOB.out q hq; exact ⟨by omega, by omega, fun e => by simp [Value.ownBlock] at e; omega⟩, ⟨by omega, by omega, by omega, by omega⟩, b9.os, b9.tape, b9.output, b9.size, fun q h1 _ _ => b9.block q h1⟩
      have OSR : Hid (OwV wr w3.heap.size (.slice sa N sc) S) := OS
      have KSR : Hid (∀ q, Value.ownBlock (.slice sa N sc) = some q → w3.heap.size ≤ q ∧ q < wr.heap.size) := hid (fun q hq => World.ownsRow.lt OS.out q hq)
      have PR : Hid (∀ (W : World), (∀ q, q < wr.heap.size → q ≠ v2.heap.size → q ≠ v3.heap.size → W.heap[q]? = wr.heap[q]?) → ∀ i (h : i < Z.length), W.cell? ⟨g, i, none⟩ = some (.int .i64 (Z[i] : Int)))   := hid (fun (W : World) hf i h => by
        have hgz := HG.out
        have b13 := B13.out.size
        have h0 := hf g (by omega) (by omega) (by omega)
        have h1 : wr.heap[g]? = w3.heap[g]? := GW.out.block g (by omega) (by simp; omega)
        have h2 := B13.out.block g HG.out.2
        exact (cell_sameT ((h0.trans h1).trans h2)).trans (HC.out i h))
      have BR : Hid (Below w'.heap.size w' w1 ∧ w3.grownBy wr (some v2.heap.size)) := hid ⟨BE.out, GW.out⟩
      have LR : Hid (w1.heap.size ≤ v2.heap.size ∧ v2.heap.size < v3.heap.size ∧ v3.heap.size < wr.heap.size ∧ w1.heap.size ≤ w3.heap.size) := hid (by omega)
      have HSD : Hid (∀ W : World, (∀ q, q < wr.heap.size → q ≠ v2.heap.size → q ≠ v3.heap.size → W.heap[q]? = wr.heap[q]?) → wr.heap.size ≤ W.heap.size → Ss w3.heap.size wr.heap.size W sa S) := hid (fun W hf hsz => ((SlV.of OSR.out).ss).same hsz (fun q hq1 hq2 => hf q hq2 (by omega) (by omega)))
      have HSC : Hid (N ≤ sc) := hid (SlV.of OSR.out).2.2.1
      have HSG : Hid (∃ k, sa = some ⟨k, 0, none⟩) := hid (by obtain ⟨q, e, _⟩ := own_at17 OSR.out (by rw [HSL.out]; exact HN.out.1); exact ⟨q, e⟩)
      clear l1 l2 hne b9 kbr obr lw AB OA NE GW OS
      have SM : Hid (Sm17 S) := hid ⟨by rw [HSL.out]; exact HN.out.2, HSZ.out⟩
      go_wp2_with fail
      obtain ⟨wq, rfl⟩ : ∃ x, x = wr := ⟨wr, rfl⟩
      go_loopw [10, 11] (fun hv iv W => ∃ (m i j : Nat) (wa : Option Addr) (wn wc : Nat) (ba : Option Addr) (bc : Nat) (ha : Option Addr) (hc : Nat), m ≤ 12 ∧ iv = .int .i64 (m : Int) ∧ hv = .slice ha j hc ∧ i ≤ j ∧ j ≤ i + 1 ∧ j ≤ N ∧ LnS wq W v2.heap.size v3.heap.size w1.heap.size S i j j wa wn wc ba bc ha hc) (fun _ iv _ => 12 - (intOf iv).toNat)
      case atStart => exact ⟨0, 0, 0, wa, N, wc, ab, cb, some ⟨wq.heap.size, 0, none⟩, 0, Nat.zero_le _, rfl, rfl, Nat.le_refl _, Nat.zero_le _, Nat.zero_le _, LN.out⟩
      case round =>
        obtain ⟨m, i, j, wa, wn, wk, ba, bc, ha, hc, hm, rfl, rfl, hi1, hi2, hi3, hL⟩ := hrel
        have HL := hid hL
        have HI : Hid (i ≤ j ∧ j ≤ i + 1 ∧ j ≤ N) := hid ⟨hi1, hi2, hi3⟩
        clear hL hi1 hi2 hi3
        by_cases hlt : m < 12
        · obtain ⟨ok, j', T, hprop, hcall⟩ := hearsB SM.out (i := i) (jb := j) ⟨HI.out.1, HI.out.2.1, by rw [HSL.out]; exact HI.out.2.2⟩
          have HCB := hid hcall
          have HPB := hid hprop
          have CSA := hid (HL.out.saysA SM.out)
          obtain ⟨sn, hsn⟩ : ∃ x, sayN (S.drop i) ((i : Int) + 1) = x := ⟨_, rfl⟩
          obtain ⟨st, hst⟩ : ∃ x, sayT (S.drop i) = x := ⟨_, rfl⟩
          rw [hsn, hst] at HCB CSA
          have HSN := hid hsn
          have HST := hid hst
          have HJB : Hid (i ≤ j' ∧ j' ≤ i + 1 ∧ j' ≤ N ∧ (j' = i → S.length ≤ i)) := hid (by
            have h1 := HI.out
            have h2 := HSL.out
            cases ok with
            | true => obtain ⟨r1, r2, r3, _⟩ := hprop.1 rfl; omega
            | false =>
              obtain ⟨r1, r2⟩ := hprop.2 rfl
              refine ⟨by omega, by omega, by omega, fun h => ?_⟩
              rcases Nat.lt_or_ge i S.length with h3 | h3
              · have := r2 h3; omega
              · exact h3)
          clear hcall hprop hsn hst
          have hmZ : m < Z.length := by rw [HZL.out]; exact hlt
          obtain ⟨z, hz⟩ : ∃ z, Z[m] = z := ⟨_, rfl⟩
          have HPZ : Hid (∀ W : World, (∀ q, q < wq.heap.size → q ≠ v2.heap.size → q ≠ v3.heap.size → W.heap[q]? = wq.heap[q]?) → W.cell? ⟨g, m, none⟩ = some (.int .i64 (z : Int))) := hid (fun W hf => by rw [← hz]; exact PR.out W hf m hmZ)
          have HZB : Hid (z < 10000) := hid (by rw [← hz]; exact HZ.out m hmZ)
          clear hz hmZ
          have c0 := HL.out.a.cells
          have hm12 : (m : Int) < 12 := by omega
          go_wp2_with fail
          refine CSA.out.mono ?_; rintro e u1 ⟨rfl, hb1⟩
          obtain ⟨u2, hu2⟩ : ∃ W, u1.alloc (.cells #[.int .i64 3, .int .i64 sn, .int .i64 1, .string st] 34) = W := ⟨_, rfl⟩
          have b2 : Below u1.heap.size u1 u2 := by subst hu2; exact bpush (bre _) _
          have PX : Hid (Pk u2 u1.heap.size 34 3 sn 1 st) := hid (by subst hu2; exact Pk.new _ _ _ _ _ _)
          have HL2 := hid ((HL.out.later hb1).later b2)
          have HLQ1 : Hid (∀ q, Value.ownBlock (.slice ha j hc) = some q → q < u1.heap.size) := hid (fun q hq => (World.ownsRow.lt (HL.out.later hb1).h q hq).2)
          have LU : Hid (wq.heap.size ≤ u1.heap.size ∧ u1.heap.size < u2.heap.size) := hid ⟨Nat.le_trans HL.out.size hb1.size, PX.out.lt⟩
          clear hb1 b2 c0 CSA HL
          have cz := HPZ.out u2 HL2.out.fr
          have hI : (0 : Int) ≤ (m : Int) ∧ (m : Int) < 12 := by omega
          go_upto_if 68 with fail
          go_cut [10] from 57 to 110 (fun hv W => ∃ (j' : Nat) (ba : Option Addr) (bc : Nat) (ha : Option Addr) (hc : Nat), hv = .slice ha j' hc ∧ (i ≤ j' ∧ j' ≤ i + 1 ∧ j' ≤ N) ∧ LnS wq W v2.heap.size v3.heap.size w1.heap.size S i j' j' wa wn wk ba bc ha hc)
          case first =>
            clear cz
            by_cases h3 : (0 : Int) < (z : Int) % 3
            rotate_left
            · go_wp2
              go_meet
              case rel => exact ⟨j, ba, bc, ha, hc, rfl, HI.out, HL2.out⟩
            have cb := HL2.out.b.cells
            have cx := PX.out.cells
            go_wp2_with fail
            refine (HCB.out _ _ _ _ _ _ _ _ _ _ _ _ _ _ HL2.out (bre _)).mono ?_; rintro e u3 ⟨a3, c3, rfl, hs3, hb3⟩
            obtain ⟨u4, hu4⟩ : ∃ W, u3.alloc (.cells #[.int .i64 3, .slice a3 0 c3, .int .i64 1, .int .i64 ((j' : Int) + 1)] 28) = W := ⟨_, rfl⟩
            have b4 : Below u3.heap.size u3 u4 := by subst hu4; exact bpush (bre _) _
            have C4 : Hid (Lk u4 u3.heap.size 28 3 (.slice a3 0 c3) 1 ((j' : Int) + 1)) := hid (by subst hu4; exact Lk.new _ _ _ _ _ _)
            have HL4 := hid ((HL2.out.later hb3).later b4)
            have PX4 := hid ((PX.out.later hb3).later b4)
            have S4 := hid (hs3.later b4)
            have LU4 : Hid (u2.heap.size ≤ u3.heap.size ∧ u3.heap.size < u4.heap.size) := hid ⟨hb3.size, C4.out.lt⟩
            have HLQ : Hid (∀ q, Value.ownBlock (.slice ha j hc) = some q → q < u2.heap.size) := hid (fun q hq => (World.ownsRow.lt HL2.out.h q hq).2)
            clear hb3 b4 cb cx hs3 PX HCB
            go_upto_region 21 with fail
            clear hu4
            have cc := C4.out.cells
            have cb := HL4.out.b.cells
            have fb := HL4.out.b.loose
            go_upto_if 77 with fail
            have HL5 := hid (HL4.out.hear (v0 := u2) (jb' := j') (ba' := a3) (bc' := c3) (by have := LU.out; omega) HLQ.out S4.out)
            have PX5 := hid (PX4.out.grown (putL_grown u4 v3.heap.size 3 (.slice a3 0 c3) 1 ((j' : Int) + 1)) (by have h1 := LU.out; have h2 := LR.out; simp; omega))
            obtain ⟨u5, hu5⟩ : ∃ W, putL u4 v3.heap.size 3 (.slice a3 0 c3) 1 ((j' : Int) + 1) = W := ⟨_, rfl⟩
            have g5 := (putL_grown u4 v3.heap.size 3 (.slice a3 0 c3) 1 ((j' : Int) + 1)).size
            rw [hu5] at HL5 PX5 g5
            unfold putL at hu5
            rw [hu5]
            have LU5 : Hid (u4.heap.size ≤ u5.heap.size) := hid g5
            clear hu5 g5 cc cb fb HL4 PX4 C4
            go_cut [10] from 57 to 110 (fun hv W => ∃ (ha : Option Addr) (hc : Nat), hv = .slice ha j' hc ∧ LnS wq W v2.heap.size v3.heap.size w1.heap.size S i j' j' wa wn wk a3 c3 ha hc ∧ Pk W u1.heap.size 34 3 sn 1 st)
            case first =>
              cases ok with
              | false =>
                obtain ⟨rfl, _⟩ := HPB.out.2 rfl
                go_wp2
                go_meet
                case rel => exact ⟨ha, hc, rfl, HL5.out, PX5.out⟩
              | true =>
                obtain ⟨hij, hjS, rfl, htk, hT4⟩ := HPB.out.1 rfl
                obtain ⟨i0, hi0, hz0, hz1, hz2⟩ := info_parts17 info_str17
                have HTX : Hid (∀ (W : World) j u, ([Value.string T] : List Value)[j]? = some u → (W.alloc (.cells #[.string T] 9)).cell? ((⟨W.heap.size, 0, none⟩ : Addr).add j) = some u) := by
                  intro W j u hu
                  cases j with
                  | zero =>
                    simp at hu; subst hu
                    have h := heap_alloc_new W (.cells #[.string T] 9)
                    exact cell_of_row _ _ 0 _ _ _ h
                  | succ j => simp at hu
                have LTK : Hid ((S.take j).length = j) := hid (by rw [List.length_take, HSL.out]; have := HI.out; omega)
                have HTK := hid htk
                have HJ9 : Hid (j ≤ 4) := hid (by have h1 := HI.out; have h2 := HN.out; omega)
                have hln : (S.take (j + 1)).length = j + 1 := by rw [List.length_take]; omega
                have HLN := hid hln
                clear htk hln hij
                go_wp2_with (at_builtin; refine wpList_append_own_at _ rfl (.tmp 78) (.tmp 80) 26 rfl wq.heap.size 9 i0 _ 1 16 Try.underlying26 hi0 hz0 hz1 hz2 rfl (by decide) _ _ _ (by rfl) (OwV.later HL5.out.h (bpush (bre _) _)) ⟨u5.heap.size, 0, none⟩ 1 1 [.string T] (by rfl) rfl (HTX.out u5) (by intro u hu; simp at hu; subst hu; rfl) (by have := LTK.out; have := HJ9.out; unfold maxLen; omega) (by have := LTK.out; have := HJ9.out; omega) (by have h1 := HL5.out.size; simp; omega) ?_; intro v8 w8 hown8 hg8 _ h8; have own8 : OwV w8 wq.heap.size v8 (S.take (j + 1)) := (by rw [← HTK.out]; simpa [OwV] using hown8); obtain ⟨sa', sc', hv8, _⟩ := own8.shape; rw [HLN.out] at hv8; subst hv8; have HL8 := hid (HL5.out.more (T := T) own8 hg8 h8 ⟨fun q hq => (HL5.out.oa.2.2.2.2 q hq).2, fun q hq => (HL5.out.ob.2.2.2.2 q hq).2⟩); have PX8 := hid ((PX5.out.later (bpush (bre u5) (.cells #[.string T] 9))).grown hg8 (fun e => by have h1 := (World.ownsRow.lt HL5.out.h _ e.symm).2; have h2 := HLQ1.out _ e.symm; omega)); clear own8 hg8 h8 hown8)
                go_meet
                case rel => exact ⟨_, _, rfl, HL8.out, PX8.out⟩
            case rest =>
              obtain ⟨ha2, hc2, rfl, hL6, hP6⟩ := hcut
              have HL6 := hid hL6
              have PX6 := hid hP6
              have cz := HPZ.out wc hL6.fr
              clear hL6 hP6 HL5 PX5 HL2 HPB
              by_cases h31 : (1 : Int) < (z : Int) % 3
              rotate_left
              · go_wp2
                go_meet
                case rel => exact ⟨j', a3, c3, ha2, hc2, rfl, ⟨HJB.out.1, HJB.out.2.1, HJB.out.2.2.1⟩, HL6.out⟩
              obtain ⟨ok2, j2, T2, hp2, hcall2⟩ := hearsB SM.out (i := i) (jb := j') ⟨HJB.out.1, HJB.out.2.1, by rw [HSL.out]; exact HJB.out.2.2.1⟩
              obtain rfl : false = ok2 := by
                cases ok2 with
                | false => rfl
                | true => obtain ⟨r1, r2, _⟩ := hp2.1 rfl; have := HJB.out.2.2.2 r1.symm; omega
              obtain ⟨rfl, _⟩ := hp2.2 rfl
              rw [HSN.out, HST.out] at hcall2
              have HCD := hid hcall2
              clear hp2 hcall2
              have cb := HL6.out.b.cells
              have cx := PX6.out.cells
              go_wp2_with fail
              refine (HCD.out _ _ _ _ _ _ _ _ _ _ _ _ _ _ HL6.out (bre _)).mono ?_; rintro e u7 ⟨a7, c7, rfl, hs7, hb7⟩
              obtain ⟨u8, hu8⟩ : ∃ W, u7.alloc (.cells #[.int .i64 3, .slice a7 0 c7, .int .i64 1, .int .i64 ((j2 : Int) + 1)] 28) = W := ⟨_, rfl⟩
              have b8 : Below u7.heap.size u7 u8 := by subst hu8; exact bpush (bre _) _
              have C8 : Hid (Lk u8 u7.heap.size 28 3 (.slice a7 0 c7) 1 ((j2 : Int) + 1)) := hid (by subst hu8; exact Lk.new _ _ _ _ _ _)
              have HL8 := hid ((HL6.out.later hb7).later b8)
              have S8 := hid (hs7.later b8)
              have HLQ6 : Hid (∀ q, Value.ownBlock (.slice ha2 j2 hc2) = some q → q < wc.heap.size) := hid (fun q hq => (World.ownsRow.lt HL6.out.h q hq).2)
              have HSZ6 : Hid (wq.heap.size ≤ wc.heap.size) := hid HL6.out.size
              clear hb7 b8 cb cx hs7 PX6 HCD HL6 cz
              go_upto_region 28 with fail
              clear hu8
              have cc := C8.out.cells
              have cb := HL8.out.b.cells
              have fb := HL8.out.b.loose
              go_wp2
              have HL9 := hid (HL8.out.hear (v0 := wc) (jb' := j2) (ba' := a7) (bc' := c7) HSZ6.out HLQ6.out S8.out)
              unfold putL at HL9
              go_meet
              case rel => exact ⟨j2, a7, c7, ha2, hc2, rfl, ⟨HJB.out.1, HJB.out.2.1, HJB.out.2.2.1⟩, HL9.out⟩
          case rest =>
            obtain ⟨j3, ba3, bc3, ha3, hc3, rfl, hI3, hL3⟩ := hcut
            have HL3 := hid hL3
            have HI3 := hid hI3
            have cz := HPZ.out wc hL3.fr
            have hw4 : wrap64 ((m : Int) + 1) = (m : Int) + 1 := by unfold wrap64; omega
            clear hL3 hI3 HPB HCB HL2 PX HLQ1 HI HSN HST HJB
            by_cases h2 : (0 : Int) < (z : Int) % 2
            rotate_left
            · go_wp2
              go_roundw
              case rel => exact ⟨m + 1, i, j3, wa, wn, wk, ba3, bc3, ha3, hc3, by omega, by simp, rfl, HI3.out.1, HI3.out.2.1, HI3.out.2.2, HL3.out⟩
              case measure => simp [intOf]; omega
            obtain ⟨i', n', hpA, hcallA⟩ := hearsA SM.out (i := i) (jb := j3) ⟨HI3.out.1, HI3.out.2.1, by rw [HSL.out]; exact HI3.out.2.2⟩
            have HPA := hid hpA
            have HCA := hid hcallA
            clear hpA hcallA
            go_upto_region 30 with fail
            clear cz h2
            refine wp_region_noPanic ?_
            refine wp_region_held_drew (S := (fun W => W.cell? ⟨v3.heap.size, 0, none⟩ = some (.int .i64 3) ∧ W.cell? ⟨v3.heap.size, 1, none⟩ = some (.slice ba3 0 bc3) ∧ W.cell? ⟨v3.heap.size, 2, none⟩ = some (.int .i64 1) ∧ W.cell? ⟨v3.heap.size, 3, none⟩ = some (.int .i64 ((j3 : Int) + 1)))) (by kernel_rfl) HL3.out.b.cells (fun hHeld => ?_)
            replace HL3 := hid (HL3.out.later (bdr (bre _)))
            obtain ⟨x0, hx0⟩ : ∃ x, wc.drew = x := ⟨_, rfl⟩
            rw [hx0] at HL3 hHeld
            rw [hx0]
            clear hx0
            refine tk 1 ?_
            clear hHeld
            refine wpAnyH_ready (rs := [0, 2]) (by kernel_rfl) (by simp) ?_
            refine rc (fun K hK => ?_) (rl (fun K hK => ?_))
            · have ca := HL3.out.a.cells
              go_simp
              clear ca
              refine hK.out _ _ HL3.out.b.cells (fun hHeld => ?_)
              clear hK K
              try simp only [Act.put, List.setIfInBounds_toArray, List.set_cons_zero, List.set_cons_succ]
              clear hHeld
              refine ry 2 (fun K hK => ?_)
              go_simp
              refine (HL3.out.saysB).mono ?_; rintro e x3 ⟨rfl, hb3⟩
              replace HL3 := hid (HL3.out.later hb3)
              clear hb3
              refine hK.out _ _ HL3.out.b.cells (fun hHeld => ?_)
              clear hK K
              try simp only [Act.put, List.setIfInBounds_toArray, List.set_cons_zero, List.set_cons_succ]
              clear hHeld
              refine ry 3 (fun K hK => ?_)
              go_simp
              refine (HCA.out _ _ _ _ _ _ _ _ _ _ _ _ _ _ HL3.out (bre _)).mono ?_; rintro e x4 ⟨a4, c4, rfl, hs4, hb4⟩
              have HLQ4 : Hid (∀ q, Value.ownBlock (.slice ha3 j3 hc3) = some q → q < x3.heap.size) := hid (fun q hq => (World.ownsRow.lt HL3.out.h q hq).2)
              have HSZ4 : Hid (wq.heap.size ≤ x3.heap.size) := hid HL3.out.size
              replace HL3 := hid (HL3.out.later hb4)
              have S4 := hid hs4
              clear hb4 hs4
              refine hK.out _ _ HL3.out.b.cells (fun hHeld => ?_)
              clear hK K
              try simp only [Act.put, List.setIfInBounds_toArray, List.set_cons_zero, List.set_cons_succ]
              refine tk 4 ?_
              refine tk 5 ?_
              refine tk 6 ?_
              refine tk 7 ?_
              clear hHeld
              refine ry 8 (fun K hK => ?_)
              have c4 := HL3.out.a.cells
              have f4 := HL3.out.a.loose
              go_simp
              clear c4 f4
              have HL9 := hid (HL3.out.ack (i' := i') HSZ4.out HLQ4.out S4.out)
              unfold putL at HL9
              refine hK.out _ _ HL9.out.b.cells (fun hHeld => ?_)
              clear hK K
              try simp only [Act.put, List.setIfInBounds_toArray, List.set_cons_zero, List.set_cons_succ]
              refine wpAnyH_done (by kernel_rfl) ?_ _
              refine NoPanic.normal ?_
              go_wp2
              go_roundw
              case rel => exact ⟨m + 1, i', j3, a4, n', c4, ba3, bc3, ha3, hc3, by omega, by simp, rfl, HPA.out.2.1, HPA.out.2.2.1, HI3.out.2.2, HL9.out⟩
              case measure => simp [intOf]; omega
            · go_simp
              refine (HL3.out.saysB).mono ?_; rintro e x3 ⟨rfl, hb3⟩
              replace HL3 := hid (HL3.out.later hb3)
              clear hb3
              refine hK.out _ _ HL3.out.b.cells (fun hHeld => ?_)
              clear hK K
              try simp only [Act.put, List.setIfInBounds_toArray, List.set_cons_zero, List.set_cons_succ]
              clear hHeld
              refine ry 0 (fun K hK => ?_)
              have ca := HL3.out.a.cells
              go_simp
              clear ca
              refine hK.out _ _ HL3.out.b.cells (fun hHeld => ?_)
              clear hK K
              try simp only [Act.put, List.setIfInBounds_toArray, List.set_cons_zero, List.set_cons_succ]
              clear hHeld
              refine ry 3 (fun K hK => ?_)
              go_simp
              refine (HCA.out _ _ _ _ _ _ _ _ _ _ _ _ _ _ HL3.out (bre _)).mono ?_; rintro e x4 ⟨a4, c4, rfl, hs4, hb4⟩
              have HLQ4 : Hid (∀ q, Value.ownBlock (.slice ha3 j3 hc3) = some q → q < x3.heap.size) := hid (fun q hq => (World.ownsRow.lt HL3.out.h q hq).2)
              have HSZ4 : Hid (wq.heap.size ≤ x3.heap.size) := hid HL3.out.size
              replace HL3 := hid (HL3.out.later hb4)
              have S4 := hid hs4
              clear hb4 hs4
              refine hK.out _ _ HL3.out.b.cells (fun hHeld => ?_)
              clear hK K
              try simp only [Act.put, List.setIfInBounds_toArray, List.set_cons_zero, List.set_cons_succ]
              refine tk 4 ?_
              refine tk 5 ?_
              refine tk 6 ?_
              refine tk 7 ?_
              clear hHeld
              refine ry 8 (fun K hK => ?_)
              have c4 := HL3.out.a.cells
              have f4 := HL3.out.a.loose
              go_simp
              clear c4 f4
              have HL9 := hid (HL3.out.ack (i' := i') HSZ4.out HLQ4.out S4.out)
              unfold putL at HL9
              refine hK.out _ _ HL9.out.b.cells (fun hHeld => ?_)
              clear hK K
              try simp only [Act.put, List.setIfInBounds_toArray, List.set_cons_zero, List.set_cons_succ]
              refine wpAnyH_done (by kernel_rfl) ?_ _
              refine NoPanic.normal ?_
              go_wp2
              go_roundw
              case rel => exact ⟨m + 1, i', j3, a4, n', c4, ba3, bc3, ha3, hc3, by omega, by simp, rfl, HPA.out.2.1, HPA.out.2.2.1, HI3.out.2.2, HL9.out⟩
              case measure => simp [intOf]; omega
        · have HL0 := hid HL.out
          have hfr := HL.out.fr
          have HSS := hid (HSD.out wr HL.out.fr HL.out.size)
          have HHS := hid (SlV.of HL.out.h)
          obtain ⟨sg, rfl⟩ : ∃ k, sa = some ⟨k, 0, none⟩ := HSG.out
          have hsc := HSC.out
          have hNN := HN.out
          have hjN : ¬ (N : Int) < (j : Int) := by have := HI.out; omega
          have hjc : (0 : Int) ≤ (j : Int) ∧ (j : Int) ≤ (sc : Int) := by have := HI.out; omega
          have hm12 : ¬ (m : Int) < 12 := by omega
          have CS := hid (fun (ca cb : Nat) => same17_any _ _ _ _ ha (some ⟨sg, 0, none⟩) j ca cb (S.take j) wr (by rw [List.length_take, HSL.out]; have := HI.out; omega) (by have := HI.out; omega) HHS.out.ss (HSS.out.take17 j))
          go_wp2_with fail
          refine (CS.out hc sc).mono ?_; rintro e y1 ⟨rfl, hb1⟩
          have HLy := hid (HL.out.later hb1)
          clear HL
          clear CS HHS HSS HL0 hfr hb1 hjN hjc hm12
          go_wp2_with fail
          obtain ⟨wt, rfl⟩ : ∃ x, x = wr := ⟨wr, rfl⟩
          go_loopw [10, 19] (fun hv iv W => ∃ (k i j : Nat) (wa : Option Addr) (wn wk : Nat) (ba : Option Addr) (bc : Nat) (ha : Option Addr) (hc : Nat), k ≤ 8 ∧ iv = .int .i64 (k : Int) ∧ hv = .slice ha j hc ∧ (i ≤ j ∧ j ≤ i + 1 ∧ j ≤ N ∧ (k ≤ i ∨ N ≤ i)) ∧ LnS wq W v2.heap.size v3.heap.size w1.heap.size S i j j wa wn wk ba bc ha hc) (fun _ iv _ => 8 - (intOf iv).toNat)
          case atStart => exact ⟨0, i, j, wa, wn, wk, ba, bc, ha, hc, Nat.zero_le _, rfl, rfl, ⟨HI.out.1, HI.out.2.1, HI.out.2.2, Or.inl (Nat.zero_le _)⟩, HLy.out⟩
          case round =>
            clear HLy HI
            obtain ⟨k, i, j, wa, wn, wk, ba, bc, ha, hc, hk, rfl, rfl, hI, hL⟩ := hrel
            have HL := hid hL
            have HI := hid hI
            clear hL hI
            by_cases hlt : k < 8
            · obtain ⟨ok, j', T, hprop, hcall⟩ := hearsB SM.out (i := i) (jb := j) ⟨HI.out.1, HI.out.2.1, by rw [HSL.out]; exact HI.out.2.2.1⟩
              have HCB := hid hcall
              have HPB := hid hprop
              have CSA : Hid (∀ W, LnS wq W v2.heap.size v3.heap.size w1.heap.size S i j j wa wn wk ba bc ha hc → Calls Try.prog 9 #[lkv 3 (.slice wa wn wk) ((i : Int) + 1) 1] W fun e w' => e = .returned (pkv 3 (sayN (S.drop i) ((i : Int) + 1)) 1 (sayT (S.drop i))) ∧ Below W.heap.size W w') := hid (fun W h => h.saysA SM.out)
              obtain ⟨sn, hsn⟩ : ∃ x, sayN (S.drop i) ((i : Int) + 1) = x := ⟨_, rfl⟩
              obtain ⟨st, hst⟩ : ∃ x, sayT (S.drop i) = x := ⟨_, rfl⟩
              rw [hsn, hst] at HCB CSA
              have HJB : Hid (i ≤ j' ∧ j' ≤ i + 1 ∧ j' ≤ N ∧ (i < N → j' = i + 1)) := hid (by
                have h1 := HI.out
                have h2 := HSL.out
                cases ok with
                | true => obtain ⟨r1, r2, r3, _⟩ := hprop.1 rfl; omega
                | false =>
                  obtain ⟨r1, r2⟩ := hprop.2 rfl
                  refine ⟨by omega, by omega, by omega, fun h => ?_⟩
                  have := r2 (by omega)
                  omega)
              clear hcall hprop hsn hst
              have hk8 : (k : Int) < 8 := by omega
              go_upto_region 36 with fail
              clear hk8
              go_cut [20, 21, 22] from 125 to 150 (fun p t o W => ∃ (kc : Nat) (a3 : Option Addr) (c3 : Nat), p = .pointer (some ⟨kc, 0, none⟩) ∧ t = .string T ∧ o = .bool ok ∧ Lk W kc 28 3 (.slice a3 0 c3) 1 ((j' : Int) + 1) ∧ LnS wq W v2.heap.size v3.heap.size w1.heap.size S i j j wa wn wk ba bc ha hc ∧ SlV W wr.heap.size a3 0 c3 [] ∧ wr.heap.size ≤ kc)
              case first =>
                refine wp_region_noPanic ?_
                refine wp_region_held_drew (S := (fun W => (W.cell? ⟨v2.heap.size, 0, none⟩ = some (.int .i64 3) ∧ W.cell? ⟨v2.heap.size, 1, none⟩ = some (.slice wa wn wk) ∧ W.cell? ⟨v2.heap.size, 2, none⟩ = some (.int .i64 ((i : Int) + 1)) ∧ W.cell? ⟨v2.heap.size, 3, none⟩ = some (.int .i64 1)) ∧ (W.cell? ⟨v3.heap.size, 0, none⟩ = some (.int .i64 3) ∧ W.cell? ⟨v3.heap.size, 1, none⟩ = some (.slice ba 0 bc) ∧ W.cell? ⟨v3.heap.size, 2, none⟩ = some (.int .i64 1) ∧ W.cell? ⟨v3.heap.size, 3, none⟩ = some (.int .i64 ((j : Int) + 1))))) (by kernel_rfl) ⟨HL.out.a.cells, HL.out.b.cells⟩ (fun hHeld => ?_)
                have HLx := hid (HL.out.later (bdr (bre _)))
                have X0S : Hid (wr.heap.size = wr.drew.heap.size) := hid rfl
                obtain ⟨x0, hx0⟩ : ∃ x, wr.drew = x := ⟨_, rfl⟩
                rw [hx0] at HLx hHeld X0S
                rw [hx0]
                have BB := hid (bre x0)
                clear hx0
                refine tk 0 ?_
                refine tk 1 ?_
                clear hHeld
                refine wpAnyH_ready (rs := [2, 8]) (by kernel_rfl) (by simp) ?_
                refine rc (fun K hK => ?_) (rl (fun K hK => ?_))
                · go_simp
                  refine (CSA.out _ (HLx.out.later BB.out)).mono ?_; rintro e x1 ⟨rfl, hb1⟩
                  replace BB := hid (btr BB.out hb1)
                  clear hb1
                  refine hK.out _ _ ⟨(HLx.out.later BB.out).a.cells, (HLx.out.later BB.out).b.cells⟩ (fun hHeld => ?_)
                  clear hK K
                  try simp only [Act.put, List.setIfInBounds_toArray, List.set_cons_zero, List.set_cons_succ]
                  clear hHeld
                  refine wpAnyH_ready (rs := [3, 8]) (by kernel_rfl) (by simp) ?_
                  refine rc (fun K hK => ?_) (rl (fun K hK => ?_))
                  · go_simp
                    refine (HCB.out _ _ _ _ _ _ _ _ _ _ _ _ _ _ (HLx.out.later BB.out) (bre _)).mono ?_; rintro e x2 ⟨a3, c3, rfl, hs3, hb3⟩
                    have S3 := hid (hs3.base (show x0.heap.size ≤ _ from BB.out.size))
                    replace BB := hid (btr BB.out hb3)
                    clear hs3 hb3
                    refine hK.out _ _ ⟨(HLx.out.later BB.out).a.cells, (HLx.out.later BB.out).b.cells⟩ (fun hHeld => ?_)
                    clear hK K
                    try simp only [Act.put, List.setIfInBounds_toArray, List.set_cons_zero, List.set_cons_succ]
                    refine tk 4 ?_
                    refine tk 5 ?_
                    refine tk 6 ?_
                    refine tk 7 ?_
                    clear hHeld
                    refine ry 8 (fun K hK => ?_)
                    go_simp
                    have C : Hid (Lk (x2.alloc (.cells lk0 28)) x2.heap.size 28 0 (.slice none 0 0) 0 0) := hid (Lk.new x2 _ _ _ _ _)
                    have hkb := BB.out.size
                    have NE : Hid (∀ q, Value.ownBlock (.slice a3 0 c3) = some q → q ≠ x2.heap.size) := hid (fun q hq e => by have h1 := (S3.out.2.2.2.2 q hq).2; omega)
                    replace S3 := hid (S3.out.later (bpush (bre x2) (.cells lk0 28)))
                    replace BB := hid (btr BB.out (bpush (bre x2) (.cells lk0 28)))
                    obtain ⟨x9, hx9⟩ : ∃ x, x2.alloc (.cells lk0 28) = x := ⟨_, rfl⟩
                    obtain ⟨kc, hkc⟩ : ∃ x, x2.heap.size = x := ⟨_, rfl⟩
                    rw [hx9] at C BB S3
                    rw [hkc] at C NE
                    have KC : Hid (x0.heap.size ≤ kc) := hid (by omega)
                    rw [hx9, hkc]
                    clear hx9 hkc hkb
                    refine hK.out _ _ ⟨(HLx.out.later BB.out).a.cells, (HLx.out.later BB.out).b.cells⟩ (fun hHeld => ?_)
                    clear hK K
                    try simp only [Act.put, List.setIfInBounds_toArray, List.set_cons_zero, List.set_cons_succ]
                    obtain ⟨x8, rfl⟩ : ∃ x, x = x9 := ⟨x9, rfl⟩
                    clear hHeld
                    refine ry 9 (fun K hK => ?_)
                    have c9 := C.out.cells
                    have f9 := C.out.loose
                    go_simp
                    clear c9 f9
                    have C9 := hid (C.out.put 3 (.slice a3 0 c3) 1 ((j' : Int) + 1))
                    have S9 := hid (S3.out.off (putL_grown x8 kc 3 (.slice a3 0 c3) 1 ((j' : Int) + 1)) (fun q hq e => NE.out q hq (by simpa using e.symm)))
                    replace BB : Hid (Below x0.heap.size x0 (putL x8 kc 3 (.slice a3 0 c3) 1 ((j' : Int) + 1))) := hid (bset (bset (bset (bset BB.out KC.out _) KC.out _) KC.out _) KC.out _)
                    obtain ⟨y8, hy8⟩ : ∃ x, putL x8 kc 3 (.slice a3 0 c3) 1 ((j' : Int) + 1) = x := ⟨_, rfl⟩
                    rw [hy8] at C9 S9 BB
                    unfold putL at hy8
                    rw [hy8]
                    clear hy8
                    refine hK.out _ _ ⟨(HLx.out.later BB.out).a.cells, (HLx.out.later BB.out).b.cells⟩ (fun hHeld => ?_)
                    clear hK K
                    try simp only [Act.put, List.setIfInBounds_toArray, List.set_cons_zero, List.set_cons_succ]
                    refine tk 10 ?_
                    refine tk 11 ?_
                    clear hHeld
                    refine wpAnyH_done (by kernel_rfl) ?_ _
                    refine NoPanic.normal ?_
                    go_wp2
                    go_meet
                    case rel => exact ⟨kc, a3, c3, rfl, rfl, rfl, C9.out, HLx.out.later BB.out, S9.out.base (by rw [← X0S.out]; exact Nat.le_refl _), by rw [X0S.out]; exact KC.out⟩
                  · go_simp
                    have C : Hid (Lk (x1.alloc (.cells lk0 28)) x1.heap.size 28 0 (.slice none 0 0) 0 0) := hid (Lk.new x1 _ _ _ _ _)
                    have hkb := BB.out.size
                    replace BB := hid (btr BB.out (bpush (bre x1) (.cells lk0 28)))
                    obtain ⟨x9, hx9⟩ : ∃ x, x1.alloc (.cells lk0 28) = x := ⟨_, rfl⟩
                    obtain ⟨kc, hkc⟩ : ∃ x, x1.heap.size = x := ⟨_, rfl⟩
                    rw [hx9] at C BB
                    rw [hkc] at C
                    have KC : Hid (x0.heap.size ≤ kc) := hid (by omega)
                    rw [hx9, hkc]
                    clear hx9 hkc hkb
                    refine hK.out _ _ ⟨(HLx.out.later BB.out).a.cells, (HLx.out.later BB.out).b.cells⟩ (fun hHeld => ?_)
                    clear hK K
                    try simp only [Act.put, List.setIfInBounds_toArray, List.set_cons_zero, List.set_cons_succ]
                    clear hHeld
                    refine ry 3 (fun K hK => ?_)
                    go_simp
                    refine (HCB.out _ _ _ _ _ _ _ _ _ _ _ _ _ _ (HLx.out.later BB.out) (bre _)).mono ?_; rintro e x2 ⟨a3, c3, rfl, hs3, hb3⟩
                    have S3 := hid (hs3.base (show x0.heap.size ≤ _ from BB.out.size))
                    have NE : Hid (∀ q, Value.ownBlock (.slice a3 0 c3) = some q → q ≠ kc) := hid (fun q hq e => by have h1 := (hs3.2.2.2.2 q hq).1; have h2 := C.out.lt; omega)
                    replace BB := hid (btr BB.out hb3)
                    replace C := hid (C.out.later hb3)
                    clear hs3 hb3
                    refine hK.out _ _ ⟨(HLx.out.later BB.out).a.cells, (HLx.out.later BB.out).b.cells⟩ (fun hHeld => ?_)
                    clear hK K
                    try simp only [Act.put, List.setIfInBounds_toArray, List.set_cons_zero, List.set_cons_succ]
                    refine tk 4 ?_
                    refine tk 5 ?_
                    refine tk 6 ?_
                    refine tk 7 ?_
                    obtain ⟨x8, rfl⟩ : ∃ x, x = x2 := ⟨x2, rfl⟩
                    clear hHeld
                    refine ry 9 (fun K hK => ?_)
                    have c9 := C.out.cells
                    have f9 := C.out.loose
                    go_simp
                    clear c9 f9
                    have C9 := hid (C.out.put 3 (.slice a3 0 c3) 1 ((j' : Int) + 1))
                    have S9 := hid (S3.out.off (putL_grown x8 kc 3 (.slice a3 0 c3) 1 ((j' : Int) + 1)) (fun q hq e => NE.out q hq (by simpa using e.symm)))
                    replace BB : Hid (Below x0.heap.size x0 (putL x8 kc 3 (.slice a3 0 c3) 1 ((j' : Int) + 1))) := hid (bset (bset (bset (bset BB.out KC.out _) KC.out _) KC.out _) KC.out _)
                    obtain ⟨y8, hy8⟩ : ∃ x, putL x8 kc 3 (.slice a3 0 c3) 1 ((j' : Int) + 1) = x := ⟨_, rfl⟩
                    rw [hy8] at C9 S9 BB
                    unfold putL at hy8
                    rw [hy8]
                    clear hy8
                    refine hK.out _ _ ⟨(HLx.out.later BB.out).a.cells, (HLx.out.later BB.out).b.cells⟩ (fun hHeld => ?_)
                    clear hK K
                    try simp only [Act.put, List.setIfInBounds_toArray, List.set_cons_zero, List.set_cons_succ]
                    refine tk 10 ?_
                    refine tk 11 ?_
                    clear hHeld
                    refine wpAnyH_done (by kernel_rfl) ?_ _
                    refine NoPanic.normal ?_
                    go_wp2
                    go_meet
                    case rel => exact ⟨kc, a3, c3, rfl, rfl, rfl, C9.out, HLx.out.later BB.out, S9.out.base (by rw [← X0S.out]; exact Nat.le_refl _), by rw [X0S.out]; exact KC.out⟩
                · go_simp
                  have C : Hid (Lk (x0.alloc (.cells lk0 28)) x0.heap.size 28 0 (.slice none 0 0) 0 0) := hid (Lk.new x0 _ _ _ _ _)
                  have hkb := BB.out.size
                  replace BB := hid (btr BB.out (bpush (bre x0) (.cells lk0 28)))
                  obtain ⟨x9, hx9⟩ : ∃ x, x0.alloc (.cells lk0 28) = x := ⟨_, rfl⟩
                  obtain ⟨kc, hkc⟩ : ∃ x, x0.heap.size = x := ⟨_, rfl⟩
                  rw [hx9] at C BB
                  rw [hkc] at C
                  have KC : Hid (x0.heap.size ≤ kc) := hid (by omega)
                  rw [hx9, hkc]
                  clear hx9 hkc hkb
                  refine hK.out _ _ ⟨(HLx.out.later BB.out).a.cells, (HLx.out.later BB.out).b.cells⟩ (fun hHeld => ?_)
                  clear hK K
                  try simp only [Act.put, List.setIfInBounds_toArray, List.set_cons_zero, List.set_cons_succ]
                  clear hHeld
                  refine ry 2 (fun K hK => ?_)
                  go_simp
                  refine (CSA.out _ (HLx.out.later BB.out)).mono ?_; rintro e x1 ⟨rfl, hb1⟩
                  replace BB := hid (btr BB.out hb1)
                  replace C := hid (C.out.later hb1)
                  clear hb1
                  refine hK.out _ _ ⟨(HLx.out.later BB.out).a.cells, (HLx.out.later BB.out).b.cells⟩ (fun hHeld => ?_)
                  clear hK K
                  try simp only [Act.put, List.setIfInBounds_toArray, List.set_cons_zero, List.set_cons_succ]
                  clear hHeld
                  refine ry 3 (fun K hK => ?_)
                  go_simp
                  refine (HCB.out _ _ _ _ _ _ _ _ _ _ _ _ _ _ (HLx.out.later BB.out) (bre _)).mono ?_; rintro e x2 ⟨a3, c3, rfl, hs3, hb3⟩
                  have S3 := hid (hs3.base (show x0.heap.size ≤ _ from BB.out.size))
                  have NE : Hid (∀ q, Value.ownBlock (.slice a3 0 c3) = some q → q ≠ kc) := hid (fun q hq e => by have h1 := (hs3.2.2.2.2 q hq).1; have h2 := C.out.lt; omega)
                  replace BB := hid (btr BB.out hb3)
                  replace C := hid (C.out.later hb3)
                  clear hs3 hb3
                  refine hK.out _ _ ⟨(HLx.out.later BB.out).a.cells, (HLx.out.later BB.out).b.cells⟩ (fun hHeld => ?_)
                  clear hK K
                  try simp only [Act.put, List.setIfInBounds_toArray, List.set_cons_zero, List.set_cons_succ]
                  refine tk 4 ?_
                  refine tk 5 ?_
                  refine tk 6 ?_
                  refine tk 7 ?_
                  obtain ⟨x8, rfl⟩ : ∃ x, x = x2 := ⟨x2, rfl⟩
                  clear hHeld
                  refine ry 9 (fun K hK => ?_)
                  have c9 := C.out.cells
                  have f9 := C.out.loose
                  go_simp
                  clear c9 f9
                  have C9 := hid (C.out.put 3 (.slice a3 0 c3) 1 ((j' : Int) + 1))
                  have S9 := hid (S3.out.off (putL_grown x8 kc 3 (.slice a3 0 c3) 1 ((j' : Int) + 1)) (fun q hq e => NE.out q hq (by simpa using e.symm)))
                  replace BB : Hid (Below x0.heap.size x0 (putL x8 kc 3 (.slice a3 0 c3) 1 ((j' : Int) + 1))) := hid (bset (bset (bset (bset BB.out KC.out _) KC.out _) KC.out _) KC.out _)
                  obtain ⟨y8, hy8⟩ : ∃ x, putL x8 kc 3 (.slice a3 0 c3) 1 ((j' : Int) + 1) = x := ⟨_, rfl⟩
                  rw [hy8] at C9 S9 BB
                  unfold putL at hy8
                  rw [hy8]
                  clear hy8
                  refine hK.out _ _ ⟨(HLx.out.later BB.out).a.cells, (HLx.out.later BB.out).b.cells⟩ (fun hHeld => ?_)
                  clear hK K
                  try simp only [Act.put, List.setIfInBounds_toArray, List.set_cons_zero, List.set_cons_succ]
                  refine tk 10 ?_
                  refine tk 11 ?_
                  clear hHeld
                  refine wpAnyH_done (by kernel_rfl) ?_ _
                  refine NoPanic.normal ?_
                  go_wp2
                  go_meet
                  case rel => exact ⟨kc, a3, c3, rfl, rfl, rfl, C9.out, HLx.out.later BB.out, S9.out.base (by rw [← X0S.out]; exact Nat.le_refl _), by rw [X0S.out]; exact KC.out⟩
              case rest =>
                obtain ⟨kc, a3, c3, rfl, rfl, rfl, hC, hL5, hS5, hkc⟩ := hcut
                have C5 := hid hC
                have HL4 := hid hL5
                have S4 := hid hS5
                have HLQ : Hid (∀ q, Value.ownBlock (.slice ha j hc) = some q → q < wr.heap.size) := hid (fun q hq => (World.ownsRow.lt HL.out.h q hq).2)
                have HSZ5 : Hid (wq.heap.size ≤ wr.heap.size) := hid HL.out.size
                have cc := C5.out.cells
                have cb := HL4.out.b.cells
                have fb := HL4.out.b.loose
                clear hC hL5 hS5 hkc HCB CSA HL
                go_upto_if 138 with fail
                have HL5 := hid (HL4.out.hear (v0 := wr) (jb' := j') (ba' := a3) (bc' := c3) HSZ5.out HLQ.out S4.out)
                obtain ⟨u5, hu5⟩ : ∃ W, putL wc v3.heap.size 3 (.slice a3 0 c3) 1 ((j' : Int) + 1) = W := ⟨_, rfl⟩
                rw [hu5] at HL5
                unfold putL at hu5
                rw [hu5]
                clear hu5 cc cb fb HL4 C5 S4
                go_cut [10] from 125 to 150 (fun hv W => ∃ (ha : Option Addr) (hc : Nat), hv = .slice ha j' hc ∧ LnS wq W v2.heap.size v3.heap.size w1.heap.size S i j' j' wa wn wk a3 c3 ha hc)
                case first =>
                  cases ok with
                  | false =>
                    obtain ⟨rfl, _⟩ := HPB.out.2 rfl
                    go_wp2
                    go_meet
                    case rel => exact ⟨ha, hc, rfl, HL5.out⟩
                  | true =>
                    obtain ⟨hij, hjS, rfl, htk, hT4⟩ := HPB.out.1 rfl
                    obtain ⟨i0, hi0, hz0, hz1, hz2⟩ := info_parts17 info_str17
                    have HTX : Hid (∀ (W : World) j u, ([Value.string T] : List Value)[j]? = some u → (W.alloc (.cells #[.string T] 9)).cell? ((⟨W.heap.size, 0, none⟩ : Addr).add j) = some u) := by
                      intro W j u hu
                      cases j with
                      | zero =>
                        simp at hu; subst hu
                        have h := heap_alloc_new W (.cells #[.string T] 9)
                        exact cell_of_row _ _ 0 _ _ _ h
                      | succ j => simp at hu
                    have LTK : Hid ((S.take j).length = j) := hid (by rw [List.length_take, HSL.out]; have := HI.out; omega)
                    have HTK := hid htk
                    have HJ9 : Hid (j ≤ 4) := hid (by have h1 := HI.out; have h2 := HN.out; omega)
                    have hln : (S.take (j + 1)).length = j + 1 := by rw [List.length_take]; omega
                    have HLN := hid hln
                    clear htk hln hij
                    go_wp2_with (at_builtin; refine wpList_append_own_at _ rfl (.tmp 139) (.tmp 141) 26 rfl wq.heap.size 9 i0 _ 1 16 Try.underlying26 hi0 hz0 hz1 hz2 rfl (by decide) _ _ _ (by rfl) (OwV.later HL5.out.h (bpush (bre _) _)) ⟨u5.heap.size, 0, none⟩ 1 1 [.string T] (by rfl) rfl (HTX.out u5) (by intro u hu; simp at hu; subst hu; rfl) (by have := LTK.out; have := HJ9.out; unfold maxLen; omega) (by have := LTK.out; have := HJ9.out; omega) (by have h1 := HL5.out.size; simp; omega) ?_; intro v8 w8 hown8 hg8 _ h8; have own8 : OwV w8 wq.heap.size v8 (S.take (j + 1)) := (by rw [← HTK.out]; simpa [OwV] using hown8); obtain ⟨sa', sc', hv8, _⟩ := own8.shape; rw [HLN.out] at hv8; subst hv8; have HL8 := hid (HL5.out.more (T := T) own8 hg8 h8 ⟨fun q hq => (HL5.out.oa.2.2.2.2 q hq).2, fun q hq => (HL5.out.ob.2.2.2.2 q hq).2⟩); clear own8 hg8 h8 hown8)
                    go_meet
                    case rel => exact ⟨_, _, rfl, HL8.out⟩
                case rest =>
                  obtain ⟨ha3, hc3, rfl, hL3⟩ := hcut
                  obtain ⟨ba3, rfl⟩ : ∃ x, x = a3 := ⟨a3, rfl⟩
                  obtain ⟨bc3, rfl⟩ : ∃ x, x = c3 := ⟨c3, rfl⟩
                  obtain ⟨j3, rfl⟩ : ∃ x, x = j' := ⟨j', rfl⟩
                  have HL3 := hid hL3
                  have hw4 : wrap64 ((k : Int) + 1) = (k : Int) + 1 := by unfold wrap64; omega
                  clear hL3 HL5 HPB
                  obtain ⟨i', n', hpA, hcallA⟩ := hearsA SM.out (i := i) (jb := j3) ⟨HJB.out.1, HJB.out.2.1, by rw [HSL.out]; exact HJB.out.2.2.1⟩
                  have HPA := hid hpA
                  have HCA := hid hcallA
                  have HIK : Hid (k + 1 ≤ i' ∨ N ≤ i') := hid (by have h1 := HI.out.2.2.2; have h2 := HJB.out; have h3 := hpA; omega)
                  clear hpA hcallA
                  go_upto_region 40 with fail
                  refine wp_region_noPanic ?_
                  refine wp_region_held_drew (S := (fun W => W.cell? ⟨v3.heap.size, 0, none⟩ = some (.int .i64 3) ∧ W.cell? ⟨v3.heap.size, 1, none⟩ = some (.slice ba3 0 bc3) ∧ W.cell? ⟨v3.heap.size, 2, none⟩ = some (.int .i64 1) ∧ W.cell? ⟨v3.heap.size, 3, none⟩ = some (.int .i64 ((j3 : Int) + 1)))) (by kernel_rfl) HL3.out.b.cells (fun hHeld => ?_)
                  replace HL3 := hid (HL3.out.later (bdr (bre _)))
                  obtain ⟨x0, hx0⟩ : ∃ x, wc.drew = x := ⟨_, rfl⟩
                  rw [hx0] at HL3 hHeld
                  rw [hx0]
                  clear hx0
                  refine tk 1 ?_
                  clear hHeld
                  refine wpAnyH_ready (rs := [0, 2]) (by kernel_rfl) (by simp) ?_
                  refine rc (fun K hK => ?_) (rl (fun K hK => ?_))
                  · have ca := HL3.out.a.cells
                    go_simp
                    clear ca
                    refine hK.out _ _ HL3.out.b.cells (fun hHeld => ?_)
                    clear hK K
                    try simp only [Act.put, List.setIfInBounds_toArray, List.set_cons_zero, List.set_cons_succ]
                    clear hHeld
                    refine ry 2 (fun K hK => ?_)
                    go_simp
                    refine (HL3.out.saysB).mono ?_; rintro e x3 ⟨rfl, hb3⟩
                    replace HL3 := hid (HL3.out.later hb3)
                    clear hb3
                    refine hK.out _ _ HL3.out.b.cells (fun hHeld => ?_)
                    clear hK K
                    try simp only [Act.put, List.setIfInBounds_toArray, List.set_cons_zero, List.set_cons_succ]
                    clear hHeld
                    refine ry 3 (fun K hK => ?_)
                    go_simp
                    refine (HCA.out _ _ _ _ _ _ _ _ _ _ _ _ _ _ HL3.out (bre _)).mono ?_; rintro e x4 ⟨a4, c4, rfl, hs4, hb4⟩
                    have HLQ4 : Hid (∀ q, Value.ownBlock (.slice ha3 j3 hc3) = some q → q < x3.heap.size) := hid (fun q hq => (World.ownsRow.lt HL3.out.h q hq).2)
                    have HSZ4 : Hid (wq.heap.size ≤ x3.heap.size) := hid HL3.out.size
                    replace HL3 := hid (HL3.out.later hb4)
                    have S4 := hid hs4
                    clear hb4 hs4
                    refine hK.out _ _ HL3.out.b.cells (fun hHeld => ?_)
                    clear hK K
                    try simp only [Act.put, List.setIfInBounds_toArray, List.set_cons_zero, List.set_cons_succ]
                    refine tk 4 ?_
                    refine tk 5 ?_
                    refine tk 6 ?_
                    refine tk 7 ?_
                    clear hHeld
                    refine ry 8 (fun K hK => ?_)
                    have c4 := HL3.out.a.cells
                    have f4 := HL3.out.a.loose
                    go_simp
                    clear c4 f4
                    have HL9 := hid (HL3.out.ack (i' := i') HSZ4.out HLQ4.out S4.out)
                    unfold putL at HL9
                    refine hK.out _ _ HL9.out.b.cells (fun hHeld => ?_)
                    clear hK K
                    try simp only [Act.put, List.setIfInBounds_toArray, List.set_cons_zero, List.set_cons_succ]
                    refine wpAnyH_done (by kernel_rfl) ?_ _
                    refine NoPanic.normal ?_
                    go_wp2
                    go_roundw
                    case rel => exact ⟨k + 1, i', j3, a4, n', c4, ba3, bc3, ha3, hc3, by omega, by simp, rfl, ⟨HPA.out.2.1, HPA.out.2.2.1, HJB.out.2.2.1, HIK.out⟩, HL9.out⟩
                    case measure => simp [intOf]; omega
                  · go_simp
                    refine (HL3.out.saysB).mono ?_; rintro e x3 ⟨rfl, hb3⟩
                    replace HL3 := hid (HL3.out.later hb3)
                    clear hb3
                    refine hK.out _ _ HL3.out.b.cells (fun hHeld => ?_)
                    clear hK K
                    try simp only [Act.put, List.setIfInBounds_toArray, List.set_cons_zero, List.set_cons_succ]
                    clear hHeld
                    refine ry 0 (fun K hK => ?_)
                    have ca := HL3.out.a.cells
                    go_simp
                    clear ca
                    refine hK.out _ _ HL3.out.b.cells (fun hHeld => ?_)
                    clear hK K
                    try simp only [Act.put, List.setIfInBounds_toArray, List.set_cons_zero, List.set_cons_succ]
                    clear hHeld
                    refine ry 3 (fun K hK => ?_)
                    go_simp
                    refine (HCA.out _ _ _ _ _ _ _ _ _ _ _ _ _ _ HL3.out (bre _)).mono ?_; rintro e x4 ⟨a4, c4, rfl, hs4, hb4⟩
                    have HLQ4 : Hid (∀ q, Value.ownBlock (.slice ha3 j3 hc3) = some q → q < x3.heap.size) := hid (fun q hq => (World.ownsRow.lt HL3.out.h q hq).2)
                    have HSZ4 : Hid (wq.heap.size ≤ x3.heap.size) := hid HL3.out.size
                    replace HL3 := hid (HL3.out.later hb4)
                    have S4 := hid hs4
                    clear hb4 hs4
                    refine hK.out _ _ HL3.out.b.cells (fun hHeld => ?_)
                    clear hK K
                    try simp only [Act.put, List.setIfInBounds_toArray, List.set_cons_zero, List.set_cons_succ]
                    refine tk 4 ?_
                    refine tk 5 ?_
                    refine tk 6 ?_
                    refine tk 7 ?_
                    clear hHeld
                    refine ry 8 (fun K hK => ?_)
                    have c4 := HL3.out.a.cells
                    have f4 := HL3.out.a.loose
                    go_simp
                    clear c4 f4
                    have HL9 := hid (HL3.out.ack (i' := i') HSZ4.out HLQ4.out S4.out)
                    unfold putL at HL9
                    refine hK.out _ _ HL9.out.b.cells (fun hHeld => ?_)
                    clear hK K
                    try simp only [Act.put, List.setIfInBounds_toArray, List.set_cons_zero, List.set_cons_succ]
                    refine wpAnyH_done (by kernel_rfl) ?_ _
                    refine NoPanic.normal ?_
                    go_wp2
                    go_roundw
                    case rel => exact ⟨k + 1, i', j3, a4, n', c4, ba3, bc3, ha3, hc3, by omega, by simp, rfl, ⟨HPA.out.2.1, HPA.out.2.2.1, HJB.out.2.2.1, HIK.out⟩, HL9.out⟩
                    case measure => simp [intOf]; omega
            · obtain rfl : i = N := by have h1 := HI.out; have h2 := HN.out; omega
              obtain rfl : j = i := by have h1 := HI.out; omega
              have hSk : S.take j = S := List.take_of_length_le (by rw [HSL.out]; exact Nat.le_refl _)
              have hSd : S.drop j = [] := List.drop_eq_nil_of_le (by rw [HSL.out]; exact Nat.le_refl _)
              have hw0 : 0 = wn := by have h := HL.out.oa.1; rw [hSd] at h; exact h
              subst hw0
              have HHS := hid (SlV.of HL.out.h)
              rw [hSk] at HHS
              have HSS := hid (HSD.out wr HL.out.fr HL.out.size)
              have CS := hid (fun (ca cb : Nat) => same17_any _ _ _ _ ha (some ⟨sg, 0, none⟩) j ca cb S wr HSL.out (by have := HI.out; have := HN.out; omega) HHS.out.ss HSS.out)
              have HL0 := hid HL.out
              have hk8 : ¬ (k : Int) < 8 := by omega
              clear hSk hSd HHS HSS HI
              go_wp2_with fail
              refine (CS.out hc sc).mono ?_; rintro e y3 ⟨rfl, hb3⟩
              have HL3 := hid (HL0.out.later hb3)
              clear hb3 CS HL HL0 hk8
              have ca := HL3.out.a.cells
              go_wp2
              go_ret
              refine ⟨rfl, ?_⟩
              have h := HL3.out
              have l := LR.out
              have b := BR.out
              have b13 := B13.out
              refine ⟨h.os.trans (b.2.os.trans (b13.os.trans b.1.os)), h.tape.trans (b.2.tape.trans (b13.tape.trans b.1.tape)), h.output.trans (b.2.output.trans (b13.output.trans b.1.output)), Nat.le_trans b.1.size (Nat.le_trans b13.size (Nat.le_trans b.2.size h.size)), fun q hq => ?_⟩
              have z := b.1.size
              have z3 := b13.size
              exact (h.fr q (by omega) (by omega) (by omega)).trans ((b.2.block q (by omega) (by simp; omega)).trans ((b13.block q (by omega)).trans (b.1.block q hq)))
end Go.Proofs.Ytchdempffkeaoaa
