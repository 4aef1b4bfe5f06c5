/- Tid, Tif, Tig, Tih, Tij, Tiq, Tir, Tiv, Tjf, Bdl, Bdr, Bany, Bdraw, Usa, Ust, Usu, Uta, MdrawC. -/
import Derived.Test.YtdkedgedkgabnaaGreatDoorR11
namespace Go.Proofs.YtdkedgedkgabnaaGreatDoor
open Go.RowKit Go.ChangeMaps
theorem compact_len (zs : List Int) : (Go.Lib.compact zs).length = zs.length ↔ ∀ j, j < zs.length → Go.Lib.keeps zs.toArray j = true := by
 unfold Go.Lib.compact Go.Lib.compactUpTo
 rw [List.length_map]
 constructor
 ·intro h
  have h2 : ((List.range zs.length).filter (Go.Lib.keeps zs.toArray)).length = (List.range zs.length).length := by rw [h, List.length_range]
  have h3 := List.length_filter_eq_length_iff.1 h2
  intro j hj
  exact h3 j (List.mem_range.2 hj)
 ·intro h
  have h3 := (List.length_filter_eq_length_iff (l := List.range zs.length) (p := Go.Lib.keeps zs.toArray)).2 (fun j hj => h j (List.mem_range.1 hj))
  rw [h3, List.length_range]
theorem sorted_keeps {zs : List Int} (hs : zs.Pairwise (fun a b => a ≤ b)) : (∀ j, j < zs.length → Go.Lib.keeps zs.toArray j = true) ↔ zs.Nodup := by
 constructor
 ·intro h
  have h1 : zs.Pairwise (fun a b => a < b) := by
   rw [List.pairwise_iff_getElem] at hs ⊢
   intro i j hi hj hij
   have e : ∀ k, k < zs.length → 0 < k → zs[k - 1]! < zs[k]! := by
    intro k hk h0
    have h2 := h k hk
    unfold Go.Lib.keeps at h2
    simp only [decide_eq_true_eq] at h2
    rcases h2 with h2 | h2
    ·omega
    ·have h3 := hs (k - 1) k (by omega) hk (by omega)
     have e1 : zs.toArray[k]! = zs[k]! := by simp
     have e2 : zs.toArray[k-1]! = zs[k-1]! := by simp
     rw [e1, e2] at h2
     have e3 : zs[k]! = zs[k] := by simp [hk]
     have e4 : zs[k-1]! = zs[k-1] := by simp [show k - 1 < zs.length by omega]
     rw [e3, e4] at h2 ⊢
     omega
   have h3 := e j hj (by omega)
   have e3 : zs[j]! = zs[j] := by simp [hj]
   have e4 : zs[j-1]! = zs[j-1] := by simp [show j - 1 < zs.length by omega]
   rw [e3, e4] at h3
   by_cases hjj : i = j - 1
   ·subst hjj; exact h3
   ·have := hs i (j - 1) hi (by omega) (by omega)
    omega
  exact h1.imp (fun h => by omega)
 ·intro hn j hj
  unfold Go.Lib.keeps
  simp only [decide_eq_true_eq]
  by_cases h0 : j = 0
  ·exact .inl h0
  ·right
   intro e
   have e1 : zs.toArray[j]! = zs[j] := by simp [hj]
   have e2 : zs.toArray[j-1]! = zs[j-1] := by simp [show j - 1 < zs.length by omega]
   rw [e1, e2] at e
   exact (List.pairwise_iff_getElem.1 hn (j - 1) j (by omega) hj (by omega)) e.symm
theorem sort_pairs (zs : List Int) : (zs.mergeSort fun x y => decide (x ≤ y)).Pairwise (fun a b => a ≤ b) := by
 have := List.pairwise_mergeSort (le := fun x y : Int => decide (x ≤ y)) (fun a b c => by simp; omega) (fun a b => by simp; omega) zs
 exact this.imp (fun h => by simpa using h)
theorem compact_sort (zs : List Int) : decide (((Go.Lib.compact (zs.mergeSort fun x y => decide (x ≤ y))).length : Int) = (zs.length : Int)) = decide zs.Nodup := by
 have hp := List.mergeSort_perm zs (fun x y : Int => decide (x ≤ y))
 have h1 := compact_len (zs.mergeSort fun x y => decide (x ≤ y))
 rw [sorted_keeps (sort_pairs zs), hp.nodup_iff, hp.length_eq] at h1
 by_cases h : zs.Nodup
 ·have := h1.2 h
  simp [h, this]
 ·have h2 := mt h1.1 h
  simp only [h, decide_false]
  simp only [decide_eq_false_iff_not]
  omega
theorem sortI_any (B : Nat) (v : Value) (zs : List Int) (w : World) (hown : OwI w B v zs) (hl : zs.length ≤ 1048576) :
  Calls Tryz.prog 121 #[v] w fun e w' => e = .returned (.tuple #[]) ∧ OwI w' B v (zs.mergeSort fun x y => decide (x ≤ y)) ∧ w.grownBy w' v.ownBlock := by
 rcases hown.2 with ⟨rfl, h2⟩ | ⟨g, cap, cur, h1, h2, h3, h4, h5, h6, h7⟩
 ·obtain rfl : zs = [] := List.eq_nil_of_length_eq_zero h2
  refine (Any.slices_Sort_int_none soLays none 0 w).mono ?_
  rintro e w' ⟨rfl, rfl⟩
  exact ⟨rfl, by simpa using hown, wre _ _⟩
 ·subst h1
  have hH := holds_of_blockI (ss := zs) h3 (by simpa using h7)
  refine (Any.slices_Sort_int soLays g 0 cap zs w hH (Array.getElem?_eq_some_iff.1 h3).1 (by omega)).mono ?_
  rintro e w' ⟨rfl, n, os, rfl⟩
  have hlen : (zs.mergeSort fun x y => decide (x ≤ y)).length = zs.length := List.length_mergeSort zs
  refine ⟨rfl, ?_, grownBy_sortedI _⟩
  have h8 := ownsRow_sortedI (n := n) (os := os) (e := 3) hlen h2 h3 h4 h5 h6
  unfold OwI
  rw [hlen]
  exact h8
theorem compactI_any (B : Nat) (v : Value) (zs : List Int) (w : World) (hown : OwI w B v zs) (hl : zs.length ≤ 1048576) :
  Calls Tryz.prog 122 #[v] w fun e w' => ∃ a c, e = .returned (.slice a (Go.Lib.compact zs).length c) ∧ w.grownBy w' v.ownBlock := by
 rcases hown.2 with ⟨rfl, h2⟩ | ⟨g, cap, cur, h1, h2, h3, h4, h5, h6, h7⟩
 ·obtain rfl : zs = [] := List.eq_nil_of_length_eq_zero h2
  refine (Any.slices_Compact_int_empty coLays none 0 w).mono ?_
  rintro e w' ⟨rfl, rfl⟩
  exact ⟨none, 0, rfl, wre _ _⟩
 ·subst h1
  have hH := holds_of_blockI (ss := zs) h3 (by simpa using h7)
  refine (Any.slices_Compact_int coLays g 0 cap zs w hH (by omega) h4).mono ?_
  rintro e w' ⟨rfl, q, rfl⟩
  refine ⟨_, _, rfl, ?_⟩
  have h8 := grownBy_sortedI (w := w) (g := g) (n := q) (os := #[]) (Go.Lib.compact zs ++ List.replicate (zs.length - (Go.Lib.compact zs).length) 0).toArray
  rw [Go.Sort.grow_empty] at h8
  exact h8
theorem gids_le {S : List X7} {i k : Nat} {L : List M4} (h : i < S.length) (hL : S[i].2.2.2.2.2.1 = L) (hk : k ≤ L.length) : (gids (S.take i) ++ (L.take k).map (fun m => m.1)).length ≤ (gids S).length := by
 have e1 : gids S = gids (S.take (i + 1)) ++ gids (S.drop (i + 1)) := by
  unfold gids
  rw [← List.flatMap_append, List.take_append_drop]
 rw [e1, gids_take h, hL]
 simp only [List.length_append, List.length_map, List.length_take]
 omega
set_option maxHeartbeats 1600000 in
set_option maxRecDepth 100000 in
theorem mailsUnlike_any (lo hi : Nat) (ba : Option Addr) (bn bc : Nat) (S : List X7) (w : World) (hl : S.length = bn) (hn : bn ≤ 1048576) (hsb : Sb S) (hm : Bs lo hi w ba S) (hg : (gids S).length ≤ 1048576) :
  Calls Tryz.prog 78 #[.slice ba bn bc] w fun e w' => e = .returned (.bool (decide (gids S).Nodup)) ∧ Below w.heap.size w w' := by
 have HL := hid hl
 have HN := hid hn
 have HSB := hid hsb
 have HR := hid hm
 have HG := hid hg
 clear hl hsb hm hg
 go_enter Tryz.func78, Tryz.ntmps78
 go_wp2
 go_loopw [3, 10] (fun vv iv wr => ∃ (i : Nat), i ≤ bn ∧ iv = .int .i64 (i : Int) ∧ OwI wr w.heap.size vv (gids (S.take i)) ∧ Below w.heap.size w wr) (fun _ iv _ => bn - (intOf iv).toNat)
 case atStart => exact ⟨0, Nat.zero_le _, rfl, ⟨rfl, .inl ⟨rfl, rfl⟩⟩, bre _⟩
 case round =>
  obtain ⟨i, hin, rfl, hown, hb⟩ := hrel
  obtain ⟨vv, hvv⟩ : ∃ vv, vv = u3 := ⟨_, rfl⟩
  subst hvv
  obtain ⟨wq, hwq⟩ : ∃ wq, wq = wr := ⟨_, rfl⟩
  subst hwq
  have HB := hid hb
  have HOW := hid hown
  have hbn := HN.out
  clear hb hown
  by_cases hlt : i < bn
  ·have hil : i < S.length := by rw [HL.out]; exact hlt
   obtain ⟨k, o, ma1, mc1, ga1, gc1, rfl, hk, d, hms, his, _⟩ := (HR.out.later HB.out).at hil
   have hmem := HSB.out S[i] (List.getElem_mem hil)
   obtain ⟨q, hq⟩ : ∃ q, S[i] = q := ⟨_, rfl⟩
   obtain ⟨g1, nm1, t1, b1, nx1, L1, G1⟩ := q
   rw [hq] at d hms hmem
   dsimp only at d hms hmem
   have HQ : Hid (S[i].2.2.2.2.2.1 = L1) := by show _ = _; rw [hq]
   obtain ⟨m1, hm1⟩ : ∃ m1, L1.length = m1 := ⟨_, rfl⟩
   obtain ⟨n1, hn1⟩ : ∃ n1, G1.length = n1 := ⟨_, rfl⟩
   rw [hm1, hn1] at d hmem
   have HM1 := hid hm1
   have hml := hmem.2.1
   have AB := Bx.new wq 38 g1 nm1 t1 b1 nx1 (.slice ma1 m1 mc1) (.slice ga1 n1 gc1)
   have BB : Below wq.heap.size wq (wq.alloc (.cells #[.int .i64 g1, .string nm1, .int .i64 t1, .int .i64 b1, .int .i64 nx1, .slice ma1 m1 mc1, .slice ga1 n1 gc1] 38)) := bpush (bre _) _
   have cb := AB.cells
   have HMS := hid (hms.later BB)
   have HOB := hid (own_later HOW.out BB)
   have HBB := hid (btr HB.out BB)
   have hI : (0 : Int) ≤ (i : Int) ∧ (i : Int) < (bn : Int) := by omega
   unfold C7 at d
   clear hq hms his hmem hm1 hn1 AB BB hk
   go_wp2
   obtain ⟨W1, hW1⟩ : ∃ W1, wq.alloc (.cells #[.int .i64 g1, .string nm1, .int .i64 t1, .int .i64 b1, .int .i64 nx1, .slice ma1 m1 mc1, .slice ga1 n1 gc1] 38) = W1 := ⟨_, rfl⟩
   rw [hW1] at HMS HOB HBB ⊢
   clear hW1 d cb
   go_loopw [3, 17] (fun vv2 kv wr => ∃ k2 : Nat, k2 ≤ m1 ∧ kv = .int .i64 (k2 : Int) ∧ OwI wr w.heap.size vv2 (gids (S.take i) ++ (L1.take k2).map (fun m => m.1)) ∧ Ms lo hi wr ma1 L1 ∧ Below w.heap.size w wr) (fun _ kv _ => m1 - (intOf kv).toNat)
   case atStart => exact ⟨0, Nat.zero_le _, rfl, by simpa using HOB.out, HMS.out, HBB.out⟩
   case round =>
    obtain ⟨k2, hk2, rfl, hown2, hms2, hb2⟩ := hrel
    obtain ⟨v2, hv2⟩ : ∃ v2, v2 = u3 := ⟨_, rfl⟩
    subst hv2
    have HO2 := hid hown2
    have HM2 := hid hms2
    have HB2 := hid hb2
    clear hown2 hms2 hb2
    by_cases hkt : k2 < m1
    ·have hkl : k2 < L1.length := by rw [HM1.out]; exact hkt
     obtain ⟨km, om, fa1, fc1, rfl, hkm, cm, _⟩ := HM2.out.at hkl
     have HLE := hid (Nat.le_trans (gids_le hil HQ.out (Nat.le_of_lt hkl)) HG.out)
     have HSN := hid (map_take_snoc hkl)
     obtain ⟨x, hx⟩ : ∃ x, L1[k2] = x := ⟨_, rfl⟩
     rw [hx] at cm HSN
     obtain ⟨x1, x2, x3, x4⟩ := x
     dsimp only at cm HSN
     obtain ⟨n3, hn3⟩ : ∃ n3, x3.length = n3 := ⟨_, rfl⟩
     rw [hn3] at cm
     have AM := Mg.new wr 78 x1 x2 (.slice fa1 n3 fc1) x4
     have BM : Below wr.heap.size wr (wr.alloc (.cells #[.int .i64 x1, .int .i64 x2, .slice fa1 n3 fc1, .string x4] 78)) := bpush (bre _) _
     have cg := AM.cells
     have HO3 := hid (own_later HO2.out BM)
     have HM3 := hid (HM2.out.later BM)
     have HB3 := hid (btr HB2.out BM)
     have hK : (0 : Int) ≤ (k2 : Int) ∧ (k2 : Int) < (m1 : Int) := by omega
     have HSZ : Hid (w.heap.size ≤ (wr.alloc (.cells #[.int .i64 x1, .int .i64 x2, .slice fa1 n3 fc1, .string x4] 78)).heap.size) := Nat.le_trans HB2.out.size BM.size
     have HSE : Hid ((wr.alloc (.cells #[.int .i64 x1, .int .i64 x2, .slice fa1 n3 fc1, .string x4] 78)).heap.size = wr.heap.size + 1) := by show _ = _; simp
     clear hx hn3 AM BM hkm
     go_wp2_with (at_builtin; refine wpList_append_ik _ rfl (.tmp 21) (.tmp 24) rfl w.heap.size _ (gids (S.take i) ++ (L1.take k2).map (fun m => m.1)) (by rfl) (by have h := HO3.out; exact h) x1 (by rw [HSE.out]; rfl) HLE.out HSZ.out ?_; intro v7 w7 hrow7 hg7 hl7; have O8 := hid hrow7; have BL8 : Hid (Below w.heap.size w w7) := HB3.out.trans (((Below.refl _ _).alloc HSZ.out _).grown hg7 (by have := HSZ.out; simp at this; simp; omega) (fun k hk => (HO3.out.lt k hk).1)); have M8 : Hid (Ms lo hi w7 (some ⟨km, om, none⟩) L1) := (HM3.out.same (by have h1 := HM3.out.1; have h2 := hg7.size; simp at h1 h2; omega) (fun k _ hk => (hg7.block k (by have h1 := HM3.out.1; simp at h1; simp; omega) (fun e => by have h1 := (HO3.out.lt k e.symm).1; have h2 := HR.out.1; omega)).trans (Below.heap_alloc _ _ k (by have h1 := HM3.out.1; omega)))); clear hrow7 hg7 hl7)
     go_roundw
     case rel => exact ⟨k2 + 1, by omega, by go_num, by have h := O8.out; rw [List.append_assoc, HSN.out] at h; exact h, M8.out, BL8.out⟩
     case measure => simp [intOf]; omega
    ·have HE : Hid (gids (S.take i) ++ (L1.take k2).map (fun m => m.1) = gids (S.take (i + 1))) := by
      show _ = _
      rw [gids_take hil, HQ.out, List.take_of_length_le (l := L1) (by rw [HM1.out]; omega)]
     rw [HE.out] at HO2
     go_wp2
     go_roundw
     case rel => exact ⟨i + 1, by omega, by go_num, HO2.out, HB2.out⟩
     case measure => simp [intOf]; omega
  ·have HO : Hid (OwI wq w.heap.size vv (gids S)) := by
    have h := HOW.out
    rw [List.take_of_length_le (by rw [HL.out]; omega)] at h
    exact h
   obtain ⟨zs, hzs⟩ : ∃ zs, gids S = zs := ⟨_, rfl⟩
   rw [hzs] at HO HG
   have HZ := hid hzs
   clear hzs HOW
   go_wp2_with fail
   refine (sortI_any w.heap.size vv zs _ HO.out HG.out).mono ?_; rintro e w3 ⟨rfl, ho3, hg3⟩
   have hlen : (zs.mergeSort fun x y => decide (x ≤ y)).length = zs.length := List.length_mergeSort zs
   have hcs := compact_sort zs
   obtain ⟨ys, hys⟩ : ∃ ys, (zs.mergeSort fun x y => decide (x ≤ y)) = ys := ⟨_, rfl⟩
   rw [hys] at ho3 hlen hcs
   have HLE := hid hlen
   have HCS := hid hcs
   have HO3 := hid ho3
   have HB3 : Hid (Below w.heap.size w w3) := HB.out.trans ((Below.refl _ _).grown hg3 (HB.out.size) (fun k hk => (HO.out.lt k hk).1))
   clear ho3 hg3 hlen hcs hys
   go_wp2_with fail
   refine (compactI_any w.heap.size vv ys _ HO3.out (by rw [HLE.out]; exact HG.out)).mono ?_; rintro e w4 ⟨ca, cc, rfl, hg4⟩
   have HB4 : Hid (Below w.heap.size w w4) := HB3.out.trans ((Below.refl _ _).grown hg4 (HB3.out.size) (fun k hk => (HO3.out.lt k hk).1))
   obtain ⟨cl, hcl⟩ : ∃ cl, (Go.Lib.compact ys).length = cl := ⟨_, rfl⟩
   rw [hcl] at HCS ⊢
   obtain ⟨a3, c3, hv3, _⟩ := OwI.shape HO3.out
   subst hv3
   obtain ⟨yl, hyl⟩ : ∃ yl, ys.length = yl := ⟨_, rfl⟩
   rw [hyl] at HLE HO3 ⊢
   have HE : Hid (decide (gids S).Nodup = ((cl : Int) == (yl : Int))) := by
    show _ = _
    rw [HZ.out, ← HCS.out, HLE.out]
    simp [BEq.beq]
   clear hg4 hcl hyl
   go_wp2
   go_ret
   exact ⟨by rw [HE.out]; rfl, HB4.out⟩
theorem sOk_bk (y tm : Int) (S : List X7) (G : List Int) : sOk y tm S G = ((decide (1 ≤ y) && decide (y ≤ 2)) && ((decide (0 ≤ tm) && decide (tm ≤ 100000)) && (gnM 20 G && (bkOk tm G S && decide (gids S).Nodup)))) := by
 unfold sOk bkOk
 cases gnM 20 G <;> cases decide ((S.length : Int) ≤ 5) <;> simp
theorem bk_gids {tm : Int} {G : List Int} {S : List X7} (h : bkOk tm G S = true) : (gids S).length ≤ 50 := by
 unfold bkOk at h
 simp only [Bool.and_eq_true, decide_eq_true_eq] at h
 have h2 := List.all_eq_true.1 h.2
 have h3 := gids_small (S := S) (i := S.length) (fun j hj hl => h2 j (List.mem_range.2 hl)) (Nat.le_refl _)
 rw [List.take_length] at h3
 omega
set_option maxHeartbeats 1600000 in
set_option maxRecDepth 100000 in
theorem implStoreOk_any (lo hi lo' hi' : Nat) (y tm : Int) (ba : Option Addr) (bn bc : Nat) (ga : Option Addr) (gn gc : Nat) (S : List X7) (G : List Int) (w : World) (hl : S.length = bn) (hn : bn ≤ 1048576) (hsb : Sb S) (hm : Bs lo hi w ba S) (hgl : G.length = gn) (hgn : gn ≤ 1048576) (hs : Is lo' hi' w ga G) :
  Calls Tryz.prog 28 #[.agg #[.int .i64 y, .int .i64 tm, .slice ba bn bc, .slice ga gn gc]] w fun e w' => e = .returned (.bool (sOk y tm S G)) ∧ Below w.heap.size w w' := by
 have HX := hid (sOk_bk y tm S G)
 obtain ⟨W0, hW0⟩ : ∃ W0, w.alloc (.cells #[.int .i64 y, .int .i64 tm, .slice ba bn bc, .slice ga gn gc] 27) = W0 := ⟨_, rfl⟩
 have a0 : Sx W0 w.heap.size 27 y tm (.slice ba bn bc) (.slice ga gn gc) := by subst hW0; exact Sx.new w _ y tm _ _
 have b0 : Below w.heap.size w W0 := by subst hW0; exact bpush (bre _) _
 obtain ⟨p6, hp6⟩ : ∃ p6, gnM 20 G = p6 := ⟨_, rfl⟩
 obtain ⟨p7, hp7⟩ : ∃ p7, bkOk tm G S = p7 := ⟨_, rfl⟩
 obtain ⟨p8, hp8⟩ : ∃ p8, decide (gids S).Nodup = p8 := ⟨_, rfl⟩
 rw [hp6, hp7, hp8] at HX
 have HP6 := hid hp6
 have HP7 := hid hp7
 have HP8 := hid hp8
 have c0 := a0.cells
 have HL := hid hl
 have HN := hid hn
 have HSB := hid hsb
 have HR := hid hm
 have HGL := hid hgl
 have HGN := hid hgn
 have HIS := hid hs
 have A0 := hid a0
 have B0 := hid b0
 clear hl hn hsb hm hgl hgn hs a0 b0 hp6 hp7 hp8
 by_cases h1 : 1 ≤ y
 case neg =>
  have HE : Hid (sOk y tm S G = false) := by show _ = _; rw [HX.out]; simp [h1]
  go_enter Tryz.func28, Tryz.ntmps28
  go_wp2
  go_ret
  exact ⟨by rw [HE.out]; rfl, B0.out⟩
 by_cases h2 : y ≤ 2
 case neg =>
  have HE : Hid (sOk y tm S G = false) := by show _ = _; rw [HX.out]; simp [h2]
  go_enter Tryz.func28, Tryz.ntmps28
  go_wp2
  go_ret
  exact ⟨by rw [HE.out]; rfl, B0.out⟩
 by_cases h3 : 0 ≤ tm
 case neg =>
  have HE : Hid (sOk y tm S G = false) := by show _ = _; rw [HX.out]; simp [h3]
  go_enter Tryz.func28, Tryz.ntmps28
  go_wp2
  go_ret
  exact ⟨by rw [HE.out]; rfl, B0.out⟩
 by_cases h4 : tm ≤ 100000
 case neg =>
  have HE : Hid (sOk y tm S G = false) := by show _ = _; rw [HX.out]; simp [h4]
  go_enter Tryz.func28, Tryz.ntmps28
  go_wp2
  go_ret
  exact ⟨by rw [HE.out]; rfl, B0.out⟩
 have HX : Hid (sOk y tm S G = (p6 && (p7 && p8))) := by show _ = _; rw [HX.out]; simp [h1, h2, h3, h4]
 go_enter Tryz.func28, Tryz.ntmps28
 go_wp2_with fail
 clear hW0
 refine (goneOkM_any 20 lo' hi' ga gn gc G _ HGL.out HGN.out (HIS.out.later B0.out)).mono ?_; rintro e w5 ⟨rfl, h5⟩
 subst h5
 rw [HP6.out]
 cases p6
 ·have HE : Hid (sOk y tm S G = false) := by show _ = _; rw [HX.out]; rfl
  go_wp2
  go_ret
  exact ⟨by rw [HE.out]; rfl, B0.out⟩
 go_wp2_with fail
 refine (boxesOk_any lo hi lo' hi' y tm ba bn bc ga gn gc S G _ HL.out HN.out HSB.out (HR.out.later B0.out) HGL.out HGN.out (HIS.out.later B0.out)).mono ?_; rintro e w6 ⟨rfl, hb6⟩
 rw [HP7.out]
 have A6 := hid (A0.out.later hb6)
 have B6 := hid (btr B0.out hb6)
 have c0 := A6.out.cells
 clear hb6
 cases p7
 ·have HE : Hid (sOk y tm S G = false) := by show _ = _; rw [HX.out]; rfl
  go_wp2
  go_ret
  exact ⟨by rw [HE.out]; rfl, B6.out⟩
 have HGI := hid (bk_gids HP7.out)
 go_wp2_with fail
 refine (mailsUnlike_any lo hi ba bn bc S _ HL.out HN.out HSB.out (HR.out.later B6.out) (by have := HGI.out; omega)).mono ?_; rintro e w7 ⟨rfl, hb7⟩
 rw [HP8.out]
 have B7 := hid (btr B6.out hb7)
 have HE : Hid (sOk y tm S G = p8) := by show _ = _; rw [HX.out]; simp
 clear hb7 c0
 go_wp2
 go_ret
 exact ⟨by rw [HE.out]; rfl, B7.out⟩
theorem Sg.grown {W W' : World} {k ty : Nat} {t b : Int} {r : Option Nat} (h : Sg W k ty t b) (hg : W.grownBy W' r) (hk : some k ≠ r) : Sg W' k ty t b := (hg.block k h.lt hk).trans h
theorem OwT.put {W0 W : World} {B g n c : Nat} {gv : Value} {S : List X7} {G : List Int} (h : OwT W0 B (.slice (some ⟨g, 0, none⟩) n c) gv S G) (hb : Below W0.heap.size W0 W) (i : Nat) (hi : i < S.length) (y : Y9) (ho : OwX W y.lo y.hi y.mv y.gv y.L y.G) (hB : B ≤ W0.heap.size) (hW : W0.heap.size ≤ y.lo) :
  OwT (put7 W g (i * 7) y) B (.slice (some ⟨g, 0, none⟩) n c) gv (S.set i (yd y)) G := by
 obtain ⟨Y, h1, h2, h3, h4, h5⟩ := h.own
 have hlen : Y.length = S.length := by rw [← h1, List.length_map]
 have hgr := put7_grown W g (i * 7) y
 have k2 := h2.later hb
 have k3 := own_later h3 hb
 have hg := (h2.row.lt g rfl).2
 refine ⟨Y.set i y, ?_, k2.stored i (by omega) y ho (by omega) (.inl (by omega)) (fun x hx => .inl (Nat.le_trans (h2.each x hx).1.top hW)), ?_, h4, fun z hz j hj => ?_⟩
 ·rw [← h1, List.map_set]
 ·exact World.ownsRow.kept k3 hgr (by
    cases hv : Value.ownBlock gv with
    | none => exact Or.inl rfl
    | some j => exact Or.inr (fun e => by simp only [Option.some.injEq] at e; subst e; exact h4 _ hv rfl))
 ·rcases mem_set hz with hz | rfl
  ·exact h5 z hz j hj
  ·have := (h3.lt j hj).2
   exact .inl (by omega)
theorem OwT.cells {W : World} {B g n c : Nat} {gv : Value} {S : List X7} {G : List Int} (h : OwT W B (.slice (some ⟨g, 0, none⟩) n c) gv S G) (i : Nat) (hi : i < S.length) :
  ∃ ma mc ga gc, C7 W g (i * 7) S[i].1 S[i].2.1 S[i].2.2.1 S[i].2.2.2.1 S[i].2.2.2.2.1 (.slice ma S[i].2.2.2.2.2.1.length mc) (.slice ga S[i].2.2.2.2.2.2.length gc) ∧ Ms B W.heap.size W ma S[i].2.2.2.2.2.1 ∧ Is B W.heap.size W ga S[i].2.2.2.2.2.2 ∧ (ma = none → mc = 0) ∧ (ga = none → gc = 0) ∧ ∀ j, W.frozen? ⟨g, j, none⟩ = false := by
 obtain ⟨Y, h1, h2, h3, h4, h5⟩ := h.own
 have hb := h2.bs.2
 rw [h1] at hb
 obtain ⟨k, o, ma, mc, ga, gc, e1, _, d, m1, m2, m3, m4⟩ := hb.at hi
 simp only [Option.some.injEq, Addr.mk.injEq, and_true] at e1
 obtain ⟨rfl, rfl⟩ := e1
 refine ⟨ma, mc, ga, gc, by simpa using d, m1, m2, m3, m4, (h2.spot i (by rw [← h1, List.length_map] at hi; exact hi)).2⟩
def pik {α : Type} (ok : Bool) (a b : α) : α := if ok = true then a else b
theorem fidx_cases {α : Type} (p : α → Bool) (S : List α) (k : Nat) : fidx p S k < 0 ∨ ∃ i, ∃ h : i < S.length, fidx p S k = ((k + i : Nat) : Int) ∧ p S[i] = true := by
 induction S generalizing k with
 | nil => exact .inl (by simp [fidx])
 | cons x S ih =>
  rw [fidx]
  by_cases hp : p x = true
  ·rw [if_pos hp]
   exact .inr ⟨0, by simp, by simp, hp⟩
  ·rw [if_neg hp]
   rcases ih (k + 1) with h | ⟨i, h, e, hq⟩
   ·exact .inl h
   ·exact .inr ⟨i + 1, by simpa using h, by rw [e]; congr 1; omega, by simpa using hq⟩
def chB (S : List X7) (box : Int) (ok : X7 → Bool) (f : X7 → X7) : Bool × List X7 :=
 if fidx (isG box) S 0 < 0 then (false, S) else
  match S[(fidx (isG box) S 0).toNat]? with
  | none => (false, S)
  | some x => (ok x, S.set (fidx (isG box) S 0).toNat (f x))
theorem chB_no {S : List X7} {box : Int} {ok : X7 → Bool} {f : X7 → X7} (h : fidx (isG box) S 0 < 0) : chB S box ok f = (false, S) := by rw [chB, if_pos h]
theorem chB_at {S : List X7} {box : Int} {ok : X7 → Bool} {f : X7 → X7} {i : Nat} (h : fidx (isG box) S 0 = (i : Int)) (hi : i < S.length) {x : X7} (hx : S[i] = x) : chB S box ok f = (ok x, S.set i (f x)) := by
 rw [chB, if_neg (by omega), h]
 simp only [Int.toNat_natCast]
 rw [List.getElem?_eq_getElem hi, hx]
def pmK (y tm gid fl : Int) (tx : ByteArray) (x : X7) : Bool := amOk x.1 x.2.1 x.2.2.1 x.2.2.2.1 x.2.2.2.2.1 x.2.2.2.2.2.1 x.2.2.2.2.2.2 gid fl tx (tm + 1) y
def pmF (y tm gid fl : Int) (tx : ByteArray) (x : X7) : X7 := (x.1, x.2.1, x.2.2.1, x.2.2.2.1, amN (pmK y tm gid fl tx x) x.2.2.2.2.1, amL (pmK y tm gid fl tx x) x.2.2.2.2.2.1 (nwm gid x.2.2.2.2.1 fl tx (tm + 1) y), x.2.2.2.2.2.2)
def Sx1 (x : X7) : Prop := x.2.1.size ≤ 1048576 ∧ x.2.2.2.2.2.1.length ≤ 1048576 ∧ Sm x.2.2.2.2.2.1 ∧ x.2.2.2.2.2.2.length ≤ 1048576
theorem sOk_all {y tm : Int} {S : List X7} {G : List Int} (h : sOk y tm S G = true) : S.length ≤ 5 ∧ gnM 20 G = true ∧ (∀ i, i < S.length → stp7 tm G S i = true) ∧ (gids S).Nodup := by
 unfold sOk at h
 simp only [Bool.and_eq_true, decide_eq_true_eq] at h
 obtain ⟨_, _, h1, h2, h3, h4⟩ := h
 exact ⟨by omega, h2, fun i hi => List.all_eq_true.1 h3 i (List.mem_range.2 hi), h4⟩
theorem stp7_all {tm : Int} {G : List Int} {S : List X7} (h : ∀ i, i < S.length → stp7 tm G S i = true) {i : Nat} (hi : i < S.length) : bxx S[i] = true ∧ pg S i < S[i].1 ∧ fidx (isN S[i].2.1) S 0 = (i : Int) ∧ inl S[i].1 G = false ∧ tmOk tm S[i].2.2.1 S[i].2.2.2.2.2.1 = true := by
 have h1 := h i hi
 rw [stp7_at hi rfl] at h1
 simp only [Bool.and_eq_true, decide_eq_true_eq, Bool.not_eq_true'] at h1
 exact ⟨h1.1, h1.2.1, h1.2.2.1, h1.2.2.2.1, h1.2.2.2.2⟩
theorem sOk_pw {y tm : Int} {S : List X7} {G : List Int} (h : sOk y tm S G = true) : S.Pairwise (fun a b => a.1 < b.1) := by
 obtain ⟨_, _, h3, _⟩ := sOk_all h
 have hs : ∀ i (hi : i + 1 < S.length), S[i].1 < S[i + 1].1 := fun i hi => by
  have h1 := (stp7_all h3 hi).2.1
  rw [pg_succ (by omega)] at h1
  exact h1
 rw [List.pairwise_iff_getElem]
 intro i j hi hj hij
 obtain ⟨d, rfl⟩ : ∃ d, j = i + 1 + d := ⟨j - (i + 1), by omega⟩
 induction d with
 | zero => exact hs i hj
 | succ d ih =>
  have h1 := ih (by omega) (by omega)
  have h2 := hs (i + 1 + d) hj
  exact Int.lt_trans h1 h2
theorem gnM_parts {mo : Int} {G : List Int} (h : gnM mo G = true) : asc 0 G = true ∧ (G.length : Int) ≤ mo := by
 unfold gnM at h
 simpa only [Bool.and_eq_true, decide_eq_true_eq] using h
theorem sOk_gone {y tm : Int} {S : List X7} {G : List Int} (h : sOk y tm S G = true) : G.Pairwise (· < ·) ∧ G.length ≤ 20 := by
 obtain ⟨h1, h2⟩ := gnM_parts (sOk_all h).2.1
 exact ⟨asc_pair h1, by omega⟩
structure OwN (W : World) (B : Nat) (P : Nat → Prop) (bv gv : Value) (S : List X7) (G : List Int) : Prop where
 own : ∃ Y, Y.map yd = S ∧ OwS W B bv Y ∧ OwI W B gv G ∧ Dj gv bv ∧ (∀ y ∈ Y, ∀ j, gv.ownBlock = some j → j < y.lo ∨ y.hi ≤ j) ∧ (∀ j, bv.ownBlock = some j → ¬ P j) ∧ (∀ j, gv.ownBlock = some j → ¬ P j) ∧ ∀ y ∈ Y, ∀ j, y.lo ≤ j → j < y.hi → ¬ P j
section
variable {W W' : World} {B B' : Nat} {P : Nat → Prop} {bv gv : Value} {S : List X7} {G : List Int}
theorem OwT.far (h : OwT W B bv gv S G) (hk : ∀ j, P j → W.heap.size ≤ j ∨ j < B) : OwN W B P bv gv S G := by
 obtain ⟨Y, h1, h2, h3, h4, h5⟩ := h.own
 exact ⟨Y, h1, h2, h3, h4, h5, fun j e hp => by have h6 := h2.row.lt j e; have h7 := hk j hp; omega, fun j e hp => by have h6 := h3.lt j e; have h7 := hk j hp; omega, fun y hy j j1 j2 hp => by have h6 := h2.each y hy; have h7 := hk j hp; have h8 := h6.1.top; have h9 := h6.2; omega⟩
theorem OwN.later (h : OwN W B P bv gv S G) (hb : Below W.heap.size W W') : OwN W' B P bv gv S G := by
 obtain ⟨Y, h1, h2, h3, h4, h5, h6⟩ := h.own
 exact ⟨Y, h1, h2.later hb, own_later h3 hb, h4, h5, h6⟩
theorem OwN.base (h : OwN W B' P bv gv S G) (hB : B ≤ B') : OwN W B P bv gv S G := by
 obtain ⟨Y, h1, h2, h3, h4, h5, h6⟩ := h.own
 exact ⟨Y, h1, h2.base hB, own_base h3 hB, h4, h5, h6⟩
theorem OwN.set {k : Nat} (h : OwN W B P bv gv S G) (hg : W.grownBy W' (some k)) (hk : P k) : OwN W' B P bv gv S G := by
 obtain ⟨Y, h1, h2, h3, h4, h5, h6, h7, h8⟩ := h.own
 refine ⟨Y, h1, h2.kept hg.size (fun j hj => hg.block j (h2.row.lt j hj).2 (fun e => by simp only [Option.some.injEq] at e; subst e; exact h6 _ hj hk)) (fun y hy j hj1 hj2 => hg.block j (Nat.lt_of_lt_of_le hj2 (h2.each y hy).1.top) (fun e => ?_)), World.ownsRow.kept h3 hg (.inr (fun e => h7 k e hk)), h4, h5, h6, h7, h8⟩
 simp only [Option.some.injEq] at e
 subst e
 exact h8 y hy _ hj1 hj2 hk
end
theorem OwN.put {W : World} {B B' g n c : Nat} {P : Nat → Prop} {gv : Value} {S : List X7} {G : List Int} (h : OwN W B' P (.slice (some ⟨g, 0, none⟩) n c) gv S G) (i : Nat) (hi : i < S.length) (y : Y9) (ho : OwX W y.lo y.hi y.mv y.gv y.L y.G) (hB : B ≤ y.lo) (hB2 : B ≤ B') (hy : y.hi ≤ B') (hk : ∀ j, y.lo ≤ j → j < y.hi → ¬ P j) :
  OwN (put7 W g (i * 7) y) B P (.slice (some ⟨g, 0, none⟩) n c) gv (S.set i (yd y)) G := by
 obtain ⟨Y, h1, h2, h3, h4, h5, h6, h7, h8⟩ := h.own
 have hlen : Y.length = S.length := by rw [← h1, List.length_map]
 have hgr := put7_grown W g (i * 7) y
 have hg := (h2.row.lt g rfl).1
 refine ⟨Y.set i y, ?_, (h2.base hB2).stored i (by omega) y ho hB (.inr (by omega)) (fun x hx => .inr (Nat.le_trans hy (h2.each x hx).2)), ?_, h4, fun z hz j hj => ?_, h6, h7, fun z hz => ?_⟩
 ·rw [← h1, List.map_set]
 ·exact World.ownsRow.kept (own_base h3 hB2) hgr (by
    cases hv : Value.ownBlock gv with
    | none => exact Or.inl rfl
    | some j => exact Or.inr (fun e => by simp only [Option.some.injEq] at e; subst e; exact h4 _ hv rfl))
 ·rcases mem_set hz with hz | rfl
  ·exact h5 z hz j hj
  ·have := (h3.lt j hj).1
   exact .inr (by omega)
 ·rcases mem_set hz with hz | rfl
  ·exact h8 z hz
  ·exact hk
theorem OwN.lt {W : World} {B g n c : Nat} {P : Nat → Prop} {gv : Value} {S : List X7} {G : List Int} (h : OwN W B P (.slice (some ⟨g, 0, none⟩) n c) gv S G) : B ≤ g ∧ g < W.heap.size ∧ ¬ P g := by
 obtain ⟨Y, _, h2, _, _, _, h6, _⟩ := h.own
 have := h2.row.lt g rfl
 exact ⟨this.1, this.2, h6 g rfl⟩
theorem OwS.cell {W : World} {B g n c : Nat} {Y : List Y9} (h : OwS W B (.slice (some ⟨g, 0, none⟩) n c) Y) (j : Nat) (hj : j < Y.length * 7) : W.cell? ⟨g, j, none⟩ = (yc Y)[j]? := by
 obtain rfl := h.bs.1
 exact h.row.cellAt j hj
theorem fidx_first {α : Type} {p : α → Bool} (S : List α) (i k : Nat) (hi : i < S.length) (h1 : ∀ j (hj : j < i), p (S[j]'(Nat.lt_trans hj hi)) = false) (h2 : p S[i] = true) : fidx p S k = ((k + i : Nat) : Int) := by
 induction S generalizing i k with
 | nil => simp at hi
 | cons x S ih =>
  cases i with
  | zero =>
   have h3 : p x = true := h2
   simp [fidx, h3]
  | succ i =>
   have h3 : p x = false := h1 0 (by omega)
   have h4 := ih i (k + 1) (by simpa using hi) (fun j hj => by have := h1 (j + 1) (by omega); simpa using this) (by simpa using h2)
   simp only [fidx, h3]
   rw [if_neg (by decide), h4]
   congr 1
   omega
theorem fidx_before {α : Type} {p : α → Bool} (S : List α) (i k : Nat) (h : fidx p S k = ((k + i : Nat) : Int)) : ∀ j (_ : j < i) (hl : j < S.length), p S[j] = false := by
 induction S generalizing i k with
 | nil => intro j hj hl; simp at hl
 | cons x S ih =>
  intro j hj hl
  cases hx : p x with
  | true =>
   simp only [fidx, hx, if_true] at h
   omega
  | false =>
   simp only [fidx, hx] at h
   rw [if_neg (by decide)] at h
   cases j with
   | zero => exact hx
   | succ j => exact ih (i - 1) (k + 1) (by rw [h]; congr 1; omega) j (by omega) (by simpa using hl)
theorem sOk_iff {y tm : Int} {S : List X7} {G : List Int} : sOk y tm S G = true ↔ ((1 ≤ y ∧ y ≤ 2) ∧ (0 ≤ tm ∧ tm ≤ 100000) ∧ S.length ≤ 5 ∧ gnM 20 G = true ∧ (gids S).Nodup ∧ (∀ x ∈ S, bxx x = true ∧ inl x.1 G = false ∧ tmOk tm x.2.2.1 x.2.2.2.2.2.1 = true) ∧ S.Pairwise (fun a b => a.1 < b.1) ∧ S.Pairwise (fun a b => a.2.1 ≠ b.2.1)) := by
 constructor
 ·intro h
  have hpw := sOk_pw h
  obtain ⟨_, _, h3, _⟩ := sOk_all h
  unfold sOk at h
  simp only [Bool.and_eq_true, decide_eq_true_eq] at h
  obtain ⟨ha, hb, hc, hd, _, he⟩ := h
  refine ⟨ha, hb, by omega, hd, he, fun x hx => ?_, hpw, ?_⟩
  ·obtain ⟨i, hi, rfl⟩ := List.getElem_of_mem hx
   have h4 := stp7_all h3 hi
   exact ⟨h4.1, h4.2.2.2.1, h4.2.2.2.2⟩
  ·rw [List.pairwise_iff_getElem]
   intro i j hi hj hij e
   have h4 := (stp7_all h3 hj).2.2.1
   have h5 := fidx_before S j 0 (by rw [h4]; simp) i hij hi
   simp [isN, e] at h5
 ·rintro ⟨ha, hb, hc, hd, he, hf, hg, hn⟩
  unfold sOk
  simp only [Bool.and_eq_true, decide_eq_true_eq]
  refine ⟨ha, hb, by omega, hd, List.all_eq_true.2 (fun i hi => ?_), he⟩
  have hi := List.mem_range.1 hi
  obtain ⟨h1, h2, h3⟩ := hf S[i] (List.getElem_mem hi)
  have hpg : pg S i < S[i].1 := by
   cases i with
   | zero =>
    rw [pg_zero]
    simp only [bxx, bxOk, Bool.and_eq_true] at h1
    exact gok_pos h1.1
   | succ i =>
    rw [pg_succ (by omega)]
    exact (List.pairwise_iff_getElem.1 hg) i (i + 1) (by omega) hi (by omega)
  have hfi : fidx (isN S[i].2.1) S 0 = (i : Int) := by
   rw [fidx_first S i 0 hi (fun j hj => ?_) (by simp [isN])]
   ·simp
   ·have := (List.pairwise_iff_getElem.1 hn) j i (by omega) hi hj
    simp [isN, this]
  unfold stp7
  rw [List.getElem?_eq_getElem hi]
  simp only [h1, hpg, hfi, h2, h3, decide_true, Bool.not_false, Bool.and_self]
theorem own_none {W : World} {B e size n c m : Nat} {a : Option Addr} {xs : List Value} (h : W.ownsRow B e size (.slice a n c) m xs) : a = none → c = 0 := by
 intro ha
 subst ha
 rcases h.2 with ⟨h1, _⟩ | ⟨g, cap, cur, h1, _⟩
 ·simpa using congrArg (fun v => match v with | .slice _ _ c => c | _ => 0) h1
 ·simp at h1
theorem OwB.shape {W : World} {B : Nat} {mv gv : Value} {L : List M4} {G : List Int} (h : OwB W B mv gv L G) : ∃ a c a' c', mv = .slice a L.length c ∧ gv = .slice a' G.length c' := by
 obtain ⟨Z, rfl, h2, h3, _⟩ := h
 obtain ⟨a, c, hv⟩ := h2.shape
 obtain ⟨a', c', hv', _⟩ := h3.shape
 exact ⟨a, c, a', c', by rw [List.length_map]; exact hv, hv'⟩
theorem OwB.none {W : World} {B n c n' c' : Nat} {a a' : Option Addr} {L : List M4} {G : List Int} (h : OwB W B (.slice a n c) (.slice a' n' c') L G) : (a = none → c = 0) ∧ (a' = none → c' = 0) := by
 obtain ⟨Z, _, h2, h3, _⟩ := h
 exact ⟨own_none h2.row, own_none h3⟩
theorem OwB.nil (W : World) (B : Nat) : OwB W B (.slice .none 0 0) (.slice .none 0 0) [] [] :=
 ⟨[], rfl, ⟨World.ownsRow_nil _ _ _ _, fun z hz => by simp at hz, fun z hz => by simp at hz, List.Pairwise.nil⟩, World.ownsRow_nil _ _ _ _, Dj.nil _, fun z hz => by simp at hz⟩
section
variable {k : Nat} {g : Int} {nm : ByteArray} {t b nx : Int} {L : List M4} {G : List Int}
end
section
variable {w W W' : World} {cb : Nat} {ao : Option Addr} {n cap kS : Nat} {t b : Int}
end
theorem Bx.far {W W' : World} {k ty cb : Nat} {g : Int} {nm : ByteArray} {t b nx : Int} {ms gs : Value} (h : Bx W k ty g nm t b nx ms gs) (hg : W.grownBy W' (some cb)) (hk : k ≠ cb) : Bx W' k ty g nm t b nx ms gs := h.grown hg (fun e => by simp only [Option.some.injEq] at e; omega)
section
variable {w W W' : World} {cb : Nat} {ao : Option Addr} {n cap kb k : Nat} {nm : ByteArray} {t b nx : Int} {ma : Option Addr} {mn mc : Nat} {ga : Option Addr} {gn gc : Nat} {L : List M4} {G : List Int}
end
theorem Is.wide {lo hi lo' hi' : Nat} {W : World} {a : Option Addr} {G : List Int} (h : Is lo hi W a G) (h1 : lo' ≤ lo) (h2 : hi ≤ hi') (h3 : hi' ≤ W.heap.size) : Is lo' hi' W a G := by
 refine ⟨h3, fun i hi' => ?_⟩
 obtain ⟨k, o, e1, e2, e3, e4⟩ := h.2 i hi'
 exact ⟨k, o, e1, by omega, by omega, e4⟩
structure Bg (W : World) (lo hi : Nat) (nm : ByteArray) (ma : Option Addr) (mn mc : Nat) (ga : Option Addr) (gn gc : Nat) (L : List M4) (G : List Int) : Prop where
 nmz : nm.size ≤ 20
 len : L.length = mn
 most : mn ≤ 20
 sm : Sm L
 mails : Ms lo hi W ma L
 m0 : ma = none → mc = 0
 glen : G.length = gn
 gmost : gn ≤ 50
 gone : Is lo hi W ga G
 g0 : ga = none → gc = 0
section
variable {W W' : World} {lo hi : Nat} {nm : ByteArray} {ma : Option Addr} {mn mc : Nat} {ga : Option Addr} {gn gc : Nat} {L : List M4} {G : List Int}
theorem Bg.same (h : Bg W lo hi nm ma mn mc ga gn gc L G) (hs : hi ≤ W'.heap.size) (hk : ∀ k, lo ≤ k → k < hi → W'.heap[k]? = W.heap[k]?) : Bg W' lo hi nm ma mn mc ga gn gc L G :=
 ⟨h.nmz, h.len, h.most, h.sm, h.mails.same hs hk, h.m0, h.glen, h.gmost, h.gone.same hs hk, h.g0⟩
theorem Bg.later (h : Bg W lo hi nm ma mn mc ga gn gc L G) (hb : Below W.heap.size W W') : Bg W' lo hi nm ma mn mc ga gn gc L G :=
 h.same (Nat.le_trans h.mails.1 hb.size) (fun k _ hk => hb.block k (Nat.lt_of_lt_of_le hk h.mails.1))
theorem Bg.far {k : Nat} (h : Bg W lo hi nm ma mn mc ga gn gc L G) (hg : W.grownBy W' (some k)) (hk : k < lo ∨ hi ≤ k) : Bg W' lo hi nm ma mn mc ga gn gc L G :=
 h.same (Nat.le_trans h.mails.1 hg.size) (fun j h1 h2 => hg.block j (Nat.lt_of_lt_of_le h2 h.mails.1) (fun e => by simp only [Option.some.injEq] at e; omega))
theorem Bg.wide {lo' hi' : Nat} (h : Bg W lo hi nm ma mn mc ga gn gc L G) (h1 : lo' ≤ lo) (h2 : hi ≤ hi') (h3 : hi' ≤ W.heap.size) : Bg W lo' hi' nm ma mn mc ga gn gc L G :=
 ⟨h.nmz, h.len, h.most, h.sm, h.mails.wide h1 h2 h3, h.m0, h.glen, h.gmost, h.gone.wide h1 h2 h3, h.g0⟩
end
structure As (w W : World) (cb : Nat) (ao : Option Addr) (n cap kb hi : Nat) (g : Int) (nm : ByteArray) (t b nx : Int) (ma : Option Addr) (mn mc : Nat) (ga : Option Addr) (gn gc : Nat) (L : List M4) (G : List Int) : Prop where
 res : Bx W w.heap.size 38 0 ⟨#[]⟩ 0 0 0 (.slice none 0 0) (.slice none 0 0)
 box : Bx W kb 38 g nm t b nx (.slice ma mn mc) (.slice ga gn gc)
 bg : Bg W (w.heap.size + 1) hi nm ma mn mc ga gn gc L G
 cur : Cur W cb ao n cap
 gr : w.grownBy W (some cb)
 lo : w.heap.size < kb
 hi : cb < w.heap.size
section
variable {w W W' : World} {cb : Nat} {ao : Option Addr} {n cap kb hi : Nat} {g : Int} {nm : ByteArray} {t b nx : Int} {ma : Option Addr} {mn mc : Nat} {ga : Option Addr} {gn gc : Nat} {L : List M4} {G : List Int}
theorem As.drew (h : As w W cb ao n cap kb hi g nm t b nx ma mn mc ga gn gc L G) : As w W.drew cb ao n cap kb hi g nm t b nx ma mn mc ga gn gc L G := ⟨h.res, h.box, h.bg.later (bdr (bre _)), h.cur, gdr h.gr, h.lo, h.hi⟩
theorem As.later (h : As w W cb ao n cap kb hi g nm t b nx ma mn mc ga gn gc L G) (hb : Below W.heap.size W W') : As w W' cb ao n cap kb hi g nm t b nx ma mn mc ga gn gc L G :=
 ⟨h.res.later hb, h.box.later hb, h.bg.later hb, h.cur.later hb h.cur.lt, only_add h.gr (hb.mono h.gr.size), h.lo, h.hi⟩
end
theorem Bg.set7 {W : World} {lo hi k : Nat} {nm : ByteArray} {ma : Option Addr} {mn mc : Nat} {ga : Option Addr} {gn gc : Nat} {L : List M4} {G : List Int} (h : Bg W lo hi nm ma mn mc ga gn gc L G) (hk : k < lo) (g' : Int) (nm' : ByteArray) (t' b' nx' : Int) (v v' : Value) : Bg (Go.Proofs.YtdkedgedkgabnaaGreatDoor.set7 W k g' nm' t' b' nx' v v') lo hi nm ma mn mc ga gn gc L G :=
 h.far (set7_grown W k g' nm' t' b' nx' v v') (.inl hk)
def nm5 : List ByteArray := [⟨#[105, 110, 98, 111, 120]⟩, ⟨#[119, 111, 114, 107]⟩, ⟨#[111, 108, 100]⟩, ⟨#[110, 101, 119]⟩, ⟨#[111, 116, 104, 101, 114]⟩]
def inR (i : Nat) (x : Int) : Prop := 100 ≤ x ∧ x < 100 + (i : Int)
theorem inR.mono {i j : Nat} {x : Int} (h : inR i x) (hj : i ≤ j) : inR j x := ⟨h.1, by have := h.2; omega⟩
theorem inR.here (i : Nat) : inR (i + 1) (100 + (i : Int)) := ⟨by omega, by omega⟩
structure B7 (i : Nat) (x : X7) : Prop where
 gid : inR i x.1
 nam : x.2.1 ∈ nm5
 mls : ∀ m ∈ x.2.2.2.2.2.1, inR i m.1
 gon : ∀ g ∈ x.2.2.2.2.2.2, inR i g
theorem B7.mono {i j : Nat} {x : X7} (h : B7 i x) (hj : i ≤ j) : B7 j x := ⟨h.gid.mono hj, h.nam, fun m hm => (h.mls m hm).mono hj, fun m hm => (h.gon m hm).mono hj⟩
structure R7 (i : Nat) (y tm : Int) (S : List X7) (G : List Int) : Prop where
 ok : sOk y tm S G = true
 time : tm ≤ (i : Int)
 most : G.length ≤ i
 gon : ∀ g ∈ G, inR i g
 box : ∀ x ∈ S, B7 i x
theorem R7.mono {i j : Nat} {y tm : Int} {S : List X7} {G : List Int} (h : R7 i y tm S G) (hj : i ≤ j) : R7 j y tm S G :=
 ⟨h.ok, by have := h.time; omega, by have := h.most; omega, fun g hg => (h.gon g hg).mono hj, fun x hx => (h.box x hx).mono hj⟩
theorem R7.start {y : Int} (h1 : 1 ≤ y) (h2 : y ≤ 2) : R7 0 y 0 [] [] :=
 ⟨sOk_iff.2 ⟨⟨h1, h2⟩, by decide, by decide, by decide, by decide, (fun x hx => by cases hx), List.Pairwise.nil, List.Pairwise.nil⟩, by decide, by decide, (fun x hx => by cases hx), (fun x hx => by cases hx)⟩
theorem R7.pick {i : Nat} {y tm tm1 : Int} {S S1 : List X7} {G G1 : List Int} {p : Bool} (h : R7 i y tm S G) (h1 : p = true → R7 (i + 1) y tm1 S1 G1) : R7 (i + 1) y (pik p tm1 tm) (pik p S1 S) (pik p G1 G) := by
 cases p with
 | false => exact h.mono (Nat.le_succ i)
 | true => exact h1 rfl
theorem mem_chB {S : List X7} {box : Int} {ok : X7 → Bool} {f : X7 → X7} {z : X7} (h : z ∈ (chB S box ok f).2) : z ∈ S ∨ ∃ x ∈ S, z = f x := by
 rcases fidx_cases (isG box) S 0 with hneg | ⟨i, hi, hiz, _⟩
 ·rw [chB_no hneg] at h; exact .inl h
 ·rw [Nat.zero_add] at hiz
  rw [chB_at hiz hi rfl] at h
  rcases mem_set h with h | h
  ·exact .inl h
  ·exact .inr ⟨S[i], List.getElem_mem hi, h⟩
section
variable {i : Nat} {y tm : Int} {S : List X7} {G : List Int} {p : Bool}
theorem R7.put {box fl : Int} {tx : ByteArray} (h : R7 i y tm S G) (hp : (sOk y tm S G && ((!kno (100 + (i : Int)) S G && (chB S box (pmK y tm (100 + (i : Int)) fl tx) (pmF y tm (100 + (i : Int)) fl tx)).1) && sOk y (tm + 1) (chB S box (pmK y tm (100 + (i : Int)) fl tx) (pmF y tm (100 + (i : Int)) fl tx)).2 G)) = p) :
  R7 (i + 1) y (pik p (tm + 1) tm) (pik p (chB S box (pmK y tm (100 + (i : Int)) fl tx) (pmF y tm (100 + (i : Int)) fl tx)).2 S) (pik p G G) := by
 refine h.pick (fun e => ?_)
 rw [e] at hp
 simp only [Bool.and_eq_true] at hp
 refine ⟨hp.2.2, by have := h.time; omega, by have := h.most; omega, fun g hg => (h.gon g hg).mono (Nat.le_succ i), fun x hx => ?_⟩
 rcases mem_chB hx with hx | ⟨x', hx', rfl⟩
 ·exact (h.box x hx).mono (Nat.le_succ i)
 ·have hb := (h.box x' hx').mono (Nat.le_succ i)
  refine ⟨hb.gid, hb.nam, fun m hm => ?_, hb.gon⟩
  simp only [pmF, amL] at hm
  split at hm
  ·rcases List.mem_append.1 hm with hm | hm
   ·exact hb.mls m hm
   ·simp only [List.mem_cons, List.not_mem_nil, or_false] at hm
    rw [hm]
    exact inR.here i
  ·exact hb.mls m hm
end
structure Tg (W : World) (lo hi : Nat) (ba : Option Addr) (bn bc : Nat) (ga : Option Addr) (gn gc : Nat) (S : List X7) (G : List Int) : Prop where
 len : S.length = bn
 most : bn ≤ 1048576
 sb : Sb S
 boxes : Bs lo hi W ba S
 b0 : ba = none → bc = 0
 glen : G.length = gn
 gmost : gn ≤ 1048576
 gone : Is lo hi W ga G
 g0 : ga = none → gc = 0
section
variable {W W' : World} {lo hi : Nat} {ba : Option Addr} {bn bc : Nat} {ga : Option Addr} {gn gc : Nat} {S : List X7} {G : List Int}
theorem Tg.same (h : Tg W lo hi ba bn bc ga gn gc S G) (hs : hi ≤ W'.heap.size) (hk : ∀ k, lo ≤ k → k < hi → W'.heap[k]? = W.heap[k]?) : Tg W' lo hi ba bn bc ga gn gc S G :=
 ⟨h.len, h.most, h.sb, h.boxes.same hs hk, h.b0, h.glen, h.gmost, h.gone.same hs hk, h.g0⟩
theorem Tg.later (h : Tg W lo hi ba bn bc ga gn gc S G) (hb : Below W.heap.size W W') : Tg W' lo hi ba bn bc ga gn gc S G :=
 h.same (Nat.le_trans h.boxes.1 hb.size) (fun k _ hk => hb.block k (Nat.lt_of_lt_of_le hk h.boxes.1))
theorem Tg.far {k : Nat} (h : Tg W lo hi ba bn bc ga gn gc S G) (hg : W.grownBy W' (some k)) (hk : k < lo ∨ hi ≤ k) : Tg W' lo hi ba bn bc ga gn gc S G :=
 h.same (Nat.le_trans h.boxes.1 hg.size) (fun j h1 h2 => hg.block j (Nat.lt_of_lt_of_le h2 h.boxes.1) (fun e => by simp only [Option.some.injEq] at e; omega))
theorem Tg.wide {lo' hi' : Nat} (h : Tg W lo hi ba bn bc ga gn gc S G) (h1 : lo' ≤ lo) (h2 : hi ≤ hi') (h3 : hi' ≤ W.heap.size) : Tg W lo' hi' ba bn bc ga gn gc S G :=
 ⟨h.len, h.most, h.sb, h.boxes.wide h1 h2 h3, h.b0, h.glen, h.gmost, h.gone.wid h1 h2 h3, h.g0⟩
theorem Tg.top (h : Tg W lo hi ba bn bc ga gn gc S G) : hi ≤ W.heap.size := h.boxes.1
theorem OwT.tg {B : Nat} (h : OwT W B (.slice ba bn bc) (.slice ga gn gc) S G) (h1 : S.length ≤ 1048576) (h2 : Sb S) (h3 : G.length ≤ 1048576) : Tg W B W.heap.size ba bn bc ga gn gc S G := by
 obtain ⟨e1, e2, r1, r2⟩ := h.reads
 obtain ⟨Y, _, o1, o2, _⟩ := h.own
 refine ⟨e1.symm, by omega, h2, r1, o1.nil0, e2.symm, by omega, r2, fun e => ?_⟩
 subst e
 obtain ⟨a9, c9, e9, e8⟩ := o2.shape
 simp only [Value.slice.injEq] at e9
 rw [e9.2.2]
 exact e8 e9.1.symm
theorem Tg.nil (W : World) (lo : Nat) : Tg W lo W.heap.size none 0 0 none 0 0 [] [] :=
 ⟨rfl, by omega, (fun x hx => by cases hx), ⟨Nat.le_refl _, fun i hi => by simp at hi⟩, fun _ => rfl, rfl, by omega, ⟨Nat.le_refl _, fun i hi => by simp at hi⟩, fun _ => rfl⟩
end
section
variable {w W W' : World} {cb : Nat} {ao : Option Addr} {n cap hi i : Nat} {y tm : Int} {ba : Option Addr} {bn bc : Nat} {ga : Option Addr} {gn gc : Nat} {S : List X7} {G : List Int}
end
structure Q7 (W : World) (cb kx : Nat) (g : Int) (ma : Option Addr) (mn mc : Nat) (L : List M4) : Prop where
 box : ∃ nm t b nx gv, Bx W kx 38 g nm t b nx (.slice ma mn mc) gv
 len : L.length = mn
 most : mn ≤ 1048576
 mails : ∃ lo hi, Ms lo hi W ma L ∧ (kx < lo ∨ hi ≤ kx) ∧ cb < lo
 ne : kx ≠ cb
structure V7 (w W : World) (cb : Nat) (ao : Option Addr) (n cap kb hi : Nat) (y tm : Int) (ba : Option Addr) (bn bc : Nat) (ga : Option Addr) (gn gc : Nat) (S : List X7) (G : List Int) : Prop where
 res : Sx W w.heap.size 27 0 0 (.slice none 0 0) (.slice none 0 0)
 box : Sx W kb 27 y tm (.slice ba bn bc) (.slice ga gn gc)
 tg : Tg W (w.heap.size + 1) hi ba bn bc ga gn gc S G
 cur : Cur W cb ao n cap
 gr : w.grownBy W (some cb)
 lo : w.heap.size < kb
 hl : cb < w.heap.size
 tmb : -1 ≤ tm ∧ tm ≤ 100001
section
variable {w W W' : World} {cb : Nat} {ao : Option Addr} {n cap kb hi : Nat} {y tm : Int} {ba : Option Addr} {bn bc : Nat} {ga : Option Addr} {gn gc : Nat} {S : List X7} {G : List Int}
theorem V7.drew (h : V7 w W cb ao n cap kb hi y tm ba bn bc ga gn gc S G) : V7 w W.drew cb ao n cap kb hi y tm ba bn bc ga gn gc S G := ⟨h.res, h.box, h.tg.later (bdr (bre _)), h.cur, gdr h.gr, h.lo, h.hl, h.tmb⟩
theorem V7.push (h : V7 w W cb ao n cap kb hi y tm ba bn bc ga gn gc S G) (hb : Below W.heap.size W W') : V7 w W' cb ao n cap kb hi y tm ba bn bc ga gn gc S G :=
 ⟨h.res.later hb, h.box.later hb, h.tg.later hb, h.cur.later hb h.cur.lt, only_add h.gr (hb.mono h.gr.size), h.lo, h.hl, h.tmb⟩
end
section
variable {w v W W' : World} {cb : Nat} {ao : Option Addr} {n cap kb hi B : Nat} {y tm : Int} {ba : Option Addr} {bn bc : Nat} {ga : Option Addr} {gn gc : Nat} {S : List X7} {G : List Int}
end
end Go.Proofs.YtdkedgedkgabnaaGreatDoor
namespace Go.Proofs.YtdkedgedkgabnaaGreatDoor
open Go.RowKit
theorem Cur.below {w w' : World} {B cb n cap : Nat} {ao : Option Addr} (h : Cur w cb ao n cap) (hb : Below B w w') (hB : cb < B) : Cur w' cb ao n cap := by
 obtain ⟨i, x, h1, h2⟩ := h
 exact ⟨i, x, h1, (hb.block cb hB).trans h2⟩
end Go.Proofs.YtdkedgedkgabnaaGreatDoor
