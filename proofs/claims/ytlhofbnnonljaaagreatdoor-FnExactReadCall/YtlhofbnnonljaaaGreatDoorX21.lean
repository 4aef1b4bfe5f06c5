/- Ssh, Tid, Wf, Ws. -/
import Derived.Test.YtlhofbnnonljaaaGreatDoorX20
namespace Go.Proofs.YtlhofbnnonljaaaGreatDoor
open Go.RowKit Go.ChangeMaps
def soLaysRen : Go.Shelf.Ren := ⟨fun | 189 => 180 | 125 => 205 | 257 => 204 | 128 => 232 | 129 => 233 | 294 => 224 | 295 => 225 | 296 => 226 | 297 => 227 | 298 => 228 | 299 => 229 | 216 => 164 | 300 => 230 | 301 => 231 | 328 => 253 | 329 => 254 | 330 => 255 | 331 => 256 | 332 => 257 | 215 => 161 | 343 => 278 | n => n, fun | 28 => 55 | 3 => 3 | 46 => 137 | 0 => 0 | 51 => 99 | 53 => 253 | 4 => 4 | 183 => 246 | 182 => 245 | 131 => 148 | 5 => 5 | 9 => 9 | 218 => 270 | 222 => 274 | 228 => 289 | 229 => 290 | n => n, fun | n => n⟩
theorem soLays : Go.Proofs.Lays.n189 Tryz.prog soLaysRen := {
  mixed := by kernel_rfl
  f125 := Tryz.func205.trans (congrArg some (by kernel_rfl))
  f128 := Tryz.func232.trans (congrArg some (by kernel_rfl))
  f129 := Tryz.func233.trans (congrArg some (by kernel_rfl))
  f189 := Tryz.func180.trans (congrArg some (by kernel_rfl))
  f215 := Tryz.func161.trans (congrArg some (by kernel_rfl))
  f216 := Tryz.func164.trans (congrArg some (by kernel_rfl))
  f257 := Tryz.func204.trans (congrArg some (by kernel_rfl))
  f294 := Tryz.func224.trans (congrArg some (by kernel_rfl))
  f295 := Tryz.func225.trans (congrArg some (by kernel_rfl))
  f296 := Tryz.func226.trans (congrArg some (by kernel_rfl))
  f297 := Tryz.func227.trans (congrArg some (by kernel_rfl))
  f298 := Tryz.func228.trans (congrArg some (by kernel_rfl))
  f299 := Tryz.func229.trans (congrArg some (by kernel_rfl))
  f300 := Tryz.func230.trans (congrArg some (by kernel_rfl))
  f301 := Tryz.func231.trans (congrArg some (by kernel_rfl))
  f328 := Tryz.func253.trans (congrArg some (by kernel_rfl))
  f329 := Tryz.func254.trans (congrArg some (by kernel_rfl))
  f330 := Tryz.func255.trans (congrArg some (by kernel_rfl))
  f331 := Tryz.func256.trans (congrArg some (by kernel_rfl))
  f332 := Tryz.func257.trans (congrArg some (by kernel_rfl))
  f343 := Tryz.func278.trans (congrArg some (by kernel_rfl))
  t0 := Tryz.underlying0
  a0 := Tryz.isAgg0
  z0 := Tryz.sizeOf0
  v0 := Tryz.zeroValue0
  t3 := Tryz.underlying3
  a3 := Tryz.isAgg3
  z3 := Tryz.sizeOf3
  v3 := Tryz.zeroValue3
  t4 := Tryz.underlying4
  a4 := Tryz.isAgg4
  z4 := Tryz.sizeOf4
  v4 := Tryz.zeroValue4
  t5 := Tryz.underlying5
  a5 := Tryz.isAgg5
  z5 := Tryz.sizeOf5
  v5 := Tryz.zeroValue5
  t9 := Tryz.underlying9
  a9 := Tryz.isAgg9
  z9 := Tryz.sizeOf9
  v9 := Tryz.zeroValue9
  t28 := Tryz.underlying55
  a28 := Tryz.isAgg55
  z28 := Tryz.sizeOf55
  v28 := Tryz.zeroValue55
  t46 := Tryz.underlying137
  a46 := Tryz.isAgg137
  z46 := Tryz.sizeOf137
  v46 := Tryz.zeroValue137
  t51 := Tryz.underlying99
  a51 := Tryz.isAgg99
  z51 := Tryz.sizeOf99
  v51 := Tryz.zeroValue99
  t53 := Tryz.underlying253
  a53 := Tryz.isAgg253
  z53 := Tryz.sizeOf253
  v53 := Tryz.zeroValue253
  t131 := Tryz.underlying148
  a131 := Tryz.isAgg148
  z131 := Tryz.sizeOf148
  v131 := Tryz.zeroValue148
  t182 := Tryz.underlying245
  a182 := Tryz.isAgg245
  z182 := Tryz.sizeOf245
  v182 := Tryz.zeroValue245
  t183 := Tryz.underlying246
  a183 := Tryz.isAgg246
  z183 := Tryz.sizeOf246
  v183 := Tryz.zeroValue246
  t218 := Tryz.underlying270
  a218 := Tryz.isAgg270
  z218 := Tryz.sizeOf270
  v218 := Tryz.zeroValue270
  t222 := Tryz.underlying274
  a222 := Tryz.isAgg274
  z222 := Tryz.sizeOf274
  v222 := Tryz.zeroValue274
  t228 := Tryz.underlying289
  a228 := Tryz.isAgg289
  z228 := Tryz.sizeOf289
  v228 := Tryz.zeroValue289
  t229 := Tryz.underlying290
  a229 := Tryz.isAgg290
  z229 := Tryz.sizeOf290
  v229 := Tryz.zeroValue290 }
def coLaysRen : Go.Shelf.Ren := ⟨fun | 20 => 181 | n => n, fun | 22 => 55 | 3 => 3 | 4 => 4 | 0 => 0 | n => n, fun | n => n⟩
theorem coLays : Go.Proofs.Lays2.n20 Tryz.prog coLaysRen := {
  mixed := by kernel_rfl
  f20 := Tryz.func181.trans (congrArg some (by kernel_rfl))
  t0 := Tryz.underlying0
  a0 := Tryz.isAgg0
  z0 := Tryz.sizeOf0
  v0 := Tryz.zeroValue0
  t3 := Tryz.underlying3
  a3 := Tryz.isAgg3
  z3 := Tryz.sizeOf3
  v3 := Tryz.zeroValue3
  t4 := Tryz.underlying4
  a4 := Tryz.isAgg4
  z4 := Tryz.sizeOf4
  v4 := Tryz.zeroValue4
  t22 := Tryz.underlying55
  a22 := Tryz.isAgg55
  z22 := Tryz.sizeOf55
  v22 := Tryz.zeroValue55
  i3 := by kernel_rfl }
theorem compact_len (zs : List Int) : (Go.Lib.compact zs).length = zs.length ↔ ∀ j, j < zs.length → Go.Lib.keeps zs.toArray j = true := by
  unfold Go.Lib.compact Go.Lib.compactUpTo
  rw [List.length_map]
  constructor
  · intro h
    have h2 : ((List.range zs.length).filter (Go.Lib.keeps zs.toArray)).length = (List.range zs.length).length := by rw [h, List.length_range]
    have h3 := List.length_filter_eq_length_iff.1 h2
    intro j hj
    exact h3 j (List.mem_range.2 hj)
  · intro h
    have h3 := (List.length_filter_eq_length_iff (l := List.range zs.length) (p := Go.Lib.keeps zs.toArray)).2 (fun j hj => h j (List.mem_range.1 hj))
    rw [h3, List.length_range]
theorem sorted_keeps {zs : List Int} (hs : zs.Pairwise (fun a b => a ≤ b)) : (∀ j, j < zs.length → Go.Lib.keeps zs.toArray j = true) ↔ zs.Nodup := by
  constructor
  · intro h
    have h1 : zs.Pairwise (fun a b => a < b) := by
      rw [List.pairwise_iff_getElem] at hs ⊢
      intro i j hi hj hij
      have e : ∀ k, k < zs.length → 0 < k → zs[k - 1]! < zs[k]! := by
        intro k hk h0
        have h2 := h k hk
        unfold Go.Lib.keeps at h2
        simp only [decide_eq_true_eq] at h2
        rcases h2 with h2 | h2
        · omega
        · have h3 := hs (k - 1) k (by omega) hk (by omega)
          have e1 : zs.toArray[k]! = zs[k]! := by simp
          have e2 : zs.toArray[k-1]! = zs[k-1]! := by simp
          rw [e1, e2] at h2
          have e3 : zs[k]! = zs[k] := by simp [hk]
          have e4 : zs[k-1]! = zs[k-1] := by simp [show k - 1 < zs.length by omega]
          rw [e3, e4] at h2 ⊢
          omega
      have h3 := e j hj (by omega)
      have e3 : zs[j]! = zs[j] := by simp [hj]
      have e4 : zs[j-1]! = zs[j-1] := by simp [show j - 1 < zs.length by omega]
      rw [e3, e4] at h3
      by_cases hjj : i = j - 1
      · subst hjj; exact h3
      · have := hs i (j - 1) hi (by omega) (by omega)
        omega
    exact h1.imp (fun h => by omega)
  · intro hn j hj
    unfold Go.Lib.keeps
    simp only [decide_eq_true_eq]
    by_cases h0 : j = 0
    · exact .inl h0
    · right
      intro e
      have e1 : zs.toArray[j]! = zs[j] := by simp [hj]
      have e2 : zs.toArray[j-1]! = zs[j-1] := by simp [show j - 1 < zs.length by omega]
      rw [e1, e2] at e
      exact (List.pairwise_iff_getElem.1 hn (j - 1) j (by omega) hj (by omega)) e.symm
theorem sort_pairs (zs : List Int) : (zs.mergeSort fun x y => decide (x ≤ y)).Pairwise (fun a b => a ≤ b) := by
  have := List.pairwise_mergeSort (le := fun x y : Int => decide (x ≤ y)) (fun a b c => by simp; omega) (fun a b => by simp; omega) zs
  exact this.imp (fun h => by simpa using h)
theorem compact_sort (zs : List Int) : decide (((Go.Lib.compact (zs.mergeSort fun x y => decide (x ≤ y))).length : Int) = (zs.length : Int)) = decide zs.Nodup := by
  have hp := List.mergeSort_perm zs (fun x y : Int => decide (x ≤ y))
  have h1 := compact_len (zs.mergeSort fun x y => decide (x ≤ y))
  rw [sorted_keeps (sort_pairs zs), hp.nodup_iff, hp.length_eq] at h1
  by_cases h : zs.Nodup
  · have := h1.2 h
    simp [h, this]
  · have h2 := mt h1.1 h
    simp only [h, decide_false]
    simp only [decide_eq_false_iff_not]
    omega
theorem sortI_any (B : Nat) (v : Value) (zs : List Int) (w : World) (hown : OwI w B v zs) (hl : zs.length ≤ 1048576) :
    Calls Tryz.prog 180 #[v] w fun e w' => e = .returned (.tuple #[]) ∧ OwI w' B v (zs.mergeSort fun x y => decide (x ≤ y)) ∧ w.grownBy w' v.ownBlock := by
  rcases hown.2 with ⟨rfl, h2⟩ | ⟨g, cap, cur, h1, h2, h3, h4, h5, h6, h7⟩
  · obtain rfl : zs = [] := List.eq_nil_of_length_eq_zero h2
    refine (Any.slices_Sort_int_none soLays none 0 w).mono ?_
    rintro e w' ⟨rfl, rfl⟩
    exact ⟨rfl, by simpa using hown, wre _ _⟩
  · subst h1
    have hH := holds_of_blockI (ss := zs) h3 (by simpa using h7)
    refine (Any.slices_Sort_int soLays g 0 cap zs w hH (Array.getElem?_eq_some_iff.1 h3).1 (by omega)).mono ?_
    rintro e w' ⟨rfl, n, os, rfl⟩
    have hlen : (zs.mergeSort fun x y => decide (x ≤ y)).length = zs.length := List.length_mergeSort zs
    refine ⟨rfl, ?_, grownBy_sortedI _⟩
    have h8 := ownsRow_sortedI (n := n) (os := os) (e := 3) hlen h2 h3 h4 h5 h6
    unfold OwI
    rw [hlen]
    exact h8
theorem compactI_any (B : Nat) (v : Value) (zs : List Int) (w : World) (hown : OwI w B v zs) (hl : zs.length ≤ 1048576) :
    Calls Tryz.prog 181 #[v] w fun e w' => ∃ a c, e = .returned (.slice a (Go.Lib.compact zs).length c) ∧ w.grownBy w' v.ownBlock := by
  rcases hown.2 with ⟨rfl, h2⟩ | ⟨g, cap, cur, h1, h2, h3, h4, h5, h6, h7⟩
  · obtain rfl : zs = [] := List.eq_nil_of_length_eq_zero h2
    refine (Any.slices_Compact_int_empty coLays none 0 w).mono ?_
    rintro e w' ⟨rfl, rfl⟩
    exact ⟨none, 0, rfl, wre _ _⟩
  · subst h1
    have hH := holds_of_blockI (ss := zs) h3 (by simpa using h7)
    refine (Any.slices_Compact_int coLays g 0 cap zs w hH (by omega) h4).mono ?_
    rintro e w' ⟨rfl, q, rfl⟩
    refine ⟨_, _, rfl, ?_⟩
    have h8 := grownBy_sortedI (w := w) (g := g) (n := q) (os := #[]) (Go.Lib.compact zs ++ List.replicate (zs.length - (Go.Lib.compact zs).length) 0).toArray
    rw [Go.Sort.grow_empty] at h8
    exact h8
theorem gids_le {S : List X7} {i k : Nat} {L : List M4} (h : i < S.length) (hL : S[i].2.2.2.2.2.1 = L) (hk : k ≤ L.length) : (gids (S.take i) ++ (L.take k).map (fun m => m.1)).length ≤ (gids S).length := by
  have e1 : gids S = gids (S.take (i + 1)) ++ gids (S.drop (i + 1)) := by
    unfold gids
    rw [← List.flatMap_append, List.take_append_drop]
  rw [e1, gids_take h, hL]
  simp only [List.length_append, List.length_map, List.length_take]
  omega
set_option maxHeartbeats 1600000 in
set_option maxRecDepth 100000 in
theorem mailsUnlike_any (lo hi : Nat) (ba : Option Addr) (bn bc : Nat) (S : List X7) (w : World) (hl : S.length = bn) (hn : bn ≤ 1048576) (hsb : Sb S) (hm : Bs lo hi w ba S) (hg : (gids S).length ≤ 1048576) :
    Calls Tryz.prog 146 #[.slice ba bn bc] w fun e w' => e = .returned (.bool (decide (gids S).Nodup)) ∧ Below w.heap.size w w' := by
  have HL := hid hl
  have HN := hid hn
  have HSB := hid hsb
  have HR := hid hm
  have HG := hid hg
  clear hl hsb hm hg
  go_enter Tryz.func146, Tryz.ntmps146
  go_wp2
  go_loopw [3, 10] (fun vv iv wr => ∃ (i : Nat), i ≤ bn ∧ iv = .int .i64 (i : Int) ∧ OwI wr w.heap.size vv (gids (S.take i)) ∧ Below w.heap.size w wr) (fun _ iv _ => bn - (intOf iv).toNat)
  case atStart => exact ⟨0, Nat.zero_le _, rfl, ⟨rfl, .inl ⟨rfl, rfl⟩⟩, bre _⟩
  case round =>
    obtain ⟨i, hin, rfl, hown, hb⟩ := hrel
    obtain ⟨vv, hvv⟩ : ∃ vv, vv = u3 := ⟨_, rfl⟩
    subst hvv
    obtain ⟨wq, hwq⟩ : ∃ wq, wq = wr := ⟨_, rfl⟩
    subst hwq
    have HB := hid hb
    have HOW := hid hown
    have hbn := HN.out
    clear hb hown
    by_cases hlt : i < bn
    · have hil : i < S.length := by rw [HL.out]; exact hlt
      obtain ⟨k, o, ma1, mc1, ga1, gc1, rfl, hk, d, hms, his, _⟩ := (HR.out.later HB.out).at hil
      have hmem := HSB.out S[i] (List.getElem_mem hil)
      obtain ⟨q, hq⟩ : ∃ q, S[i] = q := ⟨_, rfl⟩
      obtain ⟨g1, nm1, t1, b1, nx1, L1, G1⟩ := q
      rw [hq] at d hms hmem
      dsimp only at d hms hmem
      have HQ : Hid (S[i].2.2.2.2.2.1 = L1) := by show _ = _; rw [hq]
      obtain ⟨m1, hm1⟩ : ∃ m1, L1.length = m1 := ⟨_, rfl⟩
      obtain ⟨n1, hn1⟩ : ∃ n1, G1.length = n1 := ⟨_, rfl⟩
      rw [hm1, hn1] at d hmem
      have HM1 := hid hm1
      have hml := hmem.2.1
      have AB := Bx.new wq 77 g1 nm1 t1 b1 nx1 (.slice ma1 m1 mc1) (.slice ga1 n1 gc1)
      have BB : Below wq.heap.size wq (wq.alloc (.cells #[.int .i64 g1, .string nm1, .int .i64 t1, .int .i64 b1, .int .i64 nx1, .slice ma1 m1 mc1, .slice ga1 n1 gc1] 77)) := bpush (bre _) _
      have cb := AB.cells
      have HMS := hid (hms.later BB)
      have HOB := hid (own_later HOW.out BB)
      have HBB := hid (btr HB.out BB)
      have hI : (0 : Int) ≤ (i : Int) ∧ (i : Int) < (bn : Int) := by omega
      unfold C7 at d
      clear hq hms his hmem hm1 hn1 AB BB hk
      go_wp2
      obtain ⟨W1, hW1⟩ : ∃ W1, wq.alloc (.cells #[.int .i64 g1, .string nm1, .int .i64 t1, .int .i64 b1, .int .i64 nx1, .slice ma1 m1 mc1, .slice ga1 n1 gc1] 77) = W1 := ⟨_, rfl⟩
      rw [hW1] at HMS HOB HBB ⊢
      clear hW1 d cb
      go_loopw [3, 17] (fun vv2 kv wr => ∃ k2 : Nat, k2 ≤ m1 ∧ kv = .int .i64 (k2 : Int) ∧ OwI wr w.heap.size vv2 (gids (S.take i) ++ (L1.take k2).map (fun m => m.1)) ∧ Ms lo hi wr ma1 L1 ∧ Below w.heap.size w wr) (fun _ kv _ => m1 - (intOf kv).toNat)
      case atStart => exact ⟨0, Nat.zero_le _, rfl, by simpa using HOB.out, HMS.out, HBB.out⟩
      case round =>
        obtain ⟨k2, hk2, rfl, hown2, hms2, hb2⟩ := hrel
        obtain ⟨v2, hv2⟩ : ∃ v2, v2 = u3 := ⟨_, rfl⟩
        subst hv2
        have HO2 := hid hown2
        have HM2 := hid hms2
        have HB2 := hid hb2
        clear hown2 hms2 hb2
        by_cases hkt : k2 < m1
        · have hkl : k2 < L1.length := by rw [HM1.out]; exact hkt
          obtain ⟨km, om, fa1, fc1, rfl, hkm, cm, _⟩ := HM2.out.at hkl
          have HLE := hid (Nat.le_trans (gids_le hil HQ.out (Nat.le_of_lt hkl)) HG.out)
          have HSN := hid (map_take_snoc hkl)
          obtain ⟨x, hx⟩ : ∃ x, L1[k2] = x := ⟨_, rfl⟩
          rw [hx] at cm HSN
          obtain ⟨x1, x2, x3, x4⟩ := x
          dsimp only at cm HSN
          obtain ⟨n3, hn3⟩ : ∃ n3, x3.length = n3 := ⟨_, rfl⟩
          rw [hn3] at cm
          have AM := Mg.new wr 103 x1 x2 (.slice fa1 n3 fc1) x4
          have BM : Below wr.heap.size wr (wr.alloc (.cells #[.int .i64 x1, .int .i64 x2, .slice fa1 n3 fc1, .string x4] 103)) := bpush (bre _) _
          have cg := AM.cells
          have HO3 := hid (own_later HO2.out BM)
          have HM3 := hid (HM2.out.later BM)
          have HB3 := hid (btr HB2.out BM)
          have hK : (0 : Int) ≤ (k2 : Int) ∧ (k2 : Int) < (m1 : Int) := by omega
          have HSZ : Hid (w.heap.size ≤ (wr.alloc (.cells #[.int .i64 x1, .int .i64 x2, .slice fa1 n3 fc1, .string x4] 103)).heap.size) := Nat.le_trans HB2.out.size BM.size
          have HSE : Hid ((wr.alloc (.cells #[.int .i64 x1, .int .i64 x2, .slice fa1 n3 fc1, .string x4] 103)).heap.size = wr.heap.size + 1) := by show _ = _; simp
          clear hx hn3 AM BM hkm
          go_wp2_with (at_builtin; refine wpList_append_ik _ rfl (.tmp 21) (.tmp 24) rfl w.heap.size _ (gids (S.take i) ++ (L1.take k2).map (fun m => m.1)) (by rfl) (by have h := HO3.out; exact h) x1 (by rw [HSE.out]; rfl) HLE.out HSZ.out ?_; intro v7 w7 hrow7 hg7 hl7; have O8 := hid hrow7; have BL8 : Hid (Below w.heap.size w w7) := HB3.out.trans (((Below.refl _ _).alloc HSZ.out _).grown hg7 (by have := HSZ.out; simp at this; simp; omega) (fun k hk => (HO3.out.lt k hk).1)); have M8 : Hid (Ms lo hi w7 (some ⟨km, om, none⟩) L1) := (HM3.out.same (by have h1 := HM3.out.1; have h2 := hg7.size; simp at h1 h2; omega) (fun k _ hk => (hg7.block k (by have h1 := HM3.out.1; simp at h1; simp; omega) (fun e => by have h1 := (HO3.out.lt k e.symm).1; have h2 := HR.out.1; omega)).trans (Below.heap_alloc _ _ k (by have h1 := HM3.out.1; omega)))); clear hrow7 hg7 hl7)
          go_roundw
          case rel => exact ⟨k2 + 1, by omega, by go_num, by have h := O8.out; rw [List.append_assoc, HSN.out] at h; exact h, M8.out, BL8.out⟩
          case measure => simp [intOf]; omega
        · have HE : Hid (gids (S.take i) ++ (L1.take k2).map (fun m => m.1) = gids (S.take (i + 1))) := by
            show _ = _
            rw [gids_take hil, HQ.out, List.take_of_length_le (l := L1) (by rw [HM1.out]; omega)]
          rw [HE.out] at HO2
          go_wp2
          go_roundw
          case rel => exact ⟨i + 1, by omega, by go_num, HO2.out, HB2.out⟩
          case measure => simp [intOf]; omega
    · have HO : Hid (OwI wq w.heap.size vv (gids S)) := by
        have h := HOW.out
        rw [List.take_of_length_le (by rw [HL.out]; omega)] at h
        exact h
      obtain ⟨zs, hzs⟩ : ∃ zs, gids S = zs := ⟨_, rfl⟩
      rw [hzs] at HO HG
      have HZ := hid hzs
      clear hzs HOW
      go_wp2_with fail
      refine (sortI_any w.heap.size vv zs _ HO.out HG.out).mono ?_; rintro e w3 ⟨rfl, ho3, hg3⟩
      have hlen : (zs.mergeSort fun x y => decide (x ≤ y)).length = zs.length := List.length_mergeSort zs
      have hcs := compact_sort zs
      obtain ⟨ys, hys⟩ : ∃ ys, (zs.mergeSort fun x y => decide (x ≤ y)) = ys := ⟨_, rfl⟩
      rw [hys] at ho3 hlen hcs
      have HLE := hid hlen
      have HCS := hid hcs
      have HO3 := hid ho3
      have HB3 : Hid (Below w.heap.size w w3) := HB.out.trans ((Below.refl _ _).grown hg3 (HB.out.size) (fun k hk => (HO.out.lt k hk).1))
      clear ho3 hg3 hlen hcs hys
      go_wp2_with fail
      refine (compactI_any w.heap.size vv ys _ HO3.out (by rw [HLE.out]; exact HG.out)).mono ?_; rintro e w4 ⟨ca, cc, rfl, hg4⟩
      have HB4 : Hid (Below w.heap.size w w4) := HB3.out.trans ((Below.refl _ _).grown hg4 (HB3.out.size) (fun k hk => (HO3.out.lt k hk).1))
      obtain ⟨cl, hcl⟩ : ∃ cl, (Go.Lib.compact ys).length = cl := ⟨_, rfl⟩
      rw [hcl] at HCS ⊢
      obtain ⟨a3, c3, hv3, _⟩ := OwI.shape HO3.out
      subst hv3
      obtain ⟨yl, hyl⟩ : ∃ yl, ys.length = yl := ⟨_, rfl⟩
      rw [hyl] at HLE HO3 ⊢
      have HE : Hid (decide (gids S).Nodup = ((cl : Int) == (yl : Int))) := by
        show _ = _
        rw [HZ.out, ← HCS.out, HLE.out]
        simp [BEq.beq]
      clear hg4 hcl hyl
      go_wp2
      go_ret
      exact ⟨by rw [HE.out]; rfl, HB4.out⟩
theorem sOk_bk (y tm : Int) (S : List X7) (G : List Int) : sOk y tm S G = ((decide (1 ≤ y) && decide (y ≤ 2)) && ((decide (0 ≤ tm) && decide (tm ≤ 100000)) && (gnM 20 G && (bkOk tm G S && decide (gids S).Nodup)))) := by
  unfold sOk bkOk
  cases gnM 20 G <;> cases decide ((S.length : Int) ≤ 5) <;> simp
theorem bk_gids {tm : Int} {G : List Int} {S : List X7} (h : bkOk tm G S = true) : (gids S).length ≤ 50 := by
  unfold bkOk at h
  simp only [Bool.and_eq_true, decide_eq_true_eq] at h
  have h2 := List.all_eq_true.1 h.2
  have h3 := gids_small (S := S) (i := S.length) (fun j hj hl => h2 j (List.mem_range.2 hl)) (Nat.le_refl _)
  rw [List.take_length] at h3
  omega
set_option maxHeartbeats 1600000 in
set_option maxRecDepth 100000 in
theorem implStoreOk_any (lo hi lo' hi' : Nat) (y tm : Int) (ba : Option Addr) (bn bc : Nat) (ga : Option Addr) (gn gc : Nat) (S : List X7) (G : List Int) (w : World) (hl : S.length = bn) (hn : bn ≤ 1048576) (hsb : Sb S) (hm : Bs lo hi w ba S) (hgl : G.length = gn) (hgn : gn ≤ 1048576) (hs : Is lo' hi' w ga G) :
    Calls Tryz.prog 101 #[.agg #[.int .i64 y, .int .i64 tm, .slice ba bn bc, .slice ga gn gc]] w fun e w' => e = .returned (.bool (sOk y tm S G)) ∧ Below w.heap.size w w' := by
  have HX := hid (sOk_bk y tm S G)
  obtain ⟨W0, hW0⟩ : ∃ W0, w.alloc (.cells #[.int .i64 y, .int .i64 tm, .slice ba bn bc, .slice ga gn gc] 57) = W0 := ⟨_, rfl⟩
  have a0 : Sx W0 w.heap.size 57 y tm (.slice ba bn bc) (.slice ga gn gc) := by subst hW0; exact Sx.new w _ y tm _ _
  have b0 : Below w.heap.size w W0 := by subst hW0; exact bpush (bre _) _
  obtain ⟨p6, hp6⟩ : ∃ p6, gnM 20 G = p6 := ⟨_, rfl⟩
  obtain ⟨p7, hp7⟩ : ∃ p7, bkOk tm G S = p7 := ⟨_, rfl⟩
  obtain ⟨p8, hp8⟩ : ∃ p8, decide (gids S).Nodup = p8 := ⟨_, rfl⟩
  rw [hp6, hp7, hp8] at HX
  have HP6 := hid hp6
  have HP7 := hid hp7
  have HP8 := hid hp8
  have c0 := a0.cells
  have HL := hid hl
  have HN := hid hn
  have HSB := hid hsb
  have HR := hid hm
  have HGL := hid hgl
  have HGN := hid hgn
  have HIS := hid hs
  have A0 := hid a0
  have B0 := hid b0
  clear hl hn hsb hm hgl hgn hs a0 b0 hp6 hp7 hp8
  by_cases h1 : 1 ≤ y
  case neg =>
    have HE : Hid (sOk y tm S G = false) := by show _ = _; rw [HX.out]; simp [h1]
    go_enter Tryz.func101, Tryz.ntmps101
    go_wp2
    go_ret
    exact ⟨by rw [HE.out]; rfl, B0.out⟩
  by_cases h2 : y ≤ 2
  case neg =>
    have HE : Hid (sOk y tm S G = false) := by show _ = _; rw [HX.out]; simp [h2]
    go_enter Tryz.func101, Tryz.ntmps101
    go_wp2
    go_ret
    exact ⟨by rw [HE.out]; rfl, B0.out⟩
  by_cases h3 : 0 ≤ tm
  case neg =>
    have HE : Hid (sOk y tm S G = false) := by show _ = _; rw [HX.out]; simp [h3]
    go_enter Tryz.func101, Tryz.ntmps101
    go_wp2
    go_ret
    exact ⟨by rw [HE.out]; rfl, B0.out⟩
  by_cases h4 : tm ≤ 100000
  case neg =>
    have HE : Hid (sOk y tm S G = false) := by show _ = _; rw [HX.out]; simp [h4]
    go_enter Tryz.func101, Tryz.ntmps101
    go_wp2
    go_ret
    exact ⟨by rw [HE.out]; rfl, B0.out⟩
  have HX : Hid (sOk y tm S G = (p6 && (p7 && p8))) := by show _ = _; rw [HX.out]; simp [h1, h2, h3, h4]
  go_enter Tryz.func101, Tryz.ntmps101
  go_wp2_with fail
  clear hW0
  refine (goneOkM_any 20 lo' hi' ga gn gc G _ HGL.out HGN.out (HIS.out.later B0.out)).mono ?_; rintro e w5 ⟨rfl, h5⟩
  subst h5
  rw [HP6.out]
  cases p6
  · have HE : Hid (sOk y tm S G = false) := by show _ = _; rw [HX.out]; rfl
    go_wp2
    go_ret
    exact ⟨by rw [HE.out]; rfl, B0.out⟩
  go_wp2_with fail
  refine (boxesOk_any lo hi lo' hi' y tm ba bn bc ga gn gc S G _ HL.out HN.out HSB.out (HR.out.later B0.out) HGL.out HGN.out (HIS.out.later B0.out)).mono ?_; rintro e w6 ⟨rfl, hb6⟩
  rw [HP7.out]
  have A6 := hid (A0.out.later hb6)
  have B6 := hid (btr B0.out hb6)
  have c0 := A6.out.cells
  clear hb6
  cases p7
  · have HE : Hid (sOk y tm S G = false) := by show _ = _; rw [HX.out]; rfl
    go_wp2
    go_ret
    exact ⟨by rw [HE.out]; rfl, B6.out⟩
  have HGI := hid (bk_gids HP7.out)
  go_wp2_with fail
  refine (mailsUnlike_any lo hi ba bn bc S _ HL.out HN.out HSB.out (HR.out.later B6.out) (by have := HGI.out; omega)).mono ?_; rintro e w7 ⟨rfl, hb7⟩
  rw [HP8.out]
  have B7 := hid (btr B6.out hb7)
  have HE : Hid (sOk y tm S G = p8) := by show _ = _; rw [HX.out]; simp
  clear hb7 c0
  go_wp2
  go_ret
  exact ⟨by rw [HE.out]; rfl, B7.out⟩
section
variable {s : ByteArray} {a y c1 tm c2 : Int} {S : List X7} {c3 : Int} {G : List Int} {c4 : Int}
theorem ist_n1 (h1 : rd s a = none) : ist s a = none := by unfold ist; rw [h1]; rfl
theorem ist_n2 (h1 : rd s a = some (y, c1)) (h2 : rd s c1 = none) : ist s a = none := by unfold ist; rw [h1]; simp only [Option.bind_some]; rw [h2]; rfl
theorem ist_n3 (h1 : rd s a = some (y, c1)) (h2 : rd s c1 = some (tm, c2)) (h3 : ibs s c2 = none) : ist s a = none := by unfold ist; rw [h1]; simp only [Option.bind_some]; rw [h2]; simp only [Option.bind_some]; rw [h3]; rfl
theorem ist_n4 (h1 : rd s a = some (y, c1)) (h2 : rd s c1 = some (tm, c2)) (h3 : ibs s c2 = some (S, c3)) (h4 : iis s c3 = none) : ist s a = none := by unfold ist; rw [h1]; simp only [Option.bind_some]; rw [h2]; simp only [Option.bind_some]; rw [h3]; simp only [Option.bind_some]; rw [h4]; rfl
theorem ist_y (h1 : rd s a = some (y, c1)) (h2 : rd s c1 = some (tm, c2)) (h3 : ibs s c2 = some (S, c3)) (h4 : iis s c3 = some (G, c4)) : ist s a = if sOk y tm S G = true then some ((y, tm, S, G), c4) else none := by unfold ist; rw [h1]; simp only [Option.bind_some]; rw [h2]; simp only [Option.bind_some]; rw [h3]; simp only [Option.bind_some]; rw [h4]; rfl
end
/-- The memory of a call that reads a store. -/
structure Rsi (w W : World) (k : Nat) (s : ByteArray) (y tm : Int) (bv gv : Value) (c : Int) : Prop where
  zero : Sx W w.heap.size 57 0 0 (.slice none 0 0) (.slice none 0 0)
  box : Sx W (w.heap.size + 1) 57 y tm bv gv
  cur : Dg W k s c
  far : k < w.heap.size
  gr : w.grownBy W (some k)
section
variable {w W W' : World} {k : Nat} {s : ByteArray} {y tm : Int} {bv gv : Value} {c : Int}
theorem Rsi.later (h : Rsi w W k s y tm bv gv c) (hb : Below W.heap.size W W') : Rsi w W' k s y tm bv gv c :=
  ⟨h.zero.later hb, h.box.later hb, h.cur.later hb, h.far, wtr h.gr (grown_below hb _)⟩
theorem Rsi.read {c' : Int} (h : Rsi w W k s y tm bv gv c) (hg : W.grownBy W' (some k)) (hc : Dg W' k s c') : Rsi w W' k s y tm bv gv c' :=
  have hf := h.far
  ⟨h.zero.grown hg (by simp; omega), h.box.grown hg (by simp; omega), hc, h.far, wtr h.gr hg⟩
theorem Rsi.put {i : Nat} {x : Value} {y' tm' : Int} {bv' gv' : Value} (h : Rsi w W k s y tm bv gv c) (hx : Sx (W.setCell ⟨w.heap.size + 1, i, none⟩ x) (w.heap.size + 1) 57 y' tm' bv' gv') : Rsi w (W.setCell ⟨w.heap.size + 1, i, none⟩ x) k s y' tm' bv' gv' c :=
  have hf := h.far
  ⟨heap_setCell_far x h.zero (by omega), hx, h.cur.far x (by omega), h.far, wst_new h.gr (by omega) i x⟩
end
def Sto1 (w : World) (k : Nat) (s : ByteArray) (a : Int) (e : Ending) (w' : World) : Prop :=
  (∃ y tm S G c ba bc ga gc, ist s a = some ((y, tm, S, G), c) ∧ e = .returned (.agg #[.int .i64 y, .int .i64 tm, .slice ba S.length bc, .slice ga G.length gc]) ∧ Dg w' k s c ∧ OwT w' w.heap.size (.slice ba S.length bc) (.slice ga G.length gc) S G ∧ w.grownBy w' (some k)) ∨ (ist s a = none ∧ e = .panicked notHere ∧ w.grownBy w' (some k))
theorem Sto1.no {w : World} {k : Nat} {s : ByteArray} {a : Int} {w' : World} (h : ist s a = none) (hg : w.grownBy w' (some k)) : Sto1 w k s a (.panicked notHere) w' := Or.inr ⟨h, rfl, hg⟩
set_option maxHeartbeats 8000000 in
set_option maxRecDepth 100000 in
theorem rstore_any (k : Nat) (s : ByteArray) (a : Int) (w : World) (hs : s.size ≤ 1048576) (hc : Dg w k s a) :
    Calls Tryz.prog 100 #[.pointer (some ⟨k, 0, none⟩)] w fun e w' => Sto1 w k s a e w' := by
  have HSZ := hid hs
  have R0 : Hid (Rsi w ((w.alloc (.cells #[.int .i64 0, .int .i64 0, .slice none 0 0, .slice none 0 0] 57)).alloc (.cells #[.int .i64 0, .int .i64 0, .slice none 0 0, .slice none 0 0] 57)) k s 0 0 (.slice none 0 0) (.slice none 0 0) a) := hid (by
    have h2 := Sx.new (w.alloc (.cells #[.int .i64 0, .int .i64 0, .slice none 0 0, .slice none 0 0] 57)) 57 0 0 (.slice none 0 0) (.slice none 0 0)
    rw [show (w.alloc (.cells #[.int .i64 0, .int .i64 0, .slice none 0 0, .slice none 0 0] 57)).heap.size = w.heap.size + 1 by simp] at h2
    exact ⟨(Sx.new w _ _ _ _ _).later (bpush (bre _) _), h2, hc.later (bpush (bpush (bre _) _) _), hc.lt, grown_below (bpush (bpush (bre _) _) _) _⟩)
  obtain ⟨W0, hW0⟩ : ∃ W, ((w.alloc (.cells #[.int .i64 0, .int .i64 0, .slice none 0 0, .slice none 0 0] 57)).alloc (.cells #[.int .i64 0, .int .i64 0, .slice none 0 0, .slice none 0 0] 57)) = W := ⟨_, rfl⟩
  rw [hW0] at R0
  have HW0 := hid hW0
  clear hs hc hW0
  go_enter Tryz.func100, Tryz.ntmps100
  go_wp2_with fail
  rw [HW0.out]
  clear HW0
  refine (numr_any k s a _ HSZ.out R0.out.cur).mono ?_; rintro e w1 (⟨y, c1, hr, rfl, hd, hg⟩ | ⟨hr, rfl, hg⟩)
  case inr =>
    have P := hid (Sto1.no (ist_n1 hr) (wtr R0.out.gr hg))
    clear hr hg
    go_wp2_with fail
    exact ⟨rfl, P.out⟩
  have H1 := hid hr
  have R1 := hid (R0.out.read hg hd)
  have d8 := R1.out.box.cells
  have f8 := R1.out.box.loose
  have Q1 := hid (R1.out.put (R1.out.box.s0 y))
  clear hr hd hg R0
  go_wp2_with fail
  clear d8 f8 R1
  refine (numr_any k s c1 _ HSZ.out Q1.out.cur).mono ?_; rintro e w2 (⟨tm, c2, hr, rfl, hd, hg⟩ | ⟨hr, rfl, hg⟩)
  case inr =>
    have P := hid (Sto1.no (ist_n2 H1.out hr) (wtr Q1.out.gr hg))
    clear hr hg
    go_wp2_with fail
    exact ⟨rfl, P.out⟩
  have H2 := hid hr
  have R2 := hid (Q1.out.read hg hd)
  have d8 := R2.out.box.cells
  have f8 := R2.out.box.loose
  have Q4 := hid (R2.out.put (R2.out.box.s1 tm))
  clear hr hd hg Q1
  go_wp2_with fail
  clear d8 f8 R2
  refine (lboxes_any k s c2 _ HSZ.out Q4.out.cur).mono ?_; rintro e w5 (⟨S, Y, v, c3, hr, hZ, rfl, hd, ho, hg⟩ | ⟨hr, rfl, hg⟩)
  case inr =>
    have P := hid (Sto1.no (ist_n3 H1.out H2.out hr) (wtr Q4.out.gr hg))
    clear hr hg
    go_wp2_with fail
    exact ⟨rfl, P.out⟩
  have H5 := hid hr
  have hlen : Y.length = S.length := by rw [← hZ, List.length_map]
  have HZ := hid hZ
  have hsz4 := Q4.out.box.lt
  obtain ⟨ma, mc, hv⟩ := ho.shape
  subst hv
  rw [hlen] at ho
  rw [hlen]
  have HL : Hid (S.length ≤ 1048576 ∧ Sb S) := hid (by
    have h1 := hr
    unfold ibs at h1
    cases h2 : rd s c2 with
    | none => rw [h2] at h1; cases h1
    | some p =>
      rw [h2] at h1
      simp only [Option.bind_some] at h1
      have h3 := rbs_end h1
      have h4 := rbs_right h1
      have h5 := rd_lt (n := p.1) (c := p.2) h2
      have h6 := HSZ.out
      refine ⟨?_, sb_right h4.2⟩
      by_cases h7 : 0 < p.1.toNat
      · have := h3.2.2 h7; omega
      · omega)
  have R5 := hid (Q4.out.read hg hd)
  have d8 := R5.out.box.cells
  have f8 := R5.out.box.loose
  have Q5 := hid (R5.out.put (R5.out.box.s2 (.slice ma S.length mc)))
  have O5 : Hid (OwS (w5.setCell ⟨w.heap.size + 1, 2, none⟩ (.slice ma S.length mc)) _ (.slice ma S.length mc) Y) := hid (ho.grown (wst (wre w5 (some (w.heap.size + 1))) 2 (.slice ma S.length mc)) hsz4)
  have S5 : Hid (w.heap.size + 1 < (w2.setCell ⟨w.heap.size + 1, 1, none⟩ (.int .i64 tm)).heap.size) := hid hsz4
  have S45 : Hid ((w2.setCell ⟨w.heap.size + 1, 1, none⟩ (.int .i64 tm)).heap.size ≤ w5.heap.size) := hid hg.size
  obtain ⟨B5, hB5⟩ : ∃ n, (w2.setCell ⟨w.heap.size + 1, 1, none⟩ (.int .i64 tm)).heap.size = n := ⟨_, rfl⟩
  rw [hB5] at O5 S5 S45
  obtain ⟨mn, hmn⟩ : ∃ n, S.length = n := ⟨_, rfl⟩
  rw [hmn] at Q5 O5 HL
  rw [hmn]
  have HMN := hid hmn
  clear hr hd hg ho Q4 hZ hlen hsz4 hB5 hmn
  go_wp2_with fail
  clear d8 f8 R5
  refine (lints_any k s c3 _ HSZ.out Q5.out.cur).mono ?_; rintro e w6 (⟨G, gv, c6, hr, rfl, hd, ho, hg⟩ | ⟨hr, rfl, hg⟩)
  case inr =>
    have P := hid (Sto1.no (ist_n4 H1.out H2.out H5.out hr) (wtr Q5.out.gr hg))
    clear hr hg
    go_wp2_with fail
    exact ⟨rfl, P.out⟩
  have H6 := hid hr
  have hsz5 := Q5.out.box.lt
  have hk := Q5.out.far
  have hs5 := S5.out
  have O6a := O5.out.grown hg (by omega)
  have hrow : Hid (∀ j, (Value.slice ma mn mc).ownBlock = some j → j < (w5.setCell ⟨w.heap.size + 1, 2, none⟩ (.slice ma mn mc)).heap.size) := hid (fun j hj => (O5.out.row.lt j hj).2)
  have heach : Hid (∀ y ∈ Y, y.hi ≤ (w5.setCell ⟨w.heap.size + 1, 2, none⟩ (.slice ma mn mc)).heap.size) := hid (fun y hy => (O5.out.each y hy).1.top)
  obtain ⟨ga, gc, hv, _⟩ := OwI.shape ho
  subst hv
  have HG : Hid (G.length ≤ 1048576) := hid (by
    have h1 := hr
    unfold iis at h1
    cases h2 : rd s c3 with
    | none => rw [h2] at h1; cases h1
    | some p =>
      rw [h2] at h1
      simp only [Option.bind_some] at h1
      have h3 := rds_lt h1
      have h4 := rds_len h1
      have h5 := rd_lt (n := p.1) (c := p.2) h2
      have h6 := HSZ.out
      by_cases h7 : 0 < p.1.toNat
      · have := h3.2 h7; omega
      · omega)
  have R6 := hid (Q5.out.read hg hd)
  have d8 := R6.out.box.cells
  have f8 := R6.out.box.loose
  have Q6 := hid (R6.out.put (R6.out.box.s3 (.slice ga G.length gc)))
  have O6 : Hid (OwS (w6.setCell ⟨w.heap.size + 1, 3, none⟩ (.slice ga G.length gc)) B5 (.slice ma mn mc) Y) := hid (O6a.grown (wst (wre w6 (some (w.heap.size + 1))) 3 (.slice ga G.length gc)) hs5)
  have I6 : Hid (OwI (w6.setCell ⟨w.heap.size + 1, 3, none⟩ (.slice ga G.length gc)) (w5.setCell ⟨w.heap.size + 1, 2, none⟩ (.slice ma mn mc)).heap.size (.slice ga G.length gc) G) := hid (ownI_far ho (wst (wre w6 (some (w.heap.size + 1))) 3 (.slice ga G.length gc)) hsz5)
  have HFAR : Hid (∀ j, (Value.slice ga G.length gc).ownBlock = some j → (w5.setCell ⟨w.heap.size + 1, 2, none⟩ (.slice ma mn mc)).heap.size ≤ j) := hid (fun j hj => (World.ownsRow.lt ho j hj).1)
  have S6 : Hid (B5 ≤ (w5.setCell ⟨w.heap.size + 1, 2, none⟩ (.slice ma mn mc)).heap.size) := hid (by have h1 := S45.out; simpa [World.setCell] using h1)
  obtain ⟨B6, hB6⟩ : ∃ n, (w5.setCell ⟨w.heap.size + 1, 2, none⟩ (.slice ma mn mc)).heap.size = n := ⟨_, rfl⟩
  rw [hB6] at I6 HFAR hrow heach S6
  obtain ⟨gn, hgn⟩ : ∃ n, G.length = n := ⟨_, rfl⟩
  rw [hgn] at Q6 O6 I6 HG HFAR
  rw [hgn]
  have HGN := hid hgn
  clear hr hd hg ho Q5 hsz5 hk hs5 hB6 O6a hgn O5
  go_wp2_with fail
  clear d8 f8 R6
  obtain ⟨W6, hW6⟩ : ∃ W, w6.setCell ⟨w.heap.size + 1, 3, none⟩ (.slice ga gn gc) = W := ⟨_, rfl⟩
  rw [hW6] at Q6 O6 I6
  try rw [hW6]
  have e8 := Q6.out.box.cells
  clear hW6
  obtain ⟨q, hq⟩ : ∃ q, sOk y tm S G = q := ⟨_, rfl⟩
  have CB := implStoreOk_any _ _ _ _ y tm ma mn mc ga gn gc S G W6 HMN.out HL.out.1 HL.out.2 (HZ.out ▸ (O6.out.bs).2) HGN.out HG.out (OwI.is I6.out).2
  rw [hq] at CB
  have HRB : Hid (ist s a = if q = true then some ((y, tm, S, G), c6) else none) := hid (by rw [ist_y H1.out H2.out H5.out H6.out, hq])
  refine CB.mono ?_; rintro e w7 ⟨rfl, hb7⟩
  have R7 := hid (Q6.out.later hb7)
  have O7 := hid (O6.out.later hb7)
  have I7 := hid (own_later I6.out hb7)
  have d8 := R7.out.box.cells
  have d4 := R7.out.zero.cells
  have f4 := R7.out.zero.loose
  clear hb7 CB e8 Q6 O6 I6
  cases q
  · have P := hid (Sto1.no (by rw [HRB.out]; rfl) R7.out.gr)
    go_wp2_with fail
    refine (must_no _).mono ?_; rintro e w8 ⟨rfl, rfl⟩
    go_wp2_with fail
    exact ⟨rfl, P.out⟩
  · go_wp2_with fail
    refine (must_yes _).mono ?_; rintro e w8 ⟨rfl, rfl⟩
    go_wp2
    have hX := Sx.put4 R7.out.zero y tm (.slice ma mn mc) (.slice ga gn gc)
    unfold put4 at hX
    have d := hX.cells
    have hmn := HMN.out
    have hgn := HGN.out
    refine bodyPost_ret (v := .agg #[.int .i64 y, .int .i64 tm, .slice ma mn mc, .slice ga gn gc]) (by simp [results, Tryz.results100, go_sem, d]) rfl ?_
    have hg7 := (wst (wst (wst (wst (wre w8 (some w.heap.size)) 0 (.int .i64 y)) 1 (.int .i64 tm)) 2 (.slice ma mn mc)) 3 (.slice ga gn gc))
    have l1 := R7.out.far
    have l2 := S5.out
    have l3 := S6.out
    refine Or.inl ⟨y, tm, S, G, c6, ma, mc, ga, gc, by rw [HRB.out]; rfl, by rw [hmn, hgn], ?_, ?_, ?_⟩
    · exact (hg7.block k (by have := R7.out.gr.size; omega) (by simp; omega)).trans R7.out.cur
    · rw [hmn, hgn]
      exact ⟨Y, HZ.out, (O7.out.grown hg7 (by omega)).base (by omega), own_base (ownI_far I7.out hg7 (by omega)) (by omega), fun j h1 h2 => by have h3 := HFAR.out j h1; have h4 := hrow.out j h2; omega, fun y hy j h1 => by have h3 := HFAR.out j h1; have h4 := heach.out y hy; omega⟩
    · exact wst_new (wst_new (wst_new (wst_new R7.out.gr (Nat.le_refl _) 0 _) (Nat.le_refl _) 1 _) (Nat.le_refl _) 2 _) (Nat.le_refl _) 3 _
theorem drewStore {W : World} {B : Nat} {bv gv : Value} {S : List X7} {G : List Int} (h : OwT W B bv gv S G) : OwT W.drew B bv gv S G := h.later (bdr (bre W))
def CloStore (w : World) (kr km : Nat) (s : ByteArray) (a : Int) (w' : World) : Prop :=
  ∃ y tm S G c ba bc ga gc, ist s a = some ((y, tm, S, G), c) ∧ Dg w' kr s c ∧ Sx w' km 57 y tm (.slice ba S.length bc) (.slice ga G.length gc) ∧ OwT w' w.heap.size (.slice ba S.length bc) (.slice ga G.length gc) S G ∧ Kept2 w w' kr km
set_option maxHeartbeats 400000 in
set_option maxRecDepth 100000 in
theorem closStore_any (kf kr km ft : Nat) (s : ByteArray) (a : Int) (w : World) (hs : s.size ≤ 1048576) (hf : Fg w kf ft 100) (hd : Dg w kr s a) (hm : Sx w km 57 0 0 (.slice none 0 0) (.slice none 0 0)) (hne : kr ≠ km) :
    Calls Tryz.prog 175 #[.pointer (some ⟨kf, 0, none⟩), .pointer (some ⟨kr, 0, none⟩), .pointer (some ⟨km, 0, none⟩)] w fun e w' => (e = .returned (.tuple #[]) ∧ CloStore w kr km s a w') ∨ (e = .panicked notHere ∧ ist s a = none ∧ w.grownBy w' (some kr)) := by
  have HD := hid hd
  have HM := hid hm
  have HS := hid hs
  have HNE := hid hne
  have cf := hf.cell
  clear hd hm hs hne hf
  go_enter Tryz.func175, Tryz.ntmps175
  go_wp2_with fail
  refine (rstore_any kr s a _ HS.out HD.out).mono ?_; rintro e w1 (⟨y, tm, S, G, c, ba, bc, ga, gc, hr, rfl, hd, ho, hg⟩ | ⟨hr, rfl, hg⟩)
  case inr =>
    have H := hid hr
    have G := hid hg
    clear hr hg
    go_wp2_with fail
    exact ⟨rfl, Or.inr ⟨rfl, H.out, G.out⟩⟩
  have H := hid hr
  have M1 := hid (HM.out.grown hg (by have := HNE.out; simp; omega))
  have D1 := hid hd
  have O1 := hid ho
  have K1 : Hid (Kept2 w w1 kr km) := Kept2.of_grown hg
  have LM : Hid (km < w.heap.size) := HM.out.lt
  have c := M1.out.cells
  have f := M1.out.loose
  clear hr hd ho hg cf
  go_wp2
  go_end0
  have hne := HNE.out
  have hX := Sx.put4 M1.out y tm (.slice ba S.length bc) (.slice ga G.length gc)
  unfold put4 at hX
  refine Or.inl ⟨rfl, y, tm, S, G, _, ba, bc, ga, gc, H.out, ?_, hX, ?_, ?_⟩
  · exact ((wst (wst (wst (wst (wre w1 (some km)) _ _) _ _) _ _) _ _).block kr D1.out.lt (by simp; omega)).trans D1.out
  · exact OwT.grown (O1.out) ((wst (wst (wst (wst (wre w1 (some km)) _ _) _ _) _ _) _ _)) (LM.out)
  · exact ((((K1.out.set _ _).set _ _).set _ _).set _ _)
set_option maxHeartbeats 800000 in
set_option maxRecDepth 100000 in
/-- readWhole over this closure, whatever it is known to leave. -/
theorem wholeStore_any (p1 p2 p3 : Value) (w : World) (Y N : World → Prop) (hF : Calls Tryz.prog 175 #[p1, p2, p3] (w.alloc (.cells #[.bool false] 4)) fun e w1 => (e = .returned (.tuple #[]) ∧ Y w1) ∨ (e = .panicked notHere ∧ N w1)) (hY : ∀ w1, Y w1 → Bwd w1 w.heap.size false) (hN : ∀ w1, N w1 → Bwd w1 w.heap.size false) :
    Calls Tryz.prog 64 #[.func (.func 175) #[] #[p1, p2, p3]] w fun e w' => (e = .returned (.bool true) ∧ ∃ w1, Y w1 ∧ w' = (w1.setCell ⟨w.heap.size, 0, none⟩ (.bool true)).alloc (.cells #[] 97)) ∨ (e = .returned (.bool false) ∧ ∃ w1, N w1 ∧ w' = (w1.alloc (.cells #[] 97)).setCell ⟨w.heap.size, 0, none⟩ (.bool false)) := by
  have hmf : ∀ (fn : Fn) (first cap : Array Value) (w : World), (Instr.makeFunc fn first cap).run Tryz.prog w = .ok (.func fn first cap) w := fun _ _ _ _ => rfl
  have HF := hid hF
  have HY := hid hY
  have HN := hid hN
  have B0 := hid (Bwd.new w false)
  have c0 := B0.out.cell
  clear hF hY hN
  go_enter_defers Tryz.func64, Tryz.ntmps64
  go_wp2_with fail
  refine HF.out.mono ?_; rintro e w1 (⟨rfl, hy⟩ | ⟨rfl, hn⟩)
  case inr =>
    have B1 : Hid (Bwd w1 w.heap.size false) := HN.out w1 hn
    have HNN := hid hn
    clear hn c0
    go_wp2_with fail
    refine leaves_cons (f := 108) (args := #[.pointer (some ⟨w.heap.size, 0, none⟩)]) (by simp) (by simp [go_sem]) ?_
    refine (catch_panic w.heap.size false [] _ B1.out).mono ?_
    rintro e u' w'' ⟨rfl, rfl, rfl⟩
    have cc := ((B1.out.later (bpush (bre w1) (.cells #[] 97))).set false).cell
    simp [Leaves, settle, results, Tryz.results64, go_sem, cc]
    exact ⟨w1, HNN.out, rfl⟩
  have B1 : Hid (Bwd w1 w.heap.size false) := HY.out w1 hy
  have HYY := hid hy
  have c1 := B1.out.cell
  have f1 := B1.out.loose
  clear hy c0
  go_wp2
  have N2 := hid (bpush (bre (w1.setCell ⟨w.heap.size, 0, none⟩ (.bool true))) (.cells #[] 97))
  have cc := ((B1.out.set true).later N2.out).cell
  refine leaves_cons (f := 108) (args := #[.pointer (some ⟨w.heap.size, 0, none⟩)]) (by simp) (by simp [go_sem]) ?_
  refine (catch_idle w.heap.size _).mono ?_
  rintro e u' w'' ⟨rfl, rfl, rfl⟩
  simp [Leaves, settle, results, Tryz.results64, go_sem, cc]
  exact ⟨w1, HYY.out, rfl⟩
def RaStore (s : ByteArray) (a : Int) (w : World) (e : Ending) (w' : World) : Prop :=
  (∃ y tm S G c ba bc ga gc, ist s a = some ((y, tm, S, G), c) ∧ e = .returned (.tuple #[.agg #[.int .i64 y, .int .i64 tm, .slice ba S.length bc, .slice ga G.length gc], .int .i64 c, .bool true]) ∧ OwT w' w.heap.size (.slice ba S.length bc) (.slice ga G.length gc) S G ∧ Below w.heap.size w w') ∨
  (ist s a = none ∧ e = .returned (.tuple #[.agg #[.int .i64 0, .int .i64 0, .slice none 0 0, .slice none 0 0], .int .i64 0, .bool false]) ∧ Below w.heap.size w w')
theorem blocksStore (w : World) (ft : Nat) (s : ByteArray) (a : Int) (W0 : World) (h : ((w.alloc (.cells #[.func (.func 100) #[] #[]] ft)).alloc (.cells #[.int .i64 0, .int .i64 0, .slice none 0 0, .slice none 0 0] 57)).alloc (.cells #[.string s, .int .i64 a] 94) = W0) :
    Fg W0 w.heap.size ft 100 ∧ Sx W0 (w.heap.size + 1) 57 0 0 (.slice none 0 0) (.slice none 0 0) ∧ Dg W0 (w.heap.size + 1 + 1) s a ∧ Below w.heap.size w W0 := by
  subst h
  have h1 : Fg (w.alloc (.cells #[.func (.func 100) #[] #[]] ft)) w.heap.size ft 100 := heap_alloc_new w _
  have h2 := Sx.new (w.alloc (.cells #[.func (.func 100) #[] #[]] ft)) 57 0 0 (.slice none 0 0) (.slice none 0 0)
  have h3 := Dg.new ((w.alloc (.cells #[.func (.func 100) #[] #[]] ft)).alloc (.cells #[.int .i64 0, .int .i64 0, .slice none 0 0, .slice none 0 0] 57)) s a
  rw [alloc_size w] at h2
  rw [alloc_size (w.alloc _), alloc_size w] at h3
  exact ⟨h1.later (bpush (bpush (bre _) _) _), h2.later (bpush (bre _) _), h3, bpush (bpush (bpush (bre _) _) _) _⟩
set_option maxHeartbeats 1600000 in
set_option maxRecDepth 100000 in
theorem readAtStore_any (s : ByteArray) (a : Int) (w : World) (hs : s.size ≤ 1048576) :
    Calls Tryz.prog 140 #[.string s, .int .i64 a, .func (.func 100) #[] #[]] w fun e w' => RaStore s a w e w' := by
  have hmf : ∀ (fn : Fn) (first cap : Array Value) (w : World), (Instr.makeFunc fn first cap).run Tryz.prog w = .ok (.func fn first cap) w := fun _ _ _ _ => rfl
  have HSZ := hid hs
  obtain ⟨W0, hW0⟩ : ∃ W0, ((w.alloc (.cells #[.func (.func 100) #[] #[]] 128)).alloc (.cells #[.int .i64 0, .int .i64 0, .slice none 0 0, .slice none 0 0] 57)).alloc (.cells #[.string s, .int .i64 a] 94) = W0 := ⟨_, rfl⟩
  obtain ⟨f0, x0, d0, b0⟩ := blocksStore w _ s a W0 hW0
  have N1 := hid (bpush (bre W0) (.cells #[.bool false] 4))
  have LW : Hid (w.heap.size + 1 + 1 < W0.heap.size) := d0.lt
  have L1 : Hid (W0.heap.size < (W0.alloc (.cells #[.bool false] 4)).heap.size) := hid (by show _ < _; simp)
  have HB := hid b0
  have BG := hid (Bwd.new W0 false)
  have CL := wholeStore_any (.pointer (some ⟨w.heap.size, 0, none⟩)) (.pointer (some ⟨w.heap.size + 1 + 1, 0, none⟩)) (.pointer (some ⟨w.heap.size + 1, 0, none⟩)) W0 _ _ (closStore_any w.heap.size (w.heap.size + 1 + 1) (w.heap.size + 1) _ s a _ hs (f0.later N1.out) (d0.later N1.out) (x0.later N1.out) (by omega)) (by
    rintro w1 ⟨y, tm, S, G, c, ba, bc, ga, gc, _, _, _, _, hk⟩
    have l1 := LW.out
    exact (hk.block W0.heap.size BG.out.lt (by omega) (by omega)).trans BG.out) (by
    rintro w1 ⟨_, hk⟩
    have l1 := LW.out
    exact BG.out.grown hk (by simp; omega))
  have HCL := hid CL
  have X0 := hid x0
  have HW0 := hid hW0
  clear hs hW0 f0 x0 d0 b0 CL
  go_enter Tryz.func140, Tryz.ntmps140
  go_wp2_with fail
  rw [HW0.out]
  refine HCL.out.mono ?_; rintro e w1 (⟨rfl, w2, hy, rfl⟩ | ⟨rfl, w2, ⟨hr, hk⟩, rfl⟩)
  case inr =>
    have H := hid hr
    have l1 := LW.out
    have l2 := L1.out
    have E2 : Hid (Below w.heap.size w ((w2.alloc (.cells #[] 97)).setCell ⟨W0.heap.size, 0, none⟩ (.bool false))) := hid (bsk (btr (HB.out.trans (N1.out.mono (by omega) |>.trans (below_grownR hk (by intro j hj; simp at hj; omega) (by omega)))) (bpush (bre w2) _)) (by omega) 0 _)
    have F2 : Hid (Sx ((w2.alloc (.cells #[] 97)).setCell ⟨W0.heap.size, 0, none⟩ (.bool false)) (w.heap.size + 1) 57 0 0 (.slice none 0 0) (.slice none 0 0)) := hid (heap_setCell_far _ (((X0.out.later N1.out).grown hk (by simp)).later (bpush (bre w2) _)) (by omega))
    obtain ⟨w3, hw3⟩ : ∃ x, (w2.alloc (.cells #[] 97)).setCell ⟨W0.heap.size, 0, none⟩ (.bool false) = x := ⟨_, rfl⟩
    rw [hw3] at E2 F2
    rw [hw3]
    have d := F2.out.cells
    have f := F2.out.loose
    clear hr hk hw3 l1 l2
    go_wp2
    have hX := Sx.put4 F2.out 0 0 (.slice none 0 0) (.slice none 0 0)
    unfold put4 at hX
    have d := hX.cells
    exact bodyPost_ret (v := .tuple #[.agg #[.int .i64 0, .int .i64 0, .slice none 0 0, .slice none 0 0], .int .i64 0, .bool false]) (by simp [results, Tryz.results140, go_sem, d]) rfl (Or.inr ⟨H.out, rfl, E2.out.trans (below_grownR (wst (wst (wst (wst (wre w3 (some (w.heap.size + 1))) 0 (.int .i64 0)) 1 (.int .i64 0)) 2 (.slice none 0 0)) 3 (.slice none 0 0)) (by intro j hj; simp at hj; omega) E2.out.size)⟩)
  obtain ⟨y, tm, S, G, c, ba, bc, ga, gc, hr, hd, hx, ho, hk⟩ := hy
  have H := hid hr
  have l1 := LW.out
  have l2 := L1.out
  have K2 : Hid (Kept2 W0 w2 (w.heap.size + 1 + 1) (w.heap.size + 1)) := hid hk.push
  have N3 := hid (bpush (bre (w2.setCell ⟨W0.heap.size, 0, none⟩ (.bool true))) (.cells #[] 97))
  have E2 : Hid (Below w.heap.size w ((w2.setCell ⟨W0.heap.size, 0, none⟩ (.bool true)).alloc (.cells #[] 97))) := hid (HB.out.trans (((K2.out.new (Nat.le_refl _) _ _).later N3.out).below (by omega) (by omega) (by omega)))
  have D2 := hid ((hd.far (j := W0.heap.size) (i := 0) (.bool true) (by omega)).later N3.out)
  have X2 : Hid (Sx ((w2.setCell ⟨W0.heap.size, 0, none⟩ (.bool true)).alloc (.cells #[] 97)) (w.heap.size + 1) 57 y tm (.slice ba S.length bc) (.slice ga G.length gc)) := hid (((show Sx (w2.setCell ⟨W0.heap.size, 0, none⟩ (.bool true)) (w.heap.size + 1) 57 y tm (.slice ba S.length bc) (.slice ga G.length gc) from heap_setCell_far _ hx (by omega))).later N3.out)
  have O2 := hid (OwT.later (OwT.grown (ho) (wst (wre w2 (some W0.heap.size)) 0 (.bool true)) (l2)) N3.out)
  obtain ⟨w3, hw3⟩ : ∃ x, (w2.setCell ⟨W0.heap.size, 0, none⟩ (.bool true)).alloc (.cells #[] 97) = x := ⟨_, rfl⟩
  rw [hw3] at E2 D2 X2 O2
  rw [hw3]
  have d := X2.out.cells
  have f := X2.out.loose
  have dd := D2.out.cells
  clear hr hd hx ho hk hw3 l1 l2 K2 N3
  go_wp2_with fail
  go_region
  all_goals go_wp2
  all_goals
    have hX := Sx.put4 X2.out y tm (.slice ba S.length bc) (.slice ga G.length gc)
    unfold put4 at hX
    have d3 := hX.cells
    have l1 := LW.out
    have l2 := L1.out
    refine bodyPost_ret (v := .tuple #[.agg #[.int .i64 y, .int .i64 tm, .slice ba S.length bc, .slice ga G.length gc], .int .i64 c, .bool true]) (by simp [results, Tryz.results140, go_sem, d3]) rfl (Or.inl ⟨y, tm, S, G, c, ba, bc, ga, gc, H.out, rfl, ?_, ?_⟩)
    · first | exact drewStore (OwT.base (OwT.grown (O2.out) ((wst (wst (wst (wst (wre w3 (some (w.heap.size + 1))) 0 (.int .i64 y)) 1 (.int .i64 tm)) 2 (.slice ba S.length bc)) 3 (.slice ga G.length gc))) (by omega)) (show w.heap.size ≤ _ by omega)) | exact OwT.base (OwT.grown (drewStore O2.out) ((wst (wst (wst (wst (wre w3.drew (some (w.heap.size + 1))) 0 (.int .i64 y)) 1 (.int .i64 tm)) 2 (.slice ba S.length bc)) 3 (.slice ga G.length gc))) (by omega)) (show w.heap.size ≤ _ by omega)
    · first | exact bdr (E2.out.trans (below_grownR (wst (wst (wst (wst (wre w3 (some (w.heap.size + 1))) 0 (.int .i64 y)) 1 (.int .i64 tm)) 2 (.slice ba S.length bc)) 3 (.slice ga G.length gc)) (by intro j hj; simp at hj; omega) E2.out.size)) | exact (bdr E2.out).trans (below_grownR (wst (wst (wst (wst (wre w3.drew (some (w.heap.size + 1))) 0 (.int .i64 y)) 1 (.int .i64 tm)) 2 (.slice ba S.length bc)) 3 (.slice ga G.length gc)) (by intro j hj; simp at hj; omega) E2.out.size)
end Go.Proofs.YtlhofbnnonljaaaGreatDoor
