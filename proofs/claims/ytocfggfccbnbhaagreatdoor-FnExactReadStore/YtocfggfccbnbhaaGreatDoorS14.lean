/- Ssh, Tid, Tie, Tig, Tim, Tin, Tiq, Tir, Tiv, Bdl, Bdr, Bany, Usa. -/
import Derived.Test.YtocfggfccbnbhaaGreatDoorS13
import Derived.Shelf.Sort.Plain
import Derived.Shelf.Slices.In.SortNone
import Derived.Shelf.Slices.Cells
import Derived.Sort.OwnSortedInts
namespace Go.Proofs.YtocfggfccbnbhaaGreatDoor
open Go.RowKit Go.ChangeMaps
def soLaysRen : Go.Shelf.Ren := ⟨fun | 189 => 131 | 125 => 172 | 257 => 171 | 128 => 198 | 129 => 199 | 294 => 189 | 295 => 190 | 296 => 191 | 297 => 192 | 298 => 193 | 299 => 194 | 216 => 195 | 300 => 196 | 301 => 197 | 328 => 208 | 329 => 209 | 330 => 210 | 331 => 211 | 332 => 212 | 215 => 213 | 343 => 217 | n => n, fun | 28 => 25 | 3 => 3 | 46 => 158 | 0 => 0 | 51 => 115 | 53 => 218 | 4 => 4 | 183 => 209 | 182 => 208 | 131 => 214 | 5 => 5 | 9 => 9 | 218 => 227 | 222 => 231 | 228 => 238 | 229 => 239 | n => n, fun | n => n⟩
theorem soLays : Go.Proofs.Lays.n189 Tryz.prog soLaysRen := {
  mixed := by kernel_rfl
  f125 := Tryz.func172.trans (congrArg some (by kernel_rfl))
  f128 := Tryz.func198.trans (congrArg some (by kernel_rfl))
  f129 := Tryz.func199.trans (congrArg some (by kernel_rfl))
  f189 := Tryz.func131.trans (congrArg some (by kernel_rfl))
  f215 := Tryz.func213.trans (congrArg some (by kernel_rfl))
  f216 := Tryz.func195.trans (congrArg some (by kernel_rfl))
  f257 := Tryz.func171.trans (congrArg some (by kernel_rfl))
  f294 := Tryz.func189.trans (congrArg some (by kernel_rfl))
  f295 := Tryz.func190.trans (congrArg some (by kernel_rfl))
  f296 := Tryz.func191.trans (congrArg some (by kernel_rfl))
  f297 := Tryz.func192.trans (congrArg some (by kernel_rfl))
  f298 := Tryz.func193.trans (congrArg some (by kernel_rfl))
  f299 := Tryz.func194.trans (congrArg some (by kernel_rfl))
  f300 := Tryz.func196.trans (congrArg some (by kernel_rfl))
  f301 := Tryz.func197.trans (congrArg some (by kernel_rfl))
  f328 := Tryz.func208.trans (congrArg some (by kernel_rfl))
  f329 := Tryz.func209.trans (congrArg some (by kernel_rfl))
  f330 := Tryz.func210.trans (congrArg some (by kernel_rfl))
  f331 := Tryz.func211.trans (congrArg some (by kernel_rfl))
  f332 := Tryz.func212.trans (congrArg some (by kernel_rfl))
  f343 := Tryz.func217.trans (congrArg some (by kernel_rfl))
  t0 := Tryz.underlying0
  a0 := Tryz.isAgg0
  z0 := Tryz.sizeOf0
  v0 := Tryz.zeroValue0
  t3 := Tryz.underlying3
  a3 := Tryz.isAgg3
  z3 := Tryz.sizeOf3
  v3 := Tryz.zeroValue3
  t4 := Tryz.underlying4
  a4 := Tryz.isAgg4
  z4 := Tryz.sizeOf4
  v4 := Tryz.zeroValue4
  t5 := Tryz.underlying5
  a5 := Tryz.isAgg5
  z5 := Tryz.sizeOf5
  v5 := Tryz.zeroValue5
  t9 := Tryz.underlying9
  a9 := Tryz.isAgg9
  z9 := Tryz.sizeOf9
  v9 := Tryz.zeroValue9
  t28 := Tryz.underlying25
  a28 := Tryz.isAgg25
  z28 := Tryz.sizeOf25
  v28 := Tryz.zeroValue25
  t46 := Tryz.underlying158
  a46 := Tryz.isAgg158
  z46 := Tryz.sizeOf158
  v46 := Tryz.zeroValue158
  t51 := Tryz.underlying115
  a51 := Tryz.isAgg115
  z51 := Tryz.sizeOf115
  v51 := Tryz.zeroValue115
  t53 := Tryz.underlying218
  a53 := Tryz.isAgg218
  z53 := Tryz.sizeOf218
  v53 := Tryz.zeroValue218
  t131 := Tryz.underlying214
  a131 := Tryz.isAgg214
  z131 := Tryz.sizeOf214
  v131 := Tryz.zeroValue214
  t182 := Tryz.underlying208
  a182 := Tryz.isAgg208
  z182 := Tryz.sizeOf208
  v182 := Tryz.zeroValue208
  t183 := Tryz.underlying209
  a183 := Tryz.isAgg209
  z183 := Tryz.sizeOf209
  v183 := Tryz.zeroValue209
  t218 := Tryz.underlying227
  a218 := Tryz.isAgg227
  z218 := Tryz.sizeOf227
  v218 := Tryz.zeroValue227
  t222 := Tryz.underlying231
  a222 := Tryz.isAgg231
  z222 := Tryz.sizeOf231
  v222 := Tryz.zeroValue231
  t228 := Tryz.underlying238
  a228 := Tryz.isAgg238
  z228 := Tryz.sizeOf238
  v228 := Tryz.zeroValue238
  t229 := Tryz.underlying239
  a229 := Tryz.isAgg239
  z229 := Tryz.sizeOf239
  v229 := Tryz.zeroValue239 }
def coLaysRen : Go.Shelf.Ren := ⟨fun | 20 => 132 | n => n, fun | 22 => 25 | 3 => 3 | 4 => 4 | 0 => 0 | n => n, fun | n => n⟩
theorem coLays : Go.Proofs.Lays2.n20 Tryz.prog coLaysRen := {
  mixed := by kernel_rfl
  f20 := Tryz.func132.trans (congrArg some (by kernel_rfl))
  t0 := Tryz.underlying0
  a0 := Tryz.isAgg0
  z0 := Tryz.sizeOf0
  v0 := Tryz.zeroValue0
  t3 := Tryz.underlying3
  a3 := Tryz.isAgg3
  z3 := Tryz.sizeOf3
  v3 := Tryz.zeroValue3
  t4 := Tryz.underlying4
  a4 := Tryz.isAgg4
  z4 := Tryz.sizeOf4
  v4 := Tryz.zeroValue4
  t22 := Tryz.underlying25
  a22 := Tryz.isAgg25
  z22 := Tryz.sizeOf25
  v22 := Tryz.zeroValue25
  i3 := by kernel_rfl }
end Go.Proofs.YtocfggfccbnbhaaGreatDoor

namespace Go.Proofs.YtocfggfccbnbhaaGreatDoor
open Go.RowKit Go.ChangeMaps
theorem compact_len (zs : List Int) : (Go.Lib.compact zs).length = zs.length ↔ ∀ j, j < zs.length → Go.Lib.keeps zs.toArray j = true := by
  unfold Go.Lib.compact Go.Lib.compactUpTo
  rw [List.length_map]
  constructor
  · intro h
    have h2 : ((List.range zs.length).filter (Go.Lib.keeps zs.toArray)).length = (List.range zs.length).length := by rw [h, List.length_range]
    have h3 := List.length_filter_eq_length_iff.1 h2
    intro j hj
    exact h3 j (List.mem_range.2 hj)
  · intro h
    have h3 := (List.length_filter_eq_length_iff (l := List.range zs.length) (p := Go.Lib.keeps zs.toArray)).2 (fun j hj => h j (List.mem_range.1 hj))
    rw [h3, List.length_range]
theorem sorted_keeps {zs : List Int} (hs : zs.Pairwise (fun a b => a ≤ b)) : (∀ j, j < zs.length → Go.Lib.keeps zs.toArray j = true) ↔ zs.Nodup := by
  constructor
  · intro h
    have h1 : zs.Pairwise (fun a b => a < b) := by
      rw [List.pairwise_iff_getElem] at hs ⊢
      intro i j hi hj hij
      have e : ∀ k, k < zs.length → 0 < k → zs[k - 1]! < zs[k]! := by
        intro k hk h0
        have h2 := h k hk
        unfold Go.Lib.keeps at h2
        simp only [decide_eq_true_eq] at h2
        rcases h2 with h2 | h2
        · omega
        · have h3 := hs (k - 1) k (by omega) hk (by omega)
          have e1 : zs.toArray[k]! = zs[k]! := by simp
          have e2 : zs.toArray[k-1]! = zs[k-1]! := by simp
          rw [e1, e2] at h2
          have e3 : zs[k]! = zs[k] := by simp [hk]
          have e4 : zs[k-1]! = zs[k-1] := by simp [show k - 1 < zs.length by omega]
          rw [e3, e4] at h2 ⊢
          omega
      have h3 := e j hj (by omega)
      have e3 : zs[j]! = zs[j] := by simp [hj]
      have e4 : zs[j-1]! = zs[j-1] := by simp [show j - 1 < zs.length by omega]
      rw [e3, e4] at h3
      by_cases hjj : i = j - 1
      · subst hjj; exact h3
      · have := hs i (j - 1) hi (by omega) (by omega)
        omega
    exact h1.imp (fun h => by omega)
  · intro hn j hj
    unfold Go.Lib.keeps
    simp only [decide_eq_true_eq]
    by_cases h0 : j = 0
    · exact .inl h0
    · right
      intro e
      have e1 : zs.toArray[j]! = zs[j] := by simp [hj]
      have e2 : zs.toArray[j-1]! = zs[j-1] := by simp [show j - 1 < zs.length by omega]
      rw [e1, e2] at e
      exact (List.pairwise_iff_getElem.1 hn (j - 1) j (by omega) hj (by omega)) e.symm
theorem sort_pairs (zs : List Int) : (zs.mergeSort fun x y => decide (x ≤ y)).Pairwise (fun a b => a ≤ b) := by
  have := List.pairwise_mergeSort (le := fun x y : Int => decide (x ≤ y)) (fun a b c => by simp; omega) (fun a b => by simp; omega) zs
  exact this.imp (fun h => by simpa using h)
theorem compact_sort (zs : List Int) : decide (((Go.Lib.compact (zs.mergeSort fun x y => decide (x ≤ y))).length : Int) = (zs.length : Int)) = decide zs.Nodup := by
  have hp := List.mergeSort_perm zs (fun x y : Int => decide (x ≤ y))
  have h1 := compact_len (zs.mergeSort fun x y => decide (x ≤ y))
  rw [sorted_keeps (sort_pairs zs), hp.nodup_iff, hp.length_eq] at h1
  by_cases h : zs.Nodup
  · have := h1.2 h
    simp [h, this]
  · have h2 := mt h1.1 h
    simp only [h, decide_false]
    simp only [decide_eq_false_iff_not]
    omega
theorem sortI_any (B : Nat) (v : Value) (zs : List Int) (w : World) (hown : OwI w B v zs) (hl : zs.length ≤ 1048576) :
    Calls Tryz.prog 131 #[v] w fun e w' => e = .returned (.tuple #[]) ∧ OwI w' B v (zs.mergeSort fun x y => decide (x ≤ y)) ∧ w.grownBy w' v.ownBlock := by
  rcases hown.2 with ⟨rfl, h2⟩ | ⟨g, cap, cur, h1, h2, h3, h4, h5, h6, h7⟩
  · obtain rfl : zs = [] := List.eq_nil_of_length_eq_zero h2
    refine (Any.slices_Sort_int_none soLays none 0 w).mono ?_
    rintro e w' ⟨rfl, rfl⟩
    exact ⟨rfl, by simpa using hown, wre _ _⟩
  · subst h1
    have hH := holds_of_blockI (ss := zs) h3 (by simpa using h7)
    refine (Any.slices_Sort_int soLays g 0 cap zs w hH (Array.getElem?_eq_some_iff.1 h3).1 (by omega)).mono ?_
    rintro e w' ⟨rfl, n, os, rfl⟩
    have hlen : (zs.mergeSort fun x y => decide (x ≤ y)).length = zs.length := List.length_mergeSort zs
    refine ⟨rfl, ?_, grownBy_sortedI _⟩
    have h8 := ownsRow_sortedI (n := n) (os := os) (e := 3) hlen h2 h3 h4 h5 h6
    unfold OwI
    rw [hlen]
    exact h8
theorem compactI_any (B : Nat) (v : Value) (zs : List Int) (w : World) (hown : OwI w B v zs) (hl : zs.length ≤ 1048576) :
    Calls Tryz.prog 132 #[v] w fun e w' => ∃ a c, e = .returned (.slice a (Go.Lib.compact zs).length c) ∧ w.grownBy w' v.ownBlock := by
  rcases hown.2 with ⟨rfl, h2⟩ | ⟨g, cap, cur, h1, h2, h3, h4, h5, h6, h7⟩
  · obtain rfl : zs = [] := List.eq_nil_of_length_eq_zero h2
    refine (Any.slices_Compact_int_empty coLays none 0 w).mono ?_
    rintro e w' ⟨rfl, rfl⟩
    exact ⟨none, 0, rfl, wre _ _⟩
  · subst h1
    have hH := holds_of_blockI (ss := zs) h3 (by simpa using h7)
    refine (Any.slices_Compact_int coLays g 0 cap zs w hH (by omega) h4).mono ?_
    rintro e w' ⟨rfl, q, rfl⟩
    refine ⟨_, _, rfl, ?_⟩
    have h8 := grownBy_sortedI (w := w) (g := g) (n := q) (os := #[]) (Go.Lib.compact zs ++ List.replicate (zs.length - (Go.Lib.compact zs).length) 0).toArray
    rw [Go.Sort.grow_empty] at h8
    exact h8
theorem gids_le {S : List X7} {i k : Nat} {L : List M4} (h : i < S.length) (hL : S[i].2.2.2.2.2.1 = L) (hk : k ≤ L.length) : (gids (S.take i) ++ (L.take k).map (fun m => m.1)).length ≤ (gids S).length := by
  have e1 : gids S = gids (S.take (i + 1)) ++ gids (S.drop (i + 1)) := by
    unfold gids
    rw [← List.flatMap_append, List.take_append_drop]
  rw [e1, gids_take h, hL]
  simp only [List.length_append, List.length_map, List.length_take]
  omega
set_option maxHeartbeats 1600000 in
set_option maxRecDepth 100000 in
theorem mailsUnlike_any (lo hi : Nat) (ba : Option Addr) (bn bc : Nat) (S : List X7) (w : World) (hl : S.length = bn) (hn : bn ≤ 1048576) (hsb : Sb S) (hm : Bs lo hi w ba S) (hg : (gids S).length ≤ 1048576) :
    Calls Tryz.prog 87 #[.slice ba bn bc] w fun e w' => e = .returned (.bool (decide (gids S).Nodup)) ∧ Below w.heap.size w w' := by
  have HL := hid hl
  have HN := hid hn
  have HSB := hid hsb
  have HR := hid hm
  have HG := hid hg
  clear hl hsb hm hg
  go_enter Tryz.func87, Tryz.ntmps87
  go_wp2
  go_loopw [3, 10] (fun vv iv wr => ∃ (i : Nat), i ≤ bn ∧ iv = .int .i64 (i : Int) ∧ OwI wr w.heap.size vv (gids (S.take i)) ∧ Below w.heap.size w wr) (fun _ iv _ => bn - (intOf iv).toNat)
  case atStart => exact ⟨0, Nat.zero_le _, rfl, ⟨rfl, .inl ⟨rfl, rfl⟩⟩, bre _⟩
  case round =>
    obtain ⟨i, hin, rfl, hown, hb⟩ := hrel
    obtain ⟨vv, hvv⟩ : ∃ vv, vv = u3 := ⟨_, rfl⟩
    subst hvv
    obtain ⟨wq, hwq⟩ : ∃ wq, wq = wr := ⟨_, rfl⟩
    subst hwq
    have HB := hid hb
    have HOW := hid hown
    have hbn := HN.out
    clear hb hown
    by_cases hlt : i < bn
    · have hil : i < S.length := by rw [HL.out]; exact hlt
      obtain ⟨k, o, ma1, mc1, ga1, gc1, rfl, hk, d, hms, his, _⟩ := (HR.out.later HB.out).at hil
      have hmem := HSB.out S[i] (List.getElem_mem hil)
      obtain ⟨q, hq⟩ : ∃ q, S[i] = q := ⟨_, rfl⟩
      obtain ⟨g1, nm1, t1, b1, nx1, L1, G1⟩ := q
      rw [hq] at d hms hmem
      dsimp only at d hms hmem
      have HQ : Hid (S[i].2.2.2.2.2.1 = L1) := by show _ = _; rw [hq]
      obtain ⟨m1, hm1⟩ : ∃ m1, L1.length = m1 := ⟨_, rfl⟩
      obtain ⟨n1, hn1⟩ : ∃ n1, G1.length = n1 := ⟨_, rfl⟩
      rw [hm1, hn1] at d hmem
      have HM1 := hid hm1
      have hml := hmem.2.1
      have AB := Bx.new wq 38 g1 nm1 t1 b1 nx1 (.slice ma1 m1 mc1) (.slice ga1 n1 gc1)
      have BB : Below wq.heap.size wq (wq.alloc (.cells #[.int .i64 g1, .string nm1, .int .i64 t1, .int .i64 b1, .int .i64 nx1, .slice ma1 m1 mc1, .slice ga1 n1 gc1] 38)) := bpush (bre _) _
      have cb := AB.cells
      have HMS := hid (hms.later BB)
      have HOB := hid (own_later HOW.out BB)
      have HBB := hid (btr HB.out BB)
      have hI : (0 : Int) ≤ (i : Int) ∧ (i : Int) < (bn : Int) := by omega
      unfold C7 at d
      clear hq hms his hmem hm1 hn1 AB BB hk
      go_wp2
      obtain ⟨W1, hW1⟩ : ∃ W1, wq.alloc (.cells #[.int .i64 g1, .string nm1, .int .i64 t1, .int .i64 b1, .int .i64 nx1, .slice ma1 m1 mc1, .slice ga1 n1 gc1] 38) = W1 := ⟨_, rfl⟩
      rw [hW1] at HMS HOB HBB ⊢
      clear hW1 d cb
      go_loopw [3, 17] (fun vv2 kv wr => ∃ k2 : Nat, k2 ≤ m1 ∧ kv = .int .i64 (k2 : Int) ∧ OwI wr w.heap.size vv2 (gids (S.take i) ++ (L1.take k2).map (fun m => m.1)) ∧ Ms lo hi wr ma1 L1 ∧ Below w.heap.size w wr) (fun _ kv _ => m1 - (intOf kv).toNat)
      case atStart => exact ⟨0, Nat.zero_le _, rfl, by simpa using HOB.out, HMS.out, HBB.out⟩
      case round =>
        obtain ⟨k2, hk2, rfl, hown2, hms2, hb2⟩ := hrel
        obtain ⟨v2, hv2⟩ : ∃ v2, v2 = u3 := ⟨_, rfl⟩
        subst hv2
        have HO2 := hid hown2
        have HM2 := hid hms2
        have HB2 := hid hb2
        clear hown2 hms2 hb2
        by_cases hkt : k2 < m1
        · have hkl : k2 < L1.length := by rw [HM1.out]; exact hkt
          obtain ⟨km, om, fa1, fc1, rfl, hkm, cm, _⟩ := HM2.out.at hkl
          have HLE := hid (Nat.le_trans (gids_le hil HQ.out (Nat.le_of_lt hkl)) HG.out)
          have HSN := hid (map_take_snoc hkl)
          obtain ⟨x, hx⟩ : ∃ x, L1[k2] = x := ⟨_, rfl⟩
          rw [hx] at cm HSN
          obtain ⟨x1, x2, x3, x4⟩ := x
          dsimp only at cm HSN
          obtain ⟨n3, hn3⟩ : ∃ n3, x3.length = n3 := ⟨_, rfl⟩
          rw [hn3] at cm
          have AM := Mg.new wr 86 x1 x2 (.slice fa1 n3 fc1) x4
          have BM : Below wr.heap.size wr (wr.alloc (.cells #[.int .i64 x1, .int .i64 x2, .slice fa1 n3 fc1, .string x4] 86)) := bpush (bre _) _
          have cg := AM.cells
          have HO3 := hid (own_later HO2.out BM)
          have HM3 := hid (HM2.out.later BM)
          have HB3 := hid (btr HB2.out BM)
          have hK : (0 : Int) ≤ (k2 : Int) ∧ (k2 : Int) < (m1 : Int) := by omega
          have HSZ : Hid (w.heap.size ≤ (wr.alloc (.cells #[.int .i64 x1, .int .i64 x2, .slice fa1 n3 fc1, .string x4] 86)).heap.size) := Nat.le_trans HB2.out.size BM.size
          have HSE : Hid ((wr.alloc (.cells #[.int .i64 x1, .int .i64 x2, .slice fa1 n3 fc1, .string x4] 86)).heap.size = wr.heap.size + 1) := by show _ = _; simp
          clear hx hn3 AM BM hkm
          go_wp2_with (at_builtin; refine wpList_append_ik _ rfl (.tmp 21) (.tmp 24) rfl w.heap.size _ (gids (S.take i) ++ (L1.take k2).map (fun m => m.1)) (by rfl) (by have h := HO3.out; exact h) x1 (by rw [HSE.out]; rfl) HLE.out HSZ.out ?_; intro v7 w7 hrow7 hg7 hl7; have O8 := hid hrow7; have BL8 : Hid (Below w.heap.size w w7) := HB3.out.trans (((Below.refl _ _).alloc HSZ.out _).grown hg7 (by have := HSZ.out; simp at this; simp; omega) (fun k hk => (HO3.out.lt k hk).1)); have M8 : Hid (Ms lo hi w7 (some ⟨km, om, none⟩) L1) := (HM3.out.same (by have h1 := HM3.out.1; have h2 := hg7.size; simp at h1 h2; omega) (fun k _ hk => (hg7.block k (by have h1 := HM3.out.1; simp at h1; simp; omega) (fun e => by have h1 := (HO3.out.lt k e.symm).1; have h2 := HR.out.1; omega)).trans (Below.heap_alloc _ _ k (by have h1 := HM3.out.1; omega)))); clear hrow7 hg7 hl7)
          go_roundw
          case rel => exact ⟨k2 + 1, by omega, by go_num, by have h := O8.out; rw [List.append_assoc, HSN.out] at h; exact h, M8.out, BL8.out⟩
          case measure => simp [intOf]; omega
        · have HE : Hid (gids (S.take i) ++ (L1.take k2).map (fun m => m.1) = gids (S.take (i + 1))) := by
            show _ = _
            rw [gids_take hil, HQ.out, List.take_of_length_le (l := L1) (by rw [HM1.out]; omega)]
          rw [HE.out] at HO2
          go_wp2
          go_roundw
          case rel => exact ⟨i + 1, by omega, by go_num, HO2.out, HB2.out⟩
          case measure => simp [intOf]; omega
    · have HO : Hid (OwI wq w.heap.size vv (gids S)) := by
        have h := HOW.out
        rw [List.take_of_length_le (by rw [HL.out]; omega)] at h
        exact h
      obtain ⟨zs, hzs⟩ : ∃ zs, gids S = zs := ⟨_, rfl⟩
      rw [hzs] at HO HG
      have HZ := hid hzs
      clear hzs HOW
      go_wp2_with fail
      refine (sortI_any w.heap.size vv zs _ HO.out HG.out).mono ?_; rintro e w3 ⟨rfl, ho3, hg3⟩
      have hlen : (zs.mergeSort fun x y => decide (x ≤ y)).length = zs.length := List.length_mergeSort zs
      have hcs := compact_sort zs
      obtain ⟨ys, hys⟩ : ∃ ys, (zs.mergeSort fun x y => decide (x ≤ y)) = ys := ⟨_, rfl⟩
      rw [hys] at ho3 hlen hcs
      have HLE := hid hlen
      have HCS := hid hcs
      have HO3 := hid ho3
      have HB3 : Hid (Below w.heap.size w w3) := HB.out.trans ((Below.refl _ _).grown hg3 (HB.out.size) (fun k hk => (HO.out.lt k hk).1))
      clear ho3 hg3 hlen hcs hys
      go_wp2_with fail
      refine (compactI_any w.heap.size vv ys _ HO3.out (by rw [HLE.out]; exact HG.out)).mono ?_; rintro e w4 ⟨ca, cc, rfl, hg4⟩
      have HB4 : Hid (Below w.heap.size w w4) := HB3.out.trans ((Below.refl _ _).grown hg4 (HB3.out.size) (fun k hk => (HO3.out.lt k hk).1))
      obtain ⟨cl, hcl⟩ : ∃ cl, (Go.Lib.compact ys).length = cl := ⟨_, rfl⟩
      rw [hcl] at HCS ⊢
      obtain ⟨a3, c3, hv3, _⟩ := OwI.shape HO3.out
      subst hv3
      obtain ⟨yl, hyl⟩ : ∃ yl, ys.length = yl := ⟨_, rfl⟩
      rw [hyl] at HLE HO3 ⊢
      have HE : Hid (decide (gids S).Nodup = ((cl : Int) == (yl : Int))) := by
        show _ = _
        rw [HZ.out, ← HCS.out, HLE.out]
        simp [BEq.beq]
      clear hg4 hcl hyl
      go_wp2
      go_ret
      exact ⟨by rw [HE.out]; rfl, HB4.out⟩
theorem sOk_bk (y tm : Int) (S : List X7) (G : List Int) : sOk y tm S G = ((decide (1 ≤ y) && decide (y ≤ 2)) && ((decide (0 ≤ tm) && decide (tm ≤ 100000)) && (gnM 20 G && (bkOk tm G S && decide (gids S).Nodup)))) := by
  unfold sOk bkOk
  cases gnM 20 G <;> cases decide ((S.length : Int) ≤ 5) <;> simp
theorem bk_gids {tm : Int} {G : List Int} {S : List X7} (h : bkOk tm G S = true) : (gids S).length ≤ 50 := by
  unfold bkOk at h
  simp only [Bool.and_eq_true, decide_eq_true_eq] at h
  have h2 := List.all_eq_true.1 h.2
  have h3 := gids_small (S := S) (i := S.length) (fun j hj hl => h2 j (List.mem_range.2 hl)) (Nat.le_refl _)
  rw [List.take_length] at h3
  omega
set_option maxHeartbeats 1600000 in
set_option maxRecDepth 100000 in
theorem implStoreOk_any (lo hi lo' hi' : Nat) (y tm : Int) (ba : Option Addr) (bn bc : Nat) (ga : Option Addr) (gn gc : Nat) (S : List X7) (G : List Int) (w : World) (hl : S.length = bn) (hn : bn ≤ 1048576) (hsb : Sb S) (hm : Bs lo hi w ba S) (hgl : G.length = gn) (hgn : gn ≤ 1048576) (hs : Is lo' hi' w ga G) :
    Calls Tryz.prog 33 #[.agg #[.int .i64 y, .int .i64 tm, .slice ba bn bc, .slice ga gn gc]] w fun e w' => e = .returned (.bool (sOk y tm S G)) ∧ Below w.heap.size w w' := by
  have HX := hid (sOk_bk y tm S G)
  obtain ⟨W0, hW0⟩ : ∃ W0, w.alloc (.cells #[.int .i64 y, .int .i64 tm, .slice ba bn bc, .slice ga gn gc] 27) = W0 := ⟨_, rfl⟩
  have a0 : Sx W0 w.heap.size 27 y tm (.slice ba bn bc) (.slice ga gn gc) := by subst hW0; exact Sx.new w _ y tm _ _
  have b0 : Below w.heap.size w W0 := by subst hW0; exact bpush (bre _) _
  obtain ⟨p6, hp6⟩ : ∃ p6, gnM 20 G = p6 := ⟨_, rfl⟩
  obtain ⟨p7, hp7⟩ : ∃ p7, bkOk tm G S = p7 := ⟨_, rfl⟩
  obtain ⟨p8, hp8⟩ : ∃ p8, decide (gids S).Nodup = p8 := ⟨_, rfl⟩
  rw [hp6, hp7, hp8] at HX
  have HP6 := hid hp6
  have HP7 := hid hp7
  have HP8 := hid hp8
  have c0 := a0.cells
  have HL := hid hl
  have HN := hid hn
  have HSB := hid hsb
  have HR := hid hm
  have HGL := hid hgl
  have HGN := hid hgn
  have HIS := hid hs
  have A0 := hid a0
  have B0 := hid b0
  clear hl hn hsb hm hgl hgn hs a0 b0 hp6 hp7 hp8
  by_cases h1 : 1 ≤ y
  case neg =>
    have HE : Hid (sOk y tm S G = false) := by show _ = _; rw [HX.out]; simp [h1]
    go_enter Tryz.func33, Tryz.ntmps33
    go_wp2
    go_ret
    exact ⟨by rw [HE.out]; rfl, B0.out⟩
  by_cases h2 : y ≤ 2
  case neg =>
    have HE : Hid (sOk y tm S G = false) := by show _ = _; rw [HX.out]; simp [h2]
    go_enter Tryz.func33, Tryz.ntmps33
    go_wp2
    go_ret
    exact ⟨by rw [HE.out]; rfl, B0.out⟩
  by_cases h3 : 0 ≤ tm
  case neg =>
    have HE : Hid (sOk y tm S G = false) := by show _ = _; rw [HX.out]; simp [h3]
    go_enter Tryz.func33, Tryz.ntmps33
    go_wp2
    go_ret
    exact ⟨by rw [HE.out]; rfl, B0.out⟩
  by_cases h4 : tm ≤ 100000
  case neg =>
    have HE : Hid (sOk y tm S G = false) := by show _ = _; rw [HX.out]; simp [h4]
    go_enter Tryz.func33, Tryz.ntmps33
    go_wp2
    go_ret
    exact ⟨by rw [HE.out]; rfl, B0.out⟩
  have HX : Hid (sOk y tm S G = (p6 && (p7 && p8))) := by show _ = _; rw [HX.out]; simp [h1, h2, h3, h4]
  go_enter Tryz.func33, Tryz.ntmps33
  go_wp2_with fail
  clear hW0
  refine (goneOkM_any 20 lo' hi' ga gn gc G _ HGL.out HGN.out (HIS.out.later B0.out)).mono ?_; rintro e w5 ⟨rfl, h5⟩
  subst h5
  rw [HP6.out]
  cases p6
  · have HE : Hid (sOk y tm S G = false) := by show _ = _; rw [HX.out]; rfl
    go_wp2
    go_ret
    exact ⟨by rw [HE.out]; rfl, B0.out⟩
  go_wp2_with fail
  refine (boxesOk_any lo hi lo' hi' y tm ba bn bc ga gn gc S G _ HL.out HN.out HSB.out (HR.out.later B0.out) HGL.out HGN.out (HIS.out.later B0.out)).mono ?_; rintro e w6 ⟨rfl, hb6⟩
  rw [HP7.out]
  have A6 := hid (A0.out.later hb6)
  have B6 := hid (btr B0.out hb6)
  have c0 := A6.out.cells
  clear hb6
  cases p7
  · have HE : Hid (sOk y tm S G = false) := by show _ = _; rw [HX.out]; rfl
    go_wp2
    go_ret
    exact ⟨by rw [HE.out]; rfl, B6.out⟩
  have HGI := hid (bk_gids HP7.out)
  go_wp2_with fail
  refine (mailsUnlike_any lo hi ba bn bc S _ HL.out HN.out HSB.out (HR.out.later B6.out) (by have := HGI.out; omega)).mono ?_; rintro e w7 ⟨rfl, hb7⟩
  rw [HP8.out]
  have B7 := hid (btr B6.out hb7)
  have HE : Hid (sOk y tm S G = p8) := by show _ = _; rw [HX.out]; simp
  clear hb7 c0
  go_wp2
  go_ret
  exact ⟨by rw [HE.out]; rfl, B7.out⟩
end Go.Proofs.YtocfggfccbnbhaaGreatDoor

namespace Go.Proofs.YtocfggfccbnbhaaGreatDoor
open Go.RowKit Go.ChangeMaps
/-- What is wanted to read the lists of a box. -/
def Rdx (lo hh : Nat) (W : World) (x : Y9) : Prop := ∃ a c a' c', x.mv = .slice a x.L.length c ∧ x.gv = .slice a' x.G.length c' ∧ Ms lo hh W a x.L ∧ Is lo hh W a' x.G ∧ (a = none → c = 0) ∧ (a' = none → c' = 0)
theorem Rdx.later {lo hh : Nat} {W W' : World} {x : Y9} (h : Rdx lo hh W x) (hb : Below W.heap.size W W') : Rdx lo hh W' x := by
  obtain ⟨a, c, a', c', h1, h2, h3, h4, h5⟩ := h
  exact ⟨a, c, a', c', h1, h2, h3.later hb, h4.later hb, h5⟩
/-- A row of boxes as it lies, with the values of the lists. -/
theorem Bs.src {lo hh : Nat} {W : World} {ad : Addr} {S : List X7} (h : Bs lo hh W (some ad) S) : ∃ X : List Y9, X.map yd = S ∧ (∀ x ∈ X, Rdx lo hh W x) ∧ (∀ j u, (yc X)[j]? = some u → W.cell? (ad.add j) = some u) := by
  have hx : ∀ i, i < S.length → ∃ z : Y9, (∀ hi : i < S.length, yd z = S[i]) ∧ Rdx lo hh W z ∧ (W.cell? (ad.add (i * 7)) = some (.int .i64 z.g) ∧ W.cell? (ad.add (i * 7 + 1)) = some (.string z.nm) ∧ W.cell? (ad.add (i * 7 + 2)) = some (.int .i64 z.t) ∧ W.cell? (ad.add (i * 7 + 3)) = some (.int .i64 z.b) ∧ W.cell? (ad.add (i * 7 + 4)) = some (.int .i64 z.nx) ∧ W.cell? (ad.add (i * 7 + 5)) = some z.mv ∧ W.cell? (ad.add (i * 7 + 6)) = some z.gv) := by
    intro i hi
    obtain ⟨k, o, ma, mc, ga, gc, h1, _, _, h3, h4, h5, h6, h7⟩ := h.2 i hi
    simp only [Option.some.injEq] at h1
    subst h1
    refine ⟨⟨S[i].1, S[i].2.1, S[i].2.2.1, S[i].2.2.2.1, S[i].2.2.2.2.1, .slice ma S[i].2.2.2.2.2.1.length mc, .slice ga S[i].2.2.2.2.2.2.length gc, S[i].2.2.2.2.2.1, S[i].2.2.2.2.2.2, 0, 0⟩, fun _ => rfl, ⟨ma, mc, ga, gc, rfl, rfl, h4, h5, h6, h7⟩, ?_⟩
    simp only [addr_add]
    unfold C7 at h3
    simpa only [Nat.add_assoc] using h3
  haveI : Inhabited Y9 := ⟨⟨0, ⟨#[]⟩, 0, 0, 0, .slice none 0 0, .slice none 0 0, [], [], 0, 0⟩⟩
  obtain ⟨r, hr⟩ := Go.Deep.choose_lt hx
  refine ⟨(List.range S.length).map r, ?_, ?_, ?_⟩
  · apply List.ext_getElem
    · simp
    · intro i h1 h2
      simp only [List.getElem_map, List.getElem_range]
      exact (hr i h2).1 h2
  · intro x hx
    obtain ⟨i, hi, rfl⟩ := List.mem_map.1 hx
    exact (hr i (List.mem_range.1 hi)).2.1
  · intro j u hu
    have hj : j < (yc ((List.range S.length).map r)).length := (List.getElem?_eq_some_iff.1 hu).1
    rw [yc_len] at hj
    have hi : j / 7 < ((List.range S.length).map r).length := by omega
    have hi' : j / 7 < S.length := by simpa using hi
    have e := yc_at _ (j / 7) hi
    simp only [List.getElem_map, List.getElem_range] at e
    obtain ⟨c0, c1, c2, c3, c4, c5, c6⟩ := (hr (j / 7) hi').2.2
    have h4 : j % 7 = 0 ∨ j % 7 = 1 ∨ j % 7 = 2 ∨ j % 7 = 3 ∨ j % 7 = 4 ∨ j % 7 = 5 ∨ j % 7 = 6 := by omega
    rcases h4 with h4 | h4 | h4 | h4 | h4 | h4 | h4
    · have ej : j = j / 7 * 7 := by omega
      rw [← ej] at e c0
      rw [c0, ← e.1, hu]
    · have ej : j = j / 7 * 7 + 1 := by omega
      rw [← ej] at e c1
      rw [c1, ← e.2.1, hu]
    · have ej : j = j / 7 * 7 + 2 := by omega
      rw [← ej] at e c2
      rw [c2, ← e.2.2.1, hu]
    · have ej : j = j / 7 * 7 + 3 := by omega
      rw [← ej] at e c3
      rw [c3, ← e.2.2.2.1, hu]
    · have ej : j = j / 7 * 7 + 4 := by omega
      rw [← ej] at e c4
      rw [c4, ← e.2.2.2.2.1, hu]
    · have ej : j = j / 7 * 7 + 5 := by omega
      rw [← ej] at e c5
      rw [c5, ← e.2.2.2.2.2.1, hu]
    · have ej : j = j / 7 * 7 + 6 := by omega
      rw [← ej] at e c6
      rw [c6, ← e.2.2.2.2.2.2, hu]
/-- The lists of boxes, each owned, none in the row's block. -/
structure LsP (W : World) (B : Nat) (v : Value) (Y : List Y9) : Prop where
  each : ∀ y ∈ Y, OwX W y.lo y.hi y.mv y.gv y.L y.G ∧ B ≤ y.lo
  off : ∀ y ∈ Y, ∀ j, v.ownBlock = some j → j < y.lo ∨ y.hi ≤ j
  apart : Y.Pairwise fun x y => x.hi ≤ y.lo ∨ y.hi ≤ x.lo
theorem LsP.nil (W : World) (B : Nat) (v : Value) : LsP W B v [] := ⟨(fun z hz => by cases hz), (fun z hz => by cases hz), List.Pairwise.nil⟩
theorem LsP.kept {W W' : World} {B : Nat} {v : Value} {Y : List Y9} (h : LsP W B v Y) (hs : W.heap.size ≤ W'.heap.size) (he : ∀ y ∈ Y, ∀ j, y.lo ≤ j → j < y.hi → W'.heap[j]? = W.heap[j]?) : LsP W' B v Y :=
  ⟨fun y hy => ⟨(h.each y hy).1.same (Nat.le_trans (h.each y hy).1.top hs) (he y hy), (h.each y hy).2⟩, h.off, h.apart⟩
theorem LsP.later {W W' : World} {B : Nat} {v : Value} {Y : List Y9} (h : LsP W B v Y) (hb : Below W.heap.size W W') : LsP W' B v Y :=
  h.kept hb.size (fun y hy j _ hj => hb.block j (Nat.lt_of_lt_of_le hj (h.each y hy).1.top))
/-- A store into the row itself. -/
theorem LsP.grown {W W' : World} {B : Nat} {v : Value} {Y : List Y9} (h : LsP W B v Y) (hg : W.grownBy W' v.ownBlock) : LsP W' B v Y :=
  h.kept hg.size (fun y hy j h1 h2 => hg.block j (Nat.lt_of_lt_of_le h2 (h.each y hy).1.top) (fun e => by have := h.off y hy j e.symm; omega))
end Go.Proofs.YtocfggfccbnbhaaGreatDoor

namespace Go.Proofs.YtocfggfccbnbhaaGreatDoor
open Go.RowKit Go.ChangeMaps
/-- A box of an owned store stored anew: its lists are newer than the store. -/
theorem OwT.put {W0 W : World} {B g n c : Nat} {gv : Value} {S : List X7} {G : List Int} (h : OwT W0 B (.slice (some ⟨g, 0, none⟩) n c) gv S G) (hb : Below W0.heap.size W0 W) (i : Nat) (hi : i < S.length) (y : Y9) (ho : OwX W y.lo y.hi y.mv y.gv y.L y.G) (hB : B ≤ W0.heap.size) (hW : W0.heap.size ≤ y.lo) :
    OwT (put7 W g (i * 7) y) B (.slice (some ⟨g, 0, none⟩) n c) gv (S.set i (yd y)) G := by
  obtain ⟨Y, h1, h2, h3, h4, h5⟩ := h.own
  have hlen : Y.length = S.length := by rw [← h1, List.length_map]
  have hgr := put7_grown W g (i * 7) y
  have k2 := h2.later hb
  have k3 := own_later h3 hb
  have hg := (h2.row.lt g rfl).2
  refine ⟨Y.set i y, ?_, k2.stored i (by omega) y ho (by omega) (.inl (by omega)) (fun x hx => .inl (Nat.le_trans (h2.each x hx).1.top hW)), ?_, h4, fun z hz j hj => ?_⟩
  · rw [← h1, List.map_set]
  · exact World.ownsRow.kept k3 hgr (by
      cases hv : Value.ownBlock gv with
      | none => exact Or.inl rfl
      | some j => exact Or.inr (fun e => by simp only [Option.some.injEq] at e; subst e; exact h4 _ hv rfl))
  · rcases mem_set hz with hz | rfl
    · exact h5 z hz j hj
    · have := (h3.lt j hj).2
      exact .inl (by omega)
/-- What is read of the i-th box of an owned store. -/
theorem OwT.cells {W : World} {B g n c : Nat} {gv : Value} {S : List X7} {G : List Int} (h : OwT W B (.slice (some ⟨g, 0, none⟩) n c) gv S G) (i : Nat) (hi : i < S.length) :
    ∃ ma mc ga gc, C7 W g (i * 7) S[i].1 S[i].2.1 S[i].2.2.1 S[i].2.2.2.1 S[i].2.2.2.2.1 (.slice ma S[i].2.2.2.2.2.1.length mc) (.slice ga S[i].2.2.2.2.2.2.length gc) ∧ Ms B W.heap.size W ma S[i].2.2.2.2.2.1 ∧ Is B W.heap.size W ga S[i].2.2.2.2.2.2 ∧ (ma = none → mc = 0) ∧ (ga = none → gc = 0) ∧ ∀ j, W.frozen? ⟨g, j, none⟩ = false := by
  obtain ⟨Y, h1, h2, h3, h4, h5⟩ := h.own
  have hb := h2.bs.2
  rw [h1] at hb
  obtain ⟨k, o, ma, mc, ga, gc, e1, _, d, m1, m2, m3, m4⟩ := hb.at hi
  simp only [Option.some.injEq, Addr.mk.injEq, and_true] at e1
  obtain ⟨rfl, rfl⟩ := e1
  refine ⟨ma, mc, ga, gc, by simpa using d, m1, m2, m3, m4, (h2.spot i (by rw [← h1, List.length_map] at hi; exact hi)).2⟩
end Go.Proofs.YtocfggfccbnbhaaGreatDoor

namespace Go.Proofs.YtocfggfccbnbhaaGreatDoor
open Go.RowKit Go.ChangeMaps
theorem OwX.one {W : World} {y : Y9} (h : OwX W y.lo y.hi y.mv y.gv y.L y.G) : ∀ u ∈ yc [y], u.oneCell' = true := yc_one h.slices.1 h.slices.2
theorem OwS.ones {W : World} {B : Nat} {v : Value} {Y : List Y9} (h : OwS W B v Y) : ∀ u ∈ yc Y, u.oneCell' = true := by
  have h2 := h.each
  clear h
  induction Y with
  | nil => intro u hu; cases hu
  | cons y Y ih =>
    intro u hu
    have e : yc (y :: Y) = yc [y] ++ yc Y := by rw [← yc_app]; rfl
    rw [e] at hu
    rcases List.mem_append.1 hu with hu | hu
    · exact (h2 y (by simp)).1.one u hu
    · exact ih (fun x hx => h2 x (by simp [hx])) u hu
end Go.Proofs.YtocfggfccbnbhaaGreatDoor

namespace Go.Proofs.YtocfggfccbnbhaaGreatDoor
open Go.RowKit Go.ChangeMaps
theorem LsP.sub {W : World} {B : Nat} {v v' : Value} {Y Y' : List Y9} (h : LsP W B v Y) (hs : Y'.Sublist Y) (hv : v'.ownBlock = v.ownBlock) : LsP W B v' Y' :=
  ⟨fun y hy => h.each y (hs.subset hy), fun y hy j hj => h.off y (hs.subset hy) j (by rw [← hv]; exact hj), h.apart.sublist hs⟩
end Go.Proofs.YtocfggfccbnbhaaGreatDoor

namespace Go.Proofs.YtocfggfccbnbhaaGreatDoor
open Go.RowKit Go.ChangeMaps
/-! What a right store is. -/
/-! A box of an owned store renamed. -/
theorem yc_set2 (Y : List Y9) (i : Nat) (t b : Int) (h : i < Y.length) : ((yc Y).set (i * 7 + 2) (.int .i64 t)).set (i * 7 + 3) (.int .i64 b) = yc (Y.set i { Y[i] with t := t, b := b }) := by
  induction Y generalizing i with
  | nil => simp at h
  | cons x Y ih =>
    cases i with
    | zero => rfl
    | succ i =>
      have h' : i < Y.length := by simpa using h
      have := ih i h'
      have e : (i + 1) * 7 = i * 7 + 1 + 1 + 1 + 1 + 1 + 1 + 1 := by omega
      rw [e]
      simpa [yc] using this
theorem LsP.swap {W : World} {B : Nat} {v : Value} {Y : List Y9} (h : LsP W B v Y) (i : Nat) (hi : i < Y.length) (z : Y9) (e1 : z.lo = Y[i].lo) (e2 : z.hi = Y[i].hi) (e3 : z.mv = Y[i].mv) (e4 : z.gv = Y[i].gv) (e5 : z.L = Y[i].L) (e6 : z.G = Y[i].G) : LsP W B v (Y.set i z) := by
  refine ⟨fun x hx => ?_, fun x hx => ?_, ?_⟩
  · rcases mem_set hx with hx | rfl
    · exact h.each x hx
    · rw [e1, e2, e3, e4, e5, e6]
      exact h.each _ (List.getElem_mem hi)
  · rcases mem_set hx with hx | rfl
    · exact h.off x hx
    · rw [e1, e2]
      exact h.off _ (List.getElem_mem hi)
  · have e : (Y.set i z).map (fun y => (y.lo, y.hi)) = Y.map (fun y => (y.lo, y.hi)) := by
      rw [List.map_set, e1, e2]
      apply List.ext_getElem (by simp)
      intro j h1 h2
      rw [List.getElem_set]
      split
      · rename_i hij
        subst hij
        simp
      · rfl
    have hp := h.apart
    have hp2 : (Y.map (fun y => (y.lo, y.hi))).Pairwise (fun a b => a.2 ≤ b.1 ∨ b.2 ≤ a.1) := by rw [List.pairwise_map]; exact hp
    rw [← e, List.pairwise_map] at hp2
    exact hp2
theorem OwS.swap {W W' : World} {B g n c : Nat} {Y : List Y9} (h : OwS W B (.slice (some ⟨g, 0, none⟩) n c) Y) (hg : W.grownBy W' (some g)) (i : Nat) (hi : i < Y.length) (z : Y9) (e1 : z.lo = Y[i].lo) (e2 : z.hi = Y[i].hi) (e3 : z.mv = Y[i].mv) (e4 : z.gv = Y[i].gv) (e5 : z.L = Y[i].L) (e6 : z.G = Y[i].G)
    (hrow : W'.ownsRow B 38 7 (.slice (some ⟨g, 0, none⟩) n c) (Y.set i z).length (yc (Y.set i z))) : OwS W' B (.slice (some ⟨g, 0, none⟩) n c) (Y.set i z) := by
  have hl : LsP W B (.slice (some ⟨g, 0, none⟩) n c) Y := ⟨h.each, h.off, h.apart⟩
  have h2 := (hl.grown hg).swap i hi z e1 e2 e3 e4 e5 e6
  exact ⟨hrow, h2.each, h2.off, h2.apart⟩
theorem OwT.swap {W W' : World} {B g n c : Nat} {gv : Value} {S : List X7} {G : List Int} (h : OwT W B (.slice (some ⟨g, 0, none⟩) n c) gv S G) (hg : W.grownBy W' (some g)) (i : Nat) (hi : i < S.length) (f : Y9 → Y9) (hf : ∀ z, (f z).lo = z.lo ∧ (f z).hi = z.hi ∧ (f z).mv = z.mv ∧ (f z).gv = z.gv ∧ (f z).L = z.L ∧ (f z).G = z.G) (x : X7) (hx : ∀ z, yd z = S[i] → yd (f z) = x)
    (hrow : ∀ Y, W.ownsRow B 38 7 (.slice (some ⟨g, 0, none⟩) n c) Y.length (yc Y) → ∀ h : i < Y.length, W'.ownsRow B 38 7 (.slice (some ⟨g, 0, none⟩) n c) (Y.set i (f Y[i])).length (yc (Y.set i (f Y[i])))) : OwT W' B (.slice (some ⟨g, 0, none⟩) n c) gv (S.set i x) G := by
  obtain ⟨Y, h1, h2, h3, h4, h5⟩ := h.own
  have hY : i < Y.length := by rw [← h1, List.length_map] at hi; exact hi
  have hyi : yd Y[i] = S[i] := by
    have e := congrArg (fun l => l[i]?) h1
    simpa [hY, hi] using e
  obtain ⟨f1, f2, f3, f4, f5, f6⟩ := hf Y[i]
  refine ⟨Y.set i (f Y[i]), ?_, h2.swap hg i hY _ f1 f2 f3 f4 f5 f6 (hrow Y h2.row hY), World.ownsRow.kept h3 hg ?_, h4, fun z hz j hj => ?_⟩
  · rw [List.map_set, h1, hx _ hyi]
  · cases hv : Value.ownBlock gv with
    | none => exact Or.inl rfl
    | some j => exact Or.inr (fun e => by simp only [Option.some.injEq] at e; subst e; exact h4 _ hv rfl)
  · rcases mem_set hz with hz | rfl
    · exact h5 z hz j hj
    · rw [f1, f2]
      exact h5 _ (List.getElem_mem hY) j hj
theorem OwT.stamp {W : World} {B g n c : Nat} {gv : Value} {S : List X7} {G : List Int} (h : OwT W B (.slice (some ⟨g, 0, none⟩) n c) gv S G) (i : Nat) (hi : i < S.length) (t b : Int) {x : X7} (hx : S[i] = x) :
    OwT ((W.setCell ⟨g, i * 7 + 2, none⟩ (.int .i64 t)).setCell ⟨g, i * 7 + 3, none⟩ (.int .i64 b)) B (.slice (some ⟨g, 0, none⟩) n c) gv (S.set i (x.1, x.2.1, t, b, x.2.2.2.2)) G := by
  refine h.swap (wst (wst (wre _ _) _ _) _ _) i hi (fun z => { z with t := t, b := b }) (fun z => ⟨rfl, rfl, rfl, rfl, rfl, rfl⟩) _ (fun z hz => ?_) (fun Y hr hY => ?_)
  · rw [hx] at hz
    rw [← hz]
    rfl
  · obtain rfl : n = Y.length := by
      rcases hr.2 with ⟨h1, h2⟩ | ⟨_, _, _, h1, _⟩
      · simp at h1
      · simp only [Value.slice.injEq] at h1; exact h1.2.1
    have h1 := (World.ownsRow.stored hr (i * 7 + 2) (.int .i64 t)).1
    have h2 := (World.ownsRow.stored h1 (i * 7 + 3) (.int .i64 b)).1
    rw [yc_set2 Y i t b hY] at h2
    rw [List.length_set]
    exact h2
end Go.Proofs.YtocfggfccbnbhaaGreatDoor

namespace Go.Proofs.YtocfggfccbnbhaaGreatDoor
open Go.RowKit Go.ChangeMaps
/-- The lists of a store that a call owns, none of them in a block of P. -/
structure OwN (W : World) (B : Nat) (P : Nat → Prop) (bv gv : Value) (S : List X7) (G : List Int) : Prop where
  own : ∃ Y, Y.map yd = S ∧ OwS W B bv Y ∧ OwI W B gv G ∧ Dj gv bv ∧ (∀ y ∈ Y, ∀ j, gv.ownBlock = some j → j < y.lo ∨ y.hi ≤ j) ∧ (∀ j, bv.ownBlock = some j → ¬ P j) ∧ (∀ j, gv.ownBlock = some j → ¬ P j) ∧ ∀ y ∈ Y, ∀ j, y.lo ≤ j → j < y.hi → ¬ P j
section
variable {W W' : World} {B B' : Nat} {P : Nat → Prop} {bv gv : Value} {S : List X7} {G : List Int}
theorem OwT.far (h : OwT W B bv gv S G) (hk : ∀ j, P j → W.heap.size ≤ j ∨ j < B) : OwN W B P bv gv S G := by
  obtain ⟨Y, h1, h2, h3, h4, h5⟩ := h.own
  exact ⟨Y, h1, h2, h3, h4, h5, fun j e hp => by have h6 := h2.row.lt j e; have h7 := hk j hp; omega, fun j e hp => by have h6 := h3.lt j e; have h7 := hk j hp; omega, fun y hy j j1 j2 hp => by have h6 := h2.each y hy; have h7 := hk j hp; have h8 := h6.1.top; have h9 := h6.2; omega⟩
theorem OwN.later (h : OwN W B P bv gv S G) (hb : Below W.heap.size W W') : OwN W' B P bv gv S G := by
  obtain ⟨Y, h1, h2, h3, h4, h5, h6⟩ := h.own
  exact ⟨Y, h1, h2.later hb, own_later h3 hb, h4, h5, h6⟩
theorem OwN.base (h : OwN W B' P bv gv S G) (hB : B ≤ B') : OwN W B P bv gv S G := by
  obtain ⟨Y, h1, h2, h3, h4, h5, h6⟩ := h.own
  exact ⟨Y, h1, h2.base hB, own_base h3 hB, h4, h5, h6⟩
/-- A store into the block beside. -/
theorem OwN.set {k : Nat} (h : OwN W B P bv gv S G) (hg : W.grownBy W' (some k)) (hk : P k) : OwN W' B P bv gv S G := by
  obtain ⟨Y, h1, h2, h3, h4, h5, h6, h7, h8⟩ := h.own
  refine ⟨Y, h1, h2.kept hg.size (fun j hj => hg.block j (h2.row.lt j hj).2 (fun e => by simp only [Option.some.injEq] at e; subst e; exact h6 _ hj hk)) (fun y hy j hj1 hj2 => hg.block j (Nat.lt_of_lt_of_le hj2 (h2.each y hy).1.top) (fun e => ?_)), World.ownsRow.kept h3 hg (.inr (fun e => h7 k e hk)), h4, h5, h6, h7, h8⟩
  simp only [Option.some.injEq] at e
  subst e
  exact h8 y hy _ hj1 hj2 hk
end
/-- A box stored anew: its lists are older than the store. -/
theorem OwN.put {W : World} {B B' g n c : Nat} {P : Nat → Prop} {gv : Value} {S : List X7} {G : List Int} (h : OwN W B' P (.slice (some ⟨g, 0, none⟩) n c) gv S G) (i : Nat) (hi : i < S.length) (y : Y9) (ho : OwX W y.lo y.hi y.mv y.gv y.L y.G) (hB : B ≤ y.lo) (hB2 : B ≤ B') (hy : y.hi ≤ B') (hk : ∀ j, y.lo ≤ j → j < y.hi → ¬ P j) :
    OwN (put7 W g (i * 7) y) B P (.slice (some ⟨g, 0, none⟩) n c) gv (S.set i (yd y)) G := by
  obtain ⟨Y, h1, h2, h3, h4, h5, h6, h7, h8⟩ := h.own
  have hlen : Y.length = S.length := by rw [← h1, List.length_map]
  have hgr := put7_grown W g (i * 7) y
  have hg := (h2.row.lt g rfl).1
  refine ⟨Y.set i y, ?_, (h2.base hB2).stored i (by omega) y ho hB (.inr (by omega)) (fun x hx => .inr (Nat.le_trans hy (h2.each x hx).2)), ?_, h4, fun z hz j hj => ?_, h6, h7, fun z hz => ?_⟩
  · rw [← h1, List.map_set]
  · exact World.ownsRow.kept (own_base h3 hB2) hgr (by
      cases hv : Value.ownBlock gv with
      | none => exact Or.inl rfl
      | some j => exact Or.inr (fun e => by simp only [Option.some.injEq] at e; subst e; exact h4 _ hv rfl))
  · rcases mem_set hz with hz | rfl
    · exact h5 z hz j hj
    · have := (h3.lt j hj).1
      exact .inr (by omega)
  · rcases mem_set hz with hz | rfl
    · exact h8 z hz
    · exact hk
theorem OwN.swap {W W' : World} {B g n c : Nat} {P : Nat → Prop} {gv : Value} {S : List X7} {G : List Int} (h : OwN W B P (.slice (some ⟨g, 0, none⟩) n c) gv S G) (hg : W.grownBy W' (some g)) (i : Nat) (hi : i < S.length) (f : Y9 → Y9) (hf : ∀ z, (f z).lo = z.lo ∧ (f z).hi = z.hi ∧ (f z).mv = z.mv ∧ (f z).gv = z.gv ∧ (f z).L = z.L ∧ (f z).G = z.G) (x : X7) (hx : ∀ z, yd z = S[i] → yd (f z) = x)
    (hrow : ∀ Y, W.ownsRow B 38 7 (.slice (some ⟨g, 0, none⟩) n c) Y.length (yc Y) → ∀ h : i < Y.length, W'.ownsRow B 38 7 (.slice (some ⟨g, 0, none⟩) n c) (Y.set i (f Y[i])).length (yc (Y.set i (f Y[i])))) : OwN W' B P (.slice (some ⟨g, 0, none⟩) n c) gv (S.set i x) G := by
  obtain ⟨Y, h1, h2, h3, h4, h5, h6, h7, h8⟩ := h.own
  have hY : i < Y.length := by rw [← h1, List.length_map] at hi; exact hi
  have hyi : yd Y[i] = S[i] := by
    have e := congrArg (fun l => l[i]?) h1
    simpa [hY, hi] using e
  obtain ⟨f1, f2, f3, f4, f5, f6⟩ := hf Y[i]
  refine ⟨Y.set i (f Y[i]), ?_, h2.swap hg i hY _ f1 f2 f3 f4 f5 f6 (hrow Y h2.row hY), World.ownsRow.kept h3 hg ?_, h4, fun z hz j hj => ?_, h6, h7, fun z hz => ?_⟩
  · rw [List.map_set, h1, hx _ hyi]
  · cases hv : Value.ownBlock gv with
    | none => exact Or.inl rfl
    | some j => exact Or.inr (fun e => by simp only [Option.some.injEq] at e; subst e; exact h4 _ hv rfl)
  · rcases mem_set hz with hz | rfl
    · exact h5 z hz j hj
    · rw [f1, f2]
      exact h5 _ (List.getElem_mem hY) j hj
  · rcases mem_set hz with hz | rfl
    · exact h8 z hz
    · rw [f1, f2]
      exact h8 _ (List.getElem_mem hY)
theorem OwN.stamp {W : World} {B g n c : Nat} {P : Nat → Prop} {gv : Value} {S : List X7} {G : List Int} (h : OwN W B P (.slice (some ⟨g, 0, none⟩) n c) gv S G) (i : Nat) (hi : i < S.length) (t b : Int) {x : X7} (hx : S[i] = x) :
    OwN ((W.setCell ⟨g, i * 7 + 2, none⟩ (.int .i64 t)).setCell ⟨g, i * 7 + 3, none⟩ (.int .i64 b)) B P (.slice (some ⟨g, 0, none⟩) n c) gv (S.set i (x.1, x.2.1, t, b, x.2.2.2.2)) G := by
  refine h.swap (wst (wst (wre _ _) _ _) _ _) i hi (fun z => { z with t := t, b := b }) (fun z => ⟨rfl, rfl, rfl, rfl, rfl, rfl⟩) _ (fun z hz => ?_) (fun Y hr hY => ?_)
  · rw [hx] at hz
    rw [← hz]
    rfl
  · obtain rfl : n = Y.length := by
      rcases hr.2 with ⟨h1, h2⟩ | ⟨_, _, _, h1, _⟩
      · simp at h1
      · simp only [Value.slice.injEq] at h1; exact h1.2.1
    have h1 := (World.ownsRow.stored hr (i * 7 + 2) (.int .i64 t)).1
    have h2 := (World.ownsRow.stored h1 (i * 7 + 3) (.int .i64 b)).1
    rw [yc_set2 Y i t b hY] at h2
    rw [List.length_set]
    exact h2
theorem OwN.lt {W : World} {B g n c : Nat} {P : Nat → Prop} {gv : Value} {S : List X7} {G : List Int} (h : OwN W B P (.slice (some ⟨g, 0, none⟩) n c) gv S G) : B ≤ g ∧ g < W.heap.size ∧ ¬ P g := by
  obtain ⟨Y, _, h2, _, _, _, h6, _⟩ := h.own
  have := h2.row.lt g rfl
  exact ⟨this.1, this.2, h6 g rfl⟩
end Go.Proofs.YtocfggfccbnbhaaGreatDoor

namespace Go.Proofs.YtocfggfccbnbhaaGreatDoor
open Go.RowKit Go.ChangeMaps
theorem OwS.cell {W : World} {B g n c : Nat} {Y : List Y9} (h : OwS W B (.slice (some ⟨g, 0, none⟩) n c) Y) (j : Nat) (hj : j < Y.length * 7) : W.cell? ⟨g, j, none⟩ = (yc Y)[j]? := by
  obtain rfl := h.bs.1
  exact h.row.cellAt j hj
end Go.Proofs.YtocfggfccbnbhaaGreatDoor

namespace Go.Proofs.YtocfggfccbnbhaaGreatDoor
open Go.RowKit Go.ChangeMaps
theorem own_none {W : World} {B e size n c m : Nat} {a : Option Addr} {xs : List Value} (h : W.ownsRow B e size (.slice a n c) m xs) : a = none → c = 0 := by
  intro ha
  subst ha
  rcases h.2 with ⟨h1, _⟩ | ⟨g, cap, cur, h1, _⟩
  · simpa using congrArg (fun v => match v with | .slice _ _ c => c | _ => 0) h1
  · simp at h1
theorem OwB.shape {W : World} {B : Nat} {mv gv : Value} {L : List M4} {G : List Int} (h : OwB W B mv gv L G) : ∃ a c a' c', mv = .slice a L.length c ∧ gv = .slice a' G.length c' := by
  obtain ⟨Z, rfl, h2, h3, _⟩ := h
  obtain ⟨a, c, hv⟩ := h2.shape
  obtain ⟨a', c', hv', _⟩ := h3.shape
  exact ⟨a, c, a', c', by rw [List.length_map]; exact hv, hv'⟩
theorem OwB.none {W : World} {B n c n' c' : Nat} {a a' : Option Addr} {L : List M4} {G : List Int} (h : OwB W B (.slice a n c) (.slice a' n' c') L G) : (a = none → c = 0) ∧ (a' = none → c' = 0) := by
  obtain ⟨Z, _, h2, h3, _⟩ := h
  exact ⟨own_none h2.row, own_none h3⟩
theorem OwB.nil (W : World) (B : Nat) : OwB W B (.slice .none 0 0) (.slice .none 0 0) [] [] :=
  ⟨[], rfl, ⟨World.ownsRow_nil _ _ _ _, fun z hz => by simp at hz, fun z hz => by simp at hz, List.Pairwise.nil⟩, World.ownsRow_nil _ _ _ _, Dj.nil _, fun z hz => by simp at hz⟩
section
variable {k : Nat} {g : Int} {nm : ByteArray} {t b nx : Int} {L : List M4} {G : List Int}
end
end Go.Proofs.YtocfggfccbnbhaaGreatDoor

namespace Go.Proofs.YtocfggfccbnbhaaGreatDoor
open Go.RowKit Go.ChangeMaps
section
variable {w W W' : World} {cb : Nat} {ao : Option Addr} {n cap kS : Nat} {t b : Int}
end
theorem Bx.far {W W' : World} {k ty cb : Nat} {g : Int} {nm : ByteArray} {t b nx : Int} {ms gs : Value} (h : Bx W k ty g nm t b nx ms gs) (hg : W.grownBy W' (some cb)) (hk : k ≠ cb) : Bx W' k ty g nm t b nx ms gs := h.grown hg (fun e => by simp only [Option.some.injEq] at e; omega)
section
variable {w W W' : World} {cb : Nat} {ao : Option Addr} {n cap kb k : Nat} {nm : ByteArray} {t b nx : Int} {ma : Option Addr} {mn mc : Nat} {ga : Option Addr} {gn gc : Nat} {L : List M4} {G : List Int}
end
end Go.Proofs.YtocfggfccbnbhaaGreatDoor

namespace Go.Proofs.YtocfggfccbnbhaaGreatDoor
open Go.RowKit Go.ChangeMaps
theorem Is.wide {lo hi lo' hi' : Nat} {W : World} {a : Option Addr} {G : List Int} (h : Is lo hi W a G) (h1 : lo' ≤ lo) (h2 : hi ≤ hi') (h3 : hi' ≤ W.heap.size) : Is lo' hi' W a G := by
  refine ⟨h3, fun i hi' => ?_⟩
  obtain ⟨k, o, e1, e2, e3, e4⟩ := h.2 i hi'
  exact ⟨k, o, e1, by omega, by omega, e4⟩
section
variable {W W' : World} {lo hi : Nat} {nm : ByteArray} {ma : Option Addr} {mn mc : Nat} {ga : Option Addr} {gn gc : Nat} {L : List M4} {G : List Int}
end
section
variable {w W W' : World} {cb : Nat} {ao : Option Addr} {n cap kb hi : Nat} {g : Int} {nm : ByteArray} {t b nx : Int} {ma : Option Addr} {mn mc : Nat} {ga : Option Addr} {gn gc : Nat} {L : List M4} {G : List Int}
end
end Go.Proofs.YtocfggfccbnbhaaGreatDoor

namespace Go.Proofs.YtocfggfccbnbhaaGreatDoor
open Go.RowKit Go.ChangeMaps
def nm5 : List ByteArray := [⟨#[105, 110, 98, 111, 120]⟩, ⟨#[119, 111, 114, 107]⟩, ⟨#[111, 108, 100]⟩, ⟨#[110, 101, 119]⟩, ⟨#[111, 116, 104, 101, 114]⟩]
def inR (i : Nat) (x : Int) : Prop := 100 ≤ x ∧ x < 100 + (i : Int)
theorem inR.mono {i j : Nat} {x : Int} (h : inR i x) (hj : i ≤ j) : inR j x := ⟨h.1, by have := h.2; omega⟩
structure B7 (i : Nat) (x : X7) : Prop where
  gid : inR i x.1
  nam : x.2.1 ∈ nm5
  mls : ∀ m ∈ x.2.2.2.2.2.1, inR i m.1
  gon : ∀ g ∈ x.2.2.2.2.2.2, inR i g
theorem B7.mono {i j : Nat} {x : X7} (h : B7 i x) (hj : i ≤ j) : B7 j x := ⟨h.gid.mono hj, h.nam, fun m hm => (h.mls m hm).mono hj, fun m hm => (h.gon m hm).mono hj⟩
section
variable {i : Nat} {y tm : Int} {S : List X7} {G : List Int} {p : Bool}
end
end Go.Proofs.YtocfggfccbnbhaaGreatDoor

