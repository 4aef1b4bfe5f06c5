/- Jlk. -/

import Derived.Test.YtmpcmllfgogegaaGreatmPa8
namespace Go.Proofs.YtmpcmllfgogegaaGreat
open Go.RowKit Go.ChangeMaps
set_option maxHeartbeats 800000 in
set_option maxRecDepth 100000 in
theorem lawIn8_any (lo hi : Nat) (ao : Option Addr) (n cap : Nat) (G : List Int) (x : Int) (w : World) (hl : G.length = n) (hn : n ≤ 1048576) (hr : Is lo hi w ao G) :
  Calls Tryz.prog 22 #[.slice ao n cap, .int .i64 x] w fun e w' => e = .returned (.bool (inl x G)) ∧ w' = w := by
 have HR := hid hr
 have HL := hid hl
 have HI := hid (idx_inl x G 0)
 clear hr hl
 go_enter Tryz.func22, Tryz.ntmps22
 go_wp2
 go_loopw [5] (fun iv wr => ∃ (i : Nat), i ≤ n ∧ iv = .int .i64 (i : Int) ∧ Hid (idx x G 0 = idx x (G.drop i) i) ∧ wr = w) (fun iv _ => n - (intOf iv).toNat)
 case atStart => exact ⟨0, Nat.zero_le _, rfl, rfl, rfl⟩
 case round =>
  obtain ⟨i, hi, rfl, HQ, hw⟩ := hrel
  subst hw
  by_cases hlt : i < n
  ·have hil : i < G.length := by rw [HL.out]; exact hlt
   obtain ⟨k, o, rfl, hk, c⟩ := HR.out.at hil
   obtain ⟨y, hy⟩ : ∃ y, G[i] = y := ⟨_, rfl⟩
   rw [hy] at c
   have hI : (0 : Int) ≤ (i : Int) ∧ (i : Int) < (n : Int) := by omega
   by_cases hxy : y = x
   ·have HE : Hid (inl x G = true) := by show _ = _; rw [← HI.out, HQ.out, idx_here hil (by rw [hy, hxy])]; simp
    subst hxy
    clear hy
    go_wp2
    go_ret
    exact ⟨by rw [HE.out]; rfl, rfl⟩
   ·have HE : Hid (idx x G 0 = idx x (G.drop (i + 1)) (i + 1)) := by show _ = _; rw [HQ.out, idx_on hil (by rw [hy]; exact hxy)]
    have hxy' : (y == x) = false := by simp [hxy]
    clear hy
    go_wp2
    go_roundw
    case rel => exact ⟨i + 1, by omega, by go_num, HE, by first | rfl | trivial⟩
    case measure => simp [intOf]; omega
  ·have HE : Hid (inl x G = false) := by show _ = _; rw [← HI.out, HQ.out, List.drop_of_length_le (by rw [HL.out]; omega)]; rfl
   go_wp2
   go_ret
   exact ⟨by rw [HE.out]; rfl, rfl⟩
def ctr (p : Int → Bool) (L : List M4) (i : Nat) : Nat := ((L.take i).filter (fun m => p m.1)).length
theorem ctr_zero (p : Int → Bool) (L : List M4) : ctr p L 0 = 0 := rfl
theorem ctr_succ (p : Int → Bool) (L : List M4) {i : Nat} (h : i < L.length) : ctr p L (i + 1) = ctr p L i + (if p L[i].1 = true then 1 else 0) := by
 unfold ctr
 rw [List.take_succ_eq_append_getElem h, List.filter_append, List.length_append, List.filter_cons]
 cases p L[i].1 <;> simp
theorem ctr_le (p : Int → Bool) (L : List M4) (i : Nat) : ctr p L i ≤ i := by
 unfold ctr
 refine Nat.le_trans (List.length_filter_le _ _) ?_
 rw [List.length_take]
 exact Nat.min_le_left _ _
theorem ctr_all (p : Int → Bool) (L : List M4) : ctr p L L.length = ((L.map (·.1)).filter p).length := by
 unfold ctr
 rw [List.take_length, List.filter_map, List.length_map]
 rfl
theorem kept_pure {nm1 : ByteArray} {t1 b1 nx1 : Int} {L1 : List M4} {G1 : List Int} {nm2 : ByteArray} {t2 b2 nx2 : Int} {L2 : List M4} {G2 : List Int} (h1 : bxOk 7 nm1 t1 b1 nx1 L1 G1 = true) (h2 : bxOk 7 nm2 t2 b2 nx2 L2 G2 = true) :
  (∀ m ∈ L1, hol m.1 (jbL 7 nx1 L1 G1 7 nx2 L2 G2) = !inl m.1 G2) ∧ (∀ m ∈ L2, hol m.1 (jbL 7 nx1 L1 G1 7 nx2 L2 G2) = !inl m.1 G1) ∧
  ctr (fun g => hol g (jbL 7 nx1 L1 G1 7 nx2 L2 G2)) L1 L1.length + ctr (fun g => hol g (jbL 7 nx1 L1 G1 7 nx2 L2 G2) && !hol g L1) L2 L2.length = (jbL 7 nx1 L1 G1 7 nx2 L2 G2).length := by
 obtain ⟨-, -, -, -, -, -, a7, -, a9⟩ := bx_iff.1 h1
 obtain ⟨-, -, -, -, -, -, c7, -, c9⟩ := bx_iff.1 h2
 have eL : jbL 7 nx1 L1 G1 7 nx2 L2 G2 = (jms L1 L2 G1 G2 nx1 nx2 (asl (L1.map (·.1) ++ L2.map (·.1)))).1 := if_pos rfl
 have eL2 : jbL 7 nx1 L1 G1 7 nx2 L2 G2 = (jms L2 L1 G2 G1 nx2 nx1 (asl (L2.map (·.1) ++ L1.map (·.1)))).1 := by rw [(jbX_comm 7 nx1 L1 G1 nx2 L2 G2).2.1]; exact if_pos rfl
 refine ⟨fun m hm => ?_, fun m hm => ?_, ?_⟩
 ·rw [eL]
  exact hol_joined (List.mem_map_of_mem hm) (a7 m hm).2.2
 ·rw [eL2]
  exact hol_joined (List.mem_map_of_mem hm) (c7 m hm).2.2
 ·rw [ctr_all, ctr_all]
  have ho := jms_once L1 L2 G1 G2 nx1 nx2 (asl (L1.map (·.1) ++ L2.map (·.1))) ([], mx8 nx1 nx2) (asl_asc _) (fun g hg => gids_have hg) (fun x hx => by cases hx) (fun y hy => by cases hy)
  have hu := jms_ug L1 L2 G1 G2 nx1 nx2 (asl (L1.map (·.1) ++ L2.map (·.1))) ([], mx8 nx1 nx2) (asl_asc _) (fun g hg => gids_have hg) List.Pairwise.nil (fun y hy => by cases hy)
  have hg := jms_gids L1 L2 G1 G2 nx1 nx2 (asl (L1.map (·.1) ++ L2.map (·.1))) ([], mx8 nx1 nx2) (fun x hx => gids_have hx)
  have hj : ((jbL 7 nx1 L1 G1 7 nx2 L2 G2).map (·.1)).Pairwise (· ≠ ·) := by
   rw [eL]
   refine List.pairwise_map.2 (hu.1.imp_of_mem (fun hx hy hxy => ?_))
   intro e
   have := ho _ hx _ hy e
   rw [this] at hxy
   exact ug_asym _ _ hxy hxy
  have hx : (L1.map (·.1)).Pairwise (· ≠ ·) := by unfold uq at a9; exact of_decide_eq_true a9
  have hy : (L2.map (·.1)).Pairwise (· ≠ ·) := by unfold uq at c9; exact of_decide_eq_true c9
  have r := count_two hx hy hj (fun g hgm => by
    rw [eL] at hgm
    rcases (hg g).1 hgm with k | k
    · cases k
    · exact List.mem_append.1 ((asl_mem _ _).1 k.1))
  rw [List.length_map] at r
  rw [← r]
  congr 2
  ·exact List.filter_congr (fun x _ => hol_inl _ _)
  ·exact List.filter_congr (fun x _ => by rw [hol_inl, hol_inl])
end Go.Proofs.YtmpcmllfgogegaaGreat
