/- Skn. -/

import Derived.Test.YtjobfolipbfhlanGreatkMj
namespace Go.Proofs.YtjobfolipbfhlanGreat
open Go.RowKit Go.ChangeMaps

/-- A box or its lists have this Gid. -/
def hasG (x : Int) (b : X7) : Bool := b.2.2.2.2.2.1.any (fun m => decide (m.1 = x)) || inl x b.2.2.2.2.2.2
def kno (x : Int) (S : List X7) (G : List Int) : Bool := S.any (isG x) || (inl x G || S.any (hasG x))
theorem any_drop {α : Type} {p : α → Bool} {S : List α} {i : Nat} (h : i < S.length) (hp : p S[i] = false) : (S.drop i).any p = (S.drop (i + 1)).any p := by
  rw [List.drop_eq_getElem_cons h, List.any_cons, hp, Bool.false_or]
theorem any_here {α : Type} {p : α → Bool} {S : List α} {i : Nat} (h : i < S.length) (hp : p S[i] = true) : S.any p = true := List.any_eq_true.2 ⟨S[i], List.getElem_mem h, hp⟩

set_option maxHeartbeats 1600000 in
set_option maxRecDepth 100000 in
theorem specKnows_any (lo hi lo' hi' : Nat) (y tm : Int) (ba : Option Addr) (bn bc : Nat) (ga : Option Addr) (gn gc : Nat) (S : List X7) (G : List Int) (x : Int) (w : World) (hl : S.length = bn) (hn : bn ≤ 1048576) (hsb : Sb S) (hm : Bs lo hi w ba S) (hgl : G.length = gn) (hgn : gn ≤ 1048576) (hs : Is lo' hi' w ga G) :
    Calls Tryz.prog 14 #[.agg #[.int .i64 y, .int .i64 tm, .slice ba bn bc, .slice ga gn gc], .int .i64 x] w fun e w' => e = .returned (.bool (kno x S G)) ∧ Below w.heap.size w w' := by
  obtain ⟨W0, hW0⟩ : ∃ W0, w.alloc (.cells #[.int .i64 y, .int .i64 tm, .slice ba bn bc, .slice ga gn gc] 29) = W0 := ⟨_, rfl⟩
  have a0 : Sx W0 w.heap.size 29 y tm (.slice ba bn bc) (.slice ga gn gc) := by subst hW0; exact Sx.new w _ y tm _ _
  have b0 : Below w.heap.size w W0 := by subst hW0; exact bpush (bre _) _
  obtain ⟨p1, hp1⟩ : ∃ p1, S.any (isG x) = p1 := ⟨_, rfl⟩
  obtain ⟨z1, hz1⟩ : ∃ z1, fidx (isG x) S 0 = z1 := ⟨_, rfl⟩
  have hpz : decide (0 ≤ z1) = p1 := by rw [← hz1, fidx_any, hp1]
  obtain ⟨p2, hp2⟩ : ∃ p2, inl x G = p2 := ⟨_, rfl⟩
  have c0 := a0.cells
  have A0 := hid a0
  have B0 := hid b0
  have HM := hid hm
  have HS := hid hs
  have HL := hid hl
  have HSB := hid hsb
  have HGL := hid hgl
  have HZ1 := hid hz1
  have HP1 := hid hp1
  have HP2 := hid hp2
  have HN := hid hn
  have HGN := hid hgn
  clear a0 b0 hm hs hl hsb hgl hz1 hp1 hp2 hgn
  go_enter Tryz.func14, Tryz.ntmps14
  go_wp2_with fail
  clear hW0
  refine (specBoxAt_any lo hi y tm ba bn bc (.slice ga gn gc) S x _ HL.out HN.out (HM.out.later B0.out)).mono ?_; rintro e w1 ⟨rfl, hb1⟩
  rw [HZ1.out]
  have A1 := hid (A0.out.later hb1)
  have B1 := hid (btr B0.out hb1)
  clear hb1 A0 B0 c0
  cases p1
  · have hz : ¬ 0 ≤ z1 := by simpa using hpz
    have c0 := A1.out.cells
    go_wp2_with fail
    refine (l06In_any lo' hi' ga gn gc G x _ HGL.out HGN.out (HS.out.later B1.out)).mono ?_; rintro e w2 ⟨rfl, hw2⟩
    subst hw2
    rw [HP2.out]
    cases p2
    · go_wp2
      clear c0 hz hpz
      go_loopw [5] (fun iv wr => ∃ i : Nat, i ≤ bn ∧ iv = .int .i64 (i : Int) ∧ Hid (S.any (hasG x) = (S.drop i).any (hasG x)) ∧ Below w2.heap.size w2 wr) (fun iv _ => bn - (intOf iv).toNat)
      case atStart => exact ⟨0, Nat.zero_le _, rfl, rfl, bre _⟩
      case round =>
        obtain ⟨i, hi2, rfl, HQ, hb⟩ := hrel
        have HBE := hid hb
        have A2 := hid (A1.out.later hb)
        have c0 := A2.out.cells
        have hbn := HN.out
        clear hb
        by_cases hlt : i < bn
        · have hil : i < S.length := by rw [HL.out]; exact hlt
          obtain ⟨k, o, ma, mc, ga1, gc1, rfl, hk, d, hms, his, _⟩ := (HM.out.later (btr B1.out HBE.out)).at hil
          have hmem := HSB.out S[i] (List.getElem_mem hil)
          obtain ⟨q, hq⟩ : ∃ q, S[i] = q := ⟨_, rfl⟩
          obtain ⟨g1, nm1, t1, b1, nx1, L1, G1⟩ := q
          rw [hq] at d hms his hmem
          dsimp only at d hms his hmem
          obtain ⟨m1, hm1⟩ : ∃ m1, L1.length = m1 := ⟨_, rfl⟩
          obtain ⟨n1, hn1⟩ : ∃ n1, G1.length = n1 := ⟨_, rfl⟩
          rw [hm1, hn1] at d hmem
          have HD := hid d
          have HK := hid hk
          have HMS := hid hms
          have HIS := hid his
          have HM1 := hid hm1
          have HN1 := hid hn1
          have HML := hid hmem.2.1
          have HNL := hid hmem.2.2.2
          obtain ⟨q1, hq1⟩ : ∃ q1, L1.any (fun m => decide (m.1 = x)) = q1 := ⟨_, rfl⟩
          obtain ⟨q2, hq2⟩ : ∃ q2, inl x G1 = q2 := ⟨_, rfl⟩
          obtain ⟨z2, hz2⟩ : ∃ z2, mat x L1 0 = z2 := ⟨_, rfl⟩
          have hqz : decide (0 ≤ z2) = q1 := by rw [← hz2, mat_any, hq1]
          have HH : Hid (hasG x S[i] = (q1 || q2)) := by show _ = _; rw [hq, hasG, ← hq1, ← hq2]
          have HZ2 := hid hz2
          have HQ2 := hid hq2
          have hI : (0 : Int) ≤ (i : Int) ∧ (i : Int) < (bn : Int) := by omega
          have d0 := d
          unfold C7 at d0
          clear hq hms his hmem hm1 hn1 hq1 hq2 hz2 d hk
          go_wp2_with fail
          refine (specMailAt_any _ _ g1 nm1 t1 b1 nx1 ma m1 mc (.slice ga1 n1 gc1) L1 x _ HM1.out HML.out HMS.out).mono ?_; rintro e w3 ⟨rfl, hb3⟩
          rw [HZ2.out]
          have A3 := hid (A2.out.later hb3)
          have HB3 := hid (btr HBE.out hb3)
          have d3 := HD.out.later HK.out hb3
          have HIS3 := hid (HIS.out.later hb3)
          unfold C7 at d3
          clear hb3 c0 d0
          cases q1
          · have hz : ¬ 0 ≤ z2 := by simpa using hqz
            have c0 := A3.out.cells
            go_wp2_with fail
            refine (l06In_any _ _ ga1 n1 gc1 G1 x _ HN1.out HNL.out HIS3.out).mono ?_; rintro e w4 ⟨rfl, hw4⟩
            subst hw4
            rw [HQ2.out]
            cases q2
            · have HE : Hid (S.any (hasG x) = (S.drop (i + 1)).any (hasG x)) := by show _ = _; rw [HQ.out]; exact any_drop hil (by rw [HH.out]; rfl)
              clear c0 d3 hz hqz
              go_wp2
              go_roundw
              case rel => exact ⟨i + 1, by omega, by go_num, HE, HB3.out⟩
              case measure => simp [intOf]; omega
            · have HE : Hid (kno x S G = true) := by show _ = _; rw [kno, any_here (p := hasG x) hil (by rw [HH.out]; rfl)]; simp
              go_wp2
              go_ret
              exact ⟨by rw [HE.out]; rfl, btr B1.out HB3.out⟩
          · have hz : 0 ≤ z2 := by simpa using hqz
            have HE : Hid (kno x S G = true) := by show _ = _; rw [kno, any_here (p := hasG x) hil (by rw [HH.out]; rfl)]; simp
            have c0 := A3.out.cells
            go_wp2
            go_ret
            exact ⟨by rw [HE.out]; rfl, btr B1.out HB3.out⟩
        · have HE : Hid (kno x S G = false) := by
            show _ = _
            rw [kno, HP1.out, HP2.out, HQ.out, List.drop_of_length_le (by rw [HL.out]; omega)]
            rfl
          go_wp2
          go_ret
          exact ⟨by rw [HE.out]; rfl, btr B1.out HBE.out⟩
    · have HE : Hid (kno x S G = true) := by show _ = _; rw [kno, HP2.out]; simp
      go_wp2
      go_ret
      exact ⟨by rw [HE.out]; rfl, B1.out⟩
  · have hz : 0 ≤ z1 := by simpa using hpz
    have HE : Hid (kno x S G = true) := by show _ = _; rw [kno, HP1.out]; simp
    have c0 := A1.out.cells
    go_wp2
    go_ret
    exact ⟨by rw [HE.out]; rfl, B1.out⟩
end Go.Proofs.YtjobfolipbfhlanGreat

