/- Zs. -/
import Derived.Test.YtkbiebacbebdnaaDoorS5
namespace Go.Proofs.YtkbiebacbebdnaaDoor
open Go.RowKit
theorem pkd_add (l : List G2) (n : Int) (i : Nat) : ∀ d, ∃ r, pkd l n (i + d) = pkd l n i ++ r
  | 0 => ⟨[], by simp⟩
  | d + 1 => by
    obtain ⟨r, hr⟩ := pkd_add l n i d
    rw [← Nat.add_assoc, pkd, hr]
    split
    · exact ⟨r ++ [i + d + 1], by simp⟩
    · exact ⟨r, rfl⟩
theorem pks_at (l : List G2) (m i : Nat) (hm : m ≤ 12) (hi : i < m) (h : ins l ((i : Int) + 1) (m : Int) = true) : ∃ hk : (pkd l m i).length < (pks l m).length, (pks l m)[(pkd l m i).length] = i + 1 := by
  have h1 : pkd l m (i + 1) = pkd l m i ++ [i + 1] := by rw [pkd, if_pos h]
  have h2 : min 100 (m : Int).toNat = (i + 1) + (m - (i + 1)) := by omega
  obtain ⟨r, hr⟩ := pkd_add l m (i + 1) (m - (i + 1))
  have h3 : pks l m = pkd l m i ++ ((i + 1) :: r) := by unfold pks; rw [h2, hr, h1]; simp
  have h4 : (pkd l m i).length < (pks l m).length := by rw [h3]; simp
  refine ⟨h4, ?_⟩
  simp only [h3]
  rw [List.getElem_append_right (Nat.le_refl _)]
  simp
theorem pks_end (l : List G2) (m : Nat) (hm : m ≤ 12) : pks l m = pkd l m m := by
  unfold pks
  rw [show min 100 (m : Int).toNat = m by omega]
theorem rss_len8 {s : ByteArray} : ∀ (f a : Nat) (l m : List G2), rss s f a l = some m → m.length ≤ 8
  | 0, _, _, _, h => by rw [rss] at h; cases h
  | f + 1, a, l, m, h => by
    rw [rss] at h
    split at h
    · cases h
    · split at h
      · cases h
      · split at h
        · simp only [Option.some.injEq] at h
          rw [← h]
          omega
        · split at h
          · exact rss_len8 f _ _ _ h
          · cases h
theorem rset_len8 (u : ByteArray) : ((rset u).getD []).length ≤ 8 := by
  cases h : rset u with
  | none => simp
  | some m => exact rss_len8 _ _ _ _ h
theorem Rs14.say {u : ByteArray} {w w' : World} {e : Ending} {L : List G2} {p : Bool} (h : Rs14 u w e w') (hL : (rset u).getD [] = L) (hp : (rset u).isSome = p) : ∃ a c, e = .returned (.tuple #[.slice a L.length c, .bool p]) ∧ Rr w' a L ∧ Below w.heap.size w w' := by
  subst hL
  subst hp
  obtain ⟨v, ho, rfl, hb⟩ := h
  obtain ⟨a, c, rfl⟩ := ho.shape
  exact ⟨a, c, rfl, OwG.reads ho, hb⟩
set_option maxHeartbeats 6400000 in
set_option maxRecDepth 100000 in
theorem fnSets_any (ao : Option Addr) (n cap : Nat) (w : World) (hcode : Code w w.heap.size ao n) (hT : Tp14 w) :
    Calls Tryd.prog 3 #[.slice ao n cap] w fun e w' => e = .returned (.bool true) ∧ Below w.heap.size w w' := by
  have HO := hid hcode
  have HT := hid (fun W (hb : Below w.heap.size w W) => tab_later hb hT)
  clear hcode hT
  by_cases hn : n ≤ 1048576
  rotate_left
  · go_enter Tryd.func3, Tryd.ntmps3
    go_wp2_with fail
    refine (bigF_yes ao n cap _ (by omega)).mono ?_; rintro e w1 ⟨rfl, h1⟩
    subst h1
    go_wp2
    go_ret
    exact ⟨rfl, bre _⟩
  · have HN := hid hn
    go_enter Tryd.func3, Tryd.ntmps3
    go_wp2_with fail
    refine (bigF_no ao n cap _ HN.out).mono ?_; rintro e w0 ⟨rfl, h0⟩
    have h0 := h0.symm
    subst h0
    go_wp2_with fail
    refine (drawSet14_any ao n cap _ HN.out HO.out).mono ?_; rintro e w1 ⟨v, l, rfl, ho, hl0, hl4, hsm, hb⟩
    obtain ⟨a, c, rfl⟩ := ho.shape
    obtain ⟨N, hN⟩ : ∃ N, l.length = N := ⟨_, rfl⟩
    rw [hN] at ho hl4 ⊢
    have R1 := hid (OwG.reads ho)
    have B1 := hid hb
    have HL := hid hN
    have HF := hid (Sm4.fit hsm)
    have HSM := hid hsm
    have HRS := hid (rset_here l hl0 (by omega) hsm)
    have HSZ := hid (set14_size (Sm4.fit hsm) (by omega))
    clear ho hb hN hl0 hsm
    go_wp2_with fail
    refine (implSetText_any a N c l _ HL.out (by omega) R1.out HSM.out (HT.out _ B1.out)).mono ?_; rintro e w2 ⟨rfl, hb⟩
    have B2 := hid (btr B1.out hb)
    have R2 := hid (R1.out.later hb)
    clear hb R1
    obtain ⟨s, hs⟩ : ∃ s, set14 l = s := ⟨_, rfl⟩
    rw [hs]
    have HRS2 : Hid (rset s = some l) := by rw [← hs]; exact HRS.out
    have hss : s.size ≤ 200 := by rw [← hs]; exact HSZ.out
    clear hs
    go_wp2_with fail
    refine (implReadSet_any s _ (by omega)).mono ?_; rintro e w3 ⟨v3, ho, rfl, hb⟩
    rw [HRS2.out] at ho ⊢
    simp only [Option.getD_some, Option.isSome_some] at ho ⊢
    obtain ⟨a3, c3, rfl⟩ := ho.shape
    rw [HL.out] at ho ⊢
    have X3 := hid (OwG.reads ho)
    have B3 := hid (btr B2.out hb)
    have R3 := hid (R2.out.later hb)
    clear hb ho R2
    go_wp2_with fail
    refine (drawPlaces_any ao n cap _ HN.out (HO.out.over B3.out)).mono ?_; rintro e w4 ⟨g, cp, x, y, rfl, hg, cx, -, hx, -, hb⟩
    have B4 := hid (btr B3.out hb)
    have R4 := hid (R3.out.later hb)
    have X4 := hid (X3.out.later hb)
    clear hb R3 X3
    obtain ⟨m, hm⟩ : ∃ m : Nat, x % 12 = m := ⟨_, rfl⟩
    have hm12 : m < 12 := by omega
    have hmx : (x : Int).tmod 12 = (m : Int) := by rw [← hm, Int.tmod_eq_emod_of_nonneg (by omega)]; omega
    clear hm
    go_wp2_with fail
    refine (implPicked_any a N c l (m : Int) _ HL.out (by omega) R4.out (by omega)).mono ?_; rintro e w5 ⟨v5, rfl, ho, hb⟩
    have B5 := hid (btr B4.out hb)
    have R5 := hid (R4.out.later hb)
    have X5 := hid (X4.out.later hb)
    have ho' : OwJ w5 w4.heap.size v5 (pks l m) := ho
    obtain ⟨a5, c5, rfl⟩ := ho'.shape
    obtain ⟨M, hM⟩ : ∃ M, (pks l (m : Int)).length = M := ⟨_, rfl⟩
    have hM12 : M ≤ 12 := by
      rw [← hM, pks_end l m (by omega)]
      have := pkd_len l (m : Int) m
      omega
    rw [hM] at ho' ⊢
    have P5 := hid ho'
    have HM := hid hM
    have HM2 : Hid ((pkd l (m : Int) m).length = M) := by rw [← pks_end l m (by omega)]; exact hM
    clear hb ho ho' hM R4 X4 hmx cx
    go_wp2
    go_loopw [9, 10] (fun kv iv wr => ∃ (j K : Nat), j ≤ m ∧ K ≤ 12 ∧ kv = .int .i64 (K : Int) ∧ iv = .int .i64 ((j : Int) + 1) ∧ Hid ((pkd l (m : Int) j).length = K) ∧ Below w5.heap.size w5 wr) (fun _ iv _ => 14 - (intOf iv).toNat)
    case atStart => exact ⟨0, 0, Nat.zero_le _, Nat.zero_le _, rfl, rfl, rfl, bre _⟩
    case round =>
      obtain ⟨j, K, hj, hK, rfl, rfl, HK, hb⟩ := hrel
      have BW := hid hb
      clear hb
      by_cases hjm : j < m
      · have hjm1 : (j : Int) + 1 ≤ (m : Int) := by omega
        go_wp2_with fail
        refine (implInSet_any a N c l ((j : Int) + 1) (m : Int) _ HL.out (by omega) (R5.out.later BW.out)).mono ?_; rintro e w6 ⟨rfl, hb⟩
        have B6 := hid (btr BW.out hb)
        clear hb
        cases hin : ins l ((j : Int) + 1) (m : Int) with
        | true =>
          obtain ⟨h1, h2⟩ := pks_at l m j (by omega) hjm hin
          have hKM : K < M := by have := HK.out; have := HM.out; omega
          obtain ⟨g5, rfl⟩ := P5.out.some (by omega)
          have q := (OwJ.spot (own_later P5.out B6.out) _ h1).1
          rw [h2, HK.out, show ((j + 1 : Nat) : Int) = (j : Int) + 1 by omega] at q
          have hjj : (((j : Int) + 1) != ((j : Int) + 1)) = false := by simp
          have HK2 : Hid ((pkd l (m : Int) (j + 1)).length = K + 1) := by show _ = _; rw [pkd, if_pos hin, List.length_append, HK.out]; rfl
          clear h1 h2 hin
          go_wp2
          go_roundw
          case rel => exact ⟨j + 1, K + 1, by omega, by omega, by go_num, by go_num, HK2.out, B6.out⟩
          case measure => simp [intOf]; omega
        | false =>
          have HK2 : Hid ((pkd l (m : Int) (j + 1)).length = K) := by show _ = _; rw [pkd, if_neg (by rw [hin]; decide), HK.out]
          clear hin
          go_wp2
          go_roundw
          case rel => exact ⟨j + 1, K, by omega, by omega, rfl, by go_num, HK2.out, B6.out⟩
          case measure => simp [intOf]; omega
      · obtain rfl : j = m := by omega
        obtain rfl : M = K := by have := HK.out; have := HM2.out; omega
        go_wp2_with fail
        have B6 := hid (btr B5.out BW.out)
        have R6 := hid (R5.out.later BW.out)
        have X6 := hid (X5.out.later BW.out)
        refine (drawReadSet_any ao n cap _ HN.out (HO.out.over B6.out)).mono ?_; rintro e w7 ⟨u, rfl, hu, hb⟩
        have B7 := hid (btr B6.out hb)
        have R7 := hid (R6.out.later hb)
        have X7 := hid (X6.out.later hb)
        clear hb R6 X6
        obtain ⟨L2, hL2⟩ : ∃ L, (rset u).getD [] = L := ⟨_, rfl⟩
        obtain ⟨p2, hp2⟩ : ∃ p, (rset u).isSome = p := ⟨_, rfl⟩
        obtain ⟨N2, hN2⟩ : ∃ N, L2.length = N := ⟨_, rfl⟩
        have hN8 : N2 ≤ 8 := by rw [← hN2, ← hL2]; exact rset_len8 u
        have HL2 := hid hL2
        have HP2 := hid hp2
        have HN2 := hid hN2
        clear hL2 hp2 hN2
        go_wp2_with fail
        refine (implReadSet_any u _ (by omega)).mono ?_; intro e w8 h8
        obtain ⟨a8, c8, rfl, h8, hb⟩ := h8.say HL2.out HP2.out
        rw [HN2.out]
        have B8 := hid (btr B7.out hb)
        have R8 := hid (R7.out.later hb)
        have X8 := hid (X7.out.later hb)
        have A8 := hid h8
        clear hb R7 X7 h8
        go_wp2_with fail
        refine (specReadSet_any u _ (by omega)).mono ?_; intro e w9 h9
        obtain ⟨a9, c9, rfl, h9, hb⟩ := h9.say HL2.out HP2.out
        rw [HN2.out]
        have B9 := hid (btr B8.out hb)
        have R9 := hid (R8.out.later hb)
        have X9 := hid (X8.out.later hb)
        have A9 := hid (A8.out.later hb)
        have Y9 := hid h9
        clear hb R8 X8 A8 h9
        go_wp2_with fail
        refine (drawInSet_any ao n cap _ HN.out (HO.out.over B9.out)).mono ?_; rintro e w10 ⟨v10, l10, x10, y10, rfl, ⟨ho, -, hl10, -, hb⟩, hx10, hy10⟩
        obtain ⟨a10, c10, rfl⟩ := ho.shape
        obtain ⟨N10, hN10⟩ : ∃ N, l10.length = N := ⟨_, rfl⟩
        rw [hN10] at ho hl10 ⊢
        have HL10 := hid hN10
        have B10 := hid (btr B9.out hb)
        have R10 := hid (R9.out.later hb)
        have X10 := hid (X9.out.later hb)
        have A10 := hid (A9.out.later hb)
        have Y10 := hid (Y9.out.later hb)
        have S10 := hid (OwG.reads ho)
        clear hb R9 X9 A9 Y9 ho hN10
        go_wp2_with fail
        refine (drawPicked_any ao n cap _ HN.out (HO.out.over B10.out)).mono ?_; rintro e w11 ⟨v11, l11, x11, rfl, ⟨ho, -, hl11, hsm, hb⟩, hx11⟩
        obtain ⟨a11, c11, rfl⟩ := ho.shape
        obtain ⟨N11, hN11⟩ : ∃ N, l11.length = N := ⟨_, rfl⟩
        rw [hN11] at ho hl11 ⊢
        have HL11 := hid hN11
        have HF11 := hid (Sm4.fit hsm)
        have HSM11 := hid hsm
        have B11 := hid (btr B10.out hb)
        have R11 := hid (R10.out.later hb)
        have X11 := hid (X10.out.later hb)
        have A11 := hid (A10.out.later hb)
        have Y11 := hid (Y10.out.later hb)
        have S11 := hid (S10.out.later hb)
        have T11 := hid (OwG.reads ho)
        clear hb R10 X10 A10 Y10 S10 ho hN11 hsm
        have q1 : ((M : Int) == (M : Int)) = true := by simp
        have q2 : (p2 == p2) = true := by simp
        go_wp2_with fail
        refine (sameRanges_any a3 a N c3 c l _ HL.out (by omega) X11.out R11.out).mono ?_; rintro e w12 ⟨rfl, hb⟩
        have B12 := hid (btr B11.out hb)
        have A12 := hid (A11.out.later hb)
        have Y12 := hid (Y11.out.later hb)
        have S12 := hid (S11.out.later hb)
        have T12 := hid (T11.out.later hb)
        clear hb A11 Y11 S11 T11 X11 R11
        go_wp2_with fail
        refine (sameRanges_any a8 a9 N2 c8 c9 L2 _ HN2.out (by omega) A12.out Y12.out).mono ?_; rintro e w13 ⟨rfl, hb⟩
        have B13 := hid (btr B12.out hb)
        have S13 := hid (S12.out.later hb)
        have T13 := hid (T12.out.later hb)
        clear hb A12 Y12 S12 T12
        go_wp2_with fail
        obtain ⟨b, hbb⟩ : ∃ b, ins l10 x10 y10 = b := ⟨_, rfl⟩
        have q3 : (b == b) = true := by simp
        refine (implInSet_any a10 N10 c10 l10 x10 y10 _ HL10.out (by omega) S13.out).mono ?_; rintro e w14 ⟨rfl, hb⟩
        have HBB := hid hbb
        rw [HBB.out]
        have B14 := hid (btr B13.out hb)
        have S14 := hid (S13.out.later hb)
        have T14 := hid (T13.out.later hb)
        clear hb S13 T13 hbb
        go_wp2_with fail
        refine (specInSet_any a10 N10 c10 l10 x10 y10 _ HL10.out (by omega) S14.out).mono ?_; rintro e w15 ⟨rfl, h15⟩
        subst h15
        rw [HBB.out]
        obtain ⟨G, hG⟩ : ∃ G, pks l11 x11 = G := ⟨_, rfl⟩
        obtain ⟨K2, hK2⟩ : ∃ K, G.length = K := ⟨_, rfl⟩
        have hK100 : K2 ≤ 100 := by
          rw [← hK2, ← hG]
          have h := pkd_len l11 x11 (min 100 x11.toNat)
          unfold pks
          omega
        have key : Hid (∀ (w : World) (e : Ending) (w' : World), (∃ v, e = .returned v ∧ w'.ownsRow w.heap.size 3 1 v (pks l11 x11).length ((pks l11 x11).map ic) ∧ Below w.heap.size w w') → ∃ a c, e = .returned (.slice a K2 c) ∧ OwJ w' w.heap.size (.slice a K2 c) G ∧ Below w.heap.size w w') := by
          rintro w e w' ⟨v, rfl, ho, hb⟩
          rw [hG] at ho
          have ho' : OwJ w' w.heap.size v G := ho
          obtain ⟨a, c, rfl⟩ := ho'.shape
          rw [hK2] at ho' ⊢
          exact ⟨a, c, rfl, ho', hb⟩
        clear hG hK2
        go_wp2_with fail
        refine (implPicked_any a11 N11 c11 l11 x11 _ HL11.out (by omega) T14.out hx11.2).mono ?_; intro e w16 h16
        obtain ⟨a16, c16, rfl, ho, hb⟩ := key.out _ _ _ h16
        have B16 := hid (btr B14.out hb)
        have T16 := hid (T14.out.later hb)
        have J16 := hid ho
        clear hb ho h16 T14 S14
        go_wp2_with fail
        refine (specPicked_any a11 N11 c11 l11 x11 _ HL11.out (by omega) T16.out hx11.2).mono ?_; intro e w17 h17
        obtain ⟨a17, c17, rfl, ho, hb⟩ := key.out _ _ _ h17
        have B17 := hid (btr B16.out hb)
        have T17 := hid (T16.out.later hb)
        have J17 : Hid (OwJ w17 _ (.slice a16 K2 c16) G) := own_later J16.out hb
        have I17 := hid ho
        clear hb ho h17 T16 J16
        go_wp2_with fail
        refine (sameInts14_any _ _ a16 a17 K2 c16 c17 G _ (by omega) J17.out I17.out).mono ?_; rintro e w18 ⟨rfl, hb⟩
        have B18 := hid (btr B17.out hb)
        have T18 := hid (T17.out.later hb)
        clear hb T17 J17 I17
        go_wp2_with fail
        refine (implSetText_any a11 N11 c11 l11 _ HL11.out (by omega) T18.out HSM11.out (HT.out _ B18.out)).mono ?_; rintro e w19 ⟨rfl, hb⟩
        have B19 := hid (btr B18.out hb)
        have T19 := hid (T18.out.later hb)
        clear hb T18
        obtain ⟨z, hz⟩ : ∃ z, set14 l11 = z := ⟨_, rfl⟩
        have HZ := hid hz
        rw [HZ.out]
        clear hz
        go_wp2_with fail
        refine (specSetText_any a11 N11 c11 l11 _ HL11.out (by omega) T19.out HF11.out).mono ?_; rintro e w20 ⟨rfl, hb⟩
        rw [HZ.out]
        go_wp2
        go_ret
        exact ⟨rfl, btr B19.out hb⟩
end Go.Proofs.YtkbiebacbebdnaaDoor
