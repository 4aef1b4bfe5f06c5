/- Qpy, Qpz, Qpt, Qpu, Qpw. -/
import Derived.Test.YtmalpgbdemcmdaaDoorR6
namespace Go.Proofs.YtmalpgbdemcmdaaDoor
open Go.RowKit
set_option maxHeartbeats 1600000 in
set_option maxRecDepth 100000 in
theorem sameTokens_any (B B' : Nat) (a a' : Option Addr) (n c c' : Nat) (l : List T2) (w : World) (hn : n ≤ 1048576) (h1 : OwK w B (.slice a n c) l) (h2 : OwK w B' (.slice a' n c') l) :
    Calls Tryd.prog 10 #[.slice a n c, .slice a' n c'] w fun e w' => e = .returned (.bool true) ∧ Below w.heap.size w w' := by
  have H1 := hid h1
  have H2 := hid h2
  clear h1 h2
  have e0 : ((n : Int) != (n : Int)) = false := by simp
  go_enter Tryd.func10, Tryd.ntmps10
  go_wp2
  clear e0
  go_loopw [5] (fun iv wr => ∃ i : Nat, i ≤ n ∧ iv = .int .i64 (i : Int) ∧ Below w.heap.size w wr) (fun iv _ => n - (intOf iv).toNat)
  case atStart => exact ⟨0, Nat.zero_le _, rfl, bre _⟩
  case round =>
    obtain ⟨i, hi, rfl, hb⟩ := hrel
    have HB := hid hb
    clear hb
    by_cases hlt : i < n
    · obtain ⟨g, rfl⟩ := H1.out.some (by omega)
      obtain ⟨g', rfl⟩ := H2.out.some (by omega)
      have hil : i < l.length := by rw [H1.out.len]; exact hlt
      obtain ⟨⟨c1, c2⟩, _, _⟩ := OwK.spot (own_later H1.out HB.out) i hil
      obtain ⟨⟨d1, d2⟩, _, _⟩ := OwK.spot (own_later H2.out HB.out) i hil
      obtain ⟨⟨kd, t⟩, hx⟩ : ∃ x, l[i] = x := ⟨_, rfl⟩
      rw [hx] at c1 c2 d1 d2
      clear hx
      have hI : (0 : Int) ≤ (i : Int) ∧ (i : Int) < (n : Int) := by omega
      go_wp2_with fail
      go_quiet (fail)
      go_wp2
      go_roundw
      case rel => exact ⟨i + 1, by omega, by go_num, bdn HB.out _⟩
      case measure => simp [intOf]; omega
    · go_wp2
      go_ret
      exact ⟨rfl, HB.out⟩
theorem bd_take (l : List T2) (i : Nat) (h : i < l.length) (x : T2) (hx : l[i] = x) : (⟨(bd (l.take (i + 1))).toArray⟩ : ByteArray) = if i = 0 then ⟨(bd (l.take i)).toArray⟩ ++ ttx x.1 x.2 else ⟨(bd (l.take i)).toArray⟩ ++ ⟨#[32]⟩ ++ ttx x.1 x.2 := by
  rw [List.take_succ_eq_append_getElem h, hx, sdt_next]
  by_cases h0 : i = 0
  · subst h0
    rw [if_pos (by simp), if_pos rfl]
  · have h2 : l.take i ≠ [] := by
      intro e
      have h3 := congrArg List.length e
      rw [List.length_take] at h3
      rw [List.length_nil] at h3
      omega
    rw [if_neg h2, if_neg h0]
theorem bdt_size (l : List T2) (h : ∀ p ∈ l, okt p) (hl : l.length ≤ 4) (i : Nat) : (⟨(bd (l.take i)).toArray⟩ : ByteArray).size ≤ 504 := by
  have h1 := bd_size (l.take i) (fun p hp => h p (List.mem_of_mem_take hp))
  have h2 : (l.take i).length ≤ 4 := by rw [List.length_take]; omega
  show (bd (l.take i)).toArray.size ≤ 504
  rw [List.size_toArray]
  omega
set_option maxHeartbeats 6400000 in
set_option maxRecDepth 100000 in
theorem fnTokens_any (ao : Option Addr) (n cap : Nat) (w : World) (hcode : Code w w.heap.size ao n) (hT : Mx w) :
    Calls Tryd.prog 3 #[.slice ao n cap] w fun e w' => e = .returned (.bool true) ∧ Below w.heap.size w w' := by
  have HO := hid hcode
  have HTB := hid hT
  clear hcode hT
  by_cases hn : n ≤ 1048576
  rotate_left
  · go_enter Tryd.func3, Tryd.ntmps3
    go_wp2_with fail
    refine (bigF_yes ao n cap _ (by omega)).mono ?_; rintro e w1 ⟨rfl, h1⟩
    subst h1
    go_wp2
    go_ret
    exact ⟨rfl, bre _⟩
  · have HN := hid hn
    go_enter Tryd.func3, Tryd.ntmps3
    go_wp2_with fail
    refine (bigF_no ao n cap _ HN.out).mono ?_; rintro e w0 ⟨rfl, h0⟩
    have h0 := h0.symm
    subst h0
    go_wp2_with fail
    refine (drawTokens_any ao n cap _ HN.out HO.out).mono ?_; rintro e w1 ⟨v, l, rfl, ho, hl0, hl4, hok, hb⟩
    obtain ⟨a, c, rfl⟩ := ho.shape
    obtain ⟨N, hN⟩ : ∃ N, l.length = N := ⟨_, rfl⟩
    have HL := hid hN
    have HLE := hid hl4
    have HOK := hid hok
    have HNE := hid hl0
    rw [hN] at ho hl4 ⊢
    have K1 := hid ho
    have B1 := hid hb
    have T1 := hid (HTB.out.upon hb)
    have HN0 : Hid (N ≠ 0) := hid (by intro h; exact hl0 (List.eq_nil_of_length_eq_zero (by omega)))
    clear ho hb hN hl0 hok
    go_wp2
    go_loopw [4, 5] (fun sv iv wr => ∃ i : Nat, i ≤ N ∧ iv = .int .i64 (i : Int) ∧ sv = .string ⟨(bd (l.take i)).toArray⟩ ∧ Below w1.heap.size w1 wr) (fun _ iv _ => N - (intOf iv).toNat)
    case atStart => exact ⟨0, Nat.zero_le _, rfl, rfl, bre _⟩
    case round =>
      obtain ⟨i, hi, rfl, rfl, hb⟩ := hrel
      have HB := hid hb
      clear hb
      have hsz := bdt_size l HOK.out HLE.out i
      obtain ⟨s, hs⟩ : ∃ s, (⟨(bd (l.take i)).toArray⟩ : ByteArray) = s := ⟨_, rfl⟩
      have HS := hid hs
      rw [hs] at hsz ⊢
      clear hs
      by_cases hlt : i < N
      · have hil : i < l.length := by rw [HL.out]; exact hlt
        obtain ⟨⟨kd, t⟩, hx⟩ : ∃ x, l[i] = x := ⟨_, rfl⟩
        have hbt := bd_take l i hil _ hx
        rw [HS.out] at hbt
        have hkt : okt (kd, t) := by rw [← hx]; exact HOK.out _ (List.getElem_mem _)
        have CT := hid (fun (W : World) => implTokenText_any kd t W hkt)
        have hq := ttx_size hkt
        obtain ⟨g, rfl⟩ := K1.out.some (by omega)
        have KS := OwK.spot (own_later K1.out HB.out) i hil
        rw [hx] at KS
        obtain ⟨⟨c1, c2⟩, _, _⟩ := KS
        obtain ⟨q, hqe⟩ : ∃ q, ttx kd t = q := ⟨_, rfl⟩
        have hbt2 : (⟨(bd (l.take (i + 1))).toArray⟩ : ByteArray) = if i = 0 then s ++ q else s ++ ⟨#[32]⟩ ++ q := by rw [hbt, ← hqe]
        rw [hqe] at CT hq
        have TR := hid (T1.out.upon HB.out)
        have HBT := hid hbt2
        have hI : (0 : Int) ≤ (i : Int) ∧ (i : Int) < (N : Int) := by omega
        clear hqe hx hbt hbt2 hkt hil
        by_cases hi0 : 0 < i
        all_goals
          go_wp2_with fail
          refine (CT.out _).mono ?_; rintro e w3 ⟨rfl, hb⟩
          have B3 := hid (btr HB.out hb)
          clear hb
          go_wp2
          go_roundw
          case rel => exact ⟨i + 1, by omega, by go_num, by rw [HBT.out]; first | rw [if_pos (by omega)] | rw [if_neg (by omega)], B3.out⟩
          case measure => simp [intOf]; omega
      · obtain rfl : i = N := by omega
        have HSE : Hid (s ++ ⟨#[13, 10]⟩ = sdt l) := hid (by rw [← HS.out, List.take_of_length_le (by rw [HL.out]; exact Nat.le_refl _), sdt_end])
        have hsd : (sdt l).size ≤ 506 := by rw [← HSE.out, ByteArray.size_append]; have : (⟨#[13, 10]⟩ : ByteArray).size = 2 := rfl; omega
        have hsp := sdt_size l
        go_upto_region 12 with fail
        rw [HSE.out]
        obtain ⟨S, hS⟩ : ∃ S, sdt l = S := ⟨_, rfl⟩
        have hpos : 0 < S.size := by rw [← hS]; omega
        obtain ⟨X, hX⟩ : ∃ X, S ++ ⟨#[110, 101, 120, 116]⟩ = X := ⟨_, rfl⟩
        have hXs : X.size ≤ 1048576 := by rw [← hX, ByteArray.size_append, ← hS]; have : (⟨#[110, 101, 120, 116]⟩ : ByteArray).size = 4 := rfl; omega
        have HRS : Hid ((¬ 200 < S.size ∧ rtk X = (l, ⟨#[110, 101, 120, 116]⟩, 0)) ∨ (200 < S.size ∧ ∃ t, rtk X = ([], t, 2))) := by rw [← hX, ← hS]; exact rtk_said HNE.out HOK.out HLE.out _
        have HGX : Hid (good13 X) := by rw [← hX, ← hS]; exact good_said HNE.out HOK.out HLE.out _
        have HGC : Hid (∀ m, m < S.size → good13 (S.extract 0 m)) := by rw [← hS]; exact fun m h1 => good_cut HNE.out HOK.out HLE.out m h1
        have HRC : Hid (∀ m, m < S.size → S.size ≤ 200 → rtk (S.extract 0 m) = ([], S.extract 0 m, 1)) := by rw [← hS]; exact fun m h1 h2 => rtk_cut HNE.out HOK.out HLE.out m h1 h2
        rw [hS] at hsd ⊢
        have HX := hid hX
        clear hS HSE hsp hX HS HOK HNE HLE
        have TR := hid (T1.out.upon HB.out)
        have KR := hid (own_later K1.out HB.out)
        have BR := hid (btr B1.out HB.out)
        clear T1 K1 HB
        have hnx : (⟨#[110, 101, 120, 116]⟩ : ByteArray).size = 4 := rfl
        rcases HRS.out with ⟨h200, hr⟩ | ⟨h200, t3, hr⟩
        · have CA := hid (fun (W : World) (hM : Mx W) => readT_as X hXs HGX.out l ⟨#[110, 101, 120, 116]⟩ 0 hr i HL.out W hM)
          clear hr HRS
          go_wp2_with fail
          rw [HX.out]
          refine (CA.out _ TR.out).mono ?_; rintro e w3 ⟨a3, cp3, rfl, ho, hb⟩
          have K3 := hid ho
          have KL := hid (own_later KR.out hb)
          have B3 := hid (btr BR.out hb)
          clear ho hb KR BR CA
          go_wp2_with fail
          refine (drawPlaces_any ao n cap _ HN.out (HO.out.over B3.out)).mono ?_; rintro e w4 ⟨g, cp, x, y, rfl, hg, cx, -, hx, -, hb⟩
          have B4 := hid (btr B3.out hb)
          have K4 := hid (own_later K3.out hb)
          have KL4 := hid (own_later KL.out hb)
          clear hb K3 KL B3
          obtain ⟨m, hm⟩ : ∃ m : Nat, x % S.size = m := ⟨_, rfl⟩
          have hmS : m < S.size := by rw [← hm]; exact Nat.mod_lt _ hpos
          have hmx : (x : Int).tmod (S.size : Int) = (m : Int) := by rw [← hm, Int.tmod_eq_emod_of_nonneg (by omega)]; exact (Int.natCast_emod x S.size).symm
          have hI : (0 : Int) ≤ (m : Int) ∧ (m : Int) ≤ (S.size : Int) := by omega
          have hz0 : ((S.size : Int) == 0) = false := beq_eq_false_iff_ne.2 (by omega)
          have CB := hid (fun (W : World) (hM : Mx W) => readT_as (S.extract 0 m) (by rw [ByteArray.size_extract]; omega) (HGC.out m hmS) [] (S.extract 0 m) 1 (HRC.out m hmS (by omega)) 0 rfl W hM)
          clear hm HRC hmS
          obtain ⟨Y, hY⟩ : ∃ Y, S.extract 0 m = Y := ⟨_, rfl⟩
          have HY := hid hY
          rw [hY] at CB
          clear hY
          go_wp2_with fail
          rw [HY.out]
          refine (CB.out _ (HTB.out.upon B4.out)).mono ?_; rintro e w5 ⟨a5, cp5, rfl, -, hb⟩
          have B5 := hid (btr B4.out hb)
          have K5 := hid (own_later K4.out hb)
          have KL5 := hid (own_later KL4.out hb)
          clear hb K4 KL4 B4 CB
          have CS := hid (sameTokens_any _ _ a3 a i cp3 c l w5 (by omega) K5.out KL5.out)
          have h200' : ¬ (200 : Int) < (S.size : Int) := by omega
          go_wp2_with fail
          refine CS.out.mono ?_; rintro e w6 ⟨rfl, hb⟩
          have B6 := hid (btr B5.out hb)
          clear hb CS K5 KL5 B5
          have hy2 := HY.out
          have e1 : (Y.toList == Y.toList) = true := by simp
          go_wp2
          go_ret
          exact ⟨rfl, B6.out⟩
        · have CA := hid (fun (W : World) (hM : Mx W) => readT_as X hXs HGX.out [] t3 2 hr 0 rfl W hM)
          clear hr HRS HRC
          go_wp2_with fail
          rw [HX.out]
          refine (CA.out _ TR.out).mono ?_; rintro e w3 ⟨a3, cp3, rfl, -, hb⟩
          have B3 := hid (btr BR.out hb)
          clear hb KR BR CA
          go_wp2_with fail
          refine (drawPlaces_any ao n cap _ HN.out (HO.out.over B3.out)).mono ?_; rintro e w4 ⟨g, cp, x, y, rfl, hg, cx, -, hx, -, hb⟩
          have B4 := hid (btr B3.out hb)
          clear hb B3
          obtain ⟨m, hm⟩ : ∃ m : Nat, x % S.size = m := ⟨_, rfl⟩
          have hmS : m < S.size := by rw [← hm]; exact Nat.mod_lt _ hpos
          have hmx : (x : Int).tmod (S.size : Int) = (m : Int) := by rw [← hm, Int.tmod_eq_emod_of_nonneg (by omega)]; exact (Int.natCast_emod x S.size).symm
          have hI : (0 : Int) ≤ (m : Int) ∧ (m : Int) ≤ (S.size : Int) := by omega
          have hz0 : ((S.size : Int) == 0) = false := beq_eq_false_iff_ne.2 (by omega)
          obtain ⟨Y, hY⟩ : ∃ Y, S.extract 0 m = Y := ⟨_, rfl⟩
          have hYs : Y.size ≤ 1048576 := by rw [← hY, ByteArray.size_extract]; omega
          have HY := hid hY
          have CB := hid (fun (W : World) (hM : Mx W) => readU_any Y hYs W hM)
          clear hm hmS hY
          go_wp2_with fail
          rw [HY.out]
          refine (CB.out _ (HTB.out.upon B4.out)).mono ?_; rintro e w5 ⟨a5, n5, cp5, t5, c5, rfl, hb⟩
          have B5 := hid (btr B4.out hb)
          clear hb B4 CB
          have h200' : (200 : Int) < (S.size : Int) := by omega
          go_wp2
          go_ret
          exact ⟨rfl, B5.out⟩
/-- Does this begin with `b"`? -/
def bq : List UInt8 → Bool
  | y :: z :: _ => decide (y.toNat = 98) && decide (z.toNat = 34)
  | _ => false
/-- Blanks with no `b"` behind them. -/
def cbl : List UInt8 → Nat
  | [] => 0
  | x :: L => (if x.toNat = 32 ∧ bq L = false then 1 else 0) + cbl L
theorem bq_app {A B : List UInt8} (h : bq A = true) : bq (A ++ B) = true := by
  rcases A with _ | ⟨y, _ | ⟨z, A⟩⟩
  · cases h
  · cases h
  · exact h
theorem cbl_app : ∀ (A B : List UInt8), cbl (A ++ B) ≤ cbl A + cbl B
  | [], B => by simp [cbl]
  | x :: A, B => by
    have ih := cbl_app A B
    show (if x.toNat = 32 ∧ bq (A ++ B) = false then 1 else 0) + cbl (A ++ B) ≤ ((if x.toNat = 32 ∧ bq A = false then 1 else 0) + cbl A) + cbl B
    by_cases h : x.toNat = 32 ∧ bq (A ++ B) = false
    · have h2 : x.toNat = 32 ∧ bq A = false := ⟨h.1, by
        cases hq : bq A with
        | false => rfl
        | true => have h3 := h.2; rw [bq_app hq] at h3; cases h3⟩
      rw [if_pos h, if_pos h2]
      omega
    · rw [if_neg h]
      omega
theorem cbl_le_cons (x : UInt8) (L : List UInt8) : cbl L ≤ cbl (x :: L) := by
  show cbl L ≤ (if x.toNat = 32 ∧ bq L = false then 1 else 0) + cbl L
  omega
theorem cbl_one (x : UInt8) : cbl [x] ≤ 1 := by
  show (if x.toNat = 32 ∧ bq [] = false then 1 else 0) + 0 ≤ 1
  split <;> omega
theorem cbl_split : ∀ (A M : List UInt8), cbl A + cbl M ≤ cbl (A ++ M) + 1
  | [], M => by simp [cbl]
  | [x], M => by
    have h1 := cbl_one x
    have h2 := cbl_le_cons x M
    show cbl [x] + cbl M ≤ cbl (x :: M) + 1
    omega
  | [x, y], M => by
    show ((if x.toNat = 32 ∧ bq [y] = false then 1 else 0) + cbl [y]) + cbl M ≤ ((if x.toNat = 32 ∧ bq (y :: M) = false then 1 else 0) + cbl (y :: M)) + 1
    have h1 := cbl_one y
    have h2 := cbl_le_cons y M
    by_cases h : x.toNat = 32 ∧ bq (y :: M) = false
    · rw [if_pos h, if_pos ⟨h.1, rfl⟩]
      omega
    · rw [if_neg h]
      by_cases h3 : x.toNat = 32
      · have h4 : bq (y :: M) = true := by
          cases hq : bq (y :: M) with
          | false => exact absurd ⟨h3, hq⟩ h
          | true => rfl
        have h5 : y.toNat = 98 := by
          rcases M with _ | ⟨z, M⟩
          · cases h4
          · have : (decide (y.toNat = 98) && decide (z.toNat = 34)) = true := h4
            simp only [Bool.and_eq_true, decide_eq_true_eq] at this
            exact this.1
        have h6 : cbl [y] = 0 := by
          show (if y.toNat = 32 ∧ bq [] = false then 1 else 0) + 0 = 0
          rw [if_neg (by omega)]
        rw [if_pos ⟨h3, rfl⟩, h6]
        omega
      · rw [if_neg (fun e => h3 e.1)]
        omega
  | x :: y :: z :: A, M => by
    have ih := cbl_split (y :: z :: A) M
    show ((if x.toNat = 32 ∧ bq (y :: z :: A) = false then 1 else 0) + cbl (y :: z :: A)) + cbl M ≤ ((if x.toNat = 32 ∧ bq (y :: z :: (A ++ M)) = false then 1 else 0) + cbl (y :: z :: A ++ M)) + 1
    have e : bq (y :: z :: (A ++ M)) = bq (y :: z :: A) := rfl
    rw [e]
    omega
theorem cbl_take (L : List UInt8) (n : Nat) : cbl (L.take n) ≤ cbl L + 1 := by
  have h := cbl_split (L.take n) (L.drop n)
  rw [List.take_append_drop] at h
  omega
theorem cbl_drop (L : List UInt8) (n : Nat) : cbl (L.drop n) ≤ cbl L := by
  induction n generalizing L with
  | zero => simp
  | succ n ih =>
    cases L with
    | nil => simp
    | cons x L => rw [List.drop_succ_cons]; exact Nat.le_trans (ih L) (cbl_le_cons x L)
theorem cbl_none : ∀ (L : List UInt8), (∀ b ∈ L, b.toNat ≠ 32) → cbl L = 0
  | [], _ => rfl
  | x :: L, h => by
    show (if x.toNat = 32 ∧ bq L = false then 1 else 0) + cbl L = 0
    rw [if_neg (fun e => h x (by simp) e.1), cbl_none L (fun b hb => h b (by simp [hb]))]
theorem cbl_put (L : List UInt8) (i : Nat) (x : UInt8) : cbl (L.take i ++ x :: L.drop (i + 1)) ≤ cbl L + 2 := by
  have h1 := cbl_app (L.take i) (x :: L.drop (i + 1))
  have h2 := cbl_app [x] (L.drop (i + 1))
  have h3 := cbl_one x
  have h4 := cbl_split (L.take i) (L.drop i)
  rw [List.take_append_drop] at h4
  have h5 : cbl (L.drop (i + 1)) ≤ cbl (L.drop i) := by
    have := cbl_drop (L.drop i) 1
    rwa [List.drop_drop] at this
  have h6 : [x] ++ L.drop (i + 1) = x :: L.drop (i + 1) := rfl
  rw [h6] at h2
  omega
theorem tkn_b {s : ByteArray} {n : Nat} (h1 : ∃ y, s.data.toList[n]? = some y ∧ y.toNat = 98) (h2 : ∃ z, s.data.toList[n + 1]? = some z ∧ z.toNat = 34) : ∃ x, tkn s n = some (some (x, n + 1)) := by
  obtain ⟨y, hy, hy2⟩ := h1
  obtain ⟨z, hz, hz2⟩ := h2
  have ey : y = 98 := (u8_iff y 98 (by omega)).2 hy2
  have ez : z = 34 := (u8_iff z 34 (by omega)).2 hz2
  subst ey
  subst ez
  have hl : n + 1 < s.size := by
    by_cases h : n + 1 < s.size
    · exact h
    · rw [at_none (by omega)] at hz; cases hz
  obtain ⟨f, hf⟩ : ∃ f, s.size + 1 = f + 2 := ⟨s.size - 1, by omega⟩
  have he : aen s (s.size + 1) n = some (n + 1) := by
    rw [hf, aen, hy]
    dsimp only
    rw [if_pos (by decide), aen, hz]
    dsimp only
    rw [if_neg (by decide)]
  have hx : s.extract n (n + 1) = ⟨#[98]⟩ := by
    apply ba_ext13
    rw [ByteArray.data_extract, Array.toList_extract, List.extract_eq_take_drop, drop_get hy, show n + 1 - n = 1 by omega]
    rfl
  refine ⟨(1, ⟨#[98]⟩), ?_⟩
  rw [tkn, hy]
  dsimp only
  rw [if_neg (by decide), if_neg (by decide), ard, he]
  dsimp only
  rw [hx, if_pos (by decide)]
  rfl
theorem nine_blanks {s : ByteArray} : ∀ (f fu a : Nat) (l : List T2), l.length + f = 9 → l.length ≤ 8 → s.size < a + fu → tks s f a l = some none → tku s fu a l = none → f ≤ cbl (s.data.toList.drop a) + 1
  | 0, fu, a, l, h, h8, hf, h1, h2 => by omega
  | f + 1, 0, a, l, h, h8, hf, h1, h2 => by
    rw [tks, tkn, at_none (by omega)] at h1
    cases h1
  | f + 1, fu + 1, a, l, h, h8, hf, h1, h2 => by
    rw [tks] at h1
    rw [tku] at h2
    cases hx : tkn s a with
    | none => rw [hx] at h1; cases h1
    | some r =>
      cases r with
      | none => rw [hx] at h2; cases h2
      | some q =>
        obtain ⟨x, n⟩ := q
        have hn := tkn_le hx
        rw [hx] at h1 h2
        dsimp only at h1 h2
        by_cases hbig : 8 < (l ++ [x]).length
        · rw [List.length_append, List.length_cons, List.length_nil] at hbig
          omega
        · rw [if_neg hbig] at h1
          cases hb : s.data.toList[n]? with
          | none => rw [hb] at h1; cases h1
          | some b =>
            rw [hb] at h1 h2
            dsimp only at h1 h2
            by_cases h13 : b.toNat = 13
            · rw [if_pos h13] at h1 h2
              exfalso
              cases hy : s.data.toList[n + 1]? with
              | none => rw [hy] at h1; cases h1
              | some y =>
                rw [hy] at h2
                dsimp only at h2
                split at h2 <;> cases h2
            · rw [if_neg h13] at h1 h2
              by_cases h32 : b.toNat = 32
              · rw [if_pos h32] at h1 h2
                have hll : (l ++ [x]).length = l.length + 1 := by simp
                have ih := nine_blanks f fu (n + 1) (l ++ [x]) (by omega) (by omega) (by omega) h1 h2
                have hd : s.data.toList.drop n = b :: s.data.toList.drop (n + 1) := drop_get hb
                have hq : bq (s.data.toList.drop (n + 1)) = false := by
                  cases hq : bq (s.data.toList.drop (n + 1)) with
                  | false => rfl
                  | true =>
                    exfalso
                    rcases hdd : s.data.toList.drop (n + 1) with _ | ⟨y, _ | ⟨z, L⟩⟩
                    · rw [hdd] at hq; cases hq
                    · rw [hdd] at hq; cases hq
                    · rw [hdd] at hq
                      have hyz : (decide (y.toNat = 98) && decide (z.toNat = 34)) = true := hq
                      simp only [Bool.and_eq_true, decide_eq_true_eq] at hyz
                      have g1 : s.data.toList[n + 1]? = some y := by
                        have := congrArg List.head? hdd
                        rw [List.head?_drop] at this
                        exact this
                      have g2 : s.data.toList[n + 1 + 1]? = some z := by
                        have := congrArg (fun l : List UInt8 => l[1]?) hdd
                        simp only [List.getElem?_drop] at this
                        exact this
                      obtain ⟨x2, hx2⟩ := tkn_b ⟨y, g1, hyz.1⟩ ⟨z, g2, hyz.2⟩
                      have hfu : fu ≠ 0 := by
                        intro e
                        have hl : n + 1 < s.size := by
                          by_cases h : n + 1 < s.size
                          · exact h
                          · rw [at_none (by omega)] at g1; cases g1
                        omega
                      obtain ⟨k, rfl⟩ : ∃ k, fu = k + 1 := ⟨fu - 1, by omega⟩
                      rw [tku_next hx2, cnt13, g2] at h2
                      dsimp only at h2
                      rw [if_neg (by omega), if_neg (by omega)] at h2
                      cases h2
                have hc : cbl (s.data.toList.drop n) = 1 + cbl (s.data.toList.drop (n + 1)) := by
                  rw [hd]
                  show (if b.toNat = 32 ∧ bq (s.data.toList.drop (n + 1)) = false then 1 else 0) + _ = _
                  rw [if_pos ⟨h32, hq⟩]
                have hm : cbl (s.data.toList.drop n) ≤ cbl (s.data.toList.drop a) := by
                  have := cbl_drop (s.data.toList.drop a) (n - a)
                  rw [List.drop_drop, show a + (n - a) = n by omega] at this
                  exact this
                omega
              · rw [if_neg h32] at h2
                cases h2
theorem good_few {s : ByteArray} (h : cbl s.data.toList ≤ 7) (h13 : s ≠ ⟨#[13]⟩) : good13 s := by
  refine ⟨h13, fun e => ?_⟩
  have := nine_blanks 9 (s.size + 1) 0 [] rfl (by simp) (by omega) e.1 e.2
  rw [List.drop_zero] at this
  omega
theorem set_upto {bs : List UInt8} {k : Nat} {x : UInt8} (h : ∀ i, i < k → bs[i]? = some x) (hk : k < bs.length) : ∀ i, i < k + 1 → (bs.set k x)[i]? = some x := by
  intro i hi
  by_cases he : k = i
  · subst he
    rw [List.getElem?_set_self hk]
  · rw [List.getElem?_set_ne he]
    exact h i (by omega)
theorem all_upto {bs : List UInt8} {k m : Nat} {x : UInt8} (h : ∀ i, i < k → bs[i]? = some x) (hl : bs.length = m) (hk : m ≤ k) : bs = List.replicate m x := by
  apply List.ext_getElem?
  intro i
  by_cases hi : i < m
  · rw [h i (by omega), List.getElem?_replicate, if_pos hi]
  · rw [List.getElem?_eq_none (by omega), List.getElem?_eq_none (by simp; omega)]
set_option maxHeartbeats 400000 in
set_option maxRecDepth 100000 in
theorem longR_any (m : Nat) (x : UInt8) (w : World) (hm : m ≤ 1000000) :
    Calls Tryd.prog 32 #[.int .i64 (m : Int), .int .u8 (x.toNat : Int)] w fun e w' => e = .returned (.string ⟨(List.replicate m x).toArray⟩) ∧ Below w.heap.size w w' := by
  obtain ⟨i0, hi, hz0, hz1, hz2⟩ := info_parts Tryd.info5
  have hmk : i0.bytes * m ≤ 281474976710656 := by rw [hz2]; omega
  go_enter Tryd.func32, Tryd.ntmps32
  go_wp2_with (at_make; refine wpList_make_full w rfl _ _ 22 rfl w.heap.size 5 i0 (.int .u8 0) 1 Tryd.underlying22 hi hz0 hz1 .i64 .i64 (m : Int) (m : Int) m (by rfl) (by rfl) rfl rfl hmk (by unfold maxLen; omega) (Nat.le_refl _) ?_; intro w0 hown0 hg0)
  clear hi hz0 hz1 hz2 hmk
  have hst : (madeCells (Value.int .u8 0).cells (m * 1)).toList = (List.replicate m (0 : UInt8)).map bv := by
    have e : (Value.int .u8 0).cells = #[Value.int .u8 0] := rfl
    apply List.ext_getElem?
    intro j
    rw [e]
    by_cases hj : j < m
    · simp [madeCells, hj, bv, Nat.mod_one]
    · rw [List.getElem?_eq_none (by rw [Array.length_toList, size_madeCells]; omega), List.getElem?_eq_none (by simp; omega)]
  rw [hst] at hown0
  clear hst
  go_loopw [6] (fun iv wr => ∃ (k : Nat) (bs : List UInt8), k ≤ m ∧ Hid (∀ i, i < k → bs[i]? = some x) ∧ bs.length = m ∧ iv = .int .i64 (k : Int) ∧ wr.ownsRow w.heap.size 5 1 (.slice (some ⟨w.heap.size, 0, none⟩) m m) m (bs.map bv) ∧ Below w.heap.size w wr) (fun iv _ => m - (intOf iv).toNat)
  case atStart => exact ⟨0, List.replicate m 0, Nat.zero_le _, fun i h => absurd h (Nat.not_lt_zero _), by simp, rfl, hown0, (Below.refl _ _).grown hg0 (Nat.le_refl _) (by simp)⟩
  case round =>
    clear hown0 hg0
    obtain ⟨k, bs, hk, HXS, hbl, rfl, hown, hb⟩ := hrel
    have HBL := hide hbl
    have HOWN := hide hown
    clear hbl hown
    by_cases hlt : k < m
    · have hkl : k < bs.length := by rw [unhide HBL]; exact hlt
      have hc : wr.cell? ⟨w.heap.size, k, none⟩ = some (bv bs[k]) := by rw [(unhide HOWN).cellAt k (by omega), List.getElem?_map, List.getElem?_eq_getElem hkl]; rfl
      obtain ⟨y, hy⟩ : ∃ y, bv bs[k] = .int .u8 y := ⟨_, rfl⟩
      rw [hy] at hc
      have hf := (unhide HOWN).frozenAt k
      have hst := ((unhide HOWN).stored k (bv x)).1
      rw [← List.map_set] at hst
      have HST := hide hst
      clear hst hy
      go_wp2
      go_roundw
      case rel => exact ⟨k + 1, bs.set k x, hlt, set_upto HXS.out hkl, by simp [unhide HBL], by go_num, unhide HST, hb.setCell (p := ⟨w.heap.size, k, none⟩) (Nat.le_refl _) _⟩
      case measure => simp [intOf]; omega
    · have hcv := run_string_own (P := Tryd.prog) wr 22 9 5 Tryd.underlying22 Tryd.underlying5 Tryd.underlying9 _ (unhide HOWN)
      go_wp2
      go_ret
      exact ⟨by rw [all_upto HXS.out (unhide HBL) (by omega)]; rfl, hb⟩
theorem long13R (m : Nat) (x : UInt8) (z : Int) (hz : z = (x.toNat : Int)) (w : World) (hm : m ≤ 1000000) (hx : x.toNat ≠ 32 := by decide) : Calls Tryd.prog 32 #[.int .i64 (m : Int), .int .u8 z] w fun e w' => ∃ t : ByteArray, Hid (t.size = m) ∧ Hid (∀ b ∈ t.data.toList, b.toNat ≠ 32) ∧ e = .returned (.string t) ∧ Below w.heap.size w w' := by
  subst hz
  refine (longR_any m x w hm).mono ?_
  rintro e w' ⟨rfl, h⟩
  refine ⟨⟨(List.replicate m x).toArray⟩, by show (List.replicate m x).toArray.size = m; simp, ?_, rfl, h⟩
  intro b hb
  have h2 : b ∈ List.replicate m x := hb
  rw [(List.mem_replicate.1 h2).2]
  exact hx
theorem qto_mem : ∀ (l : List UInt8), ∀ b ∈ qto l, b = 92 ∨ b ∈ l
  | [], b, h => by cases h
  | c :: l, b, h => by
    rw [qto] at h
    rcases List.mem_append.1 h with h | h
    · split at h
      · rcases List.mem_cons.1 h with h | h
        · exact .inl h
        · exact .inr (by rw [List.mem_singleton.1 h]; simp)
      · exact .inr (by rw [List.mem_singleton.1 h]; simp)
    · rcases qto_mem l b h with h | h
      · exact .inl h
      · exact .inr (by simp [h])
theorem dg_nb (n : Nat) (h : n ≤ 60) : ∀ b ∈ dg n, b.toNat ≠ 32 := by
  intro b hb
  rcases dg_ways n h with ⟨h1, h2⟩ | ⟨h1, h2⟩
  · rw [h2] at hb
    rw [List.mem_singleton.1 hb, fig_nat _ h1]
    omega
  · rw [h2] at hb
    rcases List.mem_cons.1 hb with rfl | hb
    · rw [fig_nat _ (by omega)]; omega
    · rw [List.mem_singleton.1 hb, fig_nat _ (by omega)]; omega
/-- A text without a blank has none as a token either. -/
theorem ttx_nb {kd : Int} {t : ByteArray} (h : ∀ b ∈ t.data.toList, b.toNat ≠ 32) (hz : t.size ≤ 60) : cbl (ttx kd t).data.toList = 0 := by
  apply cbl_none
  by_cases hk : kd = 1
  · rw [ttx, if_pos hk]
    exact h
  · by_cases hq : qok t = true
    · rw [ttx, if_neg hk, if_pos hq]
      intro b hb
      have hb2 : b ∈ (34 : UInt8) :: (qto t.data.toList ++ [34]) := hb
      rcases List.mem_cons.1 hb2 with rfl | hb2
      · decide
      · rcases List.mem_append.1 hb2 with hb2 | hb2
        · rcases qto_mem _ b hb2 with rfl | hb2
          · decide
          · exact h b hb2
        · rw [List.mem_singleton.1 hb2]
          decide
    · have e : ttx kd t = ltx t := by rw [ttx, if_neg hk, if_neg hq]; rfl
      rw [e]
      intro b hb
      have hb2 : b ∈ (123 : UInt8) :: (dg t.size ++ 125 :: 13 :: 10 :: b13 t) := by rw [← b13_l]; exact hb
      rcases List.mem_cons.1 hb2 with rfl | hb2
      · decide
      · rcases List.mem_append.1 hb2 with hb2 | hb2
        · exact dg_nb _ hz b hb2
        · rcases List.mem_cons.1 hb2 with rfl | hb2
          · decide
          · rcases List.mem_cons.1 hb2 with rfl | hb2
            · decide
            · rcases List.mem_cons.1 hb2 with rfl | hb2
              · decide
              · exact h b hb2
theorem ttx_head {kd : Int} {t : ByteArray} (h : okt (kd, t)) : ∃ c L, (ttx kd t).data.toList = c :: L ∧ c.toNat ≠ 13 := tb_head h
/-- What is said: few blanks, and it does not begin with a 13. -/
def Sd (x : ByteArray) : Prop := cbl x.data.toList ≤ 4 ∧ ∃ c L, x.data.toList = c :: L ∧ c.toNat ≠ 13
/-- The same while it is put together of i tokens. -/
def Si (i : Nat) (x : ByteArray) : Prop := cbl x.data.toList ≤ i - 1 ∧ (i = 0 → x = ⟨#[]⟩) ∧ (0 < i → ∃ c L, x.data.toList = c :: L ∧ c.toNat ≠ 13)
theorem app_data (x y : ByteArray) : (x ++ y).data.toList = x.data.toList ++ y.data.toList := by rw [ByteArray.data_append, Array.toList_append]
theorem si_zero : Si 0 ⟨#[]⟩ := ⟨Nat.le_refl _, fun _ => rfl, fun h => absurd h (Nat.lt_irrefl _)⟩
theorem si_more {i : Nat} {s q : ByteArray} (h : Si i s) (hi : 0 < i) (hq : cbl q.data.toList = 0) : Si (i + 1) (s ++ ⟨#[32]⟩ ++ q) := by
  obtain ⟨h1, _, h3⟩ := h
  obtain ⟨c, L, hc, h13⟩ := h3 hi
  refine ⟨?_, fun h => by omega, fun _ => ⟨c, L ++ [32] ++ q.data.toList, ?_, h13⟩⟩
  · rw [app_data, app_data]
    have e1 := cbl_app (s.data.toList ++ [32]) q.data.toList
    have e2 := cbl_app s.data.toList [32]
    have e3 := cbl_one 32
    show cbl (s.data.toList ++ [32] ++ q.data.toList) ≤ i
    rw [hq] at e1
    have e4 : cbl s.data.toList + 1 ≤ i := Nat.le_trans (Nat.add_le_add_right h1 1) (Nat.le_of_eq (Nat.sub_add_cancel hi))
    exact Nat.le_trans e1 (Nat.le_trans e2 (Nat.le_trans (Nat.add_le_add_left e3 _) e4))
  · rw [app_data, app_data, hc]
    simp
theorem si_first {i : Nat} {s q : ByteArray} (h : Si i s) (hi : ¬ 0 < i) (hq : cbl q.data.toList = 0) (hh : ∃ c L, q.data.toList = c :: L ∧ c.toNat ≠ 13) : Si (i + 1) (s ++ q) := by
  have h0 : s = ⟨#[]⟩ := h.2.1 (by omega)
  subst h0
  have e : (⟨#[]⟩ ++ q : ByteArray).data.toList = q.data.toList := by rw [app_data]; rfl
  exact ⟨by rw [e, hq]; exact Nat.zero_le _, fun h => by omega, fun _ => by rw [e]; exact hh⟩
theorem si_end {i : Nat} {s : ByteArray} (h : Si i s) (hi : i ≤ 5) (h0 : 0 < i) : Sd (s ++ ⟨#[13, 10]⟩) := by
  obtain ⟨c, L, hc, h13⟩ := h.2.2 h0
  refine ⟨?_, c, L ++ [13, 10], by rw [app_data, hc]; rfl, h13⟩
  rw [app_data]
  have e1 := cbl_app s.data.toList (⟨#[13, 10]⟩ : ByteArray).data.toList
  have e2 : cbl (⟨#[13, 10]⟩ : ByteArray).data.toList = 0 := by decide
  have := h.1
  omega
theorem sd_more {s : ByteArray} (h : Sd s) : Sd (s ++ ⟨#[109, 111, 114, 101]⟩) := by
  obtain ⟨h1, c, L, hc, h13⟩ := h
  refine ⟨?_, c, L ++ [109, 111, 114, 101], by rw [app_data, hc]; rfl, h13⟩
  rw [app_data]
  have e1 := cbl_app s.data.toList (⟨#[109, 111, 114, 101]⟩ : ByteArray).data.toList
  have e2 : cbl (⟨#[109, 111, 114, 101]⟩ : ByteArray).data.toList = 0 := by decide
  omega
theorem ne_13 {s : ByteArray} {c : UInt8} {L : List UInt8} (h : s.data.toList = c :: L) (hc : c.toNat ≠ 13) : s ≠ ⟨#[13]⟩ := by
  intro e
  subst e
  have h2 : ([13] : List UInt8) = c :: L := h
  simp only [List.cons.injEq] at h2
  exact hc (by rw [← h2.1]; rfl)
theorem ne_13_size {s : ByteArray} (h : 2 ≤ s.size) : s ≠ ⟨#[13]⟩ := by
  intro e
  rw [e] at h
  have h2 : (⟨#[13]⟩ : ByteArray).size = 1 := rfl
  omega
theorem good_sd {s : ByteArray} (h : Sd s) : good13 s := by
  obtain ⟨h1, c, L, hc, h13⟩ := h
  exact good_few (by omega) (ne_13 hc h13)
theorem good_pre {s : ByteArray} (h : Sd s) {m : Nat} : good13 (s.extract 0 m) := by
  obtain ⟨h1, c, L, hc, h13⟩ := h
  have e : (s.extract 0 m).data.toList = s.data.toList.take m := by
    rw [ByteArray.data_extract, Array.toList_extract, List.extract_eq_take_drop]; simp
  refine good_few (by rw [e]; have := cbl_take s.data.toList m; omega) ?_
  rcases m with _ | m
  · intro h2
    rw [h2] at e
    cases e
  · rw [hc, List.take_succ_cons] at e
    exact ne_13 e h13
theorem cbl_small {x : ByteArray} (h : x.size = 1) : cbl x.data.toList ≤ 1 := by
  have hl := dat_len x
  rcases hd : x.data.toList with _ | ⟨y, _ | ⟨z, L⟩⟩
  · exact Nat.zero_le _
  · exact cbl_one y
  · rw [hd] at hl
    simp only [List.length_cons] at hl
    omega
theorem good_app {s x : ByteArray} (h : Sd s) (hs : 4 ≤ s.size) (hx : x.size = 1) : good13 (s ++ x) := by
  refine good_few ?_ (ne_13_size (by rw [ByteArray.size_append]; omega))
  rw [app_data]
  have := cbl_app s.data.toList x.data.toList
  have := cbl_small hx
  have := h.1
  omega
theorem good_put {s x : ByteArray} {i : Nat} (h : Sd s) (hs : 4 ≤ s.size) (hi : i < s.size) (hx : x.size = 1) : good13 (s.extract 0 i ++ x ++ s.extract (i + 1) s.size) := by
  refine good_few ?_ (ne_13_size (by rw [ByteArray.size_append, ByteArray.size_append, ByteArray.size_extract, ByteArray.size_extract]; omega))
  rw [app_data, app_data, ext_data]
  have e : (s.extract 0 i).data.toList = s.data.toList.take i := by
    rw [ByteArray.data_extract, Array.toList_extract, List.extract_eq_take_drop]; simp
  rw [e]
  have hl := dat_len x
  rcases hd : x.data.toList with _ | ⟨y, _ | ⟨z, L⟩⟩
  · rw [hd] at hl; simp at hl; omega
  · have h2 := cbl_put s.data.toList i y
    rw [show s.data.toList.take i ++ [y] ++ s.data.toList.drop (i + 1) = s.data.toList.take i ++ y :: s.data.toList.drop (i + 1) by simp]
    have := h.1
    omega
  · rw [hd] at hl
    simp only [List.length_cons] at hl
    omega
theorem inL4b (x : Int) (h : x ∈ ([40, 41, 200, 201] : List Int)) : ∃ m : Nat, x = (m : Int) ∧ m ≤ 201 ∧ 40 ≤ m := by
  simp only [List.mem_cons, List.not_mem_nil, or_false] at h
  exact ⟨x.toNat, by omega, by omega, by omega⟩
abbrev SG (y : ByteArray) : Prop := y.size ≤ 61 ∧ good13 y
theorem sgA (y : ByteArray) (h : y.size ≤ 61 ∧ cbl y.data.toList ≤ 7 ∧ y.data.toList ≠ [13]) : SG y := ⟨h.1, good_few h.2.1 (fun e => h.2.2 (by rw [e]))⟩
theorem sg9 : SG ⟨#[97, 32, 98, 32, 99, 32, 100, 32, 101, 32, 102, 32, 103, 32, 104, 32, 105, 13, 10, 120]⟩ := by
  refine ⟨by decide, fun e => ?_, fun e => ?_⟩
  · have := congrArg ByteArray.size e
    exact absurd this (by decide)
  · have h : (tku ⟨#[97, 32, 98, 32, 99, 32, 100, 32, 101, 32, 102, 32, 103, 32, 104, 32, 105, 13, 10, 120]⟩ 21 0 []).isSome = true := by decide +kernel
    have e2 : tku ⟨#[97, 32, 98, 32, 99, 32, 100, 32, 101, 32, 102, 32, 103, 32, 104, 32, 105, 13, 10, 120]⟩ 21 0 [] = none := e.2
    rw [e2] at h
    cases h
set_option maxHeartbeats 1600000 in
set_option maxRecDepth 100000 in
theorem l13TokenB_any (cb : Nat) (ao : Option Addr) (n cap : Nat) (w : World) (hn : n ≤ 1048576) (hcur : Cur w cb ao n cap) (hcode : Code w cb ao n) :
    Calls Tryd.prog 23 #[.pointer (some ⟨cb, 0, none⟩)] w fun e w' => ∃ kd t, e = .returned (.agg #[.int .i64 kd, .string t]) ∧ Hid (okt (kd, t) ∧ cbl (ttx kd t).data.toList = 0) ∧ Cur w' cb ao n cap ∧ w.grownBy w' (some cb) := by
  have hlt := hcur.lt
  have HT := hid hlt
  have T0 := hid (Tok.new w 28 0 ⟨#[]⟩)
  have C0 := hid (hcur.alloc (.cells #[.int .i64 0, .string ⟨#[]⟩] 28))
  have G0 := hid (World.grownBy_alloc w (.cells #[.int .i64 0, .string ⟨#[]⟩] 28) (some cb))
  have O0 := hid hcode
  clear hcur hcode hlt
  go_enter Tryd.func23, Tryd.ntmps23
  go_wp2_with fail
  refine (once_any cb ao n cap _ hn C0.out (O0.out.later G0.out) 2 (by decide) (by decide)).mono ?_; rintro e w1 ⟨t, rfl, hc, hg⟩
  have C1 := hid hc
  have G1 := hid (wtr G0.out hg)
  have T1 := hid (T0.out.grown hg (by have := HT.out; simp; omega))
  clear hc hg C0 G0 T0
  cases t
  · go_wp2_with fail
    refine (long13R 60 97 97 rfl _ (by decide)).mono ?_; rintro e w2 ⟨z, hz, hzb, rfl, hb⟩
    have C2 := hid (C1.out.later hb (C1.out.lt))
    have G2 := hid (wtr G1.out (grown_below hb (some cb)))
    have T2 := hid (T1.out.later hb)
    clear hb C1 G1 T1
    go_wp2_with fail
    refine (pickP_any (fun y => y.size ≤ 60 ∧ cbl (ttx 2 y).data.toList = 0) cb w2.heap.size 8 [⟨#[]⟩, ⟨#[97, 110, 110]⟩, ⟨#[97, 32, 98]⟩, ⟨#[113, 34, 113]⟩, ⟨#[98, 92, 115]⟩, ⟨#[108, 105, 110, 101, 13, 10, 101, 110, 100]⟩, ⟨#[0, 255]⟩, z] ao n cap _ hn (C2.out.alloc _) (O0.out.later (wtr G2.out (World.grownBy_alloc _ _ _))) rfl (by decide) (by decide) (by have := C2.out.lt; omega) ?_ (rowT w2 9 _ _ rfl)).mono ?_
    · intro y hy
      simp only [List.mem_cons, List.not_mem_nil, or_false] at hy
      rcases hy with rfl | rfl | rfl | rfl | rfl | rfl | rfl | rfl
      all_goals first | exact ⟨by rw [hz.out]; decide, ttx_nb hzb.out (by rw [hz.out]; decide)⟩ | exact ⟨by decide, ttx_nb (by decide) (by decide)⟩ | exact ⟨by decide, by decide⟩
    rintro e w3 ⟨x, hx, rfl, hc, hg⟩
    have HX := hid hx
    have C3 := hid hc
    have hg2 := wtr (World.grownBy_alloc w2 _ _) hg
    have G3 := hid (wtr G2.out hg2)
    have T3 := hid (T2.out.grown hg2 (by have := HT.out; simp; omega))
    have c := T3.out.cells
    have f := T3.out.loose
    clear hx hc hg hg2 hz hzb
    go_wp2
    have d := (T3.out.put 2 x).cells
    refine bodyPost_ret (v := .agg #[.int .i64 2, .string x]) (by simp [results, Tryd.results23, go_sem, d]) rfl ⟨2, x, rfl, ⟨.inr ⟨rfl, HX.out.out.1⟩, HX.out.out.2⟩, (C3.out.set (by have := HT.out; omega)).set (by have := HT.out; omega), wst_new (wst_new G3.out (Nat.le_refl _) _ _) (Nat.le_refl _) _ _⟩
  · go_wp2_with fail
    refine (pickP_any (fun y => atk y = true ∧ cbl (ttx 1 y).data.toList = 0) cb w1.heap.size 6 [⟨#[97, 49]⟩, ⟨#[76, 79, 71, 73, 78]⟩, ⟨#[78, 79, 79, 80]⟩, ⟨#[120]⟩, ⟨#[49, 58, 51, 44, 42]⟩, ⟨#[33, 126]⟩] ao n cap _ hn (C1.out.alloc _) (O0.out.later (wtr G1.out (World.grownBy_alloc _ _ _))) rfl (by decide) (by decide) (by have := C1.out.lt; omega) ?_ (rowT w1 9 _ _ rfl)).mono ?_
    · intro y hy
      simp only [List.mem_cons, List.not_mem_nil, or_false] at hy
      rcases hy with rfl | rfl | rfl | rfl | rfl | rfl
      all_goals exact ⟨rfl, by decide⟩
    rintro e w3 ⟨x, hx, rfl, hc, hg⟩
    have HX := hid hx
    have C3 := hid hc
    have hg2 := wtr (World.grownBy_alloc w1 _ _) hg
    have G3 := hid (wtr G1.out hg2)
    have T3 := hid (T1.out.grown hg2 (by have := HT.out; simp; omega))
    have c := T3.out.cells
    have f := T3.out.loose
    clear hx hc hg hg2
    go_wp2
    have d := (T3.out.put 1 x).cells
    refine bodyPost_ret (v := .agg #[.int .i64 1, .string x]) (by simp [results, Tryd.results23, go_sem, d]) rfl ⟨1, x, rfl, ⟨.inl ⟨rfl, HX.out.out.1⟩, HX.out.out.2⟩, (C3.out.set (by have := HT.out; omega)).set (by have := HT.out; omega), wst_new (wst_new G3.out (Nat.le_refl _) _ _) (Nat.le_refl _) _ _⟩
set_option maxHeartbeats 1600000 in
set_option maxRecDepth 100000 in
theorem spoiltG_any (cb : Nat) (ao : Option Addr) (n cap : Nat) (s : ByteArray) (w : World) (hn : n ≤ 1048576) (hs : s.size ≤ 100000) (hs2 : 4 ≤ s.size) (hsd : Sd s) (hcur : Cur w cb ao n cap) (hcode : Code w cb ao n) :
    Calls Tryd.prog 30 #[.pointer (some ⟨cb, 0, none⟩), .string s] w fun e w' => ∃ x : ByteArray, x.size ≤ 300000 ∧ good13 x ∧ e = .returned (.string x) ∧ w.grownBy w' (some cb) := by
  have HC := hid hcur
  have HO := hid hcode
  have HSD := hid hsd
  clear hcur hcode hsd
  go_enter Tryd.func30, Tryd.ntmps30
  go_wp2_with fail
  refine (below4 cb ao n cap _ hn HC.out HO.out 12 (by decide) (by decide)).mono ?_; rintro e w1 ⟨k, hk, rfl, hc, hg⟩
  have C1 := hid hc
  have O1 := hid (HO.out.later hg)
  have G1 := hid hg
  clear hc hg HC HO
  by_cases h0 : k = 0
  · subst h0
    go_wp2_with fail
    refine (text13_any cb ao n cap _ hn C1.out O1.out).mono ?_; rintro e w2 ⟨x, hx, rfl, hc, hg⟩
    have G2 := hid (only_trans G1.out hg)
    clear hc hg
    go_wp2
    go_ret
    exact ⟨s ++ x, by rw [ByteArray.size_append]; omega, good_app HSD.out hs2 hx, rfl, G2.out⟩
  by_cases h1 : k = 1
  · subst h1
    go_wp2_with fail
    refine (below4 cb ao n cap _ hn C1.out O1.out ((s.size : Int) + 1) (by omega) (by omega)).mono ?_; rintro e w2 ⟨x, hx, rfl, hc, hg⟩
    have G2 := hid (only_trans G1.out hg)
    have hI : (0 : Int) ≤ (x : Int) ∧ (x : Int) ≤ (s.size : Int) := by omega
    clear hc hg
    go_wp2
    go_ret
    exact ⟨s.extract 0 x, by rw [ByteArray.size_extract]; omega, good_pre HSD.out, by simp, G2.out⟩
  have hk0 : ((k : Int) == 0) = false := beq_eq_false_iff_ne.2 (by omega)
  have hk1 : ((k : Int) == 1) = false := beq_eq_false_iff_ne.2 (by omega)
  by_cases h2 : k = 2 ∨ k = 3
  · by_cases hz : 0 < s.size
    · have hzI : (0 : Int) < (s.size : Int) := by omega
      rcases h2 with rfl | rfl
      all_goals
        go_wp2_with fail
        refine (below4 cb ao n cap _ hn C1.out O1.out (s.size : Int) (by omega) (by omega)).mono ?_; rintro e w2 ⟨i, hi, rfl, hc, hg⟩
        have G2 := hid (only_trans G1.out hg)
        have C2 := hid hc
        have O2 := hid (O1.out.later hg)
        have hI : (0 : Int) ≤ (i : Int) ∧ (i : Int) ≤ (s.size : Int) := by omega
        have hI1 : (0 : Int) ≤ (i : Int) + 1 ∧ (i : Int) + 1 ≤ (s.size : Int) := by omega
        clear hc hg
        go_wp2_with fail
        have hw : IntKind.i64.wrap ((i : Int) + 1) = (i : Int) + 1 := wrap13_small _ (by omega) (by omega)
        have O2d : Hid (Code w2.drew cb ao n) := O2.out
        have C2d : Hid (Cur w2.drew cb ao n cap) := C2.out
        obtain ⟨p, hp⟩ : ∃ p, s.extract 0 i = p := ⟨_, rfl⟩
        obtain ⟨q, hq⟩ : ∃ q, s.extract (i + 1) s.size = q := ⟨_, rfl⟩
        have HGP : Hid (∀ y : ByteArray, y.size = 1 → good13 (p ++ y ++ q)) := hid (fun y hy => by rw [← hp, ← hq]; exact good_put HSD.out hs2 (by omega) hy)
        have zp : p.size ≤ 100000 := by rw [← hp, ByteArray.size_extract]; omega
        have zq : q.size ≤ 100000 := by rw [← hq, ByteArray.size_extract]; omega
        go_region_held3 (fun _ => True) (trivial)
          ((go_at_call 49; refine (text13_any cb ao n cap w2.drew hn C2d.out O2d.out).mono ?_; rintro e w3 ⟨x, hx, rfl, hc, hg⟩; have G3 : Hid (w.grownBy w3 (some cb)) := only_trans G2.out (wtr (grown_below (bdr (bre w2)) _) hg); have n1 : (p.size + x.size > 9223372036854775807) = False := eq_false (by omega); have n2 : (p.size + x.size + q.size > 9223372036854775807) = False := eq_false (by omega); have HXS := hid hx; clear hc hg hx))
        clear n1 n2
        go_wp2
        go_ret
        exact ⟨p ++ x ++ q, by have := HXS.out; rw [ByteArray.size_append, ByteArray.size_append]; omega, HGP.out x HXS.out, rfl, G3.out⟩
    · have hzI : ¬ (0 : Int) < (s.size : Int) := by omega
      rcases h2 with rfl | rfl
      all_goals
        go_wp2
        go_ret
        exact ⟨s, by omega, good_sd HSD.out, rfl, G1.out⟩
  · have hk2 : ((k : Int) == 2) = false := beq_eq_false_iff_ne.2 (by omega)
    have hk3 : ((k : Int) == 3) = false := beq_eq_false_iff_ne.2 (by omega)
    go_wp2
    go_ret
    exact ⟨s, by omega, good_sd HSD.out, rfl, G1.out⟩
set_option maxHeartbeats 1600000 in
set_option maxRecDepth 100000 in
theorem l13SaidB_any (cb : Nat) (ao : Option Addr) (n cap : Nat) (w : World) (hn : n ≤ 1048576) (hcur : Cur w cb ao n cap) (hcode : Code w cb ao n) :
    Calls Tryd.prog 29 #[.pointer (some ⟨cb, 0, none⟩)] w fun e w' => ∃ x : ByteArray, Hid (x.size ≤ 700 ∧ Sd x) ∧ e = .returned (.string x) ∧ Cur w' cb ao n cap ∧ w.grownBy w' (some cb) := by
  have HC := hid hcur
  have HO := hid hcode
  clear hcur hcode
  go_enter Tryd.func29, Tryd.ntmps29
  go_wp2
  go_loopw [3, 4] (fun sv iv wr => ∃ (i : Nat) (s : ByteArray), i ≤ 5 ∧ iv = .int .i64 (i : Int) ∧ sv = .string s ∧ Hid (s.size ≤ i * 130 ∧ Si i s) ∧ Cur wr cb ao n cap ∧ w.grownBy wr (some cb)) (fun _ iv _ => 5 - (intOf iv).toNat)
  case atStart => exact ⟨0, ⟨#[]⟩, by omega, rfl, rfl, ⟨Nat.zero_le _, si_zero⟩, HC.out, wre _ _⟩
  case round =>
    obtain ⟨i, s, hi, rfl, rfl, HS, hc, hg⟩ := hrel
    have C0 := hid hc
    have G0 := hid hg
    clear hc hg
    go_wp2_with fail
    refine (below4 cb ao n cap _ hn C0.out (HO.out.later G0.out) 5 (by decide) (by decide)).mono ?_; rintro e w1 ⟨x, hx, rfl, hc, hg⟩
    have C1 := hid hc
    have G1 := hid (wtr G0.out hg)
    clear hc hg C0 G0
    have hsz : s.size ≤ 650 := by have := HS.out.1; omega
    by_cases hix : (i : Int) < 1 + (x : Int)
    · by_cases hi0 : 0 < i
      all_goals
        go_wp2_with fail
        refine (l13TokenB_any cb ao n cap _ hn C1.out (HO.out.later G1.out)).mono ?_; rintro e w2 ⟨kd, t, rfl, hk, hc, hg⟩
        have C2 := hid hc
        have G2 := hid (wtr G1.out hg)
        have HK := hid hk
        clear hc hg C1 G1
        have CT := hid (fun (W : World) => specTokenText_any kd t W (by have := okt_size hk.out.1; omega))
        have hq := ttx_size hk.out.1
        have HKH := hid (ttx_head hk.out.1)
        have HKC := hid hk.out.2
        obtain ⟨q, hqe⟩ : ∃ q, ttx kd t = q := ⟨_, rfl⟩
        rw [hqe] at CT hq HKH HKC
        clear hqe hk
        go_wp2_with fail
        refine (CT.out _).mono ?_; rintro e w3 ⟨rfl, hb⟩
        have C3 := hid (C2.out.later hb C2.out.lt)
        have G3 := hid (wtr G2.out (grown_below hb _))
        clear hb C2 G2
        go_wp2
        go_roundw
        case rel => exact ⟨i + 1, _, by omega, by go_num, rfl, ⟨by have h1 := HS.out.1; have h2 : (⟨#[32]⟩ : ByteArray).size = 1 := rfl; simp only [ByteArray.size_append]; omega, by first | exact si_more HS.out.2 hi0 HKC.out | exact si_first HS.out.2 hi0 HKC.out HKH.out⟩, C3.out, G3.out⟩
        case measure => simp [intOf]; omega
    · go_wp2
      go_ret
      exact ⟨_, ⟨by have h2 : (⟨#[13, 10]⟩ : ByteArray).size = 2 := rfl; rw [ByteArray.size_append]; omega, si_end HS.out.2 hi (by omega)⟩, rfl, C1.out, G1.out⟩
set_option maxHeartbeats 1600000 in
set_option maxRecDepth 100000 in
theorem drawReadG_any (ao : Option Addr) (n cap : Nat) (w : World) (hn : n ≤ 1048576) (hcode : Code w w.heap.size ao n) :
    Calls Tryd.prog 11 #[.slice ao n cap] w fun e w' => ∃ x : ByteArray, Hid (x.size ≤ 300000 ∧ good13 x) ∧ e = .returned (.string x) ∧ Below w.heap.size w w' := by
  have HO := hid hcode
  clear hcode
  go_enter Tryd.func11, Tryd.ntmps11
  go_wp2_with fail
  refine (new_any ao n cap _ hn HO.out).mono ?_; rintro e w1 ⟨rfl, hc1, ho1, hb1⟩
  have C1 := hid hc1
  have O1 := hid ho1
  have B1 := hid hb1
  clear hc1 ho1 hb1
  go_wp2_with fail
  refine (below4 w.heap.size ao n cap _ hn C1.out O1.out 10 (by decide) (by decide)).mono ?_; rintro e w2 ⟨k, hk, rfl, hc, hg⟩
  have C2 := hid hc
  have O2 := hid (O1.out.later hg)
  have B2 := hid (B1.out.trans (only_below hg (Nat.le_refl _) B1.out.size))
  clear hc hg C1 O1 B1
  go_wp2_with fail
  refine (l13SaidB_any w.heap.size ao n cap _ hn C2.out O2.out).mono ?_; rintro e w3 ⟨s0, hs0, rfl, hc, hg⟩
  have C3 := hid hc
  have O3 := hid (O2.out.later hg)
  have B3 := hid (B2.out.trans (only_below hg (Nat.le_refl _) B2.out.size))
  have hz := hs0.out.1
  have hm : (⟨#[109, 111, 114, 101]⟩ : ByteArray).size = 4 := rfl
  obtain ⟨s, hs⟩ : ∃ s, s0 ++ ⟨#[109, 111, 114, 101]⟩ = s := ⟨_, rfl⟩
  have hss : s.size ≤ 704 ∧ 4 ≤ s.size := by rw [← hs, ByteArray.size_append]; omega
  have HE := hid hs
  have HSD : Hid (Sd s) := hid (by rw [← hs]; exact sd_more hs0.out.2)
  clear hc hg C2 O2 B2 hs0 hs
  go_upto_region 4 with fail
  rw [HE.out]
  clear HE hm hz
  by_cases h0 : k = 0
  · subst h0
    go_wp2_with fail
    refine (below4 w.heap.size ao n cap _ hn C3.out O3.out (s.size : Int) (by omega) (by omega)).mono ?_; rintro e w4 ⟨x, hx, rfl, hc, hg⟩
    have B4 := hid (B3.out.trans (only_below hg (Nat.le_refl _) B3.out.size))
    have hI : (0 : Int) ≤ (x : Int) ∧ (x : Int) ≤ (s.size : Int) := by omega
    clear hc hg
    go_wp2
    go_ret
    exact ⟨s.extract 0 x, ⟨by rw [ByteArray.size_extract]; omega, good_pre HSD.out⟩, by simp, B4.out⟩
  have hk0 : ((k : Int) == 0) = false := beq_eq_false_iff_ne.2 (by omega)
  by_cases h1 : k = 1
  · subst h1
    go_wp2_with fail
    refine (spoiltG_any w.heap.size ao n cap s _ hn (by omega) hss.2 HSD.out C3.out O3.out).mono ?_; rintro e w4 ⟨x, hx, hgx, rfl, hg⟩
    have HX := hid (And.intro hx hgx)
    have B4 := hid (B3.out.trans (only_below hg (Nat.le_refl _) B3.out.size))
    clear hg hx hgx
    go_wp2
    go_ret
    exact ⟨x, HX.out, rfl, B4.out⟩
  have hk1 : ((k : Int) == 1) = false := beq_eq_false_iff_ne.2 (by omega)
  by_cases h2 : k = 2
  · subst h2
    go_wp2_with fail
    refine (pickC_any SG w.heap.size 10 _ ao n cap w3 hn C3.out O3.out (by rfl) (by rfl) (by decide) (by decide) (by exact ⟨sgA _ (by decide), sgA _ (by decide), sgA _ (by decide), sgA _ (by decide), sgA _ (by decide), sgA _ (by decide), sgA _ (by decide), sg9, sgA _ (by decide), sgA _ (by decide), trivial⟩)).mono ?_
    rintro e w4 ⟨x, hx, rfl, _, hg⟩
    have B4 := hid (B3.out.trans (only_below hg (Nat.le_refl _) B3.out.size))
    clear hg
    go_wp2
    go_ret
    exact ⟨x, ⟨by have h2 : x.size ≤ 61 := hx.out.1; omega, hx.out.2⟩, rfl, B4.out⟩
  have hk2 : ((k : Int) == 2) = false := beq_eq_false_iff_ne.2 (by omega)
  by_cases h3 : k = 3
  · subst h3
    go_wp2_with fail
    refine (pickInt_any w.heap.size w3.heap.size 4 [40, 41, 200, 201] ao n cap _ hn (C3.out.alloc _) (O3.out.later (World.grownBy_alloc _ _ _)) rfl (by decide) (by decide) (by have := C3.out.lt; omega) (rowI4 w3 40 41 200 201)).mono ?_; rintro e w4 ⟨z, hz, rfl, hc, hg⟩
    obtain ⟨m, rfl, hm, hm2⟩ := inL4b z hz
    have B4 := hid (B3.out.trans (only_below (wtr (World.grownBy_alloc w3 _ _) hg) (Nat.le_refl _) B3.out.size))
    clear hc hg hz
    go_wp2_with fail
    refine (long13R m 97 97 rfl _ (by omega)).mono ?_; rintro e w5 ⟨x, hx, hxb, rfl, hb⟩
    have B5 := hid (btr B4.out hb)
    clear hb
    go_wp2
    go_ret
    exact ⟨x, ⟨by rw [hx.out]; omega, good_few (by rw [cbl_none _ hxb.out]; omega) (fun e => by have h1 := hx.out; rw [e] at h1; have h3 : (⟨#[13]⟩ : ByteArray).size = 1 := rfl; omega)⟩, rfl, B5.out⟩
  have hk3 : ((k : Int) == 3) = false := beq_eq_false_iff_ne.2 (by omega)
  go_wp2
  go_ret
  exact ⟨s, ⟨by omega, good_sd HSD.out⟩, rfl, B3.out⟩
theorem readS_as (X : ByteArray) (hX : X.size ≤ 1048576) (l : List T2) (t : ByteArray) (c : Int) (h : rtk X = (l, t, c)) (N : Nat) (hN : l.length = N) (w : World) :
    Calls Tryd.prog 12 #[.string X] w fun e w' => ∃ a cp, e = .returned (.tuple #[.slice a N cp, .string t, .int .i64 c]) ∧ OwK w' w.heap.size (.slice a N cp) l ∧ Below w.heap.size w w' := by
  refine (specReadTokens_any X w hX).mono ?_
  rintro e w' ⟨v, l', t', c', rfl, hr, ho, hb⟩
  rw [h] at hr
  simp only [Prod.mk.injEq] at hr
  obtain ⟨rfl, rfl, rfl⟩ := hr
  obtain ⟨a, cp, rfl⟩ := ho.shape
  rw [hN] at ho ⊢
  exact ⟨a, cp, rfl, ho, hb⟩
theorem qtR_let (s : ByteArray) : ∃ (x : ByteArray) (c : Bool), qtR s = .tuple #[.string x, .bool c] := by
  unfold qtR
  split
  · exact ⟨_, _, rfl⟩
  · exact ⟨_, _, rfl⟩
theorem specQuote_b (s : ByteArray) (w : World) (hs : s.size ≤ 1048576) : Calls Tryd.prog 15 #[.string s] w fun e w' => e = .returned (qtR s) ∧ Below w.heap.size w w' := (specQuote_any s w hs).mono (by rintro e w' ⟨rfl, rfl⟩; exact ⟨rfl, bre _⟩)
theorem specAtom_b (s : ByteArray) (w : World) (hs : s.size ≤ 1048576) : Calls Tryd.prog 19 #[.string s] w fun e w' => e = .returned (.bool (atk s)) ∧ Below w.heap.size w w' := (specAtom_any s w hs).mono (by rintro e w' ⟨rfl, rfl⟩; exact ⟨rfl, bre _⟩)
set_option maxHeartbeats 6400000 in
set_option maxRecDepth 100000 in
theorem fnTokensTold_any (ao : Option Addr) (n cap : Nat) (w : World) (hcode : Code w w.heap.size ao n) (hT : Mx w) :
    Calls Tryd.prog 4 #[.slice ao n cap] w fun e w' => e = .returned (.bool true) ∧ Below w.heap.size w w' := by
  have HO := hid hcode
  have HTB := hid hT
  clear hcode hT
  by_cases hn : n ≤ 1048576
  rotate_left
  · go_enter Tryd.func4, Tryd.ntmps4
    go_wp2_with fail
    refine (bigF_yes ao n cap _ (by omega)).mono ?_; rintro e w1 ⟨rfl, h1⟩
    subst h1
    go_wp2
    go_ret
    exact ⟨rfl, bre _⟩
  · have HN := hid hn
    go_enter Tryd.func4, Tryd.ntmps4
    go_wp2_with fail
    refine (bigF_no ao n cap _ HN.out).mono ?_; rintro e w0 ⟨rfl, h0⟩
    have h0 := h0.symm
    subst h0
    go_wp2_with fail
    refine (drawReadG_any ao n cap _ HN.out HO.out).mono ?_; rintro e w1 ⟨s, hs, rfl, hb⟩
    have B1 := hid hb
    clear hb
    obtain ⟨l, t, c, hr⟩ : ∃ l t c, rtk s = (l, t, c) := ⟨_, _, _, rfl⟩
    have hl8 := rtk_len hr
    obtain ⟨N, hN⟩ : ∃ N, l.length = N := ⟨_, rfl⟩
    rw [hN] at hl8
    have CI := hid (fun (W : World) (hM : Mx W) => readT_as s (by have := hs.out.1; omega) hs.out.2 l t c hr N hN W hM)
    have CS := hid (fun (W : World) => readS_as s (by have := hs.out.1; omega) l t c hr N hN W)
    clear hr hs hN
    go_wp2_with fail
    refine (CI.out _ (HTB.out.upon B1.out)).mono ?_; rintro e w2 ⟨a2, p2, rfl, ho, hb⟩
    have K2 := hid ho
    have B2 := hid (btr B1.out hb)
    clear ho hb B1 CI
    go_wp2_with fail
    refine (CS.out _).mono ?_; rintro e w3 ⟨a3, p3, rfl, ho, hb⟩
    have K3 := hid ho
    have K2' := hid (own_later K2.out hb)
    have B3 := hid (btr B2.out hb)
    clear ho hb B2 CS K2
    go_wp2_with fail
    refine (drawQuote_any ao n cap _ HN.out (HO.out.over B3.out)).mono ?_; rintro e w4 ⟨q, hq, rfl, hb⟩
    have B4 := hid (btr B3.out hb)
    have K4 := hid (own_later K2'.out hb)
    have K4' := hid (own_later K3.out hb)
    clear hb B3 K2' K3
    have hq1 : q.size ≤ 1048576 := by have h : q.size ≤ 61 := hq.out; omega
    obtain ⟨x, d, hx⟩ := qtR_let q
    have CQ := hid (fun (W : World) => implQuote_any q W hq1)
    have CR := hid (fun (W : World) => specQuote_b q W hq1)
    rw [hx] at CQ CR
    clear hx hq hq1
    go_wp2_with fail
    refine (CQ.out _).mono ?_; rintro e w5 ⟨rfl, hb⟩
    have B5 := hid (btr B4.out hb)
    have K5 := hid (own_later K4.out hb)
    have K5' := hid (own_later K4'.out hb)
    clear hb B4 K4 K4' CQ
    go_wp2_with fail
    refine (CR.out _).mono ?_; rintro e w6 ⟨rfl, hb⟩
    have B6 := hid (btr B5.out hb)
    have K6 := hid (own_later K5.out hb)
    have K6' := hid (own_later K5'.out hb)
    clear hb B5 K5 K5' CR
    go_wp2_with fail
    refine (drawAtom_any ao n cap _ HN.out (HO.out.over B6.out)).mono ?_; rintro e w7 ⟨y, hy, rfl, hb⟩
    have B7 := hid (btr B6.out hb)
    have K7 := hid (own_later K6.out hb)
    have K7' := hid (own_later K6'.out hb)
    clear hb B6 K6 K6'
    have hy1 : y.size ≤ 1048576 := by have h : y.size ≤ 61 := hy.out; omega
    obtain ⟨z, hz⟩ : ∃ z, atk y = z := ⟨_, rfl⟩
    have CA := hid (fun (W : World) => implAtom_any y W hy1)
    have CB := hid (fun (W : World) => specAtom_b y W hy1)
    rw [hz] at CA CB
    clear hz hy hy1
    go_wp2_with fail
    refine (drawTokenText_any ao n cap _ HN.out (HO.out.over B7.out)).mono ?_; rintro e w8 ⟨kd, u, rfl, hk, hb⟩
    have B8 := hid (btr B7.out hb)
    have K8 := hid (own_later K7.out hb)
    have K8' := hid (own_later K7'.out hb)
    clear hb B7 K7 K7'
    have hu1 : u.size ≤ 1048576 := by have := okt_size hk.out; omega
    obtain ⟨v, hv⟩ : ∃ v, ttx kd u = v := ⟨_, rfl⟩
    have CT := hid (fun (W : World) => implTokenText_any kd u W hk.out)
    have CU := hid (fun (W : World) => specTokenText_any kd u W hu1)
    rw [hv] at CT CU
    clear hv hk hu1
    have C1 := hid (fun (W : World) => implAtom_any ⟨#[97, 49]⟩ W (by decide))
    have e1 : atk ⟨#[97, 49]⟩ = true := rfl
    rw [e1] at C1
    clear e1
    obtain ⟨W0, hW0⟩ : ∃ W0, w8.alloc (.cells #[.int .i64 kd, .string u] 28) = W0 := ⟨_, rfl⟩
    have b0 : Below w8.heap.size w8 W0 := by subst hW0; exact bpush (bre _) _
    have t0 : Tok W0 w8.heap.size 28 kd u := by subst hW0; exact Tok.new w8 _ _ _
    have HS : Hid (∀ W, Below W0.heap.size W0 W → (W.cell? ⟨w8.heap.size, 0, none⟩ = some (.int .i64 kd) ∧ W.cell? ⟨w8.heap.size, 1, none⟩ = some (.string u))) := fun W h => (t0.later h).cells
    have KA : Hid (∀ W, Below W0.heap.size W0 W → OwK W _ (.slice a2 N p2) l) := fun W h => own_later (own_later K8.out b0) h
    have KB : Hid (∀ W, Below W0.heap.size W0 W → OwK W _ (.slice a3 N p3) l) := fun W h => own_later (own_later K8'.out b0) h
    have B0 := hid (btr B8.out b0)
    have HW := hid hW0
    have hN1 : Hid (N ≤ 1048576) := by show _ ≤ _; omega
    clear b0 t0 K8 K8' B8 HTB HO HN hl8 hW0
    go_upto_region 11 with fail
    rw [HW.out]
    clear HW
    go_region_held3 (fun W => W.cell? ⟨w8.heap.size, 0, none⟩ = some (.int .i64 kd) ∧ W.cell? ⟨w8.heap.size, 1, none⟩ = some (.string u))
      ((refine HS.out _ ?_; repeat (first | exact bdr (bre _) | refine btr ?_ (by assumption))))
      ((first
        | (go_at_call 10; (with_reducible refine (sameTokens_any _ _ a2 a3 N p2 p3 l _ hN1.out (KA.out _ (by repeat (first | exact bdr (bre _) | refine btr ?_ (by assumption)))) (KB.out _ (by repeat (first | exact bdr (bre _) | refine btr ?_ (by assumption))))).mono ?_); rintro e wA ⟨rfl, hA⟩)
        | (go_at_call 18; (with_reducible refine (CA.out _).mono ?_); rintro e wB ⟨rfl, hB⟩)
        | (go_at_call 19; (with_reducible refine (CB.out _).mono ?_); rintro e wC ⟨rfl, hC⟩)
        | (go_at_call 7; (with_reducible refine (CT.out _).mono ?_); rintro e wD ⟨rfl, hD⟩)
        | (go_at_call 20; (with_reducible refine (CU.out _).mono ?_); rintro e wE ⟨rfl, hE⟩)
        | (go_at_call 18; (with_reducible refine (C1.out _).mono ?_); rintro e wF ⟨rfl, hF⟩)))
    have BE : Below W0.heap.size W0 wF := by repeat (first | exact bdr (bre _) | refine btr ?_ (by assumption))
    go_wp2
    go_ret
    exact ⟨rfl, btr B0.out BE⟩
end Go.Proofs.YtmalpgbdemcmdaaDoor
