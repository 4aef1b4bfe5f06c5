/- Qpg, Qph, Qpi, Qpj, Qpk, Qpl. -/
import Derived.Test.YtmalpgbdemcmdaaDoorR4
import Derived.Test.YtmalpgbdemcmdaaDoorCut
import Derived.Test.YtmalpgbdemcmdaaDoorItos
namespace Go.Proofs.YtmalpgbdemcmdaaDoor
open Go.RowKit
/-- What stands at the loop's head. -/
def H13 (s : ByteArray) (f a : Nat) (l : List T2) : Option (Option (List T2 × Nat)) :=
  match s.data.toList[a]? with
  | none => none
  | some b => if b.toNat = 13 then ten13 s a l else if a = 0 then tku s f a l else cnt13 s f a l
theorem h13_cnt {s : ByteArray} {f a : Nat} {l : List T2} (ha : a ≠ 0) : H13 s f a l = cnt13 s f a l := by
  unfold H13 cnt13
  cases s.data.toList[a]? with
  | none => rfl
  | some b =>
    dsimp only
    by_cases h : b.toNat = 13
    · rw [if_pos h, if_pos h]
    · rw [if_neg h, if_neg ha, if_neg h]
theorem ownK_nil (W : World) (B : Nat) : OwK W B (.slice none 0 0) [] := ⟨by simp [tc], .inl ⟨rfl, rfl⟩⟩
set_option maxHeartbeats 3200000 in
set_option maxRecDepth 100000 in
theorem tokensAhead_any (s : ByteArray) (w : World) (hs : s.size ≤ 1048576)
    (hT : ∀ (a : Nat) (W : World), a ≤ s.size → Calls Tryd.prog 58 #[.string (s.extract a s.size)] W fun e w' => Tka s a W e w') :
    Calls Tryd.prog 47 #[.string s] w fun e w' => Tks s w e w' := by
  have HT := hid hT
  clear hT
  go_enter Tryd.func47, Tryd.ntmps47
  go_wp2
  go_loopw [5, 6] (fun lv av wr => ∃ (a fu : Nat) (l : List T2), av = .int .i64 (a : Int) ∧ OwK wr w.heap.size lv l ∧ Below w.heap.size w wr ∧ a ≤ s.size ∧ l.length ≤ a ∧ Hid (s.size < a + fu) ∧ Hid (H13 s fu a l = tka s)) (fun _ av _ => s.size - (intOf av).toNat)
  case atStart => exact ⟨0, s.size + 1, [], rfl, ownK_nil _ _, bre _, by omega, by simp, by show _ < _; omega, rfl⟩
  case round =>
    obtain ⟨a, fu, l, rfl, ho, hb, ha, hla, HF, HR⟩ := hrel
    have HO := hid ho
    have HB := hid hb
    have HLA := hid hla
    clear ho hb hla
    have hI : (0 : Int) ≤ (a : Int) ∧ (a : Int) ≤ (s.size : Int) := by omega
    obtain ⟨x, hx⟩ : ∃ x, s.extract a s.size = x := ⟨_, rfl⟩
    have hxs : x.size ≤ 1048576 := by rw [← hx, ByteArray.size_extract]; omega
    have HP : Hid (∀ W, Calls Tryd.prog 56 #[.string x, .string ⟨#[13]⟩] W fun e w' => e = .returned (.bool (match s.data.toList[a]? with | none => false | some b => decide (b.toNat = 13))) ∧ W = w') := hid (fun W => by have h := hasPre13_any x ⟨#[13]⟩ W hxs (by decide); rw [← hx, pre_cr, hx] at h; exact h)
    have HX := hid hx
    clear hx
    go_wp2_with fail
    rw [HX.out]
    refine (HP.out _).mono ?_; rintro e w1 ⟨rfl, h1⟩
    have h1 := h1.symm
    subst h1
    clear HP
    cases hg : s.data.toList[a]? with
    | none =>
      have hal : ¬ a < s.size := fun h => by rw [at_get h] at hg; cases hg
      have HEA : Hid (s.size ≤ a) := by show _ ≤ _; omega
      clear hal
      have HN : Hid (tka s = none) := hid (by rw [← HR.out, H13, hg])
      have HTN : Hid (tkn s a = none) := hid (by rw [tkn, hg])
      have HC : Hid (∀ W, Calls Tryd.prog 57 #[.string x, .string ⟨#[32]⟩] W fun e w' => e = .returned (.int .i64 1) ∧ W = w') := hid (fun W => by have h := comesAhead_any x ⟨#[32]⟩ W hxs (by decide); rw [← HX.out, cma_blank, hg, HX.out] at h; exact h)
      clear hg HR
      by_cases ha0 : 0 < a
      · go_wp2_with fail
        rw [HX.out]
        refine (HC.out _).mono ?_; rintro e w1 ⟨rfl, h1⟩
        have h1 := h1.symm
        subst h1
        go_wp2
        go_ret3
        exact ⟨_, [], 0, 1, rfl, ownK_nil _ _, HB.out, Or.inr (Or.inl ⟨rfl, rfl, HN.out⟩)⟩
      · go_wp2_with fail
        refine (HT.out a _ (by omega)).mono ?_; rintro e w1 ⟨kd, t, n, c, rfl, hb, hw⟩
        have B1 := hid (btr HB.out hb)
        clear hb
        rcases hw with ⟨rfl, hn, hpn, hw⟩ | ⟨rfl, hw⟩ | ⟨rfl, hw⟩
        · have := HEA.out; omega
        · clear hw
          go_wp2
          go_ret3
          exact ⟨_, [], 0, 1, rfl, ownK_nil _ _, bpush B1.out _, Or.inr (Or.inl ⟨rfl, rfl, HN.out⟩)⟩
        · rw [HTN.out] at hw
          cases hw
    | some b =>
      have hal : a < s.size := by
        by_cases h : a < s.size
        · exact h
        · rw [at_none (by omega)] at hg; cases hg
      have HG := hid hg
      clear hg
      by_cases h13 : b.toNat = 13
      · have d13 : decide (b.toNat = 13) = true := decide_eq_true h13
        have HE : Hid (tka s = ten13 s a l) := hid (by rw [← HR.out, H13, HG.out]; dsimp only; rw [if_pos h13])
        have HC : Hid (∀ W, Calls Tryd.prog 57 #[.string x, .string ⟨#[13, 10]⟩] W fun e w' => e = .returned (.int .i64 (match s.data.toList[a + 1]? with | none => 1 | some y => if y.toNat = 10 then 0 else 2)) ∧ W = w') := hid (fun W => by have h := comesAhead_any x ⟨#[13, 10]⟩ W hxs (by decide); rw [← HX.out, cma_crlf s a b HG.out h13, HX.out] at h; exact h)
        clear HR
        cases hy : s.data.toList[a + 1]? with
        | none =>
          have HN : Hid (tka s = none) := hid (by rw [HE.out, ten13, hy])
          rw [hy] at HC
          clear hy HE
          go_wp2_with fail
          rw [HX.out]
          refine (HC.out _).mono ?_; rintro e w1 ⟨rfl, h1⟩
          have h1 := h1.symm
          subst h1
          go_wp2
          go_ret3
          exact ⟨_, [], 0, 1, rfl, ownK_nil _ _, HB.out, Or.inr (Or.inl ⟨rfl, rfl, HN.out⟩)⟩
        | some y =>
          by_cases hy10 : y.toNat = 10
          · have HN : Hid (tka s = some (some (l, a + 2))) := hid (by rw [HE.out, ten13, hy]; dsimp only; rw [if_pos hy10])
            have hal2 : a + 1 < s.size := by
              by_cases h : a + 1 < s.size
              · exact h
              · rw [at_none (by omega)] at hy; cases hy
            rw [hy] at HC
            dsimp only at HC
            rw [if_pos hy10] at HC
            clear hy HE
            go_wp2_with fail
            rw [HX.out]
            refine (HC.out _).mono ?_; rintro e w1 ⟨rfl, h1⟩
            have h1 := h1.symm
            subst h1
            go_wp2
            go_ret3
            exact ⟨_, l, a + 2, 0, rfl, HO.out, HB.out, Or.inl ⟨rfl, by omega, HN.out⟩⟩
          · have HN : Hid (tka s = some none) := hid (by rw [HE.out, ten13, hy]; dsimp only; rw [if_neg hy10])
            rw [hy] at HC
            dsimp only at HC
            rw [if_neg hy10] at HC
            clear hy HE
            go_wp2_with fail
            rw [HX.out]
            refine (HC.out _).mono ?_; rintro e w1 ⟨rfl, h1⟩
            have h1 := h1.symm
            subst h1
            go_wp2
            go_ret3
            exact ⟨_, [], 0, 2, rfl, ownK_nil _ _, HB.out, Or.inr (Or.inr ⟨rfl, rfl, HN.out⟩)⟩
      · have d13 : decide (b.toNat = 13) = false := decide_eq_false h13
        obtain ⟨f', hf'⟩ : ∃ f', fu = f' + 1 := ⟨fu - 1, by have := HF.out; omega⟩
        subst hf'
        by_cases ha0 : 0 < a
        · have HU0 : Hid (tka s = if b.toNat = 32 then tku s (f' + 1) (a + 1) l else some none) := hid (by rw [← HR.out, h13_cnt (by omega), cnt13, HG.out]; dsimp only; rw [if_neg h13])
          have HC : Hid (∀ W, Calls Tryd.prog 57 #[.string x, .string ⟨#[32]⟩] W fun e w' => e = .returned (.int .i64 (if b.toNat = 32 then 0 else 2)) ∧ W = w') := hid (fun W => by have h := comesAhead_any x ⟨#[32]⟩ W hxs (by decide); rw [← HX.out, cma_blank, HG.out, HX.out] at h; exact h)
          clear HR
          by_cases h32 : b.toNat = 32
          · rw [if_pos h32] at HC
            have HU : Hid (tka s = tku s (f' + 1) (a + 1) l) := hid (by rw [HU0.out, if_pos h32])
            clear HU0
            have hI2 : (0 : Int) ≤ ((a + 1 : Nat) : Int) ∧ ((a + 1 : Nat) : Int) ≤ (s.size : Int) := by omega
            go_wp2_with fail
            rw [HX.out]
            refine (HC.out _).mono ?_; rintro e w1 ⟨rfl, h1⟩
            have h1 := h1.symm
            subst h1
            go_wp2_with fail
            refine (HT.out (a + 1) _ (by omega)).mono ?_; rintro e w1 ⟨kd, t, n, c, rfl, hb, hw⟩
            have B1 := hid (btr HB.out hb)
            have O1 := hid (own_later HO.out hb)
            clear hb
            rcases hw with ⟨rfl, hn, hpn, hw⟩ | ⟨rfl, hw⟩ | ⟨rfl, hw⟩
            · have HR2 : Hid (H13 s f' ((a + 1) + n) (l ++ [(kd, t)]) = tka s) := by
                show _ = _
                rcases hw with hw | ⟨hw, he⟩
                · rw [HU.out, tku_next hw, h13_cnt (by omega)]
                · rw [HU.out, tku_more hw, H13, at_none (by omega)]
              clear hw HU
              have B2 := hid (bpush B1.out (.cells #[.int .i64 kd, .string t] 28))
              have O2 : Hid (OwK (w1.alloc (.cells #[.int .i64 kd, .string t] 28)) w.heap.size u5 l) := World.ownsRow.alloc O1.out _
              have HKN : Hid (Tok (w1.alloc (.cells #[.int .i64 kd, .string t] 28)) w1.heap.size 28 kd t) := Tok.new _ _ _ _
              have HLL : Hid (l.length ≤ 1048576) := by have := HLA.out; show _ ≤ _; omega
              go_upto_region 12 with fail
              obtain ⟨W2, hW2⟩ : ∃ W2, w1.alloc (.cells #[.int .i64 kd, .string t] 28) = W2 := ⟨_, rfl⟩
              rw [hW2] at B2 O2 HKN ⊢
              have HSZ : Hid (w.heap.size ≤ W2.heap.size) := B2.out.size
              clear hW2 B1 O1
              have ck := HKN.out.cells
              have HB7 : Hid (∀ j, Value.ownBlock u5 = some j → w.heap.size ≤ j) := fun j hj => (World.ownsRow.lt O2.out j hj).1
              have B3 := hid (bpush B2.out (.cells #[.int .i64 kd, .string t] 28))
              go_wp2_with (at_builtin; refine wpList_append_tk W2 rfl (.tmp 39) (.tmp 41) rfl w.heap.size _ _ (by rfl) O2.out _ _ rfl HLL.out HSZ.out ?_; rotate_right; intro v4 w4 ho4 hg4; have O4 := hid ho4; have B4 := hid (B3.out.trans (below_grownR hg4 (fun j hj => HB7.out j hj) B3.out.size)); clear ho4 hg4 ck)
              go_roundw
              case rel => exact ⟨(a + 1) + n, f', l ++ [(kd, t)], by go_num, O4.out, B4.out, by omega, by have := HLA.out; simp only [List.length_append, List.length_cons, List.length_nil]; omega, by have := HF.out; show _ < _; omega, HR2.out⟩
              case measure => simp [intOf]; omega
            · have HN : Hid (tka s = none) := hid (by rw [HU.out, tku_more hw])
              clear hw HU
              go_wp2
              go_ret3
              exact ⟨_, [], 0, 1, rfl, ownK_nil _ _, bpush B1.out _, Or.inr (Or.inl ⟨rfl, rfl, HN.out⟩)⟩
            · have HN : Hid (tka s = some none) := hid (by rw [HU.out, tku_bad hw])
              clear hw HU
              go_wp2
              go_ret3
              exact ⟨_, [], 0, 2, rfl, ownK_nil _ _, bpush B1.out _, Or.inr (Or.inr ⟨rfl, rfl, HN.out⟩)⟩
          · rw [if_neg h32] at HC
            have HN : Hid (tka s = some none) := hid (by rw [HU0.out, if_neg h32])
            clear HU0
            go_wp2_with fail
            rw [HX.out]
            refine (HC.out _).mono ?_; rintro e w1 ⟨rfl, h1⟩
            have h1 := h1.symm
            subst h1
            go_wp2
            go_ret3
            exact ⟨_, [], 0, 2, rfl, ownK_nil _ _, HB.out, Or.inr (Or.inr ⟨rfl, rfl, HN.out⟩)⟩
        · have HU : Hid (tka s = tku s (f' + 1) a l) := hid (by rw [← HR.out, H13, HG.out]; dsimp only; rw [if_neg h13, if_pos (by omega)])
          clear HR
          go_wp2_with fail
          refine (HT.out a _ (by omega)).mono ?_; rintro e w1 ⟨kd, t, n, c, rfl, hb, hw⟩
          have B1 := hid (btr HB.out hb)
          have O1 := hid (own_later HO.out hb)
          clear hb
          rcases hw with ⟨rfl, hn, hpn, hw⟩ | ⟨rfl, hw⟩ | ⟨rfl, hw⟩
          · have HR2 : Hid (H13 s f' (a + n) (l ++ [(kd, t)]) = tka s) := by
              show _ = _
              rcases hw with hw | ⟨hw, he⟩
              · rw [HU.out, tku_next hw, h13_cnt (by omega)]
              · rw [HU.out, tku_more hw, H13, at_none (by omega)]
            clear hw HU
            have B2 := hid (bpush B1.out (.cells #[.int .i64 kd, .string t] 28))
            have O2 : Hid (OwK (w1.alloc (.cells #[.int .i64 kd, .string t] 28)) w.heap.size u5 l) := World.ownsRow.alloc O1.out _
            have HKN : Hid (Tok (w1.alloc (.cells #[.int .i64 kd, .string t] 28)) w1.heap.size 28 kd t) := Tok.new _ _ _ _
            have HLL : Hid (l.length ≤ 1048576) := by have := HLA.out; show _ ≤ _; omega
            go_upto_region 12 with fail
            obtain ⟨W2, hW2⟩ : ∃ W2, w1.alloc (.cells #[.int .i64 kd, .string t] 28) = W2 := ⟨_, rfl⟩
            rw [hW2] at B2 O2 HKN ⊢
            have HSZ : Hid (w.heap.size ≤ W2.heap.size) := B2.out.size
            clear hW2 B1 O1
            have ck := HKN.out.cells
            have HB7 : Hid (∀ j, Value.ownBlock u5 = some j → w.heap.size ≤ j) := fun j hj => (World.ownsRow.lt O2.out j hj).1
            have B3 := hid (bpush B2.out (.cells #[.int .i64 kd, .string t] 28))
            go_wp2_with (at_builtin; refine wpList_append_tk W2 rfl (.tmp 39) (.tmp 41) rfl w.heap.size _ _ (by rfl) O2.out _ _ rfl HLL.out HSZ.out ?_; rotate_right; intro v4 w4 ho4 hg4; have O4 := hid ho4; have B4 := hid (B3.out.trans (below_grownR hg4 (fun j hj => HB7.out j hj) B3.out.size)); clear ho4 hg4 ck)
            go_roundw
            case rel => exact ⟨a + n, f', l ++ [(kd, t)], by go_num, O4.out, B4.out, by omega, by have := HLA.out; simp only [List.length_append, List.length_cons, List.length_nil]; omega, by have := HF.out; show _ < _; omega, HR2.out⟩
            case measure => simp [intOf]; omega
          · have HN : Hid (tka s = none) := hid (by rw [HU.out, tku_more hw])
            clear hw HU
            go_wp2
            go_ret3
            exact ⟨_, [], 0, 1, rfl, ownK_nil _ _, bpush B1.out _, Or.inr (Or.inl ⟨rfl, rfl, HN.out⟩)⟩
          · have HN : Hid (tka s = some none) := hid (by rw [HU.out, tku_bad hw])
            clear hw HU
            go_wp2
            go_ret3
            exact ⟨_, [], 0, 2, rfl, ownK_nil _ _, bpush B1.out _, Or.inr (Or.inr ⟨rfl, rfl, HN.out⟩)⟩
/-- What is said first, as the program reads it: no more than 200 bytes are looked at. -/
def irk (s : ByteArray) : Option (Option (List T2 × Nat)) :=
  match tka (s.extract 0 (min s.size 200)) with
  | none => if 200 < s.size then some none else none
  | some none => some none
  | some (some (l, n)) => if l.length = 0 ∨ 8 < l.length then some none else some (some (l, n))
/-- How looking for what is said ends. -/
def Sda (s : ByteArray) (w : World) (e : Ending) (w' : World) : Prop :=
  ∃ (v : Value) (l : List T2) (n : Nat) (c : Int), e = .returned (.tuple #[v, .int .i64 (n : Int), .int .i64 c]) ∧ OwK w' w.heap.size v l ∧ Below w.heap.size w w' ∧
    ((c = 0 ∧ n ≤ s.size ∧ irk s = some (some (l, n))) ∨ (c = 1 ∧ irk s = none) ∨ (c = 2 ∧ irk s = some none))
theorem irk_ok {s p : ByteArray} {l : List T2} {n : Nat} (hp : s.extract 0 (min s.size 200) = p) (h : tka p = some (some (l, n))) : irk s = if l.length = 0 ∨ 8 < l.length then some none else some (some (l, n)) := by rw [irk, hp, h]
theorem irk_bad {s p : ByteArray} (hp : s.extract 0 (min s.size 200) = p) (h : tka p = some none) : irk s = some none := by rw [irk, hp, h]
theorem irk_more {s p : ByteArray} (hp : s.extract 0 (min s.size 200) = p) (h : tka p = none) : irk s = if 200 < s.size then some none else none := by rw [irk, hp, h]
set_option maxHeartbeats 3200000 in
set_option maxRecDepth 100000 in
theorem saidAhead_any (s : ByteArray) (w : World) (hs : s.size ≤ 1048576)
    (hT : ∀ (s : ByteArray) (a : Nat) (W : World), s.size ≤ 1048576 → a ≤ s.size → Calls Tryd.prog 58 #[.string (s.extract a s.size)] W fun e w' => Tka s a W e w') :
    Calls Tryd.prog 26 #[.string s] w fun e w' => Sda s w e w' := by
  obtain ⟨p, hp⟩ : ∃ p, s.extract 0 (min s.size 200) = p := ⟨_, rfl⟩
  have hps : p.size ≤ s.size := by rw [← hp, ByteArray.size_extract]; omega
  have HP := hid hp
  have HT := hid (fun W : World => tokensAhead_any p W (by omega) (fun a W ha => hT p a W (by omega) ha))
  clear hT hp
  have hmin : (min (s.size : Int) 200).toNat = min s.size 200 := by omega
  go_enter Tryd.func26, Tryd.ntmps26
  go_wp2_with fail
  rw [HP.out]
  refine (HT.out _).mono ?_; rintro e w1 ⟨v, l, n, c, rfl, ho, hb, hw⟩
  obtain ⟨va, vc, rfl⟩ := ho.shape
  obtain ⟨N, hN⟩ : ∃ N, l.length = N := ⟨_, rfl⟩
  rw [hN] at ho ⊢
  have HO := hid ho
  have HB := hid hb
  clear ho hb
  rcases hw with ⟨rfl, hn, hw⟩ | ⟨rfl, hl, hw⟩ | ⟨rfl, hl, hw⟩
  · have HR := hid (irk_ok HP.out hw)
    have hns : n ≤ s.size := by omega
    clear hw
    rw [hN] at HR
    clear hN
    by_cases h0 : N = 0
    · subst h0
      have HN : Hid (irk s = some none) := hid (by rw [HR.out, if_pos (Or.inl rfl)])
      clear HR
      go_wp2
      go_ret3
      exact ⟨_, [], 0, 2, rfl, ownK_nil _ _, HB.out, Or.inr (Or.inr ⟨rfl, HN.out⟩)⟩
    · have i0 : ((N : Int) == 0) = false := by rw [beq_eq_false_iff_ne]; omega
      by_cases h8 : 8 < N
      · have i8 : (8 : Int) < (N : Int) := by omega
        have HN : Hid (irk s = some none) := hid (by rw [HR.out, if_pos (Or.inr h8)])
        clear HR
        go_wp2
        go_ret3
        exact ⟨_, [], 0, 2, rfl, ownK_nil _ _, HB.out, Or.inr (Or.inr ⟨rfl, HN.out⟩)⟩
      · have i8 : ¬ (8 : Int) < (N : Int) := by omega
        have HN : Hid (irk s = some (some (l, n))) := hid (by rw [HR.out, if_neg (by omega)])
        clear HR
        go_wp2
        go_ret3
        exact ⟨_, l, n, 0, rfl, HO.out, HB.out, Or.inl ⟨rfl, hns, HN.out⟩⟩
  · have HR := hid (irk_more HP.out hw)
    clear hw hN
    subst hl
    by_cases h2 : 200 < s.size
    · have i2 : (200 : Int) < (s.size : Int) := by omega
      have HN : Hid (irk s = some none) := hid (by rw [HR.out, if_pos h2])
      clear HR
      go_wp2
      go_ret3
      exact ⟨_, [], 0, 2, rfl, ownK_nil _ _, HB.out, Or.inr (Or.inr ⟨rfl, HN.out⟩)⟩
    · have i2 : ¬ (200 : Int) < (s.size : Int) := by omega
      have HN : Hid (irk s = none) := hid (by rw [HR.out, if_neg h2])
      clear HR
      go_wp2
      go_ret3
      exact ⟨_, [], n, 1, rfl, HO.out, HB.out, Or.inr (Or.inl ⟨rfl, HN.out⟩)⟩
  · have HN := hid (irk_bad HP.out hw)
    clear hw hN
    subst hl
    go_wp2
    go_ret3
    exact ⟨_, [], n, 2, rfl, HO.out, HB.out, Or.inr (Or.inr ⟨rfl, HN.out⟩)⟩
/-- How the program's reading of tokens ends. -/
def Irk (s : ByteArray) (w : World) (e : Ending) (w' : World) : Prop :=
  ∃ (v : Value) (l : List T2) (t : ByteArray) (c : Int), e = .returned (.tuple #[v, .string t, .int .i64 c]) ∧ OwK w' w.heap.size v l ∧ Below w.heap.size w w' ∧
    ((c = 0 ∧ ∃ n, t = s.extract n s.size ∧ irk s = some (some (l, n))) ∨ (c = 1 ∧ l = [] ∧ t = s ∧ irk s = none) ∨ (c = 2 ∧ l = [] ∧ t = ⟨(Lib.cut s.data.toList [13, 10]).2.1.toArray⟩ ∧ irk s = some none))
/-- The variable that strings.Cut's search reads. -/
def Mx (w : World) : Prop := ∃ m : Int, w.cell? ⟨0, 0, none⟩ = some (.int .i64 m)
theorem Mx.lt {w : World} (h : Mx w) : 0 < w.heap.size := by
  obtain ⟨m, hm⟩ := h
  rcases Nat.lt_or_ge 0 w.heap.size with h1 | h1
  · exact h1
  · rw [World.cell?, Array.getElem?_eq_none h1] at hm
    cases hm
theorem Mx.upon {w w' : World} (h : Mx w) (hb : Below w.heap.size w w') : Mx w' := by
  have hl := h.lt
  obtain ⟨m, hm⟩ := h
  exact ⟨m, by rw [World.cell?, hb.block _ hl]; exact hm⟩
theorem cut_le (s : ByteArray) : (⟨(Lib.cut s.data.toList [13, 10]).2.1.toArray⟩ : ByteArray).size ≤ s.size := by
  rcases Lib.indexB_cases s ⟨#[13, 10]⟩ with hix | ⟨i, hix, hroom⟩
  · have h := (Lib.cutB_miss s ⟨#[13, 10]⟩ hix).2.1
    rw [show (⟨(Lib.cut s.data.toList [13, 10]).2.1.toArray⟩ : ByteArray) = ByteArray.empty from h]
    exact Nat.zero_le _
  · have h := (Lib.cutB_hit s ⟨#[13, 10]⟩ i hix).2.1
    rw [show (⟨(Lib.cut s.data.toList [13, 10]).2.1.toArray⟩ : ByteArray) = s.extract (i + 2) s.size from h, ByteArray.size_extract]
    omega
set_option maxHeartbeats 3200000 in
set_option maxRecDepth 100000 in
theorem readTokens13_any (s : ByteArray) (w : World) (hs : s.size ≤ 1048576) (hM : Mx w)
    (hT : ∀ (s : ByteArray) (a : Nat) (W : World), s.size ≤ 1048576 → a ≤ s.size → Calls Tryd.prog 58 #[.string (s.extract a s.size)] W fun e w' => Tka s a W e w') :
    Calls Tryd.prog 8 #[.string s] w fun e w' => Irk s w e w' := by
  have HS := hid (fun W : World => saidAhead_any s W hs hT)
  have HM := hid hM
  clear hT hM
  obtain ⟨q, hq⟩ : ∃ q : ByteArray, (⟨(Lib.cut s.data.toList [13, 10]).2.1.toArray⟩ : ByteArray) = q := ⟨_, rfl⟩
  have hqs : q.size ≤ s.size := by rw [← hq]; exact cut_le s
  have HQ := hid hq
  have HC : Hid (∀ W, Mx W → Calls Tryd.prog 27 #[.string s, .string ⟨#[13, 10]⟩] W fun e w' => (∃ x y, e = .returned (.tuple #[.string x, .string q, .bool y])) ∧ ∃ n, w' = W.drewN n) := hid (fun W ⟨m, hm⟩ => by
    refine (Tryd.strings_Cut s ⟨#[13, 10]⟩ m W (by omega) hm).mono ?_
    rintro e w' ⟨rfl, hn⟩
    exact ⟨⟨_, _, by rw [← hq]⟩, hn⟩)
  clear hq
  go_enter Tryd.func8, Tryd.ntmps8
  go_wp2_with fail
  refine (HS.out _).mono ?_; rintro e w1 ⟨v, l, n, c, rfl, ho, hb, hw⟩
  have HO := hid ho
  have HB := hid hb
  have HM1 := hid (HM.out.upon hb)
  clear ho hb HM
  rcases hw with ⟨rfl, hn, hw⟩ | ⟨rfl, hw⟩ | ⟨rfl, hw⟩
  · have HW := hid hw
    clear hw
    have hI : (0 : Int) ≤ (n : Int) ∧ (n : Int) ≤ (s.size : Int) := by omega
    obtain ⟨t, ht⟩ : ∃ t, s.extract n s.size = t := ⟨_, rfl⟩
    have hts : t.size ≤ 1048576 := by rw [← ht, ByteArray.size_extract]; omega
    have HTT := hid ht
    clear ht
    go_wp2_with fail
    rw [HTT.out]
    refine (clone_any t _ hts).mono ?_; rintro e w2 ⟨rfl, hb2⟩
    have HB2 := hid (btr HB.out hb2)
    have HO2 := hid (own_later HO.out hb2)
    clear hb2
    go_wp2
    go_ret3
    exact ⟨_, l, t, 0, rfl, HO2.out, HB2.out, Or.inl ⟨rfl, n, HTT.out.symm, HW.out⟩⟩
  · have HW := hid hw
    clear hw
    go_wp2_with fail
    refine (clone_any s _ hs).mono ?_; rintro e w2 ⟨rfl, hb2⟩
    have HB2 := hid (btr HB.out hb2)
    clear hb2
    go_wp2
    go_ret3
    exact ⟨_, [], s, 1, rfl, ownK_nil _ _, HB2.out, Or.inr (Or.inl ⟨rfl, rfl, rfl, HW.out⟩)⟩
  · have HW := hid hw
    clear hw
    go_wp2_with fail
    refine (HC.out _ HM1.out).mono ?_; rintro e w2 ⟨⟨x, y, rfl⟩, k, rfl⟩
    have HB2 := hid (bdn13 HB.out k)
    go_wp2_with fail
    refine (clone_any q _ (by omega)).mono ?_; rintro e w3 ⟨rfl, hb3⟩
    have HB3 := hid (btr HB2.out hb3)
    clear hb3
    go_wp2
    go_ret3
    exact ⟨_, [], q, 2, rfl, ownK_nil _ _, HB3.out, Or.inr (Or.inr ⟨rfl, rfl, HQ.out.symm, HW.out⟩)⟩
theorem implDecimal_small (n : Nat) (w : World) (hn : n < 100) :
    Calls Tryd.prog 25 #[.int .i64 (n : Int)] w fun e w' => e = .returned (.string ⟨(dg n).toArray⟩) ∧ w' = w := by
  go_enter Tryd.func25, Tryd.ntmps25
  go_wp2_with fail
  refine (Tryd.strconv_Itoa_small n hn _).mono ?_; rintro e w1 ⟨rfl, h1⟩
  subst h1
  go_wp2
  go_ret
  exact ⟨rfl, rfl⟩
set_option maxHeartbeats 1600000 in
set_option maxRecDepth 100000 in
theorem implTokenText_any (kd : Int) (t : ByteArray) (w : World) (hk : okt (kd, t)) :
    Calls Tryd.prog 7 #[.agg #[.int .i64 kd, .string t]] w fun e w' => e = .returned (.string (ttx kd t)) ∧ Below w.heap.size w w' := by
  have ht := okt_size hk
  obtain ⟨W0, hW0⟩ : ∃ W0, w.alloc (.cells #[.int .i64 kd, .string t] 28) = W0 := ⟨_, rfl⟩
  have k0 : Tok W0 w.heap.size 28 kd t := by subst hW0; exact Tok.new w _ kd t
  have b0 : Below w.heap.size w W0 := by subst hW0; exact bpush (bre _) _
  have K0 := hid k0
  have B0 := hid b0
  have c0 := k0.cells
  clear k0 b0
  rcases hk with ⟨h1, ha⟩ | ⟨h1, hz⟩
  · dsimp only at h1
    subst h1
    have HA : Hid (ttx 1 t = t) := hid rfl
    rw [HA.out]
    clear ha
    go_enter Tryd.func7, Tryd.ntmps7
    go_wp2_with fail
    refine (clone_any t _ (by omega)).mono ?_; rintro e w2 ⟨rfl, hb2⟩
    have HB2 := hid (btr B0.out hb2)
    clear hb2
    go_wp2
    go_ret
    exact ⟨rfl, HB2.out⟩
  · dsimp only at h1
    subst h1
    by_cases hq : qok t = true
    · have HQ : Hid (ttx 2 t = qtx t) := hid (by rw [ttx, if_neg (by decide), if_pos hq])
      have HR := hid (qtR_yes hq)
      rw [HQ.out]
      clear hq
      go_enter Tryd.func7, Tryd.ntmps7
      go_wp2_with fail
      refine (implQuote_any t _ (by omega)).mono ?_; rintro e w2 ⟨rfl, hb2⟩
      have HB2 := hid (btr B0.out hb2)
      clear hb2
      rw [HR.out]
      go_wp2
      go_ret
      exact ⟨rfl, HB2.out⟩
    · have HQ : Hid (ttx 2 t = (⟨#[123]⟩ ++ ⟨(dg t.size).toArray⟩) ++ ⟨#[125, 13, 10]⟩ ++ t) := hid (by rw [ttx, if_neg (by decide), if_neg hq])
      have HR := hid (qtR_no hq)
      rw [HQ.out]
      clear hq
      go_enter Tryd.func7, Tryd.ntmps7
      go_wp2_with fail
      refine (implQuote_any t _ (by omega)).mono ?_; rintro e w2 ⟨rfl, hb2⟩
      have HB2 := hid (btr B0.out hb2)
      have HS : Hid (∀ W, Below w2.heap.size w2 W → W.cell? ⟨w.heap.size, 1, none⟩ = some (.string t)) := hid (fun W h => ((K0.out.later hb2).later h).cells.2)
      clear hb2
      rw [HR.out]
      clear hW0
      have hdl : (dg t.size).length ≤ 13 := dg_len 12 t.size (by omega)
      obtain ⟨D, hD⟩ : ∃ D : ByteArray, (⟨(dg t.size).toArray⟩ : ByteArray) = D := ⟨_, rfl⟩
      have hds : D.size ≤ 13 := by
        rw [← hD]
        show (dg t.size).toArray.size ≤ _
        rw [List.size_toArray]
        exact hdl
      have HD := hid hD
      clear hdl hD
      have f1 : (1 + D.size > 9223372036854775807) = False := eq_false (by omega)
      have f2 : (1 + D.size + 3 > 9223372036854775807) = False := eq_false (by omega)
      have f3 : (1 + D.size + 3 + t.size > 9223372036854775807) = False := eq_false (by omega)
      go_wp2_with fail
      go_region_held3 (fun W => W.cell? ⟨w.heap.size, 1, none⟩ = some (.string t))
        ((refine HS.out _ ?_; repeat (first | exact bre _ | exact P2.out | refine bdr ?_ | refine btr ?_ (by assumption))))
        ((go_at_call 25; refine (implDecimal_small t.size _ (by omega)).mono ?_; rintro e w3 ⟨rfl, h3⟩; rw [HD.out]; subst h3))
      go_wp2
      go_ret
      exact ⟨by rw [HD.out]; rfl, bdr HB2.out⟩
/-- Alike, or the first one asks for more and what the second one reads does not end ahead of m. -/
def Ag {β : Type} (m : Nat) (X Y : Option (Option (β × Nat))) : Prop := X = Y ∨ (X = none ∧ ∀ b n, Y = some (some (b, n)) → m ≤ n)
theorem pre_get {s : ByteArray} {m i : Nat} (_hm : m ≤ s.size) (hi : i < m) : (s.extract 0 m).data.toList[i]? = s.data.toList[i]? := by
  rw [ByteArray.data_extract, Array.toList_extract, List.extract_eq_take_drop, List.drop_zero, Nat.sub_zero, List.getElem?_take, if_pos hi]
theorem pre_none {s : ByteArray} {m i : Nat} (hi : m ≤ i) : (s.extract 0 m).data.toList[i]? = none := by
  rw [ByteArray.data_extract, Array.toList_extract, List.extract_eq_take_drop, List.drop_zero, Nat.sub_zero, List.getElem?_take, if_neg (by omega)]
theorem pre_size {s : ByteArray} {m : Nat} (hm : m ≤ s.size) : (s.extract 0 m).size = m := by rw [ByteArray.size_extract]; omega
theorem pre_cut {s : ByteArray} {m a n : Nat} (hn : n ≤ m) : (s.extract 0 m).extract a n = s.extract a n := by
  apply ba_ext13
  simp only [ByteArray.data_extract, Array.toList_extract, List.extract_eq_take_drop, List.drop_zero, Nat.sub_zero]
  rw [List.drop_take, List.take_take]
  congr 1
  omega
theorem qd_none {s : ByteArray} {f a : Nat} {acc : List UInt8} (h : s.data.toList[a]? = none) : qd s f a acc = none := by
  cases f with
  | zero => rfl
  | succ f => rw [qd, h]
theorem ltd_none13 {s : ByteArray} {f a n g : Nat} (h : s.data.toList[a]? = none) : ltd s f a n g = none := by
  cases f with
  | zero => rfl
  | succ f => rw [ltd, h]
theorem aen_none13 {s : ByteArray} {f a : Nat} (h : s.data.toList[a]? = none) : aen s f a = none := by
  cases f with
  | zero => rfl
  | succ f => rw [aen, h]
theorem qd_pre {s : ByteArray} {m : Nat} (hm : m ≤ s.size) : ∀ (f f' a : Nat) (acc : List UInt8), m < a + f' → s.size < a + f → Ag m (qd (s.extract 0 m) f' a acc) (qd s f a acc)
  | 0, f', a, acc, _, h => .inl (qd_none (pre_none (by omega)))
  | f + 1, f', a, acc, h', h => by
    by_cases ha : m ≤ a
    · exact .inr ⟨qd_none (pre_none ha), fun b n hn => Nat.le_trans ha (qd_ge _ _ _ _ _ hn)⟩
    · obtain ⟨g, rfl⟩ : ∃ g, f' = g + 1 := ⟨f' - 1, by omega⟩
      rw [qd, qd, pre_get hm (by omega)]
      cases hx : s.data.toList[a]? with
      | none => exact .inl rfl
      | some b =>
        dsimp only
        split
        · exact .inl rfl
        · split
          · by_cases ha1 : m ≤ a + 1
            · rw [pre_none ha1]
              refine .inr ⟨rfl, fun t n hn => ?_⟩
              split at hn
              · cases hn
              · split at hn
                · split at hn
                  · cases hn
                  · have := qd_ge _ _ _ _ _ hn; omega
                · cases hn
            · rw [pre_get hm (by omega)]
              split
              · exact .inl rfl
              · split
                · split
                  · exact .inl rfl
                  · exact qd_pre hm f g (a + 2) _ (by omega) (by omega)
                · exact .inl rfl
          · split
            · exact .inl rfl
            · split
              · exact .inl rfl
              · exact qd_pre hm f g (a + 1) _ (by omega) (by omega)
theorem ltd_pre {s : ByteArray} {m : Nat} (hm : m ≤ s.size) : ∀ (f f' a n g : Nat), m < a + f' → s.size < a + f → ltd (s.extract 0 m) f' a n g = ltd s f a n g ∨ (ltd (s.extract 0 m) f' a n g = none ∧ ∀ x y b, ltd s f a n g = some (some (x, y, b)) → m ≤ b)
  | 0, f', a, n, g, _, h => .inl (ltd_none13 (pre_none (by omega)))
  | f + 1, f', a, n, g, h', h => by
    by_cases ha : m ≤ a
    · exact .inr ⟨ltd_none13 (pre_none ha), fun x y b hn => Nat.le_trans ha (ltd_ge _ _ _ _ _ _ _ hn)⟩
    · obtain ⟨k, rfl⟩ : ∃ k, f' = k + 1 := ⟨f' - 1, by omega⟩
      rw [ltd, ltd, pre_get hm (by omega)]
      cases hx : s.data.toList[a]? with
      | none => exact .inl rfl
      | some b =>
        dsimp only
        split
        · exact .inl rfl
        · split
          · exact .inl rfl
          · exact ltd_pre hm f k (a + 1) _ _ (by omega) (by omega)
theorem aen_pre {s : ByteArray} {m : Nat} (hm : m ≤ s.size) : ∀ (f f' a : Nat), m < a + f' → s.size < a + f → aen (s.extract 0 m) f' a = aen s f a ∨ (aen (s.extract 0 m) f' a = none ∧ ∀ n, aen s f a = some n → m ≤ n)
  | 0, f', a, _, h => .inl (aen_none13 (pre_none (by omega)))
  | f + 1, f', a, h', h => by
    by_cases ha : m ≤ a
    · exact .inr ⟨aen_none13 (pre_none ha), fun n hn => Nat.le_trans ha (aen_ge _ _ _ hn)⟩
    · obtain ⟨k, rfl⟩ : ∃ k, f' = k + 1 := ⟨f' - 1, by omega⟩
      rw [aen, aen, pre_get hm (by omega)]
      cases hx : s.data.toList[a]? with
      | none => exact .inl rfl
      | some b =>
        dsimp only
        split
        · exact aen_pre hm f k (a + 1) (by omega) (by omega)
        · exact .inl rfl
theorem aen_lt {s : ByteArray} : ∀ (f a n : Nat), aen s f a = some n → n < s.size
  | 0, _, _, h => by rw [aen] at h; cases h
  | f + 1, a, n, h => by
    rw [aen] at h
    cases hx : s.data.toList[a]? with
    | none => rw [hx] at h; cases h
    | some b =>
      rw [hx] at h
      dsimp only at h
      split at h
      · exact aen_lt f _ _ h
      · simp only [Option.some.injEq] at h
        subst h
        by_cases ha : a < s.size
        · exact ha
        · rw [at_none (by omega)] at hx; cases hx
theorem ard_pre {s : ByteArray} {m : Nat} (hm : m ≤ s.size) (a : Nat) : Ag m (ard (s.extract 0 m) a) (ard s a) := by
  rw [ard, ard]
  rcases aen_pre hm (s.size + 1) ((s.extract 0 m).size + 1) a (by rw [pre_size hm]; omega) (by omega) with h | ⟨h, h2⟩
  · rw [← h]
    cases hx : aen (s.extract 0 m) ((s.extract 0 m).size + 1) a with
    | none => exact .inl rfl
    | some n =>
      have hl := aen_lt _ _ _ hx
      rw [pre_size hm] at hl
      dsimp only
      rw [pre_cut (by omega)]
      exact .inl rfl
  · rw [h]
    refine .inr ⟨rfl, fun b n hn => ?_⟩
    cases hx : aen s (s.size + 1) a with
    | none => rw [hx] at hn; cases hn
    | some k =>
      rw [hx] at hn
      dsimp only at hn
      split at hn
      · simp only [Option.some.injEq, Prod.mk.injEq] at hn
        have := h2 _ hx
        omega
      · cases hn
theorem lte_pre {s : ByteArray} {m : Nat} (hm : m ≤ s.size) (k a : Nat) : Ag m (lte (s.extract 0 m) k a) (lte s k a) := by
  by_cases ha : m ≤ a
  · refine .inr ⟨by rw [lte, pre_none ha], fun b n hn => ?_⟩
    have := lte_ge hn
    omega
  · rw [lte, lte, pre_get hm (by omega)]
    cases hx : s.data.toList[a]? with
    | none => exact .inl rfl
    | some x =>
      dsimp only
      split
      · by_cases ha1 : m ≤ a + 1
        · rw [pre_none ha1]
          refine .inr ⟨rfl, fun b n hn => ?_⟩
          split at hn
          · cases hn
          · split at hn
            · split at hn
              · cases hn
              · simp only [Option.some.injEq, Prod.mk.injEq] at hn; omega
            · cases hn
        · rw [pre_get hm (by omega), pre_size hm]
          split
          · exact .inl rfl
          · split
            · by_cases hz : m < a + 2 + k
              · rw [if_pos hz]
                refine .inr ⟨rfl, fun b n hn => ?_⟩
                split at hn
                · cases hn
                · simp only [Option.some.injEq, Prod.mk.injEq] at hn; omega
              · rw [if_neg hz, if_neg (by omega), pre_cut (by omega)]
                exact .inl rfl
            · exact .inl rfl
      · exact .inl rfl
theorem lrd_pre {s : ByteArray} {m : Nat} (hm : m ≤ s.size) (a : Nat) : Ag m (lrd (s.extract 0 m) a) (lrd s a) := by
  rw [lrd, lrd]
  rcases ltd_pre hm (s.size + 1) ((s.extract 0 m).size + 1) (a + 1) 0 0 (by rw [pre_size hm]; omega) (by omega) with h | ⟨h, h2⟩
  · rw [← h]
    split
    · exact .inl rfl
    · exact .inl rfl
    · split
      · exact .inl rfl
      · exact lte_pre hm _ _
  · rw [h]
    refine .inr ⟨rfl, fun b n hn => ?_⟩
    split at hn
    · cases hn
    · cases hn
    · rename_i x y z hx
      have := h2 _ _ _ hx
      split at hn
      · cases hn
      · have := lte_ge hn
        omega
theorem tkm_pre {m : Nat} {kd : Int} {X Y : Option (Option (ByteArray × Nat))} (h : Ag m X Y) : Ag m (tkm kd X) (tkm kd Y) := by
  rcases h with rfl | ⟨rfl, h⟩
  · exact .inl rfl
  · refine .inr ⟨rfl, fun b n hn => ?_⟩
    obtain ⟨kd', t⟩ := b
    exact h t n (tkm_some hn)
theorem tkn_pre {s : ByteArray} {m : Nat} (hm : m ≤ s.size) (a : Nat) : Ag m (tkn (s.extract 0 m) a) (tkn s a) := by
  by_cases ha : m ≤ a
  · refine .inr ⟨by rw [tkn, pre_none ha], fun b n hn => ?_⟩
    obtain ⟨kd, t⟩ := b
    have := tkn_ge hn
    omega
  · rw [tkn, tkn, pre_get hm (by omega)]
    cases hx : s.data.toList[a]? with
    | none => exact .inl rfl
    | some b =>
      dsimp only
      split
      · exact tkm_pre (qd_pre hm _ _ _ _ (by rw [pre_size hm]; omega) (by omega))
      · split
        · exact tkm_pre (lrd_pre hm a)
        · exact tkm_pre (ard_pre hm a)
theorem tku_none {s : ByteArray} {f a : Nat} {l : List T2} (h : s.data.toList[a]? = none) : tku s f a l = none := tku_more (by rw [tkn, h])
theorem tkn_le {s : ByteArray} {a n : Nat} {x : T2} (h : tkn s a = some (some (x, n))) : a ≤ n := by
  obtain ⟨kd, t⟩ := x
  exact tkn_ge h
/-- Where what is read ends, and how much it is. -/
theorem tku_le {s : ByteArray} : ∀ (f a : Nat) (l L : List T2) (n : Nat), tku s f a l = some (some (L, n)) → a ≤ n ∧ n ≤ s.size ∧ l.length < L.length
  | 0, _, _, _, _, h => by rw [tku] at h; cases h
  | f + 1, a, l, L, n, h => by
    rw [tku] at h
    split at h
    · cases h
    · cases h
    · rename_i x n1 hx
      have h1 := tkn_le hx
      split at h
      · cases h
      · rename_i b hb
        split at h
        · split at h
          · cases h
          · rename_i y hy
            split at h
            · simp only [Option.some.injEq, Prod.mk.injEq] at h
              obtain ⟨rfl, rfl⟩ := h
              have hl : n1 + 1 < s.size := by
                by_cases hc : n1 + 1 < s.size
                · exact hc
                · rw [at_none (by omega)] at hy; cases hy
              exact ⟨by omega, by omega, by simp⟩
            · cases h
        · split at h
          · have := tku_le f _ _ _ _ h
            rw [List.length_append] at this
            exact ⟨by omega, this.2.1, by omega⟩
          · cases h
theorem tku_pre {s : ByteArray} {m : Nat} (hm : m ≤ s.size) : ∀ (f f' a : Nat) (l : List T2), m < a + f' → s.size < a + f → tku (s.extract 0 m) f' a l = tku s f a l ∨ (tku (s.extract 0 m) f' a l = none ∧ ∀ L n, tku s f a l = some (some (L, n)) → m < n)
  | 0, f', a, l, _, h => .inl (tku_none (pre_none (by omega)))
  | f + 1, f', a, l, h', h => by
    by_cases ha : m < a
    · exact .inr ⟨tku_none (pre_none (by omega)), fun L n hn => by have := (tku_le _ _ _ _ _ hn).1; omega⟩
    · obtain ⟨g, rfl⟩ : ∃ g, f' = g + 1 := ⟨f' - 1, by omega⟩
      rw [tku, tku]
      rcases tkn_pre hm a with e | ⟨e, e2⟩
      · rw [e]
        cases hx : tkn s a with
        | none => exact .inl rfl
        | some r =>
          cases r with
          | none => exact .inl rfl
          | some q =>
            obtain ⟨x, n1⟩ := q
            have h1 := tkn_le hx
            dsimp only
            by_cases hn1 : m ≤ n1
            · rw [pre_none hn1]
              refine .inr ⟨rfl, fun L n hn => ?_⟩
              split at hn
              · cases hn
              · split at hn
                · split at hn
                  · cases hn
                  · split at hn
                    · simp only [Option.some.injEq, Prod.mk.injEq] at hn; omega
                    · cases hn
                · split at hn
                  · have := (tku_le _ _ _ _ _ hn).1; omega
                  · cases hn
            · rw [pre_get hm (by omega)]
              cases hb : s.data.toList[n1]? with
              | none => exact .inl rfl
              | some b =>
                dsimp only
                split
                · by_cases hn2 : m ≤ n1 + 1
                  · rw [pre_none hn2]
                    refine .inr ⟨rfl, fun L n hn => ?_⟩
                    split at hn
                    · cases hn
                    · split at hn
                      · simp only [Option.some.injEq, Prod.mk.injEq] at hn; omega
                      · cases hn
                  · rw [pre_get hm (by omega)]
                    exact .inl rfl
                · split
                  · exact tku_pre hm f g (n1 + 1) _ (by omega) (by omega)
                  · exact .inl rfl
      · rw [e]
        refine .inr ⟨rfl, fun L n hn => ?_⟩
        cases hx : tkn s a with
        | none => rw [hx] at hn; cases hn
        | some r =>
          cases r with
          | none => rw [hx] at hn; cases hn
          | some q =>
            obtain ⟨x, n1⟩ := q
            have h1 := e2 _ _ hx
            rw [hx] at hn
            dsimp only at hn
            split at hn
            · cases hn
            · split at hn
              · split at hn
                · cases hn
                · split at hn
                  · simp only [Option.some.injEq, Prod.mk.injEq] at hn; omega
                  · cases hn
              · split at hn
                · have := (tku_le _ _ _ _ _ hn).1; omega
                · cases hn
/-- With the model's limit, and without. -/
theorem tks_tku {s : ByteArray} : ∀ (f fu a : Nat) (l : List T2), l.length + f = 9 → l.length ≤ 8 → s.size < a + fu →
    (tks s f a l = none → tku s fu a l = none) ∧ (∀ L n, tks s f a l = some (some (L, n)) → tku s fu a l = some (some (L, n)) ∧ L.length ≤ 8) ∧ (tks s f a l = some none → tku s fu a l = some none ∨ tku s fu a l = none ∨ ∃ L n, tku s fu a l = some (some (L, n)) ∧ 8 < L.length)
  | 0, _, _, l, h, h8, _ => by omega
  | f + 1, 0, a, l, h, h8, hf => by
    have hx : tkn s a = none := by rw [tkn, at_none (by omega)]
    rw [tks, tku, hx]
    exact ⟨fun _ => rfl, (fun L n h => by cases h), (fun h => by cases h)⟩
  | f + 1, fu + 1, a, l, h, h8, hf => by
    rw [tks, tku]
    cases hx : tkn s a with
    | none => exact ⟨fun _ => rfl, (fun L n h => by cases h), (fun h => by cases h)⟩
    | some r =>
      cases r with
      | none => exact ⟨(fun h => by cases h), (fun L n h => by cases h), fun _ => .inl rfl⟩
      | some q =>
        obtain ⟨x, n1⟩ := q
        have h1 := tkn_le hx
        dsimp only
        have hll : (l ++ [x]).length = l.length + 1 := by simp
        by_cases hbig : 8 < (l ++ [x]).length
        · rw [if_pos hbig]
          refine ⟨(fun h => by cases h), (fun L n h => by cases h), fun _ => ?_⟩
          cases hb : s.data.toList[n1]? with
          | none => exact .inr (.inl rfl)
          | some b =>
            dsimp only
            split
            · split
              · exact .inr (.inl rfl)
              · split
                · exact .inr (.inr ⟨_, _, rfl, hbig⟩)
                · exact .inl rfl
            · split
              · cases hy : tku s fu (n1 + 1) (l ++ [x]) with
                | none => exact .inr (.inl rfl)
                | some r =>
                  cases r with
                  | none => exact .inl rfl
                  | some q =>
                    obtain ⟨L, n⟩ := q
                    have := (tku_le _ _ _ _ _ hy).2.2
                    exact .inr (.inr ⟨L, n, rfl, by omega⟩)
              · exact .inl rfl
        · rw [if_neg hbig]
          cases hb : s.data.toList[n1]? with
          | none => exact ⟨fun _ => rfl, (fun L n h => by cases h), (fun h => by cases h)⟩
          | some b =>
            dsimp only
            by_cases h13 : b.toNat = 13
            · rw [if_pos h13, if_pos h13]
              cases hy : s.data.toList[n1 + 1]? with
              | none => exact ⟨fun _ => rfl, (fun L n h => by cases h), (fun h => by cases h)⟩
              | some y =>
                dsimp only
                by_cases h10 : y.toNat = 10
                · rw [if_pos h10]
                  refine ⟨(fun h => by cases h), (fun L n h => ?_), (fun h => by cases h)⟩
                  simp only [Option.some.injEq, Prod.mk.injEq] at h
                  obtain ⟨rfl, rfl⟩ := h
                  exact ⟨rfl, by omega⟩
                · rw [if_neg h10]
                  exact ⟨(fun h => by cases h), (fun L n h => by cases h), fun _ => .inl rfl⟩
            · rw [if_neg h13, if_neg h13]
              by_cases h32 : b.toNat = 32
              · rw [if_pos h32, if_pos h32]
                exact tks_tku f fu (n1 + 1) (l ++ [x]) (by omega) (by omega) (by omega)
              · rw [if_neg h32, if_neg h32]
                exact ⟨(fun h => by cases h), (fun L n h => by cases h), fun _ => .inl rfl⟩
theorem occ_two (s : List UInt8) (i : Nat) : Lib.occAt s [13, 10] i = (match s[i]?, s[i + 1]? with | some x, some y => decide (x.toNat = 13 ∧ y.toNat = 10) | _, _ => false) := by
  unfold Lib.occAt
  cases h : s[i]? with
  | none => rw [drop_none h]; rfl
  | some x =>
    rw [drop_get h]
    cases h2 : s[i + 1]? with
    | none => rw [drop_none h2]; simp [List.isPrefixOf]
    | some y =>
      rw [drop_get h2]
      have e1 := u8_iff x 13 (by omega)
      have e2 := u8_iff y 10 (by omega)
      have e1' : ((13 : UInt8) == x) = decide (x.toNat = 13) := by
        by_cases hc : x.toNat = 13
        · rw [e1.2 hc]; rfl
        · rw [decide_eq_false hc, beq_eq_false_iff_ne]; exact fun e => hc (e1.1 e.symm)
      have e2' : ((10 : UInt8) == y) = decide (y.toNat = 10) := by
        by_cases hc : y.toNat = 10
        · rw [e2.2 hc]; rfl
        · rw [decide_eq_false hc, beq_eq_false_iff_ne]; exact fun e => hc (e2.1 e.symm)
      simp only [List.isPrefixOf, Bool.and_true, e1', e2', Bool.decide_and]
theorem eln_from {s : ByteArray} (X : ByteArray) (hX : ∀ i, (∀ j, j < i → Lib.occAt s.data.toList [13, 10] j = false) → i ≤ s.size → Lib.occAt s.data.toList [13, 10] i = true → X = s.extract (i + 2) s.size) (hN : (∀ j, j ≤ s.size → Lib.occAt s.data.toList [13, 10] j = false) → X = ⟨#[]⟩) :
    ∀ (f i : Nat), (∀ j, j < i → Lib.occAt s.data.toList [13, 10] j = false) → i ≤ s.size → s.size < i + f → eln s f i = X
  | 0, i, _, h, h2 => by omega
  | f + 1, i, hj, hi, hf => by
    rw [eln]
    have ho := occ_two s.data.toList i
    have hout : s.size ≤ i + 1 → Lib.occAt s.data.toList [13, 10] i = false → X = ⟨#[]⟩ := fun h1 h2 => hN (fun j hjl => by
      rcases Nat.lt_trichotomy j i with h | h | h
      · exact hj j h
      · rw [h]; exact h2
      · have : j = i + 1 := by omega
        subst this
        rw [occ_two, at_none (by omega)])
    by_cases h2 : i + 1 < s.size
    · rw [at_get (by omega), at_get h2] at ho ⊢
      dsimp only at ho ⊢
      by_cases hc : s[i].toNat = 13 ∧ s[i + 1].toNat = 10
      · rw [if_pos hc]
        rw [decide_eq_true hc] at ho
        exact (hX i hj hi ho).symm
      · rw [if_neg hc]
        rw [decide_eq_false hc] at ho
        refine eln_from X hX hN f (i + 1) (fun j hjl => ?_) (by omega) (by omega)
        rcases Nat.lt_or_ge j i with h | h
        · exact hj j h
        · obtain rfl : j = i := by omega
          exact ho
    · rw [at_none (s := s) (a := i + 1) (by omega)] at ho ⊢
      have hf2 : Lib.occAt s.data.toList [13, 10] i = false := by rw [ho]; split <;> first | rfl | (rename_i h; cases h)
      have := hout (by omega) hf2
      rw [this]
      split
      · rename_i h; cases h
      · rfl
theorem cut_eln (s : ByteArray) : (⟨(Lib.cut s.data.toList [13, 10]).2.1.toArray⟩ : ByteArray) = eln s (s.size + 1) 0 := by
  symm
  refine eln_from _ ?_ ?_ _ _ (fun j h => by omega) (by omega) (by omega)
  · intro i hj hi ho
    have h := Lib.index_first (s := s.data.toList) (sub := [13, 10]) (i := i) (by rw [dat_len]; exact hi) ho hj
    exact (Lib.cutB_hit s ⟨#[13, 10]⟩ i h).2.1
  · intro hj
    rcases Lib.index_spec s.data.toList [13, 10] with ⟨h, _⟩ | ⟨i, h, hi, ho, _⟩
    · exact (Lib.cutB_miss s ⟨#[13, 10]⟩ h).2.1
    · rw [dat_len] at hi
      rw [hj i hi] at ho
      cases ho
/-- Neither a 13 alone, nor more than eight tokens without an end. -/
def good13 (s : ByteArray) : Prop := s ≠ ⟨#[13]⟩ ∧ ¬ (tks s 9 0 [] = some none ∧ tku s (s.size + 1) 0 [] = none)
theorem tkn_cr {s : ByteArray} {a : Nat} {b : UInt8} (h : s.data.toList[a]? = some b) (hb : b.toNat = 13) : tkn s a = some none := by
  have hb2 : b = 13 := (u8_iff b 13 (by omega)).2 hb
  subst hb2
  rw [tkn, h]
  dsimp only
  rw [if_neg (by decide), if_neg (by decide), ard, aen, h]
  dsimp only
  rw [if_neg (by decide)]
  dsimp only
  have : s.extract a a = ⟨#[]⟩ := by
    apply ba_ext13
    simp
  rw [this, if_neg (by decide)]
  rfl
theorem irk_tku {s : ByteArray} {b : UInt8} (h : s.data.toList[0]? = some b) (hb : ¬ b.toNat = 13) (hs : 0 < s.size) : tka (s.extract 0 (min s.size 200)) = tku (s.extract 0 (min s.size 200)) (min s.size 200 + 1) 0 [] := by
  rw [tka, pre_get (by omega) (by omega), h]
  dsimp only
  rw [if_neg hb, pre_size (by omega)]
theorem irk_cr {s : ByteArray} {b : UInt8} (h : s.data.toList[0]? = some b) (hb : b.toNat = 13) (hs : s ≠ ⟨#[13]⟩) : irk s = some none := by
  have h0 : 0 < s.size := by
    by_cases hc : 0 < s.size
    · exact hc
    · rw [at_none (by omega)] at h; cases h
  have hm : min s.size 200 ≤ s.size := by omega
  have hk : tka (s.extract 0 (min s.size 200)) = ten13 (s.extract 0 (min s.size 200)) 0 [] := by
    rw [tka, pre_get hm (by omega), h]
    dsimp only
    rw [if_pos hb]
  have h1 : 1 < min s.size 200 := by
    by_cases hc : 1 < s.size
    · omega
    · exfalso
      apply hs
      apply ba_ext13
      have hl := dat_len s
      have hb2 : b = 13 := (u8_iff b 13 (by omega)).2 hb
      subst hb2
      rcases hd : s.data.toList with _ | ⟨x, _ | ⟨y, L⟩⟩
      · rw [hd] at h; cases h
      · rw [hd] at h
        simp only [List.getElem?_cons_zero, Option.some.injEq] at h
        rw [h]
      · rw [hd] at hl
        simp only [List.length_cons] at hl
        omega
  rw [irk, hk, ten13, pre_get hm (by omega), at_get (show 0 + 1 < s.size by omega)]
  dsimp only
  split
  · rename_i he; split at he <;> cases he
  · rfl
  · rename_i he
    split at he
    · simp only [Option.some.injEq, Prod.mk.injEq] at he
      obtain ⟨rfl, rfl⟩ := he
      rfl
    · cases he
theorem irk_rtk {s : ByteArray} (hg : good13 s) : (∀ l n, irk s = some (some (l, n)) → rtk s = (l, s.extract n s.size, 0)) ∧ (irk s = none → rtk s = ([], s, 1)) ∧ (irk s = some none → rtk s = ([], eln s (s.size + 1) 0, 2)) := by
  obtain ⟨hg1, hg2⟩ := hg
  have hm : min s.size 200 ≤ s.size := by omega
  cases h : s.data.toList[0]? with
  | none =>
    have h0 : ¬ 0 < s.size := fun hc => by rw [at_get hc] at h; cases h
    have hk : irk s = none := by
      rw [irk, tka, pre_none (by omega)]
      dsimp only
      rw [if_neg (by omega)]
    have ht : tks s 9 0 [] = none := by rw [tks, tkn, h]
    rw [hk]
    exact ⟨(fun l n h => by cases h), fun _ => (by rw [rtk_none ht, if_pos (by omega)]), (fun h => by cases h)⟩
  | some b =>
    have h0 : 0 < s.size := by
      by_cases hc : 0 < s.size
      · exact hc
      · rw [at_none (by omega)] at h; cases h
    by_cases hb : b.toNat = 13
    · have hk := irk_cr h hb hg1
      have ht : tks s 9 0 [] = some none := by rw [tks, tkn_cr h hb]
      rw [hk]
      exact ⟨(fun l n h => by cases h), (fun h => by cases h), fun _ => rtk_bad ht⟩
    · have hk := irk_tku h hb h0
      obtain ⟨T1, T2, T3⟩ := tks_tku (s := s) 9 (s.size + 1) 0 [] rfl (by simp) (by omega)
      have HP := tku_pre hm (s.size + 1) (min s.size 200 + 1) 0 [] (by omega) (by omega)
      have hle := fun L n => tku_le (s := s.extract 0 (min s.size 200)) (min s.size 200 + 1) 0 [] L n
      rw [pre_size hm] at hle
      have hsame : s.size ≤ 200 → tku (s.extract 0 (min s.size 200)) (min s.size 200 + 1) 0 [] = tku s (s.size + 1) 0 [] := fun h2 => by
        rw [show min s.size 200 = s.size by omega, show s.extract 0 s.size = s from ba_ext13 (by rw [ext_data]; rfl)]
      rw [irk, hk]
      generalize tku (s.extract 0 (min s.size 200)) (min s.size 200 + 1) 0 [] = X at HP hle hsame ⊢
      generalize tku s (s.size + 1) 0 [] = Y at HP T1 T2 T3 hg2 hsame
      have bad : Y = some none → rtk s = ([], eln s (s.size + 1) 0, 2) := fun e => by
        subst e
        cases hr : tks s 9 0 [] with
        | none => have := T1 hr; cases this
        | some r =>
          cases r with
          | none => exact rtk_bad hr
          | some q =>
            obtain ⟨L, n⟩ := q
            have := (T2 L n hr).1
            cases this
      have late : 200 < s.size → (Y = none ∨ ∃ L n, Y = some (some (L, n)) ∧ 200 < n) → rtk s = ([], eln s (s.size + 1) 0, 2) := fun h2 e => by
        cases hr : tks s 9 0 [] with
        | none => rw [rtk_none hr, if_neg (by omega)]
        | some r =>
          cases r with
          | none => exact rtk_bad hr
          | some q =>
            obtain ⟨L, n⟩ := q
            have h3 := (T2 L n hr).1
            rcases e with e | ⟨L', n', e, h4⟩
            · rw [h3] at e; cases e
            · rw [h3] at e
              simp only [Option.some.injEq, Prod.mk.injEq] at e
              rw [rtk_ok hr, if_pos (by omega)]
      have okay : ∀ L n, Y = some (some (L, n)) → n ≤ 200 → (L.length ≤ 8 → rtk s = (L, s.extract n s.size, 0)) ∧ (8 < L.length → rtk s = ([], eln s (s.size + 1) 0, 2)) := fun L n e hn => by
        subst e
        cases hr : tks s 9 0 [] with
        | none => have := T1 hr; cases this
        | some r =>
          cases r with
          | none =>
            refine ⟨fun h8 => ?_, fun _ => rtk_bad hr⟩
            rcases T3 hr with e | e | ⟨L', n', e, h8'⟩
            · cases e
            · cases e
            · simp only [Option.some.injEq, Prod.mk.injEq] at e
              rw [e.1] at h8
              omega
          | some q =>
            obtain ⟨L', n'⟩ := q
            have h3 := T2 L' n' hr
            have h4 := h3.1
            simp only [Option.some.injEq, Prod.mk.injEq] at h4
            obtain ⟨rfl, rfl⟩ := h4
            exact ⟨fun _ => by rw [rtk_ok hr, if_neg (by omega)], fun h8 => by have := h3.2; omega⟩
      cases hX : X with
      | none =>
        dsimp only
        have hYX : Y = none ∨ (200 < s.size ∧ (Y = some none ∨ ∃ L n, Y = some (some (L, n)) ∧ 200 < n)) := by
          rcases HP with e | ⟨-, e⟩
          · exact .inl (by rw [← e, hX])
          · by_cases h2 : 200 < s.size
            · cases Y with
              | none => exact .inl rfl
              | some r =>
                cases r with
                | none => exact .inr ⟨h2, .inl rfl⟩
                | some q =>
                  obtain ⟨L, n⟩ := q
                  have := e L n rfl
                  exact .inr ⟨h2, .inr ⟨L, n, rfl, by omega⟩⟩
            · exact .inl (by rw [← hsame (by omega), hX])
        by_cases h2 : 200 < s.size
        · rw [if_pos h2]
          refine ⟨(fun l n h => by cases h), (fun h => by cases h), fun _ => ?_⟩
          rcases hYX with e | ⟨_, e | ⟨L, n, e, hn⟩⟩
          · exact late h2 (.inl e)
          · exact bad e
          · exact late h2 (.inr ⟨L, n, e, hn⟩)
        · rw [if_neg h2]
          refine ⟨(fun l n h => by cases h), fun _ => ?_, (fun h => by cases h)⟩
          rcases hYX with e | ⟨h3, _⟩
          · cases hr : tks s 9 0 [] with
            | none => rw [rtk_none hr, if_pos (by omega)]
            | some r =>
              cases r with
              | none => exact absurd ⟨hr, e⟩ hg2
              | some q =>
                obtain ⟨L, n⟩ := q
                have := (T2 L n hr).1
                rw [e] at this
                cases this
          · omega
      | some r =>
        have hYX : Y = some r := by
          rcases HP with e | ⟨e, -⟩
          · rw [← e, hX]
          · rw [hX] at e; cases e
        cases r with
        | none => exact ⟨(fun l n h => by cases h), (fun h => by cases h), fun _ => bad hYX⟩
        | some q =>
          obtain ⟨L, n⟩ := q
          have hn := hle L n hX
          have ho := okay L n hYX (by omega)
          dsimp only
          by_cases h8 : 8 < L.length
          · rw [if_pos (Or.inr h8)]
            exact ⟨(fun l n h => by cases h), (fun h => by cases h), fun _ => ho.2 h8⟩
          · have hl := hn.2.2
            rw [if_neg (by rw [List.length_nil] at hl; omega)]
            refine ⟨fun l n' h => ?_, (fun h => by cases h), (fun h => by cases h)⟩
            simp only [Option.some.injEq, Prod.mk.injEq] at h
            obtain ⟨rfl, rfl⟩ := h
            exact ho.1 (by omega)
end Go.Proofs.YtmalpgbdemcmdaaDoor
