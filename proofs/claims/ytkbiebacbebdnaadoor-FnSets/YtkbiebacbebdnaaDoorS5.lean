/- Zl, Zn, Zo, Zp, Ze, Zg, Zq, Zi0, Zr, Zps. -/
import Derived.Test.YtkbiebacbebdnaaDoorJoin
import Derived.Test.YtkbiebacbebdnaaDoorS4
namespace Go.Proofs.YtkbiebacbebdnaaDoor
open Go.RowKit
/-- The text of the first i ranges, as it is written. -/
def s14 (l : List G2) : Nat → ByteArray
  | 0 => ⟨#[]⟩
  | i + 1 => if (l.getD i (0, 0)).2 = (l.getD i (0, 0)).1 then (if i = 0 then s14 l i else s14 l i ++ ⟨#[44]⟩) ++ t14 (l.getD i (0, 0)).1 else ((if i = 0 then s14 l i else s14 l i ++ ⟨#[44]⟩) ++ t14 (l.getD i (0, 0)).1) ++ ⟨#[58]⟩ ++ t14 (l.getD i (0, 0)).2
def set14 (l : List G2) : ByteArray := s14 l l.length
/-- Numbers that fit. -/
def Fit14 (l : List G2) : Prop := ∀ p ∈ l, p.1 ≤ 9223372036854775807 ∧ p.2 ≤ 9223372036854775807
set_option maxHeartbeats 3200000 in
set_option maxRecDepth 100000 in
theorem specSetText_any (a : Option Addr) (m cap : Nat) (l : List G2) (w : World) (hl : l.length = m) (hm : m ≤ 1048576) (hr : Rr w a l) (hf : Fit14 l) :
    Calls Tryd.prog 20 #[.slice a m cap] w fun e w' => e = .returned (.string (set14 l)) ∧ Below w.heap.size w w' := by
  have HR := hid hr
  have HL := hid hl
  have HF := hid hf
  clear hr hl hf
  go_enter Tryd.func20, Tryd.ntmps20
  go_wp2
  go_loopw [3, 4] (fun sv iv wr => ∃ (i : Nat) (s : ByteArray), i ≤ m ∧ sv = .string s ∧ iv = .int .i64 (i : Int) ∧ Hid (s = s14 l i) ∧ s.size ≤ i * 50 ∧ Below w.heap.size w wr) (fun _ iv _ => m - (intOf iv).toNat)
  case atStart => exact ⟨0, ⟨#[]⟩, Nat.zero_le _, rfl, rfl, rfl, Nat.le_refl _, bre _⟩
  case round =>
    obtain ⟨i, s, hi, rfl, rfl, HS, hsz, hb⟩ := hrel
    have HB := hid hb
    have HZ := hid hsz
    by_cases hlt : i < m
    · have hil : i < l.length := by rw [HL.out]; exact hlt
      obtain ⟨k, o, rfl, hk, hc⟩ := (HR.out.later hb) (by omega)
      obtain ⟨c1, c2⟩ := hc i hil
      clear hc
      obtain ⟨p, hp⟩ : ∃ p, l[i] = p := ⟨_, rfl⟩
      have hpf := HF.out l[i] (List.getElem_mem hil)
      have hpd : l.getD i (0, 0) = p := by rw [← hp]; exact (List.getElem_eq_getD (0, 0)).symm
      rw [hp] at c1 c2 hpf
      obtain ⟨x, y⟩ := p
      have HP := hid hpd
      have HXY : Hid (x ≤ 9223372036854775807 ∧ y ≤ 9223372036854775807) := hpf
      have HN : Hid (s14 l (i + 1) = if y = x then (if i = 0 then s else s ++ ⟨#[44]⟩) ++ t14 x else ((if i = 0 then s else s ++ ⟨#[44]⟩) ++ t14 x) ++ ⟨#[58]⟩ ++ t14 y) := by
        show _ = _
        rw [s14, HP.out, HS.out]
      obtain ⟨X, hX⟩ : ∃ X, t14 x = X := ⟨_, rfl⟩
      obtain ⟨Y, hY⟩ : ∃ Y, t14 y = Y := ⟨_, rfl⟩
      have hXs : X.size ≤ 20 := by rw [← hX]; exact t14_size x hpf.1
      have hYs : Y.size ≤ 20 := by rw [← hY]; exact t14_size y hpf.2
      have HX := hid hX
      have HY := hid hY
      have KC : Hid (∀ W, Below wr.heap.size wr W → W.cell? ⟨k, o + i * 2, none⟩ = some (.int .i64 x) ∧ W.cell? ⟨k, o + i * 2 + 1, none⟩ = some (.int .i64 y)) := fun W hW => ⟨(hW.cell (p := ⟨k, o + i * 2, none⟩) hk).trans c1, (hW.cell (p := ⟨k, o + i * 2 + 1, none⟩) hk).trans c2⟩
      clear hp hpd hpf hX hY hb hsz
      have hI : (0 : Int) ≤ (i : Int) ∧ (i : Int) < (m : Int) := by omega
      by_cases hq : y = x
      · by_cases h0 : i = 0
        · have HQ := hid hq
          have HZ0 := hid h0
          obtain ⟨U, hU⟩ : ∃ U : ByteArray, s = U := ⟨_, rfl⟩
          have hUs : U.size ≤ i * 50 + 1 := by have := HZ.out; rw [← hU]; omega
          obtain ⟨T, hT⟩ : ∃ T : ByteArray, U ++ X = T := ⟨_, rfl⟩
          have hTs : T.size ≤ i * 50 + 21 := by rw [← hT, ByteArray.size_append]; omega
          have g0 : (s.size + 1 > 9223372036854775807) = False := eq_false (by have := HZ.out; omega)
          have g1 : (U.size + X.size > 9223372036854775807) = False := eq_false (by omega)
          have HU := hid hU
          have HT := hid hT
          have hi0 : ¬ (0 : Int) < (i : Int) := by omega
          have hne : (y != x) = false := by simp [hq]
          clear hq h0 hT hU
          go_wp2_with fail
          rw [HU.out]
          refine (text14_any x _ HXY.out.1).mono ?_; rintro e w1 ⟨rfl, hb1⟩
          rw [HX.out]
          obtain ⟨d1, d2⟩ := KC.out w1 hb1
          have P1 := hid hb1
          clear hb1 c1 c2
          go_wp2_with fail
          rw [HT.out]
          go_quiet (fail)
          go_wp2
          go_roundw
          case rel => exact ⟨i + 1, T, by omega, rfl, by go_num, by show _ = _; rw [HN.out, if_pos HQ.out, if_pos HZ0.out, HX.out, HU.out, HT.out], by omega, bdn (btr HB.out P1.out) _⟩
          case measure => simp [intOf]; omega
        · have HQ := hid hq
          have HZ0 := hid h0
          obtain ⟨U, hU⟩ : ∃ U : ByteArray, (s ++ ⟨#[44]⟩) = U := ⟨_, rfl⟩
          have hUs : U.size ≤ i * 50 + 1 := by have := HZ.out; rw [← hU]; rw [ByteArray.size_append]; show _ + 1 ≤ _; omega
          obtain ⟨T, hT⟩ : ∃ T : ByteArray, U ++ X = T := ⟨_, rfl⟩
          have hTs : T.size ≤ i * 50 + 21 := by rw [← hT, ByteArray.size_append]; omega
          have g0 : (s.size + 1 > 9223372036854775807) = False := eq_false (by have := HZ.out; omega)
          have g1 : (U.size + X.size > 9223372036854775807) = False := eq_false (by omega)
          have HU := hid hU
          have HT := hid hT
          have hi0 : (0 : Int) < (i : Int) := by omega
          have hne : (y != x) = false := by simp [hq]
          clear hq h0 hT hU
          go_wp2_with fail
          rw [HU.out]
          refine (text14_any x _ HXY.out.1).mono ?_; rintro e w1 ⟨rfl, hb1⟩
          rw [HX.out]
          obtain ⟨d1, d2⟩ := KC.out w1 hb1
          have P1 := hid hb1
          clear hb1 c1 c2
          go_wp2_with fail
          rw [HT.out]
          go_quiet (fail)
          go_wp2
          go_roundw
          case rel => exact ⟨i + 1, T, by omega, rfl, by go_num, by show _ = _; rw [HN.out, if_pos HQ.out, if_neg HZ0.out, HX.out, HU.out, HT.out], by omega, bdn (btr HB.out P1.out) _⟩
          case measure => simp [intOf]; omega
      · by_cases h0 : i = 0
        · have HQ := hid hq
          have HZ0 := hid h0
          obtain ⟨U, hU⟩ : ∃ U : ByteArray, s = U := ⟨_, rfl⟩
          have hUs : U.size ≤ i * 50 + 1 := by have := HZ.out; rw [← hU]; omega
          obtain ⟨T, hT⟩ : ∃ T : ByteArray, U ++ X = T := ⟨_, rfl⟩
          have hTs : T.size ≤ i * 50 + 21 := by rw [← hT, ByteArray.size_append]; omega
          have g0 : (s.size + 1 > 9223372036854775807) = False := eq_false (by have := HZ.out; omega)
          have g1 : (U.size + X.size > 9223372036854775807) = False := eq_false (by omega)
          have HU := hid hU
          have HT := hid hT
          have hi0 : ¬ (0 : Int) < (i : Int) := by omega
          have hne : (y != x) = true := by simp [hq]
          have g2 : (T.size + 1 > 9223372036854775807) = False := eq_false (by omega)
          have g3 : (T.size + 1 + Y.size > 9223372036854775807) = False := eq_false (by omega)
          clear hq h0 hT hU
          go_wp2_with fail
          rw [HU.out]
          refine (text14_any x _ HXY.out.1).mono ?_; rintro e w1 ⟨rfl, hb1⟩
          rw [HX.out]
          obtain ⟨d1, d2⟩ := KC.out w1 hb1
          have P1 := hid hb1
          clear hb1 c1 c2
          go_wp2_with fail
          rw [HT.out]
          go_quiet (fail)
          go_wp2_with fail
          refine (text14_any y _ HXY.out.2).mono ?_; rintro e w2 ⟨rfl, hb2⟩
          rw [HY.out]
          go_wp2
          go_roundw
          case rel => exact ⟨i + 1, _, by omega, rfl, by go_num, by show _ = _; rw [HN.out, if_neg HQ.out, if_pos HZ0.out, HX.out, HY.out, HU.out, HT.out], by rw [ByteArray.size_append, ByteArray.size_append]; show _ + 1 + _ ≤ _; omega, btr (bdn (btr HB.out P1.out) _) hb2⟩
          case measure => simp [intOf]; omega
        · have HQ := hid hq
          have HZ0 := hid h0
          obtain ⟨U, hU⟩ : ∃ U : ByteArray, (s ++ ⟨#[44]⟩) = U := ⟨_, rfl⟩
          have hUs : U.size ≤ i * 50 + 1 := by have := HZ.out; rw [← hU]; rw [ByteArray.size_append]; show _ + 1 ≤ _; omega
          obtain ⟨T, hT⟩ : ∃ T : ByteArray, U ++ X = T := ⟨_, rfl⟩
          have hTs : T.size ≤ i * 50 + 21 := by rw [← hT, ByteArray.size_append]; omega
          have g0 : (s.size + 1 > 9223372036854775807) = False := eq_false (by have := HZ.out; omega)
          have g1 : (U.size + X.size > 9223372036854775807) = False := eq_false (by omega)
          have HU := hid hU
          have HT := hid hT
          have hi0 : (0 : Int) < (i : Int) := by omega
          have hne : (y != x) = true := by simp [hq]
          have g2 : (T.size + 1 > 9223372036854775807) = False := eq_false (by omega)
          have g3 : (T.size + 1 + Y.size > 9223372036854775807) = False := eq_false (by omega)
          clear hq h0 hT hU
          go_wp2_with fail
          rw [HU.out]
          refine (text14_any x _ HXY.out.1).mono ?_; rintro e w1 ⟨rfl, hb1⟩
          rw [HX.out]
          obtain ⟨d1, d2⟩ := KC.out w1 hb1
          have P1 := hid hb1
          clear hb1 c1 c2
          go_wp2_with fail
          rw [HT.out]
          go_quiet (fail)
          go_wp2_with fail
          refine (text14_any y _ HXY.out.2).mono ?_; rintro e w2 ⟨rfl, hb2⟩
          rw [HY.out]
          go_wp2
          go_roundw
          case rel => exact ⟨i + 1, _, by omega, rfl, by go_num, by show _ = _; rw [HN.out, if_neg HQ.out, if_neg HZ0.out, HX.out, HY.out, HU.out, HT.out], by rw [ByteArray.size_append, ByteArray.size_append]; show _ + 1 + _ ≤ _; omega, btr (bdn (btr HB.out P1.out) _) hb2⟩
          case measure => simp [intOf]; omega
    · have HE : Hid (i = l.length) := by show _ = _; rw [HL.out]; omega
      go_wp2
      go_ret
      exact ⟨by rw [HS.out, HE.out]; rfl, HB.out⟩
theorem u8n (x : Nat) (h : x < 10) : (UInt8.ofNat (48 + x)).toNat = 48 + x := by
  rw [UInt8.toNat_ofNat']
  omega
/-- What the figures come to. -/
def fol (n : Nat) (d : List UInt8) : Nat := d.foldl (fun a b => 10 * a + b.toNat - 48) n
def isd (b : UInt8) : Prop := 48 ≤ b.toNat ∧ b.toNat ≤ 57
theorem dg_all (n : Nat) : ∀ b ∈ dg n, isd b := by
  induction n using Nat.strongRecOn with
  | ind n ih =>
    by_cases h : n < 10
    · rw [dg_small n h]
      intro b hb
      rw [List.mem_singleton.1 hb]
      unfold isd
      rw [u8n _ (by omega)]
      omega
    · rw [dg_big n h]
      intro b hb
      rcases List.mem_append.1 hb with hb | hb
      · exact ih (n / 10) (by omega) b hb
      · rw [List.mem_singleton.1 hb]
        unfold isd
        rw [u8n _ (by omega)]
        omega
theorem dg_fol (n : Nat) : fol 0 (dg n) = n := by
  induction n using Nat.strongRecOn with
  | ind n ih =>
    by_cases h : n < 10
    · rw [dg_small n h]
      unfold fol
      simp only [List.foldl_cons, List.foldl_nil]
      rw [u8n _ (by omega)]
      omega
    · rw [dg_big n h]
      have := ih (n / 10) (by omega)
      unfold fol at this ⊢
      rw [List.foldl_append, this]
      simp only [List.foldl_cons, List.foldl_nil]
      rw [u8n _ (by omega)]
      omega
theorem dg_pos (n : Nat) : 0 < (dg n).length := by
  by_cases h : n < 10
  · rw [dg_small n h]; simp
  · rw [dg_big n h]; simp
theorem drop_at {α : Type} {L : List α} {k : Nat} {b : α} {r : List α} (h : L.drop k = b :: r) : L[k]? = some b ∧ L.drop (k + 1) = r := by
  constructor
  · rw [← List.head?_drop, h]; rfl
  · rw [← List.drop_drop, h]; rfl
theorem drop_end {α : Type} {L : List α} {k : Nat} (h : L.drop k = []) : L[k]? = none := by rw [← List.head?_drop, h]; rfl
theorem drop_more {α : Type} {L : List α} {k : Nat} {d r : List α} (h : L.drop k = d ++ r) : L.drop (k + d.length) = r := by
  rw [← List.drop_drop, h, List.drop_left]
/-- Behind a number: the end, or what is no figure. -/
def stp14 : List UInt8 → Prop
  | [] => True
  | b :: _ => ¬ isd b
theorem dgs_here (s : ByteArray) : ∀ (d r : List UInt8) (f k n : Nat), s.data.toList.drop k = d ++ r → (∀ b ∈ d, isd b) → d.length ≤ f → stp14 r → dgs s f k n = (fol n d, k + d.length)
  | [], r, 0, k, n, _, _, _, _ => rfl
  | [], [], f + 1, k, n, h, _, _, _ => by
    rw [dgs, drop_end (by simpa using h)]
    rfl
  | [], b :: r, f + 1, k, n, h, _, _, hs => by
    rw [dgs, (drop_at (by simpa using h)).1]
    dsimp only
    rw [if_neg (show ¬ (48 ≤ b.toNat ∧ b.toNat ≤ 57) from hs)]
    rfl
  | b :: d, r, 0, k, n, _, _, hl, _ => by simp at hl
  | b :: d, r, f + 1, k, n, h, hd, hl, hs => by
    have hc := drop_at (L := s.data.toList) (k := k) (b := b) (r := d ++ r) (by simpa using h)
    rw [dgs, hc.1]
    dsimp only
    rw [if_pos (show 48 ≤ b.toNat ∧ b.toNat ≤ 57 from hd b (List.mem_cons_self ..)), dgs_here s d r f (k + 1) _ hc.2 (fun x hx => hd x (List.mem_cons_of_mem _ hx)) (by simpa using hl) hs]
    simp only [fol, List.foldl_cons, List.length_cons]
    rw [show k + 1 + d.length = k + (d.length + 1) by omega]
/-- A number of a set, its bytes. -/
def tl4 (n : Int) : List UInt8 := if n ≤ 0 then [42] else dg n.toNat
theorem nbr_here (s : ByteArray) (a : Nat) (n : Int) (r : List UInt8) (h0 : 0 ≤ n) (h1 : n ≤ 9999) (h : s.data.toList.drop a = tl4 n ++ r) (hr : stp14 r) : nbr s a = (n.toNat, a + (tl4 n).length, true) := by
  unfold nbr
  by_cases hn : n ≤ 0
  · obtain rfl : n = 0 := by omega
    have hc := drop_at (L := s.data.toList) (k := a) (b := 42) (r := r) (by rw [h]; rfl)
    rw [hc.1, if_pos (by decide)]
    rfl
  · have ht : tl4 n = dg n.toNat := by unfold tl4; rw [if_neg hn]
    rw [ht] at h ⊢
    have hlen := dg_pos n.toNat
    have hall := dg_all n.toNat
    have hd := dgs_here s (dg n.toNat) r 4 a 0 h hall (dg_len 3 _ (by omega)) hr
    rw [dg_fol] at hd
    rw [hd]
    cases hx : dg n.toNat with
    | nil => rw [hx] at hlen; simp at hlen
    | cons b d =>
      have hb : isd b := hall b (by rw [hx]; exact List.mem_cons_self ..)
      have hc := drop_at (L := s.data.toList) (k := a) (b := b) (r := d ++ r) (by rw [h, hx]; rfl)
      rw [hc.1, if_neg (by
        intro e
        have : b.toNat = 42 := by simpa using e
        unfold isd at hb
        omega)]
      simp only [List.length_cons]
      rw [decide_eq_true (by omega : a < a + (d.length + 1)), decide_eq_true (by omega : 0 < n.toNat)]
      rfl
/-- A range, its bytes. -/
def rl4 (p : G2) : List UInt8 := tl4 p.1 ++ (if p.2 = p.1 then [] else 58 :: tl4 p.2)
/-- Numbers as they are drawn. -/
def Sm4 (p : G2) : Prop := (0 ≤ p.1 ∧ p.1 ≤ 9999) ∧ (0 ≤ p.2 ∧ p.2 ≤ 9999)
/-- Behind a range: the end, or 44. -/
def stc : List UInt8 → Prop
  | [] => True
  | b :: _ => b = 44
theorem stc.stp14 {r : List UInt8} (h : stc r) : stp14 r := by
  cases r with
  | nil => trivial
  | cons b r => have hb : b = 44 := h; subst hb; show ¬ isd 44; unfold isd; decide
theorem rng_here (s : ByteArray) (a : Nat) (p : G2) (r : List UInt8) (hp : Sm4 p) (h : s.data.toList.drop a = rl4 p ++ r) (hr : stc r) : rng s a = some (p, a + (rl4 p).length) := by
  obtain ⟨x, y⟩ := p
  obtain ⟨⟨h1, h2⟩, h3, h4⟩ := hp
  unfold rl4 at h ⊢
  unfold rng
  simp only at h h1 h2 h3 h4 ⊢
  by_cases e : y = x
  · subst e
    rw [if_pos rfl, List.append_nil] at h
    rw [if_pos rfl, List.append_nil, nbr_here s a y r h1 h2 h hr.stp14]
    simp only [if_true]
    have hd := drop_more h
    have hne : ¬ (s.data.toList[a + (tl4 y).length]?).map (fun b => b.toNat) = some 58 := by
      cases r with
      | nil => rw [drop_end hd]; simp
      | cons b r =>
        have hb : b = 44 := hr
        subst hb
        rw [(drop_at hd).1]
        decide
    rw [if_neg hne, show ((y.toNat : Nat) : Int) = y by omega]
  · rw [if_neg e, List.append_assoc] at h
    rw [if_neg e, nbr_here s a x (58 :: tl4 y ++ r) h1 h2 h (by show ¬ isd 58; unfold isd; decide)]
    simp only [if_true]
    have hd := drop_more h
    have hc := drop_at (L := s.data.toList) (k := a + (tl4 x).length) (b := 58) (r := tl4 y ++ r) (by rw [hd]; rfl)
    rw [hc.1, if_pos (by decide), nbr_here s _ y r h3 h4 hc.2 hr.stp14]
    simp only [if_true]
    rw [show ((x.toNat : Nat) : Int) = x by omega, show ((y.toNat : Nat) : Int) = y by omega]
    simp only [List.length_append, List.length_cons]
    rw [show a + (tl4 x).length + 1 + (tl4 y).length = a + ((tl4 x).length + ((tl4 y).length + 1)) by omega]
/-- The bytes of a set. -/
def jn4 : List G2 → List UInt8
  | [] => []
  | [p] => rl4 p
  | p :: q :: l => rl4 p ++ 44 :: jn4 (q :: l)
theorem jn4_add (p : G2) : ∀ m : List G2, m ≠ [] → jn4 (m ++ [p]) = jn4 m ++ 44 :: rl4 p
  | [], h => absurd rfl h
  | [q], _ => rfl
  | q :: r :: m, _ => by
    show rl4 q ++ 44 :: jn4 ((r :: m) ++ [p]) = _
    rw [jn4_add p (r :: m) (by simp)]
    show _ = (rl4 q ++ 44 :: jn4 (r :: m)) ++ 44 :: rl4 p
    simp
theorem rss_here (s : ByteArray) : ∀ (l : List G2) (f a : Nat) (acc : List G2), l ≠ [] → s.data.toList.drop a = jn4 l → (∀ p ∈ l, Sm4 p) → l.length ≤ f → acc.length + l.length ≤ 8 → a ≤ s.size → rss s f a acc = some (acc ++ l)
  | [], _, _, _, h, _, _, _, _, _ => absurd rfl h
  | p :: l, 0, _, _, _, _, _, h, _, _ => by simp at h
  | [p], f + 1, a, acc, _, h, hp, _, hl, ha => by
    have hr := rng_here s a p [] (hp p (List.mem_singleton.2 rfl)) (by rw [h]; simp [jn4]) trivial
    have hlen : (s.data.toList.drop a).length = (rl4 p).length := by rw [h]; rfl
    have hsz : s.size = s.data.toList.length := Array.length_toList.symm
    rw [List.length_drop, ← hsz] at hlen
    simp only [List.length_singleton] at hl
    rw [rss, hr]
    dsimp only
    rw [if_neg (by simp; omega), if_pos (by omega)]
  | p :: q :: l, f + 1, a, acc, _, h, hp, hf, hl, ha => by
    have hr := rng_here s a p (44 :: jn4 (q :: l)) (hp p (List.mem_cons_self ..)) (by rw [h]; rfl) rfl
    have hd : s.data.toList.drop (a + (rl4 p).length) = 44 :: jn4 (q :: l) := drop_more (by rw [h]; rfl)
    have hc := drop_at hd
    have hsz : s.size = s.data.toList.length := Array.length_toList.symm
    have hlt : a + (rl4 p).length < s.size := by
      have := congrArg List.length hd
      rw [List.length_drop, ← hsz, List.length_cons] at this
      omega
    simp only [List.length_cons] at hl hf
    rw [rss, hr]
    dsimp only
    rw [if_neg (by simp; omega), if_neg (by omega), hc.1, if_pos (by decide), rss_here s (q :: l) f _ (acc ++ [p]) (by simp) hc.2 (fun x hx => hp x (List.mem_cons_of_mem _ hx)) (by simp only [List.length_cons]; omega) (by simp only [List.length_append, List.length_cons, List.length_nil]; omega) (by omega)]
    simp
theorem t14_list (n : Int) : (t14 n).data.toList = tl4 n := by
  unfold t14 tl4
  split <;> simp
theorem ba_app (a b : ByteArray) : (a ++ b).data.toList = a.data.toList ++ b.data.toList := by
  rw [ByteArray.data_append, Array.toList_append]
theorem s14_list (l : List G2) : ∀ i, i ≤ l.length → (s14 l i).data.toList = jn4 (l.take i)
  | 0, _ => by simp [s14, jn4]
  | i + 1, h => by
    have hi : i < l.length := h
    have ih := s14_list l i (by omega)
    have hd : l.getD i (0, 0) = l[i] := (List.getElem_eq_getD (0, 0)).symm
    rw [s14, hd, List.take_succ_eq_append_getElem hi]
    have hb : (if i = 0 then s14 l i else s14 l i ++ ⟨#[44]⟩ : ByteArray).data.toList ++ rl4 l[i] = jn4 (l.take i ++ [l[i]]) := by
      by_cases h0 : i = 0
      · subst h0
        simp [s14, jn4]
      · rw [if_neg h0, ba_app, ih, jn4_add _ _ (by
          intro e
          have := congrArg List.length e
          rw [List.length_take, List.length_nil] at this
          omega)]
        simp
    rw [← hb]
    unfold rl4
    split
    · rw [ba_app, t14_list, List.append_nil]
    · rw [ba_app, ba_app, ba_app, t14_list, t14_list]
      simp
theorem set14_list (l : List G2) : (set14 l).data.toList = jn4 l := by
  unfold set14
  rw [s14_list l l.length (Nat.le_refl _), List.take_length]
/-- A set comes back from its text. -/
theorem rset_here (l : List G2) (h0 : l ≠ []) (hl : l.length ≤ 8) (hp : ∀ p ∈ l, Sm4 p) : rset (set14 l) = some l := by
  unfold rset
  rw [rss_here (set14 l) l 9 0 [] h0 (by rw [List.drop_zero, set14_list]) hp (by omega) (by simpa using hl) (Nat.zero_le _), List.nil_append]
theorem OwG.keep {W W' : World} {B cb : Nat} {v : Value} {l : List G2} (h : OwG W B v l) (hg : W.grownBy W' (some cb)) (hc : cb < B) : OwG W' B v l := World.ownsRow.kept h hg (by
  cases hv : Value.ownBlock v with
  | none => exact Or.inl rfl
  | some j => exact Or.inr (fun e => by
      have h1 := (World.ownsRow.lt h j hv).1
      have h2 : j = cb := Option.some.inj e
      omega))
theorem rowp5 (w : World) (a b c d e : Int) (i : Nat) (h : i < [a, b, c, d, e].length) : (w.alloc (.cells #[.int .i64 a, .int .i64 b, .int .i64 c, .int .i64 d, .int .i64 e] 3)).cell? ⟨w.heap.size, i, none⟩ = some (.int .i64 [a, b, c, d, e][i]) := by
  have hi : i < 5 := h
  rw [cell_of_row _ _ _ _ _ _ (heap_alloc_new w _)]
  rcases (by omega : i = 0 ∨ i = 1 ∨ i = 2 ∨ i = 3 ∨ i = 4) with rfl | rfl | rfl | rfl | rfl <;> rfl
theorem rowp6 (w : World) (a b c d e f : Int) (i : Nat) (h : i < [a, b, c, d, e, f].length) : (w.alloc (.cells #[.int .i64 a, .int .i64 b, .int .i64 c, .int .i64 d, .int .i64 e, .int .i64 f] 3)).cell? ⟨w.heap.size, i, none⟩ = some (.int .i64 [a, b, c, d, e, f][i]) := by
  have hi : i < 6 := h
  rw [cell_of_row _ _ _ _ _ _ (heap_alloc_new w _)]
  rcases (by omega : i = 0 ∨ i = 1 ∨ i = 2 ∨ i = 3 ∨ i = 4 ∨ i = 5) with rfl | rfl | rfl | rfl | rfl | rfl <;> rfl
theorem in6 (x : Int) (h : x ∈ ([1, 2, 3, 9, 0, 9999] : List Int)) : 0 ≤ x ∧ x ≤ 9999 := by
  simp only [List.mem_cons, List.not_mem_nil, or_false] at h
  omega
theorem in5 (x : Int) (h : x ∈ ([1, 2, 5, 0, 7] : List Int)) : 0 ≤ x ∧ x ≤ 9999 := by
  simp only [List.mem_cons, List.not_mem_nil, or_false] at h
  omega
set_option maxHeartbeats 3200000 in
set_option maxRecDepth 100000 in
theorem l14Set_any (cb : Nat) (ao : Option Addr) (n cap : Nat) (w : World) (hn : n ≤ 1048576) (hcur : Cur w cb ao n cap) (hcode : Code w cb ao n) :
    Calls Tryd.prog 24 #[.pointer (some ⟨cb, 0, none⟩)] w fun e w' => ∃ v l, e = .returned v ∧ OwG w' w.heap.size v l ∧ l ≠ [] ∧ l.length ≤ 4 ∧ (∀ p ∈ l, Sm4 p) ∧ Cur w' cb ao n cap ∧ w.grownBy w' (some cb) := by
  have HC := hid hcur
  have HO := hid hcode
  have hlt := hcur.lt
  clear hcur hcode
  go_enter Tryd.func24, Tryd.ntmps24
  go_wp2
  go_loopw [3, 4] (fun ov iv wr => ∃ (i : Nat) (l : List G2), i ≤ 4 ∧ iv = .int .i64 (i : Int) ∧ Hid (l.length = i) ∧ OwG wr w.heap.size ov l ∧ Hid (∀ p ∈ l, Sm4 p) ∧ Cur wr cb ao n cap ∧ w.grownBy wr (some cb)) (fun _ iv _ => 5 - (intOf iv).toNat)
  case atStart => exact ⟨0, [], Nat.zero_le _, rfl, rfl, ownG_none (heap_alloc_new w _) (Nat.le_refl _), fun p hp => by simp at hp, HC.out.alloc _, World.grownBy_alloc _ _ _⟩
  case round =>
    obtain ⟨i, l, hi, rfl, HL, ho, HP, hc, hg⟩ := hrel
    have O0 := hid ho
    have G0 := hid hg
    have C0 := hid hc
    clear ho hc hg
    go_wp2_with fail
    refine (below4 cb ao n cap _ hn C0.out (HO.out.later G0.out) 4 (by decide) (by decide)).mono ?_; rintro e w1 ⟨x, hx, rfl, hc1, hg1⟩
    have O1 : Hid (OwG w1 w.heap.size _ l) := OwG.keep O0.out hg1 hlt
    have G1 := hid (only_trans G0.out hg1)
    have C1 := hid hc1
    clear hc1 hg1 O0
    by_cases hix : (i : Int) < 1 + (x : Int)
    · have hw1 := G1.out.size
      go_wp2_with fail
      refine (pickInt_any cb w1.heap.size 6 [1, 2, 3, 9, 0, 9999] ao n cap _ hn (C1.out.alloc _) (HO.out.later (gal G1.out _)) rfl (by decide) (by decide) (by have := C1.out.lt; omega) (rowp6 w1 1 2 3 9 0 9999)).mono ?_; rintro e w2 ⟨p, hp, rfl, hc2, hg2⟩
      have O2 : Hid (OwG w2 w.heap.size _ l) := OwG.keep (World.ownsRow.alloc O1.out _) hg2 hlt
      have G2' := hid (only_trans (gal G1.out _) hg2)
      have C2 := hid hc2
      have HP1 := hid (in6 p hp)
      clear hp hc2 hg2 O1
      go_wp2_with fail
      refine (pickInt_any cb w2.heap.size 5 [1, 2, 5, 0, 7] ao n cap _ hn (C2.out.alloc _) (HO.out.later (gal G2'.out _)) rfl (by decide) (by decide) (by have := C2.out.lt; omega) (rowp5 w2 1 2 5 0 7)).mono ?_; rintro e w3 ⟨q, hq, rfl, hc3, hg3⟩
      have O3 : Hid (OwG w3 w.heap.size _ l) := OwG.keep (World.ownsRow.alloc O2.out _) hg3 hlt
      have G3 := hid (only_trans (gal G2'.out _) hg3)
      have C3 := hid hc3
      have HQ1 := hid (in5 q hq)
      clear hq hc3 hg3 O2
      go_wp2_with fail
      refine (once_any cb ao n cap _ hn C3.out (HO.out.later G3.out) 2 (by decide) (by decide)).mono ?_; rintro e w4 ⟨t, rfl, hc4, hg4⟩
      have O4 : Hid (OwG w4 w.heap.size _ l) := OwG.keep O3.out hg4 hlt
      have G4 := hid (only_trans G3.out hg4)
      have C4 := hid hc4
      clear hc4 hg4 O3
      have HLN : Hid (l.length ≤ 1048576) := by show _ ≤ _; have := HL.out; omega
      cases t with
      | true =>
        go_wp2_with (at_builtin; refine wpList_append_gr w4 rfl (.tmp 24) (.tmp 28) rfl w.heap.size _ _ (by rfl) O4.out _ _ rfl HLN.out G4.out.size ?_; rotate_right; intro v5 w5 ho5 hg5; have O5 := hid ho5; have B5 : Hid (Below w.heap.size (w4.alloc (.cells #[.int .i64 p, .int .i64 p] 47)) w5) := below_grownR hg5 (fun j hj => (World.ownsRow.lt O4.out j hj).1) (gal G4.out _).size; clear ho5 hg5)
        go_roundw
        case rel => exact ⟨i + 1, l ++ [(p, p)], by omega, by go_num, by show _ = _; rw [List.length_append, HL.out]; rfl, O5.out, by intro z hz; rcases List.mem_append.1 hz with hz | hz; exact HP.out z hz; rw [List.mem_singleton.1 hz]; exact ⟨HP1.out, HP1.out⟩, (C4.out.alloc _).later B5.out hlt, only_add (gal G4.out _) B5.out⟩
        case measure => simp [intOf]; omega
      | false =>
        go_wp2_with (at_builtin; refine wpList_append_gr w4 rfl (.tmp 24) (.tmp 28) rfl w.heap.size _ _ (by rfl) O4.out _ _ rfl HLN.out G4.out.size ?_; rotate_right; intro v5 w5 ho5 hg5; have O5 := hid ho5; have B5 : Hid (Below w.heap.size (w4.alloc (.cells #[.int .i64 p, .int .i64 q] 47)) w5) := below_grownR hg5 (fun j hj => (World.ownsRow.lt O4.out j hj).1) (gal G4.out _).size; clear ho5 hg5)
        go_roundw
        case rel => exact ⟨i + 1, l ++ [(p, q)], by omega, by go_num, by show _ = _; rw [List.length_append, HL.out]; rfl, O5.out, by intro z hz; rcases List.mem_append.1 hz with hz | hz; exact HP.out z hz; rw [List.mem_singleton.1 hz]; exact ⟨HP1.out, HQ1.out⟩, (C4.out.alloc _).later B5.out hlt, only_add (gal G4.out _) B5.out⟩
        case measure => simp [intOf]; omega
    · have HNE : Hid (l ≠ []) := by intro e; have := HL.out; rw [e] at this; simp at this; omega
      have HLE : Hid (l.length ≤ 4) := by show _ ≤ _; rw [HL.out]; exact hi
      go_wp2
      go_ret
      exact ⟨_, l, rfl, O1.out, HNE.out, HLE.out, HP.out, C1.out, G1.out⟩
theorem gcs_at (l : List G2) (i : Nat) (h : i < l.length) : (gcs l)[i * 2]? = some (.int .i64 l[i].1) ∧ (gcs l)[i * 2 + 1]? = some (.int .i64 l[i].2) := by
  induction l generalizing i with
  | nil => simp at h
  | cons p l ih =>
    cases i with
    | zero => exact ⟨rfl, rfl⟩
    | succ i =>
      have h' : i < l.length := by simpa using h
      have := ih i h'
      have e : (i + 1) * 2 = i * 2 + 1 + 1 := by omega
      rw [e]
      simpa [gcs] using this
section
variable {W W' : World} {B g n c : Nat} {l : List G2}
theorem OwG.len {a : Option Addr} (h : OwG W B (.slice a n c) l) : l.length = n := by
  obtain ⟨a', c', e⟩ := h.shape
  simp only [Value.slice.injEq] at e
  exact e.2.1.symm
theorem OwG.spot (h : OwG W B (.slice (some ⟨g, 0, none⟩) n c) l) (i : Nat) (hi : i < l.length) :
    (W.cell? ⟨g, i * 2, none⟩ = some (.int .i64 l[i].1) ∧ W.cell? ⟨g, i * 2 + 1, none⟩ = some (.int .i64 l[i].2)) ∧ W.frozen? ⟨g, i * 2, none⟩ = false ∧ W.frozen? ⟨g, i * 2 + 1, none⟩ = false := by
  obtain rfl := h.len
  exact ⟨⟨(World.ownsRow.cellAt h _ (by omega)).trans (gcs_at l i hi).1, (World.ownsRow.cellAt h _ (by omega)).trans (gcs_at l i hi).2⟩, World.ownsRow.frozenAt h _, World.ownsRow.frozenAt h _⟩
theorem OwG.some {a : Option Addr} (h : OwG W B (.slice a n c) l) (hn : 0 < n) : ∃ g, a = some ⟨g, 0, none⟩ := by
  rcases h.2 with ⟨h1, h2⟩ | ⟨g, cap, cur, h1, _⟩
  · have := h.len; omega
  · simp only [Value.slice.injEq] at h1
    exact ⟨g, h1.1⟩
end
theorem OwG.reads {W : World} {B n c : Nat} {a : Option Addr} {l : List G2} (h : OwG W B (.slice a n c) l) : Rr W a l := by
  intro hl
  obtain ⟨g, rfl⟩ := h.some (by have := h.len; omega)
  have hlt : g < W.heap.size := (World.ownsRow.lt h g rfl).2
  refine ⟨g, 0, rfl, hlt, fun i hi => ?_⟩
  have := (h.spot i hi).1
  simpa using this
theorem Sm4.fit {l : List G2} (h : ∀ p ∈ l, Sm4 p) : Fit14 l := fun p hp => by
  obtain ⟨⟨_, h2⟩, _, h4⟩ := h p hp
  omega
theorem s14_size {l : List G2} (hf : Fit14 l) : ∀ i, i ≤ l.length → (s14 l i).size ≤ i * 50
  | 0, _ => Nat.le_refl _
  | i + 1, h => by
    have hi : i < l.length := h
    have ih := s14_size hf i (by omega)
    have hd : l.getD i (0, 0) = l[i] := (List.getElem_eq_getD (0, 0)).symm
    have hp := hf l[i] (List.getElem_mem hi)
    have h1 := t14_size _ hp.1
    have h2 := t14_size _ hp.2
    have hb : (if i = 0 then s14 l i else s14 l i ++ ⟨#[44]⟩ : ByteArray).size ≤ i * 50 + 1 := by
      split
      · omega
      · rw [ByteArray.size_append]
        show _ + 1 ≤ _
        omega
    rw [s14, hd]
    split
    · rw [ByteArray.size_append]
      omega
    · rw [ByteArray.size_append, ByteArray.size_append, ByteArray.size_append]
      show _ + _ + 1 + _ ≤ _
      omega
theorem set14_size {l : List G2} (hf : Fit14 l) (hl : l.length ≤ 4) : (set14 l).size ≤ 200 := by
  have := s14_size hf l.length (Nat.le_refl _)
  unfold set14
  omega
/-- A drawn set. -/
def Dr4 (w : World) (v : Value) (l : List G2) (w' : World) : Prop := OwG w' w.heap.size v l ∧ l ≠ [] ∧ l.length ≤ 4 ∧ (∀ p ∈ l, Sm4 p) ∧ Below w.heap.size w w'
theorem OwG.lower {W : World} {B B' : Nat} {v : Value} {l : List G2} (h : OwG W B v l) (hB : B' ≤ B) : OwG W B' v l := ⟨h.1, h.2.imp id (fun ⟨g, cap, cur, h1, h2, h3⟩ => ⟨g, cap, cur, h1, Nat.le_trans hB h2, h3⟩)⟩
set_option maxHeartbeats 800000 in
set_option maxRecDepth 100000 in
theorem drawSet14_any (ao : Option Addr) (n cap : Nat) (w : World) (hn : n ≤ 1048576) (hcode : Code w w.heap.size ao n) :
    Calls Tryd.prog 6 #[.slice ao n cap] w fun e w' => ∃ v l, e = .returned v ∧ Dr4 w v l w' := by
  have HO := hid hcode
  clear hcode
  go_enter Tryd.func6, Tryd.ntmps6
  go_wp2_with fail
  refine (new_any ao n cap _ hn HO.out).mono ?_; rintro e w1 ⟨rfl, hc1, ho1, hb1⟩
  have B1 := hid hb1
  go_wp2_with fail
  refine (l14Set_any w.heap.size ao n cap _ hn hc1 ho1).mono ?_; rintro e w2 ⟨v, l, rfl, ho, h0, hl, hp, hc2, hg2⟩
  have HR : Hid (Dr4 w v l w2) := ⟨OwG.lower ho B1.out.size, h0, hl, hp, B1.out.trans (only_below hg2 (Nat.le_refl _) B1.out.size)⟩
  clear ho h0 hl hp hc2 hg2 hc1 ho1 hb1
  go_wp2
  go_ret
  exact ⟨v, l, rfl, HR.out⟩
set_option maxHeartbeats 800000 in
set_option maxRecDepth 100000 in
theorem drawInSet_any (ao : Option Addr) (n cap : Nat) (w : World) (hn : n ≤ 1048576) (hcode : Code w w.heap.size ao n) :
    Calls Tryd.prog 14 #[.slice ao n cap] w fun e w' => ∃ v l x y, e = .returned (.tuple #[v, .int .i64 x, .int .i64 y]) ∧ Dr4 w v l w' ∧ (-1 ≤ x ∧ x ≤ 100) ∧ (0 ≤ y ∧ y ≤ 100) := by
  have HO := hid hcode
  clear hcode
  go_enter Tryd.func14, Tryd.ntmps14
  go_wp2_with fail
  refine (new_any ao n cap _ hn HO.out).mono ?_; rintro e w1 ⟨rfl, hc1, ho1, hb1⟩
  have B1 := hid hb1
  have C1 := hid hc1
  have O1 := hid ho1
  clear hb1 hc1 ho1
  go_wp2_with fail
  refine (below4 w.heap.size ao n cap _ hn C1.out O1.out 12 (by decide) (by decide)).mono ?_; rintro e w2 ⟨x, hx, rfl, hc2, hg2⟩
  have C2 := hid hc2
  have O2 := hid (O1.out.later hg2)
  have B2 := hid (B1.out.trans (only_below hg2 (Nat.le_refl _) B1.out.size))
  clear hc2 hg2
  go_wp2_with fail
  refine (below4 w.heap.size ao n cap _ hn C2.out O2.out 10 (by decide) (by decide)).mono ?_; rintro e w3 ⟨y, hy, rfl, hc3, hg3⟩
  have C3 := hid hc3
  have O3 := hid (O2.out.later hg3)
  have B3 := hid (B2.out.trans (only_below hg3 (Nat.le_refl _) B2.out.size))
  clear hc3 hg3
  go_wp2_with fail
  refine (l14Set_any w.heap.size ao n cap _ hn C3.out O3.out).mono ?_; rintro e w4 ⟨v, l, rfl, ho, h0, hl, hp, hc2, hg2⟩
  have HR : Hid (Dr4 w v l w4) := ⟨OwG.lower ho B3.out.size, h0, hl, hp, B3.out.trans (only_below hg2 (Nat.le_refl _) B3.out.size)⟩
  clear ho h0 hl hp hc2 hg2
  go_wp2
  exact bodyPost_ret (v := .tuple #[v, .int .i64 ((x : Int) - 1), .int .i64 (y : Int)]) (by simp [results, Tryd.results14, go_sem]) rfl ⟨v, l, _, _, rfl, HR.out, by omega, by omega⟩
theorem rowp7 (w : World) (a b c d e f g : Int) (i : Nat) (h : i < [a, b, c, d, e, f, g].length) : (w.alloc (.cells #[.int .i64 a, .int .i64 b, .int .i64 c, .int .i64 d, .int .i64 e, .int .i64 f, .int .i64 g] 3)).cell? ⟨w.heap.size, i, none⟩ = some (.int .i64 [a, b, c, d, e, f, g][i]) := by
  have hi : i < 7 := h
  rw [cell_of_row _ _ _ _ _ _ (heap_alloc_new w _)]
  rcases (by omega : i = 0 ∨ i = 1 ∨ i = 2 ∨ i = 3 ∨ i = 4 ∨ i = 5 ∨ i = 6) with rfl | rfl | rfl | rfl | rfl | rfl | rfl <;> rfl
theorem in7 (x : Int) (h : x ∈ ([0, 3, 9, 100, 101, -1, 9223372036854775807] : List Int)) : -1 ≤ x ∧ x ≤ 9223372036854775807 := by
  simp only [List.mem_cons, List.not_mem_nil, or_false] at h
  omega
set_option maxHeartbeats 800000 in
set_option maxRecDepth 100000 in
theorem drawPicked_any (ao : Option Addr) (n cap : Nat) (w : World) (hn : n ≤ 1048576) (hcode : Code w w.heap.size ao n) :
    Calls Tryd.prog 15 #[.slice ao n cap] w fun e w' => ∃ v l x, e = .returned (.tuple #[v, .int .i64 x]) ∧ Dr4 w v l w' ∧ (-1 ≤ x ∧ x ≤ 9223372036854775807) := by
  have HO := hid hcode
  clear hcode
  go_enter Tryd.func15, Tryd.ntmps15
  go_wp2_with fail
  refine (new_any ao n cap _ hn HO.out).mono ?_; rintro e w1 ⟨rfl, hc1, ho1, hb1⟩
  have B1 := hid hb1
  have C1 := hid hc1
  have O1 := hid ho1
  have hlt := hc1.lt
  clear hb1 hc1 ho1
  go_wp2_with fail
  refine (pickInt_any w.heap.size w1.heap.size 7 [0, 3, 9, 100, 101, -1, 9223372036854775807] ao n cap _ hn (C1.out.alloc _) (O1.out.later (World.grownBy_alloc _ _ _)) rfl (by decide) (by decide) (by omega) (rowp7 w1 0 3 9 100 101 (-1) 9223372036854775807)).mono ?_; rintro e w2 ⟨x, hx, rfl, hc2, hg2⟩
  have C2 := hid hc2
  have O2 := hid ((O1.out.later (World.grownBy_alloc _ _ _)).later hg2)
  have B2 := hid ((bpush B1.out _).trans (only_below hg2 (Nat.le_refl _) (bpush B1.out _).size))
  have HX := hid (in7 x hx)
  clear hc2 hg2 hx
  go_wp2_with fail
  refine (l14Set_any w.heap.size ao n cap _ hn C2.out O2.out).mono ?_; rintro e w4 ⟨v, l, rfl, ho, h0, hl, hp, hc2, hg2⟩
  have HR : Hid (Dr4 w v l w4) := ⟨OwG.lower ho B2.out.size, h0, hl, hp, B2.out.trans (only_below hg2 (Nat.le_refl _) B2.out.size)⟩
  clear ho h0 hl hp hc2 hg2
  go_wp2
  exact bodyPost_ret (v := .tuple #[v, .int .i64 x]) (by simp [results, Tryd.results15, go_sem]) rfl ⟨v, l, _, rfl, HR.out, HX.out⟩
theorem rowst (w : World) (i : Nat) (h : i < ([⟨#[]⟩, ⟨#[49, 44]⟩, ⟨#[44, 49]⟩, ⟨#[48]⟩, ⟨#[49, 58]⟩, ⟨#[49, 58, 50, 58, 51]⟩, ⟨#[42]⟩, ⟨#[42, 58, 49]⟩, ⟨#[49, 48, 48, 48, 48]⟩, ⟨#[97]⟩, ⟨#[49, 44, 50, 44, 51, 44, 52, 44, 53, 44, 54, 44, 55, 44, 56, 44, 57]⟩, ⟨#[48, 48, 55]⟩] : List ByteArray).length) : (w.alloc (.cells #[.string ⟨#[]⟩, .string ⟨#[49, 44]⟩, .string ⟨#[44, 49]⟩, .string ⟨#[48]⟩, .string ⟨#[49, 58]⟩, .string ⟨#[49, 58, 50, 58, 51]⟩, .string ⟨#[42]⟩, .string ⟨#[42, 58, 49]⟩, .string ⟨#[49, 48, 48, 48, 48]⟩, .string ⟨#[97]⟩, .string ⟨#[49, 44, 50, 44, 51, 44, 52, 44, 53, 44, 54, 44, 55, 44, 56, 44, 57]⟩, .string ⟨#[48, 48, 55]⟩] 9)).cell? ⟨w.heap.size, i, none⟩ = some (.string ([⟨#[]⟩, ⟨#[49, 44]⟩, ⟨#[44, 49]⟩, ⟨#[48]⟩, ⟨#[49, 58]⟩, ⟨#[49, 58, 50, 58, 51]⟩, ⟨#[42]⟩, ⟨#[42, 58, 49]⟩, ⟨#[49, 48, 48, 48, 48]⟩, ⟨#[97]⟩, ⟨#[49, 44, 50, 44, 51, 44, 52, 44, 53, 44, 54, 44, 55, 44, 56, 44, 57]⟩, ⟨#[48, 48, 55]⟩] : List ByteArray)[i]) := by
  have hi : i < 12 := h
  rw [cell_of_row _ _ _ _ _ _ (heap_alloc_new w _)]
  rcases (by omega : i = 0 ∨ i = 1 ∨ i = 2 ∨ i = 3 ∨ i = 4 ∨ i = 5 ∨ i = 6 ∨ i = 7 ∨ i = 8 ∨ i = 9 ∨ i = 10 ∨ i = 11) with rfl | rfl | rfl | rfl | rfl | rfl | rfl | rfl | rfl | rfl | rfl | rfl <;> rfl
set_option maxHeartbeats 1600000 in
set_option maxRecDepth 100000 in
theorem drawReadSet_any (ao : Option Addr) (n cap : Nat) (w : World) (hn : n ≤ 1048576) (hcode : Code w w.heap.size ao n) :
    Calls Tryd.prog 12 #[.slice ao n cap] w fun e w' => ∃ u : ByteArray, e = .returned (.string u) ∧ u.size ≤ 200 ∧ Below w.heap.size w w' := by
  have HO := hid hcode
  clear hcode
  go_enter Tryd.func12, Tryd.ntmps12
  go_wp2_with fail
  refine (new_any ao n cap _ hn HO.out).mono ?_; rintro e w1 ⟨rfl, hc1, ho1, hb1⟩
  have B1 := hid hb1
  have C1 := hid hc1
  have O1 := hid ho1
  clear hb1 hc1 ho1
  go_wp2_with fail
  refine (once_any w.heap.size ao n cap _ hn C1.out O1.out 4 (by decide) (by decide)).mono ?_; rintro e w2 ⟨t, rfl, hc2, hg2⟩
  have C2 := hid hc2
  have O2 := hid (O1.out.later hg2)
  have B2 := hid (B1.out.trans (only_below hg2 (Nat.le_refl _) B1.out.size))
  have hlt := hc2.lt
  clear hc2 hg2
  cases t with
  | true =>
    go_wp2_with fail
    refine (pick_any w.heap.size w2.heap.size 12 200 [⟨#[]⟩, ⟨#[49, 44]⟩, ⟨#[44, 49]⟩, ⟨#[48]⟩, ⟨#[49, 58]⟩, ⟨#[49, 58, 50, 58, 51]⟩, ⟨#[42]⟩, ⟨#[42, 58, 49]⟩, ⟨#[49, 48, 48, 48, 48]⟩, ⟨#[97]⟩, ⟨#[49, 44, 50, 44, 51, 44, 52, 44, 53, 44, 54, 44, 55, 44, 56, 44, 57]⟩, ⟨#[48, 48, 55]⟩] ao n cap _ hn (C2.out.alloc _) (O2.out.later (World.grownBy_alloc _ _ _)) rfl (by decide) (by decide) (by omega) (by decide) (rowst w2)).mono ?_; rintro e w3 ⟨x, hx, rfl, hc3, hg3⟩
    have B3 := hid ((bpush B2.out _).trans (only_below hg3 (Nat.le_refl _) (bpush B2.out _).size))
    clear hc3 hg3
    go_wp2
    go_ret
    exact ⟨x, rfl, hx, B3.out⟩
  | false =>
    go_wp2_with fail
    refine (l14Set_any w.heap.size ao n cap _ hn C2.out O2.out).mono ?_; rintro e w4 ⟨v, l, rfl, ho, h0, hl, hp, hc2, hg2⟩
    have B4 := hid (B2.out.trans (only_below hg2 (Nat.le_refl _) B2.out.size))
    obtain ⟨a, c, rfl⟩ := ho.shape
    have HS := hid (specSetText_any a l.length c l w4 rfl (by omega) (OwG.reads ho) (Sm4.fit hp))
    have HZ := hid (set14_size (Sm4.fit hp) hl)
    clear ho h0 hl hp hc2 hg2
    go_wp2_with fail
    refine HS.out.mono ?_; rintro e w5 ⟨rfl, hb⟩
    go_wp2
    go_ret
    exact ⟨_, rfl, HZ.out, btr B4.out hb⟩
/-- A row of numbers, owned. -/
def OwJ (W : World) (B : Nat) (v : Value) (G : List Nat) : Prop := W.ownsRow B 3 1 v G.length (G.map ic)
section
variable {W W' : World} {B g n c : Nat} {l : List Nat}
theorem OwJ.shape {v : Value} (h : OwJ W B v l) : ∃ a c, v = .slice a l.length c := by
  rcases h.2 with ⟨h1, h2⟩ | ⟨g, cap, cur, h1, _⟩
  · exact ⟨none, 0, by rw [h1, h2]⟩
  · exact ⟨_, _, h1⟩
theorem OwJ.len {a : Option Addr} (h : OwJ W B (.slice a n c) l) : l.length = n := by
  obtain ⟨a', c', e⟩ := h.shape
  simp only [Value.slice.injEq] at e
  exact e.2.1.symm
theorem OwJ.spot (h : OwJ W B (.slice (some ⟨g, 0, none⟩) n c) l) (i : Nat) (hi : i < l.length) :
    W.cell? ⟨g, i, none⟩ = some (.int .i64 (l[i] : Nat)) ∧ W.frozen? ⟨g, i, none⟩ = false := by
  obtain rfl := h.len
  exact ⟨(World.ownsRow.cellAt h _ (by omega)).trans (by rw [List.getElem?_map, List.getElem?_eq_getElem hi]; rfl), World.ownsRow.frozenAt h _⟩
theorem OwJ.put (h : OwJ W B (.slice (some ⟨g, 0, none⟩) n c) l) (i x : Nat) : OwJ (W.setCell ⟨g, i, none⟩ (.int .i64 (x : Int))) B (.slice (some ⟨g, 0, none⟩) n c) (l.set i x) := by
  obtain rfl := h.len
  have h1 := (World.ownsRow.stored h i (.int .i64 (x : Int))).1
  have e : (l.map ic).set i (.int .i64 (x : Int)) = (l.set i x).map ic := by rw [List.map_set]; rfl
  rw [e] at h1
  unfold OwJ
  rw [List.length_set]
  exact h1
theorem OwJ.some {a : Option Addr} (h : OwJ W B (.slice a n c) l) (hn : 0 < n) : ∃ g, a = some ⟨g, 0, none⟩ := by
  rcases h.2 with ⟨h1, h2⟩ | ⟨g, cap, cur, h1, _⟩
  · have := h.len; omega
  · simp only [Value.slice.injEq] at h1
    exact ⟨g, h1.1⟩
end
set_option maxHeartbeats 1600000 in
set_option maxRecDepth 100000 in
theorem sameInts14_any (B B' : Nat) (a a' : Option Addr) (n c c' : Nat) (l : List Nat) (w : World) (hn : n ≤ 1048576) (h1 : OwJ w B (.slice a n c) l) (h2 : OwJ w B' (.slice a' n c') l) :
    Calls Tryd.prog 18 #[.slice a n c, .slice a' n c'] w fun e w' => e = .returned (.bool true) ∧ Below w.heap.size w w' := by
  have H1 := hid h1
  have H2 := hid h2
  clear h1 h2
  have e0 : ((n : Int) != (n : Int)) = false := by simp
  go_enter Tryd.func18, Tryd.ntmps18
  go_wp2
  clear e0
  go_loopw [5] (fun iv wr => ∃ i : Nat, i ≤ n ∧ iv = .int .i64 (i : Int) ∧ Below w.heap.size w wr) (fun iv _ => n - (intOf iv).toNat)
  case atStart => exact ⟨0, Nat.zero_le _, rfl, bre _⟩
  case round =>
    obtain ⟨i, hi, rfl, hb⟩ := hrel
    have HB := hid hb
    clear hb
    by_cases hlt : i < n
    · obtain ⟨g, rfl⟩ := H1.out.some (by omega)
      obtain ⟨g', rfl⟩ := H2.out.some (by omega)
      have hil : i < l.length := by rw [H1.out.len]; exact hlt
      have c1 : wr.cell? ⟨g, i, none⟩ = some (.int .i64 (l[i] : Nat)) := (OwJ.spot (own_later H1.out HB.out) i hil).1
      have c2 : wr.cell? ⟨g', i, none⟩ = some (.int .i64 (l[i] : Nat)) := (OwJ.spot (own_later H2.out HB.out) i hil).1
      obtain ⟨x, hx⟩ : ∃ x : Int, ((l[i] : Nat) : Int) = x := ⟨_, rfl⟩
      rw [hx] at c1 c2
      clear hx
      have hI : (0 : Int) ≤ (i : Int) ∧ (i : Int) < (n : Int) := by omega
      have hxx : (x != x) = false := by simp
      go_wp2_with fail
      go_quiet (fail)
      go_wp2
      go_roundw
      case rel => exact ⟨i + 1, by omega, by go_num, bdn HB.out _⟩
      case measure => simp [intOf]; omega
    · go_wp2
      go_ret
      exact ⟨rfl, HB.out⟩
set_option maxHeartbeats 1600000 in
set_option maxRecDepth 100000 in
theorem sameRanges_any (a a' : Option Addr) (n c c' : Nat) (l : List G2) (w : World) (hl : l.length = n) (hn : n ≤ 1048576) (h1 : Rr w a l) (h2 : Rr w a' l) :
    Calls Tryd.prog 16 #[.slice a n c, .slice a' n c'] w fun e w' => e = .returned (.bool true) ∧ Below w.heap.size w w' := by
  have H1 := hid h1
  have H2 := hid h2
  have HL := hid hl
  clear h1 h2 hl
  have e0 : ((n : Int) != (n : Int)) = false := by simp
  go_enter Tryd.func16, Tryd.ntmps16
  go_wp2
  clear e0
  go_loopw [5] (fun iv wr => ∃ i : Nat, i ≤ n ∧ iv = .int .i64 (i : Int) ∧ Below w.heap.size w wr) (fun iv _ => n - (intOf iv).toNat)
  case atStart => exact ⟨0, Nat.zero_le _, rfl, bre _⟩
  case round =>
    obtain ⟨i, hi, rfl, hb⟩ := hrel
    have HB := hid hb
    clear hb
    by_cases hlt : i < n
    · have hil : i < l.length := by rw [HL.out]; exact hlt
      obtain ⟨k, o, rfl, hk, hc⟩ := (H1.out.later HB.out) (by omega)
      obtain ⟨k', o', rfl, hk', hc'⟩ := (H2.out.later HB.out) (by omega)
      obtain ⟨c1, c2⟩ := hc i hil
      obtain ⟨d1, d2⟩ := hc' i hil
      obtain ⟨⟨x, y⟩, hx⟩ : ∃ x, l[i] = x := ⟨_, rfl⟩
      rw [hx] at c1 c2 d1 d2
      clear hx hc hc'
      have hI : (0 : Int) ≤ (i : Int) ∧ (i : Int) < (n : Int) := by omega
      have hxx : (x != x) = false := by simp
      have hyy : (y != y) = false := by simp
      go_wp2_with fail
      go_quiet (fail)
      go_wp2
      go_roundw
      case rel => exact ⟨i + 1, by omega, by go_num, bdn HB.out _⟩
      case measure => simp [intOf]; omega
    · go_wp2
      go_ret
      exact ⟨rfl, HB.out⟩
abbrev Tp14 (w : World) : Prop := Lib.TabIs Tryd.prog w "internal/strconv.uint64pow10" .u64 Lib.pow10Tab
theorem endOk_yes (x : Int) (w : World) (h0 : 0 ≤ x) (h1 : x ≤ 9999) : Calls Tryd.prog 26 #[.int .i64 x] w fun e w' => e = .returned (.bool true) ∧ w' = w := by
  go_enter Tryd.func26, Tryd.ntmps26
  go_wp2
  go_ret
  exact ⟨rfl, rfl⟩
set_option maxRecDepth 100000 in
theorem endText_any (x : Int) (w : World) (h0 : 0 ≤ x) (h1 : x ≤ 9999) (ht : Tp14 w) :
    Calls Tryd.prog 41 #[.int .i64 x] w fun e w' => e = .returned (.string (t14 x)) ∧ Below w.heap.size w w' := by
  by_cases h : x = 0
  · subst h
    have HT : Hid (t14 0 = ⟨#[42]⟩) := hid (by rw [t14, if_pos (by decide)])
    go_enter Tryd.func41, Tryd.ntmps41
    go_wp2
    go_ret
    exact ⟨by rw [HT.out]; rfl, bre _⟩
  · have hx : (x == 0) = false := by rw [beq_eq_false_iff_ne]; exact h
    have HT : Hid (t14 x = ⟨(Lib.itoa x).toArray⟩) := hid (by
      rw [t14, if_neg (by omega)]
      obtain ⟨m, rfl⟩ : ∃ m : Nat, x = (m : Int) := ⟨x.toNat, by omega⟩
      rw [itoa_pos]; rfl)
    have HD := hid (implDecimal_any x w (by omega) (by omega) ht)
    rw [← HT.out] at HD
    clear h HT ht
    obtain ⟨X, hX⟩ : ∃ X, t14 x = X := ⟨_, rfl⟩
    rw [hX] at HD ⊢
    clear hX
    go_enter Tryd.func41, Tryd.ntmps41
    go_wp2_with fail
    refine HD.out.mono ?_; rintro e w1 ⟨rfl, hb⟩
    have HB := hid hb
    clear hb
    go_wp2
    go_ret
    exact ⟨rfl, HB.out⟩
/-- The text of one range. -/
def rtx14 (p : G2) : ByteArray := if p.2 = p.1 then t14 p.1 else (t14 p.1 ++ ⟨#[58]⟩) ++ t14 p.2
set_option maxHeartbeats 1600000 in
set_option maxRecDepth 100000 in
theorem rangeText_any (x y : Int) (w : World) (h : Sm4 (x, y)) (ht : Tp14 w) :
    Calls Tryd.prog 27 #[.agg #[.int .i64 x, .int .i64 y]] w fun e w' => e = .returned (.string (rtx14 (x, y))) ∧ Below w.heap.size w w' := by
  obtain ⟨W0, hW0⟩ : ∃ W0, w.alloc (.cells #[.int .i64 x, .int .i64 y] 47) = W0 := ⟨_, rfl⟩
  have B0 : Below w.heap.size w W0 := by subst hW0; exact bpush (bre _) _
  have G0 : Gq W0 w.heap.size 47 x y := by subst hW0; exact Gq.new w _ x y
  have HB0 := hid B0
  have HG0 := hid G0
  have HX := hid (fun W (hT : Tp14 W) => endText_any x W h.1.1 h.1.2 hT)
  have HY := hid (fun W (hT : Tp14 W) => endText_any y W h.2.1 h.2.2 hT)
  have HTT := hid (fun W (hb : Below W0.heap.size W0 W) => tab_later (btr B0 hb) ht)
  have hxs := t14_size x (by have := h.1.2; dsimp only at this; omega)
  have hys := t14_size y (by have := h.2.2; dsimp only at this; omega)
  have c := G0.cells
  by_cases hxy : x = y
  · subst hxy
    have HR : Hid (rtx14 (x, x) = t14 x) := hid (by rw [rtx14, if_pos rfl])
    rw [HR.out]
    obtain ⟨X, hX⟩ : ∃ X, t14 x = X := ⟨_, rfl⟩
    rw [hX] at HX ⊢
    clear B0 G0 h ht hxs hys hX HY HR
    go_enter Tryd.func27, Tryd.ntmps27
    go_wp2_with fail
    clear hW0
    refine (HX.out _ (HTT.out _ (bre _))).mono ?_; rintro e w1 ⟨rfl, hb⟩
    have HB := hid (btr HB0.out hb)
    clear hb
    go_wp2
    go_ret
    exact ⟨rfl, HB.out⟩
  · have hne : (x == y) = false := by rw [beq_eq_false_iff_ne]; exact hxy
    have HR : Hid (rtx14 (x, y) = (t14 x ++ ⟨#[58]⟩) ++ t14 y) := hid (by rw [rtx14, if_neg (fun e => hxy e.symm)])
    rw [HR.out]
    obtain ⟨X, hX⟩ : ∃ X, t14 x = X := ⟨_, rfl⟩
    obtain ⟨Y, hY⟩ : ∃ Y, t14 y = Y := ⟨_, rfl⟩
    rw [hX] at HX hxs ⊢
    rw [hY] at HY hys ⊢
    clear B0 G0 h ht hX hY HR hxy
    have m1 : (X.size + 1 > 9223372036854775807) = False := eq_false (by omega)
    have m2 : (X.size + 1 + Y.size > 9223372036854775807) = False := eq_false (by omega)
    go_enter Tryd.func27, Tryd.ntmps27
    go_wp2_with fail
    clear hW0
    have HS := hid (fun W (hb : Below W0.heap.size W0 W) => (HG0.out.later hb).cells)
    go_region_held3 (fun W => W.cell? ⟨w.heap.size, 0, none⟩ = some (.int .i64 x) ∧ W.cell? ⟨w.heap.size, 1, none⟩ = some (.int .i64 y))
      (first | exact HS.out _ (bdr (bre _)) | exact HS.out _ P2.out | exact HS.out _ P3.out)
      (first
        | (go_at_call 41; (with_reducible refine (HX.out _ (HTT.out _ (bdr (bre _)))).mono ?_); rintro e w2 ⟨rfl, hb2⟩; have P2 : Hid (Below W0.heap.size W0 w2) := btr (bdr (bre _)) hb2)
        | (go_at_call 41; (with_reducible refine (HY.out _ (HTT.out _ P2.out)).mono ?_); rintro e w3 ⟨rfl, hb3⟩; have P3 : Hid (Below W0.heap.size W0 w3) := btr P2.out hb3))

    go_wp2
    go_ret
    exact ⟨rfl, btr HB0.out P3.out⟩
/-- An owned row of texts. -/
def OwS14 (W : World) (B : Nat) (v : Value) (l : List ByteArray) : Prop := W.ownsRow B 9 1 v l.length (l.map Value.string)
theorem info_s14 : (Tryd.prog.info? 9).map (fun i => (i.zero, i.size, i.bytes)) = some (some (.string ⟨#[]⟩), 1, 16) := by kernel_rfl
theorem wpList_append_s14 (w : World) {ops : Array Oper} {rest : List Oper} {o : Oper} {a : Act} {Q : Exit → Act → World → Prop} (hgd : o.guard = none) (s x : Operand)
    (ho : o.op = .call { callee := .builtin .append, args := #[s, x], argTypes := #[45, 45] })
    (base : Nat) (v : Value) (l : List ByteArray) (hs : a.eval s = v) (hown : OwS14 w base v l) (n : ByteArray)
    (hx : a.eval x = .slice (some ⟨w.heap.size, 0, none⟩) 1 1) (hlen : l.length ≤ 1000000) (hbase : base ≤ w.heap.size)
    (h : ∀ v' w', OwS14 w' base v' (l ++ [n]) → Below base w w' → wpList Tryd.prog ops Q rest (a.put o.dst v') w') :
    wpList Tryd.prog ops Q (o :: rest) a (w.alloc (.cells #[.string n] 9)) := by
  obtain ⟨i0, hi, hz0, hz1, hz2⟩ := info_parts info_s14
  refine wpList_append_own _ hgd s x 45 ho base 9 i0 (.string ⟨#[]⟩) 1 16 Tryd.underlying45 hi hz0 hz1 hz2 rfl (by decide) v _ _ hs (World.ownsRow.alloc hown _) ⟨w.heap.size, 0, none⟩ 1 1 [.string n] hx rfl (cell_one_new _ _ _) (by intro u hu; simp at hu; subst hu; rfl) (by unfold maxLen; omega) (by omega) (by simp; omega) ?_
  intro v' w' hown' hg _
  exact h v' w' (by simpa [OwS14] using hown') (((Below.refl base w).alloc hbase _).grown hg (by simp; omega) (fun k hk => (World.ownsRow.lt hown k hk).1))
theorem rtx_list (p : G2) : (rtx14 p).data.toList = rl4 p := by
  unfold rtx14 rl4
  split
  · rw [t14_list, List.append_nil]
  · rw [ba_app, ba_app, t14_list, t14_list]
    simp
theorem jn4_join : ∀ l : List G2, jn4 l = Lib.join ((l.map rtx14).map (·.data.toList)) [44]
  | [] => by simp [jn4, Lib.join_nil]
  | [p] => by rw [List.map_cons, List.map_nil, List.map_cons, List.map_nil, Lib.join_one, rtx_list, jn4]
  | p :: q :: l => by
    rw [jn4, jn4_join (q :: l)]
    simp only [List.map_cons, Lib.join_cons, Lib.joinTail, List.flatten_cons, rtx_list]
    simp
set_option maxHeartbeats 3200000 in
set_option maxRecDepth 100000 in
theorem implSetText_any (a : Option Addr) (m cap : Nat) (l : List G2) (w : World) (hl : l.length = m) (hm : m ≤ 8) (hr : Rr w a l) (hq : ∀ p ∈ l, Sm4 p) (ht : Tp14 w) :
    Calls Tryd.prog 7 #[.slice a m cap] w fun e w' => e = .returned (.string (set14 l)) ∧ Below w.heap.size w w' := by
  have HR := hid hr
  have HL := hid hl
  have HM := hid hm
  have HQ := hid hq
  have HT := hid (fun W (hb : Below w.heap.size w W) => tab_later hb ht)
  obtain ⟨i0, hi0, hz0, hz1, hz2⟩ := info_parts info_s14
  obtain ⟨W1, hmk, ow1, gr1⟩ := run_make_own (P := Tryd.prog) (w := w) w.heap.size 45 9 i0 (.string ⟨#[]⟩) 1 Tryd.underlying45 hi0 hz0 hz1 .i64 .i64 m (by rw [hz2]; omega) (by unfold maxLen; omega) (Nat.le_refl _)
  have B1 : Below w.heap.size w W1 := (Below.refl _ w).grown gr1 (Nat.le_refl _) (fun k e => by cases e)
  have HO1 := hid ow1
  have HB1 := hid B1
  have m8 : ¬ (8 : Int) < (m : Int) := by omega
  have m0 : (0 : Int) ≤ (m : Int) := by omega
  clear hr hl hq ht hi0 hz0 hz1 hz2 ow1 gr1 B1 hm
  go_enter Tryd.func7, Tryd.ntmps7
  go_wp2
  go_loopw [3, 14] (fun sv iv wr => ∃ i : Nat, i ≤ m ∧ iv = .int .i64 (i : Int) ∧ OwS14 wr w.heap.size sv ((l.take i).map rtx14) ∧ Below w.heap.size w wr) (fun _ iv _ => m - (intOf iv).toNat)
  case atStart => exact ⟨0, Nat.zero_le _, rfl, HO1.out, HB1.out⟩
  case round =>
    obtain ⟨i, hi, rfl, ho, hb⟩ := hrel
    have HO := hid ho
    have HB := hid hb
    clear ho hb hmk
    by_cases hlt : i < m
    · have hil : i < l.length := by rw [HL.out]; exact hlt
      obtain ⟨k, o, rfl, hk, hcs⟩ := (HR.out.later HB.out) (by omega)
      obtain ⟨c1, c2⟩ := hcs i hil
      have hqi := HQ.out l[i] (List.getElem_mem hil)
      obtain ⟨⟨x, y⟩, hxy⟩ : ∃ p, l[i] = p := ⟨_, rfl⟩
      have hnx : (l.take (i + 1)).map rtx14 = (l.take i).map rtx14 ++ [rtx14 (x, y)] := by rw [List.take_succ_eq_append_getElem hil, List.map_append, hxy]; rfl
      rw [hxy] at c1 c2 hqi
      dsimp only at c1 c2
      have HNX := hid hnx
      have hlen : Hid (((l.take i).map rtx14).length ≤ 1000000) := hid (by rw [List.length_map, List.length_take]; have := HL.out; have := HM.out; omega)
      obtain ⟨W2, hW2⟩ : ∃ W2, wr.alloc (.cells #[.int .i64 x, .int .i64 y] 47) = W2 := ⟨_, rfl⟩
      have G2' : Gq W2 wr.heap.size 47 x y := by rw [← hW2]; exact Gq.new wr _ x y
      have cg := G2'.cells
      have HB2 : Hid (Below w.heap.size w W2) := hid (by rw [← hW2]; exact HB.out.alloc HB.out.size _)
      have HO2 : Hid (OwS14 W2 w.heap.size u3 ((l.take i).map rtx14)) := hid (by rw [← hW2]; exact World.ownsRow.alloc HO.out _)
      have HE1 := hid (fun W => endOk_yes x W hqi.1.1 hqi.1.2)
      have HE2 := hid (fun W => endOk_yes y W hqi.2.1 hqi.2.2)
      have HRT := hid (rangeText_any x y W2 hqi (HT.out _ HB2.out))
      obtain ⟨X, hX⟩ : ∃ X, rtx14 (x, y) = X := ⟨_, rfl⟩
      rw [hX] at HRT HNX
      have hI : (0 : Int) ≤ (i : Int) ∧ (i : Int) < (m : Int) := by omega
      clear hcs hxy hnx hqi hX G2'
      go_wp2_with fail
      clear hW2
      refine (HE1.out _).mono ?_; rintro e w3 ⟨rfl, h3⟩
      subst h3
      go_wp2_with fail
      refine (HE2.out _).mono ?_; rintro e w4 ⟨rfl, h4⟩
      subst h4
      go_wp2_with fail
      refine HRT.out.mono ?_; rintro e w5 ⟨rfl, hb5⟩
      have HB5 := hid (btr HB2.out hb5)
      have HO5 := hid (own_later HO2.out hb5)
      have HSZ := hid HB5.out.size
      clear hb5 c1 c2 cg
      go_wp2_with (at_builtin; refine wpList_append_s14 w5 rfl (.tmp 28) (.tmp 31) rfl w.heap.size _ _ (by rfl) HO5.out X rfl hlen.out HSZ.out ?_; rotate_right; intro v6 w6 ho6 hb6; have HO6 := hid ho6; have HB6 := hid hb6; clear ho6 hb6)
      go_roundw
      case rel => exact ⟨i + 1, by omega, by go_num, HNX.out ▸ HO6.out, HB5.out.trans HB6.out⟩
      case measure => simp [intOf]; omega
    · have hio : i = m := by omega
      subst hio
      have hlm : (l.take i).map rtx14 = l.map rtx14 := by rw [List.take_of_length_le (by rw [HL.out]; exact Nat.le_refl _)]
      rw [hlm] at HO
      have hll : (l.map rtx14).length = i := by rw [List.length_map, HL.out]
      have HLL := hid hll
      have HT8 := HM.out
      have hset : set14 l = ⟨(Lib.join ((l.map rtx14).map (·.data.toList)) [44]).toArray⟩ := by
        have h1 : (set14 l).data.toList = Lib.join ((l.map rtx14).map (·.data.toList)) [44] := by rw [set14_list, jn4_join]
        rw [← h1]
      have hjl : (Lib.join ((l.map rtx14).map (·.data.toList)) [44]).length ≤ 140737488355328 := by
        have h1 : (set14 l).data.toList = Lib.join ((l.map rtx14).map (·.data.toList)) [44] := by rw [set14_list, jn4_join]
        have h2 := s14_size (fun p hp => by have := HQ.out p hp; exact ⟨by have := this.1.2; omega, by have := this.2.2; omega⟩) l.length (Nat.le_refl _)
        rw [← h1, dtl]
        have h3 : (set14 l).size = (s14 l l.length).size := rfl
        have h4 := HL.out
        omega
      have HSET := hid hset
      have HJ : Hid (Calls Tryd.prog 28 #[u3, .string ⟨#[44]⟩] wr fun e w' => e = .returned (.string (set14 l)) ∧ Below wr.heap.size wr w') := hid (by
        rcases HO.out.2 with ⟨hv, h0⟩ | ⟨g, cw, cur, hv, hB, hg, hc1, _⟩
        · have hl0 : l = [] := by rw [List.length_map] at h0; exact List.eq_nil_of_length_eq_zero h0
          rw [hv]
          refine (Any.strings_Join_none Tryd.lays156 Tryd.Builder_Extra_156 none 0 ⟨#[44]⟩ wr).mono ?_
          rintro e w' ⟨rfl, rfl⟩
          exact ⟨by rw [hl0]; rfl, bre _⟩
        · rw [hv]
          refine (Tryd.strings_Join g 0 cw (l.map rtx14) ⟨#[44]⟩ wr (fun j x hj => ?_) (Array.getElem?_eq_some_iff.1 hg).1 (by rw [hll]; omega) hc1 hjl).mono ?_
          · have h2 := World.ownsRow.cells HO.out (g := g) (by rw [hv]; rfl) j (.string x) (by rw [List.getElem?_map, hj]; rfl)
            have e3 : (⟨g, 0, none⟩ : Addr).add j = ⟨g, 0 + j, none⟩ := by cases j <;> simp [Addr.add]
            rw [e3] at h2
            exact h2
          · rintro e w' ⟨rfl, hb⟩
            exact ⟨by rw [hset], hb⟩)
      clear hlm hll hset hjl HO
      go_wp2_with fail
      refine HJ.out.mono ?_; rintro e w2 ⟨rfl, hb⟩
      have HB2 := hid (btr HB.out hb)
      clear hb
      go_wp2
      go_ret
      exact ⟨rfl, HB2.out⟩
end Go.Proofs.YtkbiebacbebdnaaDoor
