/- Qw, Qx, Qpa, Qpb, Ffg, Qpc, Qpd, Qpe, Qpf. -/
import Derived.Test.YtmalpgbdemcmdaaDoorR3
namespace Go.Proofs.YtmalpgbdemcmdaaDoor
open Go.RowKit
def fig13 (x : Nat) : UInt8 := UInt8.ofNat (48 + x)
theorem fig_nat (x : Nat) (h : x < 10) : (fig13 x).toNat = 48 + x := by have := u8_48 x h; unfold fig13; omega
/-- The figures of a length. -/
theorem dg_ways (n : Nat) (h : n ≤ 60) : (n < 10 ∧ dg n = [fig13 n]) ∨ (10 ≤ n ∧ dg n = [fig13 (n / 10), fig13 (n % 10)]) := by
  by_cases h1 : n < 10
  · exact Or.inl ⟨h1, dg_small n h1⟩
  · refine Or.inr ⟨by omega, ?_⟩
    rw [dg_big n h1, dg_small (n / 10) (by omega)]
    rfl
theorem ltd_fig {s : ByteArray} {f a n g x : Nat} {L : List UInt8} (hx : x < 10) (hg : g ≠ 2) (h : St s a (fig13 x :: L)) : ltd s (f + 1) a n g = ltd s f (a + 1) (10 * n + (48 + x) - 48) (g + 1) := by
  rw [ltd, St.get h]
  simp only [fig_nat x hx]
  rw [if_neg (by omega), if_neg (by omega)]
theorem ltd_stop {s : ByteArray} {f a n g : Nat} {L : List UInt8} (h : St s a (125 :: L)) : ltd s (f + 1) a n g = some (some (n, g, a)) := by
  rw [ltd, St.get h]
  simp only []
  rw [if_pos (by decide)]
theorem ltd_none {s : ByteArray} {f a n g : Nat} (h : St s a []) : ltd s f a n g = none := by
  cases f with
  | zero => rfl
  | succ f => rw [ltd, St.none h]
theorem ltd_here {s : ByteArray} {n : Nat} {L : List UInt8} (hn : n ≤ 60) (f a : Nat) (h : St s a (dg n ++ 125 :: L)) : ∃ g, g ≠ 0 ∧ ltd s (f + 3) a 0 0 = some (some (n, g, a + (dg n).length)) := by
  rcases dg_ways n hn with ⟨h1, h2⟩ | ⟨h1, h2⟩
  · rw [h2] at h ⊢
    have k1 : St s a (fig13 n :: 125 :: L) := h
    rw [ltd_fig h1 (by decide) k1, ltd_stop (St.tail k1)]
    exact ⟨1, by decide, by simp⟩
  · rw [h2] at h ⊢
    have k1 : St s a (fig13 (n / 10) :: fig13 (n % 10) :: 125 :: L) := h
    have k2 := St.tail k1
    have k3 := St.tail k2
    rw [ltd_fig (by omega) (by decide) k1, ltd_fig (by omega) (by decide) k2, ltd_stop k3]
    refine ⟨2, by decide, ?_⟩
    simp
    omega
theorem ltd_end {s : ByteArray} {n m : Nat} (hn : n ≤ 60) (f a : Nat) (h : St s a ((dg n).take m)) : ltd s f a 0 0 = none := by
  cases f with
  | zero => rfl
  | succ f =>
    rcases dg_ways n hn with ⟨h1, h2⟩ | ⟨h1, h2⟩
    · rw [h2] at h
      cases m with
      | zero => exact ltd_none (by simpa using h)
      | succ m =>
        have k1 : St s a (fig13 n :: []) := by simpa using h
        rw [ltd_fig h1 (by decide) k1]
        exact ltd_none (St.tail k1)
    · rw [h2] at h
      match m with
      | 0 => exact ltd_none (by simpa using h)
      | 1 =>
        have k1 : St s a (fig13 (n / 10) :: []) := by simpa using h
        rw [ltd_fig (by omega) (by decide) k1]
        exact ltd_none (St.tail k1)
      | m + 2 =>
        have k1 : St s a (fig13 (n / 10) :: fig13 (n % 10) :: []) := by simpa using h
        rw [ltd_fig (by omega) (by decide) k1]
        cases f with
        | zero => rfl
        | succ f =>
          rw [ltd_fig (by omega) (by decide) (St.tail k1)]
          exact ltd_none (St.tail (St.tail k1))
def ltx (t : ByteArray) : ByteArray := (⟨#[123]⟩ ++ ⟨(dg t.size).toArray⟩) ++ ⟨#[125, 13, 10]⟩ ++ t
theorem b13_l (t : ByteArray) : b13 (ltx t) = 123 :: (dg t.size ++ 125 :: 13 :: 10 :: b13 t) := by
  unfold ltx b13
  rw [ByteArray.data_append, Array.toList_append, ByteArray.data_append, Array.toList_append, ByteArray.data_append, Array.toList_append]
  simp
theorem lte_here {s t : ByteArray} {a : Nat} {R : List UInt8} (h : St s a (13 :: 10 :: (b13 t ++ R))) : lte s t.size a = some (some (t, a + 2 + t.size)) := by
  have k1 := St.tail h
  have k2 := St.tail k1
  have hl := congrArg List.length (show (b13 s).drop (a + 1 + 1) = b13 t ++ R from k2)
  rw [List.length_drop, List.length_append, dat_len, dat_len] at hl
  have hl2 := St.le h (by simp)
  rw [List.length_cons, List.length_cons, List.length_append, dat_len] at hl2
  have hx : s.extract (a + 2) (a + 2 + t.size) = t := b13_inj (by have h3 := St.cut k2; rw [dat_len] at h3; exact h3)
  unfold lte
  rw [St.get h]
  simp only [St.get k1]
  rw [if_pos (by decide), if_pos (by decide), if_neg (by omega), hx]
theorem lte_end {s t : ByteArray} {a m : Nat} (hm : m < 2 + (b13 t).length) (h : St s a ((13 :: 10 :: b13 t).take m)) : lte s t.size a = none := by
  match m, hm with
  | 0, _ => unfold lte; rw [St.none (by simpa using h)]
  | 1, _ =>
    have k1 : St s a (13 :: []) := by simpa using h
    unfold lte
    rw [St.get k1]
    simp only [St.none (St.tail k1)]
    rw [if_pos (by decide)]
  | m + 2, hm =>
    have k1 : St s a (13 :: 10 :: (b13 t).take m) := by simpa using h
    have k2 := St.tail k1
    have hl := St.le k1 (by simp)
    rw [List.length_cons, List.length_cons, List.length_take] at hl
    rw [dat_len] at hl hm
    unfold lte
    rw [St.get k1]
    simp only [St.get k2]
    rw [if_pos (by decide), if_pos (by decide), if_pos (by omega)]
theorem tkn_literal {s t : ByteArray} {a : Nat} {R : List UInt8} (hk : t.size ≤ 60) (h : St s a (b13 (ltx t) ++ R)) : tkn s a = some (some ((2, t), a + (b13 (ltx t)).length)) := by
  rw [b13_l] at h
  have h0 : St s a (123 :: (dg t.size ++ 125 :: 13 :: 10 :: (b13 t ++ R))) := by simpa using h
  have hl := St.le h0 (by simp)
  rw [List.length_cons, List.length_append, List.length_cons, List.length_cons, List.length_cons] at hl
  obtain ⟨f, hf⟩ : ∃ f, s.size + 1 = f + 3 := ⟨s.size - 2, by omega⟩
  obtain ⟨g, hg, h1⟩ := ltd_here hk f (a + 1) (St.tail h0)
  have h2 : St s (a + 1 + (dg t.size).length + 1) (13 :: 10 :: (b13 t ++ R)) := St.tail (St.behind _ (St.tail h0))
  have h3 := lte_here h2
  have hr : lrd s a = some (some (t, a + 1 + (dg t.size).length + 1 + 2 + t.size)) := by
    unfold lrd
    rw [hf, h1]
    simp only []
    rw [if_neg (by omega), h3]
  unfold tkn
  rw [St.get h0]
  simp only []
  rw [if_neg (by decide), if_pos (by decide), hr]
  show some (some ((2, t), _)) = _
  rw [b13_l, List.length_cons, List.length_append, List.length_cons, List.length_cons, List.length_cons, dat_len]
  congr 3
  omega
theorem tkn_literal_end {s t : ByteArray} {a m : Nat} (hk : t.size ≤ 60) (hm : m < (b13 (ltx t)).length) (h : St s a ((b13 (ltx t)).take m)) : tkn s a = none := by
  rw [b13_l] at h hm
  rw [List.length_cons, List.length_append, List.length_cons, List.length_cons, List.length_cons] at hm
  cases m with
  | zero => unfold tkn; rw [St.none (by simpa using h)]
  | succ m =>
    rw [List.take_succ_cons] at h
    have hr : lrd s a = none := by
      by_cases hd : m ≤ (dg t.size).length
      · rw [List.take_append_of_le_length hd] at h
        unfold lrd
        rw [ltd_end hk _ _ (St.tail h)]
      · obtain ⟨k, rfl⟩ : ∃ k, m = (dg t.size).length + (k + 1) := ⟨m - (dg t.size).length - 1, by omega⟩
        rw [List.take_length_add_append, List.take_succ_cons] at h
        have hl := St.le h (by simp)
        rw [List.length_cons, List.length_append, List.length_cons] at hl
        have hd1 : 1 ≤ (dg t.size).length := by rcases dg_ways t.size hk with ⟨_, h2⟩ | ⟨_, h2⟩ <;> rw [h2] <;> simp
        obtain ⟨f, hf⟩ : ∃ f, s.size + 1 = f + 3 := ⟨s.size - 2, by omega⟩
        obtain ⟨g, hg, h1⟩ := ltd_here hk f (a + 1) (St.tail h)
        have h2 := St.tail (St.behind _ (St.tail h))
        have h3 := lte_end (t := t) (by omega) h2
        unfold lrd
        rw [hf, h1]
        simp only []
        rw [if_neg (by omega), h3]
    unfold tkn
    rw [St.get h]
    simp only []
    rw [if_neg (by decide), if_pos (by decide), hr]
    rfl
/-- The bytes of a token. -/
def tb (p : T2) : List UInt8 := b13 (ttx p.1 p.2)
theorem tkn_here {s : ByteArray} {a : Nat} {p : T2} {c : UInt8} {R : List UInt8} (hk : okt p) (hc : ato c = false) (h : St s a (tb p ++ c :: R)) : tkn s a = some (some (p, a + (tb p).length)) := by
  obtain ⟨kd, t⟩ := p
  rcases hk with ⟨h1, h2⟩ | ⟨h1, h2⟩
  · obtain rfl : kd = 1 := h1
    have e : ttx 1 t = t := rfl
    unfold tb at h ⊢
    simp only [e] at h ⊢
    exact tkn_atom h2 hc h
  · obtain rfl : kd = 2 := h1
    by_cases hq : qok t = true
    · have e : ttx 2 t = qtx t := by unfold ttx; rw [if_neg (by decide), if_pos hq]
      unfold tb at h ⊢
      simp only [e] at h ⊢
      exact tkn_quoted hq h
    · have e : ttx 2 t = ltx t := by unfold ttx; rw [if_neg (by decide), if_neg hq]; rfl
      unfold tb at h ⊢
      simp only [e] at h ⊢
      exact tkn_literal h2 h
/-- What is said of a token in part, or just all of it: more must come. -/
theorem tkn_part {s : ByteArray} {a m : Nat} {p : T2} (hk : okt p) (hm : m ≤ (tb p).length) (h : St s a ((tb p).take m)) : tkn s a = none ∨ (tkn s a = some (some (p, a + m)) ∧ s.data.toList[a + m]? = none) := by
  obtain ⟨kd, t⟩ := p
  rcases hk with ⟨h1, h2⟩ | ⟨h1, h2⟩
  · obtain rfl : kd = 1 := h1
    exact Or.inl (tkn_atom_end h2 h)
  · obtain rfl : kd = 2 := h1
    have hw : ∀ (u : ByteArray), ttx 2 t = u → (∀ R, St s a (b13 u ++ R) → tkn s a = some (some ((2, t), a + (b13 u).length))) → (∀ k, k < (b13 u).length → St s a ((b13 u).take k) → tkn s a = none) → tkn s a = none ∨ (tkn s a = some (some ((2, t), a + m)) ∧ s.data.toList[a + m]? = none) := by
      intro u e hA hB
      unfold tb at h hm
      simp only [e] at h hm
      by_cases hlt : m < (b13 u).length
      · exact Or.inl (hB m hlt h)
      · obtain rfl : m = (b13 u).length := by omega
        rw [List.take_length] at h
        have h' : St s a (b13 u ++ []) := by simpa using h
        exact Or.inr ⟨hA [] h', St.none (St.behind _ h')⟩
    by_cases hq : qok t = true
    · exact hw (qtx t) (by unfold ttx; rw [if_neg (by decide), if_pos hq]) (fun R hR => tkn_quoted hq hR) (fun k hk hR => tkn_quoted_end hq hk hR)
    · exact hw (ltx t) (by unfold ttx; rw [if_neg (by decide), if_neg hq]; rfl) (fun R hR => tkn_literal h2 hR) (fun k hk hR => tkn_literal_end h2 hk hR)
/-- What is said, without its end. -/
def bd : List T2 → List UInt8
  | [] => []
  | [x] => tb x
  | x :: y :: r => tb x ++ 32 :: bd (y :: r)
theorem bd_snoc : ∀ (l : List T2) (x : T2), bd (l ++ [x]) = if l = [] then tb x else bd l ++ 32 :: tb x
  | [], x => rfl
  | [y], x => rfl
  | y :: z :: r, x => by
    have h := bd_snoc (z :: r) x
    rw [if_neg (by simp)] at h
    rw [if_neg (by simp)]
    show tb y ++ 32 :: bd ((z :: r) ++ [x]) = _
    rw [h]
    simp [bd]
theorem tks_step {s : ByteArray} {f a n : Nat} {acc : List T2} {x : T2} (hl : acc.length + 1 ≤ 8) (h : tkn s a = some (some (x, n))) (h2 : ∃ L, St s n (32 :: L)) : tks s (f + 1) a acc = tks s f (n + 1) (acc ++ [x]) := by
  obtain ⟨L, h2⟩ := h2
  rw [tks, h]
  simp only [St.get h2]
  rw [if_neg (by simp; omega), if_neg (by decide), if_pos (by decide)]
theorem tks_last {s : ByteArray} {f a n : Nat} {acc : List T2} {x : T2} {R : List UInt8} (hl : acc.length + 1 ≤ 8) (h : tkn s a = some (some (x, n))) (h2 : St s n (13 :: 10 :: R)) : tks s (f + 1) a acc = some (some (acc ++ [x], n + 2)) := by
  rw [tks, h]
  simp only [St.get h2, St.get (St.tail h2)]
  rw [if_neg (by simp; omega), if_pos (by decide), if_pos (by decide)]
theorem tks_here {s : ByteArray} {R : List UInt8} : ∀ (l : List T2) (f a : Nat) (acc : List T2), l ≠ [] → (∀ p ∈ l, okt p) → acc.length + l.length ≤ 8 → l.length ≤ f → St s a (bd l ++ 13 :: 10 :: R) → tks s f a acc = some (some (acc ++ l, a + (bd l).length + 2))
  | [], _, _, _, h0, _, _, _, _ => absurd rfl h0
  | [x], f, a, acc, _, hk, hl, hf, h => by
    obtain ⟨f, rfl⟩ : ∃ g, f = g + 1 := ⟨f - 1, by simp at hf; omega⟩
    have h1 := tkn_here (hk x (by simp)) (by decide) h
    rw [tks_last (by simpa using hl) h1 (St.behind _ h)]
    rfl
  | x :: y :: r, f, a, acc, _, hk, hl, hf, h => by
    obtain ⟨f, rfl⟩ : ∃ g, f = g + 1 := ⟨f - 1, by simp at hf; omega⟩
    have h' : St s a (tb x ++ 32 :: (bd (y :: r) ++ 13 :: 10 :: R)) := by simpa [bd] using h
    have h1 := tkn_here (hk x (by simp)) (by decide) h'
    have h2 := St.behind _ h'
    rw [tks_step (by simp at hl; omega) h1 ⟨_, h2⟩]
    rw [tks_here (y :: r) f _ (acc ++ [x]) (by simp) (fun p hp => hk p (by simp at hp ⊢; exact Or.inr hp)) (by simp at hl ⊢; omega) (by simp at hf ⊢; omega) (St.tail h2)]
    have e : (bd (x :: y :: r)).length = (tb x).length + 1 + (bd (y :: r)).length := by simp [bd]; omega
    rw [e, List.append_assoc]
    congr 3
    omega
theorem tks_none {s : ByteArray} {f a : Nat} {acc : List T2} (hf : 0 < f) (h : tkn s a = none) : tks s f a acc = none := by
  obtain ⟨f, rfl⟩ : ∃ g, f = g + 1 := ⟨f - 1, by omega⟩
  rw [tks, h]
theorem tks_more {s : ByteArray} {f a n : Nat} {acc : List T2} {x : T2} (hf : 0 < f) (hl : acc.length + 1 ≤ 8) (h : tkn s a = some (some (x, n))) (h2 : s.data.toList[n]? = none) : tks s f a acc = none := by
  obtain ⟨f, rfl⟩ : ∃ g, f = g + 1 := ⟨f - 1, by omega⟩
  rw [tks, h]
  simp only [h2]
  rw [if_neg (by simp; omega)]
theorem tks_part {s : ByteArray} : ∀ (l : List T2) (f a m : Nat) (acc : List T2), l ≠ [] → (∀ p ∈ l, okt p) → acc.length + l.length ≤ 8 → l.length ≤ f → m < (bd l).length + 2 → St s a ((bd l ++ [13, 10]).take m) → tks s f a acc = none
  | [], _, _, _, _, h0, _, _, _, _, _ => absurd rfl h0
  | [x], f, a, m, acc, _, hk, hl, hf, hm, h => by
    have hf1 : 0 < f := by simp at hf; omega
    have hl1 : acc.length + 1 ≤ 8 := by simpa using hl
    have e : bd [x] = tb x := rfl
    rw [e] at h hm
    by_cases hd : m ≤ (tb x).length
    · rw [List.take_append_of_le_length hd] at h
      rcases tkn_part (hk x (by simp)) hd h with h1 | ⟨h1, h2⟩
      · exact tks_none hf1 h1
      · exact tks_more hf1 hl1 h1 h2
    · obtain rfl : m = (tb x).length + 1 := by omega
      rw [List.take_length_add_append] at h
      have h' : St s a (tb x ++ 13 :: []) := by simpa using h
      have h1 := tkn_here (hk x (by simp)) (by decide) h'
      have h2 := St.behind _ h'
      obtain ⟨f, rfl⟩ : ∃ g, f = g + 1 := ⟨f - 1, by omega⟩
      rw [tks, h1]
      simp only [St.get h2, St.none (St.tail h2)]
      rw [if_neg (by simp; omega), if_pos (by decide)]
  | x :: y :: r, f, a, m, acc, _, hk, hl, hf, hm, h => by
    have hf1 : 0 < f := by simp at hf; omega
    have hl1 : acc.length + 1 ≤ 8 := by simp at hl; omega
    have e : bd (x :: y :: r) = tb x ++ 32 :: bd (y :: r) := rfl
    have e2 : (bd (x :: y :: r)).length = (tb x).length + 1 + (bd (y :: r)).length := by simp [bd]; omega
    rw [e2] at hm
    rw [e, List.append_assoc] at h
    by_cases hd : m ≤ (tb x).length
    · rw [List.take_append_of_le_length hd] at h
      rcases tkn_part (hk x (by simp)) hd h with h1 | ⟨h1, h2⟩
      · exact tks_none hf1 h1
      · exact tks_more hf1 hl1 h1 h2
    · obtain ⟨k, rfl⟩ : ∃ k, m = (tb x).length + (k + 1) := ⟨m - (tb x).length - 1, by omega⟩
      rw [List.take_length_add_append, List.cons_append, List.take_succ_cons] at h
      have h1 := tkn_here (hk x (by simp)) (by decide) h
      have h2 := St.behind _ h
      obtain ⟨f, rfl⟩ : ∃ g, f = g + 1 := ⟨f - 1, by omega⟩
      rw [tks_step hl1 h1 ⟨_, h2⟩]
      exact tks_part (y :: r) f _ k (acc ++ [x]) (by simp) (fun p hp => hk p (by simp at hp ⊢; exact Or.inr hp)) (by simp at hl ⊢; omega) (by simp at hf ⊢; omega) (by omega) (St.tail h2)
/-- What is said of these tokens. -/
def sdt (l : List T2) : ByteArray := ⟨(bd l ++ [13, 10]).toArray⟩
theorem sdt_size (l : List T2) : (sdt l).size = (bd l).length + 2 := by show (bd l ++ [13, 10]).toArray.size = _; simp
theorem rtk_said {l : List T2} (h0 : l ≠ []) (hk : ∀ p ∈ l, okt p) (hl : l.length ≤ 4) (r : ByteArray) : (¬ 200 < (sdt l).size ∧ rtk (sdt l ++ r) = (l, r, 0)) ∨ (200 < (sdt l).size ∧ ∃ t, rtk (sdt l ++ r) = ([], t, 2)) := by
  have hb : (sdt l ++ r).data.toList = bd l ++ 13 :: 10 :: b13 r := by
    rw [ByteArray.data_append, Array.toList_append]
    show (bd l ++ [13, 10]) ++ b13 r = _
    simp
  have h1 := tks_here (s := sdt l ++ r) (R := b13 r) l 9 0 [] h0 hk (by simp; omega) (by omega) (by show List.drop 0 _ = _; rw [List.drop_zero]; exact hb)
  rw [rtk_ok h1]
  have hs := sdt_size l
  have hn : 0 + (bd l).length + 2 = (sdt l).size := by omega
  rw [hn]
  by_cases h2 : 200 < (sdt l).size
  · exact Or.inr ⟨h2, _, by rw [if_pos h2]⟩
  · refine Or.inl ⟨h2, ?_⟩
    rw [if_neg h2]
    have e : (sdt l ++ r).extract (sdt l).size (sdt l ++ r).size = r := by
      apply ba_ext13
      rw [ByteArray.data_extract, Array.toList_extract, List.extract_eq_take_drop, hb]
      have hz : (sdt l ++ r).size = (bd l ++ 13 :: 10 :: b13 r).length := by rw [← hb, dat_len]
      rw [hz, hs]
      have e3 : bd l ++ 13 :: 10 :: b13 r = (bd l ++ [13, 10]) ++ b13 r := by simp
      rw [e3, show (bd l).length + 2 = (bd l ++ [13, 10]).length by simp, List.drop_left]
      rw [List.take_of_length_le (by simp; omega)]
    rw [e]
    rfl
theorem rtk_cut {l : List T2} (h0 : l ≠ []) (hk : ∀ p ∈ l, okt p) (hl : l.length ≤ 4) (m : Nat) (hm : m < (sdt l).size) (h2 : (sdt l).size ≤ 200) : rtk ((sdt l).extract 0 m) = ([], (sdt l).extract 0 m, 1) := by
  have hb : ((sdt l).extract 0 m).data.toList = (bd l ++ [13, 10]).take m := by
    rw [ByteArray.data_extract, Array.toList_extract, List.extract_eq_take_drop]
    show ((bd l ++ [13, 10]).drop 0).take (m - 0) = _
    simp
  have hs := sdt_size l
  have h1 := tks_part (s := (sdt l).extract 0 m) l 9 0 m [] h0 hk (by simp; omega) (by omega) (by omega) (by show List.drop 0 _ = _; rw [List.drop_zero]; exact hb)
  rw [rtk_none h1, if_pos (by rw [ByteArray.size_extract]; omega)]
/-- What is said so far: the next token. -/
theorem sdt_next (l : List T2) (x : T2) : (⟨(bd (l ++ [x])).toArray⟩ : ByteArray) = if l = [] then ⟨(bd l).toArray⟩ ++ ttx x.1 x.2 else ⟨(bd l).toArray⟩ ++ ⟨#[32]⟩ ++ ttx x.1 x.2 := by
  apply ba_ext13
  by_cases h : l = []
  · subst h
    rw [if_pos rfl, ByteArray.data_append, Array.toList_append]
    show bd ([] ++ [x]) = _
    simp [bd, tb]
  · rw [if_neg h, ByteArray.data_append, Array.toList_append, ByteArray.data_append, Array.toList_append]
    show bd (l ++ [x]) = _
    rw [bd_snoc, if_neg h]
    simp [tb]
theorem sdt_end (l : List T2) : (⟨(bd l).toArray⟩ ++ ⟨#[13, 10]⟩ : ByteArray) = sdt l := by
  apply ba_ext13
  rw [ByteArray.data_append, Array.toList_append]
  show _ = (bd l ++ [13, 10] : List UInt8)
  simp
theorem bd_size : ∀ (l : List T2), (∀ p ∈ l, okt p) → (bd l).length ≤ l.length * 126
  | [], _ => Nat.le_refl _
  | [x], h => by
    have h1 := ttx_size (kd := x.1) (t := x.2) (h x (by simp))
    have h2 : (tb x).length = (ttx x.1 x.2).size := dat_len _
    show (tb x).length ≤ _
    simp
    omega
  | x :: y :: r, h => by
    have h1 := ttx_size (kd := x.1) (t := x.2) (h x (by simp))
    have h2 : (tb x).length = (ttx x.1 x.2).size := dat_len _
    have h3 := bd_size (y :: r) (fun p hp => h p (by simp at hp ⊢; exact Or.inr hp))
    simp only [bd, List.length_append, List.length_cons] at h3 ⊢
    omega
theorem plainSign_any (r : Int) (w : World) : Calls Tryd.prog 38 #[.int .i32 r] w fun e w' => e = .returned (.bool (decide (32 ≤ r) && decide (r ≤ 126))) ∧ w' = w := by
  by_cases h1 : 32 ≤ r
  · by_cases h2 : r ≤ 126
    · have HA : Hid ((decide (32 ≤ r) && decide (r ≤ 126)) = true) := hid (by rw [decide_eq_true h1, decide_eq_true h2]; rfl)
      rw [HA.out]
      go_enter Tryd.func38, Tryd.ntmps38
      go_wp2
      go_ret
      exact ⟨rfl, rfl⟩
    · have HA : Hid ((decide (32 ≤ r) && decide (r ≤ 126)) = false) := hid (by rw [decide_eq_false h2, Bool.and_false])
      rw [HA.out]
      go_enter Tryd.func38, Tryd.ntmps38
      go_wp2
      go_ret
      exact ⟨rfl, rfl⟩
  · have HA : Hid ((decide (32 ≤ r) && decide (r ≤ 126)) = false) := hid (by rw [decide_eq_false h1, Bool.false_and])
    rw [HA.out]
    go_enter Tryd.func38, Tryd.ntmps38
    go_wp2
    go_ret
    exact ⟨rfl, rfl⟩
theorem turnedSign_any (r : Int) (w : World) : Calls Tryd.prog 39 #[.int .i32 r] w fun e w' => e = .returned (.bool ((r == 34) || (r == 92))) ∧ w' = w := by
  by_cases h1 : r = 34
  · subst h1
    go_enter Tryd.func39, Tryd.ntmps39
    go_wp2
    go_ret
    exact ⟨rfl, rfl⟩
  · have i1 : (r == 34) = false := by rw [beq_eq_false_iff_ne]; exact h1
    have HA : Hid (((r == 34) || (r == 92)) = (r == 92)) := hid (by rw [i1]; rfl)
    rw [HA.out]
    go_enter Tryd.func39, Tryd.ntmps39
    go_wp2
    go_ret
    exact ⟨rfl, rfl⟩
theorem idxLite_any (s : ByteArray) (c : Int) (w : World) :
    Calls Tryd.prog 66 #[.string s, .int .u8 c] w fun e w' => e = .returned (.int .i64 (firstIdx s c.toNat.toUInt8)) ∧ w' = w := by
  go_enter Tryd.func66, Tryd.ntmps66
  go_wp2
  rw [run_callFunc_extern Tryd.func78 (by kernel_rfl) (by kernel_rfl) (by kernel_rfl) (e := Extern.BytealgIndexByte.indexByte) (by kernel_rfl), run_indexByte_string]
  simp only [Result.andThen]
  rw [Oper.upon_value]
  go_wp2
  go_ret
  exact ⟨rfl, rfl⟩
theorem idxByte_any (s : ByteArray) (c : Int) (w : World) :
    Calls Tryd.prog 70 #[.string s, .int .u8 c] w fun e w' => e = .returned (.int .i64 (firstIdx s c.toNat.toUInt8)) ∧ w' = w := by
  go_enter Tryd.func70, Tryd.ntmps70
  go_wp2_with fail
  refine (idxLite_any s c _).mono ?_; rintro e w1 ⟨rfl, rfl⟩
  go_wp2
  go_ret
  exact ⟨rfl, rfl⟩
set_option maxRecDepth 100000 in
set_option maxHeartbeats 1600000 in
theorem idxRune_any (s : ByteArray) (r : Int) (w : World) (h0 : 0 ≤ r) (h1 : r < 128) :
    Calls Tryd.prog 60 #[.string s, .int .i32 r] w fun e w' => e = .returned (.int .i64 (firstIdx s r.toNat.toUInt8)) ∧ w' = w := by
  have hw : IntKind.u8.wrap r = r := by rw [IntKind.wrap_u8]; omega
  go_enter Tryd.func60, Tryd.ntmps60
  go_wp2_with fail
  refine (idxByte_any s r _).mono ?_; rintro e w1 ⟨rfl, rfl⟩
  go_wp2
  go_ret
  exact ⟨rfl, rfl⟩
theorem hasRune_any (s : ByteArray) (r : Int) (w : World) (h0 : 0 ≤ r) (h1 : r < 128) :
    Calls Tryd.prog 53 #[.string s, .int .i32 r] w fun e w' => e = .returned (.bool (s.data.toList.any (· == r.toNat.toUInt8))) ∧ w' = w := by
  have hf := hid (firstIdx_nonneg s r.toNat.toUInt8)
  obtain ⟨n, hn⟩ : ∃ n, firstIdx s r.toNat.toUInt8 = n := ⟨_, rfl⟩
  rw [hn] at hf
  have HN := hid hn
  clear hn
  go_enter Tryd.func53, Tryd.ntmps53
  go_wp2_with fail
  refine (idxRune_any s r _ h0 h1).mono ?_; rintro e w1 ⟨rfl, rfl⟩
  rw [HN.out]
  go_wp2
  go_ret
  refine ⟨?_, rfl⟩
  rw [← hf.out]
  rfl
/-- A rune that may stand in an atom. -/
def aso (r : Int) : Bool := decide (32 < r) && decide (r ≤ 126) && !([34, 40, 41, 123, 125, 92].any (fun b : UInt8 => b == r.toNat.toUInt8))
theorem atomSign_any (r : Int) (w : World) : Calls Tryd.prog 41 #[.int .i32 r] w fun e w' => e = .returned (.bool (aso r)) ∧ w' = w := by
  by_cases h1 : 32 < r
  · by_cases h2 : r ≤ 126
    · obtain ⟨c, hc⟩ : ∃ c : Bool, [34, 40, 41, 123, 125, 92].any (fun b : UInt8 => b == r.toNat.toUInt8) = c := ⟨_, rfl⟩
      have HA : Hid (aso r = !c) := hid (by unfold aso; rw [decide_eq_true h1, decide_eq_true h2, hc]; rfl)
      have HC := hid (fun W : World => hasRune_any ⟨#[34, 40, 41, 123, 125, 92]⟩ r W (by omega) (by omega))
      have HD : Hid ((⟨#[34, 40, 41, 123, 125, 92]⟩ : ByteArray).data.toList.any (· == r.toNat.toUInt8) = c) := hid hc
      clear hc
      rw [HA.out]
      have hp : (decide (32 ≤ r) && decide (r ≤ 126)) = true := by rw [decide_eq_true (by omega : 32 ≤ r), decide_eq_true h2]; rfl
      have HP := hid hp
      clear hp
      go_enter Tryd.func41, Tryd.ntmps41
      go_wp2_with fail
      refine (plainSign_any r _).mono ?_; rintro e w1 ⟨rfl, rfl⟩
      rw [HP.out]
      go_wp2_with fail
      refine (HC.out _).mono ?_; rintro e w2 ⟨rfl, rfl⟩
      rw [HD.out]
      go_wp2
      go_ret
      exact ⟨rfl, rfl⟩
    · have HA : Hid (aso r = false) := hid (by unfold aso; rw [decide_eq_false h2, Bool.and_false, Bool.false_and])
      have hp : (decide (32 ≤ r) && decide (r ≤ 126)) = false := by rw [decide_eq_false h2, Bool.and_false]
      have HP := hid hp
      clear hp
      rw [HA.out]
      go_enter Tryd.func41, Tryd.ntmps41
      go_wp2_with fail
      refine (plainSign_any r _).mono ?_; rintro e w1 ⟨rfl, rfl⟩
      rw [HP.out]
      go_wp2
      go_ret
      exact ⟨rfl, rfl⟩
  · have HA : Hid (aso r = false) := hid (by unfold aso; rw [decide_eq_false h1, Bool.false_and, Bool.false_and])
    rw [HA.out]
    go_enter Tryd.func41, Tryd.ntmps41
    go_wp2
    go_ret
    exact ⟨rfl, rfl⟩
/-- How many bytes stand ahead of the first one that is none of these. -/
def lead (p : Nat → Bool) (s : ByteArray) : Nat := (s.data.toList.takeWhile (fun b => p b.toNat)).length
theorem tw_stop {α : Type} (q : α → Bool) : ∀ (l : List α) (i : Nat), (l.take i).all q = true → (∀ x, l[i]? = some x → q x = false) → i ≤ l.length → (l.takeWhile q).length = i
  | [], i, _, _, h => by simp at h; simp [h]
  | x :: l, 0, _, h, _ => by
    have := h x rfl
    simp [this]
  | x :: l, i + 1, ha, h, hl => by
    simp only [List.take_succ_cons, List.all_cons, Bool.and_eq_true] at ha
    have := tw_stop q l i ha.2 (fun y hy => h y (by simpa using hy)) (by simpa using hl)
    simp [ha.1, this]
theorem lead_stop {p : Nat → Bool} {s : ByteArray} {i : Nat} (h : i < s.size) (ha : (s.data.toList.take i).all (fun b => p b.toNat) = true) (hc : p s[i].toNat = false) : lead p s = i := by
  refine tw_stop _ _ _ ha ?_ (by rw [dat_len]; omega)
  intro x hx
  have h2 : s.data.toList[i]? = some s[i] := by
    rw [List.getElem?_eq_getElem (by rw [dat_len]; exact h)]; rfl
  rw [h2] at hx
  cases hx
  exact hc
theorem lead_all {p : Nat → Bool} {s : ByteArray} {i : Nat} (h : ¬ i < s.size) (ha : (s.data.toList.take i).all (fun b => p b.toNat) = true) : lead p s = s.size := by
  rw [List.take_of_length_le (by rw [dat_len]; omega)] at ha
  unfold lead
  have key : ∀ l : List UInt8, l.all (fun b => p b.toNat) = true → l.takeWhile (fun b => p b.toNat) = l := by
    intro l
    induction l with
    | nil => intro _; rfl
    | cons x l ih =>
      intro h
      rw [List.all_cons, Bool.and_eq_true] at h
      rw [List.takeWhile_cons, if_pos h.1, ih h.2]
  rw [key _ ha, dat_len]
theorem lead_le (p : Nat → Bool) (s : ByteArray) : lead p s ≤ s.size := by
  unfold lead
  rw [← dat_len s]
  exact List.Sublist.length_le (List.takeWhile_sublist _)
theorem led_take {p : Nat → Bool} {s : ByteArray} {k : Nat} (h : k < s.size) (ha : (s.data.toList.take k).all (fun b => p b.toNat) = true) (hc : p s[k].toNat = true) : (s.data.toList.take (k + 1)).all (fun b => p b.toNat) = true := by
  rw [dat_take s k h, List.all_append, ha, Bool.true_and]
  simp [hc]
set_option maxHeartbeats 1600000 in
set_option maxRecDepth 100000 in
/-- signsAhead over a function that tells bytes of one sign apart and takes no greater rune. -/
theorem signsAhead_any (F : Nat) (p : Nat → Bool) (eg : ∀ args w, (callFunc F args).run Tryd.prog w = .ok (.enter F args) w)
    (hF : ∀ (r : Nat) (W : World), Calls Tryd.prog F (#[.int .i32 (r : Int)] ++ #[]) W fun e w' => e = .returned (.bool (p r)) ∧ w' = W) (hp : ∀ r, 128 ≤ r → p r = false)
    (s : ByteArray) (w : World) (_hs : s.size ≤ 1048576) :
    Calls Tryd.prog 40 #[.string s, .func (.func F) #[] #[]] w fun e w' => e = .returned (.int .i64 (lead p s : Nat)) ∧ Below w.heap.size w w' := by
  have HP := hid hp
  clear hp
  go_enter Tryd.func40, Tryd.ntmps40
  go_wp2
  go_loopw [5, 6] (fun _ _ wr => ∃ pos : Nat, pos ≤ s.size ∧ Hid ((s.data.toList.take pos).all (fun b => p b.toNat) = true) ∧ wr.heap[w.heap.size]? = some (.stringIter s pos) ∧ Below w.heap.size w wr) (fun _ _ wr => s.size - wr.iterPos w.heap.size)
  case atStart => exact ⟨0, Nat.zero_le _, rfl, by simpa using World.iter_heap w s 0, bpush (bre _) _⟩
  case round =>
    obtain ⟨pos, hle, HA, hit, hbw⟩ := hrel
    have HB := hid hbw
    clear hbw
    by_cases hlt : pos < s.size
    · obtain ⟨r, hr⟩ : ∃ r : Nat, (Utf8.decode s pos).1 = r := ⟨_, rfl⟩
      obtain ⟨d, hd⟩ : ∃ d : Nat, (Utf8.decode s pos).2 = d := ⟨_, rfl⟩
      have hnx : ∀ ty, (Instr.next (.pointer (some ⟨w.heap.size, 0, none⟩)) true ty).run Tryd.prog wr = _ := fun ty => Lib.run_next_any_at wr w.heap.size s pos ty hit hlt
      rw [hr, hd] at hnx
      have hit2 := Lib.iterAt_heap wr w.heap.size s pos (pos + d) hit
      have HB2 := hid (Lib.below_iterAt HB.out (Nat.le_refl _) s (pos + d))
      have HR : Hid (p r = p s[pos].toNat ∧ (p r = true → d = 1)) := by
        by_cases h1 : s[pos].toNat < 128
        · have h2 := decode_ascii s pos hlt h1
          rw [h2] at hr hd
          simp only at hr hd
          subst hr hd
          exact ⟨rfl, fun _ => rfl⟩
        · have h2 := (decode_high s pos hlt (by omega)).1
          rw [hr] at h2
          have h3 := HP.out r h2
          exact ⟨by rw [h3, HP.out _ (by omega)], fun h => by rw [h3] at h; cases h⟩
      clear hr hd
      obtain ⟨c, hc⟩ : ∃ c, p r = c := ⟨_, rfl⟩
      rw [hc] at HR
      have HC := hid hc
      clear hc
      go_wp2_with fail
      refine (hF r _).mono ?_; rintro e w1 ⟨rfl, rfl⟩
      rw [HC.out]
      cases c with
      | true =>
        have hd1 := HR.out.2 rfl
        subst hd1
        have HN := hid (led_take hlt HA.out HR.out.1.symm)
        go_wp2
        go_roundw
        case rel => exact ⟨pos + 1, by omega, HN.out, hit2, HB2.out⟩
        case measure =>
          have e1 : ((wr.iterAt w.heap.size s (pos + 1)).iterPos w.heap.size) = pos + 1 := by simp only [World.iterPos, hit2]
          have e2 : wr.iterPos w.heap.size = pos := by simp only [World.iterPos, hit]
          rw [e1, e2]
          omega
      | false =>
        have HN := hid (lead_stop hlt HA.out HR.out.1.symm)
        go_wp2
        go_ret
        exact ⟨by rw [HN.out]; rfl, HB2.out⟩
    · have hnx : ∀ ty, (Instr.next (.pointer (some ⟨w.heap.size, 0, none⟩)) true ty).run Tryd.prog wr = _ := fun ty => Lib.run_next_end_at wr w.heap.size s pos ty hit hlt
      have HN := hid (lead_all hlt HA.out)
      go_wp2
      go_ret
      exact ⟨by rw [HN.out]; rfl, HB.out⟩
theorem figureSign_any (r : Int) (w : World) : Calls Tryd.prog 76 #[.int .i32 r] w fun e w' => e = .returned (.bool (decide (48 ≤ r) && decide (r ≤ 57))) ∧ w' = w := by
  by_cases h1 : 48 ≤ r
  · have HD : Hid ((decide (48 ≤ r) && decide (r ≤ 57)) = decide (r ≤ 57)) := hid (by rw [decide_eq_true h1, Bool.true_and])
    rw [HD.out]
    go_enter Tryd.func76, Tryd.ntmps76
    go_wp2
    go_ret
    exact ⟨rfl, rfl⟩
  · have HD : Hid ((decide (48 ≤ r) && decide (r ≤ 57)) = false) := hid (by rw [decide_eq_false h1, Bool.false_and])
    rw [HD.out]
    go_enter Tryd.func76, Tryd.ntmps76
    go_wp2
    go_ret
    exact ⟨rfl, rfl⟩
def fg (b : UInt8) : Bool := decide (48 ≤ b.toNat) && decide (b.toNat ≤ 57)
def fga (s : ByteArray) : Nat := lead (fun r => decide (48 ≤ (r : Int)) && decide ((r : Int) ≤ 57)) s
theorem fga_any (s : ByteArray) (w : World) (hs : s.size ≤ 1048576) :
    Calls Tryd.prog 40 #[.string s, .func (.func 76) #[] #[]] w fun e w' => e = .returned (.int .i64 (fga s : Nat)) ∧ Below w.heap.size w w' :=
  signsAhead_any 76 (fun r => decide (48 ≤ (r : Int)) && decide ((r : Int) ≤ 57)) (enters_of Tryd.func76 (by kernel_rfl) rfl) (fun r W => figureSign_any r W) (fun r h => by simp; omega) s w hs
/-- The number that figures make. -/
def vlf (n : Nat) (l : List UInt8) : Nat := l.foldl (fun n b => 10 * n + b.toNat - 48) n
theorem vlf_snoc (n : Nat) (l : List UInt8) (b : UInt8) : vlf n (l ++ [b]) = 10 * vlf n l + b.toNat - 48 := by unfold vlf; rw [List.foldl_append]; rfl
theorem vlf_le4 (l : List UInt8) (hl : l.length ≤ 4) (h : ∀ b ∈ l, 48 ≤ b.toNat ∧ b.toNat ≤ 57) : vlf 0 l ≤ 9999 := by
  rcases l with _ | ⟨x, _ | ⟨y, _ | ⟨z, _ | ⟨u, _ | ⟨v, L⟩⟩⟩⟩⟩
  · simp [vlf]
  · have := h x (by simp)
    simp only [vlf, List.foldl_cons, List.foldl_nil]
    omega
  · have := h x (by simp)
    have := h y (by simp)
    simp only [vlf, List.foldl_cons, List.foldl_nil]
    omega
  · have := h x (by simp)
    have := h y (by simp)
    have := h z (by simp)
    simp only [vlf, List.foldl_cons, List.foldl_nil]
    omega
  · have := h x (by simp)
    have := h y (by simp)
    have := h z (by simp)
    have := h u (by simp)
    simp only [vlf, List.foldl_cons, List.foldl_nil]
    omega
  · simp at hl
theorem allf_tw {α : Type} (q : α → Bool) : ∀ l : List α, (∀ x ∈ l, q x = true) → (l.takeWhile q).length = l.length
  | [], _ => rfl
  | y :: l, h => by rw [List.takeWhile_cons, if_pos (h y (by simp)), List.length_cons, List.length_cons, allf_tw q l (fun x hx => h x (List.mem_cons_of_mem _ hx))]
/-- All bytes are figures, or a sign stands among them that is none. -/
theorem fga_all (s : ByteArray) (h : ∀ b ∈ s.data.toList, 48 ≤ b.toNat ∧ b.toNat ≤ 57) : fga s = s.size := by
  unfold fga lead
  rw [allf_tw _ _ (fun b hb => by have := h b hb; simp; omega), dat_len]
theorem ne_emp {s : ByteArray} (h : 0 < s.size) : s.toList.isEmpty = false := by
  rw [ByteArray.toList_eq]
  cases hl : s.data.toList with
  | nil => have h := dat_len s; rw [hl] at h; simp at h; omega
  | cons => rfl
set_option maxHeartbeats 1600000 in
set_option maxRecDepth 100000 in
theorem fewFigures_bad (s : ByteArray) (most : Nat) (mi : Int) (hmi : mi = (most : Int)) (w : World) (hs : s.size = 0 ∨ most < s.size ∨ fga s < s.size) (hm : s.size ≤ 1048576) :
    Calls Tryd.prog 77 #[.string s, .int .i64 mi] w fun e w' => e = .returned (.tuple #[.int .i64 0, .bool false]) ∧ Below w.heap.size w w' := by
  subst hmi
  by_cases h0 : s.size = 0
  · have hx0 : s = ⟨#[]⟩ := by
      cases s; simp only [ByteArray.mk.injEq]; simpa [ByteArray.size] using h0
    clear hs hm h0
    subst hx0
    go_enter Tryd.func77, Tryd.ntmps77
    go_wp2
    go_ret2
    exact ⟨rfl, bre _⟩
  · by_cases h1 : most < s.size
    · have hi : (most : Int) < (s.size : Int) := by omega
      have hne := ne_emp (s := s) (by omega)
      clear h0 hs h1
      go_enter Tryd.func77, Tryd.ntmps77
      go_wp2
      go_ret2
      exact ⟨rfl, bre _⟩
    · have h2 : fga s < s.size := by omega
      have hi : ¬ (most : Int) < (s.size : Int) := by omega
      have hne := ne_emp (s := s) (by omega)
      have HF := hid (fga_any s w hm)
      obtain ⟨k, hk⟩ : ∃ k, fga s = k := ⟨_, rfl⟩
      rw [hk] at HF h2
      have hj : (k : Int) < (s.size : Int) := by omega
      clear h0 hs h1 h2 hk
      go_enter Tryd.func77, Tryd.ntmps77
      go_wp2_with fail
      refine HF.out.mono ?_; rintro e w1 ⟨rfl, hb⟩
      have HB := hid hb
      clear hb
      go_wp2
      go_ret2
      exact ⟨rfl, HB.out⟩
set_option maxHeartbeats 1600000 in
set_option maxRecDepth 100000 in
theorem fewFigures_any (s : ByteArray) (most : Nat) (mi : Int) (hmi : mi = (most : Int)) (w : World) (h0 : 0 < s.size) (hs : s.size ≤ most) (h4 : most ≤ 4) (hf : ∀ b ∈ s.data.toList, 48 ≤ b.toNat ∧ b.toNat ≤ 57) :
    Calls Tryd.prog 77 #[.string s, .int .i64 mi] w fun e w' => e = .returned (.tuple #[.int .i64 ((vlf 0 s.data.toList : Nat) : Int), .bool true]) ∧ Below w.heap.size w w' := by
  subst hmi
  have hne := ne_emp h0
  clear h0
  have HFG := hid hf
  have hi : ¬ (most : Int) < (s.size : Int) := by omega
  have HF := hid (fun W => fga_any s W (by omega))
  rw [fga_all s hf] at HF
  have HS4 := hid (Nat.le_trans hs h4)
  clear hf hs h4
  go_enter Tryd.func77, Tryd.ntmps77
  go_wp2_with fail
  refine (HF.out _).mono ?_; rintro e w1 ⟨rfl, hb0⟩
  have HB0 := hid hb0
  clear hb0
  go_wp2
  go_loopw [6, 8] (fun nv _ wr => ∃ (pos n : Nat), pos ≤ s.size ∧ nv = .int .i64 (n : Int) ∧ Hid (n = vlf 0 (s.data.toList.take pos)) ∧ wr.heap[w1.heap.size]? = some (.stringIter s pos) ∧ Below w1.heap.size w1 wr) (fun _ _ wr => s.size - wr.iterPos w1.heap.size)
  case atStart => exact ⟨0, 0, Nat.zero_le _, rfl, rfl, by simpa using World.iter_heap w1 s 0, bpush (bre _) _⟩
  case round =>
    obtain ⟨pos, n, hle, rfl, HN, hit, hbw⟩ := hrel
    have HB := hid hbw
    clear hbw
    have hn9 : n ≤ 9999 := by
      rw [HN.out]
      exact vlf_le4 _ (by have := HS4.out; rw [List.length_take, dat_len]; omega) (fun b hb => HFG.out b (List.mem_of_mem_take hb))
    by_cases hlt : pos < s.size
    · obtain ⟨r, hr⟩ : ∃ r : Nat, (Utf8.decode s pos).1 = r := ⟨_, rfl⟩
      obtain ⟨d, hd⟩ : ∃ d : Nat, (Utf8.decode s pos).2 = d := ⟨_, rfl⟩
      have hnx : ∀ ty, (Instr.next (.pointer (some ⟨w1.heap.size, 0, none⟩)) true ty).run Tryd.prog wr = _ := fun ty => Lib.run_next_any_at wr w1.heap.size s pos ty hit hlt
      rw [hr, hd] at hnx
      have hit2 := Lib.iterAt_heap wr w1.heap.size s pos (pos + d) hit
      have HB2 := hid (Lib.below_iterAt HB.out (Nat.le_refl _) s (pos + d))
      have hfig : 48 ≤ s[pos].toNat ∧ s[pos].toNat ≤ 57 := HFG.out _ (by rw [show s[pos] = s.data.toList[pos]'(by rw [dat_len]; exact hlt) from rfl]; exact List.getElem_mem _)
      have h2 := decode_ascii s pos hlt (by omega)
      rw [h2] at hr hd
      simp only at hr hd
      subst hd
      have HNN : Hid (10 * n + r - 48 = vlf 0 (s.data.toList.take (pos + 1))) := hid (by rw [dat_take s pos hlt, vlf_snoc, ← HN.out, hr])
      rw [hr] at hfig
      clear hr h2
      go_wp2
      go_roundw
      case rel => exact ⟨pos + 1, 10 * n + r - 48, by omega, by go_num, HNN.out, hit2, HB2.out⟩
      case measure =>
        have e1 : ((wr.iterAt w1.heap.size s (pos + 1)).iterPos w1.heap.size) = pos + 1 := by simp only [World.iterPos, hit2]
        have e2 : wr.iterPos w1.heap.size = pos := by simp only [World.iterPos, hit]
        rw [e1, e2]
        omega
    · have hnx : ∀ ty, (Instr.next (.pointer (some ⟨w1.heap.size, 0, none⟩)) true ty).run Tryd.prog wr = _ := fun ty => Lib.run_next_end_at wr w1.heap.size s pos ty hit hlt
      have HNN : Hid (vlf 0 s.data.toList = n) := hid (by rw [HN.out, List.take_of_length_le (by rw [dat_len]; omega)])
      go_wp2
      go_ret2
      exact ⟨by rw [HNN.out]; rfl, btr HB0.out HB.out⟩
set_option maxRecDepth 100000 in
theorem aso_ato (b : UInt8) : aso (b.toNat : Int) = ato b := by
  obtain ⟨c, hc⟩ : ∃ c : Nat, b.toNat = c := ⟨_, rfl⟩
  have hb : b = c.toUInt8 := by rw [← hc]; simp
  have hl : c < 256 := by rw [← hc]; exact b.toNat_lt
  subst hb
  have key : ∀ c : Fin 256, aso ((c : Nat).toUInt8.toNat : Int) = ato (c : Nat).toUInt8 := by decide
  exact key ⟨c, hl⟩
theorem aso_high (r : Nat) (h : 128 ≤ r) : aso (r : Int) = false := by
  unfold aso
  rw [decide_eq_false (by omega : ¬ (r : Int) ≤ 126), Bool.and_false, Bool.false_and]
theorem aso_all : ∀ l : List UInt8, l.all (fun b => aso (b.toNat : Int)) = l.all ato := by
  intro l
  induction l with
  | nil => rfl
  | cons x l ih => rw [List.all_cons, List.all_cons, aso_ato, ih]
theorem tw_all {α : Type} (q : α → Bool) : ∀ l : List α, (l.takeWhile q).all q = true
  | [] => rfl
  | x :: l => by
    rw [List.takeWhile_cons]
    cases h : q x with
    | true => simp [h, tw_all q l]
    | false => rfl
def lda (s : ByteArray) : Nat := lead (fun r => aso (r : Int)) s
theorem lda_any (s : ByteArray) (w : World) (hs : s.size ≤ 1048576) :
    Calls Tryd.prog 40 #[.string s, .func (.func 41) #[] #[]] w fun e w' => e = .returned (.int .i64 (lda s : Nat)) ∧ Below w.heap.size w w' :=
  signsAhead_any 41 (fun r => aso (r : Int)) (enters_of Tryd.func41 (by kernel_rfl) rfl) (fun r W => atomSign_any r W) aso_high s w hs
theorem lda_size (s : ByteArray) : (lda s == s.size) = s.data.toList.all ato := by
  rw [← aso_all s.data.toList]
  cases h : s.data.toList.all (fun b => aso (b.toNat : Int)) with
  | true =>
    have := lead_all (p := fun r => aso (r : Int)) (s := s) (i := s.size) (by omega) (by rw [List.take_of_length_le (by rw [dat_len]; omega)]; exact h)
    unfold lda
    rw [this]
    simp
  | false =>
    rw [beq_eq_false_iff_ne]
    intro he
    have hx : (s.data.toList.takeWhile (fun b => aso (b.toNat : Int))).length = s.data.toList.length := by rw [dat_len]; exact he
    have hy := (List.takeWhile_sublist (l := s.data.toList) (fun b => aso (b.toNat : Int))).eq_of_length hx
    have hz : s.data.toList.all (fun b => aso (b.toNat : Int)) = true := by
      rw [← hy]
      exact tw_all _ _
    rw [h] at hz
    cases hz
set_option maxHeartbeats 1600000 in
set_option maxRecDepth 100000 in
theorem implAtom_any (s : ByteArray) (w : World) (hs : s.size ≤ 1048576) : Calls Tryd.prog 18 #[.string s] w fun e w' => e = .returned (.bool (atk s)) ∧ Below w.heap.size w w' := by
  have HL := hid (fun W : World => lda_any s W hs)
  obtain ⟨n, hn⟩ : ∃ n, lda s = n := ⟨_, rfl⟩
  have hz := lda_size s
  rw [hn] at HL hz
  have hle : n ≤ s.size := by rw [← hn]; exact lead_le _ _
  clear hn
  by_cases h0 : s.size = 0
  · have hs0 : s = ⟨#[]⟩ := by
      cases s; simp only [ByteArray.mk.injEq]; simpa [ByteArray.size] using h0
    subst hs0
    have HA : Hid (atk ⟨#[]⟩ = false) := hid (at_len (fun h => absurd h.1 (by decide)))
    rw [HA.out]
    clear hz hle h0
    go_enter Tryd.func18, Tryd.ntmps18
    go_wp2
    go_ret
    exact ⟨rfl, bre _⟩
  · have hne : s.toList.isEmpty = false := by
      rw [ByteArray.toList_eq]
      cases hl : s.data.toList with
      | nil => exact absurd (by rw [← dat_len s, hl]; rfl) h0
      | cons => rfl
    by_cases h1 : (s.size : Int) ≤ 40
    · have HA : Hid (atk s = (n == s.size)) := hid (by unfold atk; rw [← hz, decide_eq_true h1, decide_eq_true (by omega : (1 : Int) ≤ s.size), Bool.and_self, Bool.and_true])
      by_cases h2 : n = s.size
      · have HB : Hid (atk s = true) := hid (by rw [HA.out, h2]; simp)
        rw [HB.out]
        clear hz
        go_enter Tryd.func18, Tryd.ntmps18
        go_wp2_with fail
        refine (HL.out _).mono ?_; rintro e w1 ⟨rfl, hb⟩
        have HBL := hid hb
        clear hb
        subst h2
        go_wp2
        go_ret
        exact ⟨rfl, HBL.out⟩
      · have HB : Hid (atk s = false) := hid (by rw [HA.out]; rw [beq_eq_false_iff_ne]; exact h2)
        rw [HB.out]
        have i2 : ((n : Int) == (s.size : Int)) = false := by rw [beq_eq_false_iff_ne]; omega
        clear hz
        go_enter Tryd.func18, Tryd.ntmps18
        go_wp2_with fail
        refine (HL.out _).mono ?_; rintro e w1 ⟨rfl, hb⟩
        have HBL := hid hb
        clear hb
        go_wp2
        go_ret
        exact ⟨rfl, HBL.out⟩
    · have HA : Hid (atk s = false) := hid (at_len (fun h => h1 h.2))
      rw [HA.out]
      clear hz
      go_enter Tryd.func18, Tryd.ntmps18
      go_wp2
      go_ret
      exact ⟨rfl, bre _⟩
theorem encode_one (c : Nat) (h : c < 128) : Utf8.encode (c : Int) = ⟨#[c.toUInt8]⟩ := by
  have hv : Utf8.valid (c : Int) = true := by rw [validRune_eq]; unfold validRune; rw [decide_eq_true_iff]; omega
  unfold Utf8.encode
  simp only [hv, if_true, Int.toNat_natCast, h, Nat.toUInt8]
theorem encode_at {s : ByteArray} {i c : Nat} (h : i < s.size) (hc : s[i].toNat = c) (h2 : c < 128) : Utf8.encode (c : Int) = s.extract i (i + 1) := by
  apply ba_ext13
  rw [encode_one c h2, one_at s i h, ← hc]
  simp
theorem qop_one' {s : ByteArray} {i c : Nat} (h : i < s.size) (hc : s[i].toNat = c) (h2 : c < 128) (hq : ¬ (c = 34 ∨ c = 92)) : qop (s.data.toList.take i) ++ Utf8.encode (c : Int) = qop (s.data.toList.take (i + 1)) := by
  rw [encode_at h hc h2]
  exact qop_one h (by rw [hc]; exact hq)
theorem qop_two' {s : ByteArray} {i c : Nat} (h : i < s.size) (hc : s[i].toNat = c) (h2 : c < 128) (hq : c = 34 ∨ c = 92) : qop (s.data.toList.take i) ++ ⟨#[92]⟩ ++ Utf8.encode (c : Int) = qop (s.data.toList.take (i + 1)) := by
  rw [encode_at h hc h2]
  exact qop_two h (by rw [hc]; exact hq)
theorem encode_size {c : Nat} (h : c < 128) : (Utf8.encode (c : Int)).size = 1 := by rw [encode_one c h]; rfl
set_option maxHeartbeats 1600000 in
set_option maxRecDepth 100000 in
theorem implQuote_any (s : ByteArray) (w : World) (_hs : s.size ≤ 1048576) : Calls Tryd.prog 14 #[.string s] w fun e w' => e = .returned (qtR s) ∧ Below w.heap.size w w' := by
  by_cases hl : s.size ≤ 60
  · go_enter Tryd.func14, Tryd.ntmps14
    go_wp2
    go_loopw [4, 6] (fun ov _ wr => ∃ (pos : Nat) (o : ByteArray), pos ≤ s.size ∧ ov = .string o ∧ Hid (o = qop (s.data.toList.take pos)) ∧ Hid ((s.data.toList.take pos).all prt = true) ∧ wr.heap[w.heap.size]? = some (.stringIter s pos) ∧ Below w.heap.size w wr) (fun _ _ wr => s.size - wr.iterPos w.heap.size)
    case atStart => exact ⟨0, _, Nat.zero_le _, rfl, rfl, rfl, by simpa using World.iter_heap w s 0, bpush (bre _) _⟩
    case round =>
      obtain ⟨pos, o, hle, rfl, HO, HA, hit, hbw⟩ := hrel
      have HB := hid hbw
      clear hbw
      have hos : o.size ≤ 1000 := by
        rw [HO.out]
        have h1 := qop_size (s.data.toList.take pos)
        have h2 := List.length_take_le pos s.data.toList
        omega
      by_cases hlt : pos < s.size
      · obtain ⟨r, hr⟩ : ∃ r : Nat, (Utf8.decode s pos).1 = r := ⟨_, rfl⟩
        obtain ⟨d, hd⟩ : ∃ d : Nat, (Utf8.decode s pos).2 = d := ⟨_, rfl⟩
        have hnx : ∀ ty, (Instr.next (.pointer (some ⟨w.heap.size, 0, none⟩)) true ty).run Tryd.prog wr = _ := fun ty => Lib.run_next_any_at wr w.heap.size s pos ty hit hlt
        rw [hr, hd] at hnx
        have hit2 := Lib.iterAt_heap wr w.heap.size s pos (pos + d) hit
        have HB2 := hid (Lib.below_iterAt HB.out (Nat.le_refl _) s (pos + d))
        have HR : Hid ((s[pos].toNat = r ∧ d = 1 ∧ r < 128) ∨ (128 ≤ r ∧ prt s[pos] = false)) := by
          by_cases h1 : s[pos].toNat < 128
          · have h2 := decode_ascii s pos hlt h1
            rw [h2] at hr hd
            simp only at hr hd
            subst hr hd
            exact .inl ⟨rfl, rfl, h1⟩
          · have h2 := (decode_high s pos hlt (by omega)).1
            rw [hr] at h2
            refine .inr ⟨h2, ?_⟩
            unfold prt
            rw [decide_eq_false (by omega : ¬ s[pos].toNat ≤ 126), Bool.and_false]
        clear hr hd
        obtain ⟨p, hp⟩ : ∃ p, (decide (32 ≤ (r : Int)) && decide ((r : Int) ≤ 126)) = p := ⟨_, rfl⟩
        have HP := hid hp
        clear hp
        cases p with
        | false =>
          have HQ : Hid (qtR s = .tuple #[.string ⟨#[]⟩, .bool false]) := by
            refine qt_bad hlt ?_
            rcases HR.out with ⟨h1, h2, h3⟩ | ⟨h1, h2⟩
            · unfold prt
              rw [h1]
              have := HP.out
              simp only [Bool.and_eq_false_iff, decide_eq_false_iff_not] at this
              simp only [Bool.and_eq_false_iff, decide_eq_false_iff_not]
              omega
            · exact h2
          go_wp2_with fail
          refine (plainSign_any r _).mono ?_; rintro e w1 ⟨rfl, rfl⟩
          rw [HP.out]
          go_wp2
          go_ret2
          exact ⟨by rw [HQ.out]; rfl, HB2.out⟩
        | true =>
          have hb1 : 32 ≤ (r : Int) ∧ (r : Int) ≤ 126 := by
            have := HP.out
            simp only [Bool.and_eq_true, decide_eq_true_eq] at this
            exact this
          have hr1 : s[pos].toNat = r ∧ d = 1 := by
            rcases HR.out with ⟨h1, h2, h3⟩ | ⟨h1, h2⟩
            · exact ⟨h1, h2⟩
            · omega
          obtain ⟨hr1, rfl⟩ := hr1
          have HR1 := hid hr1
          clear hr1
          have HN := hid (prt_take hlt HA.out (by unfold prt; rw [HR1.out, decide_eq_true (by omega : 32 ≤ r), decide_eq_true (by omega : r ≤ 126)]; rfl))
          have he1 := encode_size (c := r) (by omega)
          go_wp2_with fail
          refine (plainSign_any r _).mono ?_; rintro e w1 ⟨rfl, rfl⟩
          rw [HP.out]
          by_cases hq : r = 34 ∨ r = 92
          · have HT : Hid ((((r : Int) == 34) || ((r : Int) == 92)) = true) := hid (by rcases hq with rfl | rfl <;> rfl)
            have HO2 : Hid (o ++ ⟨#[92]⟩ ++ Utf8.encode (r : Int) = qop (s.data.toList.take (pos + 1))) := by rw [HO.out]; exact qop_two' hlt HR1.out (by omega) hq
            have h9 : (o ++ ⟨#[92]⟩ : ByteArray).size ≤ 1001 := by rw [ByteArray.size_append]; show o.size + 1 ≤ _; omega
            clear hq
            go_wp2_with fail
            refine (turnedSign_any r _).mono ?_; rintro e w1 ⟨rfl, rfl⟩
            rw [HT.out]
            go_wp2
            go_roundw
            case rel => exact ⟨pos + 1, _, by omega, rfl, HO2.out, HN.out, hit2, HB2.out⟩
            case measure =>
              have e1 : ((wr.iterAt w.heap.size s (pos + 1)).iterPos w.heap.size) = pos + 1 := by simp only [World.iterPos, hit2]
              have e2 : wr.iterPos w.heap.size = pos := by simp only [World.iterPos, hit]
              rw [e1, e2]
              omega
          · have HT : Hid ((((r : Int) == 34) || ((r : Int) == 92)) = false) := hid (by rw [Bool.or_eq_false_iff, beq_eq_false_iff_ne, beq_eq_false_iff_ne]; omega)
            have HO2 : Hid (o ++ Utf8.encode (r : Int) = qop (s.data.toList.take (pos + 1))) := by rw [HO.out]; exact qop_one' hlt HR1.out (by omega) hq
            clear hq
            go_wp2_with fail
            refine (turnedSign_any r _).mono ?_; rintro e w1 ⟨rfl, rfl⟩
            rw [HT.out]
            go_wp2
            go_roundw
            case rel => exact ⟨pos + 1, _, by omega, rfl, HO2.out, HN.out, hit2, HB2.out⟩
            case measure =>
              have e1 : ((wr.iterAt w.heap.size s (pos + 1)).iterPos w.heap.size) = pos + 1 := by simp only [World.iterPos, hit2]
              have e2 : wr.iterPos w.heap.size = pos := by simp only [World.iterPos, hit]
              rw [e1, e2]
              omega
      · have hnx : ∀ ty, (Instr.next (.pointer (some ⟨w.heap.size, 0, none⟩)) true ty).run Tryd.prog wr = _ := fun ty => Lib.run_next_end_at wr w.heap.size s pos ty hit hlt
        have HAA : Hid (s.data.toList.all prt = true) := by
          have := HA.out
          rwa [List.take_of_length_le (by rw [dat_len]; omega)] at this
        have HOO : Hid (o ++ ⟨#[34]⟩ = qtx s) := by
          show _ = _
          rw [HO.out, List.take_of_length_le (by rw [dat_len]; omega)]
          exact qop_end s
        have HE := hid (qt_yes HAA.out hl)
        go_wp2
        go_ret2
        exact ⟨by rw [HE.out, ← HOO.out]; rfl, HB.out⟩
  · have HE := hid (qt_long hl)
    rw [HE.out]
    go_enter Tryd.func14, Tryd.ntmps14
    go_wp2
    go_ret2
    exact ⟨rfl, bre _⟩
/-- Does a text begin with another one? -/
def pre13 (x y : ByteArray) : Bool := decide (y.size ≤ x.size) && (x.extract 0 y.size).toList == y.toList
theorem hasPre013_any (x y : ByteArray) (w : World) (_hx : x.size ≤ 1048576) (_hy : y.size ≤ 1048576) :
    Calls Tryd.prog 62 #[.string x, .string y] w fun e w' => e = .returned (.bool (pre13 x y)) ∧ w = w' := by
  by_cases h : y.size ≤ x.size
  · have HP : Hid (pre13 x y = ((x.extract 0 y.size).toList == y.toList)) := hid (by unfold pre13; rw [decide_eq_true h, Bool.true_and])
    rw [HP.out]
    go_enter Tryd.func62, Tryd.ntmps62
    go_wp2
    go_ret
    exact ⟨rfl, rfl⟩
  · have HP : Hid (pre13 x y = false) := hid (by unfold pre13; rw [decide_eq_false h, Bool.false_and])
    rw [HP.out]
    go_enter Tryd.func62, Tryd.ntmps62
    go_wp2
    go_ret
    exact ⟨rfl, rfl⟩
theorem hasPre13_any (x y : ByteArray) (w : World) (hx : x.size ≤ 1048576) (hy : y.size ≤ 1048576) :
    Calls Tryd.prog 56 #[.string x, .string y] w fun e w' => e = .returned (.bool (pre13 x y)) ∧ w = w' := by
  go_enter Tryd.func56, Tryd.ntmps56
  go_wp2_with fail
  refine (hasPre013_any x y _ hx hy).mono ?_; rintro e w1 ⟨rfl, rfl⟩
  go_wp2
  go_ret
  exact ⟨rfl, rfl⟩
/-- What must come is there, may still come, or does not come. -/
def cma (x m : ByteArray) : Int := if pre13 x m = true then 0 else if pre13 m x = true then 1 else 2
theorem comesAhead_any (x m : ByteArray) (w : World) (hx : x.size ≤ 1048576) (hm : m.size ≤ 1048576) :
    Calls Tryd.prog 57 #[.string x, .string m] w fun e w' => e = .returned (.int .i64 (cma x m)) ∧ w = w' := by
  have HA := hid (fun (W : World) => hasPre13_any x m W hx hm)
  have HB := hid (fun (W : World) => hasPre13_any m x W hm hx)
  have HC : Hid (cma x m = if pre13 x m = true then 0 else if pre13 m x = true then 1 else 2) := hid rfl
  obtain ⟨p, hp⟩ : ∃ p, pre13 x m = p := ⟨_, rfl⟩
  obtain ⟨q, hq⟩ : ∃ q, pre13 m x = q := ⟨_, rfl⟩
  rw [hp] at HA HC
  rw [hq] at HB HC
  rw [HC.out]
  clear hp hq HC
  cases p
  · cases q
    all_goals
      go_enter Tryd.func57, Tryd.ntmps57
      go_wp2_with fail
      refine (HA.out _).mono ?_; rintro e w1 ⟨rfl, rfl⟩
      go_wp2_with fail
      refine (HB.out _).mono ?_; rintro e w1 ⟨rfl, rfl⟩
      go_wp2
      go_ret
      exact ⟨rfl, rfl⟩
  · go_enter Tryd.func57, Tryd.ntmps57
    go_wp2_with fail
    refine (HA.out _).mono ?_; rintro e w1 ⟨rfl, rfl⟩
    go_wp2
    go_ret
    exact ⟨rfl, rfl⟩
/-- Tokens with one blank between, up to 13 and 10, however many. -/
def tku (s : ByteArray) : Nat → Nat → List T2 → Option (Option (List T2 × Nat))
  | 0, _, _ => none
  | f + 1, a, l =>
    match tkn s a with
    | none => none
    | some none => some none
    | some (some (x, n)) =>
      match s.data.toList[n]? with
      | none => none
      | some b =>
        if b.toNat = 13 then
          (match s.data.toList[n + 1]? with
          | none => none
          | some y => if y.toNat = 10 then some (some (l ++ [x], n + 2)) else some none)
        else if b.toNat = 32 then tku s f (n + 1) (l ++ [x]) else some none
/-- Behind a 13. -/
def ten13 (s : ByteArray) (a : Nat) (l : List T2) : Option (Option (List T2 × Nat)) :=
  match s.data.toList[a + 1]? with
  | none => none
  | some y => if y.toNat = 10 then some (some (l, a + 2)) else some none
/-- Behind a token. -/
def cnt13 (s : ByteArray) (f a : Nat) (l : List T2) : Option (Option (List T2 × Nat)) :=
  match s.data.toList[a]? with
  | none => none
  | some b => if b.toNat = 13 then ten13 s a l else if b.toNat = 32 then tku s f (a + 1) l else some none
theorem tku_next {s : ByteArray} {f a : Nat} {l : List T2} {x : T2} {n : Nat} (h : tkn s a = some (some (x, n))) : tku s (f + 1) a l = cnt13 s f n (l ++ [x]) := by
  rw [tku, h]; rfl
theorem tku_more {s : ByteArray} {f a : Nat} {l : List T2} (h : tkn s a = none) : tku s f a l = none := by
  cases f with
  | zero => rfl
  | succ f => rw [tku, h]
theorem tku_bad {s : ByteArray} {f a : Nat} {l : List T2} (h : tkn s a = some none) : tku s (f + 1) a l = some none := by
  rw [tku, h]
/-- How the program reads a text's tokens: ahead of the first one it looks for a 13 too. -/
def tka (s : ByteArray) : Option (Option (List T2 × Nat)) :=
  match s.data.toList[0]? with
  | none => none
  | some b => if b.toNat = 13 then ten13 s 0 [] else tku s (s.size + 1) 0 []
/-- How reading one token from a place on ends. -/
def Tka (s : ByteArray) (a : Nat) (w : World) (e : Ending) (w' : World) : Prop :=
  ∃ (kd : Int) (t : ByteArray) (n : Nat) (c : Int), e = .returned (.tuple #[.agg #[.int .i64 kd, .string t], .int .i64 (n : Int), .int .i64 c]) ∧ Below w.heap.size w w' ∧
    ((c = 0 ∧ 0 < n ∧ a + n ≤ s.size ∧ (tkn s a = some (some ((kd, t), a + n)) ∨ (tkn s a = none ∧ a + n = s.size))) ∨ (c = 1 ∧ tkn s a = none) ∨ (c = 2 ∧ tkn s a = some none))
/-- How reading a text's tokens ends. -/
def Tks (s : ByteArray) (w : World) (e : Ending) (w' : World) : Prop :=
  ∃ (v : Value) (l : List T2) (n : Nat) (c : Int), e = .returned (.tuple #[v, .int .i64 (n : Int), .int .i64 c]) ∧ OwK w' w.heap.size v l ∧ Below w.heap.size w w' ∧
    ((c = 0 ∧ n ≤ s.size ∧ tka s = some (some (l, n))) ∨ (c = 1 ∧ l = [] ∧ tka s = none) ∨ (c = 2 ∧ l = [] ∧ tka s = some none))
theorem ext_data (s : ByteArray) (a : Nat) : (s.extract a s.size).data.toList = s.data.toList.drop a := by
  rw [ByteArray.data_extract, Array.toList_extract, List.extract_eq_take_drop, List.take_of_length_le (by rw [List.length_drop, dat_len]; exact Nat.le_refl _)]
theorem pre13_list (x y : ByteArray) : pre13 x y = (decide (y.data.toList.length ≤ x.data.toList.length) && (x.data.toList.take y.data.toList.length == y.data.toList)) := by
  unfold pre13
  rw [dat_len, dat_len, ByteArray.toList_eq, ByteArray.toList_eq, ByteArray.data_extract, Array.toList_extract, List.extract_eq_take_drop, List.drop_zero, Nat.sub_zero]
theorem drop_get {l : List UInt8} {a : Nat} {b : UInt8} (h : l[a]? = some b) : l.drop a = b :: l.drop (a + 1) := by
  obtain ⟨h1, h2⟩ := List.getElem?_eq_some_iff.1 h
  rw [List.drop_eq_getElem_cons h1, h2]
theorem drop_none {l : List UInt8} {a : Nat} (h : l[a]? = none) : l.drop a = [] := List.drop_eq_nil_of_le (List.getElem?_eq_none_iff.1 h)
theorem u8_iff (b : UInt8) (c : Nat) (hc : c < 256) : b = c.toUInt8 ↔ b.toNat = c := by
  constructor
  · intro h; rw [h]; show (UInt8.ofNat c).toNat = c; rw [UInt8.toNat_ofNat']; omega
  · intro h; rw [← h]; simp
theorem pre_cr (s : ByteArray) (a : Nat) : pre13 (s.extract a s.size) ⟨#[13]⟩ = (match s.data.toList[a]? with | none => false | some b => decide (b.toNat = 13)) := by
  rw [pre13_list, ext_data]
  cases h : s.data.toList[a]? with
  | none => rw [drop_none h]; rfl
  | some b =>
    rw [drop_get h]
    show (decide (1 ≤ (b :: s.data.toList.drop (a + 1)).length) && ([b] == [13])) = _
    rw [decide_eq_true (by simp)]
    have := u8_iff b 13 (by omega)
    by_cases hb : b.toNat = 13
    · rw [this.2 hb]; rfl
    · have hne : b ≠ 13 := fun e => hb (this.1 e)
      simp [hb, hne]
theorem cma_blank (s : ByteArray) (a : Nat) : cma (s.extract a s.size) ⟨#[32]⟩ = (match s.data.toList[a]? with | none => 1 | some b => if b.toNat = 32 then 0 else 2) := by
  unfold cma
  rw [pre13_list, pre13_list, ext_data]
  cases h : s.data.toList[a]? with
  | none => rw [drop_none h]; rfl
  | some b =>
    rw [drop_get h]
    have := u8_iff b 32 (by omega)
    by_cases hb : b.toNat = 32
    · rw [this.2 hb]; simp
    · have hne : b ≠ 32 := fun e => hb (this.1 e)
      have hne2 : ¬ (32 : UInt8) = b := fun e => hne e.symm
      cases s.data.toList.drop (a + 1) <;> simp [hb, hne, hne2]
theorem cma_crlf (s : ByteArray) (a : Nat) (b : UInt8) (h : s.data.toList[a]? = some b) (hb : b.toNat = 13) : cma (s.extract a s.size) ⟨#[13, 10]⟩ = (match s.data.toList[a + 1]? with | none => 1 | some y => if y.toNat = 10 then 0 else 2) := by
  unfold cma
  rw [pre13_list, pre13_list, ext_data, drop_get h]
  have h13 : b = 13 := (u8_iff b 13 (by omega)).2 hb
  subst h13
  cases h2 : s.data.toList[a + 1]? with
  | none => rw [drop_none h2]; rfl
  | some y =>
    rw [drop_get h2]
    have := u8_iff y 10 (by omega)
    by_cases hy : y.toNat = 10
    · rw [this.2 hy]; simp
    · have hne : y ≠ 10 := fun e => hy (this.1 e)
      have hne2 : ¬ (10 : UInt8) = y := fun e => hne e.symm
      cases s.data.toList.drop (a + 1 + 1) <;> simp [hy, hne, hne2]
end Go.Proofs.YtmalpgbdemcmdaaDoor
