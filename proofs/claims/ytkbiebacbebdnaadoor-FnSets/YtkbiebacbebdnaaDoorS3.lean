/- Zpe, Zpf, Zpg, Zph, Zpi, Rgf, Zpj. -/
import Derived.Test.YtkbiebacbebdnaaDoorS2
namespace Go.Proofs.YtkbiebacbebdnaaDoor
open Go.RowKit
/-- How many bytes stand ahead of the first c. -/
def tw14 (c : UInt8) (L : List UInt8) : Nat := (L.takeWhile (fun b => b != c)).length
theorem tw14_le (c : UInt8) (L : List UInt8) : tw14 c L ≤ L.length := List.Sublist.length_le (List.takeWhile_sublist _)
theorem tw14_no (c : UInt8) : ∀ (L : List UInt8) (x : UInt8), x ∈ L.take (tw14 c L) → x ≠ c
  | [], x, h => by simp at h
  | y :: l, x, h => by
    unfold tw14 at h
    rw [List.takeWhile_cons] at h
    by_cases hy : (y != c) = true
    · rw [if_pos hy, List.length_cons, List.take_succ_cons] at h
      rcases List.mem_cons.1 h with rfl | h
      · simpa using hy
      · exact tw14_no c l x h
    · rw [if_neg hy] at h; simp at h
theorem tw14_at (c : UInt8) : ∀ (L : List UInt8), tw14 c L < L.length → L[tw14 c L]? = some c
  | [], h => by simp at h
  | y :: l, h => by
    unfold tw14 at h ⊢
    rw [List.takeWhile_cons] at h ⊢
    by_cases hy : (y != c) = true
    · rw [if_pos hy, List.length_cons] at h ⊢
      simp only [List.length_cons] at h
      rw [List.getElem?_cons_succ]
      exact tw14_at c l (by unfold tw14; omega)
    · rw [if_neg hy]
      simp at hy
      simp [hy]
theorem indexByte_tw (c : UInt8) : ∀ L : List UInt8, Lib.indexByte L c = if tw14 c L < L.length then (tw14 c L : Int) else -1
  | [] => by simp [Lib.indexByte]
  | y :: l => by
    rw [Lib.indexByte]
    unfold tw14
    rw [List.takeWhile_cons]
    by_cases hy : y = c
    · subst hy; simp
    · have h1 : (y == c) = false := by simpa using hy
      have h2 : (y != c) = true := by simpa using hy
      have ih := indexByte_tw c l
      unfold tw14 at ih
      rw [if_pos h2, List.length_cons, List.length_cons, ih]
      simp only [h1, Bool.false_eq_true, if_false]
      by_cases hl : (l.takeWhile (fun b => b != c)).length < l.length
      · have h3 : (((l.takeWhile (fun b => b != c)).length : Int) == -1) = false := by rw [beq_eq_false_iff_ne]; omega
        rw [if_pos hl, if_pos (show (l.takeWhile (fun b => b != c)).length + 1 < l.length + 1 by omega), h3]
        simp
      · rw [if_neg hl, if_neg (show ¬ (l.takeWhile (fun b => b != c)).length + 1 < l.length + 1 by omega)]
        rfl
/-- Parts with c between. -/
def plc (c : UInt8) : Nat → List UInt8 → List (List UInt8)
  | 0, L => [L]
  | f + 1, L => if tw14 c L < L.length then L.take (tw14 c L) :: plc c f (L.drop (tw14 c L + 1)) else [L]
theorem plc_last {c : UInt8} {f : Nat} {L : List UInt8} (h : ¬ tw14 c L < L.length) : plc c f L = [L] := by
  cases f with
  | zero => rfl
  | succ f => rw [plc, if_neg h]
/-- What an end of a range says: 0 for a star; a number of one to four figures. -/
def ends (u : List UInt8) : Option Nat :=
  if u = [42] then some 0
  else if 0 < u.length ∧ u.length ≤ 4 ∧ u.all fg = true ∧ 0 < vlf 0 u then some (vlf 0 u) else none
/-- What a part says: the range, and whether it is one. -/
def rgv14 (p : List UInt8) : G2 × Bool :=
  if tw14 58 p < p.length then
    ((((ends (p.take (tw14 58 p))).getD 0 : Nat), ((ends (p.drop (tw14 58 p + 1))).getD 0 : Nat)), (ends (p.take (tw14 58 p))).isSome && (ends (p.drop (tw14 58 p + 1))).isSome)
  else ((((ends p).getD 0 : Nat), ((ends p).getD 0 : Nat)), (ends p).isSome)
/-- A number or 42 at the beginning of a list: its value, how long it is, whether it is there. -/
def nb (L : List UInt8) : Nat × Nat × Bool :=
  if L[0]? = some 42 then (0, 1, true)
  else (vlf 0 (L.take (min 4 (L.takeWhile fg).length)), min 4 (L.takeWhile fg).length, decide (0 < min 4 (L.takeWhile fg).length) && decide (0 < vlf 0 (L.take (min 4 (L.takeWhile fg).length))))
theorem vlf_cons (n : Nat) (b : UInt8) (l : List UInt8) : vlf n (b :: l) = vlf (10 * n + b.toNat - 48) l := by unfold vlf; rw [List.foldl_cons]
theorem fg_iff (b : UInt8) : fg b = true ↔ 48 ≤ b.toNat ∧ b.toNat ≤ 57 := by unfold fg; rw [Bool.and_eq_true, decide_eq_true_eq, decide_eq_true_eq]
theorem drop14 {s : ByteArray} {k : Nat} (h : k < s.size) : s.data.toList.drop k = s[k] :: s.data.toList.drop (k + 1) := by
  rw [List.drop_eq_getElem_cons (by rw [dtl]; exact h)]; rfl
/-- Figures from a list's beginning: their number and value, at most f. -/
def fgs : Nat → Nat → List UInt8 → Nat × Nat
  | 0, n, _ => (n, 0)
  | _ + 1, n, [] => (n, 0)
  | f + 1, n, b :: l => if fg b = true then ((fgs f (10 * n + b.toNat - 48) l).1, (fgs f (10 * n + b.toNat - 48) l).2 + 1) else (n, 0)
theorem dgs_fgs (s : ByteArray) : ∀ (f k n : Nat), dgs s f k n = ((fgs f n (s.data.toList.drop k)).1, k + (fgs f n (s.data.toList.drop k)).2)
  | 0, k, n => rfl
  | f + 1, k, n => by
    rw [dgs]
    by_cases h : k < s.size
    · rw [gt14 h, drop14 h]
      dsimp only
      rw [fgs]
      by_cases hf : fg s[k] = true
      · rw [if_pos hf, if_pos ((fg_iff _).1 hf), dgs_fgs s f (k + 1)]
        dsimp only
        rw [Nat.add_comm ((fgs f (10 * n + s[k].toNat - 48) (s.data.toList.drop (k + 1))).2) 1, Nat.add_assoc]
      · rw [if_neg hf, if_neg (fun hc => hf ((fg_iff _).2 hc))]
        rfl
    · rw [gn14 (by omega), List.drop_eq_nil_of_le (by rw [dtl]; omega)]
      rfl
theorem fgs_eq : ∀ (f n : Nat) (L : List UInt8), fgs f n L = (vlf n (L.take (min f (L.takeWhile fg).length)), min f (L.takeWhile fg).length)
  | 0, n, L => by rw [fgs, Nat.zero_min]; rfl
  | f + 1, n, [] => by rw [fgs]; rfl
  | f + 1, n, b :: l => by
    rw [fgs, List.takeWhile_cons]
    by_cases hf : fg b = true
    · rw [if_pos hf, if_pos hf, List.length_cons, Nat.succ_min_succ, List.take_succ_cons, vlf_cons, fgs_eq f]
    · rw [if_neg hf, if_neg hf]
      rfl
theorem nb_fgs (L : List UInt8) : nb L = if L[0]? = some 42 then (0, 1, true) else ((fgs 4 0 L).1, (fgs 4 0 L).2, decide (0 < (fgs 4 0 L).2) && decide (0 < (fgs 4 0 L).1)) := by
  unfold nb
  rw [fgs_eq]
theorem map42 (o : Option UInt8) : o.map (fun b => b.toNat) = some 42 ↔ o = some 42 := by
  cases o with
  | none => simp
  | some b =>
    simp only [Option.map_some, Option.some.injEq]
    exact ⟨fun h => UInt8.toNat_inj.1 h, fun h => by rw [h]; rfl⟩
theorem nbr_nb (s : ByteArray) (a : Nat) : nbr s a = ((nb (s.data.toList.drop a)).1, a + (nb (s.data.toList.drop a)).2.1, (nb (s.data.toList.drop a)).2.2) := by
  have h0 : (s.data.toList.drop a)[0]? = s.data.toList[a]? := by rw [List.getElem?_drop, Nat.add_zero]
  unfold nbr
  rw [nb_fgs, h0, dgs_fgs]
  obtain ⟨x, y⟩ := fgs 4 0 (s.data.toList.drop a)
  by_cases h : s.data.toList[a]? = some 42
  · rw [if_pos ((map42 _).2 h), if_pos h]
  · rw [if_neg (fun hc => h ((map42 _).1 hc)), if_neg h]
    dsimp only
    rw [decide_eq_decide.2 (show a < a + y ↔ 0 < y by omega)]
theorem tw_app (u t : List UInt8) (ht : t = [] ∨ ∃ x t', t = x :: t' ∧ fg x = false) : ((u ++ t).takeWhile fg).length = (u.takeWhile fg).length := by
  induction u with
  | nil =>
    rcases ht with rfl | ⟨x, t', rfl, hx⟩
    · rfl
    · rw [List.nil_append, List.takeWhile_cons, hx]; rfl
  | cons b u ih =>
    rw [List.cons_append, List.takeWhile_cons, List.takeWhile_cons]
    by_cases hb : fg b = true
    · rw [if_pos hb, if_pos hb, List.length_cons, List.length_cons, ih]
    · rw [if_neg hb, if_neg hb]
theorem all_of_tw (u : List UInt8) (h : (u.takeWhile fg).length = u.length) : u.all fg = true := List.all_eq_true.2 (twf_all fg u h)
theorem tw_of_all (u : List UInt8) (h : u.all fg = true) : (u.takeWhile fg).length = u.length := allf_tw fg u (List.all_eq_true.1 h)
theorem nb_ends (u t : List UInt8) (ht : t = [] ∨ ∃ x t', t = x :: t' ∧ fg x = false ∧ x ≠ 42) :
    (∃ n, ends u = some n ∧ nb (u ++ t) = (n, u.length, true)) ∨ (ends u = none ∧ ((nb (u ++ t)).2.2 = false ∨ (nb (u ++ t)).2.1 < u.length)) := by
  have ht2 : t = [] ∨ ∃ x t', t = x :: t' ∧ fg x = false := by
    rcases ht with h | ⟨x, t', h1, h2, _⟩
    · exact Or.inl h
    · exact Or.inr ⟨x, t', h1, h2⟩
  have htw := tw_app u t ht2
  cases u with
  | nil =>
    refine Or.inr ⟨rfl, Or.inl ?_⟩
    have h1 : ¬ (([] : List UInt8) ++ t)[0]? = some 42 := by
      rcases ht with rfl | ⟨x, t', rfl, _, hx⟩
      · simp
      · simpa using hx
    unfold nb
    rw [if_neg h1, htw]
    rfl
  | cons b u =>
    by_cases hb : b = 42
    · subst hb
      have h1 : ((42 :: u) ++ t)[0]? = some (42 : UInt8) := rfl
      unfold nb
      rw [if_pos h1]
      cases u with
      | nil => exact Or.inl ⟨0, rfl, rfl⟩
      | cons c u =>
        refine Or.inr ⟨?_, Or.inr (by simp)⟩
        unfold ends
        rw [if_neg (by simp), if_neg]
        rintro ⟨_, _, h, _⟩
        rw [List.all_cons] at h
        rw [Bool.and_eq_true] at h
        exact absurd h.1 (by decide)
    · have h1 : ¬ ((b :: u) ++ t)[0]? = some 42 := by simpa using hb
      have hne : ¬ (b :: u) = [42] := by intro h; simp at h; exact hb h.1
      obtain ⟨v, hv⟩ : ∃ v, b :: u = v := ⟨_, rfl⟩
      have hpos : 0 < v.length := by rw [← hv]; simp
      rw [hv] at h1 hne htw ⊢
      clear hv hb
      have hle : (v.takeWhile fg).length ≤ v.length := List.Sublist.length_le (List.takeWhile_sublist _)
      unfold nb
      rw [if_neg h1, htw]
      by_cases hall : v.all fg = true ∧ v.length ≤ 4
      · have e1 := tw_of_all v hall.1
        have e2 : min 4 (v.takeWhile fg).length = v.length := by omega
        have e3 : (v ++ t).take v.length = v := by rw [List.take_left']; rfl
        rw [e2, e3]
        by_cases hz : 0 < vlf 0 v
        · refine Or.inl ⟨vlf 0 v, ?_, ?_⟩
          · unfold ends
            rw [if_neg hne, if_pos ⟨hpos, hall.2, hall.1, hz⟩]
          · rw [decide_eq_true hpos, decide_eq_true hz]; rfl
        · refine Or.inr ⟨?_, Or.inl ?_⟩
          · unfold ends
            rw [if_neg hne, if_neg (fun h => hz h.2.2.2)]
          · dsimp only
            rw [decide_eq_false hz, Bool.and_false]
      · refine Or.inr ⟨?_, Or.inr ?_⟩
        · unfold ends
          rw [if_neg hne, if_neg (fun h => hall ⟨h.2.2.1, h.2.1⟩)]
        · show min 4 (v.takeWhile fg).length < v.length
          by_cases h4 : v.length ≤ 4
          · have : (v.takeWhile fg).length ≠ v.length := fun h => hall ⟨all_of_tw v h, h4⟩
            omega
          · omega
theorem at_app {s : ByteArray} {a : Nat} {u t : List UInt8} (hd : s.data.toList.drop a = u ++ t) (i : Nat) : s.data.toList[a + i]? = (u ++ t)[i]? := by rw [← hd, List.getElem?_drop]
theorem ne58 {o : Option UInt8} (h : ∀ x, o = some x → x ≠ 58) : ¬ o.map (fun b => b.toNat) = some 58 := by
  intro hc
  cases o with
  | none => cases hc
  | some x =>
    simp only [Option.map_some, Option.some.injEq] at hc
    exact h x rfl (UInt8.toNat_inj.1 hc)
theorem tw14_all (c : UInt8) (L : List UInt8) (h : ¬ tw14 c L < L.length) : ∀ x ∈ L, x ≠ c := by
  intro x hx
  refine tw14_no c L x ?_
  rwa [List.take_of_length_le (by have := tw14_le c L; omega)]
theorem tw14_split (c : UInt8) (L : List UInt8) (h : tw14 c L < L.length) : L = L.take (tw14 c L) ++ c :: L.drop (tw14 c L + 1) := by
  have h1 : L.drop (tw14 c L) = c :: L.drop (tw14 c L + 1) := by
    rw [List.drop_eq_getElem_cons h]
    congr 1
    have := tw14_at c L h
    rw [List.getElem?_eq_getElem h] at this
    simpa using this
  rw [← h1, List.take_append_drop]
theorem rng_part (s : ByteArray) (a : Nat) (p t : List UInt8) (hd : s.data.toList.drop a = p ++ t) (ht : t = [] ∨ ∃ t', t = 44 :: t') :
    ((rgv14 p).2 = true ∧ rng s a = some ((rgv14 p).1, a + p.length)) ∨
    ((rgv14 p).2 = false ∧ (rng s a = none ∨ ∃ r k, rng s a = some (r, k) ∧ a ≤ k ∧ k < a + p.length)) := by
  have ht3 : t = [] ∨ ∃ x t', t = x :: t' ∧ fg x = false ∧ x ≠ 42 := by
    rcases ht with h | ⟨t', h⟩
    · exact Or.inl h
    · exact Or.inr ⟨44, t', h, by decide, by decide⟩
  have h44 : ∀ x, t[0]? = some x → x ≠ 58 := by
    rcases ht with rfl | ⟨t', rfl⟩
    · intro x h; simp at h
    · intro x h; simp at h; subst h; decide
  unfold rng rgv14
  rw [nbr_nb s a, hd]
  by_cases h58 : tw14 58 p < p.length
  · rw [if_pos h58]
    obtain ⟨u, hu⟩ : ∃ u, p.take (tw14 58 p) = u := ⟨_, rfl⟩
    obtain ⟨v, hv⟩ : ∃ v, p.drop (tw14 58 p + 1) = v := ⟨_, rfl⟩
    have hp := tw14_split 58 p h58
    have hno : ∀ x ∈ u, x ≠ 58 := by rw [← hu]; exact tw14_no 58 p
    rw [hu, hv] at hp ⊢
    clear hu hv h58
    subst hp
    have hL : u ++ 58 :: v ++ t = u ++ (58 :: v ++ t) := by rw [List.append_assoc]
    have hlen : (u ++ 58 :: v).length = u.length + (v.length + 1) := by simp
    rw [hL] at hd ⊢
    rcases nb_ends u (58 :: v ++ t) (Or.inr ⟨58, v ++ t, rfl, by decide, by decide⟩) with ⟨n, e1, e2⟩ | ⟨e1, e2⟩
    · rw [e1, e2]
      dsimp only
      rw [if_pos rfl, at_app hd u.length]
      have hat : (u ++ (58 :: v ++ t))[u.length]? = some 58 := by
        rw [List.getElem?_append_right (Nat.le_refl _), Nat.sub_self]; rfl
      rw [hat, if_pos (by rfl), nbr_nb s (a + u.length + 1)]
      have hd2 : s.data.toList.drop (a + u.length + 1) = v ++ t := by
        rw [Nat.add_assoc, ← List.drop_drop, hd, ← List.drop_drop, List.drop_left']
        · rfl
        · rfl
      rw [hd2]
      rcases nb_ends v t ht3 with ⟨m, f1, f2⟩ | ⟨f1, f2⟩
      · rw [f1, f2]
        refine Or.inl ⟨rfl, ?_⟩
        dsimp only
        rw [if_pos rfl, hlen]
        simp only [Option.getD_some]
        congr 2
        omega
      · rw [f1]
        refine Or.inr ⟨by simp, ?_⟩
        cases hok : (nb (v ++ t)).2.2 with
        | false =>
          left
          rw [if_neg (by decide)]
        | true =>
          right
          have hlt : (nb (v ++ t)).2.1 < v.length := by
            rcases f2 with h | h
            · rw [hok] at h; cases h
            · exact h
          rw [if_pos rfl]
          exact ⟨_, _, rfl, by dsimp only; omega, by dsimp only; omega⟩
    · rw [e1]
      refine Or.inr ⟨by simp, ?_⟩
      cases hok : (nb (u ++ (58 :: v ++ t))).2.2 with
      | false => left; rw [if_neg (by decide)]
      | true =>
        right
        have hlt : (nb (u ++ (58 :: v ++ t))).2.1 < u.length := by
          rcases e2 with h | h
          · rw [hok] at h; cases h
          · exact h
        obtain ⟨c, hc⟩ : ∃ c, (nb (u ++ (58 :: v ++ t))).2.1 = c := ⟨_, rfl⟩
        rw [hc] at hlt
        rw [if_pos rfl, if_neg]
        · exact ⟨_, _, rfl, by dsimp only; rw [hc]; omega, by dsimp only; rw [hc]; omega⟩
        · dsimp only
          rw [hc, at_app hd c]
          refine ne58 (fun x hx => ?_)
          rw [List.getElem?_append_left hlt] at hx
          exact hno x (List.mem_of_getElem? hx)
  · rw [if_neg h58]
    have hno := tw14_all 58 p h58
    rcases nb_ends p t ht3 with ⟨n, e1, e2⟩ | ⟨e1, e2⟩
    · rw [e1, e2]
      refine Or.inl ⟨rfl, ?_⟩
      dsimp only
      rw [if_pos rfl, if_neg]
      · rfl
      · rw [at_app hd p.length, List.getElem?_append_right (Nat.le_refl _), Nat.sub_self]
        exact ne58 h44
    · rw [e1]
      refine Or.inr ⟨rfl, ?_⟩
      cases hok : (nb (p ++ t)).2.2 with
      | false => left; rw [if_neg (by decide)]
      | true =>
        right
        have hlt : (nb (p ++ t)).2.1 < p.length := by
          rcases e2 with h | h
          · rw [hok] at h; cases h
          · exact h
        obtain ⟨c, hc⟩ : ∃ c, (nb (p ++ t)).2.1 = c := ⟨_, rfl⟩
        rw [hc] at hlt
        rw [if_pos rfl, if_neg]
        · exact ⟨_, _, rfl, by dsimp only; rw [hc]; omega, by dsimp only; rw [hc]; omega⟩
        · dsimp only
          rw [hc, at_app hd c]
          refine ne58 (fun x hx => ?_)
          rw [List.getElem?_append_left hlt] at hx
          exact hno x (List.mem_of_getElem? hx)
/-- What a list of parts comes to. -/
def rdl (acc : List G2) (xs : List (G2 × Bool)) : Option (List G2) := if xs.all (fun x => x.2) = true ∧ acc.length + xs.length ≤ 8 then some (acc ++ xs.map (fun x => x.1)) else none
theorem rdl_bad {acc : List G2} {xs : List (G2 × Bool)} {x : G2 × Bool} (hm : x ∈ xs) (h : x.2 = false) : rdl acc xs = none := by
  unfold rdl
  rw [if_neg]
  rintro ⟨h1, _⟩
  have := List.all_eq_true.1 h1 x hm
  rw [h] at this
  cases this
theorem rdl_cons {acc : List G2} {x : G2 × Bool} {xs : List (G2 × Bool)} (h : x.2 = true) : rdl acc (x :: xs) = rdl (acc ++ [x.1]) xs := by
  unfold rdl
  rw [List.all_cons, h, Bool.true_and, List.length_cons, List.length_append, List.length_singleton]
  by_cases hc : xs.all (fun x => x.2) = true ∧ acc.length + (xs.length + 1) ≤ 8
  · rw [if_pos hc, if_pos ⟨hc.1, by omega⟩]; simp
  · rw [if_neg hc, if_neg (fun h => hc ⟨h.1, by omega⟩)]
theorem rss_parts (s : ByteArray) : ∀ (f a : Nat) (acc : List G2) (g : Nat), a ≤ s.size → acc.length + f = 9 → acc.length ≤ 8 → (s.data.toList.drop a).length ≤ g → rss s f a acc = rdl acc ((plc 44 g (s.data.toList.drop a)).map rgv14)
  | 0, a, acc, g, _, hf, ha8, _ => by omega
  | f + 1, a, acc, g, ha, hf, ha8, hg => by
    obtain ⟨L, hL⟩ : ∃ L, s.data.toList.drop a = L := ⟨_, rfl⟩
    have hLl : L.length = s.size - a := by rw [← hL, List.length_drop, dtl]
    rw [hL] at hg ⊢
    by_cases h44 : tw14 44 L < L.length
    · obtain ⟨p, hp⟩ : ∃ p, L.take (tw14 44 L) = p := ⟨_, rfl⟩
      obtain ⟨q, hq⟩ : ∃ q, L.drop (tw14 44 L + 1) = q := ⟨_, rfl⟩
      have hsp := tw14_split 44 L h44
      have hpl : p.length = tw14 44 L := by rw [← hp, List.length_take]; omega
      obtain ⟨g', rfl⟩ : ∃ g', g = g' + 1 := ⟨g - 1, by omega⟩
      rw [plc, if_pos h44]
      rw [hp, hq] at hsp ⊢
      have hno : ∀ x ∈ p, x ≠ 44 := by rw [← hp]; exact tw14_no 44 L
      have hd : s.data.toList.drop a = p ++ 44 :: q := hL.trans hsp
      have hq2 : s.data.toList.drop (a + p.length + 1) = q := by rw [Nat.add_assoc, ← List.drop_drop, hL, hpl, hq]
      have hat : s.data.toList[a + p.length]? = some 44 := by rw [at_app hd p.length, List.getElem?_append_right (Nat.le_refl _), Nat.sub_self]; rfl
      rw [List.map_cons, rss]
      rcases rng_part s a p (44 :: q) hd (Or.inr ⟨q, rfl⟩) with ⟨e1, e2⟩ | ⟨e1, e2⟩
      · rw [e2, rdl_cons e1]
        dsimp only
        rw [List.length_append, List.length_singleton]
        by_cases h8 : 8 < acc.length + 1
        · rw [if_pos h8]
          unfold rdl
          rw [if_neg]
          rintro ⟨_, h⟩
          rw [List.length_append, List.length_singleton] at h
          have : 0 < (List.map rgv14 (plc 44 g' q)).length := by
            rw [List.length_map]
            cases g' with
            | zero => simp [plc]
            | succ g' => rw [plc]; split <;> simp
          omega
        · rw [if_neg h8, if_neg (by omega), hat, if_pos (by rfl)]
          rw [rss_parts s f (a + p.length + 1) (acc ++ [(rgv14 p).1]) g' (by omega) (by rw [List.length_append, List.length_singleton]; omega) (by rw [List.length_append, List.length_singleton]; omega) (by rw [hq2, ← hq, List.length_drop]; omega), hq2]
      · rw [rdl_bad (List.mem_cons_self ..) e1]
        rcases e2 with e2 | ⟨r, k, e2, hk1, hk2⟩
        · rw [e2]
        · rw [e2]
          dsimp only
          rw [List.length_append, List.length_singleton]
          by_cases h8 : 8 < acc.length + 1
          · rw [if_pos h8]
          · rw [if_neg h8, if_neg (by omega)]
            obtain ⟨i, rfl⟩ : ∃ i, k = a + i := ⟨k - a, by omega⟩
            rw [if_neg]
            rw [at_app hd i, List.getElem?_append_left (by omega)]
            intro hc
            cases hx : p[i]? with
            | none => rw [hx] at hc; cases hc
            | some x =>
              rw [hx] at hc
              simp only [Option.map_some, Option.some.injEq] at hc
              exact hno x (List.mem_of_getElem? hx) (UInt8.toNat_inj.1 hc)
    · rw [plc_last h44]
      have hno := tw14_all 44 L h44
      have hd : s.data.toList.drop a = L ++ [] := by rw [hL, List.append_nil]
      rw [List.map_cons, List.map_nil, rss]
      rcases rng_part s a L [] hd (Or.inl rfl) with ⟨e1, e2⟩ | ⟨e1, e2⟩
      · rw [e2, rdl_cons e1]
        dsimp only
        unfold rdl
        rw [List.length_append, List.length_singleton]
        by_cases h8 : 8 < acc.length + 1
        · rw [if_pos h8, if_neg (fun h => by simp at h; omega)]
        · rw [if_neg h8, if_pos (by omega), if_pos (by simp; omega)]
          simp
      · rw [rdl_bad (List.mem_cons_self ..) e1]
        rcases e2 with e2 | ⟨r, k, e2, hk1, hk2⟩
        · rw [e2]
        · rw [e2]
          dsimp only
          rw [List.length_append, List.length_singleton]
          by_cases h8 : 8 < acc.length + 1
          · rw [if_pos h8]
          · rw [if_neg h8, if_neg (by omega)]
            obtain ⟨i, rfl⟩ : ∃ i, k = a + i := ⟨k - a, by omega⟩
            rw [if_neg]
            rw [at_app hd i, List.append_nil]
            intro hc
            cases hx : L[i]? with
            | none => rw [hx] at hc; cases hc
            | some x =>
              rw [hx] at hc
              simp only [Option.map_some, Option.some.injEq] at hc
              exact hno x (List.mem_of_getElem? hx) (UInt8.toNat_inj.1 hc)
theorem rset_parts (s : ByteArray) : rset s = rdl [] ((plc 44 s.data.toList.length s.data.toList).map rgv14) := by
  unfold rset
  have h := rss_parts s 9 0 [] s.data.toList.length (by omega) rfl (by simp) (by simp)
  rwa [List.drop_zero] at h
/-- A text of these bytes. -/
abbrev ba (l : List UInt8) : ByteArray := ⟨l.toArray⟩
/-- Where the first c stands, or -1. -/
def fi14 (c : UInt8) (s : ByteArray) : Int := if tw14 c s.data.toList < s.size then (tw14 c s.data.toList : Int) else -1
theorem fi14_eq (s : ByteArray) (c : UInt8) : firstIdx s c = fi14 c s := by
  rw [Lib.firstIdx_eq, indexByte_tw, dtl]; rfl
theorem fi14_one (c : UInt8) : fi14 c ⟨#[c]⟩ = 0 := by
  have h : tw14 c [c] = 0 := by unfold tw14; rw [List.takeWhile_cons, if_neg (by simp)]; rfl
  show (if tw14 c [c] < 1 then ((tw14 c [c] : Nat) : Int) else -1) = 0
  rw [h]; rfl
set_option maxHeartbeats 1600000 in
set_option maxRecDepth 100000 in
theorem liteIndex_44 (s : ByteArray) (w : World) :
    Calls Tryd.prog 67 #[.string s, .string ⟨#[44]⟩] w fun e w' => e = .returned (.int .i64 (fi14 44 s)) ∧ w' = w := by
  have HI := hid (idxLite_any s 44)
  rw [show firstIdx s ((44 : Int).toNat.toUInt8) = fi14 44 s from fi14_eq s 44] at HI
  by_cases h : ([44] == s.toList) = true
  · have HF : Hid (fi14 44 s = 0) := hid (by
      have h1 : [44] = s.toList := by simpa using h
      have h2 : s = ⟨#[44]⟩ := by
        cases s with | mk d => rw [ByteArray.toList_eq] at h1; simp only [ByteArray.mk.injEq]; exact (Array.toList_inj.1 h1).symm
      rw [h2]; exact fi14_one 44)
    go_enter Tryd.func67, Tryd.ntmps67
    go_wp2
    go_ret
    exact ⟨by rw [HF.out]; rfl, rfl⟩
  · have h' : ([44] == s.toList) = false := by simpa using h
    clear h
    obtain ⟨z, hz⟩ : ∃ z, fi14 44 s = z := ⟨_, rfl⟩
    rw [hz] at HI
    rw [hz]
    clear hz
    go_enter Tryd.func67, Tryd.ntmps67
    go_wp2_with fail
    refine (HI.out _).mono ?_; rintro e w1 ⟨rfl, rfl⟩
    go_wp2
    go_ret
    exact ⟨rfl, rfl⟩
set_option maxHeartbeats 1600000 in
set_option maxRecDepth 100000 in
theorem liteIndex_58 (s : ByteArray) (w : World) :
    Calls Tryd.prog 67 #[.string s, .string ⟨#[58]⟩] w fun e w' => e = .returned (.int .i64 (fi14 58 s)) ∧ w' = w := by
  have HI := hid (idxLite_any s 58)
  rw [show firstIdx s ((58 : Int).toNat.toUInt8) = fi14 58 s from fi14_eq s 58] at HI
  by_cases h : ([58] == s.toList) = true
  · have HF : Hid (fi14 58 s = 0) := hid (by
      have h1 : [58] = s.toList := by simpa using h
      have h2 : s = ⟨#[58]⟩ := by
        cases s with | mk d => rw [ByteArray.toList_eq] at h1; simp only [ByteArray.mk.injEq]; exact (Array.toList_inj.1 h1).symm
      rw [h2]; exact fi14_one 58)
    go_enter Tryd.func67, Tryd.ntmps67
    go_wp2
    go_ret
    exact ⟨by rw [HF.out]; rfl, rfl⟩
  · have h' : ([58] == s.toList) = false := by simpa using h
    clear h
    obtain ⟨z, hz⟩ : ∃ z, fi14 58 s = z := ⟨_, rfl⟩
    rw [hz] at HI
    rw [hz]
    clear hz
    go_enter Tryd.func67, Tryd.ntmps67
    go_wp2_with fail
    refine (HI.out _).mono ?_; rintro e w1 ⟨rfl, rfl⟩
    go_wp2
    go_ret
    exact ⟨rfl, rfl⟩
theorem index_44 (s : ByteArray) (w : World) :
    Calls Tryd.prog 62 #[.string s, .string ⟨#[44]⟩] w fun e w' => e = .returned (.int .i64 (fi14 44 s)) ∧ w' = w := by
  have HI := hid (liteIndex_44 s)
  obtain ⟨z, hz⟩ : ∃ z, fi14 44 s = z := ⟨_, rfl⟩
  rw [hz] at HI
  rw [hz]
  clear hz
  go_enter Tryd.func62, Tryd.ntmps62
  go_wp2_with fail
  refine (HI.out _).mono ?_; rintro e w1 ⟨rfl, rfl⟩
  go_wp2
  go_ret
  exact ⟨rfl, rfl⟩
theorem ext_take14 (s : ByteArray) (i : Nat) : (s.extract 0 i).data.toList = s.data.toList.take i := by
  rw [ByteArray.data_extract, Array.toList_extract, List.extract_eq_take_drop, List.drop_zero, Nat.sub_zero]
theorem ext_drop14 (s : ByteArray) (i : Nat) : (s.extract i s.size).data.toList = s.data.toList.drop i := by
  rw [ByteArray.data_extract, Array.toList_extract, List.extract_eq_take_drop]
  exact List.take_of_length_le (by rw [List.length_drop, dtl]; omega)
set_option maxHeartbeats 1600000 in
set_option maxRecDepth 100000 in
theorem cut_yes (s : ByteArray) (i : Nat) (w : World) (hz : fi14 58 s = (i : Int)) (hi : i < s.size) (hm : s.size ≤ 1048576) :
    Calls Tryd.prog 54 #[.string s, .string ⟨#[58]⟩] w fun e w' => e = .returned (.tuple #[.string (s.extract 0 i), .string (s.extract (i + 1) s.size), .bool true]) ∧ Below w.heap.size w w' := by
  have HI := hid (liteIndex_58 s)
  rw [hz] at HI
  clear hz
  have HL := hid (show ∀ W : World, Calls Tryd.prog 63 #[.string s, .string ⟨#[58]⟩] W fun e w' => e = .returned (.tuple #[.string (s.extract 0 i), .string (s.extract (i + 1) s.size), .bool true]) ∧ Below W.heap.size W w' from fun W => by
    have h1 : (0 : Int) ≤ (i : Int) ∧ (i : Int) ≤ (s.size : Int) := by omega
    have h2 : (0 : Int) ≤ (i : Int) + 1 ∧ (i : Int) + 1 ≤ (s.size : Int) := by omega
    go_enter Tryd.func63, Tryd.ntmps63
    go_wp2_with fail
    refine (HI.out _).mono ?_; rintro e w1 ⟨rfl, rfl⟩
    go_wp2
    have h3 : IntKind.i64.wrap ((i : Int) + 1) = (i : Int) + 1 := by rw [IntKind.wrap_i64]; omega
    go_region_held3 (fun _ => True) (trivial) (fail)
    go_wp2
    go_ret3
    exact ⟨rfl, bdr (bre _)⟩)
  go_enter Tryd.func54, Tryd.ntmps54
  go_wp2_with fail
  refine (HL.out _).mono ?_; rintro e w1 ⟨rfl, hb⟩
  have HB := hid hb
  clear hb
  go_wp2
  go_ret3
  exact ⟨rfl, HB.out⟩
set_option maxHeartbeats 1600000 in
set_option maxRecDepth 100000 in
theorem cut_no (s : ByteArray) (w : World) (hz : fi14 58 s = -1) :
    Calls Tryd.prog 54 #[.string s, .string ⟨#[58]⟩] w fun e w' => e = .returned (.tuple #[.string s, .string ⟨#[]⟩, .bool false]) ∧ Below w.heap.size w w' := by
  have HI := hid (liteIndex_58 s)
  rw [hz] at HI
  clear hz
  have HL := hid (show ∀ W : World, Calls Tryd.prog 63 #[.string s, .string ⟨#[58]⟩] W fun e w' => e = .returned (.tuple #[.string s, .string ⟨#[]⟩, .bool false]) ∧ Below W.heap.size W w' from fun W => by
    go_enter Tryd.func63, Tryd.ntmps63
    go_wp2_with fail
    refine (HI.out _).mono ?_; rintro e w1 ⟨rfl, rfl⟩
    go_wp2
    go_ret3
    exact ⟨rfl, bre _⟩)
  go_enter Tryd.func54, Tryd.ntmps54
  go_wp2_with fail
  refine (HL.out _).mono ?_; rintro e w1 ⟨rfl, hb⟩
  have HB := hid hb
  clear hb
  go_wp2
  go_ret3
  exact ⟨rfl, HB.out⟩
set_option maxHeartbeats 1600000 in
set_option maxRecDepth 100000 in
theorem endSaid_any (s : ByteArray) (w : World) (hm : s.size ≤ 1048576) :
    Calls Tryd.prog 55 #[.string s] w fun e w' => e = .returned (.tuple #[.int .i64 (((ends s.data.toList).getD 0 : Nat) : Int), .bool (ends s.data.toList).isSome]) ∧ Below w.heap.size w w' := by
  by_cases h42 : (s.toList == [42]) = true
  · have HE : Hid (ends s.data.toList = some 0) := hid (by
      have h1 : s.data.toList = [42] := by rw [← ByteArray.toList_eq]; simpa using h42
      rw [h1]; rfl)
    go_enter Tryd.func55, Tryd.ntmps55
    go_wp2
    go_ret2
    exact ⟨by rw [HE.out]; rfl, bre _⟩
  · have h1 : ¬ s.data.toList = [42] := by rw [← ByteArray.toList_eq]; intro h; apply h42; rw [h]; rfl
    have h' : (s.toList == [42]) = false := by simpa using h42
    clear h42
    by_cases hg : 0 < s.size ∧ s.size ≤ 4 ∧ fga s = s.size
    · have hf := fga_figs s hg.2.2
      have HF := hid (fun W => fewFigures_any s 4 4 rfl W hg.1 hg.2.1 (by omega) hf)
      obtain ⟨n, hn⟩ : ∃ n, vlf 0 s.data.toList = n := ⟨_, rfl⟩
      have hall : s.data.toList.all fg = true := List.all_eq_true.2 (fun b hb => (fg_iff b).2 (hf b hb))
      rw [hn] at HF
      have HE : Hid (ends s.data.toList = if 0 < n then some n else none) := hid (by
        unfold ends
        rw [if_neg h1, hn]
        by_cases hz : 0 < n
        · rw [if_pos hz, if_pos ⟨by rw [dtl]; exact hg.1, by rw [dtl]; exact hg.2.1, hall, hz⟩]
        · rw [if_neg hz, if_neg (fun h => hz h.2.2.2)])
      clear hn hall hf hg h1
      by_cases hz : 0 < n
      · have HE2 := hid (HE.out.trans (if_pos hz))
        have i1 : (0 : Int) < (n : Int) := by omega
        clear HE
        go_enter Tryd.func55, Tryd.ntmps55
        go_wp2_with fail
        refine (HF.out _).mono ?_; rintro e w1 ⟨rfl, hb⟩
        have HB := hid hb
        clear hb
        go_wp2
        go_ret2
        exact ⟨by rw [HE2.out]; rfl, HB.out⟩
      · have HE2 := hid (HE.out.trans (if_neg hz))
        have hn0 : n = 0 := by omega
        subst hn0
        clear HE hz
        go_enter Tryd.func55, Tryd.ntmps55
        go_wp2_with fail
        refine (HF.out _).mono ?_; rintro e w1 ⟨rfl, hb⟩
        have HB := hid hb
        clear hb
        go_wp2
        go_ret2
        exact ⟨by rw [HE2.out]; rfl, HB.out⟩
    · have HE : Hid (ends s.data.toList = none) := hid (by
        unfold ends
        rw [if_neg h1, if_neg]
        rintro ⟨a1, a2, a3, _⟩
        rw [dtl] at a1 a2
        exact hg ⟨a1, a2, fga_all s (fun b hb => (fg_iff b).1 (List.all_eq_true.1 a3 b hb))⟩)
      have HF := hid (fun W => fewFigures_bad s 4 4 rfl W (by have := fga_le s; omega) hm)
      clear hg h1
      go_enter Tryd.func55, Tryd.ntmps55
      go_wp2_with fail
      refine (HF.out _).mono ?_; rintro e w1 ⟨rfl, hb⟩
      have HB := hid hb
      clear hb
      go_wp2
      go_ret2
      exact ⟨by rw [HE.out]; rfl, HB.out⟩
/-- A block that holds a range. -/
def Gq (W : World) (k ty : Nat) (p q : Int) : Prop := W.heap[k]? = some (.cells #[.int .i64 p, .int .i64 q] ty)
theorem Gq.new (w : World) (ty : Nat) (p q : Int) : Gq (w.alloc (.cells #[.int .i64 p, .int .i64 q] ty)) w.heap.size ty p q := heap_alloc_new w _
theorem Gq.lt {W : World} {k ty : Nat} {p q : Int} (h : Gq W k ty p q) : k < W.heap.size := (Array.getElem?_eq_some_iff.1 h).1
theorem Gq.later {W W' : World} {k ty : Nat} {p q : Int} (h : Gq W k ty p q) (hb : Below W.heap.size W W') : Gq W' k ty p q := (hb.block k h.lt).trans h
theorem Gq.cells {W : World} {k ty : Nat} {p q : Int} (h : Gq W k ty p q) : W.cell? ⟨k, 0, none⟩ = some (.int .i64 p) ∧ W.cell? ⟨k, 1, none⟩ = some (.int .i64 q) := ⟨cell_of_row W k 0 _ _ _ h, cell_of_row W k 1 _ _ _ h⟩
theorem Gq.loose {W : World} {k ty : Nat} {p q : Int} (h : Gq W k ty p q) : W.frozen? ⟨k, 0, none⟩ = false ∧ W.frozen? ⟨k, 1, none⟩ = false := ⟨frozen_of_row W k 0 _ _ h, frozen_of_row W k 1 _ _ h⟩
theorem Gq.put {W : World} {k ty : Nat} {p q : Int} (h : Gq W k ty p q) (p' q' : Int) : Gq ((W.setCell ⟨k, 0, none⟩ (.int .i64 p')).setCell ⟨k, 1, none⟩ (.int .i64 q')) k ty p' q' :=
  heap_setCell_same _ k 1 _ _ (.int .i64 q') (heap_setCell_same W k 0 _ _ (.int .i64 p') h)
set_option maxHeartbeats 3200000 in
set_option maxRecDepth 100000 in
theorem rangeSaid_any (s : ByteArray) (w : World) (hm : s.size ≤ 1048576) :
    Calls Tryd.prog 47 #[.string s] w fun e w' => e = .returned (.tuple #[.agg #[.int .i64 (rgv14 s.data.toList).1.1, .int .i64 (rgv14 s.data.toList).1.2], .bool (rgv14 s.data.toList).2]) ∧ Below w.heap.size w w' := by
  have T0 := hid (Gq.new w 47 0 0)
  obtain ⟨W0, hW0⟩ : ∃ W0, w.alloc (.cells #[.int .i64 0, .int .i64 0] 47) = W0 := ⟨_, rfl⟩
  rw [hW0] at T0
  have B0 : Hid (Below w.heap.size w W0) := hid (by rw [← hW0]; exact bpush (bre _) _)
  by_cases h58 : tw14 58 s.data.toList < s.data.toList.length
  · obtain ⟨i, hi⟩ : ∃ i, tw14 58 s.data.toList = i := ⟨_, rfl⟩
    have hlt : i < s.size := by rw [← hi]; rw [dtl] at h58; exact h58
    have hz : fi14 58 s = (i : Int) := by unfold fi14; rw [hi, if_pos hlt]
    have HC := hid (fun W => cut_yes s i W hz hlt hm)
    obtain ⟨u, hu⟩ : ∃ u, s.extract 0 i = u := ⟨_, rfl⟩
    obtain ⟨v, hv⟩ : ∃ v, s.extract (i + 1) s.size = v := ⟨_, rfl⟩
    have hul : u.data.toList = s.data.toList.take i := by rw [← hu, ext_take14]
    have hvl : v.data.toList = s.data.toList.drop (i + 1) := by rw [← hv, ext_drop14]
    have hus : u.size ≤ 1048576 := by rw [← hu, ByteArray.size_extract]; omega
    have hvs : v.size ≤ 1048576 := by rw [← hv, ByteArray.size_extract]; omega
    rw [hu, hv] at HC
    have HR : Hid (rgv14 s.data.toList = (((((ends u.data.toList).getD 0 : Nat) : Int), (((ends v.data.toList).getD 0 : Nat) : Int)), (ends u.data.toList).isSome && (ends v.data.toList).isSome)) := hid (by unfold rgv14; rw [if_pos h58, hi, hul, hvl])
    have HU := hid (fun W => endSaid_any u W hus)
    have HV := hid (fun W => endSaid_any v W hvs)
    clear hu hv hul hvl hus hvs hz hlt hi h58
    obtain ⟨a1, ha1⟩ : ∃ a1 : Nat, (ends u.data.toList).getD 0 = a1 := ⟨_, rfl⟩
    obtain ⟨b1, hb1⟩ : ∃ b1 : Bool, (ends u.data.toList).isSome = b1 := ⟨_, rfl⟩
    obtain ⟨a2, ha2⟩ : ∃ a2 : Nat, (ends v.data.toList).getD 0 = a2 := ⟨_, rfl⟩
    obtain ⟨b2, hb2⟩ : ∃ b2 : Bool, (ends v.data.toList).isSome = b2 := ⟨_, rfl⟩
    rw [ha1, hb1] at HU
    rw [ha2, hb2] at HV
    rw [ha1, hb1, ha2, hb2] at HR
    rw [HR.out]
    dsimp only
    clear ha1 hb1 ha2 hb2 HR
    go_enter Tryd.func47, Tryd.ntmps47
    go_wp2_with fail
    clear hW0
    refine (HC.out _).mono ?_; rintro e w1 ⟨rfl, hb⟩
    have HB1 := hid (btr B0.out hb)
    have T1 := hid (T0.out.later hb)
    clear hb
    go_wp2_with fail
    refine (HU.out _).mono ?_; rintro e w2 ⟨rfl, hb⟩
    have HB2 := hid (btr HB1.out hb)
    have T2 := hid (T1.out.later hb)
    clear hb
    go_wp2_with fail
    refine (HV.out _).mono ?_; rintro e w3 ⟨rfl, hb⟩
    have HB3 := hid (btr HB2.out hb)
    have T3 := hid (T2.out.later hb)
    clear hb
    have c1 := T3.out.cells
    have f1 := T3.out.loose
    cases b1
    all_goals
      go_wp2
      have d := (T3.out.put (a1 : Int) (a2 : Int)).cells
      refine bodyPost_ret (by simp [results, Tryd.results47, go_sem, d]; rfl) rfl ⟨by simp, bsk (bsk HB3.out (Nat.le_refl _) 0 _) (Nat.le_refl _) 1 _⟩
  · have hz : fi14 58 s = -1 := by unfold fi14; rw [if_neg (by rw [dtl] at h58; exact h58)]
    have HC := hid (fun W => cut_no s W hz)
    have HR : Hid (rgv14 s.data.toList = (((((ends s.data.toList).getD 0 : Nat) : Int), (((ends s.data.toList).getD 0 : Nat) : Int)), (ends s.data.toList).isSome)) := hid (by unfold rgv14; rw [if_neg h58])
    have HU := hid (fun W => endSaid_any s W hm)
    clear hz h58
    obtain ⟨a1, ha1⟩ : ∃ a1 : Nat, (ends s.data.toList).getD 0 = a1 := ⟨_, rfl⟩
    obtain ⟨b1, hb1⟩ : ∃ b1 : Bool, (ends s.data.toList).isSome = b1 := ⟨_, rfl⟩
    rw [ha1, hb1] at HU
    rw [ha1, hb1] at HR
    rw [HR.out]
    dsimp only
    clear ha1 hb1 HR
    go_enter Tryd.func47, Tryd.ntmps47
    go_wp2_with fail
    clear hW0
    refine (HC.out _).mono ?_; rintro e w1 ⟨rfl, hb⟩
    have HB1 := hid (btr B0.out hb)
    have T1 := hid (T0.out.later hb)
    clear hb
    go_wp2_with fail
    refine (HU.out _).mono ?_; rintro e w2 ⟨rfl, hb⟩
    have HB2 := hid (btr HB1.out hb)
    have T2 := hid (T1.out.later hb)
    clear hb
    go_wp2_with fail
    refine (HU.out _).mono ?_; rintro e w3 ⟨rfl, hb⟩
    have HB3 := hid (btr HB2.out hb)
    have T3 := hid (T2.out.later hb)
    clear hb
    have c1 := T3.out.cells
    have f1 := T3.out.loose
    cases b1
    all_goals
      go_wp2
      have d := (T3.out.put (a1 : Int) (a1 : Int)).cells
      refine bodyPost_ret (by simp [results, Tryd.results47, go_sem, d]; rfl) rfl ⟨by simp, bsk (bsk HB3.out (Nat.le_refl _) 0 _) (Nat.le_refl _) 1 _⟩
end Go.Proofs.YtkbiebacbebdnaaDoor
namespace Go.Proofs.YtkbiebacbebdnaaDoor
open Go Go.RowKit
/-- What an iterator's value does when it is called in the world W at the yield of loop l. Ch: what it may change outside the rounds; Kp: what each round keeps; S: all that comes; Sp: a beginning of it. -/
def SeqX {α : Type} (F : Fence) (n : Nat) (P : Program) (g : Nat) (lb : Array Value) (encs : α → Array Value) (Kp Ch : World → World → Prop) (S Sp : List α → Prop) (l : Nat) (W : World) : Prop :=
  ∀ (J Jx : List α → World → Prop), (∀ s A B, J s A → Ch A B → J s B) → (∀ s A B, Jx s A → Ch A B → Jx s B) →
    (∀ pre x A, J pre A → Sp (pre ++ [x]) → YieldAt F (n - 1) P l (encs x) A fun e B =>
      (e = .returned (.bool true) ∧ J (pre ++ [x]) B ∧ Kp A B) ∨ (e = .returned (.bool false) ∧ Jx (pre ++ [x]) B ∧ Kp A B)) →
    J [] W →
    CallsIn F n P g (#[.func (.yield l) #[] #[]] ++ lb) W fun e B => (∃ v, e = .returned v) ∧ ((∃ xs, S xs ∧ J xs B) ∨ (∃ pre, Sp pre ∧ Jx pre B))
/-- The jump by which a round's body is left; nothing where it panics. -/
def jumpX : Exit → Option (Option Go.Code)
  | .normal => some none
  | .ret => some (some .ret)
  | .exit id => some (some (.exit id))
  | .goto t => some (some (.goto t))
  | .panic _ => none
  | .outgrown => none
/-- What is asked behind a round, by its jump. -/
def saidX {α : Type} (I : List α → World → Prop) (Ix : Go.Code → List α → World → Prop) (xs : List α) (W : World) : Option Go.Code → Prop
  | none => I xs W
  | some c => Ix c xs W
/-- How a round's body may be left. -/
def ownPostX {α : Type} (B : Nat) (Kp : World → World → Prop) (I : List α → World → Prop) (Ix : Go.Code → List α → World → Prop) (xs : List α) (W : World) : Exit → Act → World → Prop
  | .normal, _, W' => KeepsFrom B W W' ∧ Kp W W' ∧ I xs W'
  | .ret, _, W' => KeepsFrom B W W' ∧ Kp W W' ∧ Ix .ret xs W'
  | .exit id, _, W' => KeepsFrom B W W' ∧ Kp W W' ∧ Ix (.exit id) xs W'
  | .goto t, _, W' => KeepsFrom B W W' ∧ Kp W W' ∧ Ix (.goto t) xs W'
  | .panic _, _, _ => False
  | .outgrown, _, _ => False
theorem ownPostX.jump {α : Type} {B : Nat} {Kp : World → World → Prop} {I : List α → World → Prop} {Ix : Go.Code → List α → World → Prop} {xs : List α} {W W' : World} {a : Act} {e : Exit} (h : ownPostX B Kp I Ix xs W e a W') :
    ∃ j, jumpX e = some j ∧ KeepsFrom B W W' ∧ Kp W W' ∧ saidX I Ix xs W' j := by
  cases e <;> first | exact ⟨_, rfl, h⟩ | exact absurd h id
theorem roundPost_jump {P : Program} {l : Nat} {R : Ending → World → Prop} {e : Exit} {a : Act} {W : World} {j : Option Go.Code} (hj : jumpX e = some j) (h : ∃ v B, (Instr.endRound l j).run P W = .ok v B ∧ R (.returned v) B) : roundPost P l R e a W := by
  cases e <;> first | (cases hj; exact h) | cases hj
/-- The two blocks that a loop lays from n on: one for what its rounds defer, then its record. -/
structure Bk (n : Nat) (r : Loop) (W : World) : Prop where
  rest : W.heap[n]? = some (.deferred (some []))
  book : W.heap[n + 1]? = some (.loop r)
section
variable {n : Nat} {r : Loop} {A B : World}
theorem Bk.lt (h : Bk n r A) : n + 1 < A.heap.size := (Array.getElem?_eq_some_iff.1 h.book).1
theorem Bk.keep (h : Bk n r A) (k : KeepsFrom n A B) : Bk n r B := ⟨k.same _ _ (Nat.le_refl _) h.rest rfl, k.same _ _ (Nat.le_succ _) h.book rfl⟩
theorem Bk.turn (h : Bk n r A) (r' : Loop) : Bk n r' (A.putObj (n + 1) (.loop r')) := ⟨(World.putObj_heap_other (Nat.ne_of_lt (Nat.lt_succ_self n))).trans h.rest, World.putObj_heap_same h.lt⟩
theorem Bk.own (h : Bk n r A) {β : Type} {I : β → World → Prop} (hI : OwnFrom n I) {s : β} (hs : I s A) (r' : Loop) : I s (A.putObj (n + 1) (.loop r')) := hI.putObj _ hs (Nat.le_succ _) h.book rfl
theorem Bk.made (w : World) (r : Loop) : Bk w.heap.size r ((w.alloc (.deferred (some []))).alloc (.loop r)) := by
  have h := World.alloc_heap_new (w.alloc (.deferred (some []))) (.loop r)
  rw [World.size_alloc] at h
  exact ⟨(Below.heap_alloc _ _ _ (by rw [World.size_alloc]; exact Nat.lt_succ_self _)).trans (World.alloc_heap_new w _), h⟩
theorem Bk.alike (h : Bk n r A) (hk : ∀ (k : Nat) (o : Obj), (k = n ∨ k = n + 1) → A.heap[k]? = some o → o.isCells = false → B.heap[k]? = some o) : Bk n r B := ⟨hk _ _ (.inl rfl) h.rest rfl, hk _ _ (.inr rfl) h.book rfl⟩
end
variable {F : Fence} {n : Nat} {P : Program}
/-- One round: the assignment, the record busy, the body, the record ready or done. -/
theorem round_x {α : Type} {ps : Array Tmp} {assign body : Go.Code} {a : Act} {w : World} {fn : FuncId} (hfn : F.fn fn)
    {encs : α → Array Value} {Kp : World → World → Prop}
    (hKt : ∀ {A B C : World}, Kp A B → Kp B C → Kp A C)
    (hKb : ∀ (W : World) (o o' : Obj), W.heap[w.heap.size + 1]? = some o → o.isCells = false → o.isWalk = false → Kp W (W.putObj (w.heap.size + 1) o'))
    (hps : ∀ x, (encs x).size = ps.size)
    (I : List α → World → Prop) (Ix : Go.Code → List α → World → Prop) (hI : OwnFrom w.heap.size I) (hIx : ∀ c, OwnFrom w.heap.size (Ix c)) (Ax : α → Act → World → Prop) (hAx : ∀ x a', OwnFrom w.heap.size (fun (_ : Unit) W => Ax x a' W))
    (x : α) (pre : List α) (W : World)
    (hassign : ∀ (K : Act → World → Prop), (∀ a' W', KeepsFrom w.heap.size W W' → Kp W W' → I pre W' → Ax x a' W' → K a' W') →
      assign.wpIn (F.inRound (w.heap.size + 1)) n P (Exit.then K (fun _ _ _ => False)) { tmps := (ps.zip (encs x)).foldl (fun t (p, v) => t.setIfInBounds p v) a.tmps, defers := [] } W)
    (hbody : ∀ (a' : Act) (W' : World), (∃ r, W'.heap[w.heap.size + 1]? = some (.loop r)) → I pre W' → Ax x a' W' → body.wpIn (F.inRound (w.heap.size + 1)) n P (ownPostX w.heap.size Kp I Ix (pre ++ [x]) W') a' W')
    (r : Loop) (hr : r = { state := .ready, pending := none, fn := fn, tmps := a.tmps, params := ps, assign := assign, body := body, defers := w.heap.size }) (hb : Bk w.heap.size r W) :
    YieldAt F n P (w.heap.size + 1) (encs x) W fun e B =>
      (e = .returned (.bool true) ∧ (I (pre ++ [x]) B ∧ Bk w.heap.size r B) ∧ Kp W B) ∨
      (e = .returned (.bool false) ∧ (∃ c, Ix c (pre ++ [x]) B ∧ Bk w.heap.size { r with state := .done, pending := some c } B) ∧ Kp W B) := by
  refine ⟨fn, (ps.zip (encs x)).foldl (fun t (p, v) => t.setIfInBounds p v) a.tmps, assign, body, ?_, roundIn_of_wpIn hfn (hassign _ fun a' Wa k1 k2 k3 k4 => ?_)⟩
  · have h := run_yield (P := P) (args := encs x) hb.book (by rw [hr]; exact hps x)
    rwa [hr] at h
  · have b1 := hb.keep k1
    have b2 := b1.turn { r with state := .busy }
    refine ⟨_, run_beginRound b1.book (by rw [hr]), wpIn_mono (hbody a' _ ⟨_, b2.book⟩ (b1.own hI k3 _) (b1.own (s := ()) (hAx x a') k4 _)) ?_⟩
    intro e a3 W3 hp
    obtain ⟨j, hj, q1, q2, q3⟩ := hp.jump
    have b3 := b2.keep q1
    have hK : Kp W (W3.putObj (w.heap.size + 1) (.loop { r with state := if j.isNone then .ready else .done, pending := j })) :=
      hKt k2 (hKt (hKb _ _ _ b1.book rfl rfl) (hKt q2 (hKb _ _ _ b3.book rfl rfl)))
    refine roundPost_jump hj ⟨_, _, run_endRound j b3.book, ?_⟩
    cases j with
    | none => exact .inl ⟨rfl, ⟨b3.own hI q3 _, by rw [hr]; rw [hr] at b3; exact b3.turn _⟩, hK⟩
    | some c => exact .inr ⟨rfl, ⟨c, b3.own (hIx c) q3 _, b3.turn _⟩, hK⟩
theorem wpIn_rangeFunc_x {α : Type} {g : Operand} {ps : Array Tmp} {assign body : Go.Code} {Q : Exit → Act → World → Prop} {a : Act} {w : World}
    (hro : F.round = none) (h1 : 1 ≤ n) {gf : Nat} {lb : Array Value} (hg : a.eval g = .func (.func gf) #[] lb) (hFg : F.fn gf) (eg : ∀ args w, (callFunc gf args).run P w = .ok (.enter gf args) w)
    {encs : α → Array Value} {Kp Ch : World → World → Prop} {S Sp : List α → Prop}
    (hseq : ∀ W1, Below w.heap.size w W1 → W1.heap.size = w.heap.size + 2 → SeqX F (n - 1) P gf lb encs Kp Ch S Sp (w.heap.size + 1) W1)
    (hKt : ∀ {A B C : World}, Kp A B → Kp B C → Kp A C)
    (hKb : ∀ (W : World) (o o' : Obj), W.heap[w.heap.size + 1]? = some o → o.isCells = false → o.isWalk = false → Kp W (W.putObj (w.heap.size + 1) o'))
    (hCh : ∀ A B k o, Ch A B → (k = w.heap.size ∨ k = w.heap.size + 1) → A.heap[k]? = some o → o.isCells = false → B.heap[k]? = some o)
    (hps : ∀ x, (encs x).size = ps.size)
    (I : List α → World → Prop) (Ix : Go.Code → List α → World → Prop) (hI : OwnFrom w.heap.size I) (hIx : ∀ c, OwnFrom w.heap.size (Ix c))
    (hIc : ∀ s A B, I s A → Ch A B → I s B) (hIxc : ∀ c s A B, Ix c s A → Ch A B → Ix c s B) (h0 : I [] w) (Ax : α → Act → World → Prop) (hAx : ∀ x a', OwnFrom w.heap.size (fun (_ : Unit) W => Ax x a' W))
    (hassign : ∀ (l : Nat) (pre : List α) (x : α) (W : World) (K : Act → World → Prop), I pre W → (∀ a' W', KeepsFrom w.heap.size W W' → Kp W W' → I pre W' → Ax x a' W' → K a' W') →
      assign.wpIn (F.inRound l) (n - 1 - 1) P (Exit.then K (fun _ _ _ => False)) { tmps := (ps.zip (encs x)).foldl (fun t (p, v) => t.setIfInBounds p v) a.tmps, defers := [] } W)
    (hbody : ∀ (l : Nat) (pre : List α) (x : α) (a' : Act) (W : World), w.heap.size ≤ l → (∃ r, W.heap[l]? = some (.loop r)) → I pre W → Ax x a' W → Sp (pre ++ [x]) → body.wpIn (F.inRound l) (n - 1 - 1) P (ownPostX w.heap.size Kp I Ix (pre ++ [x]) W) a' W)
    (hdone : ∀ (D : Nat) (xs : List α) (W : World), w.heap.size ≤ D → S xs → I xs W → W.heap[D]? = some (.deferred (some [])) → Q .normal { a with defers := { target := .collected D, args := #[] } :: a.defers } W)
    (hstop : ∀ (D : Nat) (c : Go.Code) (pre : List α) (W : World), w.heap.size ≤ D → Sp pre → Ix c pre W → W.heap[D]? = some (.deferred (some [])) → c.wpIn F n P Q { a with defers := { target := .collected D, args := #[] } :: a.defers } W) :
    (Go.Code.rangeFunc g ps assign body).wpIn F n P Q a w := by
  refine wpIn_rangeFunc fun fn hfn => ?_
  obtain ⟨r, hr⟩ : ∃ r : Loop, r = { state := .ready, pending := none, fn := fn, tmps := a.tmps, params := ps, assign := assign, body := body, defers := w.heap.size } := ⟨_, rfl⟩
  have hm := Bk.made w r
  have hi := hI.alloc (.loop r) (hI.alloc (.deferred (some [])) h0)
  have he := run_enterLoop_outer (P := P) (w := w) fn a.tmps ps assign body
  have hB : Below w.heap.size w ((w.alloc (.deferred (some []))).alloc (.loop r)) := ((Below.refl _ w).alloc (Nat.le_refl _) _).alloc (by simp) _
  have hz : ((w.alloc (.deferred (some []))).alloc (.loop r)).heap.size = w.heap.size + 2 := by simp
  rw [← hr] at he
  rw [hro]
  generalize (w.alloc (.deferred (some []))).alloc (.loop r) = W1 at hm hi he hB hz
  have hcall := hseq W1 hB hz (fun s W => I s W ∧ Bk w.heap.size r W) (fun s W => ∃ c, Ix c s W ∧ Bk w.heap.size { r with state := .done, pending := some c } W)
    (fun s A B hs hc => ⟨hIc s A B hs.1 hc, hs.2.alike fun k o hk ho ho' => hCh A B k o hc hk ho ho'⟩)
    (fun s A B ⟨c, hs, hbk⟩ hc => ⟨c, hIxc c s A B hs hc, hbk.alike fun k o hk ho ho' => hCh A B k o hc hk ho ho'⟩)
    (fun pre x A hA hpre => round_x (Kp := Kp) (w := w) (a := a) hfn (fun h k => hKt h k) hKb hps I Ix hI hIx Ax hAx x pre A (fun K hK => hassign _ pre x A K hA.1 hK) (fun a' W' hl hi' hax => hbody _ pre x a' W' (Nat.le_succ _) hl hi' hax hpre) r hr hA.2)
    ⟨hi, hm⟩
  refine ⟨_, _, W1, { target := .fn (.func gf) lb, args := #[.func (.yield (w.heap.size + 1)) #[] #[]] }, W1, gf, _, W1, he, by simp only [resolve, hg]; simp [go_sem], fun f' hf' => ?_, by simp [invoke, go_sem, eg], fun _ => h1, hcall.mono ?_⟩
  · simp [Target.leads] at hf'
    rw [← hf']; exact hFg
  · rintro e W2 ⟨⟨v, rfl⟩, ⟨xs, hS, hi2, hb2⟩ | ⟨pre, hS, c, hi2, hb2⟩⟩
    · have hend := run_endLoop (P := P) hb2.book (by rw [hr]; simp)
      exact ⟨none, _, by rw [hend, hr], hdone _ xs _ (Nat.le_refl _) hS (hb2.own hI hi2 _) (hb2.turn _).rest⟩
    · have hend := run_endLoop (P := P) hb2.book (by simp)
      exact ⟨some c, _, hend, hstop _ c pre _ (Nat.le_refl _) hS (hb2.own (hIx c) hi2 _) (hb2.turn _).rest⟩
end Go.Proofs.YtkbiebacbebdnaaDoor
namespace Go.Proofs.YtkbiebacbebdnaaDoor
open Go.RowKit Go.Shelf
/-- What the iterator changes outside the rounds: the box of the text that is left, and new blocks. -/
structure ChB (b : Nat) (A B : World) : Prop where
  grown : A.grownBy B (some b)
  was : ∃ v, Boxed A b 9 v
  got : ∃ v, Boxed B b 9 v
/-- What a round keeps of the iterator's own: boxes of texts and numbers from n on. -/
def KpT (n : Nat) (A B : World) : Prop := A.heap.size ≤ B.heap.size ∧ ∀ k v t, n ≤ k → (t = 9 ∨ t = 3) → Boxed A k t v → Boxed B k t v
def szAt (w : World) (b : Nat) : Nat := match w.cell? ⟨b, 0, none⟩ with | some (.string t) => t.size | _ => 0
theorem szAt_of {w : World} {b : Nat} {t : ByteArray} {ty : Nat} (h : Boxed w b ty (.string t)) : szAt w b = t.size := by unfold szAt; rw [h.cell]
theorem roomAny14 {F : Fence} (hd : F.depth = none) (k : Nat) : F.room k := fun d h => by rw [hd] at h; cases h
theorem RoundIn.any14 {F : Fence} (hd : F.depth = none) {m m' : Nat} {P : Program} {l : Nat} {f : FuncId} {tmps : Array Value} {assign body : Go.Code} {w : World} {R : Ending → World → Prop}
    (h : RoundIn F m P l f tmps assign body w R) : RoundIn F m' P l f tmps assign body w R := ⟨h.1, fun c cs _ => h.2 c cs (roomAny14 hd _)⟩
theorem pref_of {α : Type} {P pre rest : List α} {x : α} (h : P = pre ++ x :: rest) : pre ++ [x] <+: P := ⟨rest, by rw [h]; simp⟩
set_option maxRecDepth 100000 in
set_option maxHeartbeats 4000000 in
theorem split1_x (n l Bsep Bs Bsave n0 : Nat) (s0 : ByteArray) (hL : s0.size ≤ 1048576) (W : World) (b1 : Boxed W Bsep 9 (.string ⟨#[44]⟩)) (b2 : Boxed W Bs 9 (.string s0)) (b3 : Boxed W Bsave 3 (.int .i64 0))
    (hn1 : n0 ≤ Bsep) (hn2 : n0 ≤ Bs) (hn3 : n0 ≤ Bsave) (hne1 : Bsep ≠ Bs) (hne3 : Bsave ≠ Bs) (P : List (List UInt8)) (hP : P = plc 44 s0.size s0.data.toList) :
    SeqX Fence.wide n Tryd.prog 60 #[.pointer (some ⟨Bsep, 0, none⟩), .pointer (some ⟨Bs, 0, none⟩), .pointer (some ⟨Bsave, 0, none⟩)] (fun p : List UInt8 => #[.string (ba p)]) (KpT n0) (ChB Bs) (fun xs => xs = P) (fun pre => pre <+: P) l W := by
  intro J Jx hJ hJx hY h0
  refine callsIn_of_wp Tryd.func60 rfl trivial ?_ rfl
  have c1 := b1.cell
  have HB := hid (And.intro b1 (And.intro b2 b3))
  have HY := hid hY
  have HJ := hid hJ
  have HP := hid hP
  clear hY hJ hP b2 b3
  simp only [Tryd.ntmps60, List.size_toArray, List.length_cons, List.length_nil, Nat.reduceAdd, Nat.reduceSub, Array.replicate_succ, Array.replicate_zero, List.push_toArray, List.append_toArray, List.nil_append, List.cons_append]
  gi_wp2
  clear b1 c1
  gi_loopw [7] (fun _ wr => ∃ (pre : List (List UInt8)) (t : ByteArray) (f : Nat), P = pre ++ plc 44 f t.data.toList ∧ t.size ≤ f ∧ t.size ≤ 1048576 ∧ Boxed wr Bsep 9 (.string ⟨#[44]⟩) ∧ Boxed wr Bs 9 (.string t) ∧ Boxed wr Bsave 3 (.int .i64 0) ∧ J pre wr) (fun _ wr => szAt wr Bs)
  case atStart => exact ⟨[], s0, s0.size, HP.out, Nat.le_refl _, hL, HB.out.1, HB.out.2.1, HB.out.2.2, h0⟩
  case round =>
    obtain ⟨pre, t, f, hp, htf, htm, b1, b2, b3, hj⟩ := hrel
    have c1 := b1.cell
    have c2 := b2.cell
    have c3 := b3.cell
    have f2 := b2.frozen
    have HB1 := hid b1
    have HB2 := hid b2
    have HB3 := hid b3
    have HPP := hid hp
    have HTF := hid htf
    have HJ1 := hid hj
    clear b1 b2 b3 hp htf hj
    by_cases hlt : tw14 44 t.data.toList < t.size
    · obtain ⟨i, hi⟩ : ∃ i, tw14 44 t.data.toList = i := ⟨_, rfl⟩
      have hz : fi14 44 t = (i : Int) := by unfold fi14; rw [if_pos hlt, hi]
      rw [hi] at hlt
      have HI := hid (fun w => index_44 t w)
      rw [hz] at HI
      obtain ⟨g, hg⟩ : ∃ g, f = g + 1 := ⟨f - 1, by have := HTF.out; omega⟩
      have hpl : P = pre ++ t.data.toList.take i :: plc 44 g (t.data.toList.drop (i + 1)) := by
        rw [HPP.out, hg, plc, if_pos (by rw [hi, dtl]; exact hlt), hi]
      have e1 : t.extract 0 i = ba (t.data.toList.take i) := by rw [← ext_take14]
      have e2 : (t.extract (i + 1) t.size).data.toList = t.data.toList.drop (i + 1) := ext_drop14 t (i + 1)
      obtain ⟨fn, tmps, assign, body, hy, hR⟩ := HY.out pre (t.data.toList.take i) wr HJ1.out (pref_of hpl)
      rw [← e1] at hy
      have HPL := hid hpl
      have HE2 := hid e2
      have HR := hid hR
      have HG := hid hg
      have k1 : (0 : Int) ≤ (i : Int) ∧ (i : Int) ≤ (t.size : Int) := by omega
      have k2 : (0 : Int) ≤ (i : Int) + 1 ∧ (i : Int) + 1 ≤ (t.size : Int) := by omega
      clear hz hpl e1 e2 hR hg hi
      gi_wp2
      refine ⟨trivial, (fun h => by cases h), (callsIn_wide.2 (HI.out _)).mono ?_⟩
      rintro e w1 ⟨rfl, rfl⟩
      gi_wp2
      refine ⟨(fun h => by cases h), HR.out.mono ?_⟩
      rintro e W3 (⟨rfl, hj3, hk3⟩ | ⟨rfl, hx3, _⟩)
      · have d1 := hk3.2 Bsep _ 9 hn1 (.inl rfl) HB1.out
        have d2 := hk3.2 Bs _ 9 hn2 (.inl rfl) HB2.out
        have d3 := hk3.2 Bsave _ 3 hn3 (.inr rfl) HB3.out
        have g1 := d1.cell
        have g2 := d2.cell
        have g3 := d2.frozen
        have HD1 := hid d1
        have HD2 := hid d2
        have HD3 := hid d3
        have HJ3 := hid hj3
        have h64 : (i : Int) + 1 ≤ 1048576 := by omega
        clear d1 d2 d3 hj3 hk3 c1 c2 c3 f2
        gi_wp2
        have hz2 : (t.extract (i + 1) t.size).size = t.size - (i + 1) := by rw [ByteArray.size_extract]; omega
        refine ⟨⟨pre ++ [t.data.toList.take i], t.extract (i + 1) t.size, g, ?_, ?_, ?_, HD1.out.other hne1 _, HD2.out.set _, HD3.out.other hne3 _, HJ.out _ _ _ HJ3.out ⟨grownBy_setCell' W3 Bs _, ⟨_, HD2.out⟩, ⟨_, HD2.out.set _⟩⟩⟩, ?_⟩
        · rw [HPL.out, HE2.out]; simp
        · have h1 := HTF.out
          have h2 := HG.out
          rw [hz2]; omega
        · rw [hz2]; omega
        · rw [szAt_of (HD2.out.set _), szAt_of HB2.out, hz2]; omega
      · gi_wp2
        refine bodyPost_ret (results_none rfl _ _ _) rfl ?_
        exact ⟨⟨_, rfl⟩, .inr ⟨_, pref_of HPL.out, hx3⟩⟩
    · have hz : fi14 44 t = -1 := by unfold fi14; rw [if_neg hlt]
      have HI := hid (fun w => index_44 t w)
      rw [hz] at HI
      have hpl : P = pre ++ t.data.toList :: [] := by rw [HPP.out, plc_last (by rw [dtl]; exact hlt)]
      have e1 : t = ba t.data.toList := rfl
      obtain ⟨fn, tmps, assign, body, hy, hR⟩ := HY.out pre t.data.toList wr HJ1.out (pref_of hpl)
      rw [← e1] at hy
      have HPL := hid hpl
      have HR := hid hR
      clear hz hpl e1 hR hlt
      gi_wp2
      refine ⟨trivial, (fun h => by cases h), (callsIn_wide.2 (HI.out _)).mono ?_⟩
      rintro e w2 ⟨rfl, rfl⟩
      gi_wp2
      refine ⟨(fun h => by cases h), HR.out.mono ?_⟩
      rintro e W3 (⟨rfl, hj3, hk3⟩ | ⟨rfl, hx3, _⟩)
      · gi_wp2
        go_end0
        exact ⟨⟨_, rfl⟩, .inl ⟨_, HPL.out.symm, hj3⟩⟩
      · gi_wp2
        go_end0
        exact ⟨⟨_, rfl⟩, .inr ⟨_, pref_of HPL.out, hx3⟩⟩
end Go.Proofs.YtkbiebacbebdnaaDoor
