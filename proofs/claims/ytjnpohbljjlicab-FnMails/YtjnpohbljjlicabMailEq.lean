/- Mails held against each other. -/
import Derived.Test.YtjnpohbljjlicabMailTo
namespace Go.Proofs.Ytjnpohbljjlicab
open Go.RowKit

theorem take_grow {l m : List R3} {i : Nat} (hl : i < l.length) (hm : i < m.length) (h : l.take i = m.take i) (e : l[i] = m[i]) : l.take (i + 1) = m.take (i + 1) := by
  rw [List.take_succ_eq_append_getElem hl, List.take_succ_eq_append_getElem hm, h, e]
theorem ne_at {l m : List R3} {i : Nat} (hl : i < l.length) (hm : i < m.length) (e : ¬ l[i] = m[i]) : decide (l = m) = false := by
  apply decide_eq_false; rintro rfl; exact e rfl

theorem ne_three {v t b v' t' b' : Int} (h : ¬ ((v, t, b) : R3) = (v', t', b')) : (v == v') = false ∨ (v = v' ∧ (t == t') = false) ∨ (v = v' ∧ t = t' ∧ (b == b') = false) := by
  by_cases h1 : v = v'
  · by_cases h2 : t = t'
    · by_cases h3 : b = b'
      · exact absurd (by rw [h1, h2, h3]) h
      · exact Or.inr (Or.inr ⟨h1, h2, beq_eq_false_iff_ne.2 h3⟩)
    · exact Or.inr (Or.inl ⟨h1, beq_eq_false_iff_ne.2 h2⟩)
  · exact Or.inl (beq_eq_false_iff_ne.2 h1)
theorem bdn {a w : World} (h : Below a.heap.size a w) (k : Nat) : Below a.heap.size a (w.drewN k) := ⟨h.os, h.tape, h.output, h.size, h.block⟩

set_option maxHeartbeats 800000 in
set_option maxRecDepth 100000 in
theorem equal_any (ao bo : Option Addr) (na nb ca cb : Nat) (l m : List R3) (w : World) (hl : l.length = na) (hm : m.length = nb) (hna : na ≤ 1048576) (ha : Rs w ao l) (hb : Rs w bo m) :
    Calls Try.prog 35 #[.slice ao na ca, .slice bo nb cb] w fun e w' => e = .returned (.bool (decide (l = m))) ∧ Below w.heap.size w w' := by
  have HA := hid ha
  have HB := hid hb
  have HL := hid hl
  have HM := hid hm
  clear ha hb hl hm
  by_cases hn : na = nb
  · have HN := hid hn
    have hnn : ((na : Int) != (nb : Int)) = false := by rw [hn]; simp
    clear hn
    go_enter Try.func35, Try.ntmps35
    go_wp2
    clear hnn
    go_loopw [13] (fun iv wr => ∃ i : Nat, i ≤ na ∧ iv = .int .i64 (i : Int) ∧ Hid (l.take i = m.take i) ∧ Below w.heap.size w wr) (fun iv _ => na - (intOf iv).toNat)
    case atStart => exact ⟨0, Nat.zero_le _, rfl, rfl, bre _⟩
    case round =>
      obtain ⟨i, hi, rfl, HT, hb⟩ := hrel
      have HBE := hid hb
      clear hb
      by_cases hlt : i < na
      · have hil : i < l.length := by rw [HL.out]; exact hlt
        have him : i < m.length := by rw [HM.out, ← HN.out]; exact hlt
        obtain ⟨k, o, rfl, hk, c⟩ := (HA.out.later HBE.out).at hil
        obtain ⟨k', o', rfl, hk', d⟩ := (HB.out.later HBE.out).at him
        by_cases he : l[i] = m[i]
        · have HE : Hid (l.take (i + 1) = m.take (i + 1)) := take_grow hil him HT.out he
          obtain ⟨p, hp⟩ : ∃ p, l[i] = p := ⟨_, rfl⟩
          rw [hp] at c
          rw [← he, hp] at d
          obtain ⟨v, t, b⟩ := p
          clear hp he
          have hI : (0 : Int) ≤ (i : Int) ∧ (i : Int) < (na : Int) := by omega
          have hI' : (0 : Int) ≤ (i : Int) ∧ (i : Int) < (nb : Int) := by have := HN.out; omega
          go_wp2_with fail
          go_quiet (fail)
          go_wp2
          go_roundw
          case rel => exact ⟨i + 1, by omega, by go_num, HE, bdn HBE.out _⟩
          case measure => simp [intOf]; omega
        · have HF : Hid (decide (l = m) = false) := ne_at hil him he
          obtain ⟨p, hp⟩ : ∃ p, l[i] = p := ⟨_, rfl⟩
          obtain ⟨q, hq⟩ : ∃ q, m[i] = q := ⟨_, rfl⟩
          rw [hp] at c he
          rw [hq] at d he
          obtain ⟨v, t, b⟩ := p
          obtain ⟨v', t', b'⟩ := q
          clear hp hq
          have hI : (0 : Int) ≤ (i : Int) ∧ (i : Int) < (na : Int) := by omega
          have hI' : (0 : Int) ≤ (i : Int) ∧ (i : Int) < (nb : Int) := by have := HN.out; omega
          rcases ne_three he with h | ⟨rfl, h⟩ | ⟨rfl, rfl, h⟩
          all_goals
            clear he
            go_wp2_with fail
            go_quiet (fail)
            go_wp2
            go_ret
            exact ⟨by rw [HF.out]; rfl, bdn HBE.out _⟩
      · have HE : Hid (decide (l = m) = true) := by
          have h1 := HT.out
          rw [List.take_of_length_le (by rw [HL.out]; omega), List.take_of_length_le (by rw [HM.out, ← HN.out]; omega)] at h1
          exact decide_eq_true h1
        go_wp2
        go_ret
        exact ⟨by rw [HE.out]; rfl, HBE.out⟩
  · have HF : Hid (decide (l = m) = false) := decide_eq_false (by rintro rfl; exact hn (HL.out.symm.trans HM.out))
    have hnn : ((na : Int) != (nb : Int)) = true := by simp; omega
    go_enter Try.func35, Try.ntmps35
    go_wp2
    go_ret
    exact ⟨by rw [HF.out]; rfl, bre _⟩

def smail (g u : Int) (l : List R3) (t : ByteArray) (g' u' : Int) (m : List R3) (t' : ByteArray) : Bool := decide (g = g') && decide (u = u') && decide (l = m) && decide (t = t')

theorem bytes_inj {t t' : ByteArray} (h : t.toList = t'.toList) : t = t' := by
  rw [ByteArray.toList_eq, ByteArray.toList_eq] at h
  cases t; cases t'; simp only [ByteArray.mk.injEq]; exact Array.toList_inj.1 h
theorem bytes_ne {t t' : ByteArray} (h : ¬ t = t') : (t.toList == t'.toList) = false := beq_eq_false_iff_ne.2 fun e => h (bytes_inj e)

theorem equal_l (ao bo : Option Addr) (na nb ca cb : Nat) (l m : List R3) (hl : l.length = na) (hm : m.length = nb) (hna : na ≤ 1048576) : ∃ p : Bool, Hid (p = decide (l = m)) ∧ Hid (∀ w, Rs w ao l → Rs w bo m → Calls Try.prog 35 #[.slice ao na ca, .slice bo nb cb] w fun e w' => e = .returned (.bool p) ∧ Below w.heap.size w w') :=
  ⟨_, rfl, fun w ha hb => equal_any ao bo na nb ca cb l m w hl hm hna ha hb⟩

set_option maxHeartbeats 800000 in
set_option maxRecDepth 100000 in
theorem implSame_any (g u : Int) (ao : Option Addr) (na ca : Nat) (l : List R3) (t : ByteArray) (g' u' : Int) (bo : Option Addr) (nb cb : Nat) (m : List R3) (t' : ByteArray) (w : World) (hl : l.length = na) (hm : m.length = nb) (hna : na ≤ 1048576) (ha : Rs w ao l) (hb : Rs w bo m) :
    Calls Try.prog 15 #[.agg #[.int .i64 g, .int .i64 u, .slice ao na ca, .string t], .agg #[.int .i64 g', .int .i64 u', .slice bo nb cb, .string t']] w fun e w' => e = .returned (.bool (smail g u l t g' u' m t')) ∧ Below w.heap.size w w' := by
  obtain ⟨p, hp, cp⟩ := equal_l ao bo na nb ca cb l m hl hm hna
  obtain ⟨W0, hW0⟩ : ∃ W0, ((w.alloc (.cells #[.int .i64 g, .int .i64 u, .slice ao na ca, .string t] 26)).alloc (.cells #[.int .i64 g', .int .i64 u', .slice bo nb cb, .string t'] 26)) = W0 := ⟨_, rfl⟩
  obtain ⟨a0, a1, b0⟩ := two_mails w _ _ _ _ _ _ _ _ _ _ W0 hW0
  have A0 := hid a0
  have A1 := hid a1
  have B0 := hid b0
  have HA := hid ha
  have HB := hid hb
  have c0 := a0.cells
  have c1 := a1.cells
  clear a0 a1 b0 ha hb hl hm hna
  by_cases hg : g = g'
  · by_cases hu : u = u'
    · subst hg hu
      have HS : Hid (smail g u l t g u m t' = (p && decide (t = t'))) := by show _ = _; simp [smail, hp.out]
      rw [HS.out]
      go_enter Try.func15, Try.ntmps15
      go_wp2_with fail
      clear hW0
      refine (cp.out _ (HA.out.later B0.out) (HB.out.later B0.out)).mono ?_; rintro e w1 ⟨rfl, hb⟩
      have d0 := (A0.out.later hb).cells
      have d1 := (A1.out.later hb).cells
      have HB1 := hid (btr B0.out hb)
      clear c0 c1 hb
      cases p
      · go_wp2
        go_ret
        exact ⟨rfl, HB1.out⟩
      · by_cases ht : t = t'
        · subst ht
          go_wp2
          go_ret
          exact ⟨by simp, HB1.out⟩
        · have h := bytes_ne ht
          have HT := hid ht
          clear ht
          go_wp2
          go_ret
          exact ⟨by simp [HT.out], HB1.out⟩
    · subst hg
      have HS : Hid (smail g u l t g u' m t' = false) := by show _ = _; simp [smail, hu]
      rw [HS.out]
      have h : (u == u') = false := beq_eq_false_iff_ne.2 hu
      clear hu
      go_enter Try.func15, Try.ntmps15
      go_wp2
      go_ret
      exact ⟨rfl, B0.out⟩
  · have HS : Hid (smail g u l t g' u' m t' = false) := by show _ = _; simp [smail, hg]
    rw [HS.out]
    have h : (g == g') = false := beq_eq_false_iff_ne.2 hg
    clear hg
    go_enter Try.func15, Try.ntmps15
    go_wp2
    go_ret
    exact ⟨rfl, B0.out⟩

set_option maxHeartbeats 800000 in
set_option maxRecDepth 100000 in
theorem specSame_any (g u : Int) (ao : Option Addr) (na ca : Nat) (l : List R3) (t : ByteArray) (g' u' : Int) (bo : Option Addr) (nb cb : Nat) (m : List R3) (t' : ByteArray) (w : World) (hl : l.length = na) (hm : m.length = nb) (hna : na ≤ 1048576) (ha : Rs w ao l) (hb : Rs w bo m) :
    Calls Try.prog 13 #[.agg #[.int .i64 g, .int .i64 u, .slice ao na ca, .string t], .agg #[.int .i64 g', .int .i64 u', .slice bo nb cb, .string t']] w fun e w' => e = .returned (.bool (smail g u l t g' u' m t')) ∧ Below w.heap.size w w' := by
  obtain ⟨W0, hW0⟩ : ∃ W0, ((w.alloc (.cells #[.int .i64 g, .int .i64 u, .slice ao na ca, .string t] 26)).alloc (.cells #[.int .i64 g', .int .i64 u', .slice bo nb cb, .string t'] 26)) = W0 := ⟨_, rfl⟩
  obtain ⟨a0, a1, b0⟩ := two_mails w _ _ _ _ _ _ _ _ _ _ W0 hW0
  have A0 := hid a0
  have A1 := hid a1
  have B0 := hid b0
  have HA := hid (ha.later b0)
  have HB := hid (hb.later b0)
  have HL := hid hl
  have HM := hid hm
  have c0 := a0.cells
  have c1 := a1.cells
  clear a0 a1 b0 ha hb hl hm
  by_cases hg : g = g'
  · by_cases hu : u = u'
    · by_cases ht : t = t'
      · by_cases hn : na = nb
        · subst hg hu ht
          have HN := hid hn
          have hnn : ((na : Int) != (nb : Int)) = false := by rw [hn]; simp
          have HS : Hid (smail g u l t g u m t = decide (l = m)) := by show _ = _; simp [smail]
          rw [HS.out]
          clear hn
          go_enter Try.func13, Try.ntmps13
          go_wp2
          clear hnn hW0 c0 c1
          go_loopw [5] (fun iv wr => ∃ i : Nat, i ≤ na ∧ iv = .int .i64 (i : Int) ∧ Hid (l.take i = m.take i) ∧ Below W0.heap.size W0 wr) (fun iv _ => na - (intOf iv).toNat)
          case atStart => exact ⟨0, Nat.zero_le _, rfl, rfl, bre _⟩
          case round =>
            obtain ⟨i, hi, rfl, HT, hb⟩ := hrel
            have HBE := hid hb
            have d0 := (A0.out.later hb).cells
            have d1 := (A1.out.later hb).cells
            clear hb
            by_cases hlt : i < na
            · have hil : i < l.length := by rw [HL.out]; exact hlt
              have him : i < m.length := by rw [HM.out, ← HN.out]; exact hlt
              obtain ⟨k, o, rfl, hk, c⟩ := (HA.out.later HBE.out).at hil
              obtain ⟨k', o', rfl, hk', d⟩ := (HB.out.later HBE.out).at him
              have hI : (0 : Int) ≤ (i : Int) ∧ (i : Int) < (na : Int) := by omega
              have hI' : (0 : Int) ≤ (i : Int) ∧ (i : Int) < (nb : Int) := by have := HN.out; omega
              by_cases he : l[i] = m[i]
              · have HE : Hid (l.take (i + 1) = m.take (i + 1)) := take_grow hil him HT.out he
                obtain ⟨p, hp⟩ : ∃ p, l[i] = p := ⟨_, rfl⟩
                rw [hp] at c
                rw [← he, hp] at d
                obtain ⟨v, t, b⟩ := p
                clear hp he
                go_wp2_with fail
                go_quiet (fail)
                go_wp2
                go_roundw
                case rel => exact ⟨i + 1, by omega, by go_num, HE, bdn HBE.out _⟩
                case measure => simp [intOf]; omega
              · have HF : Hid (decide (l = m) = false) := ne_at hil him he
                obtain ⟨p, hp⟩ : ∃ p, l[i] = p := ⟨_, rfl⟩
                obtain ⟨q, hq⟩ : ∃ q, m[i] = q := ⟨_, rfl⟩
                rw [hp] at c he
                rw [hq] at d he
                obtain ⟨v, t, b⟩ := p
                obtain ⟨v', t', b'⟩ := q
                clear hp hq
                rcases ne_three he with h | ⟨rfl, h⟩ | ⟨rfl, rfl, h⟩
                all_goals
                  clear he
                  go_wp2_with fail
                  go_quiet (fail)
                  go_wp2
                  go_ret
                  exact ⟨by rw [HF.out]; rfl, btr B0.out (bdn HBE.out _)⟩
            · have HE : Hid (decide (l = m) = true) := by
                have h1 := HT.out
                rw [List.take_of_length_le (by rw [HL.out]; omega), List.take_of_length_le (by rw [HM.out, ← HN.out]; omega)] at h1
                exact decide_eq_true h1
              go_wp2
              go_ret
              exact ⟨by rw [HE.out]; rfl, btr B0.out HBE.out⟩
        · subst hg hu ht
          have HS : Hid (smail g u l t g u m t = false) := by
            have : decide (l = m) = false := decide_eq_false (by rintro rfl; exact hn (HL.out.symm.trans HM.out))
            show _ = _; simp [smail, this]
          rw [HS.out]
          have hnn : ((na : Int) != (nb : Int)) = true := by simp; omega
          clear hn
          go_enter Try.func13, Try.ntmps13
          go_wp2
          go_ret
          exact ⟨rfl, B0.out⟩
      · subst hg hu
        have HS : Hid (smail g u l t g u m t' = false) := by show _ = _; simp [smail, ht]
        rw [HS.out]
        have h := bytes_ne ht
        clear ht
        go_enter Try.func13, Try.ntmps13
        go_wp2
        go_ret
        exact ⟨rfl, B0.out⟩
    · subst hg
      have HS : Hid (smail g u l t g u' m t' = false) := by show _ = _; simp [smail, hu]
      rw [HS.out]
      have h : (u != u') = true := bne_iff_ne.2 hu
      clear hu
      go_enter Try.func13, Try.ntmps13
      go_wp2
      go_ret
      exact ⟨rfl, B0.out⟩
  · have HS : Hid (smail g u l t g' u' m t' = false) := by show _ = _; simp [smail, hg]
    rw [HS.out]
    have h : (g != g') = true := bne_iff_ne.2 hg
    clear hg
    go_enter Try.func13, Try.ntmps13
    go_wp2
    go_ret
    exact ⟨rfl, B0.out⟩
end Go.Proofs.Ytjnpohbljjlicab
