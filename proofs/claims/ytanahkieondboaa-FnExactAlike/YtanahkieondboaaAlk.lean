/- Stores held against each other: both programs, at any two. -/
import Derived.Test.YtanahkieondboaaOpenS
import Derived.Test.YtanahkieondboaaSsz
import Derived.Test.YtanahkieondboaaSto2
namespace Go.Proofs.Ytanahkieondboaa
open Go.RowKit Go.ChangeMaps

theorem take_up {α : Type} {l m : List α} {i : Nat} (hl : i < l.length) (hm : i < m.length) (h : l.take i = m.take i) (e : l[i] = m[i]) : l.take (i + 1) = m.take (i + 1) := by
  rw [List.take_succ_eq_append_getElem hl, List.take_succ_eq_append_getElem hm, h, e]
theorem eq_end {α : Type} {l m : List α} {i na nb : Nat} (hl : l.length = na) (hm : m.length = nb) (hn : na = nb) (hi : na ≤ i) (h : l.take i = m.take i) : l = m := by
  rwa [List.take_of_length_le (by omega), List.take_of_length_le (by omega)] at h
theorem ne_len {α : Type} {l m : List α} {na nb : Nat} (hl : l.length = na) (hm : m.length = nb) (hn : ¬ na = nb) : ¬ l = m := by
  rintro rfl; exact hn (hl.symm.trans hm)
theorem ne_up {α : Type} {l m : List α} {i : Nat} (hl : i < l.length) (hm : i < m.length) (e : ¬ l[i] = m[i]) : ¬ l = m := by
  rintro rfl; exact e rfl
/-- What is returned tells whether p. -/
def Rt (p : Prop) (e : Ending) : Prop := ∃ r : Bool, e = .returned (.bool r) ∧ (r = true ↔ p)
theorem Rt.yes {p : Prop} (h : p) : Rt p (.returned (.bool true)) := ⟨true, rfl, ⟨fun _ => h, fun _ => rfl⟩⟩
theorem Rt.no {p : Prop} (h : ¬ p) : Rt p (.returned (.bool false)) := ⟨false, rfl, ⟨fun x => (by cases x), fun x => absurd x h⟩⟩

set_option maxHeartbeats 800000 in
set_option maxRecDepth 100000 in
/-- slices.Equal of numbers. -/
theorem eqInts_any (l1 h1 l2 h2 : Nat) (ao bo : Option Addr) (na nb ca cb : Nat) (l m : List Int) (w : World) (hl : l.length = na) (hm : m.length = nb) (hna : na ≤ 1048576) (ha : Is l1 h1 w ao l) (hb : Is l2 h2 w bo m) :
    Calls Try.prog 16 #[.slice ao na ca, .slice bo nb cb] w fun e w' => Rt (l = m) e ∧ Below w.heap.size w w' := by
  have HA := hid ha
  have HB := hid hb
  have HL := hid hl
  have HM := hid hm
  clear ha hb hl hm
  by_cases hn : na = nb
  · have HN := hid hn
    have hnn : ((na : Int) != (nb : Int)) = false := by rw [hn]; simp
    clear hn
    go_enter Try.func16, Try.ntmps16
    go_wp2
    clear hnn
    go_loopw [13] (fun iv wr => ∃ i : Nat, i ≤ na ∧ iv = .int .i64 (i : Int) ∧ Hid (l.take i = m.take i) ∧ Below w.heap.size w wr) (fun iv _ => na - (intOf iv).toNat)
    case atStart => exact ⟨0, Nat.zero_le _, rfl, rfl, bre _⟩
    case round =>
      obtain ⟨i, hi, rfl, HT, hb⟩ := hrel
      have HBE := hid hb
      clear hb
      by_cases hlt : i < na
      · have hil : i < l.length := by rw [HL.out]; exact hlt
        have him : i < m.length := by rw [HM.out, ← HN.out]; exact hlt
        obtain ⟨k, o, rfl, hk, c⟩ := (HA.out.later HBE.out).at hil
        obtain ⟨k', o', rfl, hk', d⟩ := (HB.out.later HBE.out).at him
        have hI : (0 : Int) ≤ (i : Int) ∧ (i : Int) < (na : Int) := by omega
        have hI' : (0 : Int) ≤ (i : Int) ∧ (i : Int) < (nb : Int) := by have := HN.out; omega
        by_cases he : l[i] = m[i]
        · have HE : Hid (l.take (i + 1) = m.take (i + 1)) := take_up hil him HT.out he
          obtain ⟨p, hp⟩ : ∃ p, l[i] = p := ⟨_, rfl⟩
          rw [hp] at c
          rw [← he, hp] at d
          clear hp he
          have hpp : (p != p) = false := by simp
          go_wp2_with fail
          go_quiet (fail)
          clear c d hpp
          go_wp2
          go_roundw
          case rel => exact ⟨i + 1, by omega, by go_num, HE, bdn HBE.out _⟩
          case measure => simp [intOf]; omega
        · have HF : Hid (¬ l = m) := ne_up hil him he
          obtain ⟨p, hp⟩ : ∃ p, l[i] = p := ⟨_, rfl⟩
          obtain ⟨q, hq⟩ : ∃ q, m[i] = q := ⟨_, rfl⟩
          rw [hp] at c he
          rw [hq] at d he
          clear hp hq
          have hpp : (p != q) = true := bne_iff_ne.2 he
          clear he
          go_wp2_with fail
          go_quiet (fail)
          clear c d hpp
          go_wp2
          go_ret
          exact ⟨Rt.no HF.out, bdn HBE.out _⟩
      · have HE : Hid (l = m) := eq_end HL.out HM.out HN.out (by omega) HT.out
        go_wp2
        go_ret
        exact ⟨Rt.yes HE.out, HBE.out⟩
  · have HF : Hid (¬ l = m) := ne_len HL.out HM.out hn
    have hnn : ((na : Int) != (nb : Int)) = true := by simp; omega
    go_enter Try.func16, Try.ntmps16
    go_wp2
    go_ret
    exact ⟨Rt.no HF.out, bre _⟩

theorem smail_iff (p q : M4) : smail p.1 p.2.1 p.2.2.1 p.2.2.2 q.1 q.2.1 q.2.2.1 q.2.2.2 = true ↔ p = q := by
  obtain ⟨g, u, l, t⟩ := p
  obtain ⟨g', u', l', t'⟩ := q
  unfold smail
  simp [and_assoc]

/-- What is laid for a round of two mails: the two new blocks, each read by itself. -/
theorem two_new (wr : World) (T : TypeId) (a b : Array Value) : ((wr.alloc (.cells a T)).alloc (.cells b T)).heap[wr.heap.size]? = some (.cells a T) ∧ ((wr.alloc (.cells a T)).alloc (.cells b T)).heap[wr.heap.size + 1]? = some (.cells b T) := by
  constructor
  · rw [RowKit.Below.heap_alloc _ _ _ (by simp), heap_alloc_new]
  · have := heap_alloc_new (wr.alloc (.cells a T)) (.cells b T)
    simpa using this
set_option maxHeartbeats 1600000 in
set_option maxRecDepth 100000 in
/-- slices.EqualFunc of mails, by SameMail. -/
theorem eqMails_any (l1 h1 l2 h2 : Nat) (ao bo : Option Addr) (na nb ca cb : Nat) (l m : List M4) (w : World) (hl : l.length = na) (hm : m.length = nb) (hna : na ≤ 1048576) (hsm : Sm l) (ha : Ms l1 h1 w ao l) (hb : Ms l2 h2 w bo m) :
    Calls Try.prog 22 #[.slice ao na ca, .slice bo nb cb, .func (.func 23) #[] #[]] w fun e w' => Rt (l = m) e ∧ Below w.heap.size w w' := by
  have HA := hid ha
  have HB := hid hb
  have HL := hid hl
  have HM := hid hm
  have HX := hid hsm
  clear ha hb hl hm hsm
  by_cases hn : na = nb
  · have HN := hid hn
    have hnn : ((na : Int) != (nb : Int)) = false := by rw [hn]; simp
    clear hn
    go_enter Try.func22, Try.ntmps22
    go_wp2
    clear hnn
    go_loopw [17] (fun iv wr => ∃ i : Nat, i ≤ na ∧ iv = .int .i64 (i : Int) ∧ Hid (l.take i = m.take i) ∧ Below w.heap.size w wr) (fun iv _ => na - (intOf iv).toNat)
    case atStart => exact ⟨0, Nat.zero_le _, rfl, rfl, bre _⟩
    case round =>
      obtain ⟨i, hi, rfl, HT, hb⟩ := hrel
      have HBE := hid hb
      clear hb
      by_cases hlt : i < na
      · have hil : i < l.length := by rw [HL.out]; exact hlt
        have him : i < m.length := by rw [HM.out, ← HN.out]; exact hlt
        obtain ⟨k, o, fa, fc, rfl, hk, c, hr1, _⟩ := (HA.out.later HBE.out).at hil
        obtain ⟨k', o', fa', fc', rfl, hk', d, hr2, _⟩ := (HB.out.later HBE.out).at him
        have hmem := HX.out l[i] (List.getElem_mem hil)
        have HE : Hid (l[i] = m[i] → l.take (i + 1) = m.take (i + 1)) := fun e => take_up hil him HT.out e
        have HF : Hid (¬ l[i] = m[i] → ¬ l = m) := fun e => ne_up hil him e
        obtain ⟨p, hp⟩ : ∃ p, l[i] = p := ⟨_, rfl⟩
        obtain ⟨q, hq⟩ : ∃ q, m[i] = q := ⟨_, rfl⟩
        rw [hp] at c hr1 hmem HE HF
        rw [hq] at d hr2 HE HF
        have hs := smail_iff p q
        obtain ⟨g, u, f, t⟩ := p
        obtain ⟨g', u', f', t'⟩ := q
        dsimp only at c d hr1 hr2 hmem hs
        obtain ⟨n1, hn1⟩ : ∃ n, f.length = n := ⟨_, rfl⟩
        obtain ⟨n2, hn2⟩ : ∃ n, f'.length = n := ⟨_, rfl⟩
        rw [hn1] at c
        rw [hn2] at d
        have N1 : Hid (n1 ≤ 1048576) := by show _ ≤ _; rw [← hn1]; exact hmem.1
        have HN1 := hid hn1
        have HN2 := hid hn2
        have R1 := hid hr1
        have R2 := hid hr2
        obtain ⟨r, hr⟩ : ∃ r : Bool, smail g u f t g' u' f' t' = r := ⟨_, rfl⟩
        have HR := hid hr
        have HS := hid hs
        clear hp hq hmem hn1 hn2 hr1 hr2 hr hs
        have hI : (0 : Int) ≤ (i : Int) ∧ (i : Int) < (na : Int) := by omega
        have hI' : (0 : Int) ≤ (i : Int) ∧ (i : Int) < (nb : Int) := by have := HN.out; omega
        go_wp2_with fail
        have B2 : Hid (Below wr.heap.size wr ((wr.alloc (.cells #[.int .i64 g, .int .i64 u, .slice fa n1 fc, .string t] 54)).alloc (.cells #[.int .i64 g', .int .i64 u', .slice fa' n2 fc', .string t'] 54))) := bpush (bpush (bre _) _) _
        refine (implSame_any g u fa n1 fc f t g' u' fa' n2 fc' f' t' _ HN1.out HN2.out N1.out (R1.out.later B2.out) (R2.out.later B2.out)).mono ?_; rintro e w1 ⟨rfl, hb1⟩
        have B3 := hid (btr HBE.out (btr B2.out hb1))
        rw [HR.out]
        clear c d hb1 B2
        cases r
        · have HF2 : Hid (¬ l = m) := HF.out (by have := HS.out; rw [HR.out] at this; exact fun h => by cases this.2 h)
          go_wp2
          go_ret
          exact ⟨Rt.no HF2.out, B3.out⟩
        · have HE2 : Hid (l.take (i + 1) = m.take (i + 1)) := HE.out (by have := HS.out; rw [HR.out] at this; exact this.1 rfl)
          go_wp2
          go_roundw
          case rel => exact ⟨i + 1, by omega, by go_num, HE2, B3.out⟩
          case measure => simp [intOf]; omega
      · have HE : Hid (l = m) := eq_end HL.out HM.out HN.out (by omega) HT.out
        go_wp2
        go_ret
        exact ⟨Rt.yes HE.out, HBE.out⟩
  · have HF : Hid (¬ l = m) := ne_len HL.out HM.out hn
    have hnn : ((na : Int) != (nb : Int)) = true := by simp; omega
    go_enter Try.func22, Try.ntmps22
    go_wp2
    go_ret
    exact ⟨Rt.no HF.out, bre _⟩
end Go.Proofs.Ytanahkieondboaa
