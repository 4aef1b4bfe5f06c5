/- Flags that come together, in whatever order; what is set last counts. -/
import Derived.Test.YtdpabaebbdhmmaaFdrawC
namespace Go.Proofs.Ytdpabaebbdhmmaa
open Go.RowKit

theorem jp_iff (p q : R3) : jp p q = if (p.2.1 = q.2.1 ∧ p.2.2 = q.2.2 ∧ p.1 < q.1) ∨ p.2.1 < q.2.1 ∨ (p.2.1 = q.2.1 ∧ p.2.2 < q.2.2) then q else p := by
  unfold jp
  by_cases h : cb q.1 q.2.1 q.2.2 p.1 p.2.1 p.2.2 = true
  · rw [if_pos h, if_pos (by have := cb_iff.1 h; omega)]
  · rw [if_neg h, if_neg (fun k => h (cb_iff.2 (by omega)))]
theorem r3_ext {p q : R3} (h1 : p.1 = q.1) (h2 : p.2.1 = q.2.1) (h3 : p.2.2 = q.2.2) : p = q := Prod.ext h1 (Prod.ext h2 h3)
theorem jp_comm (p q : R3) : jp p q = jp q p := by
  rw [jp_iff, jp_iff]
  split
  · rw [if_neg (by omega)]
  · split
    · rfl
    · exact r3_ext (by omega) (by omega) (by omega)
theorem jp_again (p q : R3) : jp (jp p q) p = jp p q := by
  by_cases h : (p.2.1 = q.2.1 ∧ p.2.2 = q.2.2 ∧ p.1 < q.1) ∨ p.2.1 < q.2.1 ∨ (p.2.1 = q.2.1 ∧ p.2.2 < q.2.2)
  · have e : jp p q = q := by rw [jp_iff, if_pos h]
    rw [e, jp_iff, if_neg (by omega)]
  · have e : jp p q = p := by rw [jp_iff, if_neg h]
    rw [e, jp_iff, if_neg (by omega)]
theorem jp_assoc (p q r : R3) : jp (jp p q) r = jp p (jp q r) := by
  by_cases h1 : (p.2.1 = q.2.1 ∧ p.2.2 = q.2.2 ∧ p.1 < q.1) ∨ p.2.1 < q.2.1 ∨ (p.2.1 = q.2.1 ∧ p.2.2 < q.2.2)
  · have e1 : jp p q = q := by rw [jp_iff, if_pos h1]
    by_cases h2 : (q.2.1 = r.2.1 ∧ q.2.2 = r.2.2 ∧ q.1 < r.1) ∨ q.2.1 < r.2.1 ∨ (q.2.1 = r.2.1 ∧ q.2.2 < r.2.2)
    · have e2 : jp q r = r := by rw [jp_iff, if_pos h2]
      rw [e1, e2, jp_iff p r, if_pos (by omega)]
    · have e2 : jp q r = q := by rw [jp_iff, if_neg h2]
      rw [e1, e2, e1]
  · have e1 : jp p q = p := by rw [jp_iff, if_neg h1]
    by_cases h2 : (q.2.1 = r.2.1 ∧ q.2.2 = r.2.2 ∧ q.1 < r.1) ∨ q.2.1 < r.2.1 ∨ (q.2.1 = r.2.1 ∧ q.2.2 < r.2.2)
    · have e2 : jp q r = r := by rw [jp_iff, if_pos h2]
      rw [e1, e2]
    · have e2 : jp q r = q := by rw [jp_iff, if_neg h2]
      rw [e1, e2, e1, jp_iff p r, if_neg (by omega)]
theorem jp_or (p q : R3) : jp p q = p ∨ jp p q = q := by unfold jp; split <;> simp
theorem jp_gd {p q : R3} (hp : gd p) (hq : gd q) : gd (jp p q) := by rcases jp_or p q with e | e <;> rw [e] <;> assumption
theorem gd_ok {p : R3} (h : gd p) : okp p = true := by
  obtain ⟨⟨h1, h2⟩, h3, h4, h5, h6⟩ := h
  simp [okp, rgOk, stOk]; omega

/-- A list of three. -/
theorem three {l : List R3} (h : l.length = 3) : ∃ p q r, l = [p, q, r] := by
  match l, h with
  | [p, q, r], _ => exact ⟨p, q, r, rfl⟩

theorem jl_comm {a b : List R3} (ha : a.length = 3) (hb : b.length = 3) : jl b a = jl a b := by
  obtain ⟨p, q, r, rfl⟩ := three ha
  obtain ⟨p', q', r', rfl⟩ := three hb
  simp only [jl, List.zipWith]
  rw [jp_comm p' p, jp_comm q' q, jp_comm r' r]
theorem jl_again {a b : List R3} (ha : a.length = 3) (hb : b.length = 3) : jl (jl a b) a = jl a b := by
  obtain ⟨p, q, r, rfl⟩ := three ha
  obtain ⟨p', q', r', rfl⟩ := three hb
  simp only [jl, List.zipWith, jp_again]
theorem jl_order {a b c : List R3} (ha : a.length = 3) (hb : b.length = 3) (hc : c.length = 3) : jl a (jl c b) = jl (jl a b) c := by
  obtain ⟨p, q, r, rfl⟩ := three ha
  obtain ⟨p', q', r', rfl⟩ := three hb
  obtain ⟨x, y, z, rfl⟩ := three hc
  simp only [jl, List.zipWith]
  rw [jp_comm x p', jp_comm y q', jp_comm z r', jp_assoc, jp_assoc, jp_assoc]
theorem jl_ok {a b : List R3} (ha : a.length = 3) (hb : b.length = 3) (hga : ∀ p ∈ a, gd p) (hgb : ∀ p ∈ b, gd p) : flOk (jl a b) = true := by
  obtain ⟨p, q, r, rfl⟩ := three ha
  obtain ⟨p', q', r', rfl⟩ := three hb
  simp only [List.mem_cons, List.not_mem_nil, or_false, forall_eq_or_imp, forall_eq] at hga hgb
  simp only [jl, List.zipWith, flOk, List.all_cons, List.all_nil, gd_ok (jp_gd hga.1 hgb.1), gd_ok (jp_gd hga.2.1 hgb.2.1), gd_ok (jp_gd hga.2.2 hgb.2.2)]
  rfl

theorem bit_two (n : Int) (i : Nat) : bit n i = 0 ∨ bit n i = 1 := by unfold bit; omega
theorem sp_is {n : Int} {i : Nat} {p : R3} (h : gd p) : sp n 50 2 i p = p ∧ p.1 = bit n i ∨ sp n 50 2 i p = (bit n i, 50, 2) := by
  unfold sp
  by_cases e : bit n i = p.1
  · left; rw [if_pos e]; exact ⟨rfl, e.symm⟩
  · right
    rw [if_neg e]
    obtain ⟨_, h3, h4, h5, h6⟩ := h
    have h1 : rgOk (bit n i) 50 2 = true := by have := bit_two n i; simp [rgOk, stOk]; omega
    have h2 : later 50 2 p.2.1 p.2.2 = true := later_iff.2 (by omega)
    unfold pp; rw [h1, h2]; rfl
theorem sp_val {n : Int} {i : Nat} {p : R3} (h : gd p) : (sp n 50 2 i p).1 = bit n i := by
  rcases sp_is (n := n) (i := i) h with ⟨e, h1⟩ | e
  · rw [e, h1]
  · rw [e]
theorem sp_join {n : Int} {i : Nat} {p q : R3} (hp : gd p) (hq : gd q) : (jp (sp n 50 2 i (jp p q)) p).1 = bit n i := by
  rcases sp_is (n := n) (i := i) (jp_gd hp hq) with ⟨e, h1⟩ | e
  · rw [e, jp_again, h1]
  · obtain ⟨_, h3, h4, h5, h6⟩ := hp
    rw [e, jp_iff, if_neg (by simp only; omega)]
theorem fof_three (p q r : R3) : fof [p, q, r] 3 = (if p.1 % 2 = 1 then 1 else 0) + (if q.1 % 2 = 1 then 2 else 0) + (if r.1 % 2 = 1 then 4 else 0) := by
  simp [fof]
theorem fof_bits {n : Int} {p q r : R3} (hn : 0 ≤ n ∧ n ≤ 7) (h1 : p.1 = bit n 0) (h2 : q.1 = bit n 1) (h3 : r.1 = bit n 2) : ((fof [p, q, r] 3 : Nat) : Int) = n := by
  rw [fof_three, h1, h2, h3]
  simp only [bit, Int.pow_zero, Int.ediv_one, show (2 : Int) ^ 2 = 4 by rfl, show (2 : Int) ^ 1 = 2 by rfl]
  split <;> split <;> split <;> omega
theorem fof_set {a b : List R3} {n : Int} (ha : a.length = 3) (hb : b.length = 3) (hga : ∀ p ∈ a, gd p) (hgb : ∀ p ∈ b, gd p) (hn : 0 ≤ n ∧ n ≤ 7) : ((fof (sl (jl a b) n 50 2) 3 : Nat) : Int) = n ∧ ((fof (jl (sl (jl a b) n 50 2) a) 3 : Nat) : Int) = n := by
  have hok := jl_ok ha hb hga hgb
  obtain ⟨p, q, r, rfl⟩ := three ha
  obtain ⟨p', q', r', rfl⟩ := three hb
  simp only [List.mem_cons, List.not_mem_nil, or_false, forall_eq_or_imp, forall_eq] at hga hgb
  have e : sl (jl [p, q, r] [p', q', r']) n 50 2 = [sp n 50 2 0 (jp p p'), sp n 50 2 1 (jp q q'), sp n 50 2 2 (jp r r')] := by
    unfold sl
    rw [if_pos (by simp [hok, hn])]
    rfl
  rw [e]
  refine ⟨fof_bits hn (sp_val (jp_gd hga.1 hgb.1)) (sp_val (jp_gd hga.2.1 hgb.2.1)) (sp_val (jp_gd hga.2.2 hgb.2.2)), ?_⟩
  show ((fof [jp _ p, jp _ q, jp _ r] 3 : Nat) : Int) = n
  exact fof_bits hn (sp_join hga.1 hgb.1) (sp_join hga.2.1 hgb.2.1) (sp_join hga.2.2 hgb.2.2)
theorem fof_new {n : Int} (hn : 0 ≤ n ∧ n ≤ 7) : ((fof (fnew n 0 0) 3 : Nat) : Int) = n := fof_bits hn rfl rfl rfl

theorem bdn {B : Nat} {w w1 : World} (h : Below B w w1) (k : Nat) : Below B w (w1.drewN k) := ⟨h.os, h.tape, h.output, h.size, h.block⟩

theorem bigF_no (ao : Option Addr) (n cap : Nat) (w : World) (hn : n ≤ 1048576) : Calls Try.prog 6 #[.slice ao n cap] w fun e w' => e = .returned (.bool false) ∧ w' = w := by
  go_enter Try.func6, Try.ntmps6
  go_wp2
  go_ret
  exact ⟨ret_bool (by simp; omega), rfl⟩
theorem bigF_yes (ao : Option Addr) (n cap : Nat) (w : World) (hn : ¬ n ≤ 1048576) : Calls Try.prog 6 #[.slice ao n cap] w fun e w' => e = .returned (.bool true) ∧ w' = w := by
  go_enter Try.func6, Try.ntmps6
  go_wp2
  go_ret
  exact ⟨ret_bool (by simp; omega), rfl⟩

set_option maxHeartbeats 400000 in
set_option maxRecDepth 100000 in
theorem same_any (ao bo : Option Addr) (n ca cb : Nat) (l : List R3) (w : World) (hl : l.length = n) (hn : n ≤ 1048576) (ha : Rs w ao l) (hb : Rs w bo l) :
    Calls Try.prog 24 #[.slice ao n ca, .slice bo n cb] w fun e w' => e = .returned (.bool true) ∧ Below w.heap.size w w' := by
  have hnn : ((n : Int) != (n : Int)) = false := by simp
  have HA := hid ha
  have HB := hid hb
  have HL := hid hl
  clear ha hb hl
  go_enter Try.func24, Try.ntmps24
  go_wp2
  clear hnn
  go_loopw [5] (fun iv wr => ∃ i : Nat, i ≤ n ∧ iv = .int .i64 (i : Int) ∧ Below w.heap.size w wr) (fun iv _ => n - (intOf iv).toNat)
  case atStart => exact ⟨0, Nat.zero_le _, rfl, bre _⟩
  case round =>
    obtain ⟨i, hi, rfl, hb⟩ := hrel
    have HBE := hid hb
    clear hb
    by_cases hlt : i < n
    · have hil : i < l.length := by rw [HL.out]; exact hlt
      obtain ⟨k, o, rfl, hk, c⟩ := (HA.out.later HBE.out).at hil
      obtain ⟨k', o', rfl, hk', d⟩ := (HB.out.later HBE.out).at hil
      obtain ⟨p, hp⟩ : ∃ p, l[i] = p := ⟨_, rfl⟩
      rw [hp] at c d
      obtain ⟨v, t, b⟩ := p
      clear hp
      have hI : (0 : Int) ≤ (i : Int) ∧ (i : Int) < (n : Int) := by omega
      go_wp2_with fail
      go_quiet (fail)
      go_wp2
      go_roundw
      case rel => exact ⟨i + 1, by omega, by go_num, bdn HBE.out _⟩
      case measure => simp [intOf]; omega
    · go_wp2
      go_ret
      exact ⟨rfl, HBE.out⟩
end Go.Proofs.Ytdpabaebbdhmmaa
