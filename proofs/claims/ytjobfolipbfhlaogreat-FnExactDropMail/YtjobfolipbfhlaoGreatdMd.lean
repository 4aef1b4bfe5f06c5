/- Md. -/

import Derived.Test.YtjobfolipbfhlaoGreatdMc
namespace Go.Proofs.YtjobfolipbfhlaoGreat
open Go.RowKit

/-- Of two registers the one that counts. -/
def jp (p q : R3) : R3 := if cb q.1 q.2.1 q.2.2 p.1 p.2.1 p.2.2 = true then q else p
def jl (a b : List R3) : List R3 := List.zipWith jp a b
theorem jl_len (a b : List R3) : (jl a b).length = min a.length b.length := by simp [jl]
theorem jl_at (a b : List R3) (i : Nat) (h : i < (jl a b).length) (ha : i < a.length) (hb : i < b.length) : (jl a b)[i] = jp a[i] b[i] := by simp [jl]

theorem jreg_jp (v t b v' t' b' : Int) : jreg v t b v' t' b' = rgv (jp (v, t, b) (v', t', b')).1 (jp (v, t, b) (v', t', b')).2.1 (jp (v, t, b) (v', t', b')).2.2 := by
  unfold jreg jp; split <;> rfl
end Go.Proofs.YtjobfolipbfhlaoGreat

namespace Go.Proofs.YtjobfolipbfhlaoGreat
open Go.RowKit

theorem size_rg : (Tryz.prog.info? 115).map (·.size) = some 3 := by kernel_rfl

theorem addr_add (k o j : Nat) : (⟨k, o, none⟩ : Addr).add j = ⟨k, o + j, none⟩ := by unfold Addr.add; split <;> simp_all

/-- The cells of a row, one by one. -/
theorem Row.all {W : World} {k o : Nat} {l : List R3} (h : Row W k o l) : ∀ j u, (fl l)[j]? = some u → W.cell? ((⟨k, o, none⟩ : Addr).add j) = some u := by
  intro j u hu
  rw [addr_add]
  have hj : j < (fl l).length := (List.getElem?_eq_some_iff.1 hu).1
  rw [fl_len] at hj
  have hi : j / 3 < l.length := by omega
  have e := fl_at l (j / 3) hi
  have c := h (j / 3) hi
  have h3 : j % 3 = 0 ∨ j % 3 = 1 ∨ j % 3 = 2 := by omega
  rcases h3 with h3 | h3 | h3
  · have ej : j = j / 3 * 3 := by omega
    rw [← ej] at e c
    rw [← hu, e.1]; exact c.1
  · have ej : j = j / 3 * 3 + 1 := by omega
    rw [Nat.add_assoc, ← ej] at c
    rw [← ej] at e
    rw [← hu, e.2.1]; exact c.2.1
  · have ej : j = j / 3 * 3 + 2 := by omega
    rw [Nat.add_assoc o _ 2, ← ej] at c
    rw [← ej] at e
    rw [← hu, e.2.2]; exact c.2.2

set_option maxHeartbeats 400000 in
theorem l04Copy_any (ao : Option Addr) (n cap : Nat) (l : List R3) (w : World) (hl : l.length = n) (hn : n ≤ 1048576) (hr : Rs w ao l) (h0 : ao = none → cap = 0) :
    Calls Tryz.prog 130 #[.slice ao n cap] w fun e w' => ∃ v, e = .returned v ∧ Ow w' w.heap.size v l ∧ Below w.heap.size w w' := by
  have HR := hid hr
  have HL := hid hl
  have HN := hid hn
  clear hr hl hn
  cases ao with
  | none =>
    have hn0 : n = 0 := by
      by_cases h : 0 < n
      · obtain ⟨_, _, h1, _⟩ := HR.out (by rw [HL.out]; exact h)
        cases h1
      · omega
    subst hn0
    obtain rfl := h0 rfl
    have hle : l = [] := List.eq_nil_of_length_eq_zero HL.out
    subst hle
    clear h0
    go_enter Tryz.func130, Tryz.ntmps130
    go_wp2
    go_ret
    exact ⟨_, rfl, own_empty w _ (Nat.le_refl _), bpush (bre _) _⟩
  | some ad =>
    clear h0
    obtain ⟨i0, hi, hz0, hz1, hz2⟩ := info_parts3 info_rg
    have HSRC : Hid (∀ j u, (fl l)[j]? = some u → (w.alloc (.cells #[] 115)).cell? (ad.add j) = some u) := by
      intro j u hu
      have hj : j < (fl l).length := (List.getElem?_eq_some_iff.1 hu).1
      rw [fl_len] at hj
      obtain ⟨k, o, h1, h2, h3⟩ := (HR.out.later (bpush (bre _) _)) (by omega)
      simp only [Option.some.injEq] at h1
      subst h1
      exact h3.all j u hu
    go_enter Tryz.func130, Tryz.ntmps130
    go_wp2_with (at_builtin; refine wpList_append_own _ rfl (.tmp 3) (.tmp 4) 87 rfl w.heap.size 115 i0 _ 3 24 Tryz.underlying87 hi hz0 hz1 hz2 rfl (by decide) _ 0 [] (by rfl) (own_empty w _ (Nat.le_refl _)) ad n cap (fl l) (by rfl) (by rw [fl_len, HL.out]) HSRC.out (fl_one l) (by have := HN.out; unfold maxLen; omega) (by have := HN.out; omega) (by simp) ?_; intro v1 w1 hown1 hg1 _)
    go_ret
    exact ⟨_, rfl, by simpa [Ow, HL.out] using hown1, (bpush (bre _) _).grown hg1 (by simp) (by intro k hk; simp [Value.ownBlock] at hk; omega)⟩
end Go.Proofs.YtjobfolipbfhlaoGreat

namespace Go.Proofs.YtjobfolipbfhlaoGreat
open Go.RowKit

/-- A register that is put; one flag that is set; all of them. -/
def pp (p : R3) (m t b : Int) : R3 := if (rgOk m t b && later t b p.2.1 p.2.2) = true then (m, t, b) else p
def sp (n t b : Int) (i : Nat) (p : R3) : R3 := if bit n i = p.1 then p else pp p (bit n i) t b
def sl (l : List R3) (n t b : Int) : List R3 := if (flOk l && decide (0 ≤ n ∧ n ≤ 7)) = true then l.mapIdx (sp n t b) else l

theorem sl_len (l : List R3) (n t b : Int) : (sl l n t b).length = l.length := by unfold sl; split <;> simp
/-- A list of which the first i flags are set. -/
def sfil (l : List R3) (n t b : Int) (i : Nat) : List R3 := l.mapIdx fun j p => if j < i then sp n t b j p else p
theorem sfil_len (l : List R3) (n t b : Int) (i : Nat) : (sfil l n t b i).length = l.length := by simp [sfil]
theorem sfil_zero (l : List R3) (n t b : Int) : sfil l n t b 0 = l := by
  unfold sfil; apply List.ext_getElem
  · simp
  · intro j h1 h2; simp
theorem sfil_at (l : List R3) (n t b : Int) (i : Nat) (h : i < l.length) (h' : i < (sfil l n t b i).length) : (sfil l n t b i)[i] = l[i] := by simp [sfil]
theorem flOk_len {l : List R3} (h : flOk l = true) : l.length = 3 := by
  unfold flOk at h; simp at h; exact h.1

theorem bit_tmod {m : Int} {i : Nat} {q : Int} (hq : m / 2 ^ i = q) (h0 : 0 ≤ q) : q.tmod 2 = bit m i := by
  unfold bit; rw [hq, Int.tmod_eq_emod_of_nonneg h0]

end Go.Proofs.YtjobfolipbfhlaoGreat

namespace Go.Proofs.YtjobfolipbfhlaoGreat
open Go.RowKit

/-- A drawn flag: 0 or 1, its stamp right. -/
def gd (p : R3) : Prop := (0 ≤ p.1 ∧ p.1 < 2) ∧ 0 ≤ p.2.1 ∧ p.2.1 < 12 ∧ 1 ≤ p.2.2 ∧ p.2.2 ≤ 2

theorem Sg.same {W W' : World} {k ty : Nat} {t b : Int} (h : Sg W k ty t b) (e : W'.heap[k]? = W.heap[k]?) : Sg W' k ty t b := e.trans h

end Go.Proofs.YtjobfolipbfhlaoGreat

namespace Go.Proofs.YtjobfolipbfhlaoGreat
open Go.RowKit

/-- What is drawn as a list: a slice, and the registers in it. -/
def Dl (W : World) (B : Nat) (v : Value) (l : List R3) : Prop := ∃ (a : Option Addr) (c : Nat), v = .slice a l.length c ∧ l.length ≤ 4 ∧ l.length ≤ c ∧ (a = none → c = 0) ∧ Rs W a l ∧ ∀ x, a = some x → B ≤ x.block
theorem eq_false' {x y : Int} (h : x ≠ y) : (x == y) = false := by simpa using h

end Go.Proofs.YtjobfolipbfhlaoGreat

namespace Go.Proofs.YtjobfolipbfhlaoGreat
open Go.RowKit

theorem r3_ext {p q : R3} (h1 : p.1 = q.1) (h2 : p.2.1 = q.2.1) (h3 : p.2.2 = q.2.2) : p = q := Prod.ext h1 (Prod.ext h2 h3)
theorem jp_or (p q : R3) : jp p q = p ∨ jp p q = q := by unfold jp; split <;> simp
theorem jp_gd {p q : R3} (hp : gd p) (hq : gd q) : gd (jp p q) := by rcases jp_or p q with e | e <;> rw [e] <;> assumption
theorem gd_ok {p : R3} (h : gd p) : okp p = true := by
  obtain ⟨⟨h1, h2⟩, h3, h4, h5, h6⟩ := h
  simp [okp, rgOk, stOk]; omega

/-- A list of three. -/
theorem three {l : List R3} (h : l.length = 3) : ∃ p q r, l = [p, q, r] := by
  match l, h with
  | [p, q, r], _ => exact ⟨p, q, r, rfl⟩

theorem bit_two (n : Int) (i : Nat) : bit n i = 0 ∨ bit n i = 1 := by unfold bit; omega
theorem fof_three (p q r : R3) : fof [p, q, r] 3 = (if p.1 % 2 = 1 then 1 else 0) + (if q.1 % 2 = 1 then 2 else 0) + (if r.1 % 2 = 1 then 4 else 0) := by
  simp [fof]
theorem bdn {B : Nat} {w w1 : World} (h : Below B w w1) (k : Nat) : Below B w (w1.drewN k) := ⟨h.os, h.tape, h.output, h.size, h.block⟩

end Go.Proofs.YtjobfolipbfhlaoGreat

