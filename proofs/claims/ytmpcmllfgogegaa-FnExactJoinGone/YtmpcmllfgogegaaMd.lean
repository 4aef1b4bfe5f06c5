/- FlagJoin, FlagCopy, FlagSet, Fdraw, FdrawB, Fpure, in one text. -/
import Derived.Test.YtmpcmllfgogegaaMc
namespace Go.Proofs.Ytmpcmllfgogegaa
open Go.RowKit

/-- Of two registers the one that counts. -/
def jp (p q : R3) : R3 := if cb q.1 q.2.1 q.2.2 p.1 p.2.1 p.2.2 = true then q else p
def jl (a b : List R3) : List R3 := List.zipWith jp a b
theorem jl_len (a b : List R3) : (jl a b).length = min a.length b.length := by simp [jl]
theorem jl_at (a b : List R3) (i : Nat) (h : i < (jl a b).length) (ha : i < a.length) (hb : i < b.length) : (jl a b)[i] = jp a[i] b[i] := by simp [jl]

theorem jreg_jp (v t b v' t' b' : Int) : jreg v t b v' t' b' = rgv (jp (v, t, b) (v', t', b')).1 (jp (v, t, b) (v', t', b')).2.1 (jp (v, t, b) (v', t', b')).2.2 := by
  unfold jreg jp; split <;> rfl
theorem jl_take (a b : List R3) (i : Nat) (ha : i < a.length) (hb : i < b.length) : (jl a b).take (i + 1) = (jl a b).take i ++ [jp a[i] b[i]] := by
  have h : i < (jl a b).length := by rw [jl_len]; omega
  rw [List.take_succ_eq_append_getElem h, jl_at a b i h ha hb]

end Go.Proofs.Ytmpcmllfgogegaa

namespace Go.Proofs.Ytmpcmllfgogegaa
open Go.RowKit

theorem run_copy_rows {P : Program} (w : World) (dT sT ty elem : TypeId) (g n dCap : Nat) (a : Addr) (sCap size : Nat) (cur : Array Value) (t : TypeId) (cs : List Value)
    (hu : P.underlying dT = some (.slice elem)) (hs : (P.info? elem).map (·.size) = some size)
    (hg : w.heap[g]? = some (.cells cur t (0, 0))) (hn : cs.length = n * size)
    (hsrc : ∀ j v, cs[j]? = some v → w.cell? (a.add j) = some v) (hfit : cs.length ≤ cur.size) (h1 : ∀ v ∈ cs, v.oneCell' = true) :
    (Builtin.copy_ #[dT, sT] ty #[.slice (some ⟨g, 0, none⟩) n dCap, .slice (some a) n sCap]).run P w =
      .ok (goInt n) (w.setRow g (cs ++ cur.toList.drop cs.length).toArray) := by
  have hl := run_loadCells_list (P := P) w a cs hsrc
  have hst := run_storeCells_at P g 0 t cs 0 cur w hg (by simpa using hfit) h1
  rw [hn] at hl
  cases hq : P.info? elem with
  | none => simp [hq] at hs
  | some i =>
    have hi : i.size = size := by simpa [hq] using hs
    simp [Builtin.copy_, run_underlying hu, Builtin.lenOf, Builtin.firstCells, sizeOf, typeInfo, hq, hi, hl, hst]
theorem run_copy_zero {P : Program} (w : World) (dT sT ty elem : TypeId) (d a : Option Addr) (dCap sCap size : Nat) (hu : P.underlying dT = some (.slice elem)) (hs : (P.info? elem).map (·.size) = some size) :
    (Builtin.copy_ #[dT, sT] ty #[.slice d 0 dCap, .slice a 0 sCap]).run P w = .ok (goInt 0) w := by
  cases hq : P.info? elem with
  | none => simp [hq] at hs
  | some i =>
    have hl : ∀ (x : Addr), (loadCells x 0).run P w = .ok #[] w := fun x => by simpa using run_loadCells_list (P := P) w x [] (by simp)
    cases d <;> cases a <;> simp [Builtin.copy_, run_underlying hu, Builtin.lenOf, Builtin.firstCells, sizeOf, typeInfo, hq, storeCells, hl]
theorem addr_add (k o j : Nat) : (⟨k, o, none⟩ : Addr).add j = ⟨k, o + j, none⟩ := by unfold Addr.add; split <;> simp_all

/-- The cells of a row, one by one. -/
theorem Row.all {W : World} {k o : Nat} {l : List R3} (h : Row W k o l) : ∀ j u, (fl l)[j]? = some u → W.cell? ((⟨k, o, none⟩ : Addr).add j) = some u := by
  intro j u hu
  rw [addr_add]
  have hj : j < (fl l).length := (List.getElem?_eq_some_iff.1 hu).1
  rw [fl_len] at hj
  have hi : j / 3 < l.length := by omega
  have e := fl_at l (j / 3) hi
  have c := h (j / 3) hi
  have h3 : j % 3 = 0 ∨ j % 3 = 1 ∨ j % 3 = 2 := by omega
  rcases h3 with h3 | h3 | h3
  · have ej : j = j / 3 * 3 := by omega
    rw [← ej] at e c
    rw [← hu, e.1]; exact c.1
  · have ej : j = j / 3 * 3 + 1 := by omega
    rw [Nat.add_assoc, ← ej] at c
    rw [← ej] at e
    rw [← hu, e.2.1]; exact c.2.1
  · have ej : j = j / 3 * 3 + 2 := by omega
    rw [Nat.add_assoc o _ 2, ← ej] at c
    rw [← ej] at e
    rw [← hu, e.2.2]; exact c.2.2

end Go.Proofs.Ytmpcmllfgogegaa

namespace Go.Proofs.Ytmpcmllfgogegaa
open Go.RowKit

/-- A register that is put; one flag that is set; all of them. -/
def pp (p : R3) (m t b : Int) : R3 := if (rgOk m t b && later t b p.2.1 p.2.2) = true then (m, t, b) else p
def sp (n t b : Int) (i : Nat) (p : R3) : R3 := if bit n i = p.1 then p else pp p (bit n i) t b
def sl (l : List R3) (n t b : Int) : List R3 := if (flOk l && decide (0 ≤ n ∧ n ≤ 7)) = true then l.mapIdx (sp n t b) else l

theorem sl_len (l : List R3) (n t b : Int) : (sl l n t b).length = l.length := by unfold sl; split <;> simp
/-- A list of which the first i flags are set. -/
def sfil (l : List R3) (n t b : Int) (i : Nat) : List R3 := l.mapIdx fun j p => if j < i then sp n t b j p else p
theorem sfil_len (l : List R3) (n t b : Int) (i : Nat) : (sfil l n t b i).length = l.length := by simp [sfil]
theorem sfil_zero (l : List R3) (n t b : Int) : sfil l n t b 0 = l := by
  unfold sfil; apply List.ext_getElem
  · simp
  · intro j h1 h2; simp
theorem sfil_at (l : List R3) (n t b : Int) (i : Nat) (h : i < l.length) (h' : i < (sfil l n t b i).length) : (sfil l n t b i)[i] = l[i] := by simp [sfil]
theorem sfil_set (l : List R3) (n t b : Int) (i : Nat) (h : i < l.length) : (sfil l n t b i).set i (sp n t b i l[i]) = sfil l n t b (i + 1) := by
  unfold sfil; apply List.ext_getElem
  · simp
  · intro j h1 h2
    simp only [List.getElem_set, List.getElem_mapIdx]
    by_cases hj : i = j
    · subst hj; simp
    · rw [if_neg hj]
      by_cases hji : j < i
      · rw [if_pos hji, if_pos (by omega)]
      · rw [if_neg hji, if_neg (by omega)]
theorem sfil_same (l : List R3) (n t b : Int) (i : Nat) (h : i < l.length) (hb : bit n i = l[i].1) : sfil l n t b i = sfil l n t b (i + 1) := by
  rw [← sfil_set l n t b i h]
  have e : sp n t b i l[i] = (sfil l n t b i)[i]'(by rw [sfil_len]; exact h) := by
    rw [sfil_at l n t b i h]; unfold sp; rw [if_pos hb]
  rw [e, List.set_getElem_self]
theorem sfil_all (l : List R3) (n t b : Int) (hok : flOk l = true) (hn : 0 ≤ n ∧ n ≤ 7) (hl : l.length = 3) : sfil l n t b 3 = sl l n t b := by
  unfold sl sfil
  rw [if_pos (by simp [hok, hn])]
  apply List.ext_getElem
  · simp
  · intro j h1 h2
    have : j < 3 := by simpa [hl] using h2
    simp [this]
theorem sl_not (l : List R3) (n t b : Int) (h : ¬ (flOk l = true ∧ 0 ≤ n ∧ n ≤ 7)) : sl l n t b = l := by
  unfold sl; rw [if_neg]; intro hc; apply h; simpa [Bool.and_eq_true, decide_eq_true_eq] using hc
theorem flOk_len {l : List R3} (h : flOk l = true) : l.length = 3 := by
  unfold flOk at h; simp at h; exact h.1

theorem bit_tmod {m : Int} {i : Nat} {q : Int} (hq : m / 2 ^ i = q) (h0 : 0 ≤ q) : q.tmod 2 = bit m i := by
  unfold bit; rw [hq, Int.tmod_eq_emod_of_nonneg h0]

end Go.Proofs.Ytmpcmllfgogegaa

namespace Go.Proofs.Ytmpcmllfgogegaa
open Go.RowKit

/-- A drawn flag: 0 or 1, its stamp right. -/
def gd (p : R3) : Prop := (0 ≤ p.1 ∧ p.1 < 2) ∧ 0 ≤ p.2.1 ∧ p.2.1 < 12 ∧ 1 ≤ p.2.2 ∧ p.2.2 ≤ 2

theorem Sg.same {W W' : World} {k ty : Nat} {t b : Int} (h : Sg W k ty t b) (e : W'.heap[k]? = W.heap[k]?) : Sg W' k ty t b := e.trans h

end Go.Proofs.Ytmpcmllfgogegaa

namespace Go.Proofs.Ytmpcmllfgogegaa
open Go.RowKit

/-- What is drawn as a list: a slice, and the registers in it. -/
def Dl (W : World) (B : Nat) (v : Value) (l : List R3) : Prop := ∃ (a : Option Addr) (c : Nat), v = .slice a l.length c ∧ l.length ≤ 4 ∧ l.length ≤ c ∧ (a = none → c = 0) ∧ Rs W a l ∧ ∀ x, a = some x → B ≤ x.block
theorem Dl.later {W W' : World} {B : Nat} {v : Value} {l : List R3} (h : Dl W B v l) (hb : Below W.heap.size W W') : Dl W' B v l := by
  obtain ⟨a, c, h1, h2, h3, h4, h5, h6⟩ := h
  exact ⟨a, c, h1, h2, h3, h4, h5.later hb, h6⟩
theorem Dl.set {W : World} {B k o : Nat} {u v : Value} {l : List R3} (h : Dl W B v l) (hk : k < B) : Dl (W.setCell ⟨k, o, none⟩ u) B v l := by
  obtain ⟨a, c, h1, h2, h3, h4, h5, h6⟩ := h
  exact ⟨a, c, h1, h2, h3, h4, h5.grown (only_set (cb := k)) (fun x e => by have := h6 x e; omega), h6⟩
theorem Code.over {w W : World} {n : Nat} {ao : Option Addr} (h : Code w w.heap.size ao n) (hb : Below w.heap.size w W) : Code W W.heap.size ao n := by
  intro hn
  obtain ⟨b, off, h1, h2, h3⟩ := h hn
  refine ⟨b, off, h1, Nat.lt_of_lt_of_le h2 hb.size, fun j hj => ?_⟩
  obtain ⟨z, hz, hc⟩ := h3 j hj
  exact ⟨z, hz, (hb.cell (p := ⟨b, off + j, none⟩) h2).trans hc⟩
theorem Row.tail {W : World} {k o : Nat} {p : R3} {l : List R3} (h : Row W k o (p :: l)) : Row W k (o + 3) l := by
  intro i hi
  have := h (i + 1) (by simpa using hi)
  rw [show o + (i + 1) * 3 = o + 3 + i * 3 by omega] at this
  simpa using this
theorem eq_false' {x y : Int} (h : x ≠ y) : (x == y) = false := by simpa using h

end Go.Proofs.Ytmpcmllfgogegaa

namespace Go.Proofs.Ytmpcmllfgogegaa
open Go.RowKit

theorem jp_iff (p q : R3) : jp p q = if (p.2.1 = q.2.1 ∧ p.2.2 = q.2.2 ∧ p.1 < q.1) ∨ p.2.1 < q.2.1 ∨ (p.2.1 = q.2.1 ∧ p.2.2 < q.2.2) then q else p := by
  unfold jp
  by_cases h : cb q.1 q.2.1 q.2.2 p.1 p.2.1 p.2.2 = true
  · rw [if_pos h, if_pos (by have := cb_iff.1 h; omega)]
  · rw [if_neg h, if_neg (fun k => h (cb_iff.2 (by omega)))]
theorem r3_ext {p q : R3} (h1 : p.1 = q.1) (h2 : p.2.1 = q.2.1) (h3 : p.2.2 = q.2.2) : p = q := Prod.ext h1 (Prod.ext h2 h3)
theorem jp_comm (p q : R3) : jp p q = jp q p := by
  rw [jp_iff, jp_iff]
  split
  · rw [if_neg (by omega)]
  · split
    · rfl
    · exact r3_ext (by omega) (by omega) (by omega)
theorem jp_again (p q : R3) : jp (jp p q) p = jp p q := by
  by_cases h : (p.2.1 = q.2.1 ∧ p.2.2 = q.2.2 ∧ p.1 < q.1) ∨ p.2.1 < q.2.1 ∨ (p.2.1 = q.2.1 ∧ p.2.2 < q.2.2)
  · have e : jp p q = q := by rw [jp_iff, if_pos h]
    rw [e, jp_iff, if_neg (by omega)]
  · have e : jp p q = p := by rw [jp_iff, if_neg h]
    rw [e, jp_iff, if_neg (by omega)]
theorem jp_assoc (p q r : R3) : jp (jp p q) r = jp p (jp q r) := by
  by_cases h1 : (p.2.1 = q.2.1 ∧ p.2.2 = q.2.2 ∧ p.1 < q.1) ∨ p.2.1 < q.2.1 ∨ (p.2.1 = q.2.1 ∧ p.2.2 < q.2.2)
  · have e1 : jp p q = q := by rw [jp_iff, if_pos h1]
    by_cases h2 : (q.2.1 = r.2.1 ∧ q.2.2 = r.2.2 ∧ q.1 < r.1) ∨ q.2.1 < r.2.1 ∨ (q.2.1 = r.2.1 ∧ q.2.2 < r.2.2)
    · have e2 : jp q r = r := by rw [jp_iff, if_pos h2]
      rw [e1, e2, jp_iff p r, if_pos (by omega)]
    · have e2 : jp q r = q := by rw [jp_iff, if_neg h2]
      rw [e1, e2, e1]
  · have e1 : jp p q = p := by rw [jp_iff, if_neg h1]
    by_cases h2 : (q.2.1 = r.2.1 ∧ q.2.2 = r.2.2 ∧ q.1 < r.1) ∨ q.2.1 < r.2.1 ∨ (q.2.1 = r.2.1 ∧ q.2.2 < r.2.2)
    · have e2 : jp q r = r := by rw [jp_iff, if_pos h2]
      rw [e1, e2]
    · have e2 : jp q r = q := by rw [jp_iff, if_neg h2]
      rw [e1, e2, e1, jp_iff p r, if_neg (by omega)]
theorem jp_or (p q : R3) : jp p q = p ∨ jp p q = q := by unfold jp; split <;> simp
theorem jp_gd {p q : R3} (hp : gd p) (hq : gd q) : gd (jp p q) := by rcases jp_or p q with e | e <;> rw [e] <;> assumption
theorem gd_ok {p : R3} (h : gd p) : okp p = true := by
  obtain ⟨⟨h1, h2⟩, h3, h4, h5, h6⟩ := h
  simp [okp, rgOk, stOk]; omega

/-- A list of three. -/
theorem three {l : List R3} (h : l.length = 3) : ∃ p q r, l = [p, q, r] := by
  match l, h with
  | [p, q, r], _ => exact ⟨p, q, r, rfl⟩

theorem jl_comm {a b : List R3} (ha : a.length = 3) (hb : b.length = 3) : jl b a = jl a b := by
  obtain ⟨p, q, r, rfl⟩ := three ha
  obtain ⟨p', q', r', rfl⟩ := three hb
  simp only [jl, List.zipWith]
  rw [jp_comm p' p, jp_comm q' q, jp_comm r' r]
theorem jl_again {a b : List R3} (ha : a.length = 3) (hb : b.length = 3) : jl (jl a b) a = jl a b := by
  obtain ⟨p, q, r, rfl⟩ := three ha
  obtain ⟨p', q', r', rfl⟩ := three hb
  simp only [jl, List.zipWith, jp_again]
theorem jl_order {a b c : List R3} (ha : a.length = 3) (hb : b.length = 3) (hc : c.length = 3) : jl a (jl c b) = jl (jl a b) c := by
  obtain ⟨p, q, r, rfl⟩ := three ha
  obtain ⟨p', q', r', rfl⟩ := three hb
  obtain ⟨x, y, z, rfl⟩ := three hc
  simp only [jl, List.zipWith]
  rw [jp_comm x p', jp_comm y q', jp_comm z r', jp_assoc, jp_assoc, jp_assoc]
theorem jl_ok {a b : List R3} (ha : a.length = 3) (hb : b.length = 3) (hga : ∀ p ∈ a, gd p) (hgb : ∀ p ∈ b, gd p) : flOk (jl a b) = true := by
  obtain ⟨p, q, r, rfl⟩ := three ha
  obtain ⟨p', q', r', rfl⟩ := three hb
  simp only [List.mem_cons, List.not_mem_nil, or_false, forall_eq_or_imp, forall_eq] at hga hgb
  simp only [jl, List.zipWith, flOk, List.all_cons, List.all_nil, gd_ok (jp_gd hga.1 hgb.1), gd_ok (jp_gd hga.2.1 hgb.2.1), gd_ok (jp_gd hga.2.2 hgb.2.2)]
  rfl

theorem bit_two (n : Int) (i : Nat) : bit n i = 0 ∨ bit n i = 1 := by unfold bit; omega
theorem sp_is {n : Int} {i : Nat} {p : R3} (h : gd p) : sp n 50 2 i p = p ∧ p.1 = bit n i ∨ sp n 50 2 i p = (bit n i, 50, 2) := by
  unfold sp
  by_cases e : bit n i = p.1
  · left; rw [if_pos e]; exact ⟨rfl, e.symm⟩
  · right
    rw [if_neg e]
    obtain ⟨_, h3, h4, h5, h6⟩ := h
    have h1 : rgOk (bit n i) 50 2 = true := by have := bit_two n i; simp [rgOk, stOk]; omega
    have h2 : later 50 2 p.2.1 p.2.2 = true := later_iff.2 (by omega)
    unfold pp; rw [h1, h2]; rfl
theorem sp_val {n : Int} {i : Nat} {p : R3} (h : gd p) : (sp n 50 2 i p).1 = bit n i := by
  rcases sp_is (n := n) (i := i) h with ⟨e, h1⟩ | e
  · rw [e, h1]
  · rw [e]
theorem sp_join {n : Int} {i : Nat} {p q : R3} (hp : gd p) (hq : gd q) : (jp (sp n 50 2 i (jp p q)) p).1 = bit n i := by
  rcases sp_is (n := n) (i := i) (jp_gd hp hq) with ⟨e, h1⟩ | e
  · rw [e, jp_again, h1]
  · obtain ⟨_, h3, h4, h5, h6⟩ := hp
    rw [e, jp_iff, if_neg (by simp only; omega)]
theorem fof_three (p q r : R3) : fof [p, q, r] 3 = (if p.1 % 2 = 1 then 1 else 0) + (if q.1 % 2 = 1 then 2 else 0) + (if r.1 % 2 = 1 then 4 else 0) := by
  simp [fof]
theorem fof_bits {n : Int} {p q r : R3} (hn : 0 ≤ n ∧ n ≤ 7) (h1 : p.1 = bit n 0) (h2 : q.1 = bit n 1) (h3 : r.1 = bit n 2) : ((fof [p, q, r] 3 : Nat) : Int) = n := by
  rw [fof_three, h1, h2, h3]
  simp only [bit, Int.pow_zero, Int.ediv_one, show (2 : Int) ^ 2 = 4 by rfl, show (2 : Int) ^ 1 = 2 by rfl]
  split <;> split <;> split <;> omega
theorem fof_set {a b : List R3} {n : Int} (ha : a.length = 3) (hb : b.length = 3) (hga : ∀ p ∈ a, gd p) (hgb : ∀ p ∈ b, gd p) (hn : 0 ≤ n ∧ n ≤ 7) : ((fof (sl (jl a b) n 50 2) 3 : Nat) : Int) = n ∧ ((fof (jl (sl (jl a b) n 50 2) a) 3 : Nat) : Int) = n := by
  have hok := jl_ok ha hb hga hgb
  obtain ⟨p, q, r, rfl⟩ := three ha
  obtain ⟨p', q', r', rfl⟩ := three hb
  simp only [List.mem_cons, List.not_mem_nil, or_false, forall_eq_or_imp, forall_eq] at hga hgb
  have e : sl (jl [p, q, r] [p', q', r']) n 50 2 = [sp n 50 2 0 (jp p p'), sp n 50 2 1 (jp q q'), sp n 50 2 2 (jp r r')] := by
    unfold sl
    rw [if_pos (by simp [hok, hn])]
    rfl
  rw [e]
  refine ⟨fof_bits hn (sp_val (jp_gd hga.1 hgb.1)) (sp_val (jp_gd hga.2.1 hgb.2.1)) (sp_val (jp_gd hga.2.2 hgb.2.2)), ?_⟩
  show ((fof [jp _ p, jp _ q, jp _ r] 3 : Nat) : Int) = n
  exact fof_bits hn (sp_join hga.1 hgb.1) (sp_join hga.2.1 hgb.2.1) (sp_join hga.2.2 hgb.2.2)
theorem fof_new {n : Int} (hn : 0 ≤ n ∧ n ≤ 7) : ((fof (fnew n 0 0) 3 : Nat) : Int) = n := fof_bits hn rfl rfl rfl

theorem bdn {B : Nat} {w w1 : World} (h : Below B w w1) (k : Nat) : Below B w (w1.drewN k) := ⟨h.os, h.tape, h.output, h.size, h.block⟩

end Go.Proofs.Ytmpcmllfgogegaa

