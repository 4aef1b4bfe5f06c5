/- Md. -/

import Derived.Test.YtmpcmllfgogegaaGreatjMc
namespace Go.Proofs.YtmpcmllfgogegaaGreat
open Go.RowKit
def jp (p q : R3) : R3 := if cb q.1 q.2.1 q.2.2 p.1 p.2.1 p.2.2 = true then q else p
def jl (a b : List R3) : List R3 := List.zipWith jp a b
theorem jl_len (a b : List R3) : (jl a b).length = min a.length b.length := by simp [jl]
theorem jl_at (a b : List R3) (i : Nat) (h : i < (jl a b).length) (ha : i < a.length) (hb : i < b.length) : (jl a b)[i] = jp a[i] b[i] := by simp [jl]
theorem jreg_jp (v t b v' t' b' : Int) : jreg v t b v' t' b' = rgv (jp (v, t, b) (v', t', b')).1 (jp (v, t, b) (v', t', b')).2.1 (jp (v, t, b) (v', t', b')).2.2 := by
 unfold jreg jp; split <;> rfl
theorem join_s (v t b v' t' b' : Int) : ∃ v1 t1 b1 : Int, Hid (jp (v, t, b) (v', t', b') = (v1, t1, b1)) ∧ Hid (∀ w, Calls Tryz.prog 150 #[.agg #[.int .i64 v, .int .i64 t, .int .i64 b], .agg #[.int .i64 v', .int .i64 t', .int .i64 b']] w fun e w' => e = .returned (.agg #[.int .i64 v1, .int .i64 t1, .int .i64 b1]) ∧ Below w.heap.size w w') := by
 have e := jreg_jp v t b v' t' b'
 obtain ⟨r, hr⟩ : ∃ r, jp (v, t, b) (v', t', b') = r := ⟨_, rfl⟩
 rw [hr] at e ⊢
 obtain ⟨v1, t1, b1⟩ := r
 exact ⟨v1, t1, b1, rfl, fun w => (specJoin_any v t b v' t' b' w).mono fun _ _ k => ⟨by rw [k.1, e], k.2⟩⟩
theorem join_i (v t b v' t' b' : Int) : ∃ v1 t1 b1 : Int, Hid (jp (v, t, b) (v', t', b') = (v1, t1, b1)) ∧ Hid (∀ w, Calls Tryz.prog 143 #[.agg #[.int .i64 v, .int .i64 t, .int .i64 b], .agg #[.int .i64 v', .int .i64 t', .int .i64 b']] w fun e w' => e = .returned (.agg #[.int .i64 v1, .int .i64 t1, .int .i64 b1]) ∧ Below w.heap.size w w') := by
 have e := jreg_jp v t b v' t' b'
 obtain ⟨r, hr⟩ : ∃ r, jp (v, t, b) (v', t', b') = r := ⟨_, rfl⟩
 rw [hr] at e ⊢
 obtain ⟨v1, t1, b1⟩ := r
 exact ⟨v1, t1, b1, rfl, fun w => (joinReg_any v t b v' t' b' w).mono fun _ _ k => ⟨by rw [k.1, e], k.2⟩⟩
theorem step_append_rg {ops : Array Oper} {o : Oper} {a : Act} {w : World} {K : Act → World → Prop} {Q : Exit → Act → World → Prop} {E : Prop}
  (hg : o.guard = none) (s x : Operand) (hop : o.op = Op.call { callee := Callee.builtin Builtin.append, args := #[s, x], argTypes := #[35, 35] })
  (base : Nat) (v : Value) (l : List R3) (hs : a.eval s = v) (p q r : Int) (hown : Ow w base v l)
  (hx : a.eval x = .slice (some ⟨w.heap.size, 0, none⟩) 1 1) (hlen : l.length ≤ 1048576) (hbase : base ≤ w.heap.size)
  (hK : ∀ v' w', Ow w' base v' (l ++ [(p, q, r)]) → Below base w w' → K (a.put o.dst v') w') :
  if Region.wanted o (yielded ops a.tmps) = true then Oper.wp Tryz.prog o a (w.alloc (.cells #[.int .i64 p, .int .i64 q, .int .i64 r] 108)) K Q else E := by
 have hw : Region.wanted o (yielded ops a.tmps) = true := by simp [Region.wanted, hg]
 rw [if_pos hw]
 obtain ⟨i0, hi, hz0, hz1, hz2⟩ := info_parts3 info_rg
 refine wp_append_own _ s x 35 hop base 108 i0 _ 3 24 Tryz.underlying35 hi hz0 hz1 hz2 rfl (by decide) v _ _ hs (hown.alloc _) ⟨w.heap.size, 0, none⟩ 1 1 (fl [(p, q, r)]) hx rfl (cells_new3 w (p, q, r) 108) (fl_one _) (by unfold maxLen; omega) (by omega) (by simp; omega) ?_
 intro v' w' hown' hgr _
 refine hK v' w' ?_ (((Below.refl base w).alloc hbase _).grown hgr (by simp; omega) (fun k hk => (hown.lt k hk).1))
 unfold Ow; rw [fl_app]; simpa using hown'
theorem jl_take (a b : List R3) (i : Nat) (ha : i < a.length) (hb : i < b.length) : (jl a b).take (i + 1) = (jl a b).take i ++ [jp a[i] b[i]] := by
 have h : i < (jl a b).length := by rw [jl_len]; omega
 rw [List.take_succ_eq_append_getElem h, jl_at a b i h ha hb]
set_option maxHeartbeats 800000 in
set_option maxRecDepth 100000 in
theorem specJoinFlags_any (ao bo : Option Addr) (na nb ca cb : Nat) (a b : List R3) (w : World) (hla : a.length = na) (hlb : b.length = nb) (hna : na ≤ 1048576) (_hnb : nb ≤ 1048576) (ha : Rs w ao a) (hb : Rs w bo b) :
  Calls Tryz.prog 128 #[.slice ao na ca, .slice bo nb cb] w fun e w' => ∃ v, e = .returned v ∧ Ow w' w.heap.size v (jl a b) ∧ Below w.heap.size w w' := by
 have HA := hid ha
 have HB := hid hb
 have HLA := hid hla
 have HLB := hid hlb
 clear ha hb hla hlb
 go_enter Tryz.func128, Tryz.ntmps128
 go_wp2
 go_loopw [5, 6] (fun vv iv wr => ∃ i : Nat, i ≤ na ∧ i ≤ nb ∧ iv = .int .i64 (i : Int) ∧ Ow wr w.heap.size vv ((jl a b).take i) ∧ Below w.heap.size w wr) (fun _ iv _ => na - (intOf iv).toNat)
 case atStart => exact ⟨0, Nat.zero_le _, Nat.zero_le _, rfl, own_empty w _ (Nat.le_refl _), bpush (bre _) _⟩
 case round =>
  obtain ⟨i, hi, hi', rfl, hown, hbe⟩ := hrel
  have HO := hid hown
  have HBE := hid hbe
  clear hown hbe
  by_cases hlt : i < na
  ·by_cases hlt' : i < nb
   ·have hia : i < a.length := by rw [HLA.out]; exact hlt
    have hib : i < b.length := by rw [HLB.out]; exact hlt'
    obtain ⟨k, o, rfl, hk, c⟩ := HA.out.at hia
    obtain ⟨k', o', rfl, hk', d⟩ := HB.out.at hib
    have HJ := hid (jl_take a b i hia hib)
    obtain ⟨p, hp⟩ : ∃ p, a[i] = p := ⟨_, rfl⟩
    obtain ⟨q, hq⟩ : ∃ q, b[i] = q := ⟨_, rfl⟩
    rw [hp] at c
    rw [hq] at d
    have HP := hid hp
    have HQ := hid hq
    clear hp hq
    obtain ⟨v, t, y⟩ := p
    obtain ⟨v', t', y'⟩ := q
    obtain ⟨v1, t1, b1, hj, cs⟩ := join_s v t y v' t' y'
    have hI : (0 : Int) ≤ (i : Int) ∧ (i : Int) < (na : Int) := by omega
    have hI' : (0 : Int) ≤ (i : Int) ∧ (i : Int) < (nb : Int) := by omega
    have HN : Hid (((jl a b).take i).length ≤ 1048576) := by show _ ≤ _; simp; omega
    have HS : Hid (∀ W, Below w.heap.size w W → (W.cell? ⟨k, o + i * 3, none⟩ = some (.int .i64 v) ∧ W.cell? ⟨k, o + i * 3 + 1, none⟩ = some (.int .i64 t) ∧ W.cell? ⟨k, o + i * 3 + 2, none⟩ = some (.int .i64 y)) ∧ (W.cell? ⟨k', o' + i * 3, none⟩ = some (.int .i64 v') ∧ W.cell? ⟨k', o' + i * 3 + 1, none⟩ = some (.int .i64 t') ∧ W.cell? ⟨k', o' + i * 3 + 2, none⟩ = some (.int .i64 y'))) :=
     fun W h => ⟨⟨(h.cell (p := ⟨k, _, none⟩) hk).trans c.1, (h.cell (p := ⟨k, _, none⟩) hk).trans c.2.1, (h.cell (p := ⟨k, _, none⟩) hk).trans c.2.2⟩, ⟨(h.cell (p := ⟨k', _, none⟩) hk').trans d.1, (h.cell (p := ⟨k', _, none⟩) hk').trans d.2.1, (h.cell (p := ⟨k', _, none⟩) hk').trans d.2.2⟩⟩
    clear c d
    go_wp2_with fail
    go_region_held3 (fun W => (W.cell? ⟨k, o + i * 3, none⟩ = some (.int .i64 v) ∧ W.cell? ⟨k, o + i * 3 + 1, none⟩ = some (.int .i64 t) ∧ W.cell? ⟨k, o + i * 3 + 2, none⟩ = some (.int .i64 y)) ∧ (W.cell? ⟨k', o' + i * 3, none⟩ = some (.int .i64 v') ∧ W.cell? ⟨k', o' + i * 3 + 1, none⟩ = some (.int .i64 t') ∧ W.cell? ⟨k', o' + i * 3 + 2, none⟩ = some (.int .i64 y')))
     (first | exact HS.out _ (bdr HBE.out) | exact HS.out _ HB1.out | exact HS.out _ (bpush HB1.out _) | exact HS.out _ (HB1.out.trans hb2))
     ((first
       | (go_at_call 150; refine (cs.out _).mono ?_; rintro e w1 ⟨rfl, hb1⟩; have HO1 := hid (own_later HO.out (btr (bdr (bre _)) hb1)); have HB1 : Hid (Below w.heap.size w w1) := btr (bdr HBE.out) hb1)
       | (refine step_append_rg rfl (.tmp 20) (.tmp 30) rfl w.heap.size _ _ (by rfl) v1 t1 b1 HO1.out (by rfl) HN.out HB1.out.size ?_; intro v2 w2 hown2 hb2)))
    go_wp2
    go_roundw
    case rel => exact ⟨i + 1, by omega, by omega, by go_num, by rw [HJ.out, HP.out, HQ.out, hj.out]; exact hown2, HB1.out.trans hb2⟩
    case measure => simp [intOf]; omega
   ·have HE : Hid ((jl a b).take i = jl a b) := List.take_of_length_le (by rw [jl_len, HLA.out, HLB.out]; omega)
    go_wp2
    go_ret
    exact ⟨_, rfl, by rw [← HE.out]; exact HO.out, HBE.out⟩
  ·have HE : Hid ((jl a b).take i = jl a b) := List.take_of_length_le (by rw [jl_len, HLA.out, HLB.out]; omega)
   go_wp2
   go_ret
   exact ⟨_, rfl, by rw [← HE.out]; exact HO.out, HBE.out⟩
set_option maxHeartbeats 800000 in
set_option maxRecDepth 100000 in
theorem implJoinFlags_any (ao bo : Option Addr) (na nb ca cb : Nat) (a b : List R3) (w : World) (hla : a.length = na) (hlb : b.length = nb) (hna : na ≤ 1048576) (hnb : nb ≤ 1048576) (ha : Rs w ao a) (hb : Rs w bo b) :
  Calls Tryz.prog 120 #[.slice ao na ca, .slice bo nb cb] w fun e w' => e = .returned (.slice (some ⟨w.heap.size, 0, none⟩) (jl a b).length (jl a b).length) ∧ Ow w' w.heap.size (.slice (some ⟨w.heap.size, 0, none⟩) (jl a b).length (jl a b).length) (jl a b) ∧ Below w.heap.size w w' := by
 have HA := hid ha
 have HB := hid hb
 have HLA := hid hla
 have HLB := hid hlb
 clear ha hb hla hlb
 by_cases h : (na : Int) ≤ nb
 ·have HJL : Hid ((jl a b).length = na) := by show _ = _; rw [jl_len, HLA.out, HLB.out]; omega
  have hmn : na ≤ nb := by omega
  obtain ⟨M, hM, hmk⟩ := make_rg na (by omega)
  go_enter Tryz.func120, Tryz.ntmps120
  go_wp2
  clear hmk h
  go_loopw [15] (fun iv wr => ∃ i : Nat, i ≤ na ∧ iv = .int .i64 (i : Int) ∧ Ow wr w.heap.size (.slice (some ⟨w.heap.size, 0, none⟩) na na) (fil (jl a b) i) ∧ Below w.heap.size w wr) (fun iv _ => na - (intOf iv).toNat)
  case atStart => exact ⟨0, Nat.zero_le _, rfl, by rw [fil_zero, HJL.out]; exact hM.out w, bpush (bre _) _⟩
  case round =>
   obtain ⟨i, hi, rfl, hown, hbe⟩ := hrel
   have HO := hid hown
   have HBE := hid hbe
   clear hown hbe
   by_cases hlt : i < na
   ·have hia : i < a.length := by rw [HLA.out]; omega
    have hib : i < b.length := by rw [HLB.out]; omega
    have hij : i < (jl a b).length := by rw [HJL.out]; exact hlt
    obtain ⟨k, o, rfl, hk, c⟩ := HA.out.at hia
    obtain ⟨k', o', rfl, hk', d⟩ := HB.out.at hib
    have HJ := hid (jl_at a b i hij hia hib)
    obtain ⟨p, hp⟩ : ∃ p, a[i] = p := ⟨_, rfl⟩
    obtain ⟨q, hq⟩ : ∃ q, b[i] = q := ⟨_, rfl⟩
    rw [hp] at c
    rw [hq] at d
    have HP := hid hp
    have HQ := hid hq
    clear hp hq
    obtain ⟨v, t, y⟩ := p
    obtain ⟨v', t', y'⟩ := q
    obtain ⟨v1, t1, b1, hj, ci⟩ := join_i v t y v' t' y'
    have hI : (0 : Int) ≤ (i : Int) ∧ (i : Int) < (na : Int) := by omega
    have hI' : (0 : Int) ≤ (i : Int) ∧ (i : Int) < (nb : Int) := by omega
    have hil' : i < (fil (jl a b) i).length := by rw [fil_len _ _ (by omega)]; exact hij
    have HS : Hid (∀ W, Below w.heap.size w W → (W.cell? ⟨k, o + i * 3, none⟩ = some (.int .i64 v) ∧ W.cell? ⟨k, o + i * 3 + 1, none⟩ = some (.int .i64 t) ∧ W.cell? ⟨k, o + i * 3 + 2, none⟩ = some (.int .i64 y)) ∧ (W.cell? ⟨k', o' + i * 3, none⟩ = some (.int .i64 v') ∧ W.cell? ⟨k', o' + i * 3 + 1, none⟩ = some (.int .i64 t') ∧ W.cell? ⟨k', o' + i * 3 + 2, none⟩ = some (.int .i64 y'))) :=
     fun W h => ⟨⟨(h.cell (p := ⟨k, _, none⟩) hk).trans c.1, (h.cell (p := ⟨k, _, none⟩) hk).trans c.2.1, (h.cell (p := ⟨k, _, none⟩) hk).trans c.2.2⟩, ⟨(h.cell (p := ⟨k', _, none⟩) hk').trans d.1, (h.cell (p := ⟨k', _, none⟩) hk').trans d.2.1, (h.cell (p := ⟨k', _, none⟩) hk').trans d.2.2⟩⟩
    have HIL := hid hil'
    clear c d hil'
    go_wp2_with fail
    go_region_held3 (fun W => (W.cell? ⟨k, o + i * 3, none⟩ = some (.int .i64 v) ∧ W.cell? ⟨k, o + i * 3 + 1, none⟩ = some (.int .i64 t) ∧ W.cell? ⟨k, o + i * 3 + 2, none⟩ = some (.int .i64 y)) ∧ (W.cell? ⟨k', o' + i * 3, none⟩ = some (.int .i64 v') ∧ W.cell? ⟨k', o' + i * 3 + 1, none⟩ = some (.int .i64 t') ∧ W.cell? ⟨k', o' + i * 3 + 2, none⟩ = some (.int .i64 y')))
     (first | exact HS.out _ (bdr HBE.out) | exact HS.out _ HB1.out | exact HS.out _ (bset (bset (bset HB1.out (Nat.le_refl _) _) (Nat.le_refl _) _) (Nat.le_refl _) _))
     ((go_at_call 143; refine (ci.out _).mono ?_; rintro e w1 ⟨rfl, hb1⟩; have HO1 := hid (own_later HO.out (btr (bdr (bre _)) hb1)); have HB1 : Hid (Below w.heap.size w w1) := btr (bdr HBE.out) hb1; have hsp := Ow.spot HO1.out i HIL.out; obtain ⟨x, z, u, hc, hf⟩ := hsp; have HST := hid (Ow.stored HO1.out i HIL.out (v1, t1, b1))))
    go_wp2
    go_roundw
    case rel => exact ⟨i + 1, by omega, by go_num, HST.out.cast (by rw [← hj.out, ← HP.out, ← HQ.out, ← HJ.out]; exact fil_set _ i hij), bset (bset (bset HB1.out (Nat.le_refl _) _) (Nat.le_refl _) _) (Nat.le_refl _) _⟩
    case measure => simp [intOf]; omega
   ·have HE : Hid (i = (jl a b).length) := by show _ = _; rw [HJL.out]; omega
    go_wp2
    go_ret
    exact ⟨by rw [HJL.out]; rfl, by rw [HJL.out]; exact HO.out.cast (by rw [HE.out, fil_all]), HBE.out⟩
 ·have HJL : Hid ((jl a b).length = nb) := by show _ = _; rw [jl_len, HLA.out, HLB.out]; omega
  have h : (nb : Int) < na := by omega
  have hmn : nb ≤ na := by omega
  obtain ⟨M, hM, hmk⟩ := make_rg nb (by omega)
  go_enter Tryz.func120, Tryz.ntmps120
  go_wp2
  clear hmk h
  go_loopw [15] (fun iv wr => ∃ i : Nat, i ≤ nb ∧ iv = .int .i64 (i : Int) ∧ Ow wr w.heap.size (.slice (some ⟨w.heap.size, 0, none⟩) nb nb) (fil (jl a b) i) ∧ Below w.heap.size w wr) (fun iv _ => nb - (intOf iv).toNat)
  case atStart => exact ⟨0, Nat.zero_le _, rfl, by rw [fil_zero, HJL.out]; exact hM.out w, bpush (bre _) _⟩
  case round =>
   obtain ⟨i, hi, rfl, hown, hbe⟩ := hrel
   have HO := hid hown
   have HBE := hid hbe
   clear hown hbe
   by_cases hlt : i < nb
   ·have hia : i < a.length := by rw [HLA.out]; omega
    have hib : i < b.length := by rw [HLB.out]; omega
    have hij : i < (jl a b).length := by rw [HJL.out]; exact hlt
    obtain ⟨k, o, rfl, hk, c⟩ := HA.out.at hia
    obtain ⟨k', o', rfl, hk', d⟩ := HB.out.at hib
    have HJ := hid (jl_at a b i hij hia hib)
    obtain ⟨p, hp⟩ : ∃ p, a[i] = p := ⟨_, rfl⟩
    obtain ⟨q, hq⟩ : ∃ q, b[i] = q := ⟨_, rfl⟩
    rw [hp] at c
    rw [hq] at d
    have HP := hid hp
    have HQ := hid hq
    clear hp hq
    obtain ⟨v, t, y⟩ := p
    obtain ⟨v', t', y'⟩ := q
    obtain ⟨v1, t1, b1, hj, ci⟩ := join_i v t y v' t' y'
    have hI : (0 : Int) ≤ (i : Int) ∧ (i : Int) < (na : Int) := by omega
    have hI' : (0 : Int) ≤ (i : Int) ∧ (i : Int) < (nb : Int) := by omega
    have hil' : i < (fil (jl a b) i).length := by rw [fil_len _ _ (by omega)]; exact hij
    have HS : Hid (∀ W, Below w.heap.size w W → (W.cell? ⟨k, o + i * 3, none⟩ = some (.int .i64 v) ∧ W.cell? ⟨k, o + i * 3 + 1, none⟩ = some (.int .i64 t) ∧ W.cell? ⟨k, o + i * 3 + 2, none⟩ = some (.int .i64 y)) ∧ (W.cell? ⟨k', o' + i * 3, none⟩ = some (.int .i64 v') ∧ W.cell? ⟨k', o' + i * 3 + 1, none⟩ = some (.int .i64 t') ∧ W.cell? ⟨k', o' + i * 3 + 2, none⟩ = some (.int .i64 y'))) :=
     fun W h => ⟨⟨(h.cell (p := ⟨k, _, none⟩) hk).trans c.1, (h.cell (p := ⟨k, _, none⟩) hk).trans c.2.1, (h.cell (p := ⟨k, _, none⟩) hk).trans c.2.2⟩, ⟨(h.cell (p := ⟨k', _, none⟩) hk').trans d.1, (h.cell (p := ⟨k', _, none⟩) hk').trans d.2.1, (h.cell (p := ⟨k', _, none⟩) hk').trans d.2.2⟩⟩
    have HIL := hid hil'
    clear c d hil'
    go_wp2_with fail
    go_region_held3 (fun W => (W.cell? ⟨k, o + i * 3, none⟩ = some (.int .i64 v) ∧ W.cell? ⟨k, o + i * 3 + 1, none⟩ = some (.int .i64 t) ∧ W.cell? ⟨k, o + i * 3 + 2, none⟩ = some (.int .i64 y)) ∧ (W.cell? ⟨k', o' + i * 3, none⟩ = some (.int .i64 v') ∧ W.cell? ⟨k', o' + i * 3 + 1, none⟩ = some (.int .i64 t') ∧ W.cell? ⟨k', o' + i * 3 + 2, none⟩ = some (.int .i64 y')))
     (first | exact HS.out _ (bdr HBE.out) | exact HS.out _ HB1.out | exact HS.out _ (bset (bset (bset HB1.out (Nat.le_refl _) _) (Nat.le_refl _) _) (Nat.le_refl _) _))
     ((go_at_call 143; refine (ci.out _).mono ?_; rintro e w1 ⟨rfl, hb1⟩; have HO1 := hid (own_later HO.out (btr (bdr (bre _)) hb1)); have HB1 : Hid (Below w.heap.size w w1) := btr (bdr HBE.out) hb1; have hsp := Ow.spot HO1.out i HIL.out; obtain ⟨x, z, u, hc, hf⟩ := hsp; have HST := hid (Ow.stored HO1.out i HIL.out (v1, t1, b1))))
    go_wp2
    go_roundw
    case rel => exact ⟨i + 1, by omega, by go_num, HST.out.cast (by rw [← hj.out, ← HP.out, ← HQ.out, ← HJ.out]; exact fil_set _ i hij), bset (bset (bset HB1.out (Nat.le_refl _) _) (Nat.le_refl _) _) (Nat.le_refl _) _⟩
    case measure => simp [intOf]; omega
   ·have HE : Hid (i = (jl a b).length) := by show _ = _; rw [HJL.out]; omega
    go_wp2
    go_ret
    exact ⟨by rw [HJL.out]; rfl, by rw [HJL.out]; exact HO.out.cast (by rw [HE.out, fil_all]), HBE.out⟩
theorem addr_add (k o j : Nat) : (⟨k, o, none⟩ : Addr).add j = ⟨k, o + j, none⟩ := by unfold Addr.add; split <;> simp_all
theorem Row.all {W : World} {k o : Nat} {l : List R3} (h : Row W k o l) : ∀ j u, (fl l)[j]? = some u → W.cell? ((⟨k, o, none⟩ : Addr).add j) = some u := by
 intro j u hu
 rw [addr_add]
 have hj : j < (fl l).length := (List.getElem?_eq_some_iff.1 hu).1
 rw [fl_len] at hj
 have hi : j / 3 < l.length := by omega
 have e := fl_at l (j / 3) hi
 have c := h (j / 3) hi
 have h3 : j % 3 = 0 ∨ j % 3 = 1 ∨ j % 3 = 2 := by omega
 rcases h3 with h3 | h3 | h3
 ·have ej : j = j / 3 * 3 := by omega
  rw [← ej] at e c
  rw [← hu, e.1]; exact c.1
 ·have ej : j = j / 3 * 3 + 1 := by omega
  rw [Nat.add_assoc, ← ej] at c
  rw [← ej] at e
  rw [← hu, e.2.1]; exact c.2.1
 ·have ej : j = j / 3 * 3 + 2 := by omega
  rw [Nat.add_assoc o _ 2, ← ej] at c
  rw [← ej] at e
  rw [← hu, e.2.2]; exact c.2.2
set_option maxHeartbeats 400000 in
theorem l04Copy_any (ao : Option Addr) (n cap : Nat) (l : List R3) (w : World) (hl : l.length = n) (hn : n ≤ 1048576) (hr : Rs w ao l) (h0 : ao = none → cap = 0) :
  Calls Tryz.prog 127 #[.slice ao n cap] w fun e w' => ∃ v, e = .returned v ∧ Ow w' w.heap.size v l ∧ Below w.heap.size w w' := by
 have HR := hid hr
 have HL := hid hl
 have HN := hid hn
 clear hr hl hn
 cases ao with
 | none =>
  have hn0 : n = 0 := by
   by_cases h : 0 < n
   ·obtain ⟨_, _, h1, _⟩ := HR.out (by rw [HL.out]; exact h)
    cases h1
   ·omega
  subst hn0
  obtain rfl := h0 rfl
  have hle : l = [] := List.eq_nil_of_length_eq_zero HL.out
  subst hle
  clear h0
  go_enter Tryz.func127, Tryz.ntmps127
  go_wp2
  go_ret
  exact ⟨_, rfl, own_empty w _ (Nat.le_refl _), bpush (bre _) _⟩
 | some ad =>
  clear h0
  obtain ⟨i0, hi, hz0, hz1, hz2⟩ := info_parts3 info_rg
  have HSRC : Hid (∀ j u, (fl l)[j]? = some u → (w.alloc (.cells #[] 108)).cell? (ad.add j) = some u) := by
   intro j u hu
   have hj : j < (fl l).length := (List.getElem?_eq_some_iff.1 hu).1
   rw [fl_len] at hj
   obtain ⟨k, o, h1, h2, h3⟩ := (HR.out.later (bpush (bre _) _)) (by omega)
   simp only [Option.some.injEq] at h1
   subst h1
   exact h3.all j u hu
  go_enter Tryz.func127, Tryz.ntmps127
  go_wp2_with (at_builtin; refine wpList_append_own _ rfl (.tmp 3) (.tmp 4) 35 rfl w.heap.size 108 i0 _ 3 24 Tryz.underlying35 hi hz0 hz1 hz2 rfl (by decide) _ 0 [] (by rfl) (own_empty w _ (Nat.le_refl _)) ad n cap (fl l) (by rfl) (by rw [fl_len, HL.out]) HSRC.out (fl_one l) (by have := HN.out; unfold maxLen; omega) (by have := HN.out; omega) (by simp) ?_; intro v1 w1 hown1 hg1 _)
  go_ret
  exact ⟨_, rfl, by simpa [Ow, HL.out] using hown1, (bpush (bre _) _).grown hg1 (by simp) (by intro k hk; simp [Value.ownBlock] at hk; omega)⟩
end Go.Proofs.YtmpcmllfgogegaaGreat
namespace Go.Proofs.YtmpcmllfgogegaaGreat
open Go.RowKit
def pp (p : R3) (m t b : Int) : R3 := if (rgOk m t b && later t b p.2.1 p.2.2) = true then (m, t, b) else p
def sp (n t b : Int) (i : Nat) (p : R3) : R3 := if bit n i = p.1 then p else pp p (bit n i) t b
def sl (l : List R3) (n t b : Int) : List R3 := if (flOk l && decide (0 ≤ n ∧ n ≤ 7)) = true then l.mapIdx (sp n t b) else l
theorem sl_len (l : List R3) (n t b : Int) : (sl l n t b).length = l.length := by unfold sl; split <;> simp
def sfil (l : List R3) (n t b : Int) (i : Nat) : List R3 := l.mapIdx fun j p => if j < i then sp n t b j p else p
theorem sfil_len (l : List R3) (n t b : Int) (i : Nat) : (sfil l n t b i).length = l.length := by simp [sfil]
theorem sfil_zero (l : List R3) (n t b : Int) : sfil l n t b 0 = l := by
 unfold sfil; apply List.ext_getElem
 ·simp
 ·intro j h1 h2; simp
theorem sfil_at (l : List R3) (n t b : Int) (i : Nat) (h : i < l.length) (h' : i < (sfil l n t b i).length) : (sfil l n t b i)[i] = l[i] := by simp [sfil]
theorem sfil_set (l : List R3) (n t b : Int) (i : Nat) (h : i < l.length) : (sfil l n t b i).set i (sp n t b i l[i]) = sfil l n t b (i + 1) := by
 unfold sfil; apply List.ext_getElem
 ·simp
 ·intro j h1 h2
  simp only [List.getElem_set, List.getElem_mapIdx]
  by_cases hj : i = j
  ·subst hj; simp
  ·rw [if_neg hj]
   by_cases hji : j < i
   ·rw [if_pos hji, if_pos (by omega)]
   ·rw [if_neg hji, if_neg (by omega)]
theorem sfil_same (l : List R3) (n t b : Int) (i : Nat) (h : i < l.length) (hb : bit n i = l[i].1) : sfil l n t b i = sfil l n t b (i + 1) := by
 rw [← sfil_set l n t b i h]
 have e : sp n t b i l[i] = (sfil l n t b i)[i]'(by rw [sfil_len]; exact h) := by
  rw [sfil_at l n t b i h]; unfold sp; rw [if_pos hb]
 rw [e, List.set_getElem_self]
theorem sfil_all (l : List R3) (n t b : Int) (hok : flOk l = true) (hn : 0 ≤ n ∧ n ≤ 7) (hl : l.length = 3) : sfil l n t b 3 = sl l n t b := by
 unfold sl sfil
 rw [if_pos (by simp [hok, hn])]
 apply List.ext_getElem
 ·simp
 ·intro j h1 h2
  have : j < 3 := by simpa [hl] using h2
  simp [this]
theorem sl_not (l : List R3) (n t b : Int) (h : ¬ (flOk l = true ∧ 0 ≤ n ∧ n ≤ 7)) : sl l n t b = l := by
 unfold sl; rw [if_neg]; intro hc; apply h; simpa [Bool.and_eq_true, decide_eq_true_eq] using hc
theorem flOk_len {l : List R3} (h : flOk l = true) : l.length = 3 := by
 unfold flOk at h; simp at h; exact h.1
theorem Ow.here {W : World} {B g n c : Nat} {l : List R3} (h : Ow W B (.slice (some ⟨g, 0, none⟩) n c) l) (i : Nat) (hi : i < l.length) (p : R3) (hp : l[i] = p) :
  (W.cell? ⟨g, i * 3, none⟩ = some (.int .i64 p.1) ∧ W.cell? ⟨g, i * 3 + 1, none⟩ = some (.int .i64 p.2.1) ∧ W.cell? ⟨g, i * 3 + 2, none⟩ = some (.int .i64 p.2.2)) ∧ W.frozen? ⟨g, i * 3, none⟩ = false ∧ W.frozen? ⟨g, i * 3 + 1, none⟩ = false ∧ W.frozen? ⟨g, i * 3 + 2, none⟩ = false := by
 subst hp
 obtain ⟨rfl, hr⟩ := Ow.rs h
 obtain ⟨k, o, e, _, c1, c2, c3⟩ := hr.at hi
 simp only [Option.some.injEq, Addr.mk.injEq, and_true] at e
 obtain ⟨rfl, rfl⟩ := e
 simp only [Nat.zero_add] at c1 c2 c3
 exact ⟨⟨c1, c2, c3⟩, World.ownsRow.frozenAt h _, World.ownsRow.frozenAt h _, World.ownsRow.frozenAt h _⟩
theorem Ow.solid {W : World} {B : Nat} {v : Value} {l : List R3} (h : Ow W B v l) (hl : 0 < l.length) : ∃ g c, v = .slice (some ⟨g, 0, none⟩) l.length c ∧ B ≤ g := by
 rcases h.2 with ⟨h1, h2⟩ | ⟨g, cap, cur, h1, h2, _⟩
 ·omega
 ·exact ⟨g, cap, h1, h2⟩
theorem bit_tmod {m : Int} {i : Nat} {q : Int} (hq : m / 2 ^ i = q) (h0 : 0 ≤ q) : q.tmod 2 = bit m i := by
 unfold bit; rw [hq, Int.tmod_eq_emod_of_nonneg h0]
def gd (p : R3) : Prop := (0 ≤ p.1 ∧ p.1 < 2) ∧ 0 ≤ p.2.1 ∧ p.2.1 < 12 ∧ 1 ≤ p.2.2 ∧ p.2.2 ≤ 2
end Go.Proofs.YtmpcmllfgogegaaGreat
namespace Go.Proofs.YtmpcmllfgogegaaGreat
open Go.RowKit
def Dl (W : World) (B : Nat) (v : Value) (l : List R3) : Prop := ∃ (a : Option Addr) (c : Nat), v = .slice a l.length c ∧ l.length ≤ 4 ∧ l.length ≤ c ∧ (a = none → c = 0) ∧ Rs W a l ∧ ∀ x, a = some x → B ≤ x.block
theorem Code.over {w W : World} {n : Nat} {ao : Option Addr} (h : Code w w.heap.size ao n) (hb : Below w.heap.size w W) : Code W W.heap.size ao n := by
 intro hn
 obtain ⟨b, off, h1, h2, h3⟩ := h hn
 refine ⟨b, off, h1, Nat.lt_of_lt_of_le h2 hb.size, fun j hj => ?_⟩
 obtain ⟨z, hz, hc⟩ := h3 j hj
 exact ⟨z, hz, (hb.cell (p := ⟨b, off + j, none⟩) h2).trans hc⟩
theorem three {l : List R3} (h : l.length = 3) : ∃ p q r, l = [p, q, r] := by
 match l, h with
 | [p, q, r], _ => exact ⟨p, q, r, rfl⟩
theorem bdn {B : Nat} {w w1 : World} (h : Below B w w1) (k : Nat) : Below B w (w1.drewN k) := ⟨h.os, h.tape, h.output, h.size, h.block⟩
theorem bigF_no (ao : Option Addr) (n cap : Nat) (w : World) (hn : n ≤ 1048576) : Calls Tryz.prog 8 #[.slice ao n cap] w fun e w' => e = .returned (.bool false) ∧ w' = w := by
 go_enter Tryz.func8, Tryz.ntmps8
 go_wp2
 go_ret
 exact ⟨ret_bool (by simp; omega), rfl⟩
theorem bigF_yes (ao : Option Addr) (n cap : Nat) (w : World) (hn : ¬ n ≤ 1048576) : Calls Tryz.prog 8 #[.slice ao n cap] w fun e w' => e = .returned (.bool true) ∧ w' = w := by
 go_enter Tryz.func8, Tryz.ntmps8
 go_wp2
 go_ret
 exact ⟨ret_bool (by simp; omega), rfl⟩
end Go.Proofs.YtmpcmllfgogegaaGreat
