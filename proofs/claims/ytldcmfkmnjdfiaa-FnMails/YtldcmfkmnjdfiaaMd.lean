/- FlagJoin, FlagCopy, FlagSet, Fdraw, FdrawB, Fpure, in one text. -/
import Derived.Test.YtldcmfkmnjdfiaaMc
namespace Go.Proofs.Ytldcmfkmnjdfiaa
open Go.RowKit

/-- Of two registers the one that counts. -/
def jp (p q : R3) : R3 := if cb q.1 q.2.1 q.2.2 p.1 p.2.1 p.2.2 = true then q else p
def jl (a b : List R3) : List R3 := List.zipWith jp a b
theorem jl_len (a b : List R3) : (jl a b).length = min a.length b.length := by simp [jl]
theorem jl_at (a b : List R3) (i : Nat) (h : i < (jl a b).length) (ha : i < a.length) (hb : i < b.length) : (jl a b)[i] = jp a[i] b[i] := by simp [jl]

theorem jreg_jp (v t b v' t' b' : Int) : jreg v t b v' t' b' = rgv (jp (v, t, b) (v', t', b')).1 (jp (v, t, b) (v', t', b')).2.1 (jp (v, t, b) (v', t', b')).2.2 := by
  unfold jreg jp; split <;> rfl
theorem join_s (v t b v' t' b' : Int) : ∃ v1 t1 b1 : Int, Hid (jp (v, t, b) (v', t', b') = (v1, t1, b1)) ∧ Hid (∀ w, Calls Try.prog 68 #[.agg #[.int .i64 v, .int .i64 t, .int .i64 b], .agg #[.int .i64 v', .int .i64 t', .int .i64 b']] w fun e w' => e = .returned (.agg #[.int .i64 v1, .int .i64 t1, .int .i64 b1]) ∧ Below w.heap.size w w') := by
  have e := jreg_jp v t b v' t' b'
  obtain ⟨r, hr⟩ : ∃ r, jp (v, t, b) (v', t', b') = r := ⟨_, rfl⟩
  rw [hr] at e ⊢
  obtain ⟨v1, t1, b1⟩ := r
  exact ⟨v1, t1, b1, rfl, fun w => (specJoin_any v t b v' t' b' w).mono fun _ _ k => ⟨by rw [k.1, e], k.2⟩⟩
theorem join_i (v t b v' t' b' : Int) : ∃ v1 t1 b1 : Int, Hid (jp (v, t, b) (v', t', b') = (v1, t1, b1)) ∧ Hid (∀ w, Calls Try.prog 65 #[.agg #[.int .i64 v, .int .i64 t, .int .i64 b], .agg #[.int .i64 v', .int .i64 t', .int .i64 b']] w fun e w' => e = .returned (.agg #[.int .i64 v1, .int .i64 t1, .int .i64 b1]) ∧ Below w.heap.size w w') := by
  have e := jreg_jp v t b v' t' b'
  obtain ⟨r, hr⟩ : ∃ r, jp (v, t, b) (v', t', b') = r := ⟨_, rfl⟩
  rw [hr] at e ⊢
  obtain ⟨v1, t1, b1⟩ := r
  exact ⟨v1, t1, b1, rfl, fun w => (joinReg_any v t b v' t' b' w).mono fun _ _ k => ⟨by rw [k.1, e], k.2⟩⟩

/-- One register appended, as one step of a region that draws its order. -/
theorem step_append_rg {ops : Array Oper} {o : Oper} {a : Act} {w : World} {K : Act → World → Prop} {Q : Exit → Act → World → Prop} {E : Prop}
    (hg : o.guard = none) (s x : Operand) (hop : o.op = Op.call { callee := Callee.builtin Builtin.append, args := #[s, x], argTypes := #[24, 24] })
    (base : Nat) (v : Value) (l : List R3) (hs : a.eval s = v) (p q r : Int) (hown : Ow w base v l)
    (hx : a.eval x = .slice (some ⟨w.heap.size, 0, none⟩) 1 1) (hlen : l.length ≤ 1048576) (hbase : base ≤ w.heap.size)
    (hK : ∀ v' w', Ow w' base v' (l ++ [(p, q, r)]) → Below base w w' → K (a.put o.dst v') w') :
    if Region.wanted o (yielded ops a.tmps) = true then Oper.wp Try.prog o a (w.alloc (.cells #[.int .i64 p, .int .i64 q, .int .i64 r] 49)) K Q else E := by
  have hw : Region.wanted o (yielded ops a.tmps) = true := by simp [Region.wanted, hg]
  rw [if_pos hw]
  obtain ⟨i0, hi, hz0, hz1, hz2⟩ := info_parts3 info_rg
  refine wp_append_own _ s x 24 hop base 49 i0 _ 3 24 Try.underlying24 hi hz0 hz1 hz2 rfl (by decide) v _ _ hs (hown.alloc _) ⟨w.heap.size, 0, none⟩ 1 1 (fl [(p, q, r)]) hx rfl (cells_new3 w (p, q, r) 49) (fl_one _) (by unfold maxLen; omega) (by omega) (by simp; omega) ?_
  intro v' w' hown' hgr _
  refine hK v' w' ?_ (((Below.refl base w).alloc hbase _).grown hgr (by simp; omega) (fun k hk => (hown.lt k hk).1))
  unfold Ow; rw [fl_app]; simpa using hown'

theorem jl_take (a b : List R3) (i : Nat) (ha : i < a.length) (hb : i < b.length) : (jl a b).take (i + 1) = (jl a b).take i ++ [jp a[i] b[i]] := by
  have h : i < (jl a b).length := by rw [jl_len]; omega
  rw [List.take_succ_eq_append_getElem h, jl_at a b i h ha hb]

set_option maxHeartbeats 800000 in
set_option maxRecDepth 100000 in
theorem specJoinFlags_any (ao bo : Option Addr) (na nb ca cb : Nat) (a b : List R3) (w : World) (hla : a.length = na) (hlb : b.length = nb) (hna : na ≤ 1048576) (_hnb : nb ≤ 1048576) (ha : Rs w ao a) (hb : Rs w bo b) :
    Calls Try.prog 43 #[.slice ao na ca, .slice bo nb cb] w fun e w' => ∃ v, e = .returned v ∧ Ow w' w.heap.size v (jl a b) ∧ Below w.heap.size w w' := by
  have HA := hid ha
  have HB := hid hb
  have HLA := hid hla
  have HLB := hid hlb
  clear ha hb hla hlb
  go_enter Try.func43, Try.ntmps43
  go_wp2
  go_loopw [5, 6] (fun vv iv wr => ∃ i : Nat, i ≤ na ∧ i ≤ nb ∧ iv = .int .i64 (i : Int) ∧ Ow wr w.heap.size vv ((jl a b).take i) ∧ Below w.heap.size w wr) (fun _ iv _ => na - (intOf iv).toNat)
  case atStart => exact ⟨0, Nat.zero_le _, Nat.zero_le _, rfl, own_empty w _ (Nat.le_refl _), bpush (bre _) _⟩
  case round =>
    obtain ⟨i, hi, hi', rfl, hown, hbe⟩ := hrel
    have HO := hid hown
    have HBE := hid hbe
    clear hown hbe
    by_cases hlt : i < na
    · by_cases hlt' : i < nb
      · have hia : i < a.length := by rw [HLA.out]; exact hlt
        have hib : i < b.length := by rw [HLB.out]; exact hlt'
        obtain ⟨k, o, rfl, hk, c⟩ := HA.out.at hia
        obtain ⟨k', o', rfl, hk', d⟩ := HB.out.at hib
        have HJ := hid (jl_take a b i hia hib)
        obtain ⟨p, hp⟩ : ∃ p, a[i] = p := ⟨_, rfl⟩
        obtain ⟨q, hq⟩ : ∃ q, b[i] = q := ⟨_, rfl⟩
        rw [hp] at c
        rw [hq] at d
        have HP := hid hp
        have HQ := hid hq
        clear hp hq
        obtain ⟨v, t, y⟩ := p
        obtain ⟨v', t', y'⟩ := q
        obtain ⟨v1, t1, b1, hj, cs⟩ := join_s v t y v' t' y'
        have hI : (0 : Int) ≤ (i : Int) ∧ (i : Int) < (na : Int) := by omega
        have hI' : (0 : Int) ≤ (i : Int) ∧ (i : Int) < (nb : Int) := by omega
        have HN : Hid (((jl a b).take i).length ≤ 1048576) := by show _ ≤ _; simp; omega
        have HS : Hid (∀ W, Below w.heap.size w W → (W.cell? ⟨k, o + i * 3, none⟩ = some (.int .i64 v) ∧ W.cell? ⟨k, o + i * 3 + 1, none⟩ = some (.int .i64 t) ∧ W.cell? ⟨k, o + i * 3 + 2, none⟩ = some (.int .i64 y)) ∧ (W.cell? ⟨k', o' + i * 3, none⟩ = some (.int .i64 v') ∧ W.cell? ⟨k', o' + i * 3 + 1, none⟩ = some (.int .i64 t') ∧ W.cell? ⟨k', o' + i * 3 + 2, none⟩ = some (.int .i64 y'))) :=
          fun W h => ⟨⟨(h.cell (p := ⟨k, _, none⟩) hk).trans c.1, (h.cell (p := ⟨k, _, none⟩) hk).trans c.2.1, (h.cell (p := ⟨k, _, none⟩) hk).trans c.2.2⟩, ⟨(h.cell (p := ⟨k', _, none⟩) hk').trans d.1, (h.cell (p := ⟨k', _, none⟩) hk').trans d.2.1, (h.cell (p := ⟨k', _, none⟩) hk').trans d.2.2⟩⟩
        clear c d
        go_wp2_with fail
        go_region_held3 (fun W => (W.cell? ⟨k, o + i * 3, none⟩ = some (.int .i64 v) ∧ W.cell? ⟨k, o + i * 3 + 1, none⟩ = some (.int .i64 t) ∧ W.cell? ⟨k, o + i * 3 + 2, none⟩ = some (.int .i64 y)) ∧ (W.cell? ⟨k', o' + i * 3, none⟩ = some (.int .i64 v') ∧ W.cell? ⟨k', o' + i * 3 + 1, none⟩ = some (.int .i64 t') ∧ W.cell? ⟨k', o' + i * 3 + 2, none⟩ = some (.int .i64 y')))
          (first | exact HS.out _ (bdr HBE.out) | exact HS.out _ HB1.out | exact HS.out _ (bpush HB1.out _) | exact HS.out _ (HB1.out.trans hb2))
          ((first
            | (go_at_call 68; refine (cs.out _).mono ?_; rintro e w1 ⟨rfl, hb1⟩; have HO1 := hid (own_later HO.out (btr (bdr (bre _)) hb1)); have HB1 : Hid (Below w.heap.size w w1) := btr (bdr HBE.out) hb1)
            | (refine step_append_rg rfl (.tmp 20) (.tmp 30) rfl w.heap.size _ _ (by rfl) v1 t1 b1 HO1.out (by rfl) HN.out HB1.out.size ?_; intro v2 w2 hown2 hb2)))
        go_wp2
        go_roundw
        case rel => exact ⟨i + 1, by omega, by omega, by go_num, by rw [HJ.out, HP.out, HQ.out, hj.out]; exact hown2, HB1.out.trans hb2⟩
        case measure => simp [intOf]; omega
      · have HE : Hid ((jl a b).take i = jl a b) := List.take_of_length_le (by rw [jl_len, HLA.out, HLB.out]; omega)
        go_wp2
        go_ret
        exact ⟨_, rfl, by rw [← HE.out]; exact HO.out, HBE.out⟩
    · have HE : Hid ((jl a b).take i = jl a b) := List.take_of_length_le (by rw [jl_len, HLA.out, HLB.out]; omega)
      go_wp2
      go_ret
      exact ⟨_, rfl, by rw [← HE.out]; exact HO.out, HBE.out⟩

set_option maxHeartbeats 800000 in
set_option maxRecDepth 100000 in
theorem implJoinFlags_any (ao bo : Option Addr) (na nb ca cb : Nat) (a b : List R3) (w : World) (hla : a.length = na) (hlb : b.length = nb) (hna : na ≤ 1048576) (hnb : nb ≤ 1048576) (ha : Rs w ao a) (hb : Rs w bo b) :
    Calls Try.prog 40 #[.slice ao na ca, .slice bo nb cb] w fun e w' => e = .returned (.slice (some ⟨w.heap.size, 0, none⟩) (jl a b).length (jl a b).length) ∧ Ow w' w.heap.size (.slice (some ⟨w.heap.size, 0, none⟩) (jl a b).length (jl a b).length) (jl a b) ∧ Below w.heap.size w w' := by
  have HA := hid ha
  have HB := hid hb
  have HLA := hid hla
  have HLB := hid hlb
  clear ha hb hla hlb
  by_cases h : (na : Int) ≤ nb
  · have HJL : Hid ((jl a b).length = na) := by show _ = _; rw [jl_len, HLA.out, HLB.out]; omega
    have hmn : na ≤ nb := by omega
    obtain ⟨M, hM, hmk⟩ := make_rg na (by omega)
    go_enter Try.func40, Try.ntmps40
    go_wp2
    clear hmk h
    go_loopw [15] (fun iv wr => ∃ i : Nat, i ≤ na ∧ iv = .int .i64 (i : Int) ∧ Ow wr w.heap.size (.slice (some ⟨w.heap.size, 0, none⟩) na na) (fil (jl a b) i) ∧ Below w.heap.size w wr) (fun iv _ => na - (intOf iv).toNat)
    case atStart => exact ⟨0, Nat.zero_le _, rfl, by rw [fil_zero, HJL.out]; exact hM.out w, bpush (bre _) _⟩
    case round =>
      obtain ⟨i, hi, rfl, hown, hbe⟩ := hrel
      have HO := hid hown
      have HBE := hid hbe
      clear hown hbe
      by_cases hlt : i < na
      · have hia : i < a.length := by rw [HLA.out]; omega
        have hib : i < b.length := by rw [HLB.out]; omega
        have hij : i < (jl a b).length := by rw [HJL.out]; exact hlt
        obtain ⟨k, o, rfl, hk, c⟩ := HA.out.at hia
        obtain ⟨k', o', rfl, hk', d⟩ := HB.out.at hib
        have HJ := hid (jl_at a b i hij hia hib)
        obtain ⟨p, hp⟩ : ∃ p, a[i] = p := ⟨_, rfl⟩
        obtain ⟨q, hq⟩ : ∃ q, b[i] = q := ⟨_, rfl⟩
        rw [hp] at c
        rw [hq] at d
        have HP := hid hp
        have HQ := hid hq
        clear hp hq
        obtain ⟨v, t, y⟩ := p
        obtain ⟨v', t', y'⟩ := q
        obtain ⟨v1, t1, b1, hj, ci⟩ := join_i v t y v' t' y'
        have hI : (0 : Int) ≤ (i : Int) ∧ (i : Int) < (na : Int) := by omega
        have hI' : (0 : Int) ≤ (i : Int) ∧ (i : Int) < (nb : Int) := by omega
        have hil' : i < (fil (jl a b) i).length := by rw [fil_len _ _ (by omega)]; exact hij
        have HS : Hid (∀ W, Below w.heap.size w W → (W.cell? ⟨k, o + i * 3, none⟩ = some (.int .i64 v) ∧ W.cell? ⟨k, o + i * 3 + 1, none⟩ = some (.int .i64 t) ∧ W.cell? ⟨k, o + i * 3 + 2, none⟩ = some (.int .i64 y)) ∧ (W.cell? ⟨k', o' + i * 3, none⟩ = some (.int .i64 v') ∧ W.cell? ⟨k', o' + i * 3 + 1, none⟩ = some (.int .i64 t') ∧ W.cell? ⟨k', o' + i * 3 + 2, none⟩ = some (.int .i64 y'))) :=
          fun W h => ⟨⟨(h.cell (p := ⟨k, _, none⟩) hk).trans c.1, (h.cell (p := ⟨k, _, none⟩) hk).trans c.2.1, (h.cell (p := ⟨k, _, none⟩) hk).trans c.2.2⟩, ⟨(h.cell (p := ⟨k', _, none⟩) hk').trans d.1, (h.cell (p := ⟨k', _, none⟩) hk').trans d.2.1, (h.cell (p := ⟨k', _, none⟩) hk').trans d.2.2⟩⟩
        have HIL := hid hil'
        clear c d hil'
        go_wp2_with fail
        go_region_held3 (fun W => (W.cell? ⟨k, o + i * 3, none⟩ = some (.int .i64 v) ∧ W.cell? ⟨k, o + i * 3 + 1, none⟩ = some (.int .i64 t) ∧ W.cell? ⟨k, o + i * 3 + 2, none⟩ = some (.int .i64 y)) ∧ (W.cell? ⟨k', o' + i * 3, none⟩ = some (.int .i64 v') ∧ W.cell? ⟨k', o' + i * 3 + 1, none⟩ = some (.int .i64 t') ∧ W.cell? ⟨k', o' + i * 3 + 2, none⟩ = some (.int .i64 y')))
          (first | exact HS.out _ (bdr HBE.out) | exact HS.out _ HB1.out | exact HS.out _ (bset (bset (bset HB1.out (Nat.le_refl _) _) (Nat.le_refl _) _) (Nat.le_refl _) _))
          ((go_at_call 65; refine (ci.out _).mono ?_; rintro e w1 ⟨rfl, hb1⟩; have HO1 := hid (own_later HO.out (btr (bdr (bre _)) hb1)); have HB1 : Hid (Below w.heap.size w w1) := btr (bdr HBE.out) hb1; have hsp := Ow.spot HO1.out i HIL.out; obtain ⟨x, z, u, hc, hf⟩ := hsp; have HST := hid (Ow.stored HO1.out i HIL.out (v1, t1, b1))))
        go_wp2
        go_roundw
        case rel => exact ⟨i + 1, by omega, by go_num, HST.out.cast (by rw [← hj.out, ← HP.out, ← HQ.out, ← HJ.out]; exact fil_set _ i hij), bset (bset (bset HB1.out (Nat.le_refl _) _) (Nat.le_refl _) _) (Nat.le_refl _) _⟩
        case measure => simp [intOf]; omega
      · have HE : Hid (i = (jl a b).length) := by show _ = _; rw [HJL.out]; omega
        go_wp2
        go_ret
        exact ⟨by rw [HJL.out]; rfl, by rw [HJL.out]; exact HO.out.cast (by rw [HE.out, fil_all]), HBE.out⟩
  · have HJL : Hid ((jl a b).length = nb) := by show _ = _; rw [jl_len, HLA.out, HLB.out]; omega
    have h : (nb : Int) < na := by omega
    have hmn : nb ≤ na := by omega
    obtain ⟨M, hM, hmk⟩ := make_rg nb (by omega)
    go_enter Try.func40, Try.ntmps40
    go_wp2
    clear hmk h
    go_loopw [15] (fun iv wr => ∃ i : Nat, i ≤ nb ∧ iv = .int .i64 (i : Int) ∧ Ow wr w.heap.size (.slice (some ⟨w.heap.size, 0, none⟩) nb nb) (fil (jl a b) i) ∧ Below w.heap.size w wr) (fun iv _ => nb - (intOf iv).toNat)
    case atStart => exact ⟨0, Nat.zero_le _, rfl, by rw [fil_zero, HJL.out]; exact hM.out w, bpush (bre _) _⟩
    case round =>
      obtain ⟨i, hi, rfl, hown, hbe⟩ := hrel
      have HO := hid hown
      have HBE := hid hbe
      clear hown hbe
      by_cases hlt : i < nb
      · have hia : i < a.length := by rw [HLA.out]; omega
        have hib : i < b.length := by rw [HLB.out]; omega
        have hij : i < (jl a b).length := by rw [HJL.out]; exact hlt
        obtain ⟨k, o, rfl, hk, c⟩ := HA.out.at hia
        obtain ⟨k', o', rfl, hk', d⟩ := HB.out.at hib
        have HJ := hid (jl_at a b i hij hia hib)
        obtain ⟨p, hp⟩ : ∃ p, a[i] = p := ⟨_, rfl⟩
        obtain ⟨q, hq⟩ : ∃ q, b[i] = q := ⟨_, rfl⟩
        rw [hp] at c
        rw [hq] at d
        have HP := hid hp
        have HQ := hid hq
        clear hp hq
        obtain ⟨v, t, y⟩ := p
        obtain ⟨v', t', y'⟩ := q
        obtain ⟨v1, t1, b1, hj, ci⟩ := join_i v t y v' t' y'
        have hI : (0 : Int) ≤ (i : Int) ∧ (i : Int) < (na : Int) := by omega
        have hI' : (0 : Int) ≤ (i : Int) ∧ (i : Int) < (nb : Int) := by omega
        have hil' : i < (fil (jl a b) i).length := by rw [fil_len _ _ (by omega)]; exact hij
        have HS : Hid (∀ W, Below w.heap.size w W → (W.cell? ⟨k, o + i * 3, none⟩ = some (.int .i64 v) ∧ W.cell? ⟨k, o + i * 3 + 1, none⟩ = some (.int .i64 t) ∧ W.cell? ⟨k, o + i * 3 + 2, none⟩ = some (.int .i64 y)) ∧ (W.cell? ⟨k', o' + i * 3, none⟩ = some (.int .i64 v') ∧ W.cell? ⟨k', o' + i * 3 + 1, none⟩ = some (.int .i64 t') ∧ W.cell? ⟨k', o' + i * 3 + 2, none⟩ = some (.int .i64 y'))) :=
          fun W h => ⟨⟨(h.cell (p := ⟨k, _, none⟩) hk).trans c.1, (h.cell (p := ⟨k, _, none⟩) hk).trans c.2.1, (h.cell (p := ⟨k, _, none⟩) hk).trans c.2.2⟩, ⟨(h.cell (p := ⟨k', _, none⟩) hk').trans d.1, (h.cell (p := ⟨k', _, none⟩) hk').trans d.2.1, (h.cell (p := ⟨k', _, none⟩) hk').trans d.2.2⟩⟩
        have HIL := hid hil'
        clear c d hil'
        go_wp2_with fail
        go_region_held3 (fun W => (W.cell? ⟨k, o + i * 3, none⟩ = some (.int .i64 v) ∧ W.cell? ⟨k, o + i * 3 + 1, none⟩ = some (.int .i64 t) ∧ W.cell? ⟨k, o + i * 3 + 2, none⟩ = some (.int .i64 y)) ∧ (W.cell? ⟨k', o' + i * 3, none⟩ = some (.int .i64 v') ∧ W.cell? ⟨k', o' + i * 3 + 1, none⟩ = some (.int .i64 t') ∧ W.cell? ⟨k', o' + i * 3 + 2, none⟩ = some (.int .i64 y')))
          (first | exact HS.out _ (bdr HBE.out) | exact HS.out _ HB1.out | exact HS.out _ (bset (bset (bset HB1.out (Nat.le_refl _) _) (Nat.le_refl _) _) (Nat.le_refl _) _))
          ((go_at_call 65; refine (ci.out _).mono ?_; rintro e w1 ⟨rfl, hb1⟩; have HO1 := hid (own_later HO.out (btr (bdr (bre _)) hb1)); have HB1 : Hid (Below w.heap.size w w1) := btr (bdr HBE.out) hb1; have hsp := Ow.spot HO1.out i HIL.out; obtain ⟨x, z, u, hc, hf⟩ := hsp; have HST := hid (Ow.stored HO1.out i HIL.out (v1, t1, b1))))
        go_wp2
        go_roundw
        case rel => exact ⟨i + 1, by omega, by go_num, HST.out.cast (by rw [← hj.out, ← HP.out, ← HQ.out, ← HJ.out]; exact fil_set _ i hij), bset (bset (bset HB1.out (Nat.le_refl _) _) (Nat.le_refl _) _) (Nat.le_refl _) _⟩
        case measure => simp [intOf]; omega
      · have HE : Hid (i = (jl a b).length) := by show _ = _; rw [HJL.out]; omega
        go_wp2
        go_ret
        exact ⟨by rw [HJL.out]; rfl, by rw [HJL.out]; exact HO.out.cast (by rw [HE.out, fil_all]), HBE.out⟩
end Go.Proofs.Ytldcmfkmnjdfiaa

namespace Go.Proofs.Ytldcmfkmnjdfiaa
open Go.RowKit

theorem run_copy_rows {P : Program} (w : World) (dT sT ty elem : TypeId) (g n dCap : Nat) (a : Addr) (sCap size : Nat) (cur : Array Value) (t : TypeId) (cs : List Value)
    (hu : P.underlying dT = some (.slice elem)) (hs : (P.info? elem).map (·.size) = some size)
    (hg : w.heap[g]? = some (.cells cur t (0, 0))) (hn : cs.length = n * size)
    (hsrc : ∀ j v, cs[j]? = some v → w.cell? (a.add j) = some v) (hfit : cs.length ≤ cur.size) (h1 : ∀ v ∈ cs, v.oneCell' = true) :
    (Builtin.copy_ #[dT, sT] ty #[.slice (some ⟨g, 0, none⟩) n dCap, .slice (some a) n sCap]).run P w =
      .ok (goInt n) (w.setRow g (cs ++ cur.toList.drop cs.length).toArray) := by
  have hl := run_loadCells_list (P := P) w a cs hsrc
  have hst := run_storeCells_at P g 0 t cs 0 cur w hg (by simpa using hfit) h1
  rw [hn] at hl
  cases hq : P.info? elem with
  | none => simp [hq] at hs
  | some i =>
    have hi : i.size = size := by simpa [hq] using hs
    simp [Builtin.copy_, run_underlying hu, Builtin.lenOf, Builtin.firstCells, sizeOf, typeInfo, hq, hi, hl, hst]
theorem run_copy_zero {P : Program} (w : World) (dT sT ty elem : TypeId) (d a : Option Addr) (dCap sCap size : Nat) (hu : P.underlying dT = some (.slice elem)) (hs : (P.info? elem).map (·.size) = some size) :
    (Builtin.copy_ #[dT, sT] ty #[.slice d 0 dCap, .slice a 0 sCap]).run P w = .ok (goInt 0) w := by
  cases hq : P.info? elem with
  | none => simp [hq] at hs
  | some i =>
    have hl : ∀ (x : Addr), (loadCells x 0).run P w = .ok #[] w := fun x => by simpa using run_loadCells_list (P := P) w x [] (by simp)
    cases d <;> cases a <;> simp [Builtin.copy_, run_underlying hu, Builtin.lenOf, Builtin.firstCells, sizeOf, typeInfo, hq, storeCells, hl]
theorem size_rg : (Try.prog.info? 49).map (·.size) = some 3 := by kernel_rfl

theorem addr_add (k o j : Nat) : (⟨k, o, none⟩ : Addr).add j = ⟨k, o + j, none⟩ := by unfold Addr.add; split <;> simp_all

/-- The cells of a row, one by one. -/
theorem Row.all {W : World} {k o : Nat} {l : List R3} (h : Row W k o l) : ∀ j u, (fl l)[j]? = some u → W.cell? ((⟨k, o, none⟩ : Addr).add j) = some u := by
  intro j u hu
  rw [addr_add]
  have hj : j < (fl l).length := (List.getElem?_eq_some_iff.1 hu).1
  rw [fl_len] at hj
  have hi : j / 3 < l.length := by omega
  have e := fl_at l (j / 3) hi
  have c := h (j / 3) hi
  have h3 : j % 3 = 0 ∨ j % 3 = 1 ∨ j % 3 = 2 := by omega
  rcases h3 with h3 | h3 | h3
  · have ej : j = j / 3 * 3 := by omega
    rw [← ej] at e c
    rw [← hu, e.1]; exact c.1
  · have ej : j = j / 3 * 3 + 1 := by omega
    rw [Nat.add_assoc, ← ej] at c
    rw [← ej] at e
    rw [← hu, e.2.1]; exact c.2.1
  · have ej : j = j / 3 * 3 + 2 := by omega
    rw [Nat.add_assoc o _ 2, ← ej] at c
    rw [← ej] at e
    rw [← hu, e.2.2]; exact c.2.2

theorem wpList_copy_rg {w : World} {ops : Array Oper} {rest : List Oper} {o : Oper} {a : Act} {Q : Exit → Act → World → Prop} (hgd : o.guard = none) (d s : Operand)
    (ho : o.op = .call { callee := .builtin .copy, args := #[d, s], argTypes := #[24, 24] }) (g n ca : Nat) (ao : Option Addr) (B : Nat) (l0 l : List R3)
    (hd : a.eval d = .slice (some ⟨g, 0, none⟩) n n) (hs : a.eval s = .slice ao n ca) (hn : n = l.length) (hown : Ow w B (.slice (some ⟨g, 0, none⟩) n n) l0) (hr : Rs w ao l)
    (h : ∀ w', Ow w' B (.slice (some ⟨g, 0, none⟩) n n) l → w.grownBy w' (some g) → wpList Try.prog ops Q rest (a.put o.dst (goInt n)) w') :
    wpList Try.prog ops Q (o :: rest) a w := by
  refine wpList_plain hgd fun K hK => ?_
  have hl0 : l0.length = n := ((Ow.rs hown).1).symm
  by_cases h0 : n = 0
  · have hrun := run_copy_zero (P := Try.prog) w 24 24 o.type 49 (some ⟨g, 0, none⟩) ao 0 ca 3 Try.underlying24 size_rg
    subst h0
    have e0 : l0 = l := by rw [List.eq_nil_of_length_eq_zero hl0, List.eq_nil_of_length_eq_zero hn.symm]
    unfold Oper.wp
    simp [execOp, ho, resolve, invoke, builtin, hd, hs, hrun, Result.andThen]
    exact hK _ _ (h w (hown.cast e0) (wre _ _))
  · obtain ⟨k, o', rfl, hk, hrow⟩ := hr (by omega)
    rcases hown.2 with ⟨h1, _⟩ | ⟨g', cap, cur, h1, h2, h3, h4, h5, h6, h7⟩
    · simp at h1
    · simp only [Value.slice.injEq, Option.some.injEq, Addr.mk.injEq, and_true] at h1
      obtain ⟨rfl, _, rfl⟩ := h1
      have hcur : cur.size = n * 3 := h6
      have hrun := run_copy_rows (P := Try.prog) w 24 24 o.type 49 g n n ⟨k, o', none⟩ ca 3 cur 49 (fl l) Try.underlying24 size_rg h3 (by rw [fl_len, hn]) hrow.all (by rw [fl_len, hcur, hn]; omega) (fl_one l)
      have hd0 : cur.toList.drop (fl l).length = [] := List.drop_eq_nil_of_le (by rw [Array.length_toList, hcur, fl_len, hn]; omega)
      rw [hd0, List.append_nil] at hrun
      unfold Oper.wp
      simp [execOp, ho, resolve, invoke, builtin, hd, hs, hrun, Result.andThen]
      refine hK _ _ (h _ ⟨fl_len l, .inr ⟨g, n, (fl l).toArray, by rw [hn], h2, setRow_heap w g cur _ _ _ h3, by omega, h5, by simp [fl_len, hn], ?_⟩⟩ ⟨rfl, rfl, rfl, by simp [World.setRow], fun k _ hk => setRow_other w g k _ (fun e => hk (by simp [e]))⟩)
      exact List.take_of_length_le (by simp [fl_len])

set_option maxHeartbeats 400000 in
theorem l04Copy_any (ao : Option Addr) (n cap : Nat) (l : List R3) (w : World) (hl : l.length = n) (hn : n ≤ 1048576) (hr : Rs w ao l) (h0 : ao = none → cap = 0) :
    Calls Try.prog 67 #[.slice ao n cap] w fun e w' => ∃ v, e = .returned v ∧ Ow w' w.heap.size v l ∧ Below w.heap.size w w' := by
  have HR := hid hr
  have HL := hid hl
  have HN := hid hn
  clear hr hl hn
  cases ao with
  | none =>
    have hn0 : n = 0 := by
      by_cases h : 0 < n
      · obtain ⟨_, _, h1, _⟩ := HR.out (by rw [HL.out]; exact h)
        cases h1
      · omega
    subst hn0
    obtain rfl := h0 rfl
    have hle : l = [] := List.eq_nil_of_length_eq_zero HL.out
    subst hle
    clear h0
    go_enter Try.func67, Try.ntmps67
    go_wp2
    go_ret
    exact ⟨_, rfl, own_empty w _ (Nat.le_refl _), bpush (bre _) _⟩
  | some ad =>
    clear h0
    obtain ⟨i0, hi, hz0, hz1, hz2⟩ := info_parts3 info_rg
    have HSRC : Hid (∀ j u, (fl l)[j]? = some u → (w.alloc (.cells #[] 49)).cell? (ad.add j) = some u) := by
      intro j u hu
      have hj : j < (fl l).length := (List.getElem?_eq_some_iff.1 hu).1
      rw [fl_len] at hj
      obtain ⟨k, o, h1, h2, h3⟩ := (HR.out.later (bpush (bre _) _)) (by omega)
      simp only [Option.some.injEq] at h1
      subst h1
      exact h3.all j u hu
    go_enter Try.func67, Try.ntmps67
    go_wp2_with (at_builtin; refine wpList_append_own _ rfl (.tmp 3) (.tmp 4) 24 rfl w.heap.size 49 i0 _ 3 24 Try.underlying24 hi hz0 hz1 hz2 rfl (by decide) _ 0 [] (by rfl) (own_empty w _ (Nat.le_refl _)) ad n cap (fl l) (by rfl) (by rw [fl_len, HL.out]) HSRC.out (fl_one l) (by have := HN.out; unfold maxLen; omega) (by have := HN.out; omega) (by simp) ?_; intro v1 w1 hown1 hg1 _)
    go_ret
    exact ⟨_, rfl, by simpa [Ow, HL.out] using hown1, (bpush (bre _) _).grown hg1 (by simp) (by intro k hk; simp [Value.ownBlock] at hk; omega)⟩
end Go.Proofs.Ytldcmfkmnjdfiaa

namespace Go.Proofs.Ytldcmfkmnjdfiaa
open Go.RowKit

/-- A register that is put; one flag that is set; all of them. -/
def pp (p : R3) (m t b : Int) : R3 := if (rgOk m t b && later t b p.2.1 p.2.2) = true then (m, t, b) else p
def sp (n t b : Int) (i : Nat) (p : R3) : R3 := if bit n i = p.1 then p else pp p (bit n i) t b
def sl (l : List R3) (n t b : Int) : List R3 := if (flOk l && decide (0 ≤ n ∧ n ≤ 7)) = true then l.mapIdx (sp n t b) else l

theorem sl_len (l : List R3) (n t b : Int) : (sl l n t b).length = l.length := by unfold sl; split <;> simp
/-- A list of which the first i flags are set. -/
def sfil (l : List R3) (n t b : Int) (i : Nat) : List R3 := l.mapIdx fun j p => if j < i then sp n t b j p else p
theorem sfil_len (l : List R3) (n t b : Int) (i : Nat) : (sfil l n t b i).length = l.length := by simp [sfil]
theorem sfil_zero (l : List R3) (n t b : Int) : sfil l n t b 0 = l := by
  unfold sfil; apply List.ext_getElem
  · simp
  · intro j h1 h2; simp
theorem sfil_at (l : List R3) (n t b : Int) (i : Nat) (h : i < l.length) (h' : i < (sfil l n t b i).length) : (sfil l n t b i)[i] = l[i] := by simp [sfil]
theorem sfil_set (l : List R3) (n t b : Int) (i : Nat) (h : i < l.length) : (sfil l n t b i).set i (sp n t b i l[i]) = sfil l n t b (i + 1) := by
  unfold sfil; apply List.ext_getElem
  · simp
  · intro j h1 h2
    simp only [List.getElem_set, List.getElem_mapIdx]
    by_cases hj : i = j
    · subst hj; simp
    · rw [if_neg hj]
      by_cases hji : j < i
      · rw [if_pos hji, if_pos (by omega)]
      · rw [if_neg hji, if_neg (by omega)]
theorem sfil_same (l : List R3) (n t b : Int) (i : Nat) (h : i < l.length) (hb : bit n i = l[i].1) : sfil l n t b i = sfil l n t b (i + 1) := by
  rw [← sfil_set l n t b i h]
  have e : sp n t b i l[i] = (sfil l n t b i)[i]'(by rw [sfil_len]; exact h) := by
    rw [sfil_at l n t b i h]; unfold sp; rw [if_pos hb]
  rw [e, List.set_getElem_self]
theorem sfil_all (l : List R3) (n t b : Int) (hok : flOk l = true) (hn : 0 ≤ n ∧ n ≤ 7) (hl : l.length = 3) : sfil l n t b 3 = sl l n t b := by
  unfold sl sfil
  rw [if_pos (by simp [hok, hn])]
  apply List.ext_getElem
  · simp
  · intro j h1 h2
    have : j < 3 := by simpa [hl] using h2
    simp [this]
theorem sl_not (l : List R3) (n t b : Int) (h : ¬ (flOk l = true ∧ 0 ≤ n ∧ n ≤ 7)) : sl l n t b = l := by
  unfold sl; rw [if_neg]; intro hc; apply h; simpa [Bool.and_eq_true, decide_eq_true_eq] using hc
theorem flOk_len {l : List R3} (h : flOk l = true) : l.length = 3 := by
  unfold flOk at h; simp at h; exact h.1

theorem Ow.here {W : World} {B g n c : Nat} {l : List R3} (h : Ow W B (.slice (some ⟨g, 0, none⟩) n c) l) (i : Nat) (hi : i < l.length) (p : R3) (hp : l[i] = p) :
    (W.cell? ⟨g, i * 3, none⟩ = some (.int .i64 p.1) ∧ W.cell? ⟨g, i * 3 + 1, none⟩ = some (.int .i64 p.2.1) ∧ W.cell? ⟨g, i * 3 + 2, none⟩ = some (.int .i64 p.2.2)) ∧ W.frozen? ⟨g, i * 3, none⟩ = false ∧ W.frozen? ⟨g, i * 3 + 1, none⟩ = false ∧ W.frozen? ⟨g, i * 3 + 2, none⟩ = false := by
  subst hp
  obtain ⟨rfl, hr⟩ := Ow.rs h
  obtain ⟨k, o, e, _, c1, c2, c3⟩ := hr.at hi
  simp only [Option.some.injEq, Addr.mk.injEq, and_true] at e
  obtain ⟨rfl, rfl⟩ := e
  simp only [Nat.zero_add] at c1 c2 c3
  exact ⟨⟨c1, c2, c3⟩, World.ownsRow.frozenAt h _, World.ownsRow.frozenAt h _, World.ownsRow.frozenAt h _⟩

theorem Ow.solid {W : World} {B : Nat} {v : Value} {l : List R3} (h : Ow W B v l) (hl : 0 < l.length) : ∃ g c, v = .slice (some ⟨g, 0, none⟩) l.length c ∧ B ≤ g := by
  rcases h.2 with ⟨h1, h2⟩ | ⟨g, cap, cur, h1, h2, _⟩
  · omega
  · exact ⟨g, cap, h1, h2⟩
theorem bit_tmod {m : Int} {i : Nat} {q : Int} (hq : m / 2 ^ i = q) (h0 : 0 ≤ q) : q.tmod 2 = bit m i := by
  unfold bit; rw [hq, Int.tmod_eq_emod_of_nonneg h0]

end Go.Proofs.Ytldcmfkmnjdfiaa

namespace Go.Proofs.Ytldcmfkmnjdfiaa
open Go.RowKit

/-- A drawn flag: 0 or 1, its stamp right. -/
def gd (p : R3) : Prop := (0 ≤ p.1 ∧ p.1 < 2) ∧ 0 ≤ p.2.1 ∧ p.2.1 < 12 ∧ 1 ≤ p.2.2 ∧ p.2.2 ≤ 2

theorem Ow.keep {W W' : World} {B cb : Nat} {v : Value} {l : List R3} (h : Ow W B v l) (hg : W.grownBy W' (some cb)) (hc : cb < B) : Ow W' B v l :=
  World.ownsRow.kept h hg (by
    cases hv : v.ownBlock with
    | none => exact Or.inl rfl
    | some k => right; have := (World.ownsRow.lt h k hv).1; intro e; simp at e; omega)

theorem Sg.same {W W' : World} {k ty : Nat} {t b : Int} (h : Sg W k ty t b) (e : W'.heap[k]? = W.heap[k]?) : Sg W' k ty t b := e.trans h

/-- One register appended, as one step of a region that draws its order; what it leaves alone. -/
theorem step_append_rg2 {ops : Array Oper} {o : Oper} {a : Act} {w : World} {K : Act → World → Prop} {Q : Exit → Act → World → Prop} {E : Prop}
    (hg : o.guard = none) (s x : Operand) (hop : o.op = Op.call { callee := Callee.builtin Builtin.append, args := #[s, x], argTypes := #[24, 24] })
    (base : Nat) (v : Value) (l : List R3) (hs : a.eval s = v) (p q r : Int) (hown : Ow w base v l)
    (hx : a.eval x = .slice (some ⟨w.heap.size, 0, none⟩) 1 1) (hlen : l.length ≤ 1048576) (hbase : base ≤ w.heap.size)
    (hK : ∀ v' w', Ow w' base v' (l ++ [(p, q, r)]) → Below base w w' → (∀ k, k < w.heap.size → some k ≠ v.ownBlock → w'.heap[k]? = w.heap[k]?) → K (a.put o.dst v') w') :
    if Region.wanted o (yielded ops a.tmps) = true then Oper.wp Try.prog o a (w.alloc (.cells #[.int .i64 p, .int .i64 q, .int .i64 r] 49)) K Q else E := by
  have hw : Region.wanted o (yielded ops a.tmps) = true := by simp [Region.wanted, hg]
  rw [if_pos hw]
  obtain ⟨i0, hi, hz0, hz1, hz2⟩ := info_parts3 info_rg
  refine wp_append_own _ s x 24 hop base 49 i0 _ 3 24 Try.underlying24 hi hz0 hz1 hz2 rfl (by decide) v _ _ hs (hown.alloc _) ⟨w.heap.size, 0, none⟩ 1 1 (fl [(p, q, r)]) hx rfl (cells_new3 w (p, q, r) 49) (fl_one _) (by unfold maxLen; omega) (by omega) (by simp; omega) ?_
  intro v' w' hown' hgr _
  refine hK v' w' ?_ (((Below.refl base w).alloc hbase _).grown hgr (by simp; omega) (fun k hk => (hown.lt k hk).1)) (fun k hk hne => (hgr.block k (by simp; omega) hne).trans (Below.heap_alloc w _ k hk))
  unfold Ow; rw [fl_app]; simpa using hown'

set_option maxHeartbeats 800000 in
set_option maxRecDepth 100000 in
theorem l04Flags_any (cb : Nat) (ao : Option Addr) (n cap : Nat) (w : World) (hn : n ≤ 1048576) (hcur : Cur w cb ao n cap) (hcode : Code w cb ao n) :
    Calls Try.prog 70 #[.pointer (some ⟨cb, 0, none⟩)] w fun e w' => ∃ (v : Value) (l : List R3), l.length = 3 ∧ (∀ p ∈ l, gd p) ∧ e = .returned v ∧ Ow w' w.heap.size v l ∧ Cur w' cb ao n cap ∧ w.grownBy w' (some cb) := by
  have hlt := hcur.lt
  have HC := hid hcur
  have HO := hid hcode
  clear hcur hcode
  go_enter Try.func70, Try.ntmps70
  go_wp2
  go_loopw [3, 4] (fun vv iv wr => ∃ l : List R3, l.length ≤ 3 ∧ iv = .int .i64 (l.length : Int) ∧ (∀ p ∈ l, gd p) ∧ Ow wr w.heap.size vv l ∧ Cur wr cb ao n cap ∧ w.grownBy wr (some cb)) (fun _ iv _ => 3 - (intOf iv).toNat)
  case atStart => exact ⟨[], by decide, rfl, by simp, own_empty w _ (Nat.le_refl _), HC.out.alloc _, World.grownBy_alloc _ _ _⟩
  case round =>
    obtain ⟨l, hl3, rfl, hgd, hown, hcur, hg⟩ := hrel
    have HGD := hid hgd
    have HOW := hid hown
    have HCU := hid hcur
    have HG := hid hg
    obtain ⟨i, hi⟩ : ∃ i, l.length = i := ⟨_, rfl⟩
    have HI := hid hi
    rw [hi] at hl3 ⊢
    clear hgd hown hcur hg hi
    by_cases h3 : i < 3
    · go_wp2_with fail
      refine (l03Stamp_any cb ao n cap _ hn HCU.out (HO.out.later HG.out)).mono ?_; rintro e w1 ⟨t, b, htb, rfl, hc1, hg1⟩
      have HTB := hid htb
      obtain ⟨W1, hW1⟩ : ∃ W1, w1.alloc (.cells #[.int .i64 t, .int .i64 b] 47) = W1 := ⟨_, rfl⟩
      have A1 : Hid (Sg W1 w1.heap.size 47 t b) := by subst hW1; exact Sg.new w1 _ t b
      have O1 : Hid (Ow W1 w.heap.size u3 l) := by subst hW1; exact own_later (Ow.keep HOW.out hg1 hlt) (bpush (bre _) _)
      have C1 : Hid (Cur W1 cb ao n cap) := by subst hW1; exact hc1.alloc _
      have G1 : Hid (w.grownBy W1 (some cb)) := by subst hW1; exact gal (only_trans HG.out hg1) _
      have HOB : Hid (∀ k, u3.ownBlock = some k → k < w1.heap.size) := fun k hk => (World.ownsRow.lt (Ow.keep HOW.out hg1 hlt) k hk).2
      have HS1 : Hid (w.heap.size ≤ w1.heap.size) := (only_trans HG.out hg1).size
      clear hc1 hg1 htb
      go_wp2_with fail
      clear hW1
      go_region_held3 (fun W => W.cell? ⟨w1.heap.size, 0, none⟩ = some (.int .i64 t) ∧ W.cell? ⟨w1.heap.size, 1, none⟩ = some (.int .i64 b))
        (first | exact A1.out.cells | exact SG2.out.cells | exact (SG2.out.later (bpush (bre _) _)).cells | exact SG3.out.cells)
        ((first
          | (go_at_call 28; refine (below4 cb ao n cap _ hn C1.out.drew (HO.out.later (gdr G1.out)) 2 (by decide) (by decide)).mono ?_; rintro e w2 ⟨x, hx, rfl, hc2, hg2⟩; have SG2 : Hid (Sg w2 w1.heap.size 47 t b) := Sg.kept (W := W1.drew) A1.out hg2 (by have := HS1.out; omega); have O2 : Hid (Ow w2 w.heap.size u3 l) := Ow.keep (W := W1.drew) O1.out hg2 hlt; have HG2 : Hid (w.grownBy w2 (some cb)) := only_trans (gdr G1.out) hg2; have HX := hid hx)
          | (refine step_append_rg2 rfl (.tmp 13) (.tmp 18) rfl w.heap.size _ _ (by rfl) x t b O2.out (by rfl) (by rw [HI.out]; omega) HG2.out.size ?_; intro v3 w3 hown3 hb3 hk3; have SG3 : Hid (Sg w3 w1.heap.size 47 t b) := Sg.same SG2.out (hk3 _ SG2.out.lt (fun e => by have := HOB.out _ e.symm; omega)))))
      all_goals
        go_wp2
        go_roundw
        case rel => exact ⟨l ++ [((x : Int), t, b)], by rw [List.length_append, HI.out]; simp; omega, by rw [List.length_append, HI.out]; go_num, by intro p hp; rw [List.mem_append] at hp; rcases hp with hp | hp; exact HGD.out p hp; simp at hp; subst hp; exact ⟨by have := HX.out; omega, HTB.out⟩, hown3, hc2.later hb3 hlt, only_add HG2.out hb3⟩
        case measure => simp [intOf]; omega
    · have HE : Hid (l.length = 3) := by show _ = _; rw [HI.out]; omega
      go_wp2
      go_ret
      exact ⟨_, l, HE.out, HGD.out, rfl, HOW.out, HCU.out, HG.out⟩
end Go.Proofs.Ytldcmfkmnjdfiaa

namespace Go.Proofs.Ytldcmfkmnjdfiaa
open Go.RowKit

theorem Ow.solid' {W : World} {B : Nat} {v : Value} {l : List R3} (h : Ow W B v l) (hl : 0 < l.length) : ∃ g c, v = .slice (some ⟨g, 0, none⟩) l.length c ∧ B ≤ g ∧ l.length ≤ c ∧ (c : Int) ≤ 9223372036854775807 := by
  rcases h.2 with ⟨h1, h2⟩ | ⟨g, cap, cur, h1, h2, h3, h4, h5, _⟩
  · omega
  · exact ⟨g, cap, h1, h2, h4, by unfold maxLen at h5; omega⟩

/-- What is drawn as a list: a slice, and the registers in it. -/
def Dl (W : World) (B : Nat) (v : Value) (l : List R3) : Prop := ∃ (a : Option Addr) (c : Nat), v = .slice a l.length c ∧ l.length ≤ 4 ∧ l.length ≤ c ∧ (a = none → c = 0) ∧ Rs W a l ∧ ∀ x, a = some x → B ≤ x.block
theorem Dl.of {W : World} {B B' : Nat} {v : Value} {l : List R3} (h : Ow W B v l) (h0 : 0 < l.length) (h4 : l.length ≤ 4) (hB : B' ≤ B) : Dl W B' v l := by
  obtain ⟨g, c, rfl, hg, hc, _⟩ := h.solid' h0
  exact ⟨_, c, rfl, h4, hc, (by intro e; cases e), (Ow.rs h).2, by intro x e; simp at e; subst e; exact Nat.le_trans hB hg⟩
theorem Dl.later {W W' : World} {B : Nat} {v : Value} {l : List R3} (h : Dl W B v l) (hb : Below W.heap.size W W') : Dl W' B v l := by
  obtain ⟨a, c, h1, h2, h3, h4, h5, h6⟩ := h
  exact ⟨a, c, h1, h2, h3, h4, h5.later hb, h6⟩
theorem Dl.set {W : World} {B k o : Nat} {u v : Value} {l : List R3} (h : Dl W B v l) (hk : k < B) : Dl (W.setCell ⟨k, o, none⟩ u) B v l := by
  obtain ⟨a, c, h1, h2, h3, h4, h5, h6⟩ := h
  exact ⟨a, c, h1, h2, h3, h4, h5.grown (only_set (cb := k)) (fun x e => by have := h6 x e; omega), h6⟩
theorem Code.over {w W : World} {n : Nat} {ao : Option Addr} (h : Code w w.heap.size ao n) (hb : Below w.heap.size w W) : Code W W.heap.size ao n := by
  intro hn
  obtain ⟨b, off, h1, h2, h3⟩ := h hn
  refine ⟨b, off, h1, Nat.lt_of_lt_of_le h2 hb.size, fun j hj => ?_⟩
  obtain ⟨z, hz, hc⟩ := h3 j hj
  exact ⟨z, hz, (hb.cell (p := ⟨b, off + j, none⟩) h2).trans hc⟩
theorem Row.tail {W : World} {k o : Nat} {p : R3} {l : List R3} (h : Row W k o (p :: l)) : Row W k (o + 3) l := by
  intro i hi
  have := h (i + 1) (by simpa using hi)
  rw [show o + (i + 1) * 3 = o + 3 + i * 3 by omega] at this
  simpa using this
theorem eq_false' {x y : Int} (h : x ≠ y) : (x == y) = false := by simpa using h

set_option maxHeartbeats 1600000 in
set_option maxRecDepth 100000 in
theorem l04Any_any (cb : Nat) (ao : Option Addr) (n cap : Nat) (w : World) (hn : n ≤ 1048576) (hcur : Cur w cb ao n cap) (hcode : Code w cb ao n) :
    Calls Try.prog 48 #[.pointer (some ⟨cb, 0, none⟩)] w fun e w' => ∃ (v : Value) (l : List R3), e = .returned v ∧ Dl w' w.heap.size v l ∧ Cur w' cb ao n cap ∧ w.grownBy w' (some cb) := by
  have hlt := hcur.lt
  have HC := hid hcur
  have HO := hid hcode
  clear hcur hcode
  go_enter Try.func48, Try.ntmps48
  go_wp2_with fail
  refine (below4 cb ao n cap _ hn HC.out HO.out 10 (by decide) (by decide)).mono ?_; rintro e w1 ⟨x, hx, rfl, hc1, hg1⟩
  have C1 := hid hc1
  have G1 := hid hg1
  clear hc1 hg1
  go_wp2_with fail
  refine (l04Flags_any cb ao n cap _ hn C1.out (HO.out.later G1.out)).mono ?_; rintro e w2 ⟨v, l, hl, _, rfl, hown, hc2, hg2⟩
  have C2 := hid hc2
  have G2 := hid (only_trans G1.out hg2)
  have O2 := hid hown
  have hs1 := G1.out.size
  have hs2 := hg2.size
  have HL := hid hl
  clear hc2 hg2 hown hl
  have D2 := hid (Dl.of O2.out (by rw [HL.out]; decide) (by rw [HL.out]; decide) hs1)
  by_cases h0 : x = 0
  · subst h0
    go_wp2_with (at_builtin; refine wpList_append_rg w2 rfl (.tmp 12) (.tmp 14) rfl w1.heap.size _ _ (by rfl) O2.out _ _ _ rfl (by rw [HL.out]; decide) hs2 ?_; rotate_right; intro v3 w3 hown3 hb3)
    go_ret
    exact ⟨_, _, rfl, Dl.of hown3 (by simp) (by rw [List.length_append, HL.out]; decide) hs1, C2.out.later hb3 (by omega), only_add G2.out (hb3.mono hs1)⟩
  · by_cases h1 : x = 1
    · subst h1
      obtain ⟨g, c, hv, hg, hlc, hcm⟩ := O2.out.solid' (by rw [HL.out]; decide)
      rw [HL.out] at hv hlc
      subst hv
      have DT : Hid (∃ l' : List R3, l'.length = 2 ∧ Dl w2 w.heap.size (.slice (some ⟨g, 3, none⟩) 2 (c - 1)) l') := by
        show ∃ l' : List R3, _
        have hl := HL.out
        match l, hl with
        | p :: l', hl =>
          have hl2 : l'.length = 2 := by simpa using hl
          obtain ⟨k, o, he, hk, hrow⟩ := (Ow.rs O2.out).2 (by simp)
          simp only [Option.some.injEq, Addr.mk.injEq, and_true] at he
          obtain ⟨rfl, rfl⟩ := he
          exact ⟨l', hl2, _, c - 1, by rw [hl2], by omega, by omega, (by intro e; cases e), fun _ => ⟨g, 3, rfl, hk, by simpa using hrow.tail⟩, by intro x e; simp at e; subst e; exact Nat.le_trans hs1 hg⟩
      go_wp2
      go_ret
      obtain ⟨l', _, hd⟩ := DT.out
      exact ⟨_, l', rfl, hd, C2.out, G2.out⟩
    · by_cases h2 : x = 2
      · subst h2
        obtain ⟨g, c, hv, hg, hlc, hcm⟩ := O2.out.solid' (by rw [HL.out]; decide)
        rw [HL.out] at hv hlc
        subst hv
        have HGG := hid hg
        clear hg hlc hcm
        go_wp2_with fail
        refine (below4 cb ao n cap _ hn C2.out (HO.out.later G2.out) 3 (by decide) (by decide)).mono ?_; rintro e w3 ⟨y, hy, rfl, hc3, hg3⟩
        have C3 := hid hc3
        have G3 := hid (only_trans G2.out hg3)
        have O3 := hid (Ow.keep O2.out hg3 (by omega))
        clear hc3 hg3
        go_wp2_with fail
        refine (l03Reg_any cb ao n cap _ hn C3.out (HO.out.later G3.out)).mono ?_; rintro e w4 ⟨v4, t4, b4, rfl, hc4, hg4⟩
        have C4 := hid hc4
        have G4 := hid (only_trans G3.out hg4)
        have O4 := hid (Ow.keep O3.out hg4 (by omega))
        clear hc4 hg4
        have hyl : y < l.length := by rw [HL.out]; omega
        obtain ⟨x1, x2, x3, hc5, hf5⟩ := Ow.spot O4.out y hyl
        have HST := hid (Ow.stored O4.out y hyl (v4, t4, b4))
        have HNE : Hid (g ≠ cb) := by have := HGG.out; show _ ≠ _; omega
        have HWG : Hid (w.heap.size ≤ g) := Nat.le_trans hs1 HGG.out
        clear hyl
        go_wp2
        go_ret
        exact ⟨_, _, rfl, Dl.of HST.out (by simp [HL.out]) (by simp [HL.out]) hs1, ((C4.out.set HNE.out).set HNE.out).set HNE.out, gset (gset (gset G4.out HWG.out _ _) HWG.out _ _) HWG.out _ _⟩
      · go_wp2
        go_ret
        exact ⟨_, l, rfl, D2.out, C2.out, G2.out⟩

end Go.Proofs.Ytldcmfkmnjdfiaa

namespace Go.Proofs.Ytldcmfkmnjdfiaa
open Go.RowKit

theorem jp_iff (p q : R3) : jp p q = if (p.2.1 = q.2.1 ∧ p.2.2 = q.2.2 ∧ p.1 < q.1) ∨ p.2.1 < q.2.1 ∨ (p.2.1 = q.2.1 ∧ p.2.2 < q.2.2) then q else p := by
  unfold jp
  by_cases h : cb q.1 q.2.1 q.2.2 p.1 p.2.1 p.2.2 = true
  · rw [if_pos h, if_pos (by have := cb_iff.1 h; omega)]
  · rw [if_neg h, if_neg (fun k => h (cb_iff.2 (by omega)))]
theorem r3_ext {p q : R3} (h1 : p.1 = q.1) (h2 : p.2.1 = q.2.1) (h3 : p.2.2 = q.2.2) : p = q := Prod.ext h1 (Prod.ext h2 h3)
theorem jp_comm (p q : R3) : jp p q = jp q p := by
  rw [jp_iff, jp_iff]
  split
  · rw [if_neg (by omega)]
  · split
    · rfl
    · exact r3_ext (by omega) (by omega) (by omega)
theorem jp_again (p q : R3) : jp (jp p q) p = jp p q := by
  by_cases h : (p.2.1 = q.2.1 ∧ p.2.2 = q.2.2 ∧ p.1 < q.1) ∨ p.2.1 < q.2.1 ∨ (p.2.1 = q.2.1 ∧ p.2.2 < q.2.2)
  · have e : jp p q = q := by rw [jp_iff, if_pos h]
    rw [e, jp_iff, if_neg (by omega)]
  · have e : jp p q = p := by rw [jp_iff, if_neg h]
    rw [e, jp_iff, if_neg (by omega)]
theorem jp_assoc (p q r : R3) : jp (jp p q) r = jp p (jp q r) := by
  by_cases h1 : (p.2.1 = q.2.1 ∧ p.2.2 = q.2.2 ∧ p.1 < q.1) ∨ p.2.1 < q.2.1 ∨ (p.2.1 = q.2.1 ∧ p.2.2 < q.2.2)
  · have e1 : jp p q = q := by rw [jp_iff, if_pos h1]
    by_cases h2 : (q.2.1 = r.2.1 ∧ q.2.2 = r.2.2 ∧ q.1 < r.1) ∨ q.2.1 < r.2.1 ∨ (q.2.1 = r.2.1 ∧ q.2.2 < r.2.2)
    · have e2 : jp q r = r := by rw [jp_iff, if_pos h2]
      rw [e1, e2, jp_iff p r, if_pos (by omega)]
    · have e2 : jp q r = q := by rw [jp_iff, if_neg h2]
      rw [e1, e2, e1]
  · have e1 : jp p q = p := by rw [jp_iff, if_neg h1]
    by_cases h2 : (q.2.1 = r.2.1 ∧ q.2.2 = r.2.2 ∧ q.1 < r.1) ∨ q.2.1 < r.2.1 ∨ (q.2.1 = r.2.1 ∧ q.2.2 < r.2.2)
    · have e2 : jp q r = r := by rw [jp_iff, if_pos h2]
      rw [e1, e2]
    · have e2 : jp q r = q := by rw [jp_iff, if_neg h2]
      rw [e1, e2, e1, jp_iff p r, if_neg (by omega)]
theorem jp_or (p q : R3) : jp p q = p ∨ jp p q = q := by unfold jp; split <;> simp
theorem jp_gd {p q : R3} (hp : gd p) (hq : gd q) : gd (jp p q) := by rcases jp_or p q with e | e <;> rw [e] <;> assumption
theorem gd_ok {p : R3} (h : gd p) : okp p = true := by
  obtain ⟨⟨h1, h2⟩, h3, h4, h5, h6⟩ := h
  simp [okp, rgOk, stOk]; omega

/-- A list of three. -/
theorem three {l : List R3} (h : l.length = 3) : ∃ p q r, l = [p, q, r] := by
  match l, h with
  | [p, q, r], _ => exact ⟨p, q, r, rfl⟩

theorem jl_comm {a b : List R3} (ha : a.length = 3) (hb : b.length = 3) : jl b a = jl a b := by
  obtain ⟨p, q, r, rfl⟩ := three ha
  obtain ⟨p', q', r', rfl⟩ := three hb
  simp only [jl, List.zipWith]
  rw [jp_comm p' p, jp_comm q' q, jp_comm r' r]
theorem jl_again {a b : List R3} (ha : a.length = 3) (hb : b.length = 3) : jl (jl a b) a = jl a b := by
  obtain ⟨p, q, r, rfl⟩ := three ha
  obtain ⟨p', q', r', rfl⟩ := three hb
  simp only [jl, List.zipWith, jp_again]
theorem jl_order {a b c : List R3} (ha : a.length = 3) (hb : b.length = 3) (hc : c.length = 3) : jl a (jl c b) = jl (jl a b) c := by
  obtain ⟨p, q, r, rfl⟩ := three ha
  obtain ⟨p', q', r', rfl⟩ := three hb
  obtain ⟨x, y, z, rfl⟩ := three hc
  simp only [jl, List.zipWith]
  rw [jp_comm x p', jp_comm y q', jp_comm z r', jp_assoc, jp_assoc, jp_assoc]
theorem jl_ok {a b : List R3} (ha : a.length = 3) (hb : b.length = 3) (hga : ∀ p ∈ a, gd p) (hgb : ∀ p ∈ b, gd p) : flOk (jl a b) = true := by
  obtain ⟨p, q, r, rfl⟩ := three ha
  obtain ⟨p', q', r', rfl⟩ := three hb
  simp only [List.mem_cons, List.not_mem_nil, or_false, forall_eq_or_imp, forall_eq] at hga hgb
  simp only [jl, List.zipWith, flOk, List.all_cons, List.all_nil, gd_ok (jp_gd hga.1 hgb.1), gd_ok (jp_gd hga.2.1 hgb.2.1), gd_ok (jp_gd hga.2.2 hgb.2.2)]
  rfl

theorem bit_two (n : Int) (i : Nat) : bit n i = 0 ∨ bit n i = 1 := by unfold bit; omega
theorem sp_is {n : Int} {i : Nat} {p : R3} (h : gd p) : sp n 50 2 i p = p ∧ p.1 = bit n i ∨ sp n 50 2 i p = (bit n i, 50, 2) := by
  unfold sp
  by_cases e : bit n i = p.1
  · left; rw [if_pos e]; exact ⟨rfl, e.symm⟩
  · right
    rw [if_neg e]
    obtain ⟨_, h3, h4, h5, h6⟩ := h
    have h1 : rgOk (bit n i) 50 2 = true := by have := bit_two n i; simp [rgOk, stOk]; omega
    have h2 : later 50 2 p.2.1 p.2.2 = true := later_iff.2 (by omega)
    unfold pp; rw [h1, h2]; rfl
theorem sp_val {n : Int} {i : Nat} {p : R3} (h : gd p) : (sp n 50 2 i p).1 = bit n i := by
  rcases sp_is (n := n) (i := i) h with ⟨e, h1⟩ | e
  · rw [e, h1]
  · rw [e]
theorem sp_join {n : Int} {i : Nat} {p q : R3} (hp : gd p) (hq : gd q) : (jp (sp n 50 2 i (jp p q)) p).1 = bit n i := by
  rcases sp_is (n := n) (i := i) (jp_gd hp hq) with ⟨e, h1⟩ | e
  · rw [e, jp_again, h1]
  · obtain ⟨_, h3, h4, h5, h6⟩ := hp
    rw [e, jp_iff, if_neg (by simp only; omega)]
theorem fof_three (p q r : R3) : fof [p, q, r] 3 = (if p.1 % 2 = 1 then 1 else 0) + (if q.1 % 2 = 1 then 2 else 0) + (if r.1 % 2 = 1 then 4 else 0) := by
  simp [fof]
theorem fof_bits {n : Int} {p q r : R3} (hn : 0 ≤ n ∧ n ≤ 7) (h1 : p.1 = bit n 0) (h2 : q.1 = bit n 1) (h3 : r.1 = bit n 2) : ((fof [p, q, r] 3 : Nat) : Int) = n := by
  rw [fof_three, h1, h2, h3]
  simp only [bit, Int.pow_zero, Int.ediv_one, show (2 : Int) ^ 2 = 4 by rfl, show (2 : Int) ^ 1 = 2 by rfl]
  split <;> split <;> split <;> omega
theorem fof_set {a b : List R3} {n : Int} (ha : a.length = 3) (hb : b.length = 3) (hga : ∀ p ∈ a, gd p) (hgb : ∀ p ∈ b, gd p) (hn : 0 ≤ n ∧ n ≤ 7) : ((fof (sl (jl a b) n 50 2) 3 : Nat) : Int) = n ∧ ((fof (jl (sl (jl a b) n 50 2) a) 3 : Nat) : Int) = n := by
  have hok := jl_ok ha hb hga hgb
  obtain ⟨p, q, r, rfl⟩ := three ha
  obtain ⟨p', q', r', rfl⟩ := three hb
  simp only [List.mem_cons, List.not_mem_nil, or_false, forall_eq_or_imp, forall_eq] at hga hgb
  have e : sl (jl [p, q, r] [p', q', r']) n 50 2 = [sp n 50 2 0 (jp p p'), sp n 50 2 1 (jp q q'), sp n 50 2 2 (jp r r')] := by
    unfold sl
    rw [if_pos (by simp [hok, hn])]
    rfl
  rw [e]
  refine ⟨fof_bits hn (sp_val (jp_gd hga.1 hgb.1)) (sp_val (jp_gd hga.2.1 hgb.2.1)) (sp_val (jp_gd hga.2.2 hgb.2.2)), ?_⟩
  show ((fof [jp _ p, jp _ q, jp _ r] 3 : Nat) : Int) = n
  exact fof_bits hn (sp_join hga.1 hgb.1) (sp_join hga.2.1 hgb.2.1) (sp_join hga.2.2 hgb.2.2)
theorem fof_new {n : Int} (hn : 0 ≤ n ∧ n ≤ 7) : ((fof (fnew n 0 0) 3 : Nat) : Int) = n := fof_bits hn rfl rfl rfl

theorem bdn {B : Nat} {w w1 : World} (h : Below B w w1) (k : Nat) : Below B w (w1.drewN k) := ⟨h.os, h.tape, h.output, h.size, h.block⟩

theorem bigF_no (ao : Option Addr) (n cap : Nat) (w : World) (hn : n ≤ 1048576) : Calls Try.prog 5 #[.slice ao n cap] w fun e w' => e = .returned (.bool false) ∧ w' = w := by
  go_enter Try.func5, Try.ntmps5
  go_wp2
  go_ret
  exact ⟨ret_bool (by simp; omega), rfl⟩
theorem bigF_yes (ao : Option Addr) (n cap : Nat) (w : World) (hn : ¬ n ≤ 1048576) : Calls Try.prog 5 #[.slice ao n cap] w fun e w' => e = .returned (.bool true) ∧ w' = w := by
  go_enter Try.func5, Try.ntmps5
  go_wp2
  go_ret
  exact ⟨ret_bool (by simp; omega), rfl⟩

end Go.Proofs.Ytldcmfkmnjdfiaa

