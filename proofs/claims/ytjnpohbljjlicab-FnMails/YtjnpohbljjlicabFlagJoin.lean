/- Lists of registers joined place by place. -/
import Derived.Test.YtjnpohbljjlicabFlagNew
import Derived.Test.YtjnpohbljjlicabJoin
namespace Go.Proofs.Ytjnpohbljjlicab
open Go.RowKit

/-- Of two registers the one that counts. -/
def jp (p q : R3) : R3 := if cb q.1 q.2.1 q.2.2 p.1 p.2.1 p.2.2 = true then q else p
def jl (a b : List R3) : List R3 := List.zipWith jp a b
theorem jl_len (a b : List R3) : (jl a b).length = min a.length b.length := by simp [jl]
theorem jl_at (a b : List R3) (i : Nat) (h : i < (jl a b).length) (ha : i < a.length) (hb : i < b.length) : (jl a b)[i] = jp a[i] b[i] := by simp [jl]

theorem jreg_jp (v t b v' t' b' : Int) : jreg v t b v' t' b' = rgv (jp (v, t, b) (v', t', b')).1 (jp (v, t, b) (v', t', b')).2.1 (jp (v, t, b) (v', t', b')).2.2 := by
  unfold jreg jp; split <;> rfl
theorem join_s (v t b v' t' b' : Int) : ∃ v1 t1 b1 : Int, Hid (jp (v, t, b) (v', t', b') = (v1, t1, b1)) ∧ Hid (∀ w, Calls Try.prog 61 #[.agg #[.int .i64 v, .int .i64 t, .int .i64 b], .agg #[.int .i64 v', .int .i64 t', .int .i64 b']] w fun e w' => e = .returned (.agg #[.int .i64 v1, .int .i64 t1, .int .i64 b1]) ∧ Below w.heap.size w w') := by
  have e := jreg_jp v t b v' t' b'
  obtain ⟨r, hr⟩ : ∃ r, jp (v, t, b) (v', t', b') = r := ⟨_, rfl⟩
  rw [hr] at e ⊢
  obtain ⟨v1, t1, b1⟩ := r
  exact ⟨v1, t1, b1, rfl, fun w => (specJoin_any v t b v' t' b' w).mono fun _ _ k => ⟨by rw [k.1, e], k.2⟩⟩
theorem join_i (v t b v' t' b' : Int) : ∃ v1 t1 b1 : Int, Hid (jp (v, t, b) (v', t', b') = (v1, t1, b1)) ∧ Hid (∀ w, Calls Try.prog 58 #[.agg #[.int .i64 v, .int .i64 t, .int .i64 b], .agg #[.int .i64 v', .int .i64 t', .int .i64 b']] w fun e w' => e = .returned (.agg #[.int .i64 v1, .int .i64 t1, .int .i64 b1]) ∧ Below w.heap.size w w') := by
  have e := jreg_jp v t b v' t' b'
  obtain ⟨r, hr⟩ : ∃ r, jp (v, t, b) (v', t', b') = r := ⟨_, rfl⟩
  rw [hr] at e ⊢
  obtain ⟨v1, t1, b1⟩ := r
  exact ⟨v1, t1, b1, rfl, fun w => (joinReg_any v t b v' t' b' w).mono fun _ _ k => ⟨by rw [k.1, e], k.2⟩⟩

/-- One register appended, as one step of a region that draws its order. -/
theorem step_append_rg {ops : Array Oper} {o : Oper} {a : Act} {w : World} {K : Act → World → Prop} {Q : Exit → Act → World → Prop} {E : Prop}
    (hg : o.guard = none) (s x : Operand) (hop : o.op = Op.call { callee := Callee.builtin Builtin.append, args := #[s, x], argTypes := #[24, 24] })
    (base : Nat) (v : Value) (l : List R3) (hs : a.eval s = v) (p q r : Int) (hown : Ow w base v l)
    (hx : a.eval x = .slice (some ⟨w.heap.size, 0, none⟩) 1 1) (hlen : l.length ≤ 1048576) (hbase : base ≤ w.heap.size)
    (hK : ∀ v' w', Ow w' base v' (l ++ [(p, q, r)]) → Below base w w' → K (a.put o.dst v') w') :
    if Region.wanted o (yielded ops a.tmps) = true then Oper.wp Try.prog o a (w.alloc (.cells #[.int .i64 p, .int .i64 q, .int .i64 r] 47)) K Q else E := by
  have hw : Region.wanted o (yielded ops a.tmps) = true := by simp [Region.wanted, hg]
  rw [if_pos hw]
  obtain ⟨i0, hi, hz0, hz1, hz2⟩ := info_parts3 info_rg
  refine wp_append_own _ s x 24 hop base 47 i0 _ 3 24 Try.underlying24 hi hz0 hz1 hz2 rfl (by decide) v _ _ hs (hown.alloc _) ⟨w.heap.size, 0, none⟩ 1 1 (fl [(p, q, r)]) hx rfl (cells_new3 w (p, q, r) 47) (fl_one _) (by unfold maxLen; omega) (by omega) (by simp; omega) ?_
  intro v' w' hown' hgr _
  refine hK v' w' ?_ (((Below.refl base w).alloc hbase _).grown hgr (by simp; omega) (fun k hk => (hown.lt k hk).1))
  unfold Ow; rw [fl_app]; simpa using hown'

theorem jl_take (a b : List R3) (i : Nat) (ha : i < a.length) (hb : i < b.length) : (jl a b).take (i + 1) = (jl a b).take i ++ [jp a[i] b[i]] := by
  have h : i < (jl a b).length := by rw [jl_len]; omega
  rw [List.take_succ_eq_append_getElem h, jl_at a b i h ha hb]

set_option maxHeartbeats 800000 in
set_option maxRecDepth 100000 in
theorem specJoinFlags_any (ao bo : Option Addr) (na nb ca cb : Nat) (a b : List R3) (w : World) (hla : a.length = na) (hlb : b.length = nb) (hna : na ≤ 1048576) (_hnb : nb ≤ 1048576) (ha : Rs w ao a) (hb : Rs w bo b) :
    Calls Try.prog 40 #[.slice ao na ca, .slice bo nb cb] w fun e w' => ∃ v, e = .returned v ∧ Ow w' w.heap.size v (jl a b) ∧ Below w.heap.size w w' := by
  have HA := hid ha
  have HB := hid hb
  have HLA := hid hla
  have HLB := hid hlb
  clear ha hb hla hlb
  go_enter Try.func40, Try.ntmps40
  go_wp2
  go_loopw [5, 6] (fun vv iv wr => ∃ i : Nat, i ≤ na ∧ i ≤ nb ∧ iv = .int .i64 (i : Int) ∧ Ow wr w.heap.size vv ((jl a b).take i) ∧ Below w.heap.size w wr) (fun _ iv _ => na - (intOf iv).toNat)
  case atStart => exact ⟨0, Nat.zero_le _, Nat.zero_le _, rfl, own_empty w _ (Nat.le_refl _), bpush (bre _) _⟩
  case round =>
    obtain ⟨i, hi, hi', rfl, hown, hbe⟩ := hrel
    have HO := hid hown
    have HBE := hid hbe
    clear hown hbe
    by_cases hlt : i < na
    · by_cases hlt' : i < nb
      · have hia : i < a.length := by rw [HLA.out]; exact hlt
        have hib : i < b.length := by rw [HLB.out]; exact hlt'
        obtain ⟨k, o, rfl, hk, c⟩ := HA.out.at hia
        obtain ⟨k', o', rfl, hk', d⟩ := HB.out.at hib
        have HJ := hid (jl_take a b i hia hib)
        obtain ⟨p, hp⟩ : ∃ p, a[i] = p := ⟨_, rfl⟩
        obtain ⟨q, hq⟩ : ∃ q, b[i] = q := ⟨_, rfl⟩
        rw [hp] at c
        rw [hq] at d
        have HP := hid hp
        have HQ := hid hq
        clear hp hq
        obtain ⟨v, t, y⟩ := p
        obtain ⟨v', t', y'⟩ := q
        obtain ⟨v1, t1, b1, hj, cs⟩ := join_s v t y v' t' y'
        have hI : (0 : Int) ≤ (i : Int) ∧ (i : Int) < (na : Int) := by omega
        have hI' : (0 : Int) ≤ (i : Int) ∧ (i : Int) < (nb : Int) := by omega
        have HN : Hid (((jl a b).take i).length ≤ 1048576) := by show _ ≤ _; simp; omega
        have HS : Hid (∀ W, Below w.heap.size w W → (W.cell? ⟨k, o + i * 3, none⟩ = some (.int .i64 v) ∧ W.cell? ⟨k, o + i * 3 + 1, none⟩ = some (.int .i64 t) ∧ W.cell? ⟨k, o + i * 3 + 2, none⟩ = some (.int .i64 y)) ∧ (W.cell? ⟨k', o' + i * 3, none⟩ = some (.int .i64 v') ∧ W.cell? ⟨k', o' + i * 3 + 1, none⟩ = some (.int .i64 t') ∧ W.cell? ⟨k', o' + i * 3 + 2, none⟩ = some (.int .i64 y'))) :=
          fun W h => ⟨⟨(h.cell (p := ⟨k, _, none⟩) hk).trans c.1, (h.cell (p := ⟨k, _, none⟩) hk).trans c.2.1, (h.cell (p := ⟨k, _, none⟩) hk).trans c.2.2⟩, ⟨(h.cell (p := ⟨k', _, none⟩) hk').trans d.1, (h.cell (p := ⟨k', _, none⟩) hk').trans d.2.1, (h.cell (p := ⟨k', _, none⟩) hk').trans d.2.2⟩⟩
        clear c d
        go_wp2_with fail
        go_region_held3 (fun W => (W.cell? ⟨k, o + i * 3, none⟩ = some (.int .i64 v) ∧ W.cell? ⟨k, o + i * 3 + 1, none⟩ = some (.int .i64 t) ∧ W.cell? ⟨k, o + i * 3 + 2, none⟩ = some (.int .i64 y)) ∧ (W.cell? ⟨k', o' + i * 3, none⟩ = some (.int .i64 v') ∧ W.cell? ⟨k', o' + i * 3 + 1, none⟩ = some (.int .i64 t') ∧ W.cell? ⟨k', o' + i * 3 + 2, none⟩ = some (.int .i64 y')))
          (first | exact HS.out _ (bdr HBE.out) | exact HS.out _ HB1.out | exact HS.out _ (bpush HB1.out _) | exact HS.out _ (HB1.out.trans hb2))
          ((first
            | (go_at_call 61; refine (cs.out _).mono ?_; rintro e w1 ⟨rfl, hb1⟩; have HO1 := hid (own_later HO.out (btr (bdr (bre _)) hb1)); have HB1 : Hid (Below w.heap.size w w1) := btr (bdr HBE.out) hb1)
            | (refine step_append_rg rfl (.tmp 20) (.tmp 30) rfl w.heap.size _ _ (by rfl) v1 t1 b1 HO1.out (by rfl) HN.out HB1.out.size ?_; intro v2 w2 hown2 hb2)))
        go_wp2
        go_roundw
        case rel => exact ⟨i + 1, by omega, by omega, by go_num, by rw [HJ.out, HP.out, HQ.out, hj.out]; exact hown2, HB1.out.trans hb2⟩
        case measure => simp [intOf]; omega
      · have HE : Hid ((jl a b).take i = jl a b) := List.take_of_length_le (by rw [jl_len, HLA.out, HLB.out]; omega)
        go_wp2
        go_ret
        exact ⟨_, rfl, by rw [← HE.out]; exact HO.out, HBE.out⟩
    · have HE : Hid ((jl a b).take i = jl a b) := List.take_of_length_le (by rw [jl_len, HLA.out, HLB.out]; omega)
      go_wp2
      go_ret
      exact ⟨_, rfl, by rw [← HE.out]; exact HO.out, HBE.out⟩

set_option maxHeartbeats 800000 in
set_option maxRecDepth 100000 in
theorem implJoinFlags_any (ao bo : Option Addr) (na nb ca cb : Nat) (a b : List R3) (w : World) (hla : a.length = na) (hlb : b.length = nb) (hna : na ≤ 1048576) (hnb : nb ≤ 1048576) (ha : Rs w ao a) (hb : Rs w bo b) :
    Calls Try.prog 37 #[.slice ao na ca, .slice bo nb cb] w fun e w' => e = .returned (.slice (some ⟨w.heap.size, 0, none⟩) (jl a b).length (jl a b).length) ∧ Ow w' w.heap.size (.slice (some ⟨w.heap.size, 0, none⟩) (jl a b).length (jl a b).length) (jl a b) ∧ Below w.heap.size w w' := by
  have HA := hid ha
  have HB := hid hb
  have HLA := hid hla
  have HLB := hid hlb
  clear ha hb hla hlb
  by_cases h : (na : Int) ≤ nb
  · have HJL : Hid ((jl a b).length = na) := by show _ = _; rw [jl_len, HLA.out, HLB.out]; omega
    have hmn : na ≤ nb := by omega
    obtain ⟨M, hM, hmk⟩ := make_rg na (by omega)
    go_enter Try.func37, Try.ntmps37
    go_wp2
    clear hmk h
    go_loopw [15] (fun iv wr => ∃ i : Nat, i ≤ na ∧ iv = .int .i64 (i : Int) ∧ Ow wr w.heap.size (.slice (some ⟨w.heap.size, 0, none⟩) na na) (fil (jl a b) i) ∧ Below w.heap.size w wr) (fun iv _ => na - (intOf iv).toNat)
    case atStart => exact ⟨0, Nat.zero_le _, rfl, by rw [fil_zero, HJL.out]; exact hM.out w, bpush (bre _) _⟩
    case round =>
      obtain ⟨i, hi, rfl, hown, hbe⟩ := hrel
      have HO := hid hown
      have HBE := hid hbe
      clear hown hbe
      by_cases hlt : i < na
      · have hia : i < a.length := by rw [HLA.out]; omega
        have hib : i < b.length := by rw [HLB.out]; omega
        have hij : i < (jl a b).length := by rw [HJL.out]; exact hlt
        obtain ⟨k, o, rfl, hk, c⟩ := HA.out.at hia
        obtain ⟨k', o', rfl, hk', d⟩ := HB.out.at hib
        have HJ := hid (jl_at a b i hij hia hib)
        obtain ⟨p, hp⟩ : ∃ p, a[i] = p := ⟨_, rfl⟩
        obtain ⟨q, hq⟩ : ∃ q, b[i] = q := ⟨_, rfl⟩
        rw [hp] at c
        rw [hq] at d
        have HP := hid hp
        have HQ := hid hq
        clear hp hq
        obtain ⟨v, t, y⟩ := p
        obtain ⟨v', t', y'⟩ := q
        obtain ⟨v1, t1, b1, hj, ci⟩ := join_i v t y v' t' y'
        have hI : (0 : Int) ≤ (i : Int) ∧ (i : Int) < (na : Int) := by omega
        have hI' : (0 : Int) ≤ (i : Int) ∧ (i : Int) < (nb : Int) := by omega
        have hil' : i < (fil (jl a b) i).length := by rw [fil_len _ _ (by omega)]; exact hij
        have HS : Hid (∀ W, Below w.heap.size w W → (W.cell? ⟨k, o + i * 3, none⟩ = some (.int .i64 v) ∧ W.cell? ⟨k, o + i * 3 + 1, none⟩ = some (.int .i64 t) ∧ W.cell? ⟨k, o + i * 3 + 2, none⟩ = some (.int .i64 y)) ∧ (W.cell? ⟨k', o' + i * 3, none⟩ = some (.int .i64 v') ∧ W.cell? ⟨k', o' + i * 3 + 1, none⟩ = some (.int .i64 t') ∧ W.cell? ⟨k', o' + i * 3 + 2, none⟩ = some (.int .i64 y'))) :=
          fun W h => ⟨⟨(h.cell (p := ⟨k, _, none⟩) hk).trans c.1, (h.cell (p := ⟨k, _, none⟩) hk).trans c.2.1, (h.cell (p := ⟨k, _, none⟩) hk).trans c.2.2⟩, ⟨(h.cell (p := ⟨k', _, none⟩) hk').trans d.1, (h.cell (p := ⟨k', _, none⟩) hk').trans d.2.1, (h.cell (p := ⟨k', _, none⟩) hk').trans d.2.2⟩⟩
        have HIL := hid hil'
        clear c d hil'
        go_wp2_with fail
        go_region_held3 (fun W => (W.cell? ⟨k, o + i * 3, none⟩ = some (.int .i64 v) ∧ W.cell? ⟨k, o + i * 3 + 1, none⟩ = some (.int .i64 t) ∧ W.cell? ⟨k, o + i * 3 + 2, none⟩ = some (.int .i64 y)) ∧ (W.cell? ⟨k', o' + i * 3, none⟩ = some (.int .i64 v') ∧ W.cell? ⟨k', o' + i * 3 + 1, none⟩ = some (.int .i64 t') ∧ W.cell? ⟨k', o' + i * 3 + 2, none⟩ = some (.int .i64 y')))
          (first | exact HS.out _ (bdr HBE.out) | exact HS.out _ HB1.out | exact HS.out _ (bset (bset (bset HB1.out (Nat.le_refl _) _) (Nat.le_refl _) _) (Nat.le_refl _) _))
          ((go_at_call 58; refine (ci.out _).mono ?_; rintro e w1 ⟨rfl, hb1⟩; have HO1 := hid (own_later HO.out (btr (bdr (bre _)) hb1)); have HB1 : Hid (Below w.heap.size w w1) := btr (bdr HBE.out) hb1; have hsp := Ow.spot HO1.out i HIL.out; obtain ⟨x, z, u, hc, hf⟩ := hsp; have HST := hid (Ow.stored HO1.out i HIL.out (v1, t1, b1))))
        go_wp2
        go_roundw
        case rel => exact ⟨i + 1, by omega, by go_num, HST.out.cast (by rw [← hj.out, ← HP.out, ← HQ.out, ← HJ.out]; exact fil_set _ i hij), bset (bset (bset HB1.out (Nat.le_refl _) _) (Nat.le_refl _) _) (Nat.le_refl _) _⟩
        case measure => simp [intOf]; omega
      · have HE : Hid (i = (jl a b).length) := by show _ = _; rw [HJL.out]; omega
        go_wp2
        go_ret
        exact ⟨by rw [HJL.out]; rfl, by rw [HJL.out]; exact HO.out.cast (by rw [HE.out, fil_all]), HBE.out⟩
  · have HJL : Hid ((jl a b).length = nb) := by show _ = _; rw [jl_len, HLA.out, HLB.out]; omega
    have h : (nb : Int) < na := by omega
    have hmn : nb ≤ na := by omega
    obtain ⟨M, hM, hmk⟩ := make_rg nb (by omega)
    go_enter Try.func37, Try.ntmps37
    go_wp2
    clear hmk h
    go_loopw [15] (fun iv wr => ∃ i : Nat, i ≤ nb ∧ iv = .int .i64 (i : Int) ∧ Ow wr w.heap.size (.slice (some ⟨w.heap.size, 0, none⟩) nb nb) (fil (jl a b) i) ∧ Below w.heap.size w wr) (fun iv _ => nb - (intOf iv).toNat)
    case atStart => exact ⟨0, Nat.zero_le _, rfl, by rw [fil_zero, HJL.out]; exact hM.out w, bpush (bre _) _⟩
    case round =>
      obtain ⟨i, hi, rfl, hown, hbe⟩ := hrel
      have HO := hid hown
      have HBE := hid hbe
      clear hown hbe
      by_cases hlt : i < nb
      · have hia : i < a.length := by rw [HLA.out]; omega
        have hib : i < b.length := by rw [HLB.out]; omega
        have hij : i < (jl a b).length := by rw [HJL.out]; exact hlt
        obtain ⟨k, o, rfl, hk, c⟩ := HA.out.at hia
        obtain ⟨k', o', rfl, hk', d⟩ := HB.out.at hib
        have HJ := hid (jl_at a b i hij hia hib)
        obtain ⟨p, hp⟩ : ∃ p, a[i] = p := ⟨_, rfl⟩
        obtain ⟨q, hq⟩ : ∃ q, b[i] = q := ⟨_, rfl⟩
        rw [hp] at c
        rw [hq] at d
        have HP := hid hp
        have HQ := hid hq
        clear hp hq
        obtain ⟨v, t, y⟩ := p
        obtain ⟨v', t', y'⟩ := q
        obtain ⟨v1, t1, b1, hj, ci⟩ := join_i v t y v' t' y'
        have hI : (0 : Int) ≤ (i : Int) ∧ (i : Int) < (na : Int) := by omega
        have hI' : (0 : Int) ≤ (i : Int) ∧ (i : Int) < (nb : Int) := by omega
        have hil' : i < (fil (jl a b) i).length := by rw [fil_len _ _ (by omega)]; exact hij
        have HS : Hid (∀ W, Below w.heap.size w W → (W.cell? ⟨k, o + i * 3, none⟩ = some (.int .i64 v) ∧ W.cell? ⟨k, o + i * 3 + 1, none⟩ = some (.int .i64 t) ∧ W.cell? ⟨k, o + i * 3 + 2, none⟩ = some (.int .i64 y)) ∧ (W.cell? ⟨k', o' + i * 3, none⟩ = some (.int .i64 v') ∧ W.cell? ⟨k', o' + i * 3 + 1, none⟩ = some (.int .i64 t') ∧ W.cell? ⟨k', o' + i * 3 + 2, none⟩ = some (.int .i64 y'))) :=
          fun W h => ⟨⟨(h.cell (p := ⟨k, _, none⟩) hk).trans c.1, (h.cell (p := ⟨k, _, none⟩) hk).trans c.2.1, (h.cell (p := ⟨k, _, none⟩) hk).trans c.2.2⟩, ⟨(h.cell (p := ⟨k', _, none⟩) hk').trans d.1, (h.cell (p := ⟨k', _, none⟩) hk').trans d.2.1, (h.cell (p := ⟨k', _, none⟩) hk').trans d.2.2⟩⟩
        have HIL := hid hil'
        clear c d hil'
        go_wp2_with fail
        go_region_held3 (fun W => (W.cell? ⟨k, o + i * 3, none⟩ = some (.int .i64 v) ∧ W.cell? ⟨k, o + i * 3 + 1, none⟩ = some (.int .i64 t) ∧ W.cell? ⟨k, o + i * 3 + 2, none⟩ = some (.int .i64 y)) ∧ (W.cell? ⟨k', o' + i * 3, none⟩ = some (.int .i64 v') ∧ W.cell? ⟨k', o' + i * 3 + 1, none⟩ = some (.int .i64 t') ∧ W.cell? ⟨k', o' + i * 3 + 2, none⟩ = some (.int .i64 y')))
          (first | exact HS.out _ (bdr HBE.out) | exact HS.out _ HB1.out | exact HS.out _ (bset (bset (bset HB1.out (Nat.le_refl _) _) (Nat.le_refl _) _) (Nat.le_refl _) _))
          ((go_at_call 58; refine (ci.out _).mono ?_; rintro e w1 ⟨rfl, hb1⟩; have HO1 := hid (own_later HO.out (btr (bdr (bre _)) hb1)); have HB1 : Hid (Below w.heap.size w w1) := btr (bdr HBE.out) hb1; have hsp := Ow.spot HO1.out i HIL.out; obtain ⟨x, z, u, hc, hf⟩ := hsp; have HST := hid (Ow.stored HO1.out i HIL.out (v1, t1, b1))))
        go_wp2
        go_roundw
        case rel => exact ⟨i + 1, by omega, by go_num, HST.out.cast (by rw [← hj.out, ← HP.out, ← HQ.out, ← HJ.out]; exact fil_set _ i hij), bset (bset (bset HB1.out (Nat.le_refl _) _) (Nat.le_refl _) _) (Nat.le_refl _) _⟩
        case measure => simp [intOf]; omega
      · have HE : Hid (i = (jl a b).length) := by show _ = _; rw [HJL.out]; omega
        go_wp2
        go_ret
        exact ⟨by rw [HJL.out]; rfl, by rw [HJL.out]; exact HO.out.cast (by rw [HE.out, fil_all]), HBE.out⟩
end Go.Proofs.Ytjnpohbljjlicab
