/- The walk of the law of a mail that is read. -/
import Derived.Test.YtldcmfkmnjdfiaaWm
namespace Go.Proofs.Ytldcmfkmnjdfiaa
open Go.RowKit

theorem regs_len : ∀ (r : List Int), (regs r).length * 3 ≤ r.length
  | [] => by simp [regs]
  | [_] => by simp [regs]
  | [_, _] => by simp [regs]
  | _ :: _ :: _ :: r => by have := regs_len r; simp only [regs, List.length_cons]; omega
theorem rds_length {s : ByteArray} {a : Int} : ∀ (k : Nat) {r : List Int} {b : Int}, rds s a k = some (r, b) → r.length = k
  | 0, r, b, h => by simp only [rds, Option.some.injEq, Prod.mk.injEq] at h; rw [← h.1]; rfl
  | k + 1, r, b, h => by
    rw [rds] at h
    cases h1 : rds s a k with
    | none => rw [h1] at h; cases h
    | some p =>
      rw [h1] at h; simp only [Option.bind_some] at h
      cases h2 : rd s p.2 with
      | none => rw [h2] at h; cases h
      | some q =>
        rw [h2] at h
        simp only [Option.map_some, Option.some.injEq, Prod.mk.injEq] at h
        rw [← h.1, List.length_append, rds_length k h1]; rfl
theorem rm6_len {s : ByteArray} {a g u : Int} {l : List R3} {t : ByteArray} {c : Int} {q : Bool} (h : rm6 s a = (g, u, l, t, c, q)) : l.length ≤ 3 := by
  unfold rm6 at h
  split at h
  · next g' u' r b hr =>
    have hl := rds_length 11 hr
    split at h
    · split at h
      · simp only [Prod.mk.injEq] at h
        rw [← h.2.2.1]
        have := regs_len r
        simp only [List.length_cons] at hl
        omega
      · simp only [zero6, Prod.mk.injEq] at h; rw [← h.2.2.1]; simp
    · simp only [zero6, Prod.mk.injEq] at h; rw [← h.2.2.1]; simp
  · simp only [zero6, Prod.mk.injEq] at h; rw [← h.2.2.1]; simp

theorem rm_known {s : ByteArray} {a g u : Int} {l : List R3} {t : ByteArray} {c : Int} {q : Bool} (hr : rm6 s a = (g, u, l, t, c, q)) {w : World} {e : Ending} {w' : World} (h : RmPost s a w e w') :
    ∃ av cv, e = .returned (.tuple #[.agg #[.int .i64 g, .int .i64 u, .slice av l.length cv, .string t], .int .i64 c, .bool q]) ∧ Ow w' w.heap.size (.slice av l.length cv) l ∧ Below w.heap.size w w' := by
  obtain ⟨g', u', l', t', c', q', v, h1, h2, h3, h4⟩ := h
  rw [hr] at h1
  simp only [Prod.mk.injEq] at h1
  obtain ⟨rfl, rfl, rfl, rfl, rfl, rfl⟩ := h1
  obtain ⟨av, cv, hv, _⟩ := Ow.shape h3
  subst hv
  exact ⟨av, cv, h2, h3, h4⟩

set_option maxHeartbeats 1600000 in
set_option maxRecDepth 100000 in
theorem lawReadMail_any (s : ByteArray) (a : Int) (w : World) (hm : s.size ≤ maxLen) :
    Calls Try.prog 4 #[.string s, .int .i64 a] w fun e w' => e = .returned (.bool true) ∧ Below w.heap.size w w' := by
  unfold maxLen at hm
  by_cases hs : s.size ≤ 1048576
  · obtain ⟨⟨g, u, l, t, c, q⟩, hrm⟩ : ∃ x, rm6 s a = x := ⟨_, rfl⟩
    have CS : Hid (∀ w, Calls Try.prog 10 #[.string s, .int .i64 a] w fun e w' => ∃ av cv, e = .returned (.tuple #[.agg #[.int .i64 g, .int .i64 u, .slice av l.length cv, .string t], .int .i64 c, .bool q]) ∧ Ow w' w.heap.size (.slice av l.length cv) l ∧ Below w.heap.size w w') := fun w => (specReadMail_any s a w hs).mono fun _ _ h => rm_known hrm h
    have CI : Hid (∀ w, Calls Try.prog 8 #[.string s, .int .i64 a] w fun e w' => ∃ av cv, e = .returned (.tuple #[.agg #[.int .i64 g, .int .i64 u, .slice av l.length cv, .string t], .int .i64 c, .bool q]) ∧ Ow w' w.heap.size (.slice av l.length cv) l ∧ Below w.heap.size w w') := fun w => (implReadMail_any s a w hs).mono fun _ _ h => rm_known hrm h
    obtain ⟨N, hN⟩ : ∃ N, l.length = N := ⟨_, rfl⟩
    rw [hN] at CS CI
    have EN := hid hN
    have HN : Hid (N ≤ 1048576) := by have := rm6_len hrm; show N ≤ _; omega
    have hcc : (c != c) = false := by simp
    have hqq : (q != q) = false := by simp
    clear hrm hN
    go_enter Try.func4, Try.ntmps4
    go_wp2_with fail
    refine (CS.out _).mono ?_; rintro e w1 ⟨a1, c1, rfl, ho, hb⟩
    have N1 := hid (bpush (bre w1) (.cells #[.int .i64 g, .int .i64 u, .slice a1 N c1, .string t] 26))
    have V1 := hid (Mg.new w1 26 g u (.slice a1 N c1) t)
    have OV1 := hid (own_later ho N1.out)
    have FV : Hid (∀ j, Value.ownBlock (.slice a1 N c1) = some j → j < w1.heap.size) := fun j hj => (ho.lt j hj).2
    have B1 := hid (btr hb N1.out)
    have LW : Hid (w.heap.size ≤ w1.heap.size) := hb.size
    clear ho hb
    go_wp2_with fail
    refine (CI.out _).mono ?_; rintro e w2 ⟨a2, c2, rfl, ho, hb⟩
    have N2 := hid (bpush (bre w2) (.cells #[.int .i64 g, .int .i64 u, .slice a2 N c2, .string t] 26))
    have G2 := hid (Mg.new w2 26 g u (.slice a2 N c2) t)
    have OG2 := hid (own_later ho N2.out)
    have FG : Hid (∀ j, Value.ownBlock (.slice a2 N c2) = some j → w1.heap.size < j ∧ j < w2.heap.size) := fun j hj => ⟨Nat.lt_of_lt_of_le V1.out.lt (ho.lt j hj).1, (ho.lt j hj).2⟩
    have V2 := hid ((V1.out.later hb).later N2.out)
    have OV2 := hid (own_later (own_later OV1.out hb) N2.out)
    have B2 := hid (btr (btr B1.out hb) N2.out)
    have LB : Hid (w1.heap.size < w2.heap.size) := Nat.lt_of_lt_of_le V1.out.lt hb.size
    clear ho hb V1 OV1
    have e0 := G2.out.cells
    have e1 := V2.out.cells
    go_wp2_with fail
    refine (eqMail_same g u _ _ N c2 c1 l t _ EN.out HN.out (Ow.rs OG2.out).2 (Ow.rs OV2.out).2).mono ?_; rintro e w3 ⟨rfl, hb⟩
    have G3 := hid (G2.out.later hb)
    have V3 := hid (V2.out.later hb)
    have OG3 := hid (own_later OG2.out hb)
    have OV3 := hid (own_later OV2.out hb)
    have B3 := hid (btr B2.out hb)
    clear e0 e1 hb G2 V2 OG2 OV2 B1 B2
    have e0 := G3.out.cells
    go_wp2_with fail
    refine (markM1 g u _ a2 N c2 l t _ OG3.out EN.out HN.out).mono ?_; rintro e w4 ⟨rfl, hown, hg⟩
    have l1 := LB.out
    have l2 := LW.out
    have G4 := hid (G3.out.grown hg (by intro h; have := FG.out _ h.symm; omega))
    have V4 := hid (V3.out.grown hg (by intro h; have := FG.out _ h.symm; omega))
    have OG4 := hid hown
    have OV4 := hid (own_kept OV3.out hg (by intro j hj h; have := FG.out _ h; have := FV.out _ hj; omega))
    have B4 : Hid (Below w.heap.size w w4) := B3.out.trans (below_grownR hg (by intro j hj; have := FG.out _ hj; omega) B3.out.size)
    clear e0 hown hg G3 V3 OG3 OV3 B3 l1 l2
    obtain ⟨z1, hz1⟩ : ∃ z : Nat, 1 + N * 3 = z := ⟨_, rfl⟩
    have HH : Hid (∀ W B, Ow W B (.slice a2 N c2) (mks 1 N) → Calls Try.prog 21 #[.agg #[.int .i64 g, .int .i64 u, .slice a2 N c2, .string t], .int .i64 1] W fun e w' => e = .returned (.int .i64 (z1 : Int)) ∧ Below W.heap.size W w') := fun W B h => by
      rw [← hz1]; exact heldM1 g u B a2 N c2 t W h HN.out
    rw [hz1]
    have hz0 : ¬ ((z1 : Nat) : Int) < 0 := by omega
    have hzz : ((z1 : Int) != (z1 : Int)) = false := by simp
    clear hz1
    have e0 := G4.out.cells
    go_wp2_with fail
    refine (HH.out _ _ OG4.out).mono ?_; rintro e w5 ⟨rfl, hb⟩
    have G5 := hid (G4.out.later hb)
    have V5 := hid (V4.out.later hb)
    have OG5 := hid (own_later OG4.out hb)
    have OV5 := hid (own_later OV4.out hb)
    have B5 := hid (btr B4.out hb)
    clear e0 hb G4 V4 OG4 OV4 B4
    go_wp2_with fail
    refine (CI.out _).mono ?_; rintro e w6 ⟨a6, c6, rfl, ho, hb⟩
    have N6 := hid (bpush (bre w6) (.cells #[.int .i64 g, .int .i64 u, .slice a6 N c6, .string t] 26))
    have H6 := hid (Mg.new w6 26 g u (.slice a6 N c6) t)
    have OH6 := hid (own_later ho N6.out)
    have G6 := hid ((G5.out.later hb).later N6.out)
    have V6 := hid ((V5.out.later hb).later N6.out)
    have OG6 := hid (own_later (own_later OG5.out hb) N6.out)
    have OV6 := hid (own_later (own_later OV5.out hb) N6.out)
    have B6 := hid (btr (btr B5.out hb) N6.out)
    clear ho hb G5 V5 OG5 OV5 B5
    have e0 := H6.out.cells
    have e1 := V6.out.cells
    go_wp2_with fail
    refine (eqMail_same g u _ _ N c6 c1 l t _ EN.out HN.out (Ow.rs OH6.out).2 (Ow.rs OV6.out).2).mono ?_; rintro e w7 ⟨rfl, hb⟩
    have G7 := hid (G6.out.later hb)
    have OG7 := hid (own_later OG6.out hb)
    have B7 := hid (btr B6.out hb)
    clear e0 e1 hb G6 V6 OG6 OV6 B6 H6 OH6
    have e0 := G7.out.cells
    go_wp2_with fail
    refine (HH.out _ _ OG7.out).mono ?_; rintro e w8 ⟨rfl, hb⟩
    have B8 := hid (btr B7.out hb)
    clear e0 hb G7 OG7
    go_wp2_with fail
    go_ret
    exact ⟨rfl, B8.out⟩
  · go_enter Try.func4, Try.ntmps4
    go_wp2
    go_ret
    exact ⟨rfl, bre _⟩
end Go.Proofs.Ytldcmfkmnjdfiaa
