/- Ck, Cm, Cn, Co, Cp, OpenC. -/
import Derived.Test.YtlhofbnnonljaaaGreatDoorX25
namespace Go.Proofs.YtlhofbnnonljaaaGreatDoor
open Go.RowKit Go.ChangeMaps
def RallCall (s : ByteArray) (w : World) (e : Ending) (w' : World) : Prop :=
  (∃ kd bx gd fl tx, wh (icl s 0) s.size = some (kd, bx, gd, fl, tx) ∧ e = .returned (.tuple #[.agg #[.int .i64 kd, .int .i64 bx, .int .i64 gd, .int .i64 fl, .string tx], .bool true]) ∧ True ∧ Below w.heap.size w w') ∨
  (wh (icl s 0) s.size = none ∧ e = .returned (.tuple #[.agg #[.int .i64 0, .int .i64 0, .int .i64 0, .int .i64 0, .string ⟨#[]⟩], .bool false]) ∧ Below w.heap.size w w')
set_option maxHeartbeats 4000000 in
set_option maxRecDepth 100000 in
theorem readAllCall_any (s : ByteArray) (w : World) (hs : s.size ≤ 1048576) (hn : Nib w) :
    Calls Tryz.prog 23 #[.string s, .func (.func 24) #[] #[]] w fun e w' => RallCall s w e w' := by
  have HSZ := hid hs
  have Z0 := hid (Cx.new w 26 0 0 0 0 ⟨#[]⟩)
  have LZ : Hid (w.heap.size < (w.alloc (.cells #[.int .i64 0, .int .i64 0, .int .i64 0, .int .i64 0, .string ⟨#[]⟩] 26)).heap.size) := Z0.out.lt
  have B0 := hid (bpush (bre w) (.cells #[.int .i64 0, .int .i64 0, .int .i64 0, .int .i64 0, .string ⟨#[]⟩] 26))
  have HN := hid hn
  clear hs hn
  go_enter Tryz.func23, Tryz.ntmps23
  go_wp2_with fail
  refine (readAtCall_any s 0 _ HSZ.out (HN.out.on B0.out)).mono ?_; rintro e w2 (⟨kd, bx, gd, fl, tx, c, hr, rfl, ho, hb2⟩ | ⟨hr, rfl, hb2⟩)
  · have H := hid hr
    have hb3 := bpush hb2 (.cells #[.int .i64 kd, .int .i64 bx, .int .i64 gd, .int .i64 fl, .string tx] 26)
    have N3 := hid (Cx.new w2 26 kd bx gd fl tx)
    have Z3 := hid (Z0.out.later hb3)
    have B3 := hid (btr B0.out hb3)
    have O3 := hid (trivial : True)
    have LW := LZ.out
    have d5 := Z3.out.cells
    have f5 := Z3.out.loose
    have dn := N3.out.cells
    clear hr ho hb2 hb3 Z0 B0 LW
    by_cases hc : c = (s.size : Int)
    · have HC := hid (wh_yes (H.out) hc)
      go_wp2
      have hX := Cx.set5 Z3.out kd bx gd fl tx
      have d := hX.cells
      have hg7 := (wst (wst (wst (wst (wst (wre (w2.alloc (.cells #[.int .i64 kd, .int .i64 bx, .int .i64 gd, .int .i64 fl, .string tx] 26)) (some w.heap.size)) 0 (.int .i64 kd)) 1 (.int .i64 bx)) 2 (.int .i64 gd)) 3 (.int .i64 fl)) 4 (.string tx))
      have l1 := LZ.out
      refine bodyPost_ret (v := .tuple #[.agg #[.int .i64 kd, .int .i64 bx, .int .i64 gd, .int .i64 fl, .string tx], .bool true]) (by simp [results, Tryz.results23, go_sem, d]) rfl (Or.inl ⟨kd, bx, gd, fl, tx, HC.out, rfl, ?_, ?_⟩)
      · exact trivial
      · exact B3.out.trans (below_grownR hg7 (by intro j hj; simp at hj; omega) B3.out.size)
    · have HC := hid (wh_no (H.out) hc)
      have d6 := (Z3.out.later (bpush (bre (w2.alloc (.cells #[.int .i64 kd, .int .i64 bx, .int .i64 gd, .int .i64 fl, .string tx] 26))) (.cells #[.int .i64 0, .int .i64 0, .int .i64 0, .int .i64 0, .string ⟨#[]⟩] 26))).cells
      have f6 := (Z3.out.later (bpush (bre (w2.alloc (.cells #[.int .i64 kd, .int .i64 bx, .int .i64 gd, .int .i64 fl, .string tx] 26))) (.cells #[.int .i64 0, .int .i64 0, .int .i64 0, .int .i64 0, .string ⟨#[]⟩] 26))).loose
      clear d5 f5
      go_wp2
      have hX := Cx.set5 (Z3.out.later (bpush (bre (w2.alloc (.cells #[.int .i64 kd, .int .i64 bx, .int .i64 gd, .int .i64 fl, .string tx] 26))) (.cells #[.int .i64 0, .int .i64 0, .int .i64 0, .int .i64 0, .string ⟨#[]⟩] 26))) 0 0 0 0 ⟨#[]⟩
      have d := hX.cells
      have hg7 := (wst (wst (wst (wst (wst (wre ((w2.alloc (.cells #[.int .i64 kd, .int .i64 bx, .int .i64 gd, .int .i64 fl, .string tx] 26)).alloc (.cells #[.int .i64 0, .int .i64 0, .int .i64 0, .int .i64 0, .string ⟨#[]⟩] 26)) (some w.heap.size)) 0 (.int .i64 0)) 1 (.int .i64 0)) 2 (.int .i64 0)) 3 (.int .i64 0)) 4 (.string ⟨#[]⟩))
      have B4 := btr B3.out (bpush (bre (w2.alloc (.cells #[.int .i64 kd, .int .i64 bx, .int .i64 gd, .int .i64 fl, .string tx] 26))) (.cells #[.int .i64 0, .int .i64 0, .int .i64 0, .int .i64 0, .string ⟨#[]⟩] 26))
      refine bodyPost_ret (v := .tuple #[.agg #[.int .i64 0, .int .i64 0, .int .i64 0, .int .i64 0, .string ⟨#[]⟩], .bool false]) (by simp [results, Tryz.results23, go_sem, d]) rfl (Or.inr ⟨HC.out, rfl, ?_⟩)
      exact B4.trans (below_grownR hg7 (by intro j hj; simp at hj; omega) B4.size)
  · have HC := hid (wh_none s.size hr)
    have hb3 := bpush hb2 (.cells #[.int .i64 0, .int .i64 0, .int .i64 0, .int .i64 0, .string ⟨#[]⟩] 26)
    have Z3 := hid (Z0.out.later hb3)
    have B3 := hid (btr B0.out hb3)
    have d6 := (Z3.out.later (bpush (bre (w2.alloc (.cells #[.int .i64 0, .int .i64 0, .int .i64 0, .int .i64 0, .string ⟨#[]⟩] 26))) (.cells #[.int .i64 0, .int .i64 0, .int .i64 0, .int .i64 0, .string ⟨#[]⟩] 26))).cells
    have f6 := (Z3.out.later (bpush (bre (w2.alloc (.cells #[.int .i64 0, .int .i64 0, .int .i64 0, .int .i64 0, .string ⟨#[]⟩] 26))) (.cells #[.int .i64 0, .int .i64 0, .int .i64 0, .int .i64 0, .string ⟨#[]⟩] 26))).loose
    clear hr hb2 hb3 Z0 B0
    go_wp2
    have hX := Cx.set5 (Z3.out.later (bpush (bre (w2.alloc (.cells #[.int .i64 0, .int .i64 0, .int .i64 0, .int .i64 0, .string ⟨#[]⟩] 26))) (.cells #[.int .i64 0, .int .i64 0, .int .i64 0, .int .i64 0, .string ⟨#[]⟩] 26))) 0 0 0 0 ⟨#[]⟩
    have d := hX.cells
    have hg7 := (wst (wst (wst (wst (wst (wre ((w2.alloc (.cells #[.int .i64 0, .int .i64 0, .int .i64 0, .int .i64 0, .string ⟨#[]⟩] 26)).alloc (.cells #[.int .i64 0, .int .i64 0, .int .i64 0, .int .i64 0, .string ⟨#[]⟩] 26)) (some w.heap.size)) 0 (.int .i64 0)) 1 (.int .i64 0)) 2 (.int .i64 0)) 3 (.int .i64 0)) 4 (.string ⟨#[]⟩))
    have B4 := btr B3.out (bpush (bre (w2.alloc (.cells #[.int .i64 0, .int .i64 0, .int .i64 0, .int .i64 0, .string ⟨#[]⟩] 26))) (.cells #[.int .i64 0, .int .i64 0, .int .i64 0, .int .i64 0, .string ⟨#[]⟩] 26))
    refine bodyPost_ret (v := .tuple #[.agg #[.int .i64 0, .int .i64 0, .int .i64 0, .int .i64 0, .string ⟨#[]⟩], .bool false]) (by simp [results, Tryz.results23, go_sem, d]) rfl (Or.inr ⟨HC.out, rfl, ?_⟩)
    exact B4.trans (below_grownR hg7 (by intro j hj; simp at hj; omega) B4.size)
theorem rh1_s {s : ByteArray} {a bx c : Int} (h : rd s a = some (bx, c)) : rh1 s a = some (((), bx), c) := by unfold rh1; simp only [Option.bind_some, h, Option.map_some]
theorem rh1_n {s : ByteArray} {a : Int} (h : rd s a = none) : rh1 s a = none := by unfold rh1; simp only [Option.bind_some, h, Option.map_none]
theorem rv_big : ∀ (f : Nat) (l : List UInt8) (k n m d : Nat), 1 ≤ k → rv f l k n = some (m, d) → 128 ≤ m := by
  intro f
  induction f with
  | zero => intro l k n m d _ h; cases h
  | succ f ih =>
    intro l k n m d hk h
    cases l with
    | nil => cases h
    | cons c l =>
      by_cases hc : c.toNat < 128
      · by_cases h2 : 1000000000 < n + c.toNat % 128 * 128 ^ k ∨ (c.toNat = 0 ∧ 0 < k)
        · rw [rv_bad _ _ _ _ _ hc h2] at h; cases h
        · rw [rv_good _ _ _ _ _ hc h2] at h
          simp only [Option.some.injEq, Prod.mk.injEq] at h
          have h3 : 1 ≤ c.toNat % 128 := by rw [Nat.mod_eq_of_lt hc]; omega
          have h4 : 128 ^ 1 ≤ 128 ^ k := Nat.pow_le_pow_right (by omega) hk
          have h5 : 1 * 128 ^ 1 ≤ c.toNat % 128 * 128 ^ k := Nat.mul_le_mul h3 h4
          omega
      · rw [rv_more _ _ _ _ _ hc] at h
        exact ih _ _ _ _ _ (by omega) h
theorem rd_0 {s : ByteArray} (h : 0 < s.size) : (s[0].toNat < 128 → rd s 0 = some ((s[0].toNat : Int), 1)) ∧ (¬ s[0].toNat < 128 → ∀ n c, rd s 0 = some (n, c) → 128 ≤ n) := by
  have hl : s.data.toList = s[0] :: s.data.toList.tail := by
    have h1 : 0 < s.data.toList.length := by rw [Array.length_toList]; exact h
    cases hc : s.data.toList with
    | nil => rw [hc] at h1; cases h1
    | cons c t =>
      have h2 : s.data.toList[0] = c := by simp only [hc]; rfl
      rw [List.tail_cons, ← h2]
      rfl
  have hd : rd s 0 = (rv 5 (s[0] :: s.data.toList.tail) 0 0).map fun p => ((p.1 : Int), (0 : Int) + (p.2 : Int)) := by
    have h3 := rd_in (s := s) (a := 0) (Nat.zero_le _)
    rw [List.drop_zero] at h3
    rw [← hl]
    exact h3
  refine ⟨fun hb => ?_, fun hb n c hr => ?_⟩
  · rw [hd, rv_good _ _ _ _ _ hb (by have := Nat.mod_lt s[0].toNat (show 0 < 128 by omega); rw [Nat.pow_zero]; omega)]
    simp only [Option.map_some, Option.some.injEq, Prod.mk.injEq]
    rw [Nat.mod_eq_of_lt hb, Nat.pow_zero]
    omega
  · rw [hd, rv_more _ _ _ _ _ hb] at hr
    cases hv : rv 4 s.data.toList.tail (0 + 1) (0 + s[0].toNat % 128 * 128 ^ 0) with
    | none => rw [hv] at hr; cases hr
    | some q =>
      obtain ⟨m, d⟩ := q
      rw [hv] at hr
      simp only [Option.map_some, Option.some.injEq, Prod.mk.injEq] at hr
      have := rv_big 4 _ _ _ m d (by omega) hv
      omega
theorem cok_big {kd : Int} (h : 8 ≤ kd) (bx gd fl : Int) (tx : ByteArray) : cok kd bx gd fl tx = false := by
  unfold cok
  rw [show decide (1 ≤ kd ∧ kd ≤ 7) = false by simp only [decide_eq_false_iff_not]; omega]
  rfl
theorem rca_icl (s : ByteArray) : rca s = wh (icl s 0) s.size := by
  by_cases h0 : 0 < s.size
  · unfold rca
    rw [dif_pos h0]
    obtain ⟨h1, h2⟩ := rd_0 h0
    by_cases hb : s[0].toNat < 128
    · have h3 := h1 hb
      obtain ⟨kd, hkd⟩ : ∃ k : Int, (s[0].toNat : Int) = k := ⟨_, rfl⟩
      rw [hkd] at h3 ⊢
      clear h1 h2 hb hkd
      cases e1 : rd s 1 with
      | none => rw [rcl_bad (by unfold rq4 rq3 rq2; rw [rh1_n e1]; rfl), wh_none _ (icl_n2 h3 e1)]
      | some p1 =>
        obtain ⟨bx, c2⟩ := p1
        cases e2 : rd s c2 with
        | none => rw [rcl_bad (by unfold rq4 rq3 rq2; rw [rh1_s e1]; simp only [Option.bind_some, e2]; rfl), wh_none _ (icl_n3 h3 e1 e2)]
        | some p2 =>
          obtain ⟨gd, c3⟩ := p2
          cases e3 : rd s c3 with
          | none => rw [rcl_bad (by unfold rq4 rq3 rq2; rw [rh1_s e1]; simp only [Option.bind_some, e2, Option.map_some, e3]; rfl), wh_none _ (icl_n4 h3 e1 e2 e3)]
          | some p3 =>
            obtain ⟨fl, c4⟩ := p3
            cases e4 : rsh s c4 with
            | none => rw [rcl_bad (by unfold rq4 rq3 rq2; rw [rh1_s e1]; simp only [Option.bind_some, e2, Option.map_some, e3, e4]; rfl), wh_none _ (icl_n5 h3 e1 e2 e3 e4)]
            | some p4 =>
              obtain ⟨tx, c5⟩ := p4
              have hq : rq4 s 1 = some (((((((), bx), gd), fl)), tx), c5) := by unfold rq4 rq3 rq2; rw [rh1_s e1]; simp only [Option.bind_some, e2, Option.map_some, e3, e4]
              have hi := icl_y h3 e1 e2 e3 e4
              by_cases hk : cok kd bx gd fl tx = true
              · rw [if_pos hk] at hi
                by_cases hc : c5 = (s.size : Int)
                · rw [rcl_yes hq ⟨hc, hk⟩, wh_yes hi hc]
                · rw [rcl_no hq (fun h => hc h.1), wh_no hi hc]
              · rw [if_neg hk] at hi
                rw [rcl_no hq (fun h => hk h.2), wh_none _ hi]
    · have hbig := fun bx gd fl tx => cok_big (kd := (s[0].toNat : Int)) (by omega) bx gd fl tx
      have hr : rcl (s[0].toNat : Int) s = none := by
        unfold rcl
        cases rq4 s 1 with
        | none => rfl
        | some p =>
          simp only [Option.bind_some]
          rw [if_neg (by rw [hbig]; simp)]
      rw [hr]
      have hi : icl s 0 = none := by
        cases e0 : rd s 0 with
        | none => exact icl_n1 e0
        | some p0 =>
          obtain ⟨n, c1⟩ := p0
          have hn := h2 hb n c1 e0
          have hbig2 := fun bx gd fl tx => cok_big (kd := n) (by omega) bx gd fl tx
          cases e1 : rd s c1 with
          | none => exact icl_n2 e0 e1
          | some p1 =>
            obtain ⟨bx, c2⟩ := p1
            cases e2 : rd s c2 with
            | none => exact icl_n3 e0 e1 e2
            | some p2 =>
              obtain ⟨gd, c3⟩ := p2
              cases e3 : rd s c3 with
              | none => exact icl_n4 e0 e1 e2 e3
              | some p3 =>
                obtain ⟨fl, c4⟩ := p3
                cases e4 : rsh s c4 with
                | none => exact icl_n5 e0 e1 e2 e3 e4
                | some p4 =>
                  obtain ⟨tx, c5⟩ := p4
                  rw [icl_y e0 e1 e2 e3 e4, if_neg (by rw [hbig2]; simp)]
      rw [wh_none _ hi]
  · have e0 : rd s 0 = none := by
      have hs : s = ⟨#[]⟩ := ByteArray.ext (Array.eq_empty_of_size_eq_zero (by show s.size = 0; omega))
      subst hs
      rfl
    unfold rca
    rw [dif_neg h0, wh_none _ (icl_n1 e0)]
set_option maxHeartbeats 4000000 in
set_option maxRecDepth 100000 in
theorem implReadCall_any (s : ByteArray) (w : World) (hs : s.size ≤ 1048576) (hn : Nib w) :
    Calls Tryz.prog 13 #[.string s] w fun e w' => RcPost s w e w' := by
  have hmf : ∀ (fn : Fn) (first cap : Array Value) (w : World), (Instr.makeFunc fn first cap).run Tryz.prog w = .ok (.func fn first cap) w := fun _ _ _ _ => rfl
  have HSZ := hid hs
  have HR := hid (rca_icl s)
  have Z0 := hid (Cx.new w 26 0 0 0 0 ⟨#[]⟩)
  have B0 := hid (bpush (bre w) (.cells #[.int .i64 0, .int .i64 0, .int .i64 0, .int .i64 0, .string ⟨#[]⟩] 26))
  have HN := hid (hn.on B0.out)
  clear hs hn
  go_enter Tryz.func13, Tryz.ntmps13
  go_wp2_with fail
  refine (readAllCall_any s _ HSZ.out HN.out).mono ?_; rintro e w2 (⟨kd, bx, gd, fl, tx, hr, rfl, -, hb2⟩ | ⟨hr, rfl, hb2⟩)
  · have HY : Hid (rca s = some (kd, bx, gd, fl, tx)) := hid (by rw [HR.out, hr])
    have Z3 := hid (Z0.out.later hb2)
    have B3 := hid (btr B0.out hb2)
    have d5 := Z3.out.cells
    have f5 := Z3.out.loose
    clear hr hb2 Z0 B0
    go_wp2
    have hX := Cx.set5 Z3.out kd bx gd fl tx
    have d := hX.cells
    have hg7 := (wst (wst (wst (wst (wst (wre w2 (some w.heap.size)) 0 (.int .i64 kd)) 1 (.int .i64 bx)) 2 (.int .i64 gd)) 3 (.int .i64 fl)) 4 (.string tx))
    refine bodyPost_ret (v := .tuple #[.agg #[.int .i64 kd, .int .i64 bx, .int .i64 gd, .int .i64 fl, .string tx], .bool true]) (by simp [results, Tryz.results13, go_sem, d]) rfl (Or.inr ⟨kd, bx, gd, fl, tx, HY.out, rfl, ?_⟩)
    exact B3.out.trans (below_grownR hg7 (by intro j hj; simp at hj; omega) B3.out.size)
  · have HNO : Hid (rca s = none) := hid (by rw [HR.out, hr])
    have Z3 := hid (Z0.out.later hb2)
    have B3 := hid (btr B0.out hb2)
    have d5 := Z3.out.cells
    have f5 := Z3.out.loose
    clear hr hb2 Z0 B0
    go_wp2
    have hX := Cx.set5 Z3.out 0 0 0 0 ⟨#[]⟩
    have d := hX.cells
    have hg7 := (wst (wst (wst (wst (wst (wre w2 (some w.heap.size)) 0 (.int .i64 0)) 1 (.int .i64 0)) 2 (.int .i64 0)) 3 (.int .i64 0)) 4 (.string ⟨#[]⟩))
    refine bodyPost_ret (v := .tuple #[.agg #[.int .i64 0, .int .i64 0, .int .i64 0, .int .i64 0, .string ⟨#[]⟩], .bool false]) (by simp [results, Tryz.results13, go_sem, d]) rfl (Or.inl ⟨HNO.out, rfl, ?_⟩)
    exact B3.out.trans (below_grownR hg7 (by intro j hj; simp at hj; omega) B3.out.size)
theorem szCall_any (kd bx gd fl : Int) (tx : ByteArray) (w : World) (hm : tx.size ≤ maxLen) :
    Calls Tryz.prog 6 #[.agg #[.int .i64 kd, .int .i64 bx, .int .i64 gd, .int .i64 fl, .string tx], .int .i64 1048576] w fun e w' => e = .returned (.int .i64 (if tx.size ≤ 1048576 then 1048576 - (tx.size : Int) else -1)) ∧ Below w.heap.size w w' := by
  have X0 := hid (Cx.new w 23 kd bx gd fl tx)
  have c0 := X0.out.cells
  have B0 := hid (bpush (bre w) (.cells #[.int .i64 kd, .int .i64 bx, .int .i64 gd, .int .i64 fl, .string tx] 23))
  have hm2 : (tx.size : Int) ≤ 9223372036854775807 := by unfold maxLen at hm; omega
  have hm0 : (0 : Int) ≤ (tx.size : Int) := by omega
  obtain ⟨z, hz⟩ : ∃ z : Int, (tx.size : Int) = z := ⟨_, rfl⟩
  rw [hz] at hm2 hm0
  have HZ := hid hz
  have HW : wrap64 (1048576 - z) = 1048576 - z := by unfold wrap64; omega
  by_cases h : tx.size ≤ 1048576
  · have h2 : ¬ 1048576 - z < 0 := by omega
    rw [if_pos h]
    rw [hz]
    clear h hm
    go_enter Tryz.func6, Tryz.ntmps6
    go_wp2
    go_ret
    exact ⟨rfl, B0.out⟩
  · have h2 : 1048576 - z < 0 := by omega
    rw [if_neg h]
    clear h hm
    go_enter Tryz.func6, Tryz.ntmps6
    go_wp2
    go_ret
    exact ⟨rfl, B0.out⟩
theorem toCall_any (kd bx gd fl : Int) (tx : ByteArray) (w : World) :
    Calls Tryz.prog 8 #[.agg #[.int .i64 kd, .int .i64 bx, .int .i64 gd, .int .i64 fl, .string tx]] w fun e w' => e = .returned (.agg #[.int .i64 kd, .int .i64 bx, .int .i64 gd, .int .i64 fl, .string tx]) ∧ Below w.heap.size w w' := by
  have X0 := hid (Cx.new w 23 kd bx gd fl tx)
  have b1 := bpush (bpush (bre (w.alloc (.cells #[.int .i64 kd, .int .i64 bx, .int .i64 gd, .int .i64 fl, .string tx] 23))) (.cells #[.int .i64 kd, .int .i64 bx, .int .i64 gd, .int .i64 fl, .string tx] 26)) (.cells #[.int .i64 kd, .int .i64 bx, .int .i64 gd, .int .i64 fl, .string tx] 26)
  have B1 := hid (btr (bpush (bre w) (.cells #[.int .i64 kd, .int .i64 bx, .int .i64 gd, .int .i64 fl, .string tx] 23)) b1)
  clear b1
  go_enter Tryz.func8, Tryz.ntmps8
  go_wp2
  exact bodyPost_ret (v := .agg #[.int .i64 kd, .int .i64 bx, .int .i64 gd, .int .i64 fl, .string tx]) (by simp [results, Tryz.results8, go_sem]) rfl ⟨rfl, B1.out⟩
theorem eqCall_same (kd bx gd fl : Int) (tx : ByteArray) (w : World) :
    Calls Tryz.prog 14 #[.agg #[.int .i64 kd, .int .i64 bx, .int .i64 gd, .int .i64 fl, .string tx], .agg #[.int .i64 kd, .int .i64 bx, .int .i64 gd, .int .i64 fl, .string tx]] w fun e w' => e = .returned (.bool true) ∧ Below w.heap.size w w' := by
  have B1 := hid (bpush (bpush (bre w) (.cells #[.int .i64 kd, .int .i64 bx, .int .i64 gd, .int .i64 fl, .string tx] 26)) (.cells #[.int .i64 kd, .int .i64 bx, .int .i64 gd, .int .i64 fl, .string tx] 26))
  go_enter Tryz.func14, Tryz.ntmps14
  go_wp2
  go_ret
  exact ⟨rfl, B1.out⟩
set_option maxHeartbeats 1600000 in
set_option maxRecDepth 100000 in
theorem lawCallOk_any (kd bx gd fl : Int) (tx : ByteArray) (w : World) (hm : tx.size ≤ maxLen) (hn : Nib w) :
    Calls Tryz.prog 3 #[.agg #[.int .i64 kd, .int .i64 bx, .int .i64 gd, .int .i64 fl, .string tx]] w fun e w' => e = .returned (.bool true) ∧ Below w.heap.size w w' := by
  have X0 := hid (Cx.new w 23 kd bx gd fl tx)
  have c0 := X0.out.cells
  have B0 := hid (bpush (bre w) (.cells #[.int .i64 kd, .int .i64 bx, .int .i64 gd, .int .i64 fl, .string tx] 23))
  have CZ := hid (fun (W : World) => szCall_any kd bx gd fl tx W hm)
  have N0 := hid (hn.on B0.out)
  clear hm hn
  by_cases h : tx.size ≤ 1048576
  · rw [if_pos h] at CZ
    have HT := hid h
    obtain ⟨z, hz⟩ : ∃ z : Int, 1048576 - (tx.size : Int) = z := ⟨_, rfl⟩
    have hz0 : ¬ z < 0 := by omega
    rw [hz] at CZ
    clear h hz
    obtain ⟨q, hq⟩ : ∃ q, cok kd bx gd fl tx = q := ⟨_, rfl⟩
    have CS := hid (fun (W : World) => specCallOk_any kd bx gd fl tx W HT.out)
    have CI := hid (fun (W : World) (h : Nib W) => implCallOk_any kd bx gd fl tx W HT.out h)
    rw [hq] at CS CI
    clear hq
    go_enter Tryz.func3, Tryz.ntmps3
    go_wp2_with fail
    refine (CZ.out _).mono ?_; rintro e w1 ⟨rfl, hb⟩
    have B1 := hid (btr B0.out hb); have N1 := hid (N0.out.on hb); have X1 := hid (X0.out.later hb)
    clear hb c0 B0 N0 X0
    have c0 := X1.out.cells
    go_wp2_with fail
    refine (toCall_any kd bx gd fl tx _).mono ?_; rintro e w2 ⟨rfl, hb⟩
    have B2 := hid (btr B1.out hb); have N2 := hid (N1.out.on hb); have X2 := hid (X1.out.later hb)
    clear hb c0 B1 N1 X1
    have c0 := X2.out.cells
    go_wp2_with fail
    refine (CS.out _).mono ?_; rintro e w3 ⟨rfl, hb⟩
    have B3 := hid (btr B2.out hb); have N3 := hid (N2.out.on hb); have X3 := hid (X2.out.later hb)
    clear hb c0 B2 N2 X2
    have c0 := X3.out.cells
    go_wp2_with fail
    refine (toCall_any kd bx gd fl tx _).mono ?_; rintro e w4 ⟨rfl, hb⟩
    have B4 := hid (btr B3.out hb); have N4 := hid (N3.out.on hb); have X4 := hid (X3.out.later hb)
    clear hb c0 B3 N3 X3
    have c0 := X4.out.cells
    go_wp2_with fail
    refine (CI.out _ N4.out).mono ?_; rintro e w5 ⟨rfl, hb⟩
    have B5 := hid (btr B4.out hb)
    clear hb c0 B4 N4 X4
    cases q
    · go_wp2
      go_ret
      exact ⟨rfl, B5.out⟩
    · go_wp2
      go_ret
      exact ⟨rfl, B5.out⟩
  · rw [if_neg h] at CZ
    clear h
    go_enter Tryz.func3, Tryz.ntmps3
    go_wp2_with fail
    refine (CZ.out _).mono ?_; rintro e w1 ⟨rfl, hb⟩
    have B1 := hid (btr B0.out hb)
    clear hb c0 B0
    go_wp2
    go_ret
    exact ⟨rfl, B1.out⟩
set_option maxHeartbeats 1600000 in
set_option maxRecDepth 100000 in
theorem lawCallText_any (kd bx gd fl : Int) (tx : ByteArray) (w : World) (hm : tx.size ≤ maxLen) (hn : Nib w) :
    Calls Tryz.prog 4 #[.agg #[.int .i64 kd, .int .i64 bx, .int .i64 gd, .int .i64 fl, .string tx]] w fun e w' => e = .returned (.bool true) ∧ Below w.heap.size w w' := by
  have X0 := hid (Cx.new w 23 kd bx gd fl tx)
  have c0 := X0.out.cells
  have B0 := hid (bpush (bre w) (.cells #[.int .i64 kd, .int .i64 bx, .int .i64 gd, .int .i64 fl, .string tx] 23))
  have CZ := hid (fun (W : World) => szCall_any kd bx gd fl tx W hm)
  have N0 := hid (hn.on B0.out)
  clear hm hn
  by_cases h : tx.size ≤ 1048576
  · rw [if_pos h] at CZ
    have HT := hid h
    obtain ⟨z, hz⟩ : ∃ z : Int, 1048576 - (tx.size : Int) = z := ⟨_, rfl⟩
    have hz0 : ¬ z < 0 := by omega
    rw [hz] at CZ
    clear h hz
    obtain ⟨x, q, hq⟩ : ∃ x q, ctR kd bx gd fl tx = .tuple #[.string x, .bool q] := by
      unfold ctR
      split
      · exact ⟨_, _, rfl⟩
      · exact ⟨_, _, rfl⟩
    have CS := hid (fun (W : World) => specCallText_any kd bx gd fl tx W HT.out)
    have CI := hid (fun (W : World) (h : Nib W) => implCallText_any kd bx gd fl tx W HT.out h)
    rw [hq] at CS CI
    clear hq
    go_enter Tryz.func4, Tryz.ntmps4
    go_wp2_with fail
    refine (CZ.out _).mono ?_; rintro e w1 ⟨rfl, hb⟩
    have B1 := hid (btr B0.out hb); have N1 := hid (N0.out.on hb); have X1 := hid (X0.out.later hb)
    clear hb c0 B0 N0 X0
    have c0 := X1.out.cells
    go_wp2_with fail
    refine (toCall_any kd bx gd fl tx _).mono ?_; rintro e w2 ⟨rfl, hb⟩
    have B2 := hid (btr B1.out hb); have N2 := hid (N1.out.on hb); have X2 := hid (X1.out.later hb)
    clear hb c0 B1 N1 X1
    have c0 := X2.out.cells
    go_wp2_with fail
    refine (CS.out _).mono ?_; rintro e w3 ⟨rfl, hb⟩
    have B3 := hid (btr B2.out hb); have N3 := hid (N2.out.on hb); have X3 := hid (X2.out.later hb)
    clear hb c0 B2 N2 X2
    have c0 := X3.out.cells
    go_wp2_with fail
    refine (toCall_any kd bx gd fl tx _).mono ?_; rintro e w4 ⟨rfl, hb⟩
    have B4 := hid (btr B3.out hb); have N4 := hid (N3.out.on hb); have X4 := hid (X3.out.later hb)
    clear hb c0 B3 N3 X3
    have c0 := X4.out.cells
    go_wp2_with fail
    refine (CI.out _ N4.out).mono ?_; rintro e w5 ⟨rfl, hb⟩
    have B5 := hid (btr B4.out hb)
    clear hb c0 B4 N4 X4
    cases q
    · go_wp2
      go_ret
      exact ⟨rfl, B5.out⟩
    · go_wp2
      go_ret
      exact ⟨rfl, B5.out⟩
  · rw [if_neg h] at CZ
    clear h
    go_enter Tryz.func4, Tryz.ntmps4
    go_wp2_with fail
    refine (CZ.out _).mono ?_; rintro e w1 ⟨rfl, hb⟩
    have B1 := hid (btr B0.out hb)
    clear hb c0 B0
    go_wp2
    go_ret
    exact ⟨rfl, B1.out⟩
theorem RcPost.letters (s : ByteArray) : ∃ (kd bx gd fl : Int) (tx : ByteArray) (q : Bool), ∀ w e w', RcPost s w e w' → e = .returned (.tuple #[.agg #[.int .i64 kd, .int .i64 bx, .int .i64 gd, .int .i64 fl, .string tx], .bool q]) ∧ Below w.heap.size w w' := by
  cases h : rca s with
  | none =>
    refine ⟨0, 0, 0, 0, ⟨#[]⟩, false, ?_⟩
    rintro w e w' (⟨_, rfl, hb⟩ | ⟨kd, bx, gd, fl, tx, h2, _⟩)
    · exact ⟨rfl, hb⟩
    · rw [h] at h2; cases h2
  | some p =>
    obtain ⟨kd, bx, gd, fl, tx⟩ := p
    refine ⟨kd, bx, gd, fl, tx, true, ?_⟩
    rintro w e w' (⟨h2, _⟩ | ⟨_, _, _, _, _, h2, rfl, hb⟩)
    · rw [h] at h2; cases h2
    · rw [h] at h2
      simp only [Option.some.injEq, Prod.mk.injEq] at h2
      obtain ⟨rfl, rfl, rfl, rfl, rfl⟩ := h2
      exact ⟨rfl, hb⟩
set_option maxHeartbeats 1600000 in
set_option maxRecDepth 100000 in
theorem lawReadCall_any (s : ByteArray) (w : World) (hm : s.size ≤ maxLen) (hn : Nib w) :
    Calls Tryz.prog 5 #[.string s] w fun e w' => e = .returned (.bool true) ∧ Below w.heap.size w w' := by
  have N0 := hid hn
  have hm2 : (s.size : Int) ≤ 9223372036854775807 := by unfold maxLen at hm; omega
  by_cases h : s.size ≤ 1048576
  · obtain ⟨kd, bx, gd, fl, tx, q, hP⟩ := RcPost.letters s
    have CS := hid (fun (W : World) => (specReadCall_any s W h).mono (fun _ _ h => hP _ _ _ h))
    have CI := hid (fun (W : World) (hn : Nib W) => (implReadCall_any s W h hn).mono (fun _ _ h => hP _ _ _ h))
    have h2 : ¬ (1048576 : Int) < (s.size : Int) := by omega
    clear hn hm hm2 h hP
    go_enter Tryz.func5, Tryz.ntmps5
    go_wp2_with fail
    refine (CS.out _).mono ?_; rintro e w1 ⟨rfl, hb⟩
    have hb2 := bpush hb (.cells #[.int .i64 kd, .int .i64 bx, .int .i64 gd, .int .i64 fl, .string tx] 26)
    have X1 := hid (Cx.new w1 26 kd bx gd fl tx)
    have N1 := hid (N0.out.on hb2)
    have B1 := hid hb2
    clear hb hb2 N0
    go_wp2_with fail
    refine (CI.out _ N1.out).mono ?_; rintro e w2 ⟨rfl, hb⟩
    have X2 := hid (X1.out.later (bpush hb (.cells #[.int .i64 kd, .int .i64 bx, .int .i64 gd, .int .i64 fl, .string tx] 26)))
    have Y2 := hid (Cx.new w2 26 kd bx gd fl tx)
    have B2 := hid (btr B1.out (bpush hb (.cells #[.int .i64 kd, .int .i64 bx, .int .i64 gd, .int .i64 fl, .string tx] 26)))
    clear hb X1 N1 B1
    have c1 := X2.out.cells
    have c2 := Y2.out.cells
    cases q
    · go_wp2_with fail
      refine (eqCall_same kd bx gd fl tx _).mono ?_; rintro e w3 ⟨rfl, hb⟩
      have B3 := hid (btr B2.out hb)
      clear hb c1 c2
      go_wp2
      go_ret
      exact ⟨rfl, B3.out⟩
    · go_wp2_with fail
      refine (eqCall_same kd bx gd fl tx _).mono ?_; rintro e w3 ⟨rfl, hb⟩
      have B3 := hid (btr B2.out hb)
      clear hb c1 c2
      go_wp2
      go_ret
      exact ⟨rfl, B3.out⟩
  · have h2 : (1048576 : Int) < (s.size : Int) := by omega
    clear hn hm hm2 h
    go_enter Tryz.func5, Tryz.ntmps5
    go_wp2
    go_ret
    exact ⟨rfl, bre _⟩
end Go.Proofs.YtlhofbnnonljaaaGreatDoor
namespace Go.Proofs.YtlhofbnnonljaaaGreatDoor
open Go.ChangeShapes Go.WideShapes Go.ChangeAt Go.RowKit Go.Joins
theorem cellsIn5 : Tryz.prog.cellsOf 3 = 1 := by kernel_rfl
theorem cellsTx5 : Tryz.prog.cellsOf 9 = 1 := by kernel_rfl
theorem cellsCl : Tryz.prog.cellsOf 23 = 5 := by kernel_rfl
theorem array5 {α : Type} {cs : Array α} (h : cs.size = 5) : ∃ c0 c1 c2 c3 c4, cs = #[c0, c1, c2, c3, c4] := by
  obtain ⟨l⟩ := cs
  match l, h with
  | [c0, c1, c2, c3, c4], _ => exact ⟨c0, c1, c2, c3, c4, rfl⟩
set_option maxRecDepth 100000 in
theorem openCl {H : Type} {enc : TypeId × Value → H} {w : World} {spr : Nat → Bool} {held : Bool} {base : Nat} {v : Value} {d : DataW H} {p : List MemPlace} (hv : Value.okWide Tryz.prog w .any base 23 v) (h : DataW.Trod enc Tryz.prog w 0 spr held 23 v d p) :
    ∃ (kd bx gd fl : Int) (t : ByteArray), v = .agg #[.int .i64 kd, .int .i64 bx, .int .i64 gd, .int .i64 fl, .string t] ∧ t.size ≤ maxLen := by
  obtain ⟨cs, rfl, hsz⟩ := okWide_struct Tryz.underlying23 hv
  obtain ⟨fuel, hf⟩ := h
  rw [cellsCl] at hsz
  obtain ⟨c0, c1, c2, c3, c4, rfl⟩ := array5 hsz
  obtain ⟨xs, n, _, _, _, hlen, hx⟩ := DataW.trod_struct Tryz.underlying23 hf
  match xs, hlen with
  | [y0, y1, y2, y3, y4], _ =>
    have k0 : DataW.trod enc Tryz.prog w 0 spr held n 3 [c0] = some y0 := by simpa [cellsIn5, Value.cells] using hx 0 _ rfl
    have k1 : DataW.trod enc Tryz.prog w 0 spr held n 3 [c1] = some y1 := by simpa [cellsIn5, Value.cells] using hx 1 _ rfl
    have k2 : DataW.trod enc Tryz.prog w 0 spr held n 3 [c2] = some y2 := by simpa [cellsIn5, Value.cells] using hx 2 _ rfl
    have k3 : DataW.trod enc Tryz.prog w 0 spr held n 3 [c3] = some y3 := by simpa [cellsIn5, Value.cells] using hx 3 _ rfl
    have k4 : DataW.trod enc Tryz.prog w 0 spr held n 9 [c4] = some y4 := by simpa [cellsTx5, Value.cells] using hx 4 _ rfl
    obtain ⟨kd, e0, _, _⟩ := DataW.trod_int Tryz.underlying3 k0
    obtain ⟨bx, e1, _, _⟩ := DataW.trod_int Tryz.underlying3 k1
    obtain ⟨gd, e2, _, _⟩ := DataW.trod_int Tryz.underlying3 k2
    obtain ⟨fl, e3, _, _⟩ := DataW.trod_int Tryz.underlying3 k3
    obtain ⟨t, e4, _, ht⟩ := DataW.trod_string Tryz.underlying9 k4
    simp only [List.cons.injEq, and_true] at e0 e1 e2 e3 e4
    subst e0 e1 e2 e3 e4
    exact ⟨kd, bx, gd, fl, t, rfl, ht⟩
end Go.Proofs.YtlhofbnnonljaaaGreatDoor
