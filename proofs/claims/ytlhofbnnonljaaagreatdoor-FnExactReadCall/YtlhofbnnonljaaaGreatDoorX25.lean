/- Ch, Ci, Cj. -/
import Derived.Test.YtlhofbnnonljaaaGreatDoorX24
namespace Go.Proofs.YtlhofbnnonljaaaGreatDoor
open Go.RowKit Go.ChangeMaps
abbrev Cl5 := Int × Int × Int × Int × ByteArray
def rq2 (s : ByteArray) (a : Int) : Option (((Unit × Int) × Int) × Int) := (rh1 s a).bind fun p => (rd s p.2).map fun q => ((p.1, q.1), q.2)
def rq3 (s : ByteArray) (a : Int) : Option ((((Unit × Int) × Int) × Int) × Int) := (rq2 s a).bind fun p => (rd s p.2).map fun q => ((p.1, q.1), q.2)
def rq4 (s : ByteArray) (a : Int) : Option (((((Unit × Int) × Int) × Int) × ByteArray) × Int) := (rq3 s a).bind fun p => (rsh s p.2).map fun q => ((p.1, q.1), q.2)
/-- The call that is read, its kind told. -/
def rcl (kd : Int) (s : ByteArray) : Option Cl5 :=
  (rq4 s 1).bind fun p => if p.2 = (s.size : Int) ∧ cok kd p.1.1.1.1.2 p.1.1.1.2 p.1.1.2 p.1.2 = true then some (kd, p.1.1.1.1.2, p.1.1.1.2, p.1.1.2, p.1.2) else none
theorem rcl_bad {kd : Int} {s : ByteArray} (h : rq4 s 1 = none) : rcl kd s = none := by unfold rcl; rw [h]; rfl
theorem rcl_no {kd : Int} {s : ByteArray} {bx gd fl : Int} {tx : ByteArray} {c : Int} (h : rq4 s 1 = some (((((((), bx), gd), fl)), tx), c)) (hn : ¬ (c = (s.size : Int) ∧ cok kd bx gd fl tx = true)) : rcl kd s = none := by unfold rcl; rw [h]; exact if_neg hn
theorem rcl_yes {kd : Int} {s : ByteArray} {bx gd fl : Int} {tx : ByteArray} {c : Int} (h : rq4 s 1 = some (((((((), bx), gd), fl)), tx), c)) (hy : c = (s.size : Int) ∧ cok kd bx gd fl tx = true) : rcl kd s = some (kd, bx, gd, fl, tx) := by unfold rcl; rw [h]; exact if_pos hy
/-- The call that stands in a text, whole. -/
def rca (s : ByteArray) : Option Cl5 := if h : 0 < s.size then rcl (s[0].toNat : Int) s else none
def RcPost (s : ByteArray) (w : World) (e : Ending) (w' : World) : Prop :=
  (rca s = none ∧ e = .returned (.tuple #[.agg #[.int .i64 0, .int .i64 0, .int .i64 0, .int .i64 0, .string ⟨#[]⟩], .bool false]) ∧ Below w.heap.size w w') ∨
  (∃ kd bx gd fl tx, rca s = some (kd, bx, gd, fl, tx) ∧ e = .returned (.tuple #[.agg #[.int .i64 kd, .int .i64 bx, .int .i64 gd, .int .i64 fl, .string tx], .bool true]) ∧ Below w.heap.size w w')
/-- The memory of a call that reads a call. -/
structure Rcs (w W : World) (kb : Nat) (s : ByteArray) (kd bx gd fl : Int) (tx : ByteArray) (c : Int) (bad : Bool) : Prop where
  zero : Cx W w.heap.size 26 0 0 0 0 ⟨#[]⟩
  cur : Cg W (w.heap.size + 1) s c bad
  box : Cx W kb 26 kd bx gd fl tx
  far : w.heap.size + 1 < kb
  bel : Below w.heap.size w W
section
variable {w W W' : World} {kb : Nat} {s : ByteArray} {kd bx gd fl : Int} {tx : ByteArray} {c : Int} {bad : Bool}
theorem Rcs.later (h : Rcs w W kb s kd bx gd fl tx c bad) (hb : Below W.heap.size W W') : Rcs w W' kb s kd bx gd fl tx c bad :=
  ⟨h.zero.later hb, h.cur.later hb, h.box.later hb, h.far, btr h.bel hb⟩
theorem Rcs.read {c' : Int} {bad' : Bool} (h : Rcs w W kb s kd bx gd fl tx c bad) (hg : W.grownBy W' (some (w.heap.size + 1))) (hc : Cg W' (w.heap.size + 1) s c' bad') : Rcs w W' kb s kd bx gd fl tx c' bad' :=
  have hf := h.far
  ⟨h.zero.grown hg (by simp), hc, h.box.grown hg (by simp; omega), h.far, h.bel.trans (below_grownR hg (by intro j hj; simp at hj; omega) h.bel.size)⟩
theorem Rcs.put {i : Nat} {x : Value} {kd' bx' gd' fl' : Int} {tx' : ByteArray} (h : Rcs w W kb s kd bx gd fl tx c bad) (hx : Cx (W.setCell ⟨kb, i, none⟩ x) kb 26 kd' bx' gd' fl' tx') : Rcs w (W.setCell ⟨kb, i, none⟩ x) kb s kd' bx' gd' fl' tx' c bad :=
  have hf := h.far
  ⟨heap_setCell_far x h.zero (by omega), h.cur.far x (by omega), hx, h.far, bsk h.bel (by omega) i x⟩
theorem Rcs.fill (h : Rcs w W kb s kd bx gd fl tx c bad) (x y : Int) : Rcs w (((((W.setCell ⟨kb, 0, none⟩ (.int .i64 x)).setCell ⟨kb, 1, none⟩ (.int .i64 y)).setCell ⟨kb, 2, none⟩ (.int .i64 0)).setCell ⟨kb, 3, none⟩ (.int .i64 0)).setCell ⟨kb, 4, none⟩ (.string ⟨#[]⟩)) kb s x y 0 0 ⟨#[]⟩ c bad :=
  have h1 := h.put (heap_setCell_same _ kb 0 _ _ (.int .i64 x) h.box)
  have h2 := h1.put (heap_setCell_same _ kb 1 _ _ (.int .i64 y) h1.box)
  have h3 := h2.put (h2.box.s2 0)
  have h4 := h3.put (h3.box.s3 0)
  h4.put (h4.box.s4 ⟨#[]⟩)
end
theorem wrap_byte (b : UInt8) : IntKind.i64.wrap (b.toNat : Int) = (b.toNat : Int) := by
  have h := b.toNat_lt
  exact wrap_small _ (by omega) (by omega)
set_option maxHeartbeats 16000000 in
set_option maxRecDepth 100000 in
theorem specReadCall_any (s : ByteArray) (w : World) (hs : s.size ≤ 1048576) :
    Calls Tryz.prog 12 #[.string s] w fun e w' => RcPost s w e w' := by
  have HSZ := hid hs
  have X0 := hid (Cx.new w 26 0 0 0 0 ⟨#[]⟩)
  have B0 := hid (bpush (bre w) (.cells #[.int .i64 0, .int .i64 0, .int .i64 0, .int .i64 0, .string ⟨#[]⟩] 26))
  by_cases hz : s = ⟨#[]⟩
  · have HNO : Hid (rca s = none) := hid (by rw [hz]; rfl)
    have c0 := X0.out.cells
    have f0 := X0.out.loose
    have hX := Cx.set5 X0.out 0 0 0 0 ⟨#[]⟩
    have d := hX.cells
    have hg7 := (wst (wst (wst (wst (wst (wre (w.alloc (.cells #[.int .i64 0, .int .i64 0, .int .i64 0, .int .i64 0, .string ⟨#[]⟩] 26)) (some w.heap.size)) 0 (.int .i64 0)) 1 (.int .i64 0)) 2 (.int .i64 0)) 3 (.int .i64 0)) 4 (.string ⟨#[]⟩))
    have HG := hid hg7
    clear hs hX hg7
    subst hz
    go_enter Tryz.func12, Tryz.ntmps12
    go_wp2
    exact bodyPost_ret (v := .tuple #[.agg #[.int .i64 0, .int .i64 0, .int .i64 0, .int .i64 0, .string ⟨#[]⟩], .bool false]) (by simp [results, Tryz.results12, go_sem]) rfl (Or.inl ⟨HNO.out, rfl, B0.out⟩)
  have hz2 : s.toList ≠ [] := fun h => hz (bytes_eq (by rw [h]; simp))
  have hz3 : s.toList.isEmpty = false := by
    cases h : s.toList with
    | nil => exact absurd h hz2
    | cons _ _ => rfl
  clear hz2
  have hz0 : 0 < s.size := by
    rcases Nat.eq_zero_or_pos s.size with h | h
    · exact absurd (ByteArray.ext (Array.eq_empty_of_size_eq_zero h)) hz
    · exact h
  obtain ⟨b, hb⟩ : ∃ b : UInt8, s[0] = b := ⟨_, rfl⟩
  obtain ⟨kd, hkd⟩ : ∃ k : Int, (b.toNat : Int) = k := ⟨_, rfl⟩
  have HR : Hid (rca s = rcl kd s) := hid (by unfold rca; rw [dif_pos hz0, hb, hkd])
  have HBB := hid hb
  have HKD := hid hkd
  have HWK : Hid (IntKind.i64.wrap (b.toNat : Int) = kd) := hid (by rw [← hkd]; exact wrap_byte b)
  obtain ⟨W0, hW0⟩ : ∃ W0, (w.alloc (.cells #[.int .i64 0, .int .i64 0, .int .i64 0, .int .i64 0, .string ⟨#[]⟩] 26)).alloc (.cells #[.string s, .int .i64 1, .bool false] 47) = W0 := ⟨_, rfl⟩
  have Y0 : Hid (Cx W0 w.heap.size 26 0 0 0 0 ⟨#[]⟩) := by subst hW0; exact X0.out.later (bpush (bre _) _)
  have C0 : Hid (Cg W0 (w.heap.size + 1) s 1 false) := by subst hW0; show Cg _ _ _ _ _; simpa using Cg.new (w.alloc (.cells #[.int .i64 0, .int .i64 0, .int .i64 0, .int .i64 0, .string ⟨#[]⟩] 26)) s 1 false
  have D0 : Hid (Below w.heap.size w W0) := by subst hW0; exact bpush (bpush (bre _) _) _
  clear hs B0 X0 hkd
  go_enter Tryz.func12, Tryz.ntmps12
  go_wp2_with fail
  try rw [hW0]
  clear hW0
  refine wp_region_noPanic ?_
  refine wp_region_held_drew (S := fun _ => True) (by kernel_rfl) trivial (fun hHeld => ?_)
  obtain ⟨v0, hv0⟩ : ∃ x, W0.drew = x := ⟨_, rfl⟩
  replace Y0 := hid (Y0.out.later (bdr (bre _)))
  replace C0 := hid (C0.out.later (bdr (bre _)))
  replace D0 := hid (btr D0.out (bdr (bre _)))
  rw [hv0] at Y0 C0 D0
  rw [hv0]
  clear hv0
  refine tk 0 ?_
  refine tk 1 ?_
  refine tk 2 ?_
  refine tk 3 ?_
  rw [HWK.out]
  clear hHeld
  refine wpAnyH_ready (rs := [4, 6]) (by kernel_rfl) (by simp) (rc (fun K hK => ?_) (rl (fun K hK => ?_)))
  · skip
    go_simp
    refine (l05Var_any _ s 1 false _ HSZ.out C0.out).mono ?_; rintro e w1 ⟨bx, c1, bad1, rfl, hc1, hn1, hg1⟩
    have K1 : Hid (Rk (rh1 s 1) ((), bx) c1 bad1) := (Rk.start 1).var hn1
    have R1 : Hid (Rcs w (w1.alloc (.cells #[.int .i64 kd, .int .i64 bx, .int .i64 0, .int .i64 0, .string ⟨#[]⟩] 26)) w1.heap.size s kd bx 0 0 ⟨#[]⟩ c1 bad1) :=
      hid ⟨(Y0.out.grown hg1 (by simp)).later (bpush (bre _) _), hc1.later (bpush (bre _) _), Cx.new w1 _ _ _ _ _ _, hc1.lt, btr (D0.out.trans (below_grownR hg1 (by intro j hj; simp at hj; omega) D0.out.size)) (bpush (bre _) _)⟩
    clear hc1 hn1 hg1 Y0 C0 D0
    go_wp2_with fail
    refine hK.out _ _ trivial (fun hHeld => ?_)
    clear hK K
    try simp only [Act.put, List.setIfInBounds_toArray, List.set_cons_zero, List.set_cons_succ]
    refine tk 5 ?_
    clear hHeld
    refine ry 6 (fun K hK => ?_)
    go_simp
    refine hK.out _ _ trivial (fun hHeld => ?_)
    clear hK K hHeld
    try simp only [Act.put, List.setIfInBounds_toArray, List.set_cons_zero, List.set_cons_succ]
    refine ry 7 (fun K hK => ?_)
    go_simp
    obtain ⟨kb, hkb⟩ : ∃ k, w1.heap.size = k := ⟨_, rfl⟩
    obtain ⟨W1, hW1⟩ : ∃ W, w1.alloc (.cells #[.int .i64 kd, .int .i64 bx, .int .i64 0, .int .i64 0, .string ⟨#[]⟩] 26) = W := ⟨_, rfl⟩
    rw [hW1, hkb] at R1
    rw [hW1, hkb]
    clear hW1 hkb
    refine hK.out _ _ trivial (fun hHeld => ?_)
    clear hK K hHeld
    refine wpAnyH_done (by kernel_rfl) ?_ _
    refine NoPanic.normal ?_
    go_wp2_with fail
    refine (l05Var_any _ s c1 bad1 _ HSZ.out R1.out.cur).mono ?_; rintro e w2 ⟨gd, c2, bad2, rfl, hc, hn, hg⟩
    have K2 : Hid (Rk (rq2 s 1) (((), bx), gd) c2 bad2) := K1.out.var hn
    have R2 := hid (R1.out.read hg hc)
    have d8 := R2.out.box.cells
    have f8 := R2.out.box.loose
    have Q2 := hid (R2.out.put (R2.out.box.s2 gd))
    clear hc hn hg K1 R1
    go_wp2_with fail
    clear d8 f8 R2
    refine (l05Var_any _ s c2 bad2 _ HSZ.out Q2.out.cur).mono ?_; rintro e w3 ⟨fl, c3, bad3, rfl, hc, hn, hg⟩
    have K3 : Hid (Rk (rq3 s 1) ((((), bx), gd), fl) c3 bad3) := K2.out.var hn
    have R3 := hid (Q2.out.read hg hc)
    have d8 := R3.out.box.cells
    have f8 := R3.out.box.loose
    have Q3 := hid (R3.out.put (R3.out.box.s3 fl))
    clear hc hn hg K2 Q2
    go_wp2_with fail
    clear d8 f8 R3
    refine (l05Short_any _ s c3 bad3 _ HSZ.out Q3.out.cur).mono ?_; rintro e w4 ⟨tx, c4, bad4, rfl, hc, hn, hg⟩
    have K4 : Hid (Rk (rq4 s 1) (((((), bx), gd), fl), tx) c4 bad4) := K3.out.short hn
    have HTX : Hid (tx.size ≤ 1048576) := hid (by
      rcases hn with ⟨_, _, h⟩ | ⟨_, h, _⟩
      · have := rsh_size h; have := HSZ.out; omega
      · rw [h]; decide)
    have R4 := hid (Q3.out.read hg hc)
    have d8 := R4.out.box.cells
    have f8 := R4.out.box.loose
    have Q4 := hid (R4.out.put (R4.out.box.s4 tx))
    clear hc hn hg K3 Q3
    go_upto_region 8 with fail
    clear d8 f8 R4
    obtain ⟨W4, hW4⟩ : ∃ W, w4.setCell ⟨kb, 4, none⟩ (.string tx) = W := ⟨_, rfl⟩
    rw [hW4] at Q4
    rw [hW4]
    clear hW4
    have d8 := Q4.out.box.cells
    have e8 := Q4.out.cur.cells
    have d4 := Q4.out.zero.cells
    have f4 := Q4.out.zero.loose
    have LF : Hid (w.heap.size + 1 < kb) := hid Q4.out.far
    cases bad4
    · have HK : Hid (rq4 s 1 = some (((((((), bx), gd), fl)), tx), c4)) := hid (by rcases K4.out with ⟨_, h⟩ | ⟨h, _⟩ <;> first | exact h | cases h)
      clear K4
      by_cases hc : c4 = (s.size : Int)
      · have CB := specCallOk_any kd bx gd fl tx W4 HTX.out
        have HC := hid hc
        obtain ⟨q, hq⟩ : ∃ q, cok kd bx gd fl tx = q := ⟨_, rfl⟩
        rw [hq] at CB
        go_wp2_with fail
        refine CB.mono ?_; rintro e w5 ⟨rfl, hb5⟩
        have R5 := hid (Q4.out.later hb5)
        clear hb5 d8 e8 d4 f4 Q4 CB
        have d8 := R5.out.box.cells
        have d4 := R5.out.zero.cells
        have f4 := R5.out.zero.loose
        cases q
        · have HNO : Hid (rca s = none) := hid (by rw [HR.out]; exact rcl_no HK.out (by rw [hq]; simp))
          clear hq
          go_wp2
          have hX := Cx.set5 R5.out.zero 0 0 0 0 ⟨#[]⟩
          have d := hX.cells
          refine bodyPost_ret (v := .tuple #[.agg #[.int .i64 0, .int .i64 0, .int .i64 0, .int .i64 0, .string ⟨#[]⟩], .bool false]) (by simp [results, Tryz.results12, go_sem, d]) rfl (Or.inl ⟨HNO.out, rfl, ?_⟩)
          exact R5.out.bel.trans (below_grownR (wst (wst (wst (wst (wst (wre w5 (some w.heap.size)) 0 (.int .i64 0)) 1 (.int .i64 0)) 2 (.int .i64 0)) 3 (.int .i64 0)) 4 (.string ⟨#[]⟩)) (by intro j hj; simp at hj; omega) R5.out.bel.size)
        · have HY : Hid (rca s = some (kd, bx, gd, fl, tx)) := hid (by rw [HR.out]; exact rcl_yes HK.out ⟨HC.out, hq⟩)
          clear hq
          go_wp2
          have hX := Cx.set5 R5.out.zero kd bx gd fl tx
          have d := hX.cells
          refine bodyPost_ret (v := .tuple #[.agg #[.int .i64 kd, .int .i64 bx, .int .i64 gd, .int .i64 fl, .string tx], .bool true]) (by simp [results, Tryz.results12, go_sem, d]) rfl (Or.inr ⟨kd, bx, gd, fl, tx, HY.out, rfl, ?_⟩)
          exact R5.out.bel.trans (below_grownR (wst (wst (wst (wst (wst (wre w5 (some w.heap.size)) 0 (.int .i64 kd)) 1 (.int .i64 bx)) 2 (.int .i64 gd)) 3 (.int .i64 fl)) 4 (.string tx)) (by intro j hj; simp at hj; omega) R5.out.bel.size)
      · have HNO : Hid (rca s = none) := hid (by rw [HR.out]; exact rcl_no HK.out (fun h => hc h.1))
        go_wp2
        have hX := Cx.set5 Q4.out.zero 0 0 0 0 ⟨#[]⟩
        have d := hX.cells
        refine bodyPost_ret (v := .tuple #[.agg #[.int .i64 0, .int .i64 0, .int .i64 0, .int .i64 0, .string ⟨#[]⟩], .bool false]) (by simp [results, Tryz.results12, go_sem, d]) rfl (Or.inl ⟨HNO.out, rfl, ?_⟩)
        exact Q4.out.bel.trans (below_grownR (wst (wst (wst (wst (wst (wre W4 (some w.heap.size)) 0 (.int .i64 0)) 1 (.int .i64 0)) 2 (.int .i64 0)) 3 (.int .i64 0)) 4 (.string ⟨#[]⟩)) (by intro j hj; simp at hj; omega) Q4.out.bel.size)
    · have HNO : Hid (rca s = none) := hid (by rw [HR.out]; exact rcl_bad (by rcases K4.out with ⟨h, _⟩ | ⟨_, h⟩ <;> first | exact h | cases h))
      go_wp2
      have hX := Cx.set5 Q4.out.zero 0 0 0 0 ⟨#[]⟩
      have d := hX.cells
      refine bodyPost_ret (v := .tuple #[.agg #[.int .i64 0, .int .i64 0, .int .i64 0, .int .i64 0, .string ⟨#[]⟩], .bool false]) (by simp [results, Tryz.results12, go_sem, d]) rfl (Or.inl ⟨HNO.out, rfl, ?_⟩)
      exact Q4.out.bel.trans (below_grownR (wst (wst (wst (wst (wst (wre W4 (some w.heap.size)) 0 (.int .i64 0)) 1 (.int .i64 0)) 2 (.int .i64 0)) 3 (.int .i64 0)) 4 (.string ⟨#[]⟩)) (by intro j hj; simp at hj; omega) Q4.out.bel.size)
  · skip
    go_simp
    have hbx := bpush (bre v0) (.cells #[.int .i64 0, .int .i64 0, .int .i64 0, .int .i64 0, .string ⟨#[]⟩] 26)
    have XK : Hid (Cx (v0.alloc (.cells #[.int .i64 0, .int .i64 0, .int .i64 0, .int .i64 0, .string ⟨#[]⟩] 26)) v0.heap.size 26 0 0 0 0 ⟨#[]⟩) := hid (Cx.new v0 _ _ _ _ _ _)
    have hlt := C0.out.lt
    replace Y0 := hid (Y0.out.later hbx)
    replace C0 := hid (C0.out.later hbx)
    replace D0 := hid (btr D0.out hbx)
    have LF : Hid (w.heap.size + 1 < v0.heap.size) := hid hlt
    obtain ⟨v1, hv1⟩ : ∃ x, v0.alloc (.cells #[.int .i64 0, .int .i64 0, .int .i64 0, .int .i64 0, .string ⟨#[]⟩] 26) = x := ⟨_, rfl⟩
    obtain ⟨kb, hkb⟩ : ∃ x, v0.heap.size = x := ⟨_, rfl⟩
    rw [hv1] at XK Y0 C0 D0
    rw [hkb] at XK LF
    rw [hv1, hkb]
    clear hbx hv1 hkb hlt
    refine hK.out _ _ trivial (fun hHeld => ?_)
    clear hK K hHeld
    try simp only [Act.put, List.setIfInBounds_toArray, List.set_cons_zero, List.set_cons_succ]
    refine ry 4 (fun K hK => ?_)
    go_simp
    refine (l05Var_any _ s 1 false _ HSZ.out C0.out).mono ?_; rintro e w1 ⟨bx, c1, bad1, rfl, hc1, hn1, hg1⟩
    have K1 : Hid (Rk (rh1 s 1) ((), bx) c1 bad1) := (Rk.start 1).var hn1
    have lf := LF.out
    have R0 : Hid (Rcs w w1 kb s 0 0 0 0 ⟨#[]⟩ c1 bad1) := hid ⟨Y0.out.grown hg1 (by simp), hc1, XK.out.grown hg1 (by simp; omega), lf, D0.out.trans (below_grownR hg1 (by intro j hj; simp at hj; omega) D0.out.size)⟩
    clear hc1 hn1 hg1 Y0 C0 D0 XK
    go_wp2_with fail
    refine hK.out _ _ trivial (fun hHeld => ?_)
    clear hK K
    try simp only [Act.put, List.setIfInBounds_toArray, List.set_cons_zero, List.set_cons_succ]
    refine tk 5 ?_
    clear hHeld
    have d8 := R0.out.box.cells
    have f8 := R0.out.box.loose
    have R1 := hid (R0.out.fill kd bx)
    refine ry 7 (fun K hK => ?_)
    go_simp
    obtain ⟨W1, hW1⟩ : ∃ W, ((((w1.setCell ⟨kb, 0, none⟩ (.int .i64 kd)).setCell ⟨kb, 1, none⟩ (.int .i64 bx)).setCell ⟨kb, 2, none⟩ (.int .i64 0)).setCell ⟨kb, 3, none⟩ (.int .i64 0)).setCell ⟨kb, 4, none⟩ (.string ⟨#[]⟩) = W := ⟨_, rfl⟩
    rw [hW1] at R1
    rw [hW1]
    clear hW1 R0 d8 f8
    refine hK.out _ _ trivial (fun hHeld => ?_)
    clear hK K hHeld
    refine wpAnyH_done (by kernel_rfl) ?_ _
    refine NoPanic.normal ?_
    go_wp2_with fail
    refine (l05Var_any _ s c1 bad1 _ HSZ.out R1.out.cur).mono ?_; rintro e w2 ⟨gd, c2, bad2, rfl, hc, hn, hg⟩
    have K2 : Hid (Rk (rq2 s 1) (((), bx), gd) c2 bad2) := K1.out.var hn
    have R2 := hid (R1.out.read hg hc)
    have d8 := R2.out.box.cells
    have f8 := R2.out.box.loose
    have Q2 := hid (R2.out.put (R2.out.box.s2 gd))
    clear hc hn hg K1 R1
    go_wp2_with fail
    clear d8 f8 R2
    refine (l05Var_any _ s c2 bad2 _ HSZ.out Q2.out.cur).mono ?_; rintro e w3 ⟨fl, c3, bad3, rfl, hc, hn, hg⟩
    have K3 : Hid (Rk (rq3 s 1) ((((), bx), gd), fl) c3 bad3) := K2.out.var hn
    have R3 := hid (Q2.out.read hg hc)
    have d8 := R3.out.box.cells
    have f8 := R3.out.box.loose
    have Q3 := hid (R3.out.put (R3.out.box.s3 fl))
    clear hc hn hg K2 Q2
    go_wp2_with fail
    clear d8 f8 R3
    refine (l05Short_any _ s c3 bad3 _ HSZ.out Q3.out.cur).mono ?_; rintro e w4 ⟨tx, c4, bad4, rfl, hc, hn, hg⟩
    have K4 : Hid (Rk (rq4 s 1) (((((), bx), gd), fl), tx) c4 bad4) := K3.out.short hn
    have HTX : Hid (tx.size ≤ 1048576) := hid (by
      rcases hn with ⟨_, _, h⟩ | ⟨_, h, _⟩
      · have := rsh_size h; have := HSZ.out; omega
      · rw [h]; decide)
    have R4 := hid (Q3.out.read hg hc)
    have d8 := R4.out.box.cells
    have f8 := R4.out.box.loose
    have Q4 := hid (R4.out.put (R4.out.box.s4 tx))
    clear hc hn hg K3 Q3
    go_upto_region 8 with fail
    clear d8 f8 R4
    obtain ⟨W4, hW4⟩ : ∃ W, w4.setCell ⟨kb, 4, none⟩ (.string tx) = W := ⟨_, rfl⟩
    rw [hW4] at Q4
    rw [hW4]
    clear hW4
    have d8 := Q4.out.box.cells
    have e8 := Q4.out.cur.cells
    have d4 := Q4.out.zero.cells
    have f4 := Q4.out.zero.loose
    have LF : Hid (w.heap.size + 1 < kb) := hid Q4.out.far
    cases bad4
    · have HK : Hid (rq4 s 1 = some (((((((), bx), gd), fl)), tx), c4)) := hid (by rcases K4.out with ⟨_, h⟩ | ⟨h, _⟩ <;> first | exact h | cases h)
      clear K4
      by_cases hc : c4 = (s.size : Int)
      · have CB := specCallOk_any kd bx gd fl tx W4 HTX.out
        have HC := hid hc
        obtain ⟨q, hq⟩ : ∃ q, cok kd bx gd fl tx = q := ⟨_, rfl⟩
        rw [hq] at CB
        go_wp2_with fail
        refine CB.mono ?_; rintro e w5 ⟨rfl, hb5⟩
        have R5 := hid (Q4.out.later hb5)
        clear hb5 d8 e8 d4 f4 Q4 CB
        have d8 := R5.out.box.cells
        have d4 := R5.out.zero.cells
        have f4 := R5.out.zero.loose
        cases q
        · have HNO : Hid (rca s = none) := hid (by rw [HR.out]; exact rcl_no HK.out (by rw [hq]; simp))
          clear hq
          go_wp2
          have hX := Cx.set5 R5.out.zero 0 0 0 0 ⟨#[]⟩
          have d := hX.cells
          refine bodyPost_ret (v := .tuple #[.agg #[.int .i64 0, .int .i64 0, .int .i64 0, .int .i64 0, .string ⟨#[]⟩], .bool false]) (by simp [results, Tryz.results12, go_sem, d]) rfl (Or.inl ⟨HNO.out, rfl, ?_⟩)
          exact R5.out.bel.trans (below_grownR (wst (wst (wst (wst (wst (wre w5 (some w.heap.size)) 0 (.int .i64 0)) 1 (.int .i64 0)) 2 (.int .i64 0)) 3 (.int .i64 0)) 4 (.string ⟨#[]⟩)) (by intro j hj; simp at hj; omega) R5.out.bel.size)
        · have HY : Hid (rca s = some (kd, bx, gd, fl, tx)) := hid (by rw [HR.out]; exact rcl_yes HK.out ⟨HC.out, hq⟩)
          clear hq
          go_wp2
          have hX := Cx.set5 R5.out.zero kd bx gd fl tx
          have d := hX.cells
          refine bodyPost_ret (v := .tuple #[.agg #[.int .i64 kd, .int .i64 bx, .int .i64 gd, .int .i64 fl, .string tx], .bool true]) (by simp [results, Tryz.results12, go_sem, d]) rfl (Or.inr ⟨kd, bx, gd, fl, tx, HY.out, rfl, ?_⟩)
          exact R5.out.bel.trans (below_grownR (wst (wst (wst (wst (wst (wre w5 (some w.heap.size)) 0 (.int .i64 kd)) 1 (.int .i64 bx)) 2 (.int .i64 gd)) 3 (.int .i64 fl)) 4 (.string tx)) (by intro j hj; simp at hj; omega) R5.out.bel.size)
      · have HNO : Hid (rca s = none) := hid (by rw [HR.out]; exact rcl_no HK.out (fun h => hc h.1))
        go_wp2
        have hX := Cx.set5 Q4.out.zero 0 0 0 0 ⟨#[]⟩
        have d := hX.cells
        refine bodyPost_ret (v := .tuple #[.agg #[.int .i64 0, .int .i64 0, .int .i64 0, .int .i64 0, .string ⟨#[]⟩], .bool false]) (by simp [results, Tryz.results12, go_sem, d]) rfl (Or.inl ⟨HNO.out, rfl, ?_⟩)
        exact Q4.out.bel.trans (below_grownR (wst (wst (wst (wst (wst (wre W4 (some w.heap.size)) 0 (.int .i64 0)) 1 (.int .i64 0)) 2 (.int .i64 0)) 3 (.int .i64 0)) 4 (.string ⟨#[]⟩)) (by intro j hj; simp at hj; omega) Q4.out.bel.size)
    · have HNO : Hid (rca s = none) := hid (by rw [HR.out]; exact rcl_bad (by rcases K4.out with ⟨h, _⟩ | ⟨_, h⟩ <;> first | exact h | cases h))
      go_wp2
      have hX := Cx.set5 Q4.out.zero 0 0 0 0 ⟨#[]⟩
      have d := hX.cells
      refine bodyPost_ret (v := .tuple #[.agg #[.int .i64 0, .int .i64 0, .int .i64 0, .int .i64 0, .string ⟨#[]⟩], .bool false]) (by simp [results, Tryz.results12, go_sem, d]) rfl (Or.inl ⟨HNO.out, rfl, ?_⟩)
      exact Q4.out.bel.trans (below_grownR (wst (wst (wst (wst (wst (wre W4 (some w.heap.size)) 0 (.int .i64 0)) 1 (.int .i64 0)) 2 (.int .i64 0)) 3 (.int .i64 0)) 4 (.string ⟨#[]⟩)) (by intro j hj; simp at hj; omega) Q4.out.bel.size)
/-- The call that is read at a place, as the program reads it. -/
def icl (s : ByteArray) (a : Int) : Option (Cl5 × Int) :=
  (rd s a).bind fun p => (rd s p.2).bind fun q => (rd s q.2).bind fun r => (rd s r.2).bind fun u => (rsh s u.2).bind fun t =>
    if cok p.1 q.1 r.1 u.1 t.1 = true then some ((p.1, q.1, r.1, u.1, t.1), t.2) else none
section
variable {s : ByteArray} {a kd c1 bx c2 gd c3 fl c4 : Int} {tx : ByteArray} {c5 : Int}
theorem icl_n1 (h1 : rd s a = none) : icl s a = none := by unfold icl; rw [h1]; rfl
theorem icl_n2 (h1 : rd s a = some (kd, c1)) (h2 : rd s c1 = none) : icl s a = none := by unfold icl; rw [h1]; simp only [Option.bind_some]; rw [h2]; rfl
theorem icl_n3 (h1 : rd s a = some (kd, c1)) (h2 : rd s c1 = some (bx, c2)) (h3 : rd s c2 = none) : icl s a = none := by unfold icl; rw [h1]; simp only [Option.bind_some]; rw [h2]; simp only [Option.bind_some]; rw [h3]; rfl
theorem icl_n4 (h1 : rd s a = some (kd, c1)) (h2 : rd s c1 = some (bx, c2)) (h3 : rd s c2 = some (gd, c3)) (h4 : rd s c3 = none) : icl s a = none := by unfold icl; rw [h1]; simp only [Option.bind_some]; rw [h2]; simp only [Option.bind_some]; rw [h3]; simp only [Option.bind_some]; rw [h4]; rfl
theorem icl_n5 (h1 : rd s a = some (kd, c1)) (h2 : rd s c1 = some (bx, c2)) (h3 : rd s c2 = some (gd, c3)) (h4 : rd s c3 = some (fl, c4)) (h5 : rsh s c4 = none) : icl s a = none := by unfold icl; rw [h1]; simp only [Option.bind_some]; rw [h2]; simp only [Option.bind_some]; rw [h3]; simp only [Option.bind_some]; rw [h4]; simp only [Option.bind_some]; rw [h5]; rfl
theorem icl_y (h1 : rd s a = some (kd, c1)) (h2 : rd s c1 = some (bx, c2)) (h3 : rd s c2 = some (gd, c3)) (h4 : rd s c3 = some (fl, c4)) (h5 : rsh s c4 = some (tx, c5)) : icl s a = if cok kd bx gd fl tx = true then some ((kd, bx, gd, fl, tx), c5) else none := by unfold icl; rw [h1]; simp only [Option.bind_some]; rw [h2]; simp only [Option.bind_some]; rw [h3]; simp only [Option.bind_some]; rw [h4]; simp only [Option.bind_some]; rw [h5]; rfl
end
theorem Nib.in {w : World} (h : Nib w) : 0 < w.heap.size := World.block_lt_of_cell? _ _ (h 0 (by omega))
theorem Nib.grown {w w' : World} {k : Nat} {s : ByteArray} {b : Int} (h : Nib w) (hd : Dg w k s b) (hg : w.grownBy w' (some k)) : Nib w' := fun i hi => by
  have hne : 0 ≠ k := by
    intro e
    have h0 := h 0 (by omega)
    have h1 := hd.cells.1
    rw [← e] at h1
    rw [h1] at h0
    cases h0
  have hb := hg.block 0 h.in (by simpa using hne)
  have := h i hi
  unfold World.cell? at this ⊢
  rw [show (w'.heap[0]?) = w.heap[0]? from hb]
  exact this
theorem Nib.far {W : World} {k : Nat} (h : Nib W) (hk : 0 < k) (i : Nat) (x : Value) : Nib (W.setCell ⟨k, i, none⟩ x) :=
  h.later ((Below.refl k W).setCell (p := ⟨k, i, none⟩) (Nat.le_refl _) x) hk
/-- The memory of a call that reads a call. -/
structure Rci (w W : World) (k : Nat) (s : ByteArray) (kd bx gd fl : Int) (tx : ByteArray) (c : Int) : Prop where
  zero : Cx W w.heap.size 26 0 0 0 0 ⟨#[]⟩
  box : Cx W (w.heap.size + 1) 26 kd bx gd fl tx
  cur : Dg W k s c
  far : k < w.heap.size
  gr : w.grownBy W (some k)
  nib : Nib W
  tab : 0 < w.heap.size
section
variable {w W W' : World} {k : Nat} {s : ByteArray} {kd bx gd fl : Int} {tx : ByteArray} {c : Int}
theorem Rci.later (h : Rci w W k s kd bx gd fl tx c) (hb : Below W.heap.size W W') : Rci w W' k s kd bx gd fl tx c :=
  ⟨h.zero.later hb, h.box.later hb, h.cur.later hb, h.far, wtr h.gr (grown_below hb _), h.nib.on hb, h.tab⟩
theorem Rci.read {c' : Int} (h : Rci w W k s kd bx gd fl tx c) (hg : W.grownBy W' (some k)) (hc : Dg W' k s c') : Rci w W' k s kd bx gd fl tx c' :=
  have hf := h.far
  ⟨h.zero.grown hg (by simp; omega), h.box.grown hg (by simp; omega), hc, h.far, wtr h.gr hg, h.nib.grown h.cur hg, h.tab⟩
theorem Rci.put {i : Nat} {x : Value} {kd' bx' gd' fl' : Int} {tx' : ByteArray} (h : Rci w W k s kd bx gd fl tx c) (hx : Cx (W.setCell ⟨w.heap.size + 1, i, none⟩ x) (w.heap.size + 1) 26 kd' bx' gd' fl' tx') : Rci w (W.setCell ⟨w.heap.size + 1, i, none⟩ x) k s kd' bx' gd' fl' tx' c :=
  have hf := h.far
  have ht := h.tab
  ⟨heap_setCell_far x h.zero (by omega), hx, h.cur.far x (by omega), h.far, wst_new h.gr (by omega) i x, h.nib.far (by omega) i x, h.tab⟩
theorem Rci.kind (h : Rci w W k s kd bx gd fl tx c) (x : Int) : Rci w (W.setCell ⟨w.heap.size + 1, 0, none⟩ (.int .i64 x)) k s x bx gd fl tx c := h.put (heap_setCell_same _ _ 0 _ _ (.int .i64 x) h.box)
theorem Rci.boxn (h : Rci w W k s kd bx gd fl tx c) (x : Int) : Rci w (W.setCell ⟨w.heap.size + 1, 1, none⟩ (.int .i64 x)) k s kd x gd fl tx c := h.put (heap_setCell_same _ _ 1 _ _ (.int .i64 x) h.box)
end
def Cal1 (w : World) (k : Nat) (s : ByteArray) (a : Int) (e : Ending) (w' : World) : Prop :=
  (∃ kd bx gd fl tx c, icl s a = some ((kd, bx, gd, fl, tx), c) ∧ e = .returned (.agg #[.int .i64 kd, .int .i64 bx, .int .i64 gd, .int .i64 fl, .string tx]) ∧ Dg w' k s c ∧ True ∧ w.grownBy w' (some k)) ∨ (icl s a = none ∧ e = .panicked notHere ∧ w.grownBy w' (some k))
theorem Cal1.no {w : World} {k : Nat} {s : ByteArray} {a : Int} {w' : World} (h : icl s a = none) (hg : w.grownBy w' (some k)) : Cal1 w k s a (.panicked notHere) w' := Or.inr ⟨h, rfl, hg⟩
set_option maxHeartbeats 8000000 in
set_option maxRecDepth 100000 in
theorem rcall_any (k : Nat) (s : ByteArray) (a : Int) (w : World) (hs : s.size ≤ 1048576) (hn : Nib w) (hc : Dg w k s a) :
    Calls Tryz.prog 24 #[.pointer (some ⟨k, 0, none⟩)] w fun e w' => Cal1 w k s a e w' := by
  have HSZ := hid hs
  have R0 : Hid (Rci w ((w.alloc (.cells #[.int .i64 0, .int .i64 0, .int .i64 0, .int .i64 0, .string ⟨#[]⟩] 26)).alloc (.cells #[.int .i64 0, .int .i64 0, .int .i64 0, .int .i64 0, .string ⟨#[]⟩] 26)) k s 0 0 0 0 ⟨#[]⟩ a) := hid (by
    have h2 := Cx.new (w.alloc (.cells #[.int .i64 0, .int .i64 0, .int .i64 0, .int .i64 0, .string ⟨#[]⟩] 26)) 26 0 0 0 0 ⟨#[]⟩
    rw [show (w.alloc (.cells #[.int .i64 0, .int .i64 0, .int .i64 0, .int .i64 0, .string ⟨#[]⟩] 26)).heap.size = w.heap.size + 1 by simp] at h2
    exact ⟨(Cx.new w _ _ _ _ _ _).later (bpush (bre _) _), h2, hc.later (bpush (bpush (bre _) _) _), hc.lt, grown_below (bpush (bpush (bre _) _) _) _, hn.on (bpush (bpush (bre _) _) _), hn.in⟩)
  obtain ⟨W0, hW0⟩ : ∃ W, ((w.alloc (.cells #[.int .i64 0, .int .i64 0, .int .i64 0, .int .i64 0, .string ⟨#[]⟩] 26)).alloc (.cells #[.int .i64 0, .int .i64 0, .int .i64 0, .int .i64 0, .string ⟨#[]⟩] 26)) = W := ⟨_, rfl⟩
  rw [hW0] at R0
  have HW0 := hid hW0
  clear hs hc hW0 hn
  go_enter Tryz.func24, Tryz.ntmps24
  go_wp2_with fail
  rw [HW0.out]
  clear HW0
  refine (numr_any k s a _ HSZ.out R0.out.cur).mono ?_; rintro e w1 (⟨kd, c1, hr, rfl, hd, hg⟩ | ⟨hr, rfl, hg⟩)
  case inr =>
    have P := hid (Cal1.no (icl_n1  hr) (wtr R0.out.gr hg))
    clear hr hg
    go_wp2_with fail
    exact ⟨rfl, P.out⟩
  have H1 := hid hr
  have R1 := hid (R0.out.read hg hd)
  have d8 := R1.out.box.cells
  have f8 := R1.out.box.loose
  have Q1 := hid (R1.out.kind kd)
  clear hr hd hg R0
  go_wp2_with fail
  clear d8 f8 R1
  refine (numr_any k s c1 _ HSZ.out Q1.out.cur).mono ?_; rintro e w2 (⟨bx, c2, hr, rfl, hd, hg⟩ | ⟨hr, rfl, hg⟩)
  case inr =>
    have P := hid (Cal1.no (icl_n2 H1.out hr) (wtr Q1.out.gr hg))
    clear hr hg
    go_wp2_with fail
    exact ⟨rfl, P.out⟩
  have H2 := hid hr
  have R2 := hid (Q1.out.read hg hd)
  have d8 := R2.out.box.cells
  have f8 := R2.out.box.loose
  have Q2 := hid (R2.out.boxn bx)
  clear hr hd hg Q1
  go_wp2_with fail
  clear d8 f8 R2
  refine (numr_any k s c2 _ HSZ.out Q2.out.cur).mono ?_; rintro e w3 (⟨gd, c3, hr, rfl, hd, hg⟩ | ⟨hr, rfl, hg⟩)
  case inr =>
    have P := hid (Cal1.no (icl_n3 H1.out H2.out hr) (wtr Q2.out.gr hg))
    clear hr hg
    go_wp2_with fail
    exact ⟨rfl, P.out⟩
  have H3 := hid hr
  have R3 := hid (Q2.out.read hg hd)
  have d8 := R3.out.box.cells
  have f8 := R3.out.box.loose
  have Q3 := hid (R3.out.put (R3.out.box.s2 gd))
  clear hr hd hg Q2
  go_wp2_with fail
  clear d8 f8 R3
  refine (numr_any k s c3 _ HSZ.out Q3.out.cur).mono ?_; rintro e w4 (⟨fl, c4, hr, rfl, hd, hg⟩ | ⟨hr, rfl, hg⟩)
  case inr =>
    have P := hid (Cal1.no (icl_n4 H1.out H2.out H3.out hr) (wtr Q3.out.gr hg))
    clear hr hg
    go_wp2_with fail
    exact ⟨rfl, P.out⟩
  have H4 := hid hr
  have R4 := hid (Q3.out.read hg hd)
  have d8 := R4.out.box.cells
  have f8 := R4.out.box.loose
  have Q4 := hid (R4.out.put (R4.out.box.s3 fl))
  clear hr hd hg Q3
  go_wp2_with fail
  clear d8 f8 R4
  refine (short_any k s c4 _ HSZ.out Q4.out.cur).mono ?_; rintro e w5 (⟨tx, c5, hr, rfl, hd, hg⟩ | ⟨hr, rfl, hg⟩)
  case inr =>
    have P := hid (Cal1.no (icl_n5 H1.out H2.out H3.out H4.out hr) (wtr Q4.out.gr hg))
    clear hr hg
    go_wp2_with fail
    exact ⟨rfl, P.out⟩
  have H5 := hid hr
  have HTX : Hid (tx.size ≤ 1048576) := hid (by have := rsh_size hr; have := HSZ.out; omega)
  have R5 := hid (Q4.out.read hg hd)
  have d8 := R5.out.box.cells
  have f8 := R5.out.box.loose
  have Q5 := hid (R5.out.put (R5.out.box.s4 tx))
  clear hr hd hg Q4
  go_upto_region 7 with fail
  clear d8 f8 R5
  obtain ⟨W5, hW5⟩ : ∃ W, w5.setCell ⟨w.heap.size + 1, 4, none⟩ (.string tx) = W := ⟨_, rfl⟩
  rw [hW5] at Q5
  rw [hW5]
  clear hW5
  have d8 := Q5.out.box.cells
  have CB := implCallOk_any kd bx gd fl tx W5 HTX.out Q5.out.nib
  obtain ⟨q, hq⟩ : ∃ q, cok kd bx gd fl tx = q := ⟨_, rfl⟩
  rw [hq] at CB
  have HRB : Hid (icl s a = if q = true then some ((kd, bx, gd, fl, tx), c5) else none) := hid (by rw [icl_y H1.out H2.out H3.out H4.out H5.out, hq])
  clear hq
  go_wp2_with fail
  refine CB.mono ?_; rintro e w6 ⟨rfl, hb6⟩
  have R6 := hid (Q5.out.later hb6)
  clear hb6 CB d8 Q5
  have d8 := R6.out.box.cells
  have d4 := R6.out.zero.cells
  have f4 := R6.out.zero.loose
  cases q
  · have P := hid (Cal1.no (by rw [HRB.out]; rfl) R6.out.gr)
    go_wp2_with fail
    refine (must_no _).mono ?_; rintro e w8 ⟨rfl, rfl⟩
    go_wp2_with fail
    exact ⟨rfl, P.out⟩
  · go_wp2_with fail
    refine (must_yes _).mono ?_; rintro e w8 ⟨rfl, rfl⟩
    go_wp2
    have hX := Cx.set5 R6.out.zero kd bx gd fl tx
    have d := hX.cells
    refine bodyPost_ret (v := .agg #[.int .i64 kd, .int .i64 bx, .int .i64 gd, .int .i64 fl, .string tx]) (by simp [results, Tryz.results24, go_sem, d]) rfl ?_
    have hg7 := (wst (wst (wst (wst (wst (wre w8 (some w.heap.size)) 0 (.int .i64 kd)) 1 (.int .i64 bx)) 2 (.int .i64 gd)) 3 (.int .i64 fl)) 4 (.string tx))
    have l1 := R6.out.far
    refine Or.inl ⟨kd, bx, gd, fl, tx, c5, by rw [HRB.out]; rfl, rfl, ?_, trivial, ?_⟩
    · exact (hg7.block k (by have := R6.out.gr.size; omega) (by simp; omega)).trans R6.out.cur
    · exact wst_new (wst_new (wst_new (wst_new (wst_new R6.out.gr (Nat.le_refl _) 0 _) (Nat.le_refl _) 1 _) (Nat.le_refl _) 2 _) (Nat.le_refl _) 3 _) (Nat.le_refl _) 4 _
theorem drewCall (h : True) : True := h
def CloCall (w : World) (kr km : Nat) (s : ByteArray) (a : Int) (w' : World) : Prop :=
  ∃ kd bx gd fl tx c, icl s a = some ((kd, bx, gd, fl, tx), c) ∧ Dg w' kr s c ∧ Cx w' km 26 kd bx gd fl tx ∧ True ∧ Kept2 w w' kr km
set_option maxHeartbeats 400000 in
set_option maxRecDepth 100000 in
theorem closCall_any (kf kr km ft : Nat) (s : ByteArray) (a : Int) (w : World) (hs : s.size ≤ 1048576) (hf : Fg w kf ft 24) (hd : Dg w kr s a) (hm : Cx w km 26 0 0 0 0 ⟨#[]⟩) (hne : kr ≠ km) (hn : Nib w) :
    Calls Tryz.prog 65 #[.pointer (some ⟨kf, 0, none⟩), .pointer (some ⟨kr, 0, none⟩), .pointer (some ⟨km, 0, none⟩)] w fun e w' => (e = .returned (.tuple #[]) ∧ CloCall w kr km s a w') ∨ (e = .panicked notHere ∧ icl s a = none ∧ w.grownBy w' (some kr)) := by
  have HD := hid hd
  have HM := hid hm
  have HS := hid hs
  have HNE := hid hne
  have HN := hid hn
  clear hn
  have cf := hf.cell
  clear hd hm hs hne hf
  go_enter Tryz.func65, Tryz.ntmps65
  go_wp2_with fail
  refine (rcall_any kr s a _ HS.out HN.out HD.out).mono ?_; rintro e w1 (⟨kd, bx, gd, fl, tx, c, hr, rfl, hd, ho, hg⟩ | ⟨hr, rfl, hg⟩)
  case inr =>
    have H := hid hr
    have G := hid hg
    clear hr hg
    go_wp2_with fail
    exact ⟨rfl, Or.inr ⟨rfl, H.out, G.out⟩⟩
  have H := hid hr
  have M1 := hid (HM.out.grown hg (by have := HNE.out; simp; omega))
  have D1 := hid hd
  have O1 := hid ho
  have K1 : Hid (Kept2 w w1 kr km) := Kept2.of_grown hg
  have LM : Hid (km < w.heap.size) := HM.out.lt
  have c := M1.out.cells
  have f := M1.out.loose
  clear hr hd ho hg cf
  go_wp2
  go_end0
  have hne := HNE.out
  have hX := Cx.set5 M1.out kd bx gd fl tx
  refine Or.inl ⟨rfl, kd, bx, gd, fl, tx, _, H.out, ?_, hX, ?_, ?_⟩
  · exact ((wst (wst (wst (wst (wst (wre w1 (some km)) _ _) _ _) _ _) _ _) _ _).block kr D1.out.lt (by simp; omega)).trans D1.out
  · exact trivial
  · exact (((((K1.out.set _ _).set _ _).set _ _).set _ _).set _ _)
set_option maxHeartbeats 800000 in
set_option maxRecDepth 100000 in
/-- readWhole over this closure, whatever it is known to leave. -/
theorem wholeCall_any (p1 p2 p3 : Value) (w : World) (Y N : World → Prop) (hF : Calls Tryz.prog 65 #[p1, p2, p3] (w.alloc (.cells #[.bool false] 4)) fun e w1 => (e = .returned (.tuple #[]) ∧ Y w1) ∨ (e = .panicked notHere ∧ N w1)) (hY : ∀ w1, Y w1 → Bwd w1 w.heap.size false) (hN : ∀ w1, N w1 → Bwd w1 w.heap.size false) :
    Calls Tryz.prog 64 #[.func (.func 65) #[] #[p1, p2, p3]] w fun e w' => (e = .returned (.bool true) ∧ ∃ w1, Y w1 ∧ w' = (w1.setCell ⟨w.heap.size, 0, none⟩ (.bool true)).alloc (.cells #[] 97)) ∨ (e = .returned (.bool false) ∧ ∃ w1, N w1 ∧ w' = (w1.alloc (.cells #[] 97)).setCell ⟨w.heap.size, 0, none⟩ (.bool false)) := by
  have hmf : ∀ (fn : Fn) (first cap : Array Value) (w : World), (Instr.makeFunc fn first cap).run Tryz.prog w = .ok (.func fn first cap) w := fun _ _ _ _ => rfl
  have HF := hid hF
  have HY := hid hY
  have HN := hid hN
  have B0 := hid (Bwd.new w false)
  have c0 := B0.out.cell
  clear hF hY hN
  go_enter_defers Tryz.func64, Tryz.ntmps64
  go_wp2_with fail
  refine HF.out.mono ?_; rintro e w1 (⟨rfl, hy⟩ | ⟨rfl, hn⟩)
  case inr =>
    have B1 : Hid (Bwd w1 w.heap.size false) := HN.out w1 hn
    have HNN := hid hn
    clear hn c0
    go_wp2_with fail
    refine leaves_cons (f := 108) (args := #[.pointer (some ⟨w.heap.size, 0, none⟩)]) (by simp) (by simp [go_sem]) ?_
    refine (catch_panic w.heap.size false [] _ B1.out).mono ?_
    rintro e u' w'' ⟨rfl, rfl, rfl⟩
    have cc := ((B1.out.later (bpush (bre w1) (.cells #[] 97))).set false).cell
    simp [Leaves, settle, results, Tryz.results64, go_sem, cc]
    exact ⟨w1, HNN.out, rfl⟩
  have B1 : Hid (Bwd w1 w.heap.size false) := HY.out w1 hy
  have HYY := hid hy
  have c1 := B1.out.cell
  have f1 := B1.out.loose
  clear hy c0
  go_wp2
  have N2 := hid (bpush (bre (w1.setCell ⟨w.heap.size, 0, none⟩ (.bool true))) (.cells #[] 97))
  have cc := ((B1.out.set true).later N2.out).cell
  refine leaves_cons (f := 108) (args := #[.pointer (some ⟨w.heap.size, 0, none⟩)]) (by simp) (by simp [go_sem]) ?_
  refine (catch_idle w.heap.size _).mono ?_
  rintro e u' w'' ⟨rfl, rfl, rfl⟩
  simp [Leaves, settle, results, Tryz.results64, go_sem, cc]
  exact ⟨w1, HYY.out, rfl⟩
def RaCall (s : ByteArray) (a : Int) (w : World) (e : Ending) (w' : World) : Prop :=
  (∃ kd bx gd fl tx c, icl s a = some ((kd, bx, gd, fl, tx), c) ∧ e = .returned (.tuple #[.agg #[.int .i64 kd, .int .i64 bx, .int .i64 gd, .int .i64 fl, .string tx], .int .i64 c, .bool true]) ∧ True ∧ Below w.heap.size w w') ∨
  (icl s a = none ∧ e = .returned (.tuple #[.agg #[.int .i64 0, .int .i64 0, .int .i64 0, .int .i64 0, .string ⟨#[]⟩], .int .i64 0, .bool false]) ∧ Below w.heap.size w w')
theorem blocksCall (w : World) (ft : Nat) (s : ByteArray) (a : Int) (W0 : World) (h : ((w.alloc (.cells #[.func (.func 24) #[] #[]] ft)).alloc (.cells #[.int .i64 0, .int .i64 0, .int .i64 0, .int .i64 0, .string ⟨#[]⟩] 26)).alloc (.cells #[.string s, .int .i64 a] 94) = W0) :
    Fg W0 w.heap.size ft 24 ∧ Cx W0 (w.heap.size + 1) 26 0 0 0 0 ⟨#[]⟩ ∧ Dg W0 (w.heap.size + 1 + 1) s a ∧ Below w.heap.size w W0 := by
  subst h
  have h1 : Fg (w.alloc (.cells #[.func (.func 24) #[] #[]] ft)) w.heap.size ft 24 := heap_alloc_new w _
  have h2 := Cx.new (w.alloc (.cells #[.func (.func 24) #[] #[]] ft)) 26 0 0 0 0 ⟨#[]⟩
  have h3 := Dg.new ((w.alloc (.cells #[.func (.func 24) #[] #[]] ft)).alloc (.cells #[.int .i64 0, .int .i64 0, .int .i64 0, .int .i64 0, .string ⟨#[]⟩] 26)) s a
  rw [alloc_size w] at h2
  rw [alloc_size (w.alloc _), alloc_size w] at h3
  exact ⟨h1.later (bpush (bpush (bre _) _) _), h2.later (bpush (bre _) _), h3, bpush (bpush (bpush (bre _) _) _) _⟩
set_option maxHeartbeats 1600000 in
set_option maxRecDepth 100000 in
theorem readAtCall_any (s : ByteArray) (a : Int) (w : World) (hs : s.size ≤ 1048576) (hn : Nib w) :
    Calls Tryz.prog 43 #[.string s, .int .i64 a, .func (.func 24) #[] #[]] w fun e w' => RaCall s a w e w' := by
  have hmf : ∀ (fn : Fn) (first cap : Array Value) (w : World), (Instr.makeFunc fn first cap).run Tryz.prog w = .ok (.func fn first cap) w := fun _ _ _ _ => rfl
  have HSZ := hid hs
  obtain ⟨W0, hW0⟩ : ∃ W0, ((w.alloc (.cells #[.func (.func 24) #[] #[]] 51)).alloc (.cells #[.int .i64 0, .int .i64 0, .int .i64 0, .int .i64 0, .string ⟨#[]⟩] 26)).alloc (.cells #[.string s, .int .i64 a] 94) = W0 := ⟨_, rfl⟩
  obtain ⟨f0, x0, d0, b0⟩ := blocksCall w _ s a W0 hW0
  have N1 := hid (bpush (bre W0) (.cells #[.bool false] 4))
  have LW : Hid (w.heap.size + 1 + 1 < W0.heap.size) := d0.lt
  have L1 : Hid (W0.heap.size < (W0.alloc (.cells #[.bool false] 4)).heap.size) := hid (by show _ < _; simp)
  have HB := hid b0
  have BG := hid (Bwd.new W0 false)
  have CL := wholeCall_any (.pointer (some ⟨w.heap.size, 0, none⟩)) (.pointer (some ⟨w.heap.size + 1 + 1, 0, none⟩)) (.pointer (some ⟨w.heap.size + 1, 0, none⟩)) W0 _ _ (closCall_any w.heap.size (w.heap.size + 1 + 1) (w.heap.size + 1) _ s a _ hs (f0.later N1.out) (d0.later N1.out) (x0.later N1.out) (by omega) (hn.on (btr b0 N1.out))) (by
    rintro w1 ⟨kd, bx, gd, fl, tx, c, _, _, _, _, hk⟩
    have l1 := LW.out
    exact (hk.block W0.heap.size BG.out.lt (by omega) (by omega)).trans BG.out) (by
    rintro w1 ⟨_, hk⟩
    have l1 := LW.out
    exact BG.out.grown hk (by simp; omega))
  have HCL := hid CL
  have X0 := hid x0
  have HW0 := hid hW0
  clear hs hW0 f0 x0 d0 b0 CL hn
  go_enter Tryz.func43, Tryz.ntmps43
  go_wp2_with fail
  rw [HW0.out]
  refine HCL.out.mono ?_; rintro e w1 (⟨rfl, w2, hy, rfl⟩ | ⟨rfl, w2, ⟨hr, hk⟩, rfl⟩)
  case inr =>
    have H := hid hr
    have l1 := LW.out
    have l2 := L1.out
    have E2 : Hid (Below w.heap.size w ((w2.alloc (.cells #[] 97)).setCell ⟨W0.heap.size, 0, none⟩ (.bool false))) := hid (bsk (btr (HB.out.trans (N1.out.mono (by omega) |>.trans (below_grownR hk (by intro j hj; simp at hj; omega) (by omega)))) (bpush (bre w2) _)) (by omega) 0 _)
    have F2 : Hid (Cx ((w2.alloc (.cells #[] 97)).setCell ⟨W0.heap.size, 0, none⟩ (.bool false)) (w.heap.size + 1) 26 0 0 0 0 ⟨#[]⟩) := hid (heap_setCell_far _ (((X0.out.later N1.out).grown hk (by simp)).later (bpush (bre w2) _)) (by omega))
    obtain ⟨w3, hw3⟩ : ∃ x, (w2.alloc (.cells #[] 97)).setCell ⟨W0.heap.size, 0, none⟩ (.bool false) = x := ⟨_, rfl⟩
    rw [hw3] at E2 F2
    rw [hw3]
    have d := F2.out.cells
    have f := F2.out.loose
    clear hr hk hw3 l1 l2
    go_wp2
    have hX := Cx.set5 F2.out 0 0 0 0 ⟨#[]⟩
    have d := hX.cells
    exact bodyPost_ret (v := .tuple #[.agg #[.int .i64 0, .int .i64 0, .int .i64 0, .int .i64 0, .string ⟨#[]⟩], .int .i64 0, .bool false]) (by simp [results, Tryz.results43, go_sem, d]) rfl (Or.inr ⟨H.out, rfl, E2.out.trans (below_grownR (wst (wst (wst (wst (wst (wre w3 (some (w.heap.size + 1))) 0 (.int .i64 0)) 1 (.int .i64 0)) 2 (.int .i64 0)) 3 (.int .i64 0)) 4 (.string ⟨#[]⟩)) (by intro j hj; simp at hj; omega) E2.out.size)⟩)
  obtain ⟨kd, bx, gd, fl, tx, c, hr, hd, hx, ho, hk⟩ := hy
  have H := hid hr
  have l1 := LW.out
  have l2 := L1.out
  have K2 : Hid (Kept2 W0 w2 (w.heap.size + 1 + 1) (w.heap.size + 1)) := hid hk.push
  have N3 := hid (bpush (bre (w2.setCell ⟨W0.heap.size, 0, none⟩ (.bool true))) (.cells #[] 97))
  have E2 : Hid (Below w.heap.size w ((w2.setCell ⟨W0.heap.size, 0, none⟩ (.bool true)).alloc (.cells #[] 97))) := hid (HB.out.trans (((K2.out.new (Nat.le_refl _) _ _).later N3.out).below (by omega) (by omega) (by omega)))
  have D2 := hid ((hd.far (j := W0.heap.size) (i := 0) (.bool true) (by omega)).later N3.out)
  have X2 : Hid (Cx ((w2.setCell ⟨W0.heap.size, 0, none⟩ (.bool true)).alloc (.cells #[] 97)) (w.heap.size + 1) 26 kd bx gd fl tx) := hid (((show Cx (w2.setCell ⟨W0.heap.size, 0, none⟩ (.bool true)) (w.heap.size + 1) 26 kd bx gd fl tx from heap_setCell_far _ hx (by omega))).later N3.out)
  have O2 := hid ((trivial : True))
  obtain ⟨w3, hw3⟩ : ∃ x, (w2.setCell ⟨W0.heap.size, 0, none⟩ (.bool true)).alloc (.cells #[] 97) = x := ⟨_, rfl⟩
  rw [hw3] at E2 D2 X2
  rw [hw3]
  have d := X2.out.cells
  have f := X2.out.loose
  have dd := D2.out.cells
  clear hr hd hx ho hk hw3 l1 l2 K2 N3
  go_wp2_with fail
  go_region
  all_goals go_wp2
  all_goals
    have hX := Cx.set5 X2.out kd bx gd fl tx
    have d3 := hX.cells
    have l1 := LW.out
    have l2 := L1.out
    refine bodyPost_ret (v := .tuple #[.agg #[.int .i64 kd, .int .i64 bx, .int .i64 gd, .int .i64 fl, .string tx], .int .i64 c, .bool true]) (by simp [results, Tryz.results43, go_sem, d3]) rfl (Or.inl ⟨kd, bx, gd, fl, tx, c, H.out, rfl, ?_, ?_⟩)
    · first | exact drewCall (trivial) | exact trivial
    · first | exact bdr (E2.out.trans (below_grownR (wst (wst (wst (wst (wst (wre w3 (some (w.heap.size + 1))) 0 (.int .i64 kd)) 1 (.int .i64 bx)) 2 (.int .i64 gd)) 3 (.int .i64 fl)) 4 (.string tx)) (by intro j hj; simp at hj; omega) E2.out.size)) | exact (bdr E2.out).trans (below_grownR (wst (wst (wst (wst (wst (wre w3.drew (some (w.heap.size + 1))) 0 (.int .i64 kd)) 1 (.int .i64 bx)) 2 (.int .i64 gd)) 3 (.int .i64 fl)) 4 (.string tx)) (by intro j hj; simp at hj; omega) E2.out.size)
end Go.Proofs.YtlhofbnnonljaaaGreatDoor
