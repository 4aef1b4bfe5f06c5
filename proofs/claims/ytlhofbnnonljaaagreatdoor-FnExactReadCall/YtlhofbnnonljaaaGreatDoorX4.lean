/- MailRs, MailTrip. -/
import Derived.Test.YtlhofbnnonljaaaGreatDoorX3
namespace Go.Proofs.YtlhofbnnonljaaaGreatDoor
open Go.RowKit
theorem Rg.grown {W W' : World} {k ty : Nat} {v t b : Int} {r : Option Nat} (h : Rg W k ty v t b) (hg : W.grownBy W' r) (hk : some k ≠ r) : Rg W' k ty v t b := (hg.block k h.lt hk).trans h
theorem Rg.s1 {W : World} {k ty : Nat} {v t b : Int} (h : Rg W k ty v t b) (t' : Int) : Rg (W.setCell ⟨k, 1, none⟩ (.int .i64 t')) k ty v t' b := heap_setCell_same W k 1 _ _ (.int .i64 t') h
theorem Rg.s2 {W : World} {k ty : Nat} {v t b : Int} (h : Rg W k ty v t b) (b' : Int) : Rg (W.setCell ⟨k, 2, none⟩ (.int .i64 b')) k ty v t b' := heap_setCell_same W k 2 _ _ (.int .i64 b') h
theorem Cg.new (w : World) (s : ByteArray) (b : Int) (bad : Bool) : Cg (w.alloc (.cells #[.string s, .int .i64 b, .bool bad] 47)) w.heap.size s b bad := heap_alloc_new w _
theorem Cg.far {W : World} {k j i : Nat} {s : ByteArray} {b : Int} {bad : Bool} (h : Cg W k s b bad) (x : Value) (hk : k ≠ j) : Cg (W.setCell ⟨j, i, none⟩ x) k s b bad := heap_setCell_far x h hk
theorem Mg.below {W W' : World} {B k ty : Nat} {g u : Int} {f : Value} {t : ByteArray} (h : Mg W k ty g u f t) (hb : Below B W W') (hk : k < B) : Mg W' k ty g u f t := (hb.block k hk).trans h
theorem Cg.below {W W' : World} {B k : Nat} {s : ByteArray} {b : Int} {bad : Bool} (h : Cg W k s b bad) (hb : Below B W W') (hk : k < B) : Cg W' k s b bad := (hb.block k hk).trans h
set_option maxHeartbeats 1600000 in
set_option maxRecDepth 100000 in
theorem specReadMail_any (s : ByteArray) (a : Int) (w : World) (hs : s.size ≤ 1048576) :
    Calls Tryz.prog 70 #[.string s, .int .i64 a] w fun e w' => RmPost s a w e w' := by
  have HSZ := hid hs
  clear hs
  obtain ⟨W0, hW0⟩ : ∃ W0, (w.alloc (.cells #[.int .i64 0, .int .i64 0, .slice none 0 0, .string ⟨#[]⟩] 103)).alloc (.cells #[.string s, .int .i64 a, .bool false] 47) = W0 := ⟨_, rfl⟩
  have M4 : Hid (Mg W0 w.heap.size 103 0 0 (.slice none 0 0) ⟨#[]⟩) := by subst hW0; exact (Mg.new w _ _ _ _ _).later (bpush (bre _) _)
  have C7 : Hid (Cg W0 (w.heap.size + 1) s a false) := by subst hW0; show Cg _ _ _ _ _; simpa using Cg.new (w.alloc (.cells #[.int .i64 0, .int .i64 0, .slice none 0 0, .string ⟨#[]⟩] 103)) s a false
  have B0 : Hid (Below w.heap.size w W0) := by subst hW0; exact bpush (bpush (bre _) _) _
  go_enter Tryz.func70, Tryz.ntmps70
  go_wp2_with fail
  clear hW0
  refine (l05Var_any _ s a false _ HSZ.out C7.out).mono ?_; rintro e w1 ⟨g, b1, bad1, rfl, hc1, hn1, hg1⟩
  have S1 : Hid (SS s a [g] b1 bad1) := (SS.start s a).next hn1
  have N1 := hid (bpush (bre w1) (.cells #[.int .i64 g, .int .i64 0, .slice none 0 0, .string ⟨#[]⟩] 103))
  have M8 := hid (Mg.new w1 103 g 0 (.slice none 0 0) ⟨#[]⟩)
  have C71 := hid (hc1.later N1.out)
  have M41 := hid ((M4.out.grown hg1 (by simp)).later N1.out)
  have L1 : Hid (w.heap.size + 1 < w1.heap.size) := hc1.lt
  have B1 := hid (btr (B0.out.trans (below_grownR hg1 (by intro j hj; simp at hj; omega) B0.out.size)) N1.out)
  clear hc1 hn1 hg1 M4 C7 B0
  go_wp2_with fail
  refine (l05Var_any _ s b1 bad1 _ HSZ.out C71.out).mono ?_; rintro e w2 ⟨u, b2, bad2, rfl, hc2, hn2, hg2⟩
  have S2 : Hid (SS s a [g, u] b2 bad2) := S1.out.next hn2
  have l1 := L1.out
  have M82 := hid (M8.out.grown hg2 (by simp; omega))
  have M83 := hid (M82.out.s1 u)
  have C72 := hid (hc2.far (j := w1.heap.size) (i := 1) (.int .i64 u) (by omega))
  have M42 := hid ((M41.out.grown hg2 (by simp)).far (j := w1.heap.size) (i := 1) (.int .i64 u) (by omega))
  have B2 := hid (bsk (B1.out.trans (below_grownR hg2 (by intro j hj; simp at hj; omega) B1.out.size)) (k := w1.heap.size) (by omega) 1 (.int .i64 u))
  have c8 := M82.out.cells
  have f8 := M82.out.loose
  have L2 : Hid (w1.heap.size < w2.heap.size) := M82.out.lt
  clear hc2 hn2 hg2 M8 C71 M41 B1 S1 l1
  go_wp2
  clear c8 f8
  have O2 : Hid (Ow (w2.setCell ⟨w1.heap.size, 1, none⟩ (.int .i64 u)) w2.heap.size (.slice none 0 0) []) := ⟨rfl, .inl ⟨rfl, rfl⟩⟩
  go_loopw [9] (fun iv wr => ∃ (i : Nat) (l : List R3) (v : Value) (b : Int) (bad : Bool), i ≤ 3 ∧ iv = .int .i64 (i : Int) ∧ Hid (l.length = i) ∧ Mg wr w1.heap.size 103 g u v ⟨#[]⟩ ∧ Ow wr w2.heap.size v l ∧ Cg wr (w.heap.size + 1) s b bad ∧ Hid (SS s a (g :: u :: flat l) b bad) ∧ Mg wr w.heap.size 103 0 0 (.slice none 0 0) ⟨#[]⟩ ∧ Below w.heap.size w wr ∧ Hid (w2.heap.size ≤ wr.heap.size)) (fun iv _ => 3 - (intOf iv).toNat)
  case atStart => exact ⟨0, [], .slice none 0 0, b2, bad2, by omega, rfl, rfl, M83.out, O2.out, C72.out, S2.out, M42.out, B2.out, by show _ ≤ _; simp [World.setCell]⟩
  case round =>
    obtain ⟨i, l, v, b, bad, hi, rfl, HL, hm8, ho, hc7, HSS, hm4, hb, HZ⟩ := hrel
    have X8 := hid hm8
    have XO := hid ho
    have X7 := hid hc7
    have X4 := hid hm4
    have XB := hid hb
    clear hm8 ho hc7 hm4 hb
    by_cases hlt : i < 3
    · go_wp2_with fail
      refine (l05Var_any _ s b bad _ HSZ.out X7.out).mono ?_; rintro e w3 ⟨x, b3, bad3, rfl, hc, hn, hg⟩
      have S3 := hid (HSS.out.next hn)
      have l1 := L1.out
      have l2 := L2.out
      have l3 := HZ.out
      have FJ : Hid (∀ j, v.ownBlock = some j → w2.heap.size ≤ j ∧ j < w3.heap.size) := fun j hj => ⟨(XO.out.lt j hj).1, Nat.lt_of_lt_of_le (XO.out.lt j hj).2 hg.size⟩
      have N3 := hid (bpush (bre w3) (.cells #[.int .i64 x, .int .i64 0, .int .i64 0] 140))
      have R3 := hid (Rg.new w3 140 x 0 0)
      have C3 := hid (hc.later N3.out)
      have G3 := hid ((X8.out.grown hg (by simp; omega)).later N3.out)
      have O3 := hid (own_later (own_kept XO.out hg (by intro j hj h; have := (XO.out.lt j hj).1; simp at h; omega)) N3.out)
      have F3 := hid ((X4.out.grown hg (by simp)).later N3.out)
      have B3 := hid (btr (XB.out.trans (below_grownR hg (by intro j hj; simp at hj; omega) XB.out.size)) N3.out)
      have Z3 : Hid (w2.heap.size ≤ w3.heap.size) := Nat.le_trans HZ.out hg.size
      clear hc hn hg X8 XO X7 X4 XB l1 l2 l3
      go_wp2_with fail
      refine (l05Var_any _ s b3 bad3 _ HSZ.out C3.out).mono ?_; rintro e w4 ⟨y, b4, bad4, rfl, hc, hn, hg⟩
      have S4 := hid (S3.out.next hn)
      have l1 := L1.out
      have l2 := L2.out
      have l3 := Z3.out
      have R4 := hid (R3.out.grown hg (by simp; omega))
      have R4' := hid (R4.out.s1 y)
      have C4 := hid (hc.far (j := w3.heap.size) (i := 1) (.int .i64 y) (by omega))
      have G4 := hid ((G3.out.grown hg (by simp; omega)).far (j := w3.heap.size) (i := 1) (.int .i64 y) (by omega))
      have O4 := hid (own_kept (own_kept O3.out hg (by intro j hj h; have := FJ.out j hj; simp at h; omega)) (wst (wre w4 (some w3.heap.size)) 1 (.int .i64 y)) (by intro j hj h; have := FJ.out j hj; simp at h; omega))
      have F4 := hid ((F3.out.grown hg (by simp)).far (j := w3.heap.size) (i := 1) (.int .i64 y) (by omega))
      have B4 := hid (bsk (B3.out.trans (below_grownR hg (by intro j hj; simp at hj; omega) B3.out.size)) (k := w3.heap.size) (by omega) 1 (.int .i64 y))
      have d4 := R4.out.cells
      have f4 := R4.out.loose
      clear hc hn hg S3 R3 C3 G3 O3 F3 B3 l1 l2 l3
      go_wp2_with fail
      clear d4 f4
      refine (l05Var_any _ s b4 bad4 _ HSZ.out C4.out).mono ?_; rintro e w5 ⟨z, b5, bad5, rfl, hc, hn, hg⟩
      have S5 := hid (S4.out.next hn)
      have l1 := L1.out
      have l2 := L2.out
      have l3 := Z3.out
      have R5 := hid (R4'.out.grown hg (by simp; omega))
      have R5' := hid (R5.out.s2 z)
      have C5 := hid (hc.far (j := w3.heap.size) (i := 2) (.int .i64 z) (by omega))
      have G5 := hid ((G4.out.grown hg (by simp; omega)).far (j := w3.heap.size) (i := 2) (.int .i64 z) (by omega))
      have O5 := hid (own_kept (own_kept O4.out hg (by intro j hj h; have := FJ.out j hj; simp at h; omega)) (wst (wre w5 (some w3.heap.size)) 2 (.int .i64 z)) (by intro j hj h; have := FJ.out j hj; simp at h; omega))
      have F5 := hid ((F4.out.grown hg (by simp)).far (j := w3.heap.size) (i := 2) (.int .i64 z) (by omega))
      have B5 := hid (bsk (B4.out.trans (below_grownR hg (by intro j hj; simp at hj; omega) B4.out.size)) (k := w3.heap.size) (by omega) 2 (.int .i64 z))
      have d5 := R5.out.cells
      have f5 := R5.out.loose
      have Z5 : Hid (w3.heap.size < w5.heap.size) := R5.out.lt
      obtain ⟨W5, hW5⟩ : ∃ W5, w5.setCell ⟨w3.heap.size, 2, none⟩ (.int .i64 z) = W5 := ⟨_, rfl⟩
      have ZS : Hid (W5.heap.size = w5.heap.size) := by subst hW5; show _ = _; simp [World.setCell]
      rw [hW5] at R5' C5 G5 O5 F5 B5
      have d6 := R5'.out.cells
      have c8 := G5.out.cells
      clear hc hn hg S4 R4 R4' C4 G4 O4 F4 B4 l1 l2 l3
      have HN : Hid (l.length ≤ 1048576) := by show _ ≤ _; rw [HL.out]; omega
      have HBS : Hid (w2.heap.size ≤ W5.heap.size) := by show _ ≤ _; rw [ZS.out]; have := Z5.out; have := Z3.out; omega
      go_wp2_with (at_builtin; refine wpList_append_rg W5 rfl (.tmp 37) (.tmp 39) rfl w2.heap.size v l (by rfl) O5.out x y z (by rfl) HN.out HBS.out ?_; intro v6 w6 hown6 hb6; obtain ⟨a6, k6, hv6, _⟩ := Ow.shape hown6; subst hv6; have G6 := G5.out.below hb6 L2.out; have c9 := G6.cells; have f9 := G6.loose)
      have l1 := L1.out
      have l2 := L2.out
      have e6 : (l ++ [(x, y, z)]).length = l.length + 1 := by simp
      rw [e6] at hown6
      have HO6 := hid hown6
      have HB6 := hid hb6
      go_roundw
      case rel => exact ⟨i + 1, l ++ [(x, y, z)], .slice a6 (l.length + 1) k6, b5, bad5, by omega, by go_num, (by show _ = _; rw [List.length_append, HL.out]; rfl), G6.s2 _, own_far HO6.out l2 2 _, (C5.out.below HB6.out (by omega)).far _ (by omega), three_more S5.out, (F5.out.below HB6.out (by omega)).far _ (by omega), bsk (B5.out.trans (HB6.out.mono (by omega))) (by omega) _ _, (by show _ ≤ _; have := HBS.out; have := HB6.out.size; simp [World.setCell]; omega)⟩
      case measure => simp [intOf]; omega
    · have HL3 : Hid (l.length = 3) := by show _ = _; rw [HL.out]; omega
      obtain ⟨a8, k8, hv8, _⟩ := Ow.shape XO.out
      rw [HL3.out] at hv8
      subst hv8
      go_wp2_with fail
      refine (l05Short_any _ s b bad _ HSZ.out X7.out).mono ?_; rintro e w3 ⟨t, b3, bad3, rfl, hc, hn, hg⟩
      have l1 := L1.out
      have l2 := L2.out
      have l3 := HZ.out
      have G3 := hid (X8.out.grown hg (by simp; omega))
      have G3' := hid (G3.out.s3 t)
      have C3 := hid (hc.far (j := w1.heap.size) (i := 3) (.string t) (by omega))
      have O3 := hid (own_far (own_kept XO.out hg (by intro j hj h; have := (XO.out.lt j hj).1; simp at h; omega)) (j := w1.heap.size) l2 3 (.string t))
      have F3 := hid ((X4.out.grown hg (by simp)).far (j := w1.heap.size) (i := 3) (.string t) (by omega))
      have B3 := hid (bsk (XB.out.trans (below_grownR hg (by intro j hj; simp at hj; omega) XB.out.size)) (k := w1.heap.size) (by omega) 3 (.string t))
      have HNS := hid hn
      have c3 := G3.out.cells
      have f3 := G3.out.loose
      clear hc hn hg X8 XO X7 X4 XB l1 l2 l3
      obtain ⟨W3, hW3⟩ : ∃ W3, w3.setCell ⟨w1.heap.size, 3, none⟩ (.string t) = W3 := ⟨_, rfl⟩
      rw [hW3] at G3' C3 O3 F3 B3
      have d3 := C3.out.cells
      have d8 := G3'.out.cells
      have d4 := F3.out.cells
      have f4 := F3.out.loose
      cases bad3
      · have HE := hid (rm6_ok HL3.out HSS.out HNS.out)
        obtain ⟨q, hq, cq⟩ := specMailOk_l g u a8 3 k8 l t HL3.out (by omega)
        go_wp2_with fail
        refine (cq.out _ (Ow.rs O3.out).2).mono ?_; rintro e w5 ⟨rfl, hb5⟩
        have G5 := hid (G3'.out.later hb5)
        have C5 := hid (C3.out.later hb5)
        have O5 := hid (own_later O3.out hb5)
        have F5 := hid (F3.out.later hb5)
        have B5 := hid (btr B3.out hb5)
        clear d3 d8 d4 f4 c3 f3 hb5 hW3
        have d3 := C5.out.cells
        have d8 := G5.out.cells
        have d4 := F5.out.cells
        have f4 := F5.out.loose
        cases q
        · go_wp2
          have d := (set4 F5.out 0 0 (.slice none 0 0) ⟨#[]⟩).cells
          exact bodyPost_ret (v := .tuple #[.agg #[.int .i64 0, .int .i64 0, .slice none 0 0, .string ⟨#[]⟩], .int .i64 0, .bool false]) (by simp [results, Tryz.results70, go_sem, d]) rfl (RmPost.zero (HE.out.trans (if_neg (by rw [← hq.out]; simp))) (bel4 B5.out (Nat.le_refl _) _ _ _ _))
        · go_wp2_with fail
          go_region
          all_goals go_wp2
          all_goals
            have d := (set4 F5.out g u (.slice a8 3 k8) t).cells
            have l1 := L1.out
            have l2 := L2.out
            refine bodyPost_ret (v := .tuple #[.agg #[.int .i64 g, .int .i64 u, .slice a8 3 k8, .string t], .int .i64 b3, .bool true]) (by simp [results, Tryz.results70, go_sem, d]) rfl ⟨g, u, l, t, b3, true, _, HE.out.trans (if_pos hq.out.symm), rfl, ?_, ?_⟩
            · exact own_base (own4 O5.out (by omega) _ _ _ _) (by omega)
            · first | exact bdr (bel4 B5.out (Nat.le_refl _) _ _ _ _) | exact bel4 (bdr B5.out) (Nat.le_refl _) _ _ _ _
      · have HE := hid (rm6_bad HL3.out HSS.out HNS.out)
        go_wp2
        have d := (set4 F3.out 0 0 (.slice none 0 0) ⟨#[]⟩).cells
        exact bodyPost_ret (v := .tuple #[.agg #[.int .i64 0, .int .i64 0, .slice none 0 0, .string ⟨#[]⟩], .int .i64 0, .bool false]) (by simp [results, Tryz.results70, go_sem, d]) rfl (RmPost.zero HE.out (bel4 B3.out (Nat.le_refl _) _ _ _ _))
/-- What is read as a number is the number's own bytes. -/
theorem rv_own : ∀ (f : Nat) (L p : List UInt8) (n d : Nat), (∀ b ∈ p, ¬ b.toNat < 128) → rv f L p.length (val p) = some (n, d) → vbs n = (p ++ L).take d ∧ d ≤ (p ++ L).length
  | 0, _, _, _, _, _, h => by simp [rv] at h
  | _ + 1, [], _, _, _, _, h => by simp [rv] at h
  | f + 1, c :: L, p, n, d, hp, h => by
    by_cases hc : c.toNat < 128
    · by_cases h2 : 1000000000 < val p + c.toNat % 128 * 128 ^ p.length ∨ (c.toNat = 0 ∧ 0 < p.length)
      · rw [rv_bad f _ _ c L hc h2] at h; cases h
      · rw [rv_good f _ _ c L hc h2] at h
        simp only [Option.some.injEq, Prod.mk.injEq] at h
        obtain ⟨rfl, rfl⟩ := h
        rw [← val_snoc, vbs_val p c hp hc (by
          by_cases hz : c.toNat = 0
          · left; exact List.eq_nil_of_length_eq_zero (by omega)
          · right; exact hz)]
        constructor
        · rw [show p ++ c :: L = (p ++ [c]) ++ L by simp, List.take_append_of_le_length (by simp), List.take_of_length_le (by simp)]
        · simp
    · rw [rv_more f _ _ c L hc] at h
      have e : rv f L (p ++ [c]).length (val (p ++ [c])) = some (n, d) := by rw [val_snoc, List.length_append]; exact h
      have := rv_own f L (p ++ [c]) n d (by intro b hb; rcases List.mem_append.1 hb with hb | hb; exact hp b hb; simp at hb; rw [hb]; exact hc) e
      simpa using this
/-- A text's bytes. -/
abbrev bl (s : ByteArray) : List UInt8 := s.data.toList
theorem bl_app (s t : ByteArray) : bl (s ++ t) = bl s ++ bl t := by simp [bl, ByteArray.data_append]
theorem bl_vi (n : Int) : bl (vi n) = vbs n.toNat := rfl
theorem bl_len (s : ByteArray) : (bl s).length = s.size := Array.length_toList
theorem bl_inj {s t : ByteArray} (h : bl s = bl t) : s = t := by cases s; cases t; simp only [ByteArray.mk.injEq]; exact Array.toList_inj.1 h
/-- What was read as a number stood there. -/
theorem rd_stood {s : ByteArray} {b n c : Int} (h : rd s b = some (n, c)) : (bl s).drop b.toNat = vbs n.toNat ++ (bl s).drop c.toNat := by
  have hb := rd_some h
  obtain ⟨k, rfl⟩ : ∃ k : Nat, b = k := ⟨b.toNat, by omega⟩
  rw [rd_in (by omega)] at h
  cases hr : rv 5 (s.data.toList.drop k) 0 0 with
  | none => rw [hr] at h; cases h
  | some p =>
    obtain ⟨m, d⟩ := p
    rw [hr] at h
    simp only [Option.map_some, Option.some.injEq, Prod.mk.injEq] at h
    obtain ⟨rfl, rfl⟩ := h
    have o := rv_own 5 _ [] m d (by simp) hr
    have e : ((k : Int) + (d : Int)).toNat = k + d := by omega
    rw [e, Int.toNat_natCast, Int.toNat_natCast, ← List.drop_drop, o.1, List.nil_append]
    exact (List.take_append_drop d _).symm
def vil (nums : List Int) : List UInt8 := nums.flatMap fun n => vbs n.toNat
theorem vil_app (a b : List Int) : vil (a ++ b) = vil a ++ vil b := by simp [vil]
theorem vil_one (n : Int) : vil [n] = vbs n.toNat := by simp [vil]
theorem vil_rts (l : List R3) : vil (flat l) = bl (rts l) := by
  induction l with
  | nil => rfl
  | cons p l ih => simp only [flat, rts, rt, bl_app, bl_vi, ← ih]; simp [vil]
theorem mtx_bl (g u : Int) (l : List R3) (t : ByteArray) : bl (mtx g u l t) = vil (g :: u :: flat l) ++ (vbs t.size ++ bl t) := by
  unfold mtx
  simp only [bl_app, bl_vi, ← vil_rts, Int.toNat_natCast]
  simp [vil]
theorem rds_stood {s : ByteArray} {a : Int} : ∀ (k : Nat) {nums : List Int} {b : Int}, rds s a k = some (nums, b) → (bl s).drop a.toNat = vil nums ++ (bl s).drop b.toNat
  | 0, nums, b, h => by simp only [rds, Option.some.injEq, Prod.mk.injEq] at h; rw [← h.1, ← h.2]; rfl
  | k + 1, nums, b, h => by
    rw [rds] at h
    cases h1 : rds s a k with
    | none => rw [h1] at h; cases h
    | some p =>
      rw [h1] at h; simp only [Option.bind_some] at h
      cases h2 : rd s p.2 with
      | none => rw [h2] at h; cases h
      | some q =>
        rw [h2] at h
        simp only [Option.map_some, Option.some.injEq, Prod.mk.injEq] at h
        rw [← h.1, ← h.2, rds_stood k (nums := p.1) (b := p.2) h1, rd_stood (n := q.1) (c := q.2) h2, vil_app, vil_one, List.append_assoc]
theorem rsh_stood {s t : ByteArray} {b c : Int} (h : rsh s b = some (t, c)) : (bl s).drop b.toNat = (vbs t.size ++ bl t) ++ (bl s).drop c.toNat ∧ 0 ≤ c ∧ c ≤ s.size := by
  unfold rsh at h
  cases hr : rd s b with
  | none => rw [hr] at h; cases h
  | some p =>
    obtain ⟨n, d⟩ := p
    rw [hr] at h
    simp only [Option.bind_some] at h
    split at h
    · next hc =>
      simp only [Option.some.injEq, Prod.mk.injEq] at h
      obtain ⟨rfl, rfl⟩ := h
      have hs := rd_some hr
      have e1 : (d + n).toNat = d.toNat + n.toNat := by omega
      have ht : (s.extract d.toNat (d + n).toNat).size = n.toNat := by rw [ByteArray.size_extract]; omega
      have hb : bl (s.extract d.toNat (d + n).toNat) = ((bl s).drop d.toNat).take n.toNat := by
        simp only [bl, ByteArray.data_extract, Array.toList_extract, List.extract_eq_take_drop]
        rw [e1, show d.toNat + n.toNat - d.toNat = n.toNat by omega]
      refine ⟨?_, by omega, by omega⟩
      rw [rd_stood hr, ht, hb, List.append_assoc, e1, ← List.drop_drop, List.take_append_drop]
    · cases h
theorem flat_regs : ∀ (r : List Int), r.length % 3 = 0 → flat (regs r) = r
  | [], _ => rfl
  | [_], h => by simp at h
  | [_, _], h => by simp at h
  | x :: y :: z :: r, h => by
    have := flat_regs r (by simp only [List.length_cons] at h; omega)
    simp only [regs, flat, this]
theorem rds_long {s : ByteArray} {a : Int} : ∀ (k : Nat) {r : List Int} {b : Int}, rds s a k = some (r, b) → r.length = k
  | 0, r, b, h => by simp only [rds, Option.some.injEq, Prod.mk.injEq] at h; rw [← h.1]; rfl
  | k + 1, r, b, h => by
    rw [rds] at h
    cases h1 : rds s a k with
    | none => rw [h1] at h; cases h
    | some p =>
      rw [h1] at h; simp only [Option.bind_some] at h
      cases h2 : rd s p.2 with
      | none => rw [h2] at h; cases h
      | some q =>
        rw [h2] at h
        simp only [Option.map_some, Option.some.injEq, Prod.mk.injEq] at h
        rw [← h.1, List.length_append, rds_long k h1]; rfl
end Go.Proofs.YtlhofbnnonljaaaGreatDoor
