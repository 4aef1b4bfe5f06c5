/- K7n, K7o, K7q, K7u, K7v, K7w. -/
import Derived.Test.YtnbobidpmiieiaaDoorV4
namespace Go.Proofs.YtnbobidpmiieiaaDoor
open Go.RowKit Go.ChangeMaps
/-- A packet's bytes, without the seal; whether it has a text. -/
def pkt (e s a : Int) (t : ByteArray) : ByteArray := vi e ++ vi s ++ vi a ++ vi t.size ++ t
def pkOk (e s a : Int) (t : ByteArray) : Bool := decide (0 ≤ e ∧ e ≤ 1000000000) && (decide (0 ≤ s ∧ s ≤ 1000000000) && (decide (0 ≤ a ∧ a ≤ 1000000000) && decide (t.size ≤ 400)))
def pkS (e s a : Int) (t : ByteArray) : ByteArray := pkt e s a t ++ tail4 (pkt e s a t)
def pkR (e s a : Int) (t : ByteArray) : Value := if pkOk e s a t = true then .tuple #[.string (pkS e s a t), .bool true] else .tuple #[.string ⟨#[]⟩, .bool false]
theorem vi_5 (n : Int) (h : n ≤ 1000000000) : (vi n).size ≤ 5 := by
  have h1 := vbs_len_le 4 n.toNat (by omega)
  show (vbs n.toNat).toArray.size ≤ _
  simpa using h1
theorem pkt_size {e s a : Int} {t : ByteArray} (h : pkOk e s a t = true) : (pkt e s a t).size ≤ 420 := by
  simp only [pkOk, Bool.and_eq_true, decide_eq_true_eq] at h
  obtain ⟨⟨_, h1⟩, ⟨_, h2⟩, ⟨_, h3⟩, h4⟩ := h
  unfold pkt
  simp only [ByteArray.size_append]
  have a1 := vi_5 e h1
  have a2 := vi_5 s h2
  have a3 := vi_5 a h3
  have a4 := vi_5 t.size (by omega)
  omega
set_option maxHeartbeats 1600000 in
set_option maxRecDepth 100000 in
theorem specPacketText_any (e s a : Int) (t : ByteArray) (w : World) (ht : t.size ≤ 1048576) :
    Calls Tryd.prog 7 #[pkv e s a t] w fun x w' => x = .returned (pkR e s a t) ∧ Below w.heap.size w w' := by
  obtain ⟨W0, hW0⟩ : ∃ W0, w.alloc (.cells #[.int .i64 e, .int .i64 s, .int .i64 a, .string t] 25) = W0 := ⟨_, rfl⟩
  have b0 : Below w.heap.size w W0 := by subst hW0; exact bpush (bre _) _
  have x0 : Pk W0 w.heap.size 25 e s a t := by subst hW0; exact Pk.new _ _ _ _ _ _
  have X0 := hid x0
  have B0 := hid b0
  have c0 := x0.cells
  have HW := hid hW0
  have HT := hid ht
  clear x0 b0 ht hW0
  by_cases he : 0 ≤ e ∧ e ≤ 1000000000
  rotate_left
  · have hr : pkR e s a t = .tuple #[.string ⟨#[]⟩, .bool false] := by unfold pkR pkOk; rw [if_neg (by simp only [Bool.and_eq_true, decide_eq_true_eq]; exact fun q => he q.1)]
    rw [hr]
    clear hr
    go_enter Tryd.func7, Tryd.ntmps7
    go_wp2_with fail
    rw [HW.out]
    refine (l01In_no e 0 1000000000 _ (by omega)).mono ?_; rintro y w1 ⟨rfl, hw1⟩
    rw [← hw1]
    clear hw1 w1
    go_wp2
    refine bodyPost_ret (v := .tuple #[.string ⟨#[]⟩, .bool false]) (by simp [results, Tryd.results7, go_sem]) rfl ⟨rfl, B0.out⟩
  by_cases hs : 0 ≤ s ∧ s ≤ 1000000000
  rotate_left
  · have hr : pkR e s a t = .tuple #[.string ⟨#[]⟩, .bool false] := by unfold pkR pkOk; rw [if_neg (by simp only [Bool.and_eq_true, decide_eq_true_eq]; exact fun q => hs q.2.1)]
    rw [hr]
    clear hr
    go_enter Tryd.func7, Tryd.ntmps7
    go_wp2_with fail
    rw [HW.out]
    refine (l01In_yes e 0 1000000000 _ he.1 he.2).mono ?_; rintro y w1 ⟨rfl, hw1⟩
    rw [← hw1]
    clear hw1 w1
    go_wp2_with fail
    refine (l01In_no s 0 1000000000 _ (by omega)).mono ?_; rintro y w1 ⟨rfl, hw1⟩
    rw [← hw1]
    clear hw1 w1
    go_wp2
    refine bodyPost_ret (v := .tuple #[.string ⟨#[]⟩, .bool false]) (by simp [results, Tryd.results7, go_sem]) rfl ⟨rfl, B0.out⟩
  by_cases ha : 0 ≤ a ∧ a ≤ 1000000000
  rotate_left
  · have hr : pkR e s a t = .tuple #[.string ⟨#[]⟩, .bool false] := by unfold pkR pkOk; rw [if_neg (by simp only [Bool.and_eq_true, decide_eq_true_eq]; exact fun q => ha q.2.2.1)]
    rw [hr]
    clear hr
    go_enter Tryd.func7, Tryd.ntmps7
    go_wp2_with fail
    rw [HW.out]
    refine (l01In_yes e 0 1000000000 _ he.1 he.2).mono ?_; rintro y w1 ⟨rfl, hw1⟩
    rw [← hw1]
    clear hw1 w1
    go_wp2_with fail
    refine (l01In_yes s 0 1000000000 _ hs.1 hs.2).mono ?_; rintro y w1 ⟨rfl, hw1⟩
    rw [← hw1]
    clear hw1 w1
    go_wp2_with fail
    refine (l01In_no a 0 1000000000 _ (by omega)).mono ?_; rintro y w1 ⟨rfl, hw1⟩
    rw [← hw1]
    clear hw1 w1
    go_wp2
    refine bodyPost_ret (v := .tuple #[.string ⟨#[]⟩, .bool false]) (by simp [results, Tryd.results7, go_sem]) rfl ⟨rfl, B0.out⟩
  by_cases hl : t.size ≤ 400
  rotate_left
  · have hr : pkR e s a t = .tuple #[.string ⟨#[]⟩, .bool false] := by unfold pkR pkOk; rw [if_neg (by simp only [Bool.and_eq_true, decide_eq_true_eq]; exact fun q => hl q.2.2.2)]
    rw [hr]
    clear hr
    have h4 : (400 : Int) < (t.size : Int) := by omega
    go_enter Tryd.func7, Tryd.ntmps7
    go_wp2_with fail
    rw [HW.out]
    refine (l01In_yes e 0 1000000000 _ he.1 he.2).mono ?_; rintro y w1 ⟨rfl, hw1⟩
    rw [← hw1]
    clear hw1 w1
    go_wp2_with fail
    refine (l01In_yes s 0 1000000000 _ hs.1 hs.2).mono ?_; rintro y w1 ⟨rfl, hw1⟩
    rw [← hw1]
    clear hw1 w1
    go_wp2_with fail
    refine (l01In_yes a 0 1000000000 _ ha.1 ha.2).mono ?_; rintro y w1 ⟨rfl, hw1⟩
    rw [← hw1]
    clear hw1 w1
    go_wp2
    refine bodyPost_ret (v := .tuple #[.string ⟨#[]⟩, .bool false]) (by simp [results, Tryd.results7, go_sem]) rfl ⟨rfl, B0.out⟩
  have hok : pkOk e s a t = true := by unfold pkOk; simp only [Bool.and_eq_true, decide_eq_true_eq]; exact ⟨he, hs, ha, hl⟩
  have hr : pkR e s a t = .tuple #[.string (pkS e s a t), .bool true] := by unfold pkR; rw [if_pos hok]
  have hsz := pkt_size hok
  rw [hr]
  clear hr hok
  have h4 : ¬ (400 : Int) < (t.size : Int) := by omega
  obtain ⟨P, hP⟩ : ∃ P, pkS e s a t = P := ⟨_, rfl⟩
  rw [hP]
  obtain ⟨xe, qe, ze, ve⟩ := var_s e he.1 he.2
  obtain ⟨xs, qs, zs, vs⟩ := var_s s hs.1 hs.2
  obtain ⟨xa, qa, za, va⟩ := var_s a ha.1 ha.2
  obtain ⟨xt, qt, zt, vt⟩ := var_s (t.size : Int) (by omega) (by omega)
  have HP : Hid ((xe ++ xs ++ xa ++ xt ++ t) ++ tail4 (xe ++ xs ++ xa ++ xt ++ t) = P ∧ (xe ++ xs ++ xa ++ xt ++ t).size ≤ 20000) := hid (by
    rw [qe.out, qs.out, qa.out, qt.out]
    exact ⟨hP, Nat.le_trans hsz (by decide)⟩)
  clear hP hsz qe qs qa qt
  have m1 : ¬ 9223372036854775807 < xe.size + xs.size := by omega
  have m2 : ¬ 9223372036854775807 < xe.size + xs.size + xa.size := by omega
  have m3 : ¬ 9223372036854775807 < xe.size + xs.size + xa.size + xt.size := by omega
  have m4 : ¬ 9223372036854775807 < xe.size + xs.size + xa.size + xt.size + t.size := by omega
  clear ze zs za zt
  go_enter Tryd.func7, Tryd.ntmps7
  go_wp2_with fail
  rw [HW.out]
  refine (l01In_yes e 0 1000000000 _ he.1 he.2).mono ?_; rintro y w1 ⟨rfl, hw1⟩
  rw [← hw1]
  clear hw1 w1
  go_wp2_with fail
  refine (l01In_yes s 0 1000000000 _ hs.1 hs.2).mono ?_; rintro y w1 ⟨rfl, hw1⟩
  rw [← hw1]
  clear hw1 w1
  go_wp2_with fail
  refine (l01In_yes a 0 1000000000 _ ha.1 ha.2).mono ?_; rintro y w1 ⟨rfl, hw1⟩
  rw [← hw1]
  clear hw1 w1
  go_upto_region 3 with fail
  clear c0 he hs ha
  refine wp_region_noPanic ?_
  refine wp_region_held_drew (S := (fun W => W.cell? ⟨w.heap.size, 0, none⟩ = some (.int .i64 e) ∧ W.cell? ⟨w.heap.size, 1, none⟩ = some (.int .i64 s) ∧ W.cell? ⟨w.heap.size, 2, none⟩ = some (.int .i64 a) ∧ W.cell? ⟨w.heap.size, 3, none⟩ = some (.string t))) (by kernel_rfl) X0.out.cells (fun hHeld => ?_)
  obtain ⟨v0, hv0⟩ : ∃ x, W0.drew = x := ⟨_, rfl⟩
  replace X0 := hid (X0.out.later (bdr (bre _)))
  replace B0 := hid (btr B0.out (bdr (bre _)))
  rw [hv0] at X0 B0 hHeld
  rw [hv0]
  clear hv0
  refine tk 0 ?_
  refine tk 1 ?_
  refine tk 3 ?_
  refine tk 4 ?_
  refine tk 7 ?_
  refine tk 8 ?_
  refine tk 11 ?_
  refine tk 12 ?_
  refine tk 13 ?_
  refine tk 16 ?_
  refine tk 17 ?_
  clear hHeld
  refine ry 2 (fun K hK => ?_)
  go_simp
  refine (ve.out _).mono ?_; rintro y v1 ⟨rfl, hb⟩
  replace X0 := hid (X0.out.later hb)
  replace B0 := hid (btr B0.out hb)
  clear hb
  go_wp2_with fail
  refine hK.out _ _ X0.out.cells (fun hHeld => ?_)
  clear hK K
  try simp only [Act.put, List.setIfInBounds_toArray, List.set_cons_zero, List.set_cons_succ]
  clear hHeld
  refine ry 5 (fun K hK => ?_)
  go_simp
  refine (vs.out _).mono ?_; rintro y v2 ⟨rfl, hb⟩
  replace X0 := hid (X0.out.later hb)
  replace B0 := hid (btr B0.out hb)
  clear hb
  go_wp2_with fail
  refine hK.out _ _ X0.out.cells (fun hHeld => ?_)
  clear hK K
  try simp only [Act.put, List.setIfInBounds_toArray, List.set_cons_zero, List.set_cons_succ]
  refine tk 6 ?_
  clear hHeld
  refine ry 9 (fun K hK => ?_)
  go_simp
  refine (va.out _).mono ?_; rintro y v3 ⟨rfl, hb⟩
  replace X0 := hid (X0.out.later hb)
  replace B0 := hid (btr B0.out hb)
  clear hb
  go_wp2_with fail
  refine hK.out _ _ X0.out.cells (fun hHeld => ?_)
  clear hK K
  try simp only [Act.put, List.setIfInBounds_toArray, List.set_cons_zero, List.set_cons_succ]
  refine tk 10 ?_
  clear hHeld
  refine ry 14 (fun K hK => ?_)
  go_simp
  refine (vt.out _).mono ?_; rintro y v4 ⟨rfl, hb⟩
  replace X0 := hid (X0.out.later hb)
  replace B0 := hid (btr B0.out hb)
  clear hb
  go_wp2_with fail
  refine hK.out _ _ X0.out.cells (fun hHeld => ?_)
  clear hK K
  try simp only [Act.put, List.setIfInBounds_toArray, List.set_cons_zero, List.set_cons_succ]
  refine tk 15 ?_
  refine tk 18 ?_
  clear hHeld
  refine ry 19 (fun K hK => ?_)
  go_simp
  refine (specSealed_yes _ _ HP.out.2).mono ?_; rintro y v5 ⟨rfl, hb⟩
  replace X0 := hid (X0.out.later hb)
  replace B0 := hid (btr B0.out hb)
  clear hb
  go_wp2_with fail
  refine hK.out _ _ X0.out.cells (fun hHeld => ?_)
  clear hK K
  try simp only [Act.put, List.setIfInBounds_toArray, List.set_cons_zero, List.set_cons_succ]
  refine tk 20 ?_
  refine tk 21 ?_
  refine tk 22 ?_
  refine tk 23 ?_
  clear hHeld
  refine wpAnyH_done (by kernel_rfl) ?_ _
  refine NoPanic.normal ?_
  go_wp2
  refine bodyPost_ret (v := .tuple #[.string ((xe ++ xs ++ xa ++ xt ++ t) ++ tail4 (xe ++ xs ++ xa ++ xt ++ t)), .bool true]) (by simp [results, Tryd.results7, go_sem]) rfl ⟨by rw [HP.out.1], B0.out⟩
/-- What is sealed in a text, and whether it is. -/
def unsK (s : ByteArray) : ByteArray × Bool := if 4 ≤ s.size ∧ s.size ≤ 20004 ∧ tail4 (s.extract 0 (s.size - 4)) = s.extract (s.size - 4) s.size then (s.extract 0 (s.size - 4), true) else (⟨#[]⟩, false)
theorem unsK_size (s : ByteArray) : (unsK s).1.size ≤ 20000 := by
  unfold unsK
  split
  · rw [ByteArray.size_extract]; omega
  · decide
theorem specUnsealedK_any (s : ByteArray) (w : World) (hm : s.size ≤ 1048576) :
    Calls Tryd.prog 33 #[.string s] w fun e w' => e = .returned (.tuple #[.string (unsK s).1, .bool (unsK s).2]) ∧ Below w.heap.size w w' := by
  by_cases h : 4 ≤ s.size ∧ s.size ≤ 20004
  · by_cases h2 : tail4 (s.extract 0 (s.size - 4)) = s.extract (s.size - 4) s.size
    · have e : unsK s = (s.extract 0 (s.size - 4), true) := by unfold unsK; rw [if_pos ⟨h.1, h.2, h2⟩]
      rw [e]
      exact specUnsealed_yes s (s.size - 4) w (by omega) (by omega) h2
    · have e : unsK s = (⟨#[]⟩, false) := by unfold unsK; rw [if_neg (fun x => h2 x.2.2)]
      rw [e]
      exact specUnsealed_no s (s.size - 4) w (by omega) (by omega) h2
  · have e : unsK s = (⟨#[]⟩, false) := by unfold unsK; rw [if_neg (fun x => h ⟨x.1, x.2.1⟩)]
    rw [e]
    exact specUnsealed_size s w hm (by omega)
/-- These bytes stand there. -/
def AtK (s : ByteArray) (a : Int) (X : List UInt8) : Prop := 0 ≤ a ∧ a ≤ s.size ∧ ∃ R, (bl s).drop a.toNat = X ++ R
section
variable {s : ByteArray} {a : Int} {X Y : List UInt8}
theorem AtK.here (h : AtK s a (X ++ Y)) : AtK s a X := by
  obtain ⟨h1, h2, R, h3⟩ := h
  exact ⟨h1, h2, Y ++ R, by rw [h3, List.append_assoc]⟩
theorem AtK.next (h : AtK s a (X ++ Y)) : AtK s (a + X.length) Y := by
  obtain ⟨h1, h2, R, h3⟩ := h
  have hl : X.length ≤ s.size - a.toNat := by
    have h4 := congrArg List.length h3
    rw [List.length_drop, bl_len, List.length_append, List.length_append] at h4
    omega
  refine ⟨by omega, by omega, R, ?_⟩
  rw [show (a + (X.length : Int)).toNat = a.toNat + X.length by omega, ← List.drop_drop, h3, List.append_assoc, List.drop_left]
theorem AtK.var {n : Int} (h : AtK s a (bl (vi n))) (hn : 0 ≤ n ∧ n ≤ 1000000000) : rd s a = some (n, a + (vi n).size) := by
  obtain ⟨h1, h2, R, h3⟩ := h
  rw [bl_vi] at h3
  rw [rd_here h1 h2 hn h3, ← bl_len, bl_vi]
theorem AtK.short {t : ByteArray} (h : AtK s a (bl (vi t.size) ++ bl t)) (ht : t.size ≤ 20000) : rsh s a = some (t, a + ((vi t.size).size + t.size : Nat)) := by
  obtain ⟨h1, h2, R, h3⟩ := h
  rw [bl_vi] at h3
  rw [rsh_here h1 h2 ht h3]
  have e : (vi (t.size : Int)).size = (vbs t.size).length := by rw [← bl_len, bl_vi]; rfl
  rw [e]
  simp only [Option.some.injEq, Prod.mk.injEq, true_and]
  omega
end
theorem unsK_sealed (u : ByteArray) (hu : u.size ≤ 20000) : unsK (u ++ tail4 u) = (u, true) := by
  have hz := tail4_size u
  have e1 : (u ++ tail4 u).size - 4 = u.size := by rw [ByteArray.size_append, hz]; omega
  have e2 : (u ++ tail4 u).extract 0 u.size = u := by
    apply bl_inj
    have h : bl ((u ++ tail4 u).extract 0 u.size) = (bl (u ++ tail4 u)).take u.size := by simp only [bl, ByteArray.data_extract, Array.toList_extract, List.extract, List.drop_zero, Nat.sub_zero]
    rw [h, bl_app, ← bl_len u, List.take_left]
  have e3 : (u ++ tail4 u).extract u.size (u ++ tail4 u).size = tail4 u := by
    apply bl_inj
    have h : bl ((u ++ tail4 u).extract u.size (u ++ tail4 u).size) = ((bl (u ++ tail4 u)).drop u.size).take ((u ++ tail4 u).size - u.size) := by simp only [bl, ByteArray.data_extract, Array.toList_extract, List.extract]
    rw [h, bl_app, ← bl_len u, List.drop_left, ByteArray.size_append, bl_len, List.take_of_length_le (by rw [bl_len]; omega)]
  unfold unsK
  rw [e1, e2, e3, if_pos ⟨by rw [ByteArray.size_append, hz]; omega, by rw [ByteArray.size_append, hz]; omega, rfl⟩]
theorem nxt_sure {s : ByteArray} {b : Int} {n b' m c : Int} {bad bad' : Bool} (h : nxt s b bad n b' bad') (hb : bad = false) (hr : rd s b = some (m, c)) : n = m ∧ b' = c ∧ bad' = false := by
  rcases h with ⟨_, h2, h3⟩ | ⟨_, _, _, h4 | h4⟩
  · rw [hr] at h3; simp only [Option.some.injEq, Prod.mk.injEq] at h3; exact ⟨h3.1.symm, h3.2.symm, h2⟩
  · rw [hb] at h4; cases h4
  · rw [hr] at h4; cases h4
theorem nxtS_sure {s : ByteArray} {b : Int} {t u : ByteArray} {b' c : Int} {bad bad' : Bool} (h : nxtS s b bad t b' bad') (hb : bad = false) (hr : rsh s b = some (u, c)) : t = u ∧ b' = c ∧ bad' = false := by
  rcases h with ⟨_, h2, h3⟩ | ⟨_, _, _, h4 | h4⟩
  · rw [hr] at h3; simp only [Option.some.injEq, Prod.mk.injEq] at h3; exact ⟨h3.1.symm, h3.2.symm, h2⟩
  · rw [hb] at h4; cases h4
  · rw [hr] at h4; cases h4
theorem nxtS_size {s : ByteArray} {b : Int} {t : ByteArray} {b' : Int} {bad bad' : Bool} (h : nxtS s b bad t b' bad') : t.size ≤ s.size := by
  rcases h with ⟨_, _, h3⟩ | ⟨_, rfl, _⟩
  · have h4 := congrArg List.length (rsh_stood h3).1
    rw [List.length_drop, bl_len, List.length_append, List.length_append, bl_len] at h4
    omega
  · exact Nat.zero_le _
/-- A packet's text reads as that packet. -/
theorem pkt_read {t : ByteArray} {n1 n2 n3 b1 b2 b3 b4 : Int} {u : ByteArray} {d1 d2 d3 d4 : Bool} (h1 : nxt (unsK t).1 0 (!(unsK t).2) n1 b1 d1) (h2 : nxt (unsK t).1 b1 d1 n2 b2 d2) (h3 : nxt (unsK t).1 b2 d2 n3 b3 d3) (h4 : nxtS (unsK t).1 b3 d3 u b4 d4)
    {e s a : Int} {v : ByteArray} (hok : pkOk e s a v = true) (ht : pkS e s a v = t) : n1 = e ∧ n2 = s ∧ n3 = a ∧ u = v ∧ d4 = false := by
  have hz := pkt_size hok
  have hu : unsK t = (pkt e s a v, true) := by rw [← ht]; exact unsK_sealed _ (by omega)
  rw [hu] at h1 h2 h3 h4
  simp only [pkOk, Bool.and_eq_true, decide_eq_true_eq] at hok
  obtain ⟨r1, r2, r3, r4⟩ := hok
  have a0 : AtK (pkt e s a v) 0 (bl (vi e) ++ (bl (vi s) ++ (bl (vi a) ++ (bl (vi v.size) ++ bl v)))) := by
    refine ⟨by decide, by omega, [], ?_⟩
    unfold pkt
    simp only [bl_app, List.append_assoc, List.append_nil]
    rfl
  obtain ⟨e1, e2, e3⟩ := nxt_sure h1 rfl (AtK.var a0.here r1)
  have a1 := a0.next
  rw [bl_len] at a1
  rw [e2] at h2
  obtain ⟨f1, f2, f3⟩ := nxt_sure h2 e3 (AtK.var a1.here r2)
  have a2 := a1.next
  rw [bl_len] at a2
  rw [f2] at h3
  obtain ⟨g1, g2, g3⟩ := nxt_sure h3 f3 (AtK.var a2.here r3)
  have a3 := a2.next
  rw [bl_len] at a3
  rw [g2] at h4
  obtain ⟨k1, _, k3⟩ := nxtS_sure h4 g3 (AtK.short a3 (by omega))
  exact ⟨e1, f1, g1, k1, k3⟩
/-- What reading a packet answers. -/
def RpPost (t : ByteArray) (x : Ending) : Prop :=
  (∃ e s a u, pkOk e s a u = true ∧ pkS e s a u = t ∧ x = .returned (.tuple #[pkv e s a u, .bool true])) ∨ ((∀ e s a u, pkOk e s a u = true → pkS e s a u ≠ t) ∧ x = .returned (.tuple #[pkv 0 0 0 ⟨#[]⟩, .bool false]))
set_option maxHeartbeats 3200000 in
set_option maxRecDepth 100000 in
theorem specReadPacket_any (t : ByteArray) (w : World) (ht : t.size ≤ 1048576) :
    Calls Tryd.prog 10 #[.string t] w fun x w' => RpPost t x ∧ Below w.heap.size w w' := by
  obtain ⟨W0, hW0⟩ : ∃ W0, w.alloc (.cells pk0 25) = W0 := ⟨_, rfl⟩
  have b0 : Below w.heap.size w W0 := by subst hW0; exact bpush (bre _) _
  have x0 : Pk W0 w.heap.size 25 0 0 0 ⟨#[]⟩ := by subst hW0; exact Pk.new _ _ _ _ _ _
  have A0 := hid x0
  have B0 := hid b0
  have HW := hid hW0
  obtain ⟨s, hs⟩ : ∃ s, (unsK t).1 = s := ⟨_, rfl⟩
  obtain ⟨ok, hok⟩ : ∃ ok, (unsK t).2 = ok := ⟨_, rfl⟩
  have HZ : Hid (s.size ≤ 20000) := hid (by rw [← hs]; exact unsK_size t)
  have CU := hid (fun (W : World) => specUnsealedK_any t W ht)
  rw [hs, hok] at CU
  have HT := hid ht
  have HS := hid hs
  have HO := hid hok
  clear x0 b0 hW0 hs hok ht
  go_enter Tryd.func10, Tryd.ntmps10
  go_wp2_with fail
  rw [HW.out]
  clear HW
  refine (CU.out _).mono ?_; rintro x w1 ⟨rfl, hb⟩
  have A0 := hid (A0.out.later hb)
  have B0 := hid (btr B0.out hb)
  clear hb CU
  obtain ⟨w2, hw2⟩ : ∃ W, w1.alloc (.cells #[.string s, .int .i64 0, .bool (!ok)] 61) = W := ⟨_, rfl⟩
  have b2 : Below w1.heap.size w1 w2 := by subst hw2; exact bpush (bre _) _
  have KC := hid (show Cg w2 w1.heap.size s 0 (!ok) by subst hw2; exact heap_alloc_new w1 _)
  have L1 : Hid (w.heap.size < w1.heap.size) := hid A0.out.lt
  have A0 := hid (A0.out.later b2)
  have B0 := hid (btr B0.out b2)
  clear b2
  go_wp2_with fail
  clear hw2
  refine (l05Var_any w1.heap.size s 0 (!ok) _ (by have := HZ.out; omega) KC.out).mono ?_; rintro x w3 ⟨n1, b1, d1, rfl, hc, h1, hg⟩
  have N1 := hid h1
  have KC := hid hc
  have l1 := L1.out
  have A0 := hid (A0.out.grown hg (by simp; omega))
  have B0 := hid (B0.out.trans (below_of_grown hg (by omega) B0.out.size))
  obtain ⟨w4, hw4⟩ : ∃ W, w3.alloc (.cells #[.int .i64 n1, .int .i64 0, .int .i64 0, .string ⟨#[]⟩] 25) = W := ⟨_, rfl⟩
  have b4 : Below w3.heap.size w3 w4 := by subst hw4; exact bpush (bre _) _
  have PB := hid (show Pk w4 w3.heap.size 25 n1 0 0 ⟨#[]⟩ by subst hw4; exact Pk.new _ _ _ _ _ _)
  have L3 : Hid (w1.heap.size < w3.heap.size) := hid KC.out.lt
  have KC := hid (KC.out.later b4)
  have A0 := hid (A0.out.later b4)
  have B0 := hid (btr B0.out b4)
  have HW4 := hid hw4
  clear hc h1 hg b4 l1 hw4
  go_upto_region 4 with fail
  rw [HW4.out]
  clear HW4
  go_wp2_with fail
  refine (l05Var_any w1.heap.size s b1 d1 _ (by have := HZ.out; omega) KC.out).mono ?_; rintro x w5 ⟨n2, b2, d2, rfl, hc, h1, hg⟩
  have N2 := hid h1
  have KC := hid hc
  have l1 := L1.out; have l3 := L3.out
  have A0 := hid (A0.out.grown hg (by simp; omega))
  have PB := hid (PB.out.grown hg (by simp; omega))
  have B0 := hid (B0.out.trans (below_of_grown hg (by omega) B0.out.size))
  clear hc h1 hg l1 l3
  have c1 := PB.out.cells
  have f1 := PB.out.loose
  go_upto_region 5 with fail
  obtain ⟨y2, hy2⟩ : ∃ W, w5.setCell ⟨w3.heap.size, 1, none⟩ (.int .i64 n2) = W := ⟨_, rfl⟩
  have gg := wst (wre w5 (some w3.heap.size)) 1 (.int .i64 n2)
  have l1 := L1.out; have l3 := L3.out
  have hc := KC.out
  have hk : y2.heap[w1.heap.size]? = w5.heap[w1.heap.size]? := by rw [← hy2]; exact gg.block _ hc.lt (by simp; omega)
  have KC : Hid (Cg y2 w1.heap.size s _ _) := hid (hk.trans hc)
  have A0 := hid (A0.out.grown gg (by simp; omega))
  have PB := hid (PB.out.s1 n2)
  have B0 := hid (B0.out.trans (below_of_grown gg (by omega) B0.out.size))
  rw [hy2] at A0 PB B0 ⊢
  clear hy2 gg l1 l3 hc hk c1 f1
  go_wp2_with fail
  refine (l05Var_any w1.heap.size s b2 d2 _ (by have := HZ.out; omega) KC.out).mono ?_; rintro x w7 ⟨n3, b3, d3, rfl, hc, h1, hg⟩
  have N3 := hid h1
  have KC := hid hc
  have l1 := L1.out; have l3 := L3.out
  have A0 := hid (A0.out.grown hg (by simp; omega))
  have PB := hid (PB.out.grown hg (by simp; omega))
  have B0 := hid (B0.out.trans (below_of_grown hg (by omega) B0.out.size))
  clear hc h1 hg l1 l3
  have c1 := PB.out.cells
  have f1 := PB.out.loose
  go_upto_region 6 with fail
  obtain ⟨y3, hy3⟩ : ∃ W, w7.setCell ⟨w3.heap.size, 2, none⟩ (.int .i64 n3) = W := ⟨_, rfl⟩
  have gg := wst (wre w7 (some w3.heap.size)) 2 (.int .i64 n3)
  have l1 := L1.out; have l3 := L3.out
  have hc := KC.out
  have hk : y3.heap[w1.heap.size]? = w7.heap[w1.heap.size]? := by rw [← hy3]; exact gg.block _ hc.lt (by simp; omega)
  have KC : Hid (Cg y3 w1.heap.size s _ _) := hid (hk.trans hc)
  have A0 := hid (A0.out.grown gg (by simp; omega))
  have PB := hid (PB.out.s2 n3)
  have B0 := hid (B0.out.trans (below_of_grown gg (by omega) B0.out.size))
  rw [hy3] at A0 PB B0 ⊢
  clear hy3 gg l1 l3 hc hk c1 f1
  go_wp2_with fail
  refine (l05Short_any w1.heap.size s b3 d3 _ (by have := HZ.out; omega) KC.out).mono ?_; rintro x w9 ⟨u, b4, d4, rfl, hc, h1, hg⟩
  have N4 := hid h1
  have KC := hid hc
  have l1 := L1.out; have l3 := L3.out
  have A0 := hid (A0.out.grown hg (by simp; omega))
  have PB := hid (PB.out.grown hg (by simp; omega))
  have B0 := hid (B0.out.trans (below_of_grown hg (by omega) B0.out.size))
  clear hc h1 hg l1 l3
  have c1 := PB.out.cells
  have f1 := PB.out.loose
  go_upto_region 7 with fail
  obtain ⟨y4, hy4⟩ : ∃ W, w9.setCell ⟨w3.heap.size, 3, none⟩ (.string u) = W := ⟨_, rfl⟩
  have gg := wst (wre w9 (some w3.heap.size)) 3 (.string u)
  have l1 := L1.out; have l3 := L3.out
  have hc := KC.out
  have hk : y4.heap[w1.heap.size]? = w9.heap[w1.heap.size]? := by rw [← hy4]; exact gg.block _ hc.lt (by simp; omega)
  have KC : Hid (Cg y4 w1.heap.size s _ _) := hid (hk.trans hc)
  have A0 := hid (A0.out.grown gg (by simp; omega))
  have PB := hid (PB.out.s3 u)
  have B0 := hid (B0.out.trans (below_of_grown gg (by omega) B0.out.size))
  rw [hy4] at A0 PB B0 ⊢
  clear hy4 gg l1 l3 hc hk c1 f1
  have HU : Hid (u.size ≤ 1048576) := hid (by have h1 := nxtS_size N4.out; have h2 := HZ.out; omega)
  have HR : Hid (∀ e z a v, pkOk e z a v = true → pkS e z a v = t → n1 = e ∧ n2 = z ∧ n3 = a ∧ u = v ∧ d4 = false) := hid (by
    intro e z a v q1 q2
    have m1 := N1.out; have m2 := N2.out; have m3 := N3.out; have m4 := N4.out
    rw [← HS.out] at m1 m2 m3 m4
    rw [← HO.out] at m1
    exact pkt_read m1 m2 m3 m4 q1 q2)
  clear N1 N2 N3 N4
  have c1 := PB.out.cells
  go_wp2_with fail
  clear c1
  refine (specPacketText_any n1 n2 n3 u _ HU.out).mono ?_; rintro x w10 ⟨rfl, hb⟩
  have KC := hid (KC.out.later hb)
  have A0 := hid (A0.out.later hb)
  have PB := hid (PB.out.later hb)
  have B0 := hid (btr B0.out hb)
  clear hb
  have k0 := KC.out.cells
  have c0 := A0.out.cells
  have f0 := A0.out.loose
  have c1 := PB.out.cells
  by_cases hk : pkOk n1 n2 n3 u = true
  rotate_left
  · have HN : Hid (∀ e z a v, pkOk e z a v = true → pkS e z a v ≠ t) := hid (fun e z a v q1 q2 => by
      obtain ⟨rfl, rfl, rfl, rfl, _⟩ := HR.out e z a v q1 q2
      exact hk q1)
    rw [show pkR n1 n2 n3 u = .tuple #[.string ⟨#[]⟩, .bool false] from if_neg hk]
    clear hk
    cases d4 <;>
    · go_wp2
      have g3 := putP_grown w10 w.heap.size 0 0 0 ⟨#[]⟩
      have d := (A0.out.put 0 0 0 ⟨#[]⟩).cells
      unfold putP at g3 d
      exact bodyPost_ret (v := .tuple #[pkv 0 0 0 ⟨#[]⟩, .bool false]) (by simp [results, Tryd.results10, go_sem, d]) rfl ⟨Or.inr ⟨HN.out, rfl⟩, B0.out.trans (below_of_grown g3 (Nat.le_refl _) B0.out.size)⟩
  rw [show pkR n1 n2 n3 u = .tuple #[.string (pkS n1 n2 n3 u), .bool true] from if_pos hk]
  obtain ⟨P, hP⟩ : ∃ P, pkS n1 n2 n3 u = P := ⟨_, rfl⟩
  rw [hP]
  have HK := hid hk
  have HP := hid hP
  clear hk hP
  cases d4 with
  | true =>
    have HN : Hid (∀ e z a v, pkOk e z a v = true → pkS e z a v ≠ t) := hid (fun e z a v q1 q2 => by
      obtain ⟨_, _, _, _, h⟩ := HR.out e z a v q1 q2
      cases h)
    go_wp2
    have g3 := putP_grown w10 w.heap.size 0 0 0 ⟨#[]⟩
    have d := (A0.out.put 0 0 0 ⟨#[]⟩).cells
    unfold putP at g3 d
    exact bodyPost_ret (v := .tuple #[pkv 0 0 0 ⟨#[]⟩, .bool false]) (by simp [results, Tryd.results10, go_sem, d]) rfl ⟨Or.inr ⟨HN.out, rfl⟩, B0.out.trans (below_of_grown g3 (Nat.le_refl _) B0.out.size)⟩
  | false =>
    by_cases he : P = t
    · subst he
      have e4 : (!P.toList == P.toList) = false := by simp
      go_wp2
      have g3 := putP_grown w10 w.heap.size n1 n2 n3 u
      have d := (A0.out.put n1 n2 n3 u).cells
      unfold putP at g3 d
      exact bodyPost_ret (v := .tuple #[pkv n1 n2 n3 u, .bool true]) (by simp [results, Tryd.results10, go_sem, d]) rfl ⟨Or.inl ⟨n1, n2, n3, u, HK.out, HP.out, rfl⟩, B0.out.trans (below_of_grown g3 (Nat.le_refl _) B0.out.size)⟩
    · have HN : Hid (∀ e z a v, pkOk e z a v = true → pkS e z a v ≠ t) := hid (fun e z a v q1 q2 => by
        obtain ⟨rfl, rfl, rfl, rfl, _⟩ := HR.out e z a v q1 q2
        exact he (HP.out.symm.trans q2))
      have e4 : (!P.toList == t.toList) = true := by
        have h : ¬ P.toList = t.toList := fun h => he (bl_inj (by unfold bl; rw [← ByteArray.toList_eq, ← ByteArray.toList_eq]; exact h))
        simpa using h
      clear he
      go_wp2
      have g3 := putP_grown w10 w.heap.size 0 0 0 ⟨#[]⟩
      have d := (A0.out.put 0 0 0 ⟨#[]⟩).cells
      unfold putP at g3 d
      exact bodyPost_ret (v := .tuple #[pkv 0 0 0 ⟨#[]⟩, .bool false]) (by simp [results, Tryd.results10, go_sem, d]) rfl ⟨Or.inr ⟨HN.out, rfl⟩, B0.out.trans (below_of_grown g3 (Nat.le_refl _) B0.out.size)⟩
theorem pkt_at (e s a : Int) (v : ByteArray) : AtK (pkt e s a v) 0 (bl (vi e) ++ (bl (vi s) ++ (bl (vi a) ++ (bl (vi v.size) ++ bl v)))) := by
  refine ⟨by decide, by omega, [], ?_⟩
  unfold pkt
  simp only [bl_app, List.append_assoc, List.append_nil]
  rfl
theorem some_pair {α β : Type} {a a' : α} {b b' : β} (h : (some (a, b) : Option (α × β)) = some (a', b')) : a = a' ∧ b = b' := by
  simp only [Option.some.injEq, Prod.mk.injEq] at h; exact h
/-- Two packets of one text are one. -/
theorem pkS_inj {e s a : Int} {t : ByteArray} {e' s' a' : Int} {t' : ByteArray} (h : pkOk e s a t = true) (h' : pkOk e' s' a' t' = true) (hS : pkS e s a t = pkS e' s' a' t') : e = e' ∧ s = s' ∧ a = a' ∧ t = t' := by
  have z := pkt_size h
  have z' := pkt_size h'
  have u1 : unsK (pkS e s a t) = (pkt e s a t, true) := unsK_sealed _ (by omega)
  have u2 : unsK (pkS e' s' a' t') = (pkt e' s' a' t', true) := unsK_sealed _ (by omega)
  rw [hS, u2] at u1
  have hp : pkt e' s' a' t' = pkt e s a t := congrArg Prod.fst u1
  have a0 := pkt_at e s a t
  have b0 := pkt_at e' s' a' t'
  rw [hp] at b0
  simp only [pkOk, Bool.and_eq_true, decide_eq_true_eq] at h h'
  obtain ⟨r1, r2, r3, r4⟩ := h
  obtain ⟨q1, q2, q3, q4⟩ := h'
  obtain ⟨x1, y1⟩ := some_pair ((AtK.var a0.here r1).symm.trans (AtK.var b0.here q1))
  have a1 := a0.next
  have b1 := b0.next
  rw [bl_len] at a1 b1
  rw [← y1] at b1
  obtain ⟨x2, y2⟩ := some_pair ((AtK.var a1.here r2).symm.trans (AtK.var b1.here q2))
  have a2 := a1.next
  have b2 := b1.next
  rw [bl_len] at a2 b2
  rw [← y2] at b2
  obtain ⟨x3, y3⟩ := some_pair ((AtK.var a2.here r3).symm.trans (AtK.var b2.here q3))
  have a3 := a2.next
  have b3 := b2.next
  rw [bl_len] at a3 b3
  rw [← y3] at b3
  exact ⟨x1, x2, x3, (some_pair ((AtK.short a3 (by omega)).symm.trans (AtK.short b3 (by omega)))).1⟩
/-- The answer, in letters. -/
theorem rp_pair (t : ByteArray) : ∃ (e s a : Int) (u : ByteArray) (k : Bool), ∀ x, RpPost t x → x = .returned (.tuple #[pkv e s a u, .bool k]) := by
  by_cases h : ∃ e s a u, pkOk e s a u = true ∧ pkS e s a u = t
  · obtain ⟨e, s, a, u, h1, h2⟩ := h
    refine ⟨e, s, a, u, true, ?_⟩
    rintro x (⟨e', s', a', u', g1, g2, rfl⟩ | ⟨g, _⟩)
    · obtain ⟨rfl, rfl, rfl, rfl⟩ := pkS_inj g1 h1 (g2.trans h2.symm)
      rfl
    · exact absurd h2 (g _ _ _ _ h1)
  · refine ⟨0, 0, 0, ⟨#[]⟩, false, ?_⟩
    rintro x (⟨e', s', a', u', g1, g2, rfl⟩ | ⟨_, rfl⟩)
    · exact absurd ⟨e', s', a', u', g1, g2⟩ h
    · rfl
set_option maxHeartbeats 800000 in
set_option maxRecDepth 100000 in
theorem cloneS17_any (lo hi : Nat) (ao : Option Addr) (n cap : Nat) (G : List ByteArray) (w : World) (hl : G.length = n) (hn : n ≤ 1048576) (hr : Ss lo hi w ao G) (h0 : ao = none → cap = 0) :
    Calls Tryd.prog 74 #[.slice ao n cap] w fun e w' => ∃ a c, e = .returned (.slice a n c) ∧ OwV w' w.heap.size (.slice a n c) G ∧ Below w.heap.size w w' := by
  have HR := hid hr
  have HL := hid hl
  have HN := hid hn
  clear hr hl hn
  cases ao with
  | none =>
    have hn0 : n = 0 := by
      by_cases h : 0 < n
      · obtain ⟨_, _, h1, _⟩ := HR.out.2 0 (by rw [HL.out]; exact h)
        cases h1
      · omega
    subst hn0
    obtain rfl := h0 rfl
    have hle : G = [] := List.eq_nil_of_length_eq_zero HL.out
    subst hle
    clear h0
    have hnil : ∀ W, (binOp .eql 32 (.slice none 0 0) (.slice none 0 0)).run Tryd.prog W = .ok (.bool true) W := fun W => Lib.run_eql_slice_nil_nil W 0 0 Tryd.underlying32
    go_enter Tryd.func74, Tryd.ntmps74
    go_wp2
    go_ret
    exact ⟨_, _, rfl, ⟨rfl, .inl ⟨rfl, rfl⟩⟩, bre _⟩
  | some ad =>
    clear h0
    obtain ⟨i0, hi, hz0, hz1, hz2⟩ := info_parts17 info_str17
    have HSRC : Hid (∀ j u, (G.map Value.string)[j]? = some u → (w.alloc (.cells #[] 9)).cell? (ad.add j) = some u) := ss_all17 (HR.out.later (bpush (bre _) _))
    have hnil : ∀ W, (binOp .eql 32 (.slice (some ad) n cap) (.slice none 0 0)).run Tryd.prog W = .ok (.bool false) W := fun W => Lib.run_eql_slice_some_nil W ad n cap Tryd.underlying32
    go_enter Tryd.func74, Tryd.ntmps74
    go_wp2_with (at_builtin; refine wpList_append_own _ rfl (.tmp 5) (.tmp 6) 32 rfl w.heap.size 9 i0 _ 1 16 Tryd.underlying32 hi hz0 hz1 hz2 rfl (by decide) _ 0 [] (by rfl) (ownV_empty17 w _ (Nat.le_refl _)) ad n cap (G.map Value.string) (by rfl) (by rw [List.length_map, HL.out, Nat.mul_one]) HSRC.out (str_one17 G) (by have := HN.out; unfold maxLen; omega) (by have := HN.out; omega) (by simp) ?_; intro v1 w1 hown1 hg1 _; have own1 : OwV w1 w.heap.size v1 G := (by simpa [OwV, HL.out] using hown1); obtain ⟨a1, c1, hv1, _⟩ := own1.shape; rw [HL.out] at hv1; subst hv1; have O1 := hid own1; clear hown1 own1)
    go_ret
    exact ⟨_, _, rfl, O1.out, (bpush (bre _) _).grown hg1 (by simp) (by intro k hk; simp [Value.ownBlock] at hk; omega)⟩
theorem own_zero17 {W : World} {B g o n c : Nat} {G : List ByteArray} (h : OwV W B (.slice (some ⟨g, o, none⟩) n c) G) : o = 0 := by
  rcases h.2 with ⟨h1, _⟩ | ⟨g', cap, cur, h1, _⟩
  · simp at h1
  · simp at h1; exact h1.1.2
theorem own_froz17 {W : World} {B g n c : Nat} {G : List ByteArray} (h : OwV W B (.slice (some ⟨g, 0, none⟩) n c) G) (i : Nat) : W.frozen? ⟨g, i, none⟩ = false := by
  obtain rfl := (OwV.is h).1
  exact World.ownsRow.frozenAt h i
theorem set_self17 {G : List ByteArray} {i : Nat} (h : i < G.length) : G.set i G[i] = G := by simp
set_option maxHeartbeats 1600000 in
set_option maxRecDepth 100000 in
theorem copyLk_any (lo hi : Nat) (ep nx wt : Int) (ga : Option Addr) (gn gc : Nat) (G : List ByteArray) (w : World) (hgl : G.length = gn) (hgn : gn ≤ 1048576) (hz : ∀ x ∈ G, x.size ≤ 1048576) (hs : Ss lo hi w ga G) (hg0 : ga = none → gc = 0) :
    Calls Tryd.prog 61 #[lkv ep (.slice ga gn gc) nx wt] w fun e w' => ∃ ag cg, e = .returned (lkv ep (.slice ag gn cg) nx wt) ∧ OwV w' w.heap.size (.slice ag gn cg) G ∧ Below w.heap.size w w' := by
  obtain ⟨W0, hW0⟩ : ∃ W0, (w.alloc (.cells #[.int .i64 ep, .slice ga gn gc, .int .i64 nx, .int .i64 wt] 34)).alloc (.cells lk0 34) = W0 := ⟨_, rfl⟩
  have b0 : Below w.heap.size w W0 := by subst hW0; exact bpush (bpush (bre _) _) _
  have x0 : Lk W0 w.heap.size 34 ep (.slice ga gn gc) nx wt := by subst hW0; exact (Lk.new w _ _ _ _ _).later (bpush (bre _) _)
  have x1 : Lk W0 (w.heap.size + 1) 34 0 (.slice none 0 0) 0 0 := by
    subst hW0
    have h := Lk.new (w.alloc (.cells #[.int .i64 ep, .slice ga gn gc, .int .i64 nx, .int .i64 wt] 34)) 34 0 (.slice none 0 0) 0 0
    simpa using h
  have HC := hid (cloneS17_any lo hi ga gn gc G W0 hgl hgn (hs.later b0) hg0)
  have A0 := hid x0
  have A1 := hid x1
  have B0 := hid b0
  have HW := hid hW0
  have HGL := hid hgl
  have HGN := hid hgn
  have HZ := hid hz
  have c0 := x0.cells
  have f0 := x0.loose
  clear x0 x1 b0 hW0 hs hg0 hgn hgl hz
  go_enter Tryd.func61, Tryd.ntmps61
  go_wp2_with fail
  rw [HW.out]
  clear HW
  refine HC.out.mono ?_; rintro e w1 ⟨ag, cg, rfl, ho, hb⟩
  have LW : Hid (w.heap.size + 1 < W0.heap.size) := hid A1.out.lt
  have hx1 := A0.out.later hb
  have c0 := hx1.cells
  have f0 := hx1.loose
  go_upto_region 2 with fail
  obtain ⟨w2, hw2⟩ : ∃ W, w1.setCell ⟨w.heap.size, 1, none⟩ (.slice ag gn cg) = W := ⟨_, rfl⟩
  have g2 : w1.grownBy w2 (some w.heap.size) := by subst hw2; exact wst (wre w1 _) 1 _
  have x0 : Lk w2 w.heap.size 34 ep (.slice ag gn cg) nx wt := by subst hw2; exact hx1.s1 _
  have x1 : Lk w2 (w.heap.size + 1) 34 0 (.slice none 0 0) 0 0 := (A1.out.later hb).grown g2 (by simp)
  have O2 : Hid (OwV w2 W0.heap.size (.slice ag gn cg) G) := hid (OwV.grown ho g2 (by have := LW.out; omega))
  have B2 : Hid (Below w.heap.size w w2) := hid (B0.out.trans ((hb.mono B0.out.size).trans (below_of_grown g2 (Nat.le_refl _) (Nat.le_trans B0.out.size hb.size))))
  have L2 : Hid (W0.heap.size ≤ w2.heap.size) := hid (Nat.le_trans hb.size g2.size)
  rw [hw2]
  clear hw2 g2 hx1 c0 f0 ho hb HC
  have X0 := hid x0
  have X1 := hid x1
  have c0 := x0.cells
  clear x0 x1 A0 A1 B0
  go_wp2
  go_loopw [12] (fun iv wr => ∃ i : Nat, i ≤ gn ∧ iv = .int .i64 (i : Int) ∧ Lk wr w.heap.size 34 ep (.slice ag gn cg) nx wt ∧ Lk wr (w.heap.size + 1) 34 0 (.slice none 0 0) 0 0 ∧ OwV wr W0.heap.size (.slice ag gn cg) G ∧ Below w.heap.size w wr ∧ W0.heap.size ≤ wr.heap.size) (fun iv _ => gn - (intOf iv).toNat)
  case atStart => exact ⟨0, Nat.zero_le _, rfl, X0.out, X1.out, O2.out, B2.out, L2.out⟩
  case round =>
    obtain ⟨i, hi, rfl, y0, y1, o1, b1, s1⟩ := hrel
    clear c0
    by_cases hlt : i < gn
    · have HLT := hid hlt
      have hil : i < G.length := by rw [HGL.out]; exact hlt
      obtain ⟨k, o, rfl, hk, c⟩ := (OwV.is o1).2.at hil
      obtain rfl := own_zero17 o1
      simp only [Nat.zero_add] at c
      obtain ⟨x, hx⟩ : ∃ x, G[i] = x := ⟨_, rfl⟩
      rw [hx] at c
      have HX := hid hx
      have HZX := hid (HZ.out G[i] (List.getElem_mem hil))
      rw [hx] at HZX
      have hI : (0 : Int) ≤ (i : Int) ∧ (i : Int) < (gn : Int) := by omega
      have hkB := (World.ownsRow.lt o1 k rfl).1
      have HKB := hid hkB
      have Y0 := hid y0
      have Y1 := hid y1
      have O1 := hid o1
      have B1 := hid b1
      have S1 := hid s1
      have HIL := hid hil
      clear hx y0 y1 o1 b1 s1 hkB
      go_wp2_with fail
      have hcell := Y0.out.cells.2.1
      have f1 := own_froz17 O1.out i
      have HCL : Hid (∀ W, Below wr.heap.size wr W → W.cell? ⟨w.heap.size, 1, none⟩ = some (.slice (some ⟨k, 0, none⟩) gn cg)) := hid (fun W h => (Y0.out.later h).cells.2.1)
      have HCX : Hid (∀ W, Below wr.heap.size wr W → W.cell? ⟨k, i, none⟩ = some (.string x)) := hid (fun W h => (cell_sameT (p := ⟨k, i, none⟩) (h.block k hk)).trans c)
      clear hcell c
      go_region_held3 (fun W => W.cell? ⟨w.heap.size, 1, none⟩ = some (.slice (some ⟨k, 0, none⟩) gn cg))
        ((first | exact HCL.out _ (bdr (bre _)) | exact HCL.out _ (btr (bdr (bre _)) hb2) | exact S5.out))
        ((go_at_call 51; refine (clone_any x _ HZX.out).mono ?_; rintro e w2 ⟨rfl, hb2⟩;
          have C2 := hid (show Below wr.heap.size wr w2 from btr (bdr (bre _)) hb2);
          have O2 := hid (OwV.later O1.out C2.out);
          have f2 := own_froz17 O2.out i;
          have d2 := HCX.out w2 C2.out;
          have hkB2 := HKB.out;
          have LW2 := LW.out;
          have g5 : w2.grownBy (w2.setCell ⟨k, i, none⟩ (.string x)) (some k) := wst (wre _ _) _ _;
          have x5 := (Y0.out.later C2.out).grown g5 (by simp; omega);
          have y5 := (Y1.out.later C2.out).grown g5 (by simp; omega);
          have o5 := OwV.stored O2.out i x;
          rw [← HX.out, set_self17 HIL.out, HX.out] at o5;
          have X5 := hid x5; have Y5 := hid y5; have O5 := hid o5;
          have B5 := hid ((B1.out.trans (C2.out.mono B1.out.size)).trans (below_of_grown g5 (by omega) (Nat.le_trans B1.out.size C2.out.size)));
          have S5 : Hid ((w2.setCell ⟨k, i, none⟩ (.string x)).cell? ⟨w.heap.size, 1, none⟩ = some (.slice (some ⟨k, 0, none⟩) gn cg)) := hid x5.cells.2.1;
          have N5 : Hid (W0.heap.size ≤ (w2.setCell ⟨k, i, none⟩ (.string x)).heap.size) := hid (Nat.le_trans S1.out (Nat.le_trans C2.out.size g5.size));
          clear hkB2 LW2 g5 x5 y5 o5))
      all_goals (obtain ⟨w5, hw5⟩ : ∃ W, w2.setCell ⟨k, i, none⟩ (.string x) = W := ⟨_, rfl⟩; rw [hw5] at X5 Y5 O5 B5 S5 N5 ⊢; clear hw5)
      all_goals (have x3 := X5.out; have y3 := Y5.out; have o3 := O5.out; have b3 := B5.out; have s3 := N5.out; have hgn9 := HGN.out; have hw4 : wrap64 ((i : Int) + 1) = (i : Int) + 1 := (by unfold wrap64; omega); go_wp2; go_roundw)
      all_goals
        first
        | exact ⟨i + 1, by omega, by simp, x3, y3, o3, b3, s3⟩
        | (simp [intOf]; omega)
    · have HLT : Hid (i = gn) := (show i = gn by omega)
      have O1 := hid o1
      have B1 := hid b1
      have S1 := hid s1
      have c0 := y0.cells
      have c1 := y1.cells
      have f1 := y1.loose
      have Y1 := hid y1
      clear o1 b1 s1
      go_wp2
      have lw := LW.out
      have g3 := putL_grown wr (w.heap.size + 1) ep (.slice ag gn cg) nx wt
      have d := (Y1.out.put ep (.slice ag gn cg) nx wt).cells
      unfold putL at g3 d
      refine bodyPost_ret (v := lkv ep (.slice ag gn cg) nx wt) (by simp [results, Tryd.results61, go_sem, d]) rfl ⟨_, _, rfl, own_base (OwV.grown O1.out g3 (by omega)) (by omega), B1.out.trans (below_of_grown g3 (by omega) B1.out.size)⟩
abbrev lkP (b : Nat) : Value := .pointer (some ⟨b, 0, none⟩)
abbrev lkF1 (b : Nat) : Value := .func (.func 62) #[] #[lkP b]
abbrev lkF2 (b : Nat) : Value := .func (.func 63) #[] #[lkP b]
abbrev lkF3 (b : Nat) : Value := .func (.func 64) #[] #[lkP b]
abbrev lkF4 (b : Nat) : Value := .func (.func 66) #[] #[lkP b]
/-- A link at work over the block b. -/
abbrev lkF (b : Nat) : Value := .agg #[lkF1 b, lkF2 b, lkF3 b, lkF4 b]
/-- A block of four functions. -/
def Lf (W : World) (k ty : Nat) (a b c d : Value) : Prop := W.heap[k]? = some (.cells #[a, b, c, d] ty (0, 0))
section
variable {W W' : World} {k ty : Nat} {a b c d : Value}
theorem Lf.new (w : World) (ty : Nat) (a b c d : Value) : Lf (w.alloc (.cells #[a, b, c, d] ty)) w.heap.size ty a b c d := heap_alloc_new w _
theorem Lf.lt (h : Lf W k ty a b c d) : k < W.heap.size := (Array.getElem?_eq_some_iff.1 h).1
theorem Lf.later (h : Lf W k ty a b c d) (hb : Below W.heap.size W W') : Lf W' k ty a b c d := (hb.block k h.lt).trans h
theorem Lf.grown {r : Option Nat} (h : Lf W k ty a b c d) (hg : W.grownBy W' r) (hk : some k ≠ r) : Lf W' k ty a b c d := (hg.block k h.lt hk).trans h
theorem Lf.cells (h : Lf W k ty a b c d) : W.cell? ⟨k, 0, none⟩ = some a ∧ W.cell? ⟨k, 1, none⟩ = some b ∧ W.cell? ⟨k, 2, none⟩ = some c ∧ W.cell? ⟨k, 3, none⟩ = some d :=
  ⟨cell_of_row W k 0 _ _ _ h, cell_of_row W k 1 _ _ _ h, cell_of_row W k 2 _ _ _ h, cell_of_row W k 3 _ _ _ h⟩
theorem Lf.loose (h : Lf W k ty a b c d) : W.frozen? ⟨k, 0, none⟩ = false ∧ W.frozen? ⟨k, 1, none⟩ = false ∧ W.frozen? ⟨k, 2, none⟩ = false ∧ W.frozen? ⟨k, 3, none⟩ = false :=
  ⟨frozen_of_row W k 0 _ _ h, frozen_of_row W k 1 _ _ h, frozen_of_row W k 2 _ _ h, frozen_of_row W k 3 _ _ h⟩
end
def putF (W : World) (k : Nat) (a b c d : Value) : World := (((W.setCell ⟨k, 0, none⟩ a).setCell ⟨k, 1, none⟩ b).setCell ⟨k, 2, none⟩ c).setCell ⟨k, 3, none⟩ d
theorem Lf.put {W : World} {k ty : Nat} {a0 b0 c0 d0 : Value} (h : Lf W k ty a0 b0 c0 d0) (a b c d : Value) : Lf (putF W k a b c d) k ty a b c d := by
  have h1 : Lf (W.setCell ⟨k, 0, none⟩ a) k ty a b0 c0 d0 := heap_setCell_same W k 0 _ _ _ h
  have h2 : Lf ((W.setCell ⟨k, 0, none⟩ a).setCell ⟨k, 1, none⟩ b) k ty a b c0 d0 := heap_setCell_same _ k 1 _ _ _ h1
  have h3 : Lf (((W.setCell ⟨k, 0, none⟩ a).setCell ⟨k, 1, none⟩ b).setCell ⟨k, 2, none⟩ c) k ty a b c d0 := heap_setCell_same _ k 2 _ _ _ h2
  exact heap_setCell_same _ k 3 _ _ _ h3
theorem putF_grown (W : World) (k : Nat) (a b c d : Value) : W.grownBy (putF W k a b c d) (some k) := wst (wst (wst (wst (wre W (some k)) 0 _) 1 _) 2 _) 3 _
set_option maxHeartbeats 1600000 in
set_option maxRecDepth 100000 in
theorem linkOf_any (lo hi : Nat) (ep nx wt : Int) (ga : Option Addr) (gn gc : Nat) (G : List ByteArray) (w : World) (hgl : G.length = gn) (hgn : gn ≤ 1048576) (hz : ∀ x ∈ G, x.size ≤ 1048576) (hs : Ss lo hi w ga G) (hg0 : ga = none → gc = 0) :
    Calls Tryd.prog 38 #[lkv ep (.slice ga gn gc) nx wt] w fun e w' => ∃ ag cg, e = .returned (lkF w.heap.size) ∧ Lk w' w.heap.size 34 ep (.slice ag gn cg) nx wt ∧ OwV w' (w.heap.size + 1) (.slice ag gn cg) G ∧ Below w.heap.size w w' := by
  have hmf : ∀ (fn : Fn) (first cap : Array Value) (w : World), (Instr.makeFunc fn first cap).run Tryd.prog w = .ok (.func fn first cap) w := fun _ _ _ _ => rfl
  have hsf : ∀ (a : Addr) (fn : Fn) (first cap : Array Value) (m : Mode) (w : World), (store a (.func fn first cap) m).run Tryd.prog w = stored Tryd.prog w a (.func fn first cap) m := fun a fn first cap m w => run_store Tryd.prog w a _ m rfl
  obtain ⟨W0, hW0⟩ : ∃ W0, (w.alloc (.cells #[.int .i64 ep, .slice ga gn gc, .int .i64 nx, .int .i64 wt] 34)).alloc (.cells #[.nilFunc, .nilFunc, .nilFunc, .nilFunc] 68) = W0 := ⟨_, rfl⟩
  have b0 : Below w.heap.size w W0 := by subst hW0; exact bpush (bpush (bre _) _) _
  have x0 : Lk W0 w.heap.size 34 ep (.slice ga gn gc) nx wt := by subst hW0; exact (Lk.new w _ _ _ _ _).later (bpush (bre _) _)
  have x1 : Lf W0 (w.heap.size + 1) 68 .nilFunc .nilFunc .nilFunc .nilFunc := by
    subst hW0
    have h := Lf.new (w.alloc (.cells #[.int .i64 ep, .slice ga gn gc, .int .i64 nx, .int .i64 wt] 34)) 68 .nilFunc .nilFunc .nilFunc .nilFunc
    simpa using h
  have HC := hid (copyLk_any lo hi ep nx wt ga gn gc G W0 hgl hgn hz (hs.later b0) hg0)
  have A0 := hid x0
  have A1 := hid x1
  have B0 := hid b0
  have HW := hid hW0
  have c0 := x0.cells
  have f0 := x0.loose
  clear x0 x1 b0 hW0 hs hg0 hgn hgl hz
  go_enter Tryd.func38, Tryd.ntmps38
  go_wp2_with fail
  rw [HW.out]
  clear HW
  refine HC.out.mono ?_; rintro e w1 ⟨ag, cg, rfl, ho, hb⟩
  have LW : Hid (w.heap.size + 1 < W0.heap.size) := hid A1.out.lt
  have hx0 := A0.out.later hb
  have hx1 := A1.out.later hb
  have c0 := hx0.cells
  have f0 := hx0.loose
  have c1 := hx1.cells
  have f1 := hx1.loose
  have HO := hid ho
  have B1 := hid (btr B0.out hb)
  have X0 := hid hx0
  have X1 := hid hx1
  have HBS := hid hb.size
  clear A0 A1 B0 hx0 hx1 ho hb HC
  go_upto_region 2 with fail
  have lw := LW.out
  have hbs := HBS.out
  have b1s := B1.out.size
  have hput := putL_grown w1 w.heap.size ep (.slice ag gn cg) nx wt
  have x2 := X0.out.put ep (.slice ag gn cg) nx wt
  have y2 := X1.out.grown hput (by simp)
  have o2 := OwV.grown HO.out hput (by omega)
  have b2 : Below w.heap.size w (putL w1 w.heap.size ep (.slice ag gn cg) nx wt) := B1.out.trans (below_of_grown hput (Nat.le_refl _) B1.out.size)
  obtain ⟨w2, hw2⟩ : ∃ W, putL w1 w.heap.size ep (.slice ag gn cg) nx wt = W := ⟨_, rfl⟩
  rw [hw2] at x2 y2 o2 b2 hput
  unfold putL at hw2
  rw [hw2]
  have hs2 := hput.size
  have c1 := y2.cells
  have f1 := y2.loose
  have X2 := hid x2
  have Y2 := hid y2
  have O2 := hid o2
  have B2 := hid b2
  have LX : Hid (w.heap.size + 1 < W0.heap.size ∧ W0.heap.size ≤ w2.heap.size) := hid ⟨lw, by omega⟩
  clear hw2 hput x2 y2 o2 b2 c0 f0 X0 X1 HO B1 HBS lw hbs b1s hs2
  go_wp2
  have g3 := putF_grown w2 (w.heap.size + 1) (lkF1 w.heap.size) (lkF2 w.heap.size) (lkF3 w.heap.size) (lkF4 w.heap.size)
  have d := (Y2.out.put (lkF1 w.heap.size) (lkF2 w.heap.size) (lkF3 w.heap.size) (lkF4 w.heap.size)).cells
  unfold putF at g3 d
  have lx := LX.out

  refine bodyPost_ret (v := lkF w.heap.size) (by simp [results, Tryd.results38, go_sem, d]) rfl ⟨_, _, rfl, X2.out.grown g3 (by simp), own_base (OwV.grown O2.out g3 (by omega)) (by omega), B2.out.trans (below_of_grown g3 (by omega) B2.out.size)⟩
theorem now17_any (b : Nat) (ep nx wt : Int) (ga : Option Addr) (gn gc : Nat) (w : World) (hx : Lk w b 34 ep (.slice ga gn gc) nx wt) :
    Calls Tryd.prog 66 #[lkP b] w fun e w' => e = .returned (lkv ep (.slice ga gn gc) nx wt) ∧ Below w.heap.size w w' := by
  obtain ⟨W0, hW0⟩ : ∃ W0, w.alloc (.cells lk0 34) = W0 := ⟨_, rfl⟩
  have b0 : Below w.heap.size w W0 := by subst hW0; exact bpush (bre _) _
  have x0 := hx.later b0
  have x1 : Lk W0 w.heap.size 34 0 (.slice none 0 0) 0 0 := by subst hW0; exact Lk.new _ _ _ _ _ _
  have A1 := hid x1
  have B0 := hid b0
  have c0 := x0.cells
  have c1 := x1.cells
  have f1 := x1.loose
  have HW := hid hW0
  clear hx x0 x1 b0 hW0
  go_enter Tryd.func66, Tryd.ntmps66
  go_upto_region 1 with fail
  rw [HW.out]
  go_wp2
  have g3 := putL_grown W0 w.heap.size ep (.slice ga gn gc) nx wt
  have d := (A1.out.put ep (.slice ga gn gc) nx wt).cells
  unfold putL at g3 d
  exact bodyPost_ret (v := lkv ep (.slice ga gn gc) nx wt) (by simp [results, Tryd.results66, go_sem, d]) rfl ⟨rfl, B0.out.trans (below_of_grown g3 (by omega) B0.out.size)⟩
set_option maxHeartbeats 1600000 in
set_option maxRecDepth 100000 in
theorem says17_any (lo hi b : Nat) (ep nx wt : Int) (ga : Option Addr) (gn gc : Nat) (G : List ByteArray) (w : World) (hgl : G.length = gn) (hx : Lk w b 34 ep (.slice ga gn gc) nx wt) (hs : Ss lo hi w ga G) :
    Calls Tryd.prog 63 #[lkP b] w fun e w' => e = .returned (pkv ep (sayN G nx) wt (sayT G)) ∧ Below w.heap.size w w' := by
  obtain ⟨W0, hW0⟩ : ∃ W0, w.alloc (.cells pk0 25) = W0 := ⟨_, rfl⟩
  have b0 : Below w.heap.size w W0 := by subst hW0; exact bpush (bre _) _
  have hw : W0.heap.size = w.heap.size + 1 := by subst hW0; simp
  have x1 : Pk W0 w.heap.size 25 0 0 0 ⟨#[]⟩ := by subst hW0; exact Pk.new _ _ _ _ _ _
  obtain ⟨W1, hW1⟩ : ∃ W1, W0.alloc (.cells #[.int .i64 ep, .int .i64 0, .int .i64 wt, .string ⟨#[]⟩] 25) = W1 := ⟨_, rfl⟩
  have b1 : Below W0.heap.size W0 W1 := by subst hW1; exact bpush (bre _) _
  have x2 : Pk W1 (w.heap.size + 1) 25 ep 0 wt ⟨#[]⟩ := by rw [← hw]; subst hW1; exact Pk.new _ _ _ _ _ _
  have A1 := hid (x1.later b1)
  have A2 := hid x2
  have B0 := hid (btr b0 b1)
  have HW0 := hid hW0
  have HW1 := hid hW1
  have X0 := hid ((hx.later b0).later b1)
  have XW := hid hx
  have HB := hid hx.lt
  obtain ⟨P, hP⟩ : ∃ P, sayN G nx = P := ⟨_, rfl⟩
  obtain ⟨T, hT⟩ : ∃ T, sayT G = T := ⟨_, rfl⟩
  rw [hP, hT]
  have HP := hid hP
  have HT := hid hT
  have HS := hs.later (btr b0 b1)
  have HAT : Hid (∀ g L, G = g :: L → ∃ k o, ga = some ⟨k, o, none⟩ ∧ k < w.heap.size ∧ W1.cell? ⟨k, o, none⟩ = some (.string g)) := hid (by
    rintro g L rfl
    obtain ⟨k, o, h1, h2, _⟩ := hs.at (i := 0) (by simp)
    obtain ⟨k', o', h1', _, h3⟩ := HS.at (i := 0) (by simp)
    rw [h1] at h1'
    simp only [Option.some.injEq, Addr.mk.injEq, and_true] at h1'
    obtain ⟨rfl, rfl⟩ := h1'
    exact ⟨k, o, h1, h2, by simpa using h3⟩)
  have c0 := hid (hx.later b0).cells
  have HW := hid hw
  clear hx x1 x2 b0 b1 hP hT hW0 hW1 hw hs HS
  go_enter Tryd.func63, Tryd.ntmps63
  go_upto_region 1 with fail
  rw [HW0.out]
  replace c0 := c0.out
  go_upto_region 2 with fail
  rw [HW1.out, HW.out]
  have hb := HB.out
  clear HW0 HW1 HW HB c0
  have c0 := X0.out.cells
  have c1 := A1.out.cells
  have f1 := A1.out.loose
  have c2 := A2.out.cells
  have f2 := A2.out.loose
  cases G with
  | nil =>
    obtain rfl : 0 = gn := by simpa using hgl
    go_wp2
    have g3 := putP_grown W1 w.heap.size ep 0 wt ⟨#[]⟩
    have d := (A1.out.put ep 0 wt ⟨#[]⟩).cells
    unfold putP at g3 d
    obtain rfl : 0 = P := HP.out
    obtain rfl : ⟨#[]⟩ = T := HT.out
    exact bodyPost_ret (v := pkv ep 0 wt ⟨#[]⟩) (by simp [results, Tryd.results63, go_sem, d]) rfl ⟨rfl, B0.out.trans (below_of_grown g3 (by omega) B0.out.size)⟩
  | cons g G =>
    obtain ⟨k, o, rfl, hk, hc⟩ := HAT.out g G rfl
    have hn : 0 < gn := by rw [← hgl]; simp
    have hn2 : (0 : Int) < (gn : Int) := by omega
    clear hgl HAT
    have S0 : Hid (W1.cell? ⟨b, 1, none⟩ = some (.slice (some ⟨k, o, none⟩) gn gc) ∧ W1.cell? ⟨b, 2, none⟩ = some (.int .i64 nx) ∧ W1.cell? ⟨k, o, none⟩ = some (.string g)) := hid ⟨c0.2.1, c0.2.2.1, hc⟩
    go_wp2_with fail
    clear c0 c1 hc
    have HS : Hid (∀ W, Below w.heap.size w W → (W.cell? ⟨b, 1, none⟩ = some (.slice (some ⟨k, o, none⟩) gn gc) ∧ W.cell? ⟨b, 2, none⟩ = some (.int .i64 nx) ∧ W.cell? ⟨k, o, none⟩ = some (.string g))) := hid (fun W h => ⟨(XW.out.later h).cells.2.1, (XW.out.later h).cells.2.2.1, ((cell_sameT (p := ⟨k, o, none⟩) (h.block k hk)).trans (cell_sameT (p := ⟨k, o, none⟩) (B0.out.block k hk)).symm).trans S0.out.2.2⟩)
    go_region_held3 (fun W => W.cell? ⟨b, 1, none⟩ = some (.slice (some ⟨k, o, none⟩) gn gc) ∧ W.cell? ⟨b, 2, none⟩ = some (.int .i64 nx) ∧ W.cell? ⟨k, o, none⟩ = some (.string g))
      ((first | exact S0.out | exact HS.out _ (bdr (bset B0.out (by simp) _)) | exact HS.out _ (bset (bdr (bset B0.out (by simp) _)) (by simp) _) | exact HS.out _ (bset (bset (bdr B0.out) (by simp) _) (by simp) _) | exact HS.out _ (bset (bdr B0.out) (by simp) _) | exact HS.out _ (bdr B0.out) | trace_state))
      (fail)
    have g2 := wst (wst (wre W1 (some (w.heap.size + 1))) 1 (.int .i64 nx)) 3 (.string g)
    have y1 := (A1.out.grown g2 (by simp)).later (bdr (bre _))
    have y2 := ((A2.out.s1 nx).s3 g).later (bdr (bre _))
    have b2 := bdr (B0.out.trans (below_of_grown g2 (by omega) B0.out.size))
    obtain ⟨w2, hw2⟩ : ∃ W, ((W1.setCell ⟨w.heap.size + 1, 1, none⟩ (.int .i64 nx)).setCell ⟨w.heap.size + 1, 3, none⟩ (.string g)).drew = W := ⟨_, rfl⟩
    rw [hw2] at y1 y2 b2
    rw [hw2]
    have Y1 := hid y1
    have B2 := hid b2
    clear hw2 g2 A1 A2 B0 f2 c2
    have c1 := y1.cells
    have f1 := y1.loose
    have c2 := y2.cells
    clear y1 y2 b2
    go_wp2
    have g3 := putP_grown w2 w.heap.size ep nx wt g
    have d := (Y1.out.put ep nx wt g).cells
    unfold putP at g3 d
    obtain rfl : nx = P := HP.out
    obtain rfl : g = T := HT.out
    exact bodyPost_ret (v := pkv ep nx wt g) (by simp [results, Tryd.results63, go_sem, d]) rfl ⟨rfl, B2.out.trans (below_of_grown g3 (by omega) B2.out.size)⟩
end Go.Proofs.YtnbobidpmiieiaaDoor
