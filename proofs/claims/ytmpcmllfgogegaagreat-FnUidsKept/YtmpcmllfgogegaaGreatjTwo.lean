/- Two. -/

import Derived.Test.YtmpcmllfgogegaaGreatjMm
namespace Go.Proofs.YtmpcmllfgogegaaGreat
open Go.RowKit Go.ChangeMaps
theorem two_start {w : World} {cb : Nat} {ao : Option Addr} {n cap : Nat} (hcur : Cur w cb ao n cap) :
  M8 (fun _ => True) w (((w.alloc (.cells #[.int .i64 0, .string ⟨#[]⟩, .int .i64 0, .int .i64 0, .int .i64 0, .slice none 0 0, .slice none 0 0] 29)).alloc (.cells #[.int .i64 0, .string ⟨#[]⟩, .int .i64 0, .int .i64 0, .int .i64 0, .slice none 0 0, .slice none 0 0] 29)).alloc (.cells #[.int .i64 7, .string ⟨#[105, 110, 98, 111, 120]⟩, .int .i64 1, .int .i64 1, .int .i64 1, .slice none 0 0, .slice none 0 0] 29)) cb ao n cap (w.heap.size + 1 + 1) (w.heap.size + 1 + 1) := by
 have hlt := hcur.lt
 have s1 : (w.alloc (.cells #[.int .i64 0, .string ⟨#[]⟩, .int .i64 0, .int .i64 0, .int .i64 0, .slice none 0 0, .slice none 0 0] 29)).heap.size = w.heap.size + 1 := by simp
 have s2 : ((w.alloc (.cells #[.int .i64 0, .string ⟨#[]⟩, .int .i64 0, .int .i64 0, .int .i64 0, .slice none 0 0, .slice none 0 0] 29)).alloc (.cells #[.int .i64 0, .string ⟨#[]⟩, .int .i64 0, .int .i64 0, .int .i64 0, .slice none 0 0, .slice none 0 0] 29)).heap.size = w.heap.size + 1 + 1 := by simp
 have a0 : Bx (w.alloc (.cells #[.int .i64 0, .string ⟨#[]⟩, .int .i64 0, .int .i64 0, .int .i64 0, .slice none 0 0, .slice none 0 0] 29)) w.heap.size 29 0 ⟨#[]⟩ 0 0 0 (.slice none 0 0) (.slice none 0 0) := Bx.new _ _ _ _ _ _ _ _ _
 have a1 : Bx ((w.alloc (.cells #[.int .i64 0, .string ⟨#[]⟩, .int .i64 0, .int .i64 0, .int .i64 0, .slice none 0 0, .slice none 0 0] 29)).alloc (.cells #[.int .i64 0, .string ⟨#[]⟩, .int .i64 0, .int .i64 0, .int .i64 0, .slice none 0 0, .slice none 0 0] 29)) (w.heap.size + 1) 29 0 ⟨#[]⟩ 0 0 0 (.slice none 0 0) (.slice none 0 0) := by rw [← s1]; exact Bx.new _ _ _ _ _ _ _ _ _
 have a2 : Bx (((w.alloc (.cells #[.int .i64 0, .string ⟨#[]⟩, .int .i64 0, .int .i64 0, .int .i64 0, .slice none 0 0, .slice none 0 0] 29)).alloc (.cells #[.int .i64 0, .string ⟨#[]⟩, .int .i64 0, .int .i64 0, .int .i64 0, .slice none 0 0, .slice none 0 0] 29)).alloc (.cells #[.int .i64 7, .string ⟨#[105, 110, 98, 111, 120]⟩, .int .i64 1, .int .i64 1, .int .i64 1, .slice none 0 0, .slice none 0 0] 29)) (w.heap.size + 1 + 1) 29 7 ⟨#[105, 110, 98, 111, 120]⟩ 1 1 1 (.slice none 0 0) (.slice none 0 0) := by rw [← s2]; exact Bx.new _ _ _ _ _ _ _ _ _
 exact ⟨_, _, _, _, _, _, _, _, _, _, _, _, ⟨(a0.later (bpush (bre _) _)).later (bpush (bre _) _), a1.later (bpush (bre _) _), a2, ⟨w.heap.size + 1 + 1 + 1, _, (OwB.nil _ _).h, by omega, Or.inl (by omega)⟩, by decide, ((hcur.alloc _).alloc _).alloc _, gal (gal (World.grownBy_alloc w _ (some cb)) _) _, fun _ _ _ _ => trivial, trivial, by omega, by omega, hlt⟩⟩
set_option maxHeartbeats 16000000 in
set_option maxRecDepth 100000 in
theorem l08Two_any (cb : Nat) (ao : Option Addr) (n cap : Nat) (w : World) (hn : n ≤ 1048576) (hcur : Cur w cb ao n cap) (hcode : Code w cb ao n) :
  Calls Tryz.prog 36 #[.pointer (some ⟨cb, 0, none⟩)] w fun e w' => Two8 cb ao n cap w e w' := by
 have hlt := hcur.lt
 have HO := hid hcode
 have HM := hid (two_start hcur)
 clear hcur hcode hlt
 go_enter Tryz.func36, Tryz.ntmps36
 go_wp2
 obtain ⟨W0, hW0⟩ : ∃ W0, ((w.alloc (.cells #[.int .i64 0, .string ⟨#[]⟩, .int .i64 0, .int .i64 0, .int .i64 0, .slice none 0 0, .slice none 0 0] 29)).alloc (.cells #[.int .i64 0, .string ⟨#[]⟩, .int .i64 0, .int .i64 0, .int .i64 0, .slice none 0 0, .slice none 0 0] 29)).alloc (.cells #[.int .i64 7, .string ⟨#[105, 110, 98, 111, 120]⟩, .int .i64 1, .int .i64 1, .int .i64 1, .slice none 0 0, .slice none 0 0] 29) = W0 := ⟨_, rfl⟩
 obtain ⟨kb, hkb⟩ : ∃ kb, w.heap.size + 1 + 1 = kb := ⟨_, rfl⟩
 rw [hkb, hW0] at HM
 rw [hkb]
 rw [hW0]
 clear hkb hW0
 go_loopw [5] (fun iv wr => ∃ i : Nat, i ≤ 4 ∧ iv = .int .i64 (i : Int) ∧ M8 (fun _ => True) w wr cb ao n cap kb kb) (fun iv _ => 5 - (intOf iv).toNat)
 case atStart => exact ⟨0, by omega, rfl, HM.out⟩
 case round =>
  obtain ⟨i, hi, rfl, nm, t, b, nx, ma, mn, mc, ga, gn, gc, L, G, hT⟩ := hrel
  have T := hid hT
  clear hT HM
  go_wp2_with fail
  refine (below4 cb ao n cap _ hn T.out.cur (HO.out.later T.out.gr) 5 (by decide) (by decide)).mono ?_; rintro e w2 ⟨x, hx, rfl, hc, hg⟩
  have T2 := hid (T.out.draw hg hc)
  clear hc hg T
  by_cases hix : i < x
  ·have HX : Hid (i < 4) := by show _ < _; omega
   have hix' : (i : Int) < (x : Int) := by omega
   clear hix hx
   go_wp2_with fail
   have T5 := hid T2.out.drew
   clear T2
   refine wp_region_noPanic ?_
   refine wp_region_held_drew (S := (fun _ => True)) (by kernel_rfl) (trivial) (fun hHeld => ?_)
   refine tk 1 ?_
   refine tk 2 ?_
   refine tk 3 ?_
   refine tk 5 ?_
   clear hHeld
   refine wpAnyH_ready (rs := [0, 4]) (by kernel_rfl) (by simp) ?_
   refine rc (fun K hK => ?_) ?_
   ·have q0 := T5.out.box.cells
    go_simp
    clear q0
    refine hK.out _ _ (trivial) (fun hHeld => ?_)
    clear hK K
    try simp only [Act.put, tp2, tp3, tp4]
    clear hHeld
    refine ry 4 (fun K hK => ?_)
    go_simp
    refine (l05Text_any cb ao n cap _ hn T5.out.cur (HO.out.later T5.out.gr)).mono ?_
    rintro e w7 ⟨tx, htx, rfl, hc7, hg7⟩
    have T7 := hid (T5.out.draw hg7 hc7)
    have HTX := hid htx
    clear hc7 hg7 htx
    go_wp2_with fail
    refine hK.out _ _ (trivial) (fun hHeld => ?_)
    clear hK K
    try simp only [Act.put, tp2, tp3, tp4]
    clear hHeld
    refine ry 6 (fun K hK => ?_)
    go_simp
    have hwr : IntKind.i64.wrap (10 + (i : Int)) = 10 + (i : Int) := by rw [IntKind.wrap_i64]; have := HX.out; omega
    try rw [hwr]
    clear hwr
    obtain ⟨p, ny, KL, N, hN, hD, hcall⟩ := add8_l T7.out.ok mn gn T7.out.reads.1.symm T7.out.reads.2.1.symm (10 + (i : Int)) 0 tx 1 1 (by have := HTX.out; omega)
    refine (hcall.out _ _ _ _ ma mc ga gc _ T7.out.reads.2.2.1 T7.out.reads.2.2.2.1 T7.out.reads.2.2.2.2).mono ?_
    rintro e w8 ⟨a, c, a', c', rfl, ho8, hb8⟩
    have T8 := hid (T7.out.later hb8)
    have f8 := T8.out.box.loose
    have c8 := T8.out.box.cells
    have NEW := hid (T7.out.put hb8 ho8 hD.out)
    clear ho8 hb8 hN hcall
    go_wp2_with fail
    refine hK.out _ _ (trivial) (fun hHeld => ?_)
    clear hK K
    try simp only [Act.put, tp2, tp3, tp4]
    refine tk 7 ?_
    refine tk 8 ?_
    refine tk 9 ?_
    clear hHeld
    refine ry 10 (fun K hK => ?_)
    go_simp
    refine hK.out _ _ (trivial) (fun hHeld => ?_)
    clear hK K
    try simp only [Act.put, tp2, tp3, tp4]
    refine wpAnyH_done (by kernel_rfl) ?_ _
    refine NoPanic.normal ?_
    go_wp2
    go_roundw
    case rel => exact ⟨i + 1, by have := HX.out; omega, by go_num, _, _, _, _, _, _, _, _, _, _, _, _, NEW.out⟩
    case measure => simp [intOf]; have := HX.out; omega
   refine rl (fun K hK => ?_)
   go_simp
   refine (l05Text_any cb ao n cap _ hn T5.out.cur (HO.out.later T5.out.gr)).mono ?_
   rintro e w7 ⟨tx, htx, rfl, hc7, hg7⟩
   have T7 := hid (T5.out.draw hg7 hc7)
   have HTX := hid htx
   clear hc7 hg7 htx
   go_wp2_with fail
   refine hK.out _ _ (trivial) (fun hHeld => ?_)
   clear hK K
   try simp only [Act.put, tp2, tp3, tp4]
   clear hHeld
   refine ry 0 (fun K hK => ?_)
   have q0 := T7.out.box.cells
   go_simp
   clear q0
   refine hK.out _ _ (trivial) (fun hHeld => ?_)
   clear hK K
   try simp only [Act.put, tp2, tp3, tp4]
   clear hHeld
   refine ry 6 (fun K hK => ?_)
   go_simp
   have hwr : IntKind.i64.wrap (10 + (i : Int)) = 10 + (i : Int) := by rw [IntKind.wrap_i64]; have := HX.out; omega
   try rw [hwr]
   clear hwr
   obtain ⟨p, ny, KL, N, hN, hD, hcall⟩ := add8_l T7.out.ok mn gn T7.out.reads.1.symm T7.out.reads.2.1.symm (10 + (i : Int)) 0 tx 1 1 (by have := HTX.out; omega)
   refine (hcall.out _ _ _ _ ma mc ga gc _ T7.out.reads.2.2.1 T7.out.reads.2.2.2.1 T7.out.reads.2.2.2.2).mono ?_
   rintro e w8 ⟨a, c, a', c', rfl, ho8, hb8⟩
   have T8 := hid (T7.out.later hb8)
   have f8 := T8.out.box.loose
   have c8 := T8.out.box.cells
   have NEW := hid (T7.out.put hb8 ho8 hD.out)
   clear ho8 hb8 hN hcall
   go_wp2_with fail
   refine hK.out _ _ (trivial) (fun hHeld => ?_)
   clear hK K
   try simp only [Act.put, tp2, tp3, tp4]
   refine tk 7 ?_
   refine tk 8 ?_
   refine tk 9 ?_
   clear hHeld
   refine ry 10 (fun K hK => ?_)
   go_simp
   refine hK.out _ _ (trivial) (fun hHeld => ?_)
   clear hK K
   try simp only [Act.put, tp2, tp3, tp4]
   refine wpAnyH_done (by kernel_rfl) ?_ _
   refine NoPanic.normal ?_
   go_wp2
   go_roundw
   case rel => exact ⟨i + 1, by have := HX.out; omega, by go_num, _, _, _, _, _, _, _, _, _, _, _, _, NEW.out⟩
   case measure => simp [intOf]; have := HX.out; omega
  ·have hix' : ¬ (i : Int) < (x : Int) := by omega
   clear hix hx hi
   obtain ⟨s1, s2, s3, s4⟩ := ok8_sm T2.out.ok
   obtain ⟨r1, r2, r3, r4, r5⟩ := T2.out.reads
   have OK := hid T2.out.ok
   have q0 := T2.out.box.cells
   have RD := hid (And.intro r3 (And.intro r4 r5))
   have LE := hid (And.intro s1 (And.intro s2 s3))
   have LN := hid (And.intro r1 r2)
   clear s1 s2 s3 s4 r1 r2 r3 r4 r5
   go_wp2_with fail
   refine (l06Copy_any _ _ _ _ 7 nm t b nx ma mn mc ga gn gc L G _ LN.out.1.symm (by have h1 := LN.out; have h2 := LE.out.1; omega) LE.out.2.2 RD.out.1 LN.out.2.symm (by have h1 := LN.out; have h2 := LE.out.2.1; omega) RD.out.2.1 RD.out.2.2).mono ?_
   rintro e w3 ⟨mv, gv, rfl, ho, hb⟩
   obtain ⟨a, c, a', c', rfl, rfl⟩ := ho.shape
   have NX := hid (T2.out.next hb ho OK.out)
   have HS : Hid (kb < w2.heap.size ∧ w.heap.size + 2 ≤ kb) := ⟨T2.out.box.lt, T2.out.b0⟩
   clear ho hb q0 OK RD LE LN T2
   go_wp2
   obtain ⟨Bkx, hB⟩ : ∃ B, w2.heap.size = B := ⟨_, rfl⟩
   obtain ⟨kx, hk⟩ : ∃ k, w3.heap.size = k := ⟨_, rfl⟩
   obtain ⟨W3, hW3⟩ : ∃ W3, w3.alloc (.cells #[.int .i64 7, .string nm, .int .i64 t, .int .i64 b, .int .i64 nx, .slice a L.length c, .slice a' G.length c'] 29) = W3 := ⟨_, rfl⟩
   rw [hk, hB, hW3] at NX
   rw [hB] at HS
   have HM := hid (⟨_, _, _, _, _, _, _, _, _, _, _, _, NX.out⟩ : M8 (E8 kb kx kb) w W3 cb ao n cap Bkx kx)
   clear NX hB
   rw [hk]
   rw [hW3]
   clear hk hW3
   go_loopw [7] (fun iv wr => ∃ i : Nat, i ≤ 5 ∧ iv = .int .i64 (i : Int) ∧ M8 (E8 kb kx kb) w wr cb ao n cap Bkx kx) (fun iv _ => 6 - (intOf iv).toNat)
   case atStart => exact ⟨0, by omega, rfl, HM.out⟩
   case round =>
    obtain ⟨i, hi, rfl, nm, t, b, nx, ma, mn, mc, ga, gn, gc, L, G, hT⟩ := hrel
    have T := hid hT
    clear hT HM
    go_wp2_with fail
    refine (below4 cb ao n cap _ hn T.out.cur (HO.out.later T.out.gr) 6 (by decide) (by decide)).mono ?_; rintro e w2 ⟨x, hx, rfl, hc, hg⟩
    have T2 := hid (T.out.draw hg hc)
    clear hc hg T
    by_cases hix : i < x
    ·have HX : Hid (i < 5) := by show _ < _; omega
     have hix' : (i : Int) < (x : Int) := by omega
     clear hix hx
     go_wp2_with fail
     refine (l03Stamp_any cb ao n cap _ hn T2.out.cur (HO.out.later T2.out.gr)).mono ?_; rintro e w4 ⟨st, sb, hst, rfl, hc, hg⟩
     obtain ⟨W4, hW4⟩ : ∃ W4, w4.alloc (.cells #[.int .i64 st, .int .i64 sb] 25) = W4 := ⟨_, rfl⟩
     obtain ⟨kt, hkt⟩ : ∃ kt, w4.heap.size = kt := ⟨_, rfl⟩
     have t4 := T2.out.draw hg hc
     have T4 := hid (t4.later (bpush (bre _) (.cells #[.int .i64 st, .int .i64 sb] 25)))
     have SG4 : Hid (Sg W4 kt 25 st sb) := by subst hkt; subst hW4; exact Sg.new w4 _ st sb
     have KT : Hid (kt ≠ kx) := by have := t4.box.lt; show _ ≠ _; omega
     have KC : Hid (kt ≠ cb) := by have := t4.cur.lt; show _ ≠ _; omega
     clear hc hg hst t4 T2
     rw [hW4] at T4
     go_wp2_with fail
     try rw [hkt]
     try rw [hW4]
     clear hW4 hkt
     refine (below4 cb ao n cap _ hn T4.out.cur (HO.out.later T4.out.gr) 4 (by decide) (by decide)).mono ?_; rintro e w5 ⟨z, hz, rfl, hc, hg⟩
     have T5 := hid (T4.out.draw hg hc).drew
     have SG5 : Hid (Sg w5.drew kt 25 st sb) := SG4.out.kept (gdr hg) KC.out
     clear hc hg T4 SG4
     have hz5 : (z = 0 ∨ z = 1) ∨ z = 2 ∨ z = 3 := by omega
     clear hz
     rcases hz5 with hz5 | rfl | rfl
     ·rcases hz5 with rfl | rfl
      all_goals
       go_wp2_with fail
       refine wp_region_noPanic ?_
       refine wp_region_held_drew (S := (fun W => W.cell? ⟨kt, 0, none⟩ = some (.int .i64 st) ∧ W.cell? ⟨kt, 1, none⟩ = some (.int .i64 sb))) (by kernel_rfl) (SG5.out.cells) (fun hHeld => ?_)
       refine tk 1 ?_
       refine tk 2 ?_
       refine tk 3 ?_
       refine tk 5 ?_
       refine tk 7 ?_
       clear hHeld
       refine wpAnyH_ready (rs := [0, 4]) (by kernel_rfl) (by simp) ?_
       refine rc (fun K hK => ?_) ?_
       ·have q0 := T5.out.box.cells
        go_simp
        clear q0
        refine hK.out _ _ (SG5.out.cells) (fun hHeld => ?_)
        clear hK K
        try simp only [Act.put, tp2, tp3, tp4]
        clear hHeld
        refine ry 4 (fun K hK => ?_)
        go_simp
        refine (below4 cb ao n cap _ hn T5.out.cur (HO.out.later T5.out.gr) 8 (by decide) (by decide)).mono ?_
        rintro e w6 ⟨fl, hfl, rfl, hc6, hg6⟩
        have T6 := hid (T5.out.draw hg6 hc6)
        have SG6 := hid (SG5.out.kept hg6 KC.out)
        clear hc6 hg6 hfl
        go_wp2_with fail
        refine hK.out _ _ (SG6.out.cells) (fun hHeld => ?_)
        clear hK K
        try simp only [Act.put, tp2, tp3, tp4]
        clear hHeld
        refine ry 6 (fun K hK => ?_)
        go_simp
        refine (l05Text_any cb ao n cap _ hn T6.out.cur (HO.out.later T6.out.gr)).mono ?_
        rintro e w7 ⟨tx, htx, rfl, hc7, hg7⟩
        have T7 := hid (T6.out.draw hg7 hc7)
        have SG7 := hid (SG6.out.kept hg7 KC.out)
        have HTX := hid htx
        clear hc7 hg7 htx
        go_wp2_with fail
        refine hK.out _ _ (SG7.out.cells) (fun hHeld => ?_)
        clear hK K
        try simp only [Act.put, tp2, tp3, tp4]
        clear hHeld
        refine ry 8 (fun K hK => ?_)
        go_simp
        have hwr : IntKind.i64.wrap (20 + (i : Int)) = 20 + (i : Int) := by rw [IntKind.wrap_i64]; have := HX.out; omega
        try rw [hwr]
        clear hwr
        obtain ⟨p, ny, KL, N, hN, hD, hcall⟩ := add8_l T7.out.ok mn gn T7.out.reads.1.symm T7.out.reads.2.1.symm (20 + (i : Int)) (fl : Int) tx st sb (by have := HTX.out; omega)
        refine (hcall.out _ _ _ _ ma mc ga gc _ T7.out.reads.2.2.1 T7.out.reads.2.2.2.1 T7.out.reads.2.2.2.2).mono ?_
        rintro e w8 ⟨a, c, a', c', rfl, ho8, hb8⟩
        have T8 := hid (T7.out.later hb8)
        have SG8 := hid (SG7.out.later hb8)
        have f8 := T8.out.box.loose
        have c8 := T8.out.box.cells
        have NEW := hid (T7.out.put hb8 ho8 hD.out)
        clear ho8 hb8 hN hcall
        go_wp2_with fail
        refine hK.out _ _ (SG8.out.cells) (fun hHeld => ?_)
        clear hK K
        try simp only [Act.put, tp2, tp3, tp4]
        refine tk 9 ?_
        refine tk 10 ?_
        refine tk 11 ?_
        clear hHeld
        refine ry 12 (fun K hK => ?_)
        go_simp
        refine hK.out _ _ ((SG8.out.kept (cb := kx) (wst (wst (wst (wst (wst (wst (wst (wre _ _) _ _) _ _) _ _) _ _) _ _) _ _) _ _) KT.out).cells) (fun hHeld => ?_)
        clear hK K
        try simp only [Act.put, tp2, tp3, tp4]
        refine wpAnyH_done (by kernel_rfl) ?_ _
        refine NoPanic.normal ?_
        go_wp2
        go_roundw
        case rel => exact ⟨i + 1, by have := HX.out; omega, by go_num, _, _, _, _, _, _, _, _, _, _, _, _, NEW.out⟩
        case measure => simp [intOf]; have := HX.out; omega
       refine rl (fun K hK => ?_)
       go_simp
       refine (below4 cb ao n cap _ hn T5.out.cur (HO.out.later T5.out.gr) 8 (by decide) (by decide)).mono ?_
       rintro e w6 ⟨fl, hfl, rfl, hc6, hg6⟩
       have T6 := hid (T5.out.draw hg6 hc6)
       have SG6 := hid (SG5.out.kept hg6 KC.out)
       clear hc6 hg6 hfl
       go_wp2_with fail
       refine hK.out _ _ (SG6.out.cells) (fun hHeld => ?_)
       clear hK K
       try simp only [Act.put, tp2, tp3, tp4]
       clear hHeld
       refine wpAnyH_ready (rs := [0, 6]) (by kernel_rfl) (by simp) ?_
       refine rc (fun K hK => ?_) ?_
       ·have q0 := T6.out.box.cells
        go_simp
        clear q0
        refine hK.out _ _ (SG6.out.cells) (fun hHeld => ?_)
        clear hK K
        try simp only [Act.put, tp2, tp3, tp4]
        clear hHeld
        refine ry 6 (fun K hK => ?_)
        go_simp
        refine (l05Text_any cb ao n cap _ hn T6.out.cur (HO.out.later T6.out.gr)).mono ?_
        rintro e w7 ⟨tx, htx, rfl, hc7, hg7⟩
        have T7 := hid (T6.out.draw hg7 hc7)
        have SG7 := hid (SG6.out.kept hg7 KC.out)
        have HTX := hid htx
        clear hc7 hg7 htx
        go_wp2_with fail
        refine hK.out _ _ (SG7.out.cells) (fun hHeld => ?_)
        clear hK K
        try simp only [Act.put, tp2, tp3, tp4]
        clear hHeld
        refine ry 8 (fun K hK => ?_)
        go_simp
        have hwr : IntKind.i64.wrap (20 + (i : Int)) = 20 + (i : Int) := by rw [IntKind.wrap_i64]; have := HX.out; omega
        try rw [hwr]
        clear hwr
        obtain ⟨p, ny, KL, N, hN, hD, hcall⟩ := add8_l T7.out.ok mn gn T7.out.reads.1.symm T7.out.reads.2.1.symm (20 + (i : Int)) (fl : Int) tx st sb (by have := HTX.out; omega)
        refine (hcall.out _ _ _ _ ma mc ga gc _ T7.out.reads.2.2.1 T7.out.reads.2.2.2.1 T7.out.reads.2.2.2.2).mono ?_
        rintro e w8 ⟨a, c, a', c', rfl, ho8, hb8⟩
        have T8 := hid (T7.out.later hb8)
        have SG8 := hid (SG7.out.later hb8)
        have f8 := T8.out.box.loose
        have c8 := T8.out.box.cells
        have NEW := hid (T7.out.put hb8 ho8 hD.out)
        clear ho8 hb8 hN hcall
        go_wp2_with fail
        refine hK.out _ _ (SG8.out.cells) (fun hHeld => ?_)
        clear hK K
        try simp only [Act.put, tp2, tp3, tp4]
        refine tk 9 ?_
        refine tk 10 ?_
        refine tk 11 ?_
        clear hHeld
        refine ry 12 (fun K hK => ?_)
        go_simp
        refine hK.out _ _ ((SG8.out.kept (cb := kx) (wst (wst (wst (wst (wst (wst (wst (wre _ _) _ _) _ _) _ _) _ _) _ _) _ _) _ _) KT.out).cells) (fun hHeld => ?_)
        clear hK K
        try simp only [Act.put, tp2, tp3, tp4]
        refine wpAnyH_done (by kernel_rfl) ?_ _
        refine NoPanic.normal ?_
        go_wp2
        go_roundw
        case rel => exact ⟨i + 1, by have := HX.out; omega, by go_num, _, _, _, _, _, _, _, _, _, _, _, _, NEW.out⟩
        case measure => simp [intOf]; have := HX.out; omega
       refine rl (fun K hK => ?_)
       go_simp
       refine (l05Text_any cb ao n cap _ hn T6.out.cur (HO.out.later T6.out.gr)).mono ?_
       rintro e w7 ⟨tx, htx, rfl, hc7, hg7⟩
       have T7 := hid (T6.out.draw hg7 hc7)
       have SG7 := hid (SG6.out.kept hg7 KC.out)
       have HTX := hid htx
       clear hc7 hg7 htx
       go_wp2_with fail
       refine hK.out _ _ (SG7.out.cells) (fun hHeld => ?_)
       clear hK K
       try simp only [Act.put, tp2, tp3, tp4]
       clear hHeld
       refine ry 0 (fun K hK => ?_)
       have q0 := T7.out.box.cells
       go_simp
       clear q0
       refine hK.out _ _ (SG7.out.cells) (fun hHeld => ?_)
       clear hK K
       try simp only [Act.put, tp2, tp3, tp4]
       clear hHeld
       refine ry 8 (fun K hK => ?_)
       go_simp
       have hwr : IntKind.i64.wrap (20 + (i : Int)) = 20 + (i : Int) := by rw [IntKind.wrap_i64]; have := HX.out; omega
       try rw [hwr]
       clear hwr
       obtain ⟨p, ny, KL, N, hN, hD, hcall⟩ := add8_l T7.out.ok mn gn T7.out.reads.1.symm T7.out.reads.2.1.symm (20 + (i : Int)) (fl : Int) tx st sb (by have := HTX.out; omega)
       refine (hcall.out _ _ _ _ ma mc ga gc _ T7.out.reads.2.2.1 T7.out.reads.2.2.2.1 T7.out.reads.2.2.2.2).mono ?_
       rintro e w8 ⟨a, c, a', c', rfl, ho8, hb8⟩
       have T8 := hid (T7.out.later hb8)
       have SG8 := hid (SG7.out.later hb8)
       have f8 := T8.out.box.loose
       have c8 := T8.out.box.cells
       have NEW := hid (T7.out.put hb8 ho8 hD.out)
       clear ho8 hb8 hN hcall
       go_wp2_with fail
       refine hK.out _ _ (SG8.out.cells) (fun hHeld => ?_)
       clear hK K
       try simp only [Act.put, tp2, tp3, tp4]
       refine tk 9 ?_
       refine tk 10 ?_
       refine tk 11 ?_
       clear hHeld
       refine ry 12 (fun K hK => ?_)
       go_simp
       refine hK.out _ _ ((SG8.out.kept (cb := kx) (wst (wst (wst (wst (wst (wst (wst (wre _ _) _ _) _ _) _ _) _ _) _ _) _ _) _ _) KT.out).cells) (fun hHeld => ?_)
       clear hK K
       try simp only [Act.put, tp2, tp3, tp4]
       refine wpAnyH_done (by kernel_rfl) ?_ _
       refine NoPanic.normal ?_
       go_wp2
       go_roundw
       case rel => exact ⟨i + 1, by have := HX.out; omega, by go_num, _, _, _, _, _, _, _, _, _, _, _, _, NEW.out⟩
       case measure => simp [intOf]; have := HX.out; omega
     ·go_wp2_with fail
      refine wp_region_noPanic ?_
      refine wp_region_held_drew (S := (fun W => W.cell? ⟨kt, 0, none⟩ = some (.int .i64 st) ∧ W.cell? ⟨kt, 1, none⟩ = some (.int .i64 sb))) (by kernel_rfl) (SG5.out.cells) (fun hHeld => ?_)
      refine tk 1 ?_
      refine tk 4 ?_
      refine tk 6 ?_
      clear hHeld
      refine wpAnyH_ready (rs := [0, 2]) (by kernel_rfl) (by simp) ?_
      refine rc (fun K hK => ?_) ?_
      ·have q0 := T5.out.box.cells
       go_simp
       clear q0
       refine hK.out _ _ (SG5.out.cells) (fun hHeld => ?_)
       clear hK K
       try simp only [Act.put, tp2, tp3, tp4]
       clear hHeld
       refine ry 2 (fun K hK => ?_)
       go_simp
       refine (below4 cb ao n cap _ hn T5.out.cur (HO.out.later T5.out.gr) 5 (by decide) (by decide)).mono ?_
       rintro e wm ⟨y, hy, rfl, hc6, hg6⟩
       have TM := hid (T5.out.draw hg6 hc6)
       have SGM := hid (SG5.out.kept hg6 KC.out)
       have HY := hid hy
       clear hc6 hg6 hy
       go_wp2_with fail
       refine hK.out _ _ (SGM.out.cells) (fun hHeld => ?_)
       clear hK K
       try simp only [Act.put, tp2, tp3, tp4]
       refine tk 3 ?_
       clear hHeld
       refine ry 5 (fun K hK => ?_)
       go_simp
       refine (below4 cb ao n cap _ hn TM.out.cur (HO.out.later TM.out.gr) 8 (by decide) (by decide)).mono ?_
       rintro e w6 ⟨fl, hfl, rfl, hc6, hg6⟩
       have T6 := hid (TM.out.draw hg6 hc6)
       have SG6 := hid (SGM.out.kept hg6 KC.out)
       clear hc6 hg6 hfl
       go_wp2_with fail
       refine hK.out _ _ (SG6.out.cells) (fun hHeld => ?_)
       clear hK K
       try simp only [Act.put, tp2, tp3, tp4]
       clear hHeld
       refine ry 7 (fun K hK => ?_)
       go_simp
       have hwr : IntKind.i64.wrap (10 + (y : Int)) = 10 + (y : Int) := by rw [IntKind.wrap_i64]; have := HY.out; omega
       try rw [hwr]
       clear hwr
       obtain ⟨p, KL, hN, hD, hcall⟩ := flag8_l T6.out.ok mn gn T6.out.reads.1.symm T6.out.reads.2.1.symm (10 + (y : Int)) (fl : Int) st sb
       refine (hcall.out _ _ _ _ ma mc ga gc _ T6.out.reads.2.2.1 T6.out.reads.2.2.2.1 T6.out.reads.2.2.2.2).mono ?_
       rintro e w8 ⟨a, c, a', c', rfl, ho8, hb8⟩
       have T8 := hid (T6.out.later hb8)
       have SG8 := hid (SG6.out.later hb8)
       have f8 := T8.out.box.loose
       have c8 := T8.out.box.cells
       have NEW := hid (T6.out.put hb8 ho8 hD.out)
       clear ho8 hb8 hN hcall
       go_wp2_with fail
       refine hK.out _ _ (SG8.out.cells) (fun hHeld => ?_)
       clear hK K
       try simp only [Act.put, tp2, tp3, tp4]
       refine tk 8 ?_
       refine tk 9 ?_
       refine tk 10 ?_
       clear hHeld
       refine ry 11 (fun K hK => ?_)
       go_simp
       refine hK.out _ _ ((SG8.out.kept (cb := kx) (wst (wst (wst (wst (wst (wst (wst (wre _ _) _ _) _ _) _ _) _ _) _ _) _ _) _ _) KT.out).cells) (fun hHeld => ?_)
       clear hK K
       try simp only [Act.put, tp2, tp3, tp4]
       refine wpAnyH_done (by kernel_rfl) ?_ _
       refine NoPanic.normal ?_
       go_wp2
       go_roundw
       case rel => exact ⟨i + 1, by have := HX.out; omega, by go_num, _, _, _, _, _, _, _, _, _, _, _, _, NEW.out⟩
       case measure => simp [intOf]; have := HX.out; omega
      refine rl (fun K hK => ?_)
      go_simp
      refine (below4 cb ao n cap _ hn T5.out.cur (HO.out.later T5.out.gr) 5 (by decide) (by decide)).mono ?_
      rintro e wm ⟨y, hy, rfl, hc6, hg6⟩
      have TM := hid (T5.out.draw hg6 hc6)
      have SGM := hid (SG5.out.kept hg6 KC.out)
      have HY := hid hy
      clear hc6 hg6 hy
      go_wp2_with fail
      refine hK.out _ _ (SGM.out.cells) (fun hHeld => ?_)
      clear hK K
      try simp only [Act.put, tp2, tp3, tp4]
      refine tk 3 ?_
      clear hHeld
      refine wpAnyH_ready (rs := [0, 5]) (by kernel_rfl) (by simp) ?_
      refine rc (fun K hK => ?_) ?_
      ·have q0 := TM.out.box.cells
       go_simp
       clear q0
       refine hK.out _ _ (SGM.out.cells) (fun hHeld => ?_)
       clear hK K
       try simp only [Act.put, tp2, tp3, tp4]
       clear hHeld
       refine ry 5 (fun K hK => ?_)
       go_simp
       refine (below4 cb ao n cap _ hn TM.out.cur (HO.out.later TM.out.gr) 8 (by decide) (by decide)).mono ?_
       rintro e w6 ⟨fl, hfl, rfl, hc6, hg6⟩
       have T6 := hid (TM.out.draw hg6 hc6)
       have SG6 := hid (SGM.out.kept hg6 KC.out)
       clear hc6 hg6 hfl
       go_wp2_with fail
       refine hK.out _ _ (SG6.out.cells) (fun hHeld => ?_)
       clear hK K
       try simp only [Act.put, tp2, tp3, tp4]
       clear hHeld
       refine ry 7 (fun K hK => ?_)
       go_simp
       have hwr : IntKind.i64.wrap (10 + (y : Int)) = 10 + (y : Int) := by rw [IntKind.wrap_i64]; have := HY.out; omega
       try rw [hwr]
       clear hwr
       obtain ⟨p, KL, hN, hD, hcall⟩ := flag8_l T6.out.ok mn gn T6.out.reads.1.symm T6.out.reads.2.1.symm (10 + (y : Int)) (fl : Int) st sb
       refine (hcall.out _ _ _ _ ma mc ga gc _ T6.out.reads.2.2.1 T6.out.reads.2.2.2.1 T6.out.reads.2.2.2.2).mono ?_
       rintro e w8 ⟨a, c, a', c', rfl, ho8, hb8⟩
       have T8 := hid (T6.out.later hb8)
       have SG8 := hid (SG6.out.later hb8)
       have f8 := T8.out.box.loose
       have c8 := T8.out.box.cells
       have NEW := hid (T6.out.put hb8 ho8 hD.out)
       clear ho8 hb8 hN hcall
       go_wp2_with fail
       refine hK.out _ _ (SG8.out.cells) (fun hHeld => ?_)
       clear hK K
       try simp only [Act.put, tp2, tp3, tp4]
       refine tk 8 ?_
       refine tk 9 ?_
       refine tk 10 ?_
       clear hHeld
       refine ry 11 (fun K hK => ?_)
       go_simp
       refine hK.out _ _ ((SG8.out.kept (cb := kx) (wst (wst (wst (wst (wst (wst (wst (wre _ _) _ _) _ _) _ _) _ _) _ _) _ _) _ _) KT.out).cells) (fun hHeld => ?_)
       clear hK K
       try simp only [Act.put, tp2, tp3, tp4]
       refine wpAnyH_done (by kernel_rfl) ?_ _
       refine NoPanic.normal ?_
       go_wp2
       go_roundw
       case rel => exact ⟨i + 1, by have := HX.out; omega, by go_num, _, _, _, _, _, _, _, _, _, _, _, _, NEW.out⟩
       case measure => simp [intOf]; have := HX.out; omega
      refine rl (fun K hK => ?_)
      go_simp
      refine (below4 cb ao n cap _ hn TM.out.cur (HO.out.later TM.out.gr) 8 (by decide) (by decide)).mono ?_
      rintro e w6 ⟨fl, hfl, rfl, hc6, hg6⟩
      have T6 := hid (TM.out.draw hg6 hc6)
      have SG6 := hid (SGM.out.kept hg6 KC.out)
      clear hc6 hg6 hfl
      go_wp2_with fail
      refine hK.out _ _ (SG6.out.cells) (fun hHeld => ?_)
      clear hK K
      try simp only [Act.put, tp2, tp3, tp4]
      clear hHeld
      refine ry 0 (fun K hK => ?_)
      have q0 := T6.out.box.cells
      go_simp
      clear q0
      refine hK.out _ _ (SG6.out.cells) (fun hHeld => ?_)
      clear hK K
      try simp only [Act.put, tp2, tp3, tp4]
      clear hHeld
      refine ry 7 (fun K hK => ?_)
      go_simp
      have hwr : IntKind.i64.wrap (10 + (y : Int)) = 10 + (y : Int) := by rw [IntKind.wrap_i64]; have := HY.out; omega
      try rw [hwr]
      clear hwr
      obtain ⟨p, KL, hN, hD, hcall⟩ := flag8_l T6.out.ok mn gn T6.out.reads.1.symm T6.out.reads.2.1.symm (10 + (y : Int)) (fl : Int) st sb
      refine (hcall.out _ _ _ _ ma mc ga gc _ T6.out.reads.2.2.1 T6.out.reads.2.2.2.1 T6.out.reads.2.2.2.2).mono ?_
      rintro e w8 ⟨a, c, a', c', rfl, ho8, hb8⟩
      have T8 := hid (T6.out.later hb8)
      have SG8 := hid (SG6.out.later hb8)
      have f8 := T8.out.box.loose
      have c8 := T8.out.box.cells
      have NEW := hid (T6.out.put hb8 ho8 hD.out)
      clear ho8 hb8 hN hcall
      go_wp2_with fail
      refine hK.out _ _ (SG8.out.cells) (fun hHeld => ?_)
      clear hK K
      try simp only [Act.put, tp2, tp3, tp4]
      refine tk 8 ?_
      refine tk 9 ?_
      refine tk 10 ?_
      clear hHeld
      refine ry 11 (fun K hK => ?_)
      go_simp
      refine hK.out _ _ ((SG8.out.kept (cb := kx) (wst (wst (wst (wst (wst (wst (wst (wre _ _) _ _) _ _) _ _) _ _) _ _) _ _) _ _) KT.out).cells) (fun hHeld => ?_)
      clear hK K
      try simp only [Act.put, tp2, tp3, tp4]
      refine wpAnyH_done (by kernel_rfl) ?_ _
      refine NoPanic.normal ?_
      go_wp2
      go_roundw
      case rel => exact ⟨i + 1, by have := HX.out; omega, by go_num, _, _, _, _, _, _, _, _, _, _, _, _, NEW.out⟩
      case measure => simp [intOf]; have := HX.out; omega
     ·go_wp2_with fail
      refine wp_region_noPanic ?_
      refine wp_region_held_drew (S := (fun W => W.cell? ⟨kt, 0, none⟩ = some (.int .i64 st) ∧ W.cell? ⟨kt, 1, none⟩ = some (.int .i64 sb))) (by kernel_rfl) (SG5.out.cells) (fun hHeld => ?_)
      refine tk 1 ?_
      clear hHeld
      refine wpAnyH_ready (rs := [0, 2]) (by kernel_rfl) (by simp) ?_
      refine rc (fun K hK => ?_) ?_
      ·have q0 := T5.out.box.cells
       go_simp
       clear q0
       refine hK.out _ _ (SG5.out.cells) (fun hHeld => ?_)
       clear hK K
       try simp only [Act.put, tp2, tp3, tp4]
       clear hHeld
       refine ry 2 (fun K hK => ?_)
       go_simp
       refine (below4 cb ao n cap _ hn T5.out.cur (HO.out.later T5.out.gr) 5 (by decide) (by decide)).mono ?_
       rintro e wm ⟨y, hy, rfl, hc6, hg6⟩
       have TM := hid (T5.out.draw hg6 hc6)
       have SGM := hid (SG5.out.kept hg6 KC.out)
       have HY := hid hy
       clear hc6 hg6 hy
       go_wp2_with fail
       refine hK.out _ _ (SGM.out.cells) (fun hHeld => ?_)
       clear hK K
       try simp only [Act.put, tp2, tp3, tp4]
       refine tk 3 ?_
       clear hHeld
       refine ry 4 (fun K hK => ?_)
       go_simp
       have hwr : IntKind.i64.wrap (10 + (y : Int)) = 10 + (y : Int) := by rw [IntKind.wrap_i64]; have := HY.out; omega
       try rw [hwr]
       clear hwr
       obtain ⟨p, KL, KG, N, M, hN, hM, hD, hcall⟩ := take8_l TM.out.ok mn gn TM.out.reads.1.symm TM.out.reads.2.1.symm (10 + (y : Int))
       refine (hcall.out _ _ _ _ ma mc ga gc _ TM.out.reads.2.2.1 TM.out.reads.2.2.2.1 TM.out.reads.2.2.2.2).mono ?_
       rintro e w8 ⟨a, c, a', c', rfl, ho8, hb8⟩
       have T8 := hid (TM.out.later hb8)
       have SG8 := hid (SGM.out.later hb8)
       have f8 := T8.out.box.loose
       have c8 := T8.out.box.cells
       have NEW := hid (TM.out.put hb8 ho8 hD.out)
       clear ho8 hb8 hN hcall
       go_wp2_with fail
       refine hK.out _ _ (SG8.out.cells) (fun hHeld => ?_)
       clear hK K
       try simp only [Act.put, tp2, tp3, tp4]
       refine tk 5 ?_
       refine tk 6 ?_
       refine tk 7 ?_
       clear hHeld
       refine ry 8 (fun K hK => ?_)
       go_simp
       refine hK.out _ _ ((SG8.out.kept (cb := kx) (wst (wst (wst (wst (wst (wst (wst (wre _ _) _ _) _ _) _ _) _ _) _ _) _ _) _ _) KT.out).cells) (fun hHeld => ?_)
       clear hK K
       try simp only [Act.put, tp2, tp3, tp4]
       refine wpAnyH_done (by kernel_rfl) ?_ _
       refine NoPanic.normal ?_
       go_wp2
       go_roundw
       case rel => exact ⟨i + 1, by have := HX.out; omega, by go_num, _, _, _, _, _, _, _, _, _, _, _, _, NEW.out⟩
       case measure => simp [intOf]; have := HX.out; omega
      refine rl (fun K hK => ?_)
      go_simp
      refine (below4 cb ao n cap _ hn T5.out.cur (HO.out.later T5.out.gr) 5 (by decide) (by decide)).mono ?_
      rintro e wm ⟨y, hy, rfl, hc6, hg6⟩
      have TM := hid (T5.out.draw hg6 hc6)
      have SGM := hid (SG5.out.kept hg6 KC.out)
      have HY := hid hy
      clear hc6 hg6 hy
      go_wp2_with fail
      refine hK.out _ _ (SGM.out.cells) (fun hHeld => ?_)
      clear hK K
      try simp only [Act.put, tp2, tp3, tp4]
      refine tk 3 ?_
      clear hHeld
      refine ry 0 (fun K hK => ?_)
      have q0 := TM.out.box.cells
      go_simp
      clear q0
      refine hK.out _ _ (SGM.out.cells) (fun hHeld => ?_)
      clear hK K
      try simp only [Act.put, tp2, tp3, tp4]
      clear hHeld
      refine ry 4 (fun K hK => ?_)
      go_simp
      have hwr : IntKind.i64.wrap (10 + (y : Int)) = 10 + (y : Int) := by rw [IntKind.wrap_i64]; have := HY.out; omega
      try rw [hwr]
      clear hwr
      obtain ⟨p, KL, KG, N, M, hN, hM, hD, hcall⟩ := take8_l TM.out.ok mn gn TM.out.reads.1.symm TM.out.reads.2.1.symm (10 + (y : Int))
      refine (hcall.out _ _ _ _ ma mc ga gc _ TM.out.reads.2.2.1 TM.out.reads.2.2.2.1 TM.out.reads.2.2.2.2).mono ?_
      rintro e w8 ⟨a, c, a', c', rfl, ho8, hb8⟩
      have T8 := hid (TM.out.later hb8)
      have SG8 := hid (SGM.out.later hb8)
      have f8 := T8.out.box.loose
      have c8 := T8.out.box.cells
      have NEW := hid (TM.out.put hb8 ho8 hD.out)
      clear ho8 hb8 hN hcall
      go_wp2_with fail
      refine hK.out _ _ (SG8.out.cells) (fun hHeld => ?_)
      clear hK K
      try simp only [Act.put, tp2, tp3, tp4]
      refine tk 5 ?_
      refine tk 6 ?_
      refine tk 7 ?_
      clear hHeld
      refine ry 8 (fun K hK => ?_)
      go_simp
      refine hK.out _ _ ((SG8.out.kept (cb := kx) (wst (wst (wst (wst (wst (wst (wst (wre _ _) _ _) _ _) _ _) _ _) _ _) _ _) _ _) KT.out).cells) (fun hHeld => ?_)
      clear hK K
      try simp only [Act.put, tp2, tp3, tp4]
      refine wpAnyH_done (by kernel_rfl) ?_ _
      refine NoPanic.normal ?_
      go_wp2
      go_roundw
      case rel => exact ⟨i + 1, by have := HX.out; omega, by go_num, _, _, _, _, _, _, _, _, _, _, _, _, NEW.out⟩
      case measure => simp [intOf]; have := HX.out; omega
    ·have hix' : ¬ (i : Int) < (x : Int) := by omega
     clear hix hx hi
     obtain ⟨nm1, t1, b1, nx1, ma1, mn1, mc1, ga1, gn1, gc1, L1, G1, lo1, hi1, e1, e2, e3, e4⟩ := T2.out.x
     obtain ⟨s1, s2, s3, s4⟩ := ok8_sm e3
     obtain ⟨r1, r2, r3, r4⟩ := e2.b.reads
     have r5 := e2.b.none.2
     have OK := hid e3
     have q0 := e1.cells
     have RD := hid (And.intro r3 (And.intro r4 r5))
     have LE := hid (And.intro s1 (And.intro s2 s3))
     have LN := hid (And.intro r1 r2)
     clear s1 s2 s3 s4 r1 r2 r3 r4 r5 e1 e2 e3 e4
     go_wp2_with fail
     refine (l06Copy_any _ _ _ _ 7 nm1 t1 b1 nx1 ma1 mn1 mc1 ga1 gn1 gc1 L1 G1 _ LN.out.1.symm (by have h1 := LN.out; have h2 := LE.out.1; omega) LE.out.2.2 RD.out.1 LN.out.2.symm (by have h1 := LN.out; have h2 := LE.out.2.1; omega) RD.out.2.1 RD.out.2.2).mono ?_
     rintro e w3 ⟨mv, gv, rfl, ho, hb⟩
     obtain ⟨a, c, a', c', rfl, rfl⟩ := ho.shape
     have NX := hid (T2.out.next hb ho OK.out)
     have HS : Hid (kx < w2.heap.size ∧ w.heap.size + 2 ≤ Bkx) := ⟨T2.out.box.lt, T2.out.b0⟩
     clear ho hb q0 OK RD LE LN T2
     go_wp2
     obtain ⟨Bky, hB⟩ : ∃ B, w2.heap.size = B := ⟨_, rfl⟩
     obtain ⟨ky, hk⟩ : ∃ k, w3.heap.size = k := ⟨_, rfl⟩
     obtain ⟨W3, hW3⟩ : ∃ W3, w3.alloc (.cells #[.int .i64 7, .string nm1, .int .i64 t1, .int .i64 b1, .int .i64 nx1, .slice a L1.length c, .slice a' G1.length c'] 29) = W3 := ⟨_, rfl⟩
     rw [hk, hB, hW3] at NX
     rw [hB] at HS
     have HM := hid (⟨_, _, _, _, _, _, _, _, _, _, _, _, NX.out⟩ : M8 (E8 Bkx ky kx) w W3 cb ao n cap Bky ky)
     clear NX hB
     rw [hk]
     rw [hW3]
     clear hk hW3
     go_loopw [10] (fun iv wr => ∃ i : Nat, i ≤ 5 ∧ iv = .int .i64 (i : Int) ∧ M8 (E8 Bkx ky kx) w wr cb ao n cap Bky ky) (fun iv _ => 6 - (intOf iv).toNat)
     case atStart => exact ⟨0, by omega, rfl, HM.out⟩
     case round =>
      obtain ⟨i, hi, rfl, nm, t, b, nx, ma, mn, mc, ga, gn, gc, L, G, hT⟩ := hrel
      have T := hid hT
      clear hT HM
      go_wp2_with fail
      refine (below4 cb ao n cap _ hn T.out.cur (HO.out.later T.out.gr) 6 (by decide) (by decide)).mono ?_; rintro e w2 ⟨x, hx, rfl, hc, hg⟩
      have T2 := hid (T.out.draw hg hc)
      clear hc hg T
      by_cases hix : i < x
      ·have HX : Hid (i < 5) := by show _ < _; omega
       have hix' : (i : Int) < (x : Int) := by omega
       clear hix hx
       go_wp2_with fail
       refine (l03Stamp_any cb ao n cap _ hn T2.out.cur (HO.out.later T2.out.gr)).mono ?_; rintro e w4 ⟨st, sb, hst, rfl, hc, hg⟩
       obtain ⟨W4, hW4⟩ : ∃ W4, w4.alloc (.cells #[.int .i64 st, .int .i64 sb] 25) = W4 := ⟨_, rfl⟩
       obtain ⟨kt, hkt⟩ : ∃ kt, w4.heap.size = kt := ⟨_, rfl⟩
       have t4 := T2.out.draw hg hc
       have T4 := hid (t4.later (bpush (bre _) (.cells #[.int .i64 st, .int .i64 sb] 25)))
       have SG4 : Hid (Sg W4 kt 25 st sb) := by subst hkt; subst hW4; exact Sg.new w4 _ st sb
       have KT : Hid (kt ≠ ky) := by have := t4.box.lt; show _ ≠ _; omega
       have KC : Hid (kt ≠ cb) := by have := t4.cur.lt; show _ ≠ _; omega
       clear hc hg hst t4 T2
       rw [hW4] at T4
       go_wp2_with fail
       try rw [hkt]
       try rw [hW4]
       clear hW4 hkt
       refine (below4 cb ao n cap _ hn T4.out.cur (HO.out.later T4.out.gr) 4 (by decide) (by decide)).mono ?_; rintro e w5 ⟨z, hz, rfl, hc, hg⟩
       have T5 := hid (T4.out.draw hg hc).drew
       have SG5 : Hid (Sg w5.drew kt 25 st sb) := SG4.out.kept (gdr hg) KC.out
       clear hc hg T4 SG4
       have hz5 : (z = 0 ∨ z = 1) ∨ z = 2 ∨ z = 3 := by omega
       clear hz
       rcases hz5 with hz5 | rfl | rfl
       ·rcases hz5 with rfl | rfl
        all_goals
         go_wp2_with fail
         refine wp_region_noPanic ?_
         refine wp_region_held_drew (S := (fun W => W.cell? ⟨kt, 0, none⟩ = some (.int .i64 st) ∧ W.cell? ⟨kt, 1, none⟩ = some (.int .i64 sb))) (by kernel_rfl) (SG5.out.cells) (fun hHeld => ?_)
         refine tk 1 ?_
         refine tk 2 ?_
         refine tk 3 ?_
         refine tk 5 ?_
         refine tk 7 ?_
         clear hHeld
         refine wpAnyH_ready (rs := [0, 4]) (by kernel_rfl) (by simp) ?_
         refine rc (fun K hK => ?_) ?_
         ·have q0 := T5.out.box.cells
          go_simp
          clear q0
          refine hK.out _ _ (SG5.out.cells) (fun hHeld => ?_)
          clear hK K
          try simp only [Act.put, tp2, tp3, tp4]
          clear hHeld
          refine ry 4 (fun K hK => ?_)
          go_simp
          refine (below4 cb ao n cap _ hn T5.out.cur (HO.out.later T5.out.gr) 8 (by decide) (by decide)).mono ?_
          rintro e w6 ⟨fl, hfl, rfl, hc6, hg6⟩
          have T6 := hid (T5.out.draw hg6 hc6)
          have SG6 := hid (SG5.out.kept hg6 KC.out)
          clear hc6 hg6 hfl
          go_wp2_with fail
          refine hK.out _ _ (SG6.out.cells) (fun hHeld => ?_)
          clear hK K
          try simp only [Act.put, tp2, tp3, tp4]
          clear hHeld
          refine ry 6 (fun K hK => ?_)
          go_simp
          refine (l05Text_any cb ao n cap _ hn T6.out.cur (HO.out.later T6.out.gr)).mono ?_
          rintro e w7 ⟨tx, htx, rfl, hc7, hg7⟩
          have T7 := hid (T6.out.draw hg7 hc7)
          have SG7 := hid (SG6.out.kept hg7 KC.out)
          have HTX := hid htx
          clear hc7 hg7 htx
          go_wp2_with fail
          refine hK.out _ _ (SG7.out.cells) (fun hHeld => ?_)
          clear hK K
          try simp only [Act.put, tp2, tp3, tp4]
          clear hHeld
          refine ry 8 (fun K hK => ?_)
          go_simp
          have hwr : IntKind.i64.wrap (30 + (i : Int)) = 30 + (i : Int) := by rw [IntKind.wrap_i64]; have := HX.out; omega
          try rw [hwr]
          clear hwr
          obtain ⟨p, ny, KL, N, hN, hD, hcall⟩ := add8_l T7.out.ok mn gn T7.out.reads.1.symm T7.out.reads.2.1.symm (30 + (i : Int)) (fl : Int) tx st sb (by have := HTX.out; omega)
          refine (hcall.out _ _ _ _ ma mc ga gc _ T7.out.reads.2.2.1 T7.out.reads.2.2.2.1 T7.out.reads.2.2.2.2).mono ?_
          rintro e w8 ⟨a, c, a', c', rfl, ho8, hb8⟩
          have T8 := hid (T7.out.later hb8)
          have SG8 := hid (SG7.out.later hb8)
          have f8 := T8.out.box.loose
          have c8 := T8.out.box.cells
          have NEW := hid (T7.out.put hb8 ho8 hD.out)
          clear ho8 hb8 hN hcall
          go_wp2_with fail
          refine hK.out _ _ (SG8.out.cells) (fun hHeld => ?_)
          clear hK K
          try simp only [Act.put, tp2, tp3, tp4]
          refine tk 9 ?_
          refine tk 10 ?_
          refine tk 11 ?_
          clear hHeld
          refine ry 12 (fun K hK => ?_)
          go_simp
          refine hK.out _ _ ((SG8.out.kept (cb := ky) (wst (wst (wst (wst (wst (wst (wst (wre _ _) _ _) _ _) _ _) _ _) _ _) _ _) _ _) KT.out).cells) (fun hHeld => ?_)
          clear hK K
          try simp only [Act.put, tp2, tp3, tp4]
          refine wpAnyH_done (by kernel_rfl) ?_ _
          refine NoPanic.normal ?_
          go_wp2
          go_roundw
          case rel => exact ⟨i + 1, by have := HX.out; omega, by go_num, _, _, _, _, _, _, _, _, _, _, _, _, NEW.out⟩
          case measure => simp [intOf]; have := HX.out; omega
         refine rl (fun K hK => ?_)
         go_simp
         refine (below4 cb ao n cap _ hn T5.out.cur (HO.out.later T5.out.gr) 8 (by decide) (by decide)).mono ?_
         rintro e w6 ⟨fl, hfl, rfl, hc6, hg6⟩
         have T6 := hid (T5.out.draw hg6 hc6)
         have SG6 := hid (SG5.out.kept hg6 KC.out)
         clear hc6 hg6 hfl
         go_wp2_with fail
         refine hK.out _ _ (SG6.out.cells) (fun hHeld => ?_)
         clear hK K
         try simp only [Act.put, tp2, tp3, tp4]
         clear hHeld
         refine wpAnyH_ready (rs := [0, 6]) (by kernel_rfl) (by simp) ?_
         refine rc (fun K hK => ?_) ?_
         ·have q0 := T6.out.box.cells
          go_simp
          clear q0
          refine hK.out _ _ (SG6.out.cells) (fun hHeld => ?_)
          clear hK K
          try simp only [Act.put, tp2, tp3, tp4]
          clear hHeld
          refine ry 6 (fun K hK => ?_)
          go_simp
          refine (l05Text_any cb ao n cap _ hn T6.out.cur (HO.out.later T6.out.gr)).mono ?_
          rintro e w7 ⟨tx, htx, rfl, hc7, hg7⟩
          have T7 := hid (T6.out.draw hg7 hc7)
          have SG7 := hid (SG6.out.kept hg7 KC.out)
          have HTX := hid htx
          clear hc7 hg7 htx
          go_wp2_with fail
          refine hK.out _ _ (SG7.out.cells) (fun hHeld => ?_)
          clear hK K
          try simp only [Act.put, tp2, tp3, tp4]
          clear hHeld
          refine ry 8 (fun K hK => ?_)
          go_simp
          have hwr : IntKind.i64.wrap (30 + (i : Int)) = 30 + (i : Int) := by rw [IntKind.wrap_i64]; have := HX.out; omega
          try rw [hwr]
          clear hwr
          obtain ⟨p, ny, KL, N, hN, hD, hcall⟩ := add8_l T7.out.ok mn gn T7.out.reads.1.symm T7.out.reads.2.1.symm (30 + (i : Int)) (fl : Int) tx st sb (by have := HTX.out; omega)
          refine (hcall.out _ _ _ _ ma mc ga gc _ T7.out.reads.2.2.1 T7.out.reads.2.2.2.1 T7.out.reads.2.2.2.2).mono ?_
          rintro e w8 ⟨a, c, a', c', rfl, ho8, hb8⟩
          have T8 := hid (T7.out.later hb8)
          have SG8 := hid (SG7.out.later hb8)
          have f8 := T8.out.box.loose
          have c8 := T8.out.box.cells
          have NEW := hid (T7.out.put hb8 ho8 hD.out)
          clear ho8 hb8 hN hcall
          go_wp2_with fail
          refine hK.out _ _ (SG8.out.cells) (fun hHeld => ?_)
          clear hK K
          try simp only [Act.put, tp2, tp3, tp4]
          refine tk 9 ?_
          refine tk 10 ?_
          refine tk 11 ?_
          clear hHeld
          refine ry 12 (fun K hK => ?_)
          go_simp
          refine hK.out _ _ ((SG8.out.kept (cb := ky) (wst (wst (wst (wst (wst (wst (wst (wre _ _) _ _) _ _) _ _) _ _) _ _) _ _) _ _) KT.out).cells) (fun hHeld => ?_)
          clear hK K
          try simp only [Act.put, tp2, tp3, tp4]
          refine wpAnyH_done (by kernel_rfl) ?_ _
          refine NoPanic.normal ?_
          go_wp2
          go_roundw
          case rel => exact ⟨i + 1, by have := HX.out; omega, by go_num, _, _, _, _, _, _, _, _, _, _, _, _, NEW.out⟩
          case measure => simp [intOf]; have := HX.out; omega
         refine rl (fun K hK => ?_)
         go_simp
         refine (l05Text_any cb ao n cap _ hn T6.out.cur (HO.out.later T6.out.gr)).mono ?_
         rintro e w7 ⟨tx, htx, rfl, hc7, hg7⟩
         have T7 := hid (T6.out.draw hg7 hc7)
         have SG7 := hid (SG6.out.kept hg7 KC.out)
         have HTX := hid htx
         clear hc7 hg7 htx
         go_wp2_with fail
         refine hK.out _ _ (SG7.out.cells) (fun hHeld => ?_)
         clear hK K
         try simp only [Act.put, tp2, tp3, tp4]
         clear hHeld
         refine ry 0 (fun K hK => ?_)
         have q0 := T7.out.box.cells
         go_simp
         clear q0
         refine hK.out _ _ (SG7.out.cells) (fun hHeld => ?_)
         clear hK K
         try simp only [Act.put, tp2, tp3, tp4]
         clear hHeld
         refine ry 8 (fun K hK => ?_)
         go_simp
         have hwr : IntKind.i64.wrap (30 + (i : Int)) = 30 + (i : Int) := by rw [IntKind.wrap_i64]; have := HX.out; omega
         try rw [hwr]
         clear hwr
         obtain ⟨p, ny, KL, N, hN, hD, hcall⟩ := add8_l T7.out.ok mn gn T7.out.reads.1.symm T7.out.reads.2.1.symm (30 + (i : Int)) (fl : Int) tx st sb (by have := HTX.out; omega)
         refine (hcall.out _ _ _ _ ma mc ga gc _ T7.out.reads.2.2.1 T7.out.reads.2.2.2.1 T7.out.reads.2.2.2.2).mono ?_
         rintro e w8 ⟨a, c, a', c', rfl, ho8, hb8⟩
         have T8 := hid (T7.out.later hb8)
         have SG8 := hid (SG7.out.later hb8)
         have f8 := T8.out.box.loose
         have c8 := T8.out.box.cells
         have NEW := hid (T7.out.put hb8 ho8 hD.out)
         clear ho8 hb8 hN hcall
         go_wp2_with fail
         refine hK.out _ _ (SG8.out.cells) (fun hHeld => ?_)
         clear hK K
         try simp only [Act.put, tp2, tp3, tp4]
         refine tk 9 ?_
         refine tk 10 ?_
         refine tk 11 ?_
         clear hHeld
         refine ry 12 (fun K hK => ?_)
         go_simp
         refine hK.out _ _ ((SG8.out.kept (cb := ky) (wst (wst (wst (wst (wst (wst (wst (wre _ _) _ _) _ _) _ _) _ _) _ _) _ _) _ _) KT.out).cells) (fun hHeld => ?_)
         clear hK K
         try simp only [Act.put, tp2, tp3, tp4]
         refine wpAnyH_done (by kernel_rfl) ?_ _
         refine NoPanic.normal ?_
         go_wp2
         go_roundw
         case rel => exact ⟨i + 1, by have := HX.out; omega, by go_num, _, _, _, _, _, _, _, _, _, _, _, _, NEW.out⟩
         case measure => simp [intOf]; have := HX.out; omega
       ·go_wp2_with fail
        refine wp_region_noPanic ?_
        refine wp_region_held_drew (S := (fun W => W.cell? ⟨kt, 0, none⟩ = some (.int .i64 st) ∧ W.cell? ⟨kt, 1, none⟩ = some (.int .i64 sb))) (by kernel_rfl) (SG5.out.cells) (fun hHeld => ?_)
        refine tk 1 ?_
        refine tk 4 ?_
        refine tk 6 ?_
        clear hHeld
        refine wpAnyH_ready (rs := [0, 2]) (by kernel_rfl) (by simp) ?_
        refine rc (fun K hK => ?_) ?_
        ·have q0 := T5.out.box.cells
         go_simp
         clear q0
         refine hK.out _ _ (SG5.out.cells) (fun hHeld => ?_)
         clear hK K
         try simp only [Act.put, tp2, tp3, tp4]
         clear hHeld
         refine ry 2 (fun K hK => ?_)
         go_simp
         refine (below4 cb ao n cap _ hn T5.out.cur (HO.out.later T5.out.gr) 5 (by decide) (by decide)).mono ?_
         rintro e wm ⟨y, hy, rfl, hc6, hg6⟩
         have TM := hid (T5.out.draw hg6 hc6)
         have SGM := hid (SG5.out.kept hg6 KC.out)
         have HY := hid hy
         clear hc6 hg6 hy
         go_wp2_with fail
         refine hK.out _ _ (SGM.out.cells) (fun hHeld => ?_)
         clear hK K
         try simp only [Act.put, tp2, tp3, tp4]
         refine tk 3 ?_
         clear hHeld
         refine ry 5 (fun K hK => ?_)
         go_simp
         refine (below4 cb ao n cap _ hn TM.out.cur (HO.out.later TM.out.gr) 8 (by decide) (by decide)).mono ?_
         rintro e w6 ⟨fl, hfl, rfl, hc6, hg6⟩
         have T6 := hid (TM.out.draw hg6 hc6)
         have SG6 := hid (SGM.out.kept hg6 KC.out)
         clear hc6 hg6 hfl
         go_wp2_with fail
         refine hK.out _ _ (SG6.out.cells) (fun hHeld => ?_)
         clear hK K
         try simp only [Act.put, tp2, tp3, tp4]
         clear hHeld
         refine ry 7 (fun K hK => ?_)
         go_simp
         have hwr : IntKind.i64.wrap (10 + (y : Int)) = 10 + (y : Int) := by rw [IntKind.wrap_i64]; have := HY.out; omega
         try rw [hwr]
         clear hwr
         obtain ⟨p, KL, hN, hD, hcall⟩ := flag8_l T6.out.ok mn gn T6.out.reads.1.symm T6.out.reads.2.1.symm (10 + (y : Int)) (fl : Int) st sb
         refine (hcall.out _ _ _ _ ma mc ga gc _ T6.out.reads.2.2.1 T6.out.reads.2.2.2.1 T6.out.reads.2.2.2.2).mono ?_
         rintro e w8 ⟨a, c, a', c', rfl, ho8, hb8⟩
         have T8 := hid (T6.out.later hb8)
         have SG8 := hid (SG6.out.later hb8)
         have f8 := T8.out.box.loose
         have c8 := T8.out.box.cells
         have NEW := hid (T6.out.put hb8 ho8 hD.out)
         clear ho8 hb8 hN hcall
         go_wp2_with fail
         refine hK.out _ _ (SG8.out.cells) (fun hHeld => ?_)
         clear hK K
         try simp only [Act.put, tp2, tp3, tp4]
         refine tk 8 ?_
         refine tk 9 ?_
         refine tk 10 ?_
         clear hHeld
         refine ry 11 (fun K hK => ?_)
         go_simp
         refine hK.out _ _ ((SG8.out.kept (cb := ky) (wst (wst (wst (wst (wst (wst (wst (wre _ _) _ _) _ _) _ _) _ _) _ _) _ _) _ _) KT.out).cells) (fun hHeld => ?_)
         clear hK K
         try simp only [Act.put, tp2, tp3, tp4]
         refine wpAnyH_done (by kernel_rfl) ?_ _
         refine NoPanic.normal ?_
         go_wp2
         go_roundw
         case rel => exact ⟨i + 1, by have := HX.out; omega, by go_num, _, _, _, _, _, _, _, _, _, _, _, _, NEW.out⟩
         case measure => simp [intOf]; have := HX.out; omega
        refine rl (fun K hK => ?_)
        go_simp
        refine (below4 cb ao n cap _ hn T5.out.cur (HO.out.later T5.out.gr) 5 (by decide) (by decide)).mono ?_
        rintro e wm ⟨y, hy, rfl, hc6, hg6⟩
        have TM := hid (T5.out.draw hg6 hc6)
        have SGM := hid (SG5.out.kept hg6 KC.out)
        have HY := hid hy
        clear hc6 hg6 hy
        go_wp2_with fail
        refine hK.out _ _ (SGM.out.cells) (fun hHeld => ?_)
        clear hK K
        try simp only [Act.put, tp2, tp3, tp4]
        refine tk 3 ?_
        clear hHeld
        refine wpAnyH_ready (rs := [0, 5]) (by kernel_rfl) (by simp) ?_
        refine rc (fun K hK => ?_) ?_
        ·have q0 := TM.out.box.cells
         go_simp
         clear q0
         refine hK.out _ _ (SGM.out.cells) (fun hHeld => ?_)
         clear hK K
         try simp only [Act.put, tp2, tp3, tp4]
         clear hHeld
         refine ry 5 (fun K hK => ?_)
         go_simp
         refine (below4 cb ao n cap _ hn TM.out.cur (HO.out.later TM.out.gr) 8 (by decide) (by decide)).mono ?_
         rintro e w6 ⟨fl, hfl, rfl, hc6, hg6⟩
         have T6 := hid (TM.out.draw hg6 hc6)
         have SG6 := hid (SGM.out.kept hg6 KC.out)
         clear hc6 hg6 hfl
         go_wp2_with fail
         refine hK.out _ _ (SG6.out.cells) (fun hHeld => ?_)
         clear hK K
         try simp only [Act.put, tp2, tp3, tp4]
         clear hHeld
         refine ry 7 (fun K hK => ?_)
         go_simp
         have hwr : IntKind.i64.wrap (10 + (y : Int)) = 10 + (y : Int) := by rw [IntKind.wrap_i64]; have := HY.out; omega
         try rw [hwr]
         clear hwr
         obtain ⟨p, KL, hN, hD, hcall⟩ := flag8_l T6.out.ok mn gn T6.out.reads.1.symm T6.out.reads.2.1.symm (10 + (y : Int)) (fl : Int) st sb
         refine (hcall.out _ _ _ _ ma mc ga gc _ T6.out.reads.2.2.1 T6.out.reads.2.2.2.1 T6.out.reads.2.2.2.2).mono ?_
         rintro e w8 ⟨a, c, a', c', rfl, ho8, hb8⟩
         have T8 := hid (T6.out.later hb8)
         have SG8 := hid (SG6.out.later hb8)
         have f8 := T8.out.box.loose
         have c8 := T8.out.box.cells
         have NEW := hid (T6.out.put hb8 ho8 hD.out)
         clear ho8 hb8 hN hcall
         go_wp2_with fail
         refine hK.out _ _ (SG8.out.cells) (fun hHeld => ?_)
         clear hK K
         try simp only [Act.put, tp2, tp3, tp4]
         refine tk 8 ?_
         refine tk 9 ?_
         refine tk 10 ?_
         clear hHeld
         refine ry 11 (fun K hK => ?_)
         go_simp
         refine hK.out _ _ ((SG8.out.kept (cb := ky) (wst (wst (wst (wst (wst (wst (wst (wre _ _) _ _) _ _) _ _) _ _) _ _) _ _) _ _) KT.out).cells) (fun hHeld => ?_)
         clear hK K
         try simp only [Act.put, tp2, tp3, tp4]
         refine wpAnyH_done (by kernel_rfl) ?_ _
         refine NoPanic.normal ?_
         go_wp2
         go_roundw
         case rel => exact ⟨i + 1, by have := HX.out; omega, by go_num, _, _, _, _, _, _, _, _, _, _, _, _, NEW.out⟩
         case measure => simp [intOf]; have := HX.out; omega
        refine rl (fun K hK => ?_)
        go_simp
        refine (below4 cb ao n cap _ hn TM.out.cur (HO.out.later TM.out.gr) 8 (by decide) (by decide)).mono ?_
        rintro e w6 ⟨fl, hfl, rfl, hc6, hg6⟩
        have T6 := hid (TM.out.draw hg6 hc6)
        have SG6 := hid (SGM.out.kept hg6 KC.out)
        clear hc6 hg6 hfl
        go_wp2_with fail
        refine hK.out _ _ (SG6.out.cells) (fun hHeld => ?_)
        clear hK K
        try simp only [Act.put, tp2, tp3, tp4]
        clear hHeld
        refine ry 0 (fun K hK => ?_)
        have q0 := T6.out.box.cells
        go_simp
        clear q0
        refine hK.out _ _ (SG6.out.cells) (fun hHeld => ?_)
        clear hK K
        try simp only [Act.put, tp2, tp3, tp4]
        clear hHeld
        refine ry 7 (fun K hK => ?_)
        go_simp
        have hwr : IntKind.i64.wrap (10 + (y : Int)) = 10 + (y : Int) := by rw [IntKind.wrap_i64]; have := HY.out; omega
        try rw [hwr]
        clear hwr
        obtain ⟨p, KL, hN, hD, hcall⟩ := flag8_l T6.out.ok mn gn T6.out.reads.1.symm T6.out.reads.2.1.symm (10 + (y : Int)) (fl : Int) st sb
        refine (hcall.out _ _ _ _ ma mc ga gc _ T6.out.reads.2.2.1 T6.out.reads.2.2.2.1 T6.out.reads.2.2.2.2).mono ?_
        rintro e w8 ⟨a, c, a', c', rfl, ho8, hb8⟩
        have T8 := hid (T6.out.later hb8)
        have SG8 := hid (SG6.out.later hb8)
        have f8 := T8.out.box.loose
        have c8 := T8.out.box.cells
        have NEW := hid (T6.out.put hb8 ho8 hD.out)
        clear ho8 hb8 hN hcall
        go_wp2_with fail
        refine hK.out _ _ (SG8.out.cells) (fun hHeld => ?_)
        clear hK K
        try simp only [Act.put, tp2, tp3, tp4]
        refine tk 8 ?_
        refine tk 9 ?_
        refine tk 10 ?_
        clear hHeld
        refine ry 11 (fun K hK => ?_)
        go_simp
        refine hK.out _ _ ((SG8.out.kept (cb := ky) (wst (wst (wst (wst (wst (wst (wst (wre _ _) _ _) _ _) _ _) _ _) _ _) _ _) _ _) KT.out).cells) (fun hHeld => ?_)
        clear hK K
        try simp only [Act.put, tp2, tp3, tp4]
        refine wpAnyH_done (by kernel_rfl) ?_ _
        refine NoPanic.normal ?_
        go_wp2
        go_roundw
        case rel => exact ⟨i + 1, by have := HX.out; omega, by go_num, _, _, _, _, _, _, _, _, _, _, _, _, NEW.out⟩
        case measure => simp [intOf]; have := HX.out; omega
       ·go_wp2_with fail
        refine wp_region_noPanic ?_
        refine wp_region_held_drew (S := (fun W => W.cell? ⟨kt, 0, none⟩ = some (.int .i64 st) ∧ W.cell? ⟨kt, 1, none⟩ = some (.int .i64 sb))) (by kernel_rfl) (SG5.out.cells) (fun hHeld => ?_)
        refine tk 1 ?_
        clear hHeld
        refine wpAnyH_ready (rs := [0, 2]) (by kernel_rfl) (by simp) ?_
        refine rc (fun K hK => ?_) ?_
        ·have q0 := T5.out.box.cells
         go_simp
         clear q0
         refine hK.out _ _ (SG5.out.cells) (fun hHeld => ?_)
         clear hK K
         try simp only [Act.put, tp2, tp3, tp4]
         clear hHeld
         refine ry 2 (fun K hK => ?_)
         go_simp
         refine (below4 cb ao n cap _ hn T5.out.cur (HO.out.later T5.out.gr) 5 (by decide) (by decide)).mono ?_
         rintro e wm ⟨y, hy, rfl, hc6, hg6⟩
         have TM := hid (T5.out.draw hg6 hc6)
         have SGM := hid (SG5.out.kept hg6 KC.out)
         have HY := hid hy
         clear hc6 hg6 hy
         go_wp2_with fail
         refine hK.out _ _ (SGM.out.cells) (fun hHeld => ?_)
         clear hK K
         try simp only [Act.put, tp2, tp3, tp4]
         refine tk 3 ?_
         clear hHeld
         refine ry 4 (fun K hK => ?_)
         go_simp
         have hwr : IntKind.i64.wrap (10 + (y : Int)) = 10 + (y : Int) := by rw [IntKind.wrap_i64]; have := HY.out; omega
         try rw [hwr]
         clear hwr
         obtain ⟨p, KL, KG, N, M, hN, hM, hD, hcall⟩ := take8_l TM.out.ok mn gn TM.out.reads.1.symm TM.out.reads.2.1.symm (10 + (y : Int))
         refine (hcall.out _ _ _ _ ma mc ga gc _ TM.out.reads.2.2.1 TM.out.reads.2.2.2.1 TM.out.reads.2.2.2.2).mono ?_
         rintro e w8 ⟨a, c, a', c', rfl, ho8, hb8⟩
         have T8 := hid (TM.out.later hb8)
         have SG8 := hid (SGM.out.later hb8)
         have f8 := T8.out.box.loose
         have c8 := T8.out.box.cells
         have NEW := hid (TM.out.put hb8 ho8 hD.out)
         clear ho8 hb8 hN hcall
         go_wp2_with fail
         refine hK.out _ _ (SG8.out.cells) (fun hHeld => ?_)
         clear hK K
         try simp only [Act.put, tp2, tp3, tp4]
         refine tk 5 ?_
         refine tk 6 ?_
         refine tk 7 ?_
         clear hHeld
         refine ry 8 (fun K hK => ?_)
         go_simp
         refine hK.out _ _ ((SG8.out.kept (cb := ky) (wst (wst (wst (wst (wst (wst (wst (wre _ _) _ _) _ _) _ _) _ _) _ _) _ _) _ _) KT.out).cells) (fun hHeld => ?_)
         clear hK K
         try simp only [Act.put, tp2, tp3, tp4]
         refine wpAnyH_done (by kernel_rfl) ?_ _
         refine NoPanic.normal ?_
         go_wp2
         go_roundw
         case rel => exact ⟨i + 1, by have := HX.out; omega, by go_num, _, _, _, _, _, _, _, _, _, _, _, _, NEW.out⟩
         case measure => simp [intOf]; have := HX.out; omega
        refine rl (fun K hK => ?_)
        go_simp
        refine (below4 cb ao n cap _ hn T5.out.cur (HO.out.later T5.out.gr) 5 (by decide) (by decide)).mono ?_
        rintro e wm ⟨y, hy, rfl, hc6, hg6⟩
        have TM := hid (T5.out.draw hg6 hc6)
        have SGM := hid (SG5.out.kept hg6 KC.out)
        have HY := hid hy
        clear hc6 hg6 hy
        go_wp2_with fail
        refine hK.out _ _ (SGM.out.cells) (fun hHeld => ?_)
        clear hK K
        try simp only [Act.put, tp2, tp3, tp4]
        refine tk 3 ?_
        clear hHeld
        refine ry 0 (fun K hK => ?_)
        have q0 := TM.out.box.cells
        go_simp
        clear q0
        refine hK.out _ _ (SGM.out.cells) (fun hHeld => ?_)
        clear hK K
        try simp only [Act.put, tp2, tp3, tp4]
        clear hHeld
        refine ry 4 (fun K hK => ?_)
        go_simp
        have hwr : IntKind.i64.wrap (10 + (y : Int)) = 10 + (y : Int) := by rw [IntKind.wrap_i64]; have := HY.out; omega
        try rw [hwr]
        clear hwr
        obtain ⟨p, KL, KG, N, M, hN, hM, hD, hcall⟩ := take8_l TM.out.ok mn gn TM.out.reads.1.symm TM.out.reads.2.1.symm (10 + (y : Int))
        refine (hcall.out _ _ _ _ ma mc ga gc _ TM.out.reads.2.2.1 TM.out.reads.2.2.2.1 TM.out.reads.2.2.2.2).mono ?_
        rintro e w8 ⟨a, c, a', c', rfl, ho8, hb8⟩
        have T8 := hid (TM.out.later hb8)
        have SG8 := hid (SGM.out.later hb8)
        have f8 := T8.out.box.loose
        have c8 := T8.out.box.cells
        have NEW := hid (TM.out.put hb8 ho8 hD.out)
        clear ho8 hb8 hN hcall
        go_wp2_with fail
        refine hK.out _ _ (SG8.out.cells) (fun hHeld => ?_)
        clear hK K
        try simp only [Act.put, tp2, tp3, tp4]
        refine tk 5 ?_
        refine tk 6 ?_
        refine tk 7 ?_
        clear hHeld
        refine ry 8 (fun K hK => ?_)
        go_simp
        refine hK.out _ _ ((SG8.out.kept (cb := ky) (wst (wst (wst (wst (wst (wst (wst (wre _ _) _ _) _ _) _ _) _ _) _ _) _ _) _ _) KT.out).cells) (fun hHeld => ?_)
        clear hK K
        try simp only [Act.put, tp2, tp3, tp4]
        refine wpAnyH_done (by kernel_rfl) ?_ _
        refine NoPanic.normal ?_
        go_wp2
        go_roundw
        case rel => exact ⟨i + 1, by have := HX.out; omega, by go_num, _, _, _, _, _, _, _, _, _, _, _, _, NEW.out⟩
        case measure => simp [intOf]; have := HX.out; omega
      ·have hix' : ¬ (i : Int) < (x : Int) := by omega
       clear hix hx hi
       have PP : Hid (P8 w w2 cb ao n cap kx ky) := ⟨_, _, _, _, _, _, _, _, _, _, _, _, _, _, T2.out, HS.out.1, HS.out.2⟩
       clear T2 HS
       go_wp2_with fail
       refine (once_any cb ao n cap _ hn PP.out.cur (HO.out.later PP.out.gr) 3 (by decide) (by decide)).mono ?_; rintro e v1 ⟨p1, rfl, hc, hg⟩
       have PQ := hid (PP.out.draw hg hc)
       clear hc hg PP
       cases p1
       ·have PP := PQ
        clear PQ
        go_wp2_with fail
        refine (once_any cb ao n cap _ hn PP.out.cur (HO.out.later PP.out.gr) 3 (by decide) (by decide)).mono ?_; rintro e v1 ⟨p1, rfl, hc, hg⟩
        have PQ := hid (PP.out.draw hg hc)
        clear hc hg PP
        cases p1
        ·have PP := PQ
         clear PQ
         try go_wp2_with fail
         obtain ⟨W9, hW9, hP⟩ := PP.out.nm
         rw [hW9]
         clear hW9 PP
         obtain ⟨nm, t, b, nx, ma, mn, mc, ga, gn, gc, nm', t', b', nx', ma', mn', mc', ga', gn', gc', ⟨x0, y0, z0⟩, hE⟩ := two_end (hP.draw (gdr (wre _ _)) hP.cur.drew)
         have R0 := hid z0
         have END := hid hE
         have K0 := hid (And.intro x0.cells y0.cells)
         clear x0 y0 z0 hE hP
         refine wp_region_noPanic ?_
         refine wp_region_held_drew (S := (fun W => (W.cell? ⟨kx, 0, none⟩ = some (.int .i64 7) ∧ W.cell? ⟨kx, 1, none⟩ = some (.string nm) ∧ W.cell? ⟨kx, 2, none⟩ = some (.int .i64 t) ∧ W.cell? ⟨kx, 3, none⟩ = some (.int .i64 b) ∧ W.cell? ⟨kx, 4, none⟩ = some (.int .i64 nx) ∧ W.cell? ⟨kx, 5, none⟩ = some (.slice ma mn mc) ∧ W.cell? ⟨kx, 6, none⟩ = some (.slice ga gn gc)) ∧ (W.cell? ⟨ky, 0, none⟩ = some (.int .i64 7) ∧ W.cell? ⟨ky, 1, none⟩ = some (.string nm') ∧ W.cell? ⟨ky, 2, none⟩ = some (.int .i64 t') ∧ W.cell? ⟨ky, 3, none⟩ = some (.int .i64 b') ∧ W.cell? ⟨ky, 4, none⟩ = some (.int .i64 nx') ∧ W.cell? ⟨ky, 5, none⟩ = some (.slice ma' mn' mc') ∧ W.cell? ⟨ky, 6, none⟩ = some (.slice ga' gn' gc')))) (by kernel_rfl) (K0.out) (fun hHeld => ?_)
         obtain ⟨WA, hWA⟩ : ∃ WA, W9.drew = WA := ⟨_, rfl⟩
         rw [hWA] at hHeld R0 END
         rw [hWA]
         clear hWA K0
         refine tk 0 ?_
         refine tk 1 ?_
         clear hHeld
         refine ry 2 (fun K hK => ?_)
         have c0 := R0.out.cells
         have f0 := R0.out.loose
         go_simp
         clear c0 f0
         obtain ⟨x1, y1, z1, NXT⟩ := END.out _ rfl
         have R1 := hid z1
         have NX := hid NXT
         have K1 := hid (And.intro x1.cells y1.cells)
         clear x1 y1 z1 NXT
         unfold set7 at R1 NX K1
         refine hK.out _ _ (K1.out) (fun hHeld => ?_)
         clear hK K
         try simp only [Act.put, tp2, tp3, tp4]
         clear hHeld
         refine ry 3 (fun K hK => ?_)
         have c0 := R1.out.cells
         have f0 := R1.out.loose
         go_simp
         clear c0 f0
         obtain ⟨x1, y1, z1, z2, FIN⟩ := NX.out _ rfl
         have K2 := hid (And.intro x1.cells y1.cells)
         have D1 := hid z1.cells
         have D2 := hid z2.cells
         have FN := hid FIN
         clear x1 y1 z1 z2 FIN
         unfold set7 at K2 D1 D2 FN
         refine hK.out _ _ (K2.out) (fun hHeld => ?_)
         clear hK K
         try simp only [Act.put, tp2, tp3, tp4]
         refine wpAnyH_done (by kernel_rfl) ?_ _
         refine NoPanic.normal ?_
         have d1 := D1.out
         have d2 := D2.out
         go_wp2
         refine bodyPost_ret (v := .tuple #[.agg #[.int .i64 7, .string nm, .int .i64 t, .int .i64 b, .int .i64 nx, .slice ma mn mc, .slice ga gn gc], .agg #[.int .i64 7, .string nm', .int .i64 t', .int .i64 b', .int .i64 nx', .slice ma' mn' mc', .slice ga' gn' gc']]) (by simp [results, Tryz.results36, go_sem, d1, d2]) rfl (FN.out _ rfl)
        ·obtain ⟨xn, xt, xb, xx, xm, xg, yn, yt, yb, yx, ym, yg, hX, hY⟩ := PQ.out.cells
         have c1 := hY.cells
         have l1 := hY.loose
         have PN := hid (PQ.out.yname ⟨#[111, 108, 100]⟩ (by decide))
         clear hX hY PQ
         go_wp2_with fail
         clear c1 l1
         refine (l03Stamp_any cb ao n cap _ hn PN.out.cur (HO.out.later PN.out.gr)).mono ?_; rintro e v2 ⟨st, sb, hst, rfl, hc, hg⟩
         have PM := hid (PN.out.draw hg hc)
         clear hc hg PN
         obtain ⟨xn, xt, xb, xx, xm, xg, yn, yt, yb, yx, ym, yg, hX, hY⟩ := PM.out.cells
         have c1 := hY.cells
         have l1 := hY.loose
         have PP := hid (PM.out.ystamp st sb hst)
         clear hX hY PM hst
         go_wp2_with fail
         clear c1 l1
         try go_wp2_with fail
         obtain ⟨W9, hW9, hP⟩ := PP.out.nm
         rw [hW9]
         clear hW9 PP
         obtain ⟨nm, t, b, nx, ma, mn, mc, ga, gn, gc, nm', t', b', nx', ma', mn', mc', ga', gn', gc', ⟨x0, y0, z0⟩, hE⟩ := two_end (hP.draw (gdr (wre _ _)) hP.cur.drew)
         have R0 := hid z0
         have END := hid hE
         have K0 := hid (And.intro x0.cells y0.cells)
         clear x0 y0 z0 hE hP
         refine wp_region_noPanic ?_
         refine wp_region_held_drew (S := (fun W => (W.cell? ⟨kx, 0, none⟩ = some (.int .i64 7) ∧ W.cell? ⟨kx, 1, none⟩ = some (.string nm) ∧ W.cell? ⟨kx, 2, none⟩ = some (.int .i64 t) ∧ W.cell? ⟨kx, 3, none⟩ = some (.int .i64 b) ∧ W.cell? ⟨kx, 4, none⟩ = some (.int .i64 nx) ∧ W.cell? ⟨kx, 5, none⟩ = some (.slice ma mn mc) ∧ W.cell? ⟨kx, 6, none⟩ = some (.slice ga gn gc)) ∧ (W.cell? ⟨ky, 0, none⟩ = some (.int .i64 7) ∧ W.cell? ⟨ky, 1, none⟩ = some (.string nm') ∧ W.cell? ⟨ky, 2, none⟩ = some (.int .i64 t') ∧ W.cell? ⟨ky, 3, none⟩ = some (.int .i64 b') ∧ W.cell? ⟨ky, 4, none⟩ = some (.int .i64 nx') ∧ W.cell? ⟨ky, 5, none⟩ = some (.slice ma' mn' mc') ∧ W.cell? ⟨ky, 6, none⟩ = some (.slice ga' gn' gc')))) (by kernel_rfl) (K0.out) (fun hHeld => ?_)
         obtain ⟨WA, hWA⟩ : ∃ WA, W9.drew = WA := ⟨_, rfl⟩
         rw [hWA] at hHeld R0 END
         rw [hWA]
         clear hWA K0
         refine tk 0 ?_
         refine tk 1 ?_
         clear hHeld
         refine ry 2 (fun K hK => ?_)
         have c0 := R0.out.cells
         have f0 := R0.out.loose
         go_simp
         clear c0 f0
         obtain ⟨x1, y1, z1, NXT⟩ := END.out _ rfl
         have R1 := hid z1
         have NX := hid NXT
         have K1 := hid (And.intro x1.cells y1.cells)
         clear x1 y1 z1 NXT
         unfold set7 at R1 NX K1
         refine hK.out _ _ (K1.out) (fun hHeld => ?_)
         clear hK K
         try simp only [Act.put, tp2, tp3, tp4]
         clear hHeld
         refine ry 3 (fun K hK => ?_)
         have c0 := R1.out.cells
         have f0 := R1.out.loose
         go_simp
         clear c0 f0
         obtain ⟨x1, y1, z1, z2, FIN⟩ := NX.out _ rfl
         have K2 := hid (And.intro x1.cells y1.cells)
         have D1 := hid z1.cells
         have D2 := hid z2.cells
         have FN := hid FIN
         clear x1 y1 z1 z2 FIN
         unfold set7 at K2 D1 D2 FN
         refine hK.out _ _ (K2.out) (fun hHeld => ?_)
         clear hK K
         try simp only [Act.put, tp2, tp3, tp4]
         refine wpAnyH_done (by kernel_rfl) ?_ _
         refine NoPanic.normal ?_
         have d1 := D1.out
         have d2 := D2.out
         go_wp2
         refine bodyPost_ret (v := .tuple #[.agg #[.int .i64 7, .string nm, .int .i64 t, .int .i64 b, .int .i64 nx, .slice ma mn mc, .slice ga gn gc], .agg #[.int .i64 7, .string nm', .int .i64 t', .int .i64 b', .int .i64 nx', .slice ma' mn' mc', .slice ga' gn' gc']]) (by simp [results, Tryz.results36, go_sem, d1, d2]) rfl (FN.out _ rfl)
       ·obtain ⟨xn, xt, xb, xx, xm, xg, yn, yt, yb, yx, ym, yg, hX, hY⟩ := PQ.out.cells
        have c1 := hX.cells
        have l1 := hX.loose
        have PN := hid (PQ.out.xname ⟨#[119, 111, 114, 107]⟩ (by decide))
        clear hX hY PQ
        go_wp2_with fail
        clear c1 l1
        refine (l03Stamp_any cb ao n cap _ hn PN.out.cur (HO.out.later PN.out.gr)).mono ?_; rintro e v2 ⟨st, sb, hst, rfl, hc, hg⟩
        have PM := hid (PN.out.draw hg hc)
        clear hc hg PN
        obtain ⟨xn, xt, xb, xx, xm, xg, yn, yt, yb, yx, ym, yg, hX, hY⟩ := PM.out.cells
        have c1 := hX.cells
        have l1 := hX.loose
        have PP := hid (PM.out.xstamp st sb hst)
        clear hX hY PM hst
        go_wp2_with fail
        clear c1 l1
        go_wp2_with fail
        refine (once_any cb ao n cap _ hn PP.out.cur (HO.out.later PP.out.gr) 3 (by decide) (by decide)).mono ?_; rintro e v1 ⟨p1, rfl, hc, hg⟩
        have PQ := hid (PP.out.draw hg hc)
        clear hc hg PP
        cases p1
        ·have PP := PQ
         clear PQ
         try go_wp2_with fail
         obtain ⟨W9, hW9, hP⟩ := PP.out.nm
         rw [hW9]
         clear hW9 PP
         obtain ⟨nm, t, b, nx, ma, mn, mc, ga, gn, gc, nm', t', b', nx', ma', mn', mc', ga', gn', gc', ⟨x0, y0, z0⟩, hE⟩ := two_end (hP.draw (gdr (wre _ _)) hP.cur.drew)
         have R0 := hid z0
         have END := hid hE
         have K0 := hid (And.intro x0.cells y0.cells)
         clear x0 y0 z0 hE hP
         refine wp_region_noPanic ?_
         refine wp_region_held_drew (S := (fun W => (W.cell? ⟨kx, 0, none⟩ = some (.int .i64 7) ∧ W.cell? ⟨kx, 1, none⟩ = some (.string nm) ∧ W.cell? ⟨kx, 2, none⟩ = some (.int .i64 t) ∧ W.cell? ⟨kx, 3, none⟩ = some (.int .i64 b) ∧ W.cell? ⟨kx, 4, none⟩ = some (.int .i64 nx) ∧ W.cell? ⟨kx, 5, none⟩ = some (.slice ma mn mc) ∧ W.cell? ⟨kx, 6, none⟩ = some (.slice ga gn gc)) ∧ (W.cell? ⟨ky, 0, none⟩ = some (.int .i64 7) ∧ W.cell? ⟨ky, 1, none⟩ = some (.string nm') ∧ W.cell? ⟨ky, 2, none⟩ = some (.int .i64 t') ∧ W.cell? ⟨ky, 3, none⟩ = some (.int .i64 b') ∧ W.cell? ⟨ky, 4, none⟩ = some (.int .i64 nx') ∧ W.cell? ⟨ky, 5, none⟩ = some (.slice ma' mn' mc') ∧ W.cell? ⟨ky, 6, none⟩ = some (.slice ga' gn' gc')))) (by kernel_rfl) (K0.out) (fun hHeld => ?_)
         obtain ⟨WA, hWA⟩ : ∃ WA, W9.drew = WA := ⟨_, rfl⟩
         rw [hWA] at hHeld R0 END
         rw [hWA]
         clear hWA K0
         refine tk 0 ?_
         refine tk 1 ?_
         clear hHeld
         refine ry 2 (fun K hK => ?_)
         have c0 := R0.out.cells
         have f0 := R0.out.loose
         go_simp
         clear c0 f0
         obtain ⟨x1, y1, z1, NXT⟩ := END.out _ rfl
         have R1 := hid z1
         have NX := hid NXT
         have K1 := hid (And.intro x1.cells y1.cells)
         clear x1 y1 z1 NXT
         unfold set7 at R1 NX K1
         refine hK.out _ _ (K1.out) (fun hHeld => ?_)
         clear hK K
         try simp only [Act.put, tp2, tp3, tp4]
         clear hHeld
         refine ry 3 (fun K hK => ?_)
         have c0 := R1.out.cells
         have f0 := R1.out.loose
         go_simp
         clear c0 f0
         obtain ⟨x1, y1, z1, z2, FIN⟩ := NX.out _ rfl
         have K2 := hid (And.intro x1.cells y1.cells)
         have D1 := hid z1.cells
         have D2 := hid z2.cells
         have FN := hid FIN
         clear x1 y1 z1 z2 FIN
         unfold set7 at K2 D1 D2 FN
         refine hK.out _ _ (K2.out) (fun hHeld => ?_)
         clear hK K
         try simp only [Act.put, tp2, tp3, tp4]
         refine wpAnyH_done (by kernel_rfl) ?_ _
         refine NoPanic.normal ?_
         have d1 := D1.out
         have d2 := D2.out
         go_wp2
         refine bodyPost_ret (v := .tuple #[.agg #[.int .i64 7, .string nm, .int .i64 t, .int .i64 b, .int .i64 nx, .slice ma mn mc, .slice ga gn gc], .agg #[.int .i64 7, .string nm', .int .i64 t', .int .i64 b', .int .i64 nx', .slice ma' mn' mc', .slice ga' gn' gc']]) (by simp [results, Tryz.results36, go_sem, d1, d2]) rfl (FN.out _ rfl)
        ·obtain ⟨xn, xt, xb, xx, xm, xg, yn, yt, yb, yx, ym, yg, hX, hY⟩ := PQ.out.cells
         have c1 := hY.cells
         have l1 := hY.loose
         have PN := hid (PQ.out.yname ⟨#[111, 108, 100]⟩ (by decide))
         clear hX hY PQ
         go_wp2_with fail
         clear c1 l1
         refine (l03Stamp_any cb ao n cap _ hn PN.out.cur (HO.out.later PN.out.gr)).mono ?_; rintro e v2 ⟨st, sb, hst, rfl, hc, hg⟩
         have PM := hid (PN.out.draw hg hc)
         clear hc hg PN
         obtain ⟨xn, xt, xb, xx, xm, xg, yn, yt, yb, yx, ym, yg, hX, hY⟩ := PM.out.cells
         have c1 := hY.cells
         have l1 := hY.loose
         have PP := hid (PM.out.ystamp st sb hst)
         clear hX hY PM hst
         go_wp2_with fail
         clear c1 l1
         try go_wp2_with fail
         obtain ⟨W9, hW9, hP⟩ := PP.out.nm
         rw [hW9]
         clear hW9 PP
         obtain ⟨nm, t, b, nx, ma, mn, mc, ga, gn, gc, nm', t', b', nx', ma', mn', mc', ga', gn', gc', ⟨x0, y0, z0⟩, hE⟩ := two_end (hP.draw (gdr (wre _ _)) hP.cur.drew)
         have R0 := hid z0
         have END := hid hE
         have K0 := hid (And.intro x0.cells y0.cells)
         clear x0 y0 z0 hE hP
         refine wp_region_noPanic ?_
         refine wp_region_held_drew (S := (fun W => (W.cell? ⟨kx, 0, none⟩ = some (.int .i64 7) ∧ W.cell? ⟨kx, 1, none⟩ = some (.string nm) ∧ W.cell? ⟨kx, 2, none⟩ = some (.int .i64 t) ∧ W.cell? ⟨kx, 3, none⟩ = some (.int .i64 b) ∧ W.cell? ⟨kx, 4, none⟩ = some (.int .i64 nx) ∧ W.cell? ⟨kx, 5, none⟩ = some (.slice ma mn mc) ∧ W.cell? ⟨kx, 6, none⟩ = some (.slice ga gn gc)) ∧ (W.cell? ⟨ky, 0, none⟩ = some (.int .i64 7) ∧ W.cell? ⟨ky, 1, none⟩ = some (.string nm') ∧ W.cell? ⟨ky, 2, none⟩ = some (.int .i64 t') ∧ W.cell? ⟨ky, 3, none⟩ = some (.int .i64 b') ∧ W.cell? ⟨ky, 4, none⟩ = some (.int .i64 nx') ∧ W.cell? ⟨ky, 5, none⟩ = some (.slice ma' mn' mc') ∧ W.cell? ⟨ky, 6, none⟩ = some (.slice ga' gn' gc')))) (by kernel_rfl) (K0.out) (fun hHeld => ?_)
         obtain ⟨WA, hWA⟩ : ∃ WA, W9.drew = WA := ⟨_, rfl⟩
         rw [hWA] at hHeld R0 END
         rw [hWA]
         clear hWA K0
         refine tk 0 ?_
         refine tk 1 ?_
         clear hHeld
         refine ry 2 (fun K hK => ?_)
         have c0 := R0.out.cells
         have f0 := R0.out.loose
         go_simp
         clear c0 f0
         obtain ⟨x1, y1, z1, NXT⟩ := END.out _ rfl
         have R1 := hid z1
         have NX := hid NXT
         have K1 := hid (And.intro x1.cells y1.cells)
         clear x1 y1 z1 NXT
         unfold set7 at R1 NX K1
         refine hK.out _ _ (K1.out) (fun hHeld => ?_)
         clear hK K
         try simp only [Act.put, tp2, tp3, tp4]
         clear hHeld
         refine ry 3 (fun K hK => ?_)
         have c0 := R1.out.cells
         have f0 := R1.out.loose
         go_simp
         clear c0 f0
         obtain ⟨x1, y1, z1, z2, FIN⟩ := NX.out _ rfl
         have K2 := hid (And.intro x1.cells y1.cells)
         have D1 := hid z1.cells
         have D2 := hid z2.cells
         have FN := hid FIN
         clear x1 y1 z1 z2 FIN
         unfold set7 at K2 D1 D2 FN
         refine hK.out _ _ (K2.out) (fun hHeld => ?_)
         clear hK K
         try simp only [Act.put, tp2, tp3, tp4]
         refine wpAnyH_done (by kernel_rfl) ?_ _
         refine NoPanic.normal ?_
         have d1 := D1.out
         have d2 := D2.out
         go_wp2
         refine bodyPost_ret (v := .tuple #[.agg #[.int .i64 7, .string nm, .int .i64 t, .int .i64 b, .int .i64 nx, .slice ma mn mc, .slice ga gn gc], .agg #[.int .i64 7, .string nm', .int .i64 t', .int .i64 b', .int .i64 nx', .slice ma' mn' mc', .slice ga' gn' gc']]) (by simp [results, Tryz.results36, go_sem, d1, d2]) rfl (FN.out _ rfl)
end Go.Proofs.YtmpcmllfgogegaaGreat
