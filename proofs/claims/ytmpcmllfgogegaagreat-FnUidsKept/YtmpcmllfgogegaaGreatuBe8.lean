/- Be8. -/

import Derived.Test.YtmpcmllfgogegaaGreatuBd8
namespace Go.Proofs.YtmpcmllfgogegaaGreat
open Go.RowKit Go.ChangeMaps
theorem nx8 {g : Int} {nm : ByteArray} {t b nx : Int} {L : List M4} {G : List Int} (h : bxOk g nm t b nx L G = true) : 0 ≤ nx ∧ nx ≤ 10000 := by
 unfold bxOk at h
 simp only [Bool.and_eq_true, decide_eq_true_eq] at h
 have := h.2.2.2.1
 omega
def Any8 (cb : Nat) (ao : Option Addr) (n cap : Nat) (w : World) (e : Ending) (w' : World) : Prop :=
 ∃ (g : Int) (nm : ByteArray) (t b nx : Int) (ma : Option Addr) (mn mc : Nat) (ga : Option Addr) (gn gc : Nat) (L : List M4) (G : List Int) (hi : Nat), e = .returned (.agg #[.int .i64 g, .string nm, .int .i64 t, .int .i64 b, .int .i64 nx, .slice ma mn mc, .slice ga gn gc]) ∧ (0 ≤ nx ∧ nx ≤ 10000) ∧ Bg w' (w.heap.size + 1) hi nm ma mn mc ga gn gc L G ∧ Cur w' cb ao n cap ∧ w.grownBy w' (some cb)
theorem any8_end {w W : World} {cb : Nat} {ao : Option Addr} {n cap kb hi : Nat} {g : Int} {nm : ByteArray} {t b nx : Int} {ma : Option Addr} {mn mc : Nat} {ga : Option Addr} {gn gc : Nat} {L : List M4} {G : List Int} {a : Act} (h : As w W cb ao n cap kb hi g nm t b nx ma mn mc ga gn gc L G) (hx : 0 ≤ nx ∧ nx ≤ 10000)
  (hres : ∀ W', W' = (((((((W.setCell ⟨w.heap.size, 0, none⟩ (.int .i64 g)).setCell ⟨w.heap.size, 1, none⟩ (.string nm)).setCell ⟨w.heap.size, 2, none⟩ (.int .i64 t)).setCell ⟨w.heap.size, 3, none⟩ (.int .i64 b)).setCell ⟨w.heap.size, 4, none⟩ (.int .i64 nx)).setCell ⟨w.heap.size, 5, none⟩ (.slice ma mn mc)).setCell ⟨w.heap.size, 6, none⟩ (.slice ga gn gc)) → (W'.cell? ⟨w.heap.size, 0, none⟩ = some (.int .i64 g) ∧ W'.cell? ⟨w.heap.size, 1, none⟩ = some (.string nm) ∧ W'.cell? ⟨w.heap.size, 2, none⟩ = some (.int .i64 t) ∧ W'.cell? ⟨w.heap.size, 3, none⟩ = some (.int .i64 b) ∧ W'.cell? ⟨w.heap.size, 4, none⟩ = some (.int .i64 nx) ∧ W'.cell? ⟨w.heap.size, 5, none⟩ = some (.slice ma mn mc) ∧ W'.cell? ⟨w.heap.size, 6, none⟩ = some (.slice ga gn gc)) → (results Tryz.f107 a.tmps).run Tryz.prog W' = .ok (.agg #[.int .i64 g, .string nm, .int .i64 t, .int .i64 b, .int .i64 nx, .slice ma mn mc, .slice ga gn gc]) W') (hdef : a.defers = [] := by rfl) :
  bodyPost Tryz.prog Tryz.f107 (fun e w' => Any8 cb ao n cap w e w') Exit.ret a (((((((W.setCell ⟨w.heap.size, 0, none⟩ (.int .i64 g)).setCell ⟨w.heap.size, 1, none⟩ (.string nm)).setCell ⟨w.heap.size, 2, none⟩ (.int .i64 t)).setCell ⟨w.heap.size, 3, none⟩ (.int .i64 b)).setCell ⟨w.heap.size, 4, none⟩ (.int .i64 nx)).setCell ⟨w.heap.size, 5, none⟩ (.slice ma mn mc)).setCell ⟨w.heap.size, 6, none⟩ (.slice ga gn gc)) := by
 have h1 := h.lo
 have h2 := h.hi
 have e2 := set7_grown W w.heap.size g nm t b nx (.slice ma mn mc) (.slice ga gn gc)
 have d1 := (h.res.set7 g nm t b nx (.slice ma mn mc) (.slice ga gn gc)).cells
 unfold set7 at d1 e2
 exact bodyPost_ret (hres _ rfl d1) hdef ⟨g, nm, t, b, nx, ma, mn, mc, ga, gn, gc, L, G, hi, rfl, hx, h.bg.far e2 (.inl (Nat.lt_succ_self _)), h.cur.grownr e2 (fun e => by simp only [Option.some.injEq] at e; omega), gr_new h.gr e2 (fun j e => by simp only [Option.some.injEq] at e; omega)⟩
set_option maxHeartbeats 16000000 in
set_option maxRecDepth 100000 in
theorem l06Any_any (cb : Nat) (ao : Option Addr) (n cap : Nat) (w : World) (hn : n ≤ 1048576) (hcur : Cur w cb ao n cap) (hcode : Code w cb ao n) :
  Calls Tryz.prog 107 #[.pointer (some ⟨cb, 0, none⟩)] w fun e w' => Any8 cb ao n cap w e w' := by
 have hlt := hcur.lt
 have R0 := hid (Bx.new w 29 0 ⟨#[]⟩ 0 0 0 (.slice none 0 0) (.slice none 0 0))
 have C0 := hid (hcur.alloc (.cells #[.int .i64 0, .string ⟨#[]⟩, .int .i64 0, .int .i64 0, .int .i64 0, .slice none 0 0, .slice none 0 0] 29))
 have HO := hid hcode
 have G0 := hid (World.grownBy_alloc w (.cells #[.int .i64 0, .string ⟨#[]⟩, .int .i64 0, .int .i64 0, .int .i64 0, .slice none 0 0, .slice none 0 0] 29) (some cb))
 clear hcur hcode
 go_enter Tryz.func107, Tryz.ntmps107
 go_wp2_with fail
 refine (below4 cb ao n cap _ hn C0.out (HO.out.later G0.out) 14 (by decide) (by decide)).mono ?_; rintro e w1 ⟨k, hk, rfl, hc, hg⟩
 have C1 := hid hc
 have G1 := hid (only_trans G0.out hg)
 have R1 := hid (R0.out.far hg (by omega))
 clear hc hg R0 C0 G0
 go_wp2_with fail
 refine (below4 cb ao n cap _ hn C1.out (HO.out.later G1.out) 60 (by decide) (by decide)).mono ?_; rintro e w2 ⟨x, hx, rfl, hc, hg⟩
 have C2 := hid hc
 have G2 := hid (only_trans G1.out hg)
 have R2 := hid (R1.out.far hg (by omega))
 have HXX := hid hx
 clear hc hg R1 C1 G1
 go_wp2_with fail
 refine (l06Box_any cb ao n cap _ hn C2.out (HO.out.later G2.out)).mono ?_; rintro e w3 ⟨nm, t, b, nx, ma, mn, mc, ga, gn, gc, L, G, rfl, hd, ho, hc, hg⟩
 have C3 := hid hc
 have G3 := hid (only_trans G2.out hg)
 have R3 := hid (R2.out.far hg (by omega))
 obtain ⟨r1, r2, r3, r4⟩ := ho.reads
 obtain ⟨s1, s2, s3, s4⟩ := hd.sm
 have HR3 := hid r3
 have HR4 := hid r4
 have HG0 := hid ho.none.2
 have HSM := hid s3
 have HNZ := hid s4
 have HL := hid r1
 have HGL := hid r2
 have HMN : Hid (mn ≤ 10) := by show _ ≤ _; omega
 have HGN : Hid (gn ≤ 40) := by show _ ≤ _; omega
 have HNX := hid (nx8 hd.right)
 clear hc hg R2 C2 G2 ho hd r1 r2 r3 r4 s1 s2 s3 s4 hx
 go_wp2_with fail
 refine (l06Copy_any _ _ _ _ 7 nm t b nx ma mn mc ga gn gc L G _ HL.out.symm (by have := HMN.out; omega) HSM.out HR3.out HGL.out.symm (by have := HGN.out; omega) HR4.out HG0.out).mono ?_; rintro e w4 ⟨mv, gv, rfl, ho4, hb4⟩
 obtain ⟨a, c, a', c', hv1, hv2⟩ := ho4.shape
 rw [← HL.out] at hv1
 rw [← HGL.out] at hv2
 subst hv1
 subst hv2
 obtain ⟨B, hB⟩ : ∃ B, w3.heap.size = B := ⟨_, rfl⟩
 rw [hB] at ho4
 have HBB : Hid (w.heap.size < B) := by rw [← hB]; exact R3.out.lt
 have HB4 : Hid (B ≤ w4.heap.size) := by rw [← hB]; exact hb4.size
 have HN0 := hid ho4.none
 have hrd := ho4.reads
 have HRD1 := hid hrd.2.2.1
 have HRD2 := hid hrd.2.2.2
 obtain ⟨Z, hZ, hz4, hi4, hdj, hdz⟩ := ho4
 have HZ := hid hZ
 have HZ4 := hid hz4
 have HI4 := hid hi4
 have HDJ := hid hdj
 have HDZ := hid hdz
 have HZL : Hid (Z.length = mn) := hz4.ms.1.symm
 obtain ⟨kb, hkb⟩ : ∃ kb, w4.heap.size = kb := ⟨_, rfl⟩
 have HK4 := hid hkb
 obtain ⟨W4, hW4⟩ : ∃ W4, w4.alloc (.cells #[.int .i64 7, .string nm, .int .i64 t, .int .i64 b, .int .i64 nx, .slice a mn c, .slice a' gn c'] 29) = W4 := ⟨_, rfl⟩
 have HW5 : Hid (w4.grownBy W4 (some cb)) := by rw [← hW4]; exact World.grownBy_alloc _ _ _
 have T4 : Hid (As w W4 cb ao n cap kb kb 7 nm t b nx a mn c a' gn c' L G) := by
  have h1 := HBB.out
  have h2 := HB4.out
  rw [hkb] at h2
  refine ⟨?_, ?_, ?_, ?_, ?_, by omega, hlt⟩
  ·rw [← hW4]; exact (R3.out.later hb4).later (bpush (bre _) _)
  ·rw [← hW4, ← hkb]; exact Bx.new _ _ _ _ _ _ _ _ _
  ·rw [← hW4, ← hkb]
   refine Bg.later ⟨?_, HL.out.symm, ?_, HSM.out, HRD1.out.wide (by omega) (Nat.le_refl _) (Nat.le_refl _), HN0.out.1, HGL.out.symm, ?_, HRD2.out.wide (by omega) (Nat.le_refl _) (Nat.le_refl _), HN0.out.2⟩ (bpush (bre _) _)
   ·have := HNZ.out; omega
   ·have := HMN.out; omega
   ·have := HGN.out; omega
  ·rw [← hW4]; exact (C3.out.later hb4 C3.out.lt).alloc _
  ·rw [← hW4]; exact gal (only_add G3.out (hb4.mono G3.out.size)) _
 clear hb4 hrd hZ hz4 hi4 hdj hdz R3 C3 G3 hB HR3 HR4 HG0
 have hne : ¬ kb = w.heap.size := by have := T4.out.lo; omega
 have hne' : ¬ w.heap.size = kb := by have := T4.out.lo; omega
 have q0 := T4.out.box.cells
 have f0 := T4.out.box.loose
 have q1 := T4.out.res.cells
 have f1 := T4.out.res.loose
 have k0 : k = 0 ∨ k = 1 ∨ k = 2 ∨ k = 3 ∨ k = 4 ∨ k = 5 ∨ 6 ≤ k := by omega
 clear hk
 rcases k0 with rfl | rfl | rfl | rfl | rfl | rfl | k6
 ·go_wp2
  exact any8_end (T4.out.turn (Nat.le_refl _) only_set (T4.out.box.s0 _) T4.out.bg.nmz) HNX.out (fun W' _ d => by simp [results, Tryz.results107, go_sem, d])
 ·have h3 : (x : Int).tmod 3 = 0 ∨ (x : Int).tmod 3 = 1 ∨ (x : Int).tmod 3 = 2 := tmod3 x
  rcases h3 with h3 | h3 | h3
  ·have T5 := hid (T4.out.later (bpush (bre _) (.cells #[.string ⟨#[]⟩, .string ⟨#[65]⟩, .string ⟨#[116, 104, 105, 114, 116, 101, 101, 110, 115, 105, 103, 110, 115]⟩] 9)))
   have T6 := hid (T5.out.turn (Nat.le_refl _) only_set (T5.out.box.s1 ⟨#[]⟩) (by decide))
   have cM := T5.out.box.cells
   have fM := T5.out.box.loose
   have rM := T5.out.res.cells
   have gM := T5.out.res.loose
   go_wp2
   exact any8_end T6.out HNX.out (fun W' _ d => by simp [results, Tryz.results107, go_sem, d])
  ·have T5 := hid (T4.out.later (bpush (bre _) (.cells #[.string ⟨#[]⟩, .string ⟨#[65]⟩, .string ⟨#[116, 104, 105, 114, 116, 101, 101, 110, 115, 105, 103, 110, 115]⟩] 9)))
   have T6 := hid (T5.out.turn (Nat.le_refl _) only_set (T5.out.box.s1 ⟨#[65]⟩) (by decide))
   have cM := T5.out.box.cells
   have fM := T5.out.box.loose
   have rM := T5.out.res.cells
   have gM := T5.out.res.loose
   go_wp2
   exact any8_end T6.out HNX.out (fun W' _ d => by simp [results, Tryz.results107, go_sem, d])
  ·have T5 := hid (T4.out.later (bpush (bre _) (.cells #[.string ⟨#[]⟩, .string ⟨#[65]⟩, .string ⟨#[116, 104, 105, 114, 116, 101, 101, 110, 115, 105, 103, 110, 115]⟩] 9)))
   have T6 := hid (T5.out.turn (Nat.le_refl _) only_set (T5.out.box.s1 ⟨#[116, 104, 105, 114, 116, 101, 101, 110, 115, 105, 103, 110, 115]⟩) (by decide))
   have cM := T5.out.box.cells
   have fM := T5.out.box.loose
   have rM := T5.out.res.cells
   have gM := T5.out.res.loose
   go_wp2
   exact any8_end T6.out HNX.out (fun W' _ d => by simp [results, Tryz.results107, go_sem, d])
 ·go_wp2
  exact any8_end (T4.out.turn (Nat.le_refl _) only_set (T4.out.box.s4 _) T4.out.bg.nmz) (by omega) (fun W' _ d => by simp [results, Tryz.results107, go_sem, d])
 ·clear q0 f0 q1 f1
  go_wp2_with fail
  try rw [hkb]
  try rw [hW4]
  clear hW4 hkb
  have T5 := hid T4.out.drew
  have HW5d : Hid (w4.grownBy W4.drew (some cb)) := gdr HW5.out
  have HLO : Hid (kb < W4.heap.size + 1) := by have := T4.out.box.lt; show _ < _; omega
  clear T4 HW5
  refine wp_region_noPanic ?_
  refine wp_region_held_drew (S := (fun _ => True)) (by kernel_rfl) (trivial) (fun hHeld => ?_)
  refine tk 0 ?_
  refine tk 2 ?_
  clear hHeld
  refine wpAnyH_ready (rs := [1, 3]) (by kernel_rfl) (by simp) ?_
  refine rc (fun K hK => ?_) ?_
  ·have z0 := T5.out.box.cells
   go_simp
   clear z0
   refine hK.out _ _ (trivial) (fun hHeld => ?_)
   clear hK K
   try simp only [Act.put, tp2, tp3, tp4]
   clear hHeld
   refine ry 3 (fun K hK => ?_)
   go_simp
   refine (l05Any_any cb ao n cap _ hn T5.out.cur (HO.out.later T5.out.gr)).mono ?_
   rintro e w6 ⟨g5, u5, f5, l5, t5, rfl, hd5, ht5, hc5, hg5⟩
   obtain ⟨a5, c5, rfl, p1, p2, p3, p4, p5⟩ := hd5
   have D6 : Hid (Dl w6 (W4.heap.size + 1) (.slice a5 l5.length c5) l5) := ⟨a5, c5, rfl, p1, p2, p3, p4, p5⟩
   have T6 := hid (T5.out.draw hg5 hc5)
   have HW6 := hid (only_trans HW5d.out hg5)
   have HT5 := hid ht5
   clear hc5 hg5 ht5 p1 p2 p3 p4 p5
   go_wp2_with fail
   refine hK.out _ _ (trivial) (fun hHeld => ?_)
   clear hK K
   try simp only [Act.put, tp2, tp3, tp4]
   clear hHeld
   refine ry 4 (fun K hK => ?_)
   go_simp
   refine hK.out _ _ (trivial) (fun hHeld => ?_)
   clear hK K
   try simp only [Act.put, tp2, tp3, tp4]
   clear hHeld
   refine ry 5 (fun K hK => ?_)
   refine step_append_mg rfl (.tmp 35) (.tmp 38) rfl B _ Z (by rfl) ((g5, u5, .slice a5 l5.length c5, l5, t5) : Z5) (HZ4.out.grown HW6.out (by have h1 := HBB.out; have h2 := T6.out.hi; omega)).row ⟨_, _, _, rfl⟩ (by rfl) (by have h1 := HZL.out; have h2 := HMN.out; omega) (by have h1 := HB4.out; have h2 := T6.out.box.lt; have h3 := HK4.out; omega) ?_
   intro v7 w7 hrow7 hg7 hl7
   obtain ⟨a7, n7, c7, rfl⟩ := row_slice hrow7
   have T8 := hid (As.more (z := ((g5, u5, .slice a5 l5.length c5, l5, t5) : Z5)) T6.out HK4.out HW6.out HZ.out HZ4.out HI4.out HDJ.out HBB.out D6.out HLO.out HT5.out HMN.out hrow7 hg7 hl7)
   have hb7 : Bx w7 kb 29 7 nm t b nx (.slice a mn c) (.slice a' gn c') := ((T6.out.later (bpush (bre _) (.cells #[.int .i64 g5, .int .i64 u5, .slice a5 l5.length c5, .string t5] 37))).box).grown hg7 (fun e => by have h1 := (HZ4.out.row.lt kb e.symm).2; have h2 := HK4.out; omega)
   have z7 := hb7.cells
   have y7 := hb7.loose
   clear hb7 hrow7 hg7 hl7
   refine hK.out _ _ (trivial) (fun hHeld => ?_)
   clear hK K
   try simp only [Act.put, tp2, tp3, tp4]
   refine tk 6 ?_
   clear hHeld
   refine ry 7 (fun K hK => ?_)
   go_simp
   clear z7 y7
   refine hK.out _ _ (trivial) (fun hHeld => ?_)
   clear hK K
   try simp only [Act.put, tp2, tp3, tp4]
   refine wpAnyH_done (by kernel_rfl) ?_ _
   refine NoPanic.normal ?_
   have q0 := T8.out.box.cells
   have q1 := T8.out.res.cells
   have f1 := T8.out.res.loose
   go_wp2
   exact any8_end T8.out HNX.out (fun W' _ d => by simp [results, Tryz.results107, go_sem, d])
  refine rl (fun K hK => ?_)
  go_simp
  refine (l05Any_any cb ao n cap _ hn T5.out.cur (HO.out.later T5.out.gr)).mono ?_
  rintro e w6 ⟨g5, u5, f5, l5, t5, rfl, hd5, ht5, hc5, hg5⟩
  obtain ⟨a5, c5, rfl, p1, p2, p3, p4, p5⟩ := hd5
  have D6 : Hid (Dl w6 (W4.heap.size + 1) (.slice a5 l5.length c5) l5) := ⟨a5, c5, rfl, p1, p2, p3, p4, p5⟩
  have T6 := hid (T5.out.draw hg5 hc5)
  have HW6 := hid (only_trans HW5d.out hg5)
  have HT5 := hid ht5
  clear hc5 hg5 ht5 p1 p2 p3 p4 p5
  go_wp2_with fail
  refine hK.out _ _ (trivial) (fun hHeld => ?_)
  clear hK K
  try simp only [Act.put, tp2, tp3, tp4]
  clear hHeld
  refine wpAnyH_ready (rs := [1, 4]) (by kernel_rfl) (by simp) ?_
  refine rc (fun K hK => ?_) ?_
  ·have z0 := T6.out.box.cells
   go_simp
   clear z0
   refine hK.out _ _ (trivial) (fun hHeld => ?_)
   clear hK K
   try simp only [Act.put, tp2, tp3, tp4]
   clear hHeld
   refine ry 4 (fun K hK => ?_)
   go_simp
   refine hK.out _ _ (trivial) (fun hHeld => ?_)
   clear hK K
   try simp only [Act.put, tp2, tp3, tp4]
   clear hHeld
   refine ry 5 (fun K hK => ?_)
   refine step_append_mg rfl (.tmp 35) (.tmp 38) rfl B _ Z (by rfl) ((g5, u5, .slice a5 l5.length c5, l5, t5) : Z5) (HZ4.out.grown HW6.out (by have h1 := HBB.out; have h2 := T6.out.hi; omega)).row ⟨_, _, _, rfl⟩ (by rfl) (by have h1 := HZL.out; have h2 := HMN.out; omega) (by have h1 := HB4.out; have h2 := T6.out.box.lt; have h3 := HK4.out; omega) ?_
   intro v7 w7 hrow7 hg7 hl7
   obtain ⟨a7, n7, c7, rfl⟩ := row_slice hrow7
   have T8 := hid (As.more (z := ((g5, u5, .slice a5 l5.length c5, l5, t5) : Z5)) T6.out HK4.out HW6.out HZ.out HZ4.out HI4.out HDJ.out HBB.out D6.out HLO.out HT5.out HMN.out hrow7 hg7 hl7)
   have hb7 : Bx w7 kb 29 7 nm t b nx (.slice a mn c) (.slice a' gn c') := ((T6.out.later (bpush (bre _) (.cells #[.int .i64 g5, .int .i64 u5, .slice a5 l5.length c5, .string t5] 37))).box).grown hg7 (fun e => by have h1 := (HZ4.out.row.lt kb e.symm).2; have h2 := HK4.out; omega)
   have z7 := hb7.cells
   have y7 := hb7.loose
   clear hb7 hrow7 hg7 hl7
   refine hK.out _ _ (trivial) (fun hHeld => ?_)
   clear hK K
   try simp only [Act.put, tp2, tp3, tp4]
   refine tk 6 ?_
   clear hHeld
   refine ry 7 (fun K hK => ?_)
   go_simp
   clear z7 y7
   refine hK.out _ _ (trivial) (fun hHeld => ?_)
   clear hK K
   try simp only [Act.put, tp2, tp3, tp4]
   refine wpAnyH_done (by kernel_rfl) ?_ _
   refine NoPanic.normal ?_
   have q0 := T8.out.box.cells
   have q1 := T8.out.res.cells
   have f1 := T8.out.res.loose
   go_wp2
   exact any8_end T8.out HNX.out (fun W' _ d => by simp [results, Tryz.results107, go_sem, d])
  refine rl (fun K hK => ?_)
  go_simp
  refine hK.out _ _ (trivial) (fun hHeld => ?_)
  clear hK K
  try simp only [Act.put, tp2, tp3, tp4]
  clear hHeld
  refine ry 1 (fun K hK => ?_)
  have z0 := (T6.out.later (bpush (bre _) (.cells #[.int .i64 g5, .int .i64 u5, .slice a5 l5.length c5, .string t5] 37))).box.cells
  go_simp
  clear z0
  refine hK.out _ _ (trivial) (fun hHeld => ?_)
  clear hK K
  try simp only [Act.put, tp2, tp3, tp4]
  clear hHeld
  refine ry 5 (fun K hK => ?_)
  refine step_append_mg rfl (.tmp 35) (.tmp 38) rfl B _ Z (by rfl) ((g5, u5, .slice a5 l5.length c5, l5, t5) : Z5) (HZ4.out.grown HW6.out (by have h1 := HBB.out; have h2 := T6.out.hi; omega)).row ⟨_, _, _, rfl⟩ (by rfl) (by have h1 := HZL.out; have h2 := HMN.out; omega) (by have h1 := HB4.out; have h2 := T6.out.box.lt; have h3 := HK4.out; omega) ?_
  intro v7 w7 hrow7 hg7 hl7
  obtain ⟨a7, n7, c7, rfl⟩ := row_slice hrow7
  have T8 := hid (As.more (z := ((g5, u5, .slice a5 l5.length c5, l5, t5) : Z5)) T6.out HK4.out HW6.out HZ.out HZ4.out HI4.out HDJ.out HBB.out D6.out HLO.out HT5.out HMN.out hrow7 hg7 hl7)
  have hb7 : Bx w7 kb 29 7 nm t b nx (.slice a mn c) (.slice a' gn c') := ((T6.out.later (bpush (bre _) (.cells #[.int .i64 g5, .int .i64 u5, .slice a5 l5.length c5, .string t5] 37))).box).grown hg7 (fun e => by have h1 := (HZ4.out.row.lt kb e.symm).2; have h2 := HK4.out; omega)
  have z7 := hb7.cells
  have y7 := hb7.loose
  clear hb7 hrow7 hg7 hl7
  refine hK.out _ _ (trivial) (fun hHeld => ?_)
  clear hK K
  try simp only [Act.put, tp2, tp3, tp4]
  refine tk 6 ?_
  clear hHeld
  refine ry 7 (fun K hK => ?_)
  go_simp
  clear z7 y7
  refine hK.out _ _ (trivial) (fun hHeld => ?_)
  clear hK K
  try simp only [Act.put, tp2, tp3, tp4]
  refine wpAnyH_done (by kernel_rfl) ?_ _
  refine NoPanic.normal ?_
  have q0 := T8.out.box.cells
  have q1 := T8.out.res.cells
  have f1 := T8.out.res.loose
  go_wp2
  exact any8_end T8.out HNX.out (fun W' _ d => by simp [results, Tryz.results107, go_sem, d])
 ·have HOI : Hid (OwI W4 B (.slice a' gn c') G) := OwI.grown HI4.out HW5.out (by have := HBB.out; omega)
  have hsz4 : B ≤ W4.heap.size := Nat.le_trans HB4.out HW5.out.size
  go_wp2_with (at_builtin; refine wpList_append_ig W4 rfl (.tmp 44) (.tmp 46) rfl B _ G (by rfl) HOI.out (x : Int) (by rfl) (by have h1 := HGN.out; have h2 := HGL.out; omega) hsz4 ?_; intro v7 w7 hrow7 hg7 hl7; obtain ⟨a7, n7, c7, rfl⟩ := row_slice hrow7; have T8 := hid (As.moreG T4.out HK4.out HW5.out HZ.out HZ4.out HI4.out HDJ.out HDZ.out HBB.out HGN.out hrow7 hg7 hl7); have hb7 : Bx w7 kb 29 7 nm t b nx (.slice a mn c) (.slice a' gn c') := ((T4.out.later (bpush (bre _) _)).box).grown hg7 (fun e => by have h1 := (HI4.out.lt kb e.symm).2; have h2 := HK4.out; omega); have hr7 : Bx w7 w.heap.size 29 0 ⟨#[]⟩ 0 0 0 (.slice none 0 0) (.slice none 0 0) := ((T4.out.later (bpush (bre _) _)).res).grown hg7 (fun e => by have h1 := (HI4.out.lt w.heap.size e.symm).1; have h2 := HBB.out; omega); have z7 := hb7.cells; have y7 := hb7.loose; have r7 := hr7.cells; have s7 := hr7.loose; clear hb7 hr7 hrow7 hg7 hl7)
  exact any8_end T8.out HNX.out (fun W' _ d => by simp [results, Tryz.results107, go_sem, d])
 ·clear q0 f0
  go_wp2_with fail
  try rw [hkb]
  try rw [hW4]
  clear hW4 hkb
  refine (l03Any_any cb ao n cap _ hn T4.out.cur (HO.out.later T4.out.gr)).mono ?_; rintro e w5 ⟨t5, b5, rfl, hc, hg⟩
  have T5 := hid (T4.out.draw hg hc)
  have q0 := T5.out.box.cells
  have f0 := T5.out.box.loose
  have q1 := T5.out.res.cells
  have f1 := T5.out.res.loose
  clear hc hg
  go_wp2
  have hs : w5.grownBy ((w5.setCell ⟨kb, 2, none⟩ (.int .i64 t5)).setCell ⟨kb, 3, none⟩ (.int .i64 b5)) (some kb) := wst (wst (wre _ _) _ _) _ _
  exact any8_end (T5.out.turn (Nat.le_refl _) hs ((T5.out.box.s2 t5).s3 b5) T5.out.bg.nmz) HNX.out (fun W' _ d => by simp [results, Tryz.results107, go_sem, d])
 ·have e0 : ((k : Int) == 0) = false := by simp; omega
  have e1 : ((k : Int) == 1) = false := by simp; omega
  have e2 : ((k : Int) == 2) = false := by simp; omega
  have e3 : ((k : Int) == 3) = false := by simp; omega
  have e4 : ((k : Int) == 4) = false := by simp; omega
  have e5 : ((k : Int) == 5) = false := by simp; omega
  clear k6
  go_wp2
  exact any8_end T4.out HNX.out (fun W' _ d => by simp [results, Tryz.results107, go_sem, d])
end Go.Proofs.YtmpcmllfgogegaaGreat
