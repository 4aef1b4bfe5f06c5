/- Pa8. -/

import Derived.Test.YtmpcmllfgogegaaGreatuBe8
namespace Go.Proofs.YtmpcmllfgogegaaGreat
open Go.RowKit Go.ChangeMaps
theorem BzL.off {W W' : World} {lo k : Nat} {ma : Option Addr} {mn mc : Nat} {ga : Option Addr} {gn gc : Nat} {L : List M4} {G : List Int} (h : BzL W lo ma mn mc ga gn gc L G) (hg : W.grownBy W' (some k)) (hk : k < lo) : BzL W' lo ma mn mc ga gn gc L G := by
 obtain ⟨h1, hm⟩ := h.mlo
 obtain ⟨h2, hi⟩ := h.glo
 have hkeep : ∀ hh, hh ≤ W.heap.size → ∀ j, lo ≤ j → j < hh → W'.heap[j]? = W.heap[j]? := fun hh hs j h1 h2 => hg.block j (by omega) (fun e => by simp only [Option.some.injEq] at e; omega)
 exact ⟨h.far hg hk, ⟨_, hm.same (Nat.le_trans hm.1 hg.size) (hkeep _ hm.1)⟩, ⟨_, hi.same (Nat.le_trans hi.1 hg.size) (hkeep _ hi.1)⟩⟩
theorem BzL.later {W W' : World} {lo : Nat} {ma : Option Addr} {mn mc : Nat} {ga : Option Addr} {gn gc : Nat} {L : List M4} {G : List Int} (h : BzL W lo ma mn mc ga gn gc L G) (hb : Below W.heap.size W W') : BzL W' lo ma mn mc ga gn gc L G := by
 obtain ⟨h1, hm⟩ := h.mlo
 obtain ⟨h2, hi⟩ := h.glo
 exact ⟨h.bz.later hb, ⟨_, hm.later hb⟩, ⟨_, hi.later hb⟩⟩
theorem BzL.base {W : World} {lo lo' : Nat} {ma : Option Addr} {mn mc : Nat} {ga : Option Addr} {gn gc : Nat} {L : List M4} {G : List Int} (h : BzL W lo ma mn mc ga gn gc L G) (hl : lo' ≤ lo) : BzL W lo' ma mn mc ga gn gc L G := by
 obtain ⟨h1, hm⟩ := h.mlo
 obtain ⟨h2, hi⟩ := h.glo
 exact ⟨h.bz, ⟨_, hm.wide hl (Nat.le_refl _) hm.1⟩, ⟨_, hi.wide hl (Nat.le_refl _) hi.1⟩⟩
theorem Bg.bzl {W : World} {lo hi : Nat} {nm : ByteArray} {ma : Option Addr} {mn mc : Nat} {ga : Option Addr} {gn gc : Nat} {L : List M4} {G : List Int} (h : Bg W lo hi nm ma mn mc ga gn gc L G) : BzL W lo ma mn mc ga gn gc L G :=
 ⟨⟨h.len, Nat.le_trans h.most (by decide), h.sm, ⟨_, _, h.mails⟩, h.m0, h.glen, Nat.le_trans h.gmost (by decide), ⟨_, _, h.gone⟩, h.g0⟩, ⟨_, h.mails⟩, ⟨_, h.gone⟩⟩
theorem Bg.gd {W : World} {lo hi : Nat} {nm : ByteArray} {nx : Int} {ma : Option Addr} {mn mc : Nat} {ga : Option Addr} {gn gc : Nat} {L : List M4} {G : List Int} (h : Bg W lo hi nm ma mn mc ga gn gc L G) (hx : 0 ≤ nx ∧ nx ≤ 10000) : Gd nm nx mn gn L G :=
 ⟨Nat.le_trans h.nmz (by decide), by omega, h.len, Nat.le_trans h.most (by decide), h.sm, h.glen, Nat.le_trans h.gmost (by decide)⟩
theorem ok8_bzl {W : World} {B : Nat} {nm1 : ByteArray} {t1 b1 nx1 : Int} {ma1 : Option Addr} {mn1 mc1 : Nat} {ga1 : Option Addr} {gn1 gc1 : Nat} {L1 : List M4} {G1 : List Int} (h : bxOk 7 nm1 t1 b1 nx1 L1 G1 = true) (ho : OwB W B (.slice ma1 mn1 mc1) (.slice ga1 gn1 gc1) L1 G1) : BzL W B ma1 mn1 mc1 ga1 gn1 gc1 L1 G1 := by
 obtain ⟨r1, r2, r3, r4⟩ := ho.reads
 exact ⟨ok8_bz h ho, ⟨_, r3⟩, ⟨_, r4⟩⟩
def Pa8 (w : World) (e : Ending) (w' : World) : Prop :=
 ∃ (g1 : Int) (nm1 : ByteArray) (t1 b1 nx1 : Int) (ma1 : Option Addr) (mn1 mc1 : Nat) (ga1 : Option Addr) (gn1 gc1 : Nat) (L1 : List M4) (G1 : List Int) (g2 : Int) (nm2 : ByteArray) (t2 b2 nx2 : Int) (ma2 : Option Addr) (mn2 mc2 : Nat) (ga2 : Option Addr) (gn2 gc2 : Nat) (L2 : List M4) (G2 : List Int), e = .returned (.tuple #[.agg #[.int .i64 g1, .string nm1, .int .i64 t1, .int .i64 b1, .int .i64 nx1, .slice ma1 mn1 mc1, .slice ga1 gn1 gc1], .agg #[.int .i64 g2, .string nm2, .int .i64 t2, .int .i64 b2, .int .i64 nx2, .slice ma2 mn2 mc2, .slice ga2 gn2 gc2]]) ∧ (Gd nm1 nx1 mn1 gn1 L1 G1 ∧ Gd nm2 nx2 mn2 gn2 L2 G2) ∧ (BzL w' w.heap.size ma1 mn1 mc1 ga1 gn1 gc1 L1 G1 ∧ BzL w' w.heap.size ma2 mn2 mc2 ga2 gn2 gc2 L2 G2) ∧ Below w.heap.size w w'
theorem two_outz {W : World} {B k : Nat} {g1 : Int} {nm1 : ByteArray} {t1 b1 nx1 : Int} {ma1 : Option Addr} {mn1 mc1 : Nat} {ga1 : Option Addr} {gn1 gc1 : Nat} {L1 : List M4} {G1 : List Int} {g2 : Int} {nm2 : ByteArray} {t2 b2 nx2 : Int} {ma2 : Option Addr} {mn2 mc2 : Nat} {ga2 : Option Addr} {gn2 gc2 : Nat} {L2 : List M4} {G2 : List Int} (x0 : Bx W k 29 0 ⟨#[]⟩ 0 0 0 (.slice none 0 0) (.slice none 0 0)) (x1 : Bx W (k + 1) 29 0 ⟨#[]⟩ 0 0 0 (.slice none 0 0) (.slice none 0 0)) (hk : k + 1 < B) (o1 : BzL W B ma1 mn1 mc1 ga1 gn1 gc1 L1 G1) (o2 : BzL W B ma2 mn2 mc2 ga2 gn2 gc2 L2 G2) :
  (∀ W1, set7 W k g1 nm1 t1 b1 nx1 (.slice ma1 mn1 mc1) (.slice ga1 gn1 gc1) = W1 → Bx W1 (k + 1) 29 0 ⟨#[]⟩ 0 0 0 (.slice none 0 0) (.slice none 0 0) ∧ ∀ W2, set7 W1 (k + 1) g2 nm2 t2 b2 nx2 (.slice ma2 mn2 mc2) (.slice ga2 gn2 gc2) = W2 → Bx W2 k 29 g1 nm1 t1 b1 nx1 (.slice ma1 mn1 mc1) (.slice ga1 gn1 gc1) ∧ Bx W2 (k + 1) 29 g2 nm2 t2 b2 nx2 (.slice ma2 mn2 mc2) (.slice ga2 gn2 gc2) ∧ BzL W2 B ma1 mn1 mc1 ga1 gn1 gc1 L1 G1 ∧ BzL W2 B ma2 mn2 mc2 ga2 gn2 gc2 L2 G2 ∧ W.grownBy W1 (some k) ∧ W1.grownBy W2 (some (k + 1))) := by
 rintro W1 hW1
 have g1' := set7_grown W k g1 nm1 t1 b1 nx1 (.slice ma1 mn1 mc1) (.slice ga1 gn1 gc1)
 have a0 := x0.set7 g1 nm1 t1 b1 nx1 (.slice ma1 mn1 mc1) (.slice ga1 gn1 gc1)
 rw [hW1] at g1' a0
 have a1 := x1.gone8 g1' (by omega)
 have p1 := o1.off g1' (by omega)
 have p2 := o2.off g1' (by omega)
 refine ⟨a1, ?_⟩
 rintro W2 hW2
 have g2' := set7_grown W1 (k + 1) g2 nm2 t2 b2 nx2 (.slice ma2 mn2 mc2) (.slice ga2 gn2 gc2)
 have c1 := a1.set7 g2 nm2 t2 b2 nx2 (.slice ma2 mn2 mc2) (.slice ga2 gn2 gc2)
 rw [hW2] at g2' c1
 exact ⟨a0.gone8 g2' (by omega), c1, p1.off g2' (by omega), p2.off g2' (by omega), g1', g2'⟩
set_option maxHeartbeats 1600000 in
set_option maxRecDepth 100000 in
theorem l08Pair_any (ao : Option Addr) (n cap : Nat) (w : World) (hn : n ≤ 1048576) (hcode : Code w w.heap.size ao n) :
  Calls Tryz.prog 54 #[.slice ao n cap] w fun e w' => Pa8 w e w' := by
 have e0 : (w.alloc (.cells #[.int .i64 0, .string ⟨#[]⟩, .int .i64 0, .int .i64 0, .int .i64 0, .slice none 0 0, .slice none 0 0] 29)).heap.size = w.heap.size + 1 := by simp
 have e1 : ((w.alloc (.cells #[.int .i64 0, .string ⟨#[]⟩, .int .i64 0, .int .i64 0, .int .i64 0, .slice none 0 0, .slice none 0 0] 29)).alloc (.cells #[.int .i64 0, .string ⟨#[]⟩, .int .i64 0, .int .i64 0, .int .i64 0, .slice none 0 0, .slice none 0 0] 29)).heap.size = w.heap.size + 1 + 1 := by simp
 have R0 := hid ((Bx.new w 29 0 ⟨#[]⟩ 0 0 0 (.slice none 0 0) (.slice none 0 0)).later (bpush (bre _) (.cells #[.int .i64 0, .string ⟨#[]⟩, .int .i64 0, .int .i64 0, .int .i64 0, .slice none 0 0, .slice none 0 0] 29)))
 have R1 : Hid (Bx ((w.alloc (.cells #[.int .i64 0, .string ⟨#[]⟩, .int .i64 0, .int .i64 0, .int .i64 0, .slice none 0 0, .slice none 0 0] 29)).alloc (.cells #[.int .i64 0, .string ⟨#[]⟩, .int .i64 0, .int .i64 0, .int .i64 0, .slice none 0 0, .slice none 0 0] 29)) (w.heap.size + 1) 29 0 ⟨#[]⟩ 0 0 0 (.slice none 0 0) (.slice none 0 0)) := by rw [← e0]; exact Bx.new _ _ _ _ _ _ _ _ _
 have N0 := hid (bpush (bpush (bre w) (.cells #[.int .i64 0, .string ⟨#[]⟩, .int .i64 0, .int .i64 0, .int .i64 0, .slice none 0 0, .slice none 0 0] 29)) (.cells #[.int .i64 0, .string ⟨#[]⟩, .int .i64 0, .int .i64 0, .int .i64 0, .slice none 0 0, .slice none 0 0] 29))
 have O0 := hid (hcode.over N0.out)
 have HS := hid e1
 clear hcode e0 e1
 go_enter Tryz.func54, Tryz.ntmps54
 go_wp2_with fail
 refine (new_any ao n cap _ hn O0.out).mono ?_; rintro e w2 ⟨rfl, hc, ho, hb⟩
 rw [HS.out] at hc ho ⊢
 have C2 := hid hc
 have O2 := hid ho
 have R02 := hid (R0.out.later hb)
 have R12 := hid (R1.out.later hb)
 have B2 := hid (btr N0.out hb)
 clear hc ho hb R0 R1 N0 O0
 go_wp2_with fail
 refine (below4 (w.heap.size + 1 + 1) ao n cap _ hn C2.out O2.out 6 (by decide) (by decide)).mono ?_; rintro e w3 ⟨k, hk, rfl, hc, hg⟩
 have hlt := C2.out.lt
 have C3 := hid hc
 have O3 := hid (O2.out.later hg)
 have R03 := hid (R02.out.gone8 hg (by omega))
 have R13 := hid (R12.out.gone8 hg (by omega))
 have B3 := hid (B2.out.trans (only_below hg (by omega) B2.out.size))
 clear hc hg R02 R12 B2 C2 O2 hlt HS
 by_cases hk0 : k = 0
 ·subst hk0
  clear hk
  go_wp2_with fail
  refine (l06Any_any (w.heap.size + 1 + 1) ao n cap _ hn C3.out O3.out).mono ?_; rintro e w4 ⟨g1, nm1, t1, b1, nx1, ma1, mn1, mc1, ga1, gn1, gc1, L1, G1, hi1, rfl, hx1, hb1, hc, hg⟩
  have hlt := C3.out.lt
  have C4 := hid (hc.alloc (.cells #[.int .i64 g1, .string nm1, .int .i64 t1, .int .i64 b1, .int .i64 nx1, .slice ma1 mn1 mc1, .slice ga1 gn1 gc1] 29))
  have O4 := hid ((O3.out.later hg).later (World.grownBy_alloc _ (.cells #[.int .i64 g1, .string nm1, .int .i64 t1, .int .i64 b1, .int .i64 nx1, .slice ma1 mn1 mc1, .slice ga1 gn1 gc1] 29) _))
  have r0 := (R03.out.gone8 hg (by omega)).later (bpush (bre _) (.cells #[.int .i64 g1, .string nm1, .int .i64 t1, .int .i64 b1, .int .i64 nx1, .slice ma1 mn1 mc1, .slice ga1 gn1 gc1] 29))
  have r1 := (R13.out.gone8 hg (by omega)).later (bpush (bre _) (.cells #[.int .i64 g1, .string nm1, .int .i64 t1, .int .i64 b1, .int .i64 nx1, .slice ma1 mn1 mc1, .slice ga1 gn1 gc1] 29))
  have b4 := bpush (B3.out.trans (only_below hg (by omega) B3.out.size)) (.cells #[.int .i64 g1, .string nm1, .int .i64 t1, .int .i64 b1, .int .i64 nx1, .slice ma1 mn1 mc1, .slice ga1 gn1 gc1] 29)
  have x1 := Bx.new w4 29 g1 nm1 t1 b1 nx1 (.slice ma1 mn1 mc1) (.slice ga1 gn1 gc1)
  have z1 := (hb1.bzl.base (lo' := w.heap.size + 1 + 1 + 1) (by omega)).later (bpush (bre _) (.cells #[.int .i64 g1, .string nm1, .int .i64 t1, .int .i64 b1, .int .i64 nx1, .slice ma1 mn1 mc1, .slice ga1 gn1 gc1] 29))
  have K1 := hid (hb1.gd hx1)
  have hs4 := hc.lt
  have R0 := hid r0
  have R1 := hid r1
  have B4 := hid b4
  have X0 := hid x1
  have Z0 := hid z1
  clear hx1 hb1 hc hg R03 R13 B3 C3 O3 r0 r1 b4 x1 z1 hlt
  go_wp2_with fail
  obtain ⟨W5, hW5⟩ : ∃ W5, w4.alloc (.cells #[.int .i64 g1, .string nm1, .int .i64 t1, .int .i64 b1, .int .i64 nx1, .slice ma1 mn1 mc1, .slice ga1 gn1 gc1] 29) = W5 := ⟨_, rfl⟩
  have hs5 : W5.heap.size = w4.heap.size + 1 := by rw [← hW5]; simp
  obtain ⟨ka, hka⟩ : ∃ k, w4.heap.size = k := ⟨_, rfl⟩
  rw [hW5] at C4 O4 R0 R1 B4 X0 Z0
  rw [hka] at X0 hs4 hs5
  rw [hW5, hka]
  have C5 := hid C4.out.drew
  have O5 := hid (O4.out.later (gdr (wre _ _)))
  have R05 := hid (R0.out.later (bdr (bre _)))
  have R15 := hid (R1.out.later (bdr (bre _)))
  have B5 := hid (bdr B4.out)
  have X1 := hid (X0.out.later (bdr (bre _)))
  have Z5 := hid (Z0.out.later (bdr (bre _)))
  have L5 : Hid (w.heap.size + 1 + 1 < ka ∧ W5.drew.heap.size = ka + 1) := ⟨hs4, hs5⟩
  clear hW5 hka hs4 hs5 C4 O4 R0 R1 B4 X0 Z0
  refine wp_region_noPanic ?_
  refine wp_region_held_drew (S := (fun _ => True)) (by kernel_rfl) (trivial) (fun hHeld => ?_)
  refine tk 1 ?_
  clear hHeld
  refine wpAnyH_ready (rs := [0, 2]) (by kernel_rfl) (by simp) ?_
  refine rc (fun K hK => ?x1) ?y1
  case' x1 =>
   have q0 := X1.out.cells
   go_simp
   clear q0
   refine hK.out _ _ (trivial) (fun hHeld => ?_)
   clear hK K
   try simp only [Act.put, tp2, tp3, tp4]
   clear hHeld
   refine ry 2 (fun K hK => ?_)
   go_simp
   refine (l06Any_any (w.heap.size + 1 + 1) ao n cap _ hn C5.out O5.out).mono ?_
   rintro e w6 ⟨g2, nm2, t2, b2, nx2, ma2, mn2, mc2, ga2, gn2, gc2, L2, G2, hi2, rfl, hx2, hb2, hc, hg⟩
   have r0 := R05.out.gone8 hg (by omega)
   have r1 := R15.out.gone8 hg (by omega)
   have o1 := Z5.out.off hg (by omega)
   have o2 := (hb2.bzl).base (lo' := w.heap.size + 1 + 1 + 1) (by have := L5.out; omega)
   have TW := hid (two_outz (g1 := g1) (nm1 := nm1) (t1 := t1) (b1 := b1) (nx1 := nx1) (g2 := g2) (nm2 := nm2) (t2 := t2) (b2 := b2) (nx2 := nx2) r0 r1 (by omega) o1 o2)
   have X2 := hid (X1.out.gone8 hg (by have := L5.out; omega))
   have KK := hid (And.intro K1.out (hb2.gd hx2))
   have B3 := hid (B5.out.trans (only_below hg (by omega) B5.out.size))
   have LB : Hid (w.heap.size ≤ w.heap.size + 1 + 1 + 1) := by show _ ≤ _; omega
   have R06 := hid r0
   clear r0 r1 o1 o2 hx2 hb2 hc hg
   go_wp2_with fail
   refine hK.out _ _ (trivial) (fun hHeld => ?_)
   clear hK K
   try simp only [Act.put, tp2, tp3, tp4]
   clear hHeld
   refine ry 3 (fun K hK => ?_)
   have c0 := R06.out.cells
   have f0 := R06.out.loose
   go_simp
   clear c0 f0
   obtain ⟨z1, NXT⟩ := TW.out _ rfl
   have R17 := hid z1
   have NX := hid NXT
   clear z1 NXT
   unfold set7 at R17 NX
   refine hK.out _ _ (trivial) (fun hHeld => ?_)
   clear hK K
   try simp only [Act.put, tp2, tp3, tp4]
   clear hHeld
   refine ry 4 (fun K hK => ?_)
   have c0 := R17.out.cells
   have f0 := R17.out.loose
   go_simp
   clear c0 f0
   refine hK.out _ _ (trivial) (fun hHeld => ?_)
   clear hK K
   try simp only [Act.put, tp2, tp3, tp4]
   refine wpAnyH_done (by kernel_rfl) ?_ _
   refine NoPanic.normal ?_
  case' y1 =>
   refine rl (fun K hK => ?_)
   go_simp
   refine (l06Any_any (w.heap.size + 1 + 1) ao n cap _ hn C5.out O5.out).mono ?_
   rintro e w6 ⟨g2, nm2, t2, b2, nx2, ma2, mn2, mc2, ga2, gn2, gc2, L2, G2, hi2, rfl, hx2, hb2, hc, hg⟩
   have r0 := R05.out.gone8 hg (by omega)
   have r1 := R15.out.gone8 hg (by omega)
   have o1 := Z5.out.off hg (by omega)
   have o2 := (hb2.bzl).base (lo' := w.heap.size + 1 + 1 + 1) (by have := L5.out; omega)
   have TW := hid (two_outz (g1 := g1) (nm1 := nm1) (t1 := t1) (b1 := b1) (nx1 := nx1) (g2 := g2) (nm2 := nm2) (t2 := t2) (b2 := b2) (nx2 := nx2) r0 r1 (by omega) o1 o2)
   have X2 := hid (X1.out.gone8 hg (by have := L5.out; omega))
   have KK := hid (And.intro K1.out (hb2.gd hx2))
   have B3 := hid (B5.out.trans (only_below hg (by omega) B5.out.size))
   have LB : Hid (w.heap.size ≤ w.heap.size + 1 + 1 + 1) := by show _ ≤ _; omega
   have R06 := hid r0
   clear r0 r1 o1 o2 hx2 hb2 hc hg
   go_wp2_with fail
   refine hK.out _ _ (trivial) (fun hHeld => ?_)
   clear hK K
   try simp only [Act.put, tp2, tp3, tp4]
   clear hHeld
   refine ry 0 (fun K hK => ?_)
   have q0 := X2.out.cells
   go_simp
   clear q0
   refine hK.out _ _ (trivial) (fun hHeld => ?_)
   clear hK K
   try simp only [Act.put, tp2, tp3, tp4]
   clear hHeld
   refine ry 3 (fun K hK => ?_)
   have c0 := R06.out.cells
   have f0 := R06.out.loose
   go_simp
   clear c0 f0
   obtain ⟨z1, NXT⟩ := TW.out _ rfl
   have R17 := hid z1
   have NX := hid NXT
   clear z1 NXT
   unfold set7 at R17 NX
   refine hK.out _ _ (trivial) (fun hHeld => ?_)
   clear hK K
   try simp only [Act.put, tp2, tp3, tp4]
   clear hHeld
   refine ry 4 (fun K hK => ?_)
   have c0 := R17.out.cells
   have f0 := R17.out.loose
   go_simp
   clear c0 f0
   refine hK.out _ _ (trivial) (fun hHeld => ?_)
   clear hK K
   try simp only [Act.put, tp2, tp3, tp4]
   refine wpAnyH_done (by kernel_rfl) ?_ _
   refine NoPanic.normal ?_
  all_goals
   go_wp2
   obtain ⟨-, z2⟩ := TW.out _ rfl
   obtain ⟨d1, d2, o1, o2, h1, h2⟩ := z2 _ rfl
   have bb := (B3.out.trans (below_of_grown h1 (Nat.le_refl _) B3.out.size)).trans (below_of_grown h2 (Nat.le_succ _) (Nat.le_trans B3.out.size h1.size))
   have d1 := d1.cells
   have d2 := d2.cells
   have z1 := o1.base (lo' := w.heap.size) LB.out
   have z2 := o2.base (lo' := w.heap.size) LB.out
   clear o1 o2 h1 h2
   unfold set7 at d1 d2 bb z1 z2
   refine bodyPost_ret (v := .tuple #[.agg #[.int .i64 g1, .string nm1, .int .i64 t1, .int .i64 b1, .int .i64 nx1, .slice ma1 mn1 mc1, .slice ga1 gn1 gc1], .agg #[.int .i64 g2, .string nm2, .int .i64 t2, .int .i64 b2, .int .i64 nx2, .slice ma2 mn2 mc2, .slice ga2 gn2 gc2]]) (by simp [results, Tryz.results54, go_sem, d1, d2]) rfl ⟨g1, nm1, t1, b1, nx1, ma1, mn1, mc1, ga1, gn1, gc1, L1, G1, g2, nm2, t2, b2, nx2, ma2, mn2, mc2, ga2, gn2, gc2, L2, G2, rfl, KK.out, ⟨z1, z2⟩, bb⟩
 ·have hk' : ¬ (k : Int) = 0 := by omega
  clear hk hk0
  go_wp2_with fail
  refine (l08Two_any (w.heap.size + 1 + 1) ao n cap _ hn C3.out O3.out).mono ?_; rintro e w4 ⟨nm1, t1, b1, nx1, ma1, mn1, mc1, ga1, gn1, gc1, L1, G1, nm2, t2, b2, nx2, ma2, mn2, mc2, ga2, gn2, gc2, L2, G2, rfl, ⟨k1, k2⟩, ⟨p1, p2⟩, hc, hg⟩
  have hlt := C3.out.lt
  have r0 := R03.out.gone8 hg (by omega)
  have r1 := R13.out.gone8 hg (by omega)
  have o1 := (ok8_bzl k1 p1).base (lo' := w.heap.size + 1 + 1) (by omega)
  have o2 := (ok8_bzl k2 p2).base (lo' := w.heap.size + 1 + 1) (by omega)
  have TW := hid (two_outz (g1 := 7) (nm1 := nm1) (t1 := t1) (b1 := b1) (nx1 := nx1) (g2 := 7) (nm2 := nm2) (t2 := t2) (b2 := b2) (nx2 := nx2) r0 r1 (by omega) o1 o2)
  have hrd1 := p1.reads
  have hrd2 := p2.reads
  have KK := hid (And.intro (gd_of k1 hrd1.1.symm hrd1.2.1.symm).1 (gd_of k2 hrd2.1.symm hrd2.2.1.symm).1)
  replace B3 := hid (B3.out.trans (only_below hg (by omega) B3.out.size))
  have LB : Hid (w.heap.size ≤ w.heap.size + 1 + 1) := by show _ ≤ _; omega
  have q1 := r0.cells
  have f1 := r0.loose
  obtain ⟨z1, -⟩ := TW.out _ rfl
  have q2 := z1.cells
  have f2 := z1.loose
  unfold set7 at q2 f2
  clear z1 r0 r1 o1 o2 hc hg R03 R13 C3 O3 hlt k1 k2 p1 p2 hrd1 hrd2
  go_wp2
  obtain ⟨-, z2⟩ := TW.out _ rfl
  obtain ⟨d1, d2, o1, o2, h1, h2⟩ := z2 _ rfl
  have bb := (B3.out.trans (below_of_grown h1 (Nat.le_refl _) B3.out.size)).trans (below_of_grown h2 (Nat.le_succ _) (Nat.le_trans B3.out.size h1.size))
  have d1 := d1.cells
  have d2 := d2.cells
  have z1 := o1.base (lo' := w.heap.size) LB.out
  have z2 := o2.base (lo' := w.heap.size) LB.out
  clear o1 o2 h1 h2
  unfold set7 at d1 d2 bb z1 z2
  refine bodyPost_ret (v := .tuple #[.agg #[.int .i64 7, .string nm1, .int .i64 t1, .int .i64 b1, .int .i64 nx1, .slice ma1 mn1 mc1, .slice ga1 gn1 gc1], .agg #[.int .i64 7, .string nm2, .int .i64 t2, .int .i64 b2, .int .i64 nx2, .slice ma2 mn2 mc2, .slice ga2 gn2 gc2]]) (by simp [results, Tryz.results54, go_sem, d1, d2]) rfl ⟨7, nm1, t1, b1, nx1, ma1, mn1, mc1, ga1, gn1, gc1, L1, G1, 7, nm2, t2, b2, nx2, ma2, mn2, mc2, ga2, gn2, gc2, L2, G2, rfl, KK.out, ⟨z1, z2⟩, bb⟩
end Go.Proofs.YtmpcmllfgogegaaGreat
