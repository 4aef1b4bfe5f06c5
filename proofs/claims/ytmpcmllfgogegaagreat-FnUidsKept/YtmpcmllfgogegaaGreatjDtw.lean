/- Dtw. -/

import Derived.Test.YtmpcmllfgogegaaGreatjJtw
namespace Go.Proofs.YtmpcmllfgogegaaGreat
open Go.RowKit Go.ChangeMaps
def Pr8 (w : World) (e : Ending) (w' : World) : Prop :=
 ∃ (nm1 : ByteArray) (t1 b1 nx1 : Int) (ma1 : Option Addr) (mn1 mc1 : Nat) (ga1 : Option Addr) (gn1 gc1 : Nat) (L1 : List M4) (G1 : List Int) (nm2 : ByteArray) (t2 b2 nx2 : Int) (ma2 : Option Addr) (mn2 mc2 : Nat) (ga2 : Option Addr) (gn2 gc2 : Nat) (L2 : List M4) (G2 : List Int), e = .returned (.tuple #[.agg #[.int .i64 7, .string nm1, .int .i64 t1, .int .i64 b1, .int .i64 nx1, .slice ma1 mn1 mc1, .slice ga1 gn1 gc1], .agg #[.int .i64 7, .string nm2, .int .i64 t2, .int .i64 b2, .int .i64 nx2, .slice ma2 mn2 mc2, .slice ga2 gn2 gc2]]) ∧ (bxOk 7 nm1 t1 b1 nx1 L1 G1 = true ∧ bxOk 7 nm2 t2 b2 nx2 L2 G2 = true) ∧ (Bz w' ma1 mn1 mc1 ga1 gn1 gc1 L1 G1 ∧ Bz w' ma2 mn2 mc2 ga2 gn2 gc2 L2 G2) ∧ Below w.heap.size w w'
theorem ok8_bz {W : World} {B : Nat} {nm1 : ByteArray} {t1 b1 nx1 : Int} {ma1 : Option Addr} {mn1 mc1 : Nat} {ga1 : Option Addr} {gn1 gc1 : Nat} {L1 : List M4} {G1 : List Int} (h : bxOk 7 nm1 t1 b1 nx1 L1 G1 = true) (ho : OwB W B (.slice ma1 mn1 mc1) (.slice ga1 gn1 gc1) L1 G1) : Bz W ma1 mn1 mc1 ga1 gn1 gc1 L1 G1 := by
 obtain ⟨s1, s2, s3, s4⟩ := ok8_sm h
 obtain ⟨r1, r2, r3, r4⟩ := ho.reads
 exact ⟨r1.symm, by omega, s3, ⟨_, _, r3⟩, ho.none.1, r2.symm, by omega, ⟨_, _, r4⟩, ho.none.2⟩
theorem two_out {W : World} {B k : Nat} {nm1 : ByteArray} {t1 b1 nx1 : Int} {ma1 : Option Addr} {mn1 mc1 : Nat} {ga1 : Option Addr} {gn1 gc1 : Nat} {L1 : List M4} {G1 : List Int} {nm2 : ByteArray} {t2 b2 nx2 : Int} {ma2 : Option Addr} {mn2 mc2 : Nat} {ga2 : Option Addr} {gn2 gc2 : Nat} {L2 : List M4} {G2 : List Int} (x0 : Bx W k 29 0 ⟨#[]⟩ 0 0 0 (.slice none 0 0) (.slice none 0 0)) (x1 : Bx W (k + 1) 29 0 ⟨#[]⟩ 0 0 0 (.slice none 0 0) (.slice none 0 0)) (hk : k + 1 < B) (o1 : OwB W B (.slice ma1 mn1 mc1) (.slice ga1 gn1 gc1) L1 G1) (o2 : OwB W B (.slice ma2 mn2 mc2) (.slice ga2 gn2 gc2) L2 G2) :
  (∀ W1, set7 W k 7 nm1 t1 b1 nx1 (.slice ma1 mn1 mc1) (.slice ga1 gn1 gc1) = W1 → Bx W1 (k + 1) 29 0 ⟨#[]⟩ 0 0 0 (.slice none 0 0) (.slice none 0 0) ∧ ∀ W2, set7 W1 (k + 1) 7 nm2 t2 b2 nx2 (.slice ma2 mn2 mc2) (.slice ga2 gn2 gc2) = W2 → Bx W2 k 29 7 nm1 t1 b1 nx1 (.slice ma1 mn1 mc1) (.slice ga1 gn1 gc1) ∧ Bx W2 (k + 1) 29 7 nm2 t2 b2 nx2 (.slice ma2 mn2 mc2) (.slice ga2 gn2 gc2) ∧ OwB W2 B (.slice ma1 mn1 mc1) (.slice ga1 gn1 gc1) L1 G1 ∧ OwB W2 B (.slice ma2 mn2 mc2) (.slice ga2 gn2 gc2) L2 G2 ∧ W.grownBy W1 (some k) ∧ W1.grownBy W2 (some (k + 1))) := by
 rintro W1 hW1
 have g1 := set7_grown W k 7 nm1 t1 b1 nx1 (.slice ma1 mn1 mc1) (.slice ga1 gn1 gc1)
 have a0 := x0.set7 7 nm1 t1 b1 nx1 (.slice ma1 mn1 mc1) (.slice ga1 gn1 gc1)
 rw [hW1] at g1 a0
 have a1 := x1.gone8 g1 (by omega)
 have p1 := o1.grown g1 (by omega)
 have p2 := o2.grown g1 (by omega)
 refine ⟨a1, ?_⟩
 rintro W2 hW2
 have g2 := set7_grown W1 (k + 1) 7 nm2 t2 b2 nx2 (.slice ma2 mn2 mc2) (.slice ga2 gn2 gc2)
 have c1 := a1.set7 7 nm2 t2 b2 nx2 (.slice ma2 mn2 mc2) (.slice ga2 gn2 gc2)
 rw [hW2] at g2 c1
 exact ⟨a0.gone8 g2 (by omega), c1, p1.grown g2 (by omega), p2.grown g2 (by omega), g1, g2⟩
set_option maxHeartbeats 1600000 in
set_option maxRecDepth 100000 in
theorem drawTwo_any (ao : Option Addr) (n cap : Nat) (w : World) (hn : n ≤ 1048576) (hcode : Code w w.heap.size ao n) :
  Calls Tryz.prog 9 #[.slice ao n cap] w fun e w' => Pr8 w e w' := by
 have e0 : (w.alloc (.cells #[.int .i64 0, .string ⟨#[]⟩, .int .i64 0, .int .i64 0, .int .i64 0, .slice none 0 0, .slice none 0 0] 29)).heap.size = w.heap.size + 1 := by simp
 have e1 : ((w.alloc (.cells #[.int .i64 0, .string ⟨#[]⟩, .int .i64 0, .int .i64 0, .int .i64 0, .slice none 0 0, .slice none 0 0] 29)).alloc (.cells #[.int .i64 0, .string ⟨#[]⟩, .int .i64 0, .int .i64 0, .int .i64 0, .slice none 0 0, .slice none 0 0] 29)).heap.size = w.heap.size + 1 + 1 := by simp
 have R0 := hid ((Bx.new w 29 0 ⟨#[]⟩ 0 0 0 (.slice none 0 0) (.slice none 0 0)).later (bpush (bre _) (.cells #[.int .i64 0, .string ⟨#[]⟩, .int .i64 0, .int .i64 0, .int .i64 0, .slice none 0 0, .slice none 0 0] 29)))
 have R1 : Hid (Bx ((w.alloc (.cells #[.int .i64 0, .string ⟨#[]⟩, .int .i64 0, .int .i64 0, .int .i64 0, .slice none 0 0, .slice none 0 0] 29)).alloc (.cells #[.int .i64 0, .string ⟨#[]⟩, .int .i64 0, .int .i64 0, .int .i64 0, .slice none 0 0, .slice none 0 0] 29)) (w.heap.size + 1) 29 0 ⟨#[]⟩ 0 0 0 (.slice none 0 0) (.slice none 0 0)) := by rw [← e0]; exact Bx.new _ _ _ _ _ _ _ _ _
 have N0 := hid (bpush (bpush (bre w) (.cells #[.int .i64 0, .string ⟨#[]⟩, .int .i64 0, .int .i64 0, .int .i64 0, .slice none 0 0, .slice none 0 0] 29)) (.cells #[.int .i64 0, .string ⟨#[]⟩, .int .i64 0, .int .i64 0, .int .i64 0, .slice none 0 0, .slice none 0 0] 29))
 have O0 := hid (hcode.over N0.out)
 have HS := hid e1
 clear hcode e0 e1
 go_enter Tryz.func9, Tryz.ntmps9
 go_wp2_with fail
 refine (new_any ao n cap _ hn O0.out).mono ?_; rintro e w2 ⟨rfl, hc, ho, hb⟩
 rw [HS.out] at hc ho ⊢
 have C2 := hid hc
 have O2 := hid ho
 have R02 := hid (R0.out.later hb)
 have R12 := hid (R1.out.later hb)
 have B2 := hid (btr N0.out hb)
 clear hc ho hb R0 R1 N0 O0
 go_wp2_with fail
 refine (l08Two_any (w.heap.size + 1 + 1) ao n cap _ hn C2.out O2.out).mono ?_; rintro e w3 ⟨nm1, t1, b1, nx1, ma1, mn1, mc1, ga1, gn1, gc1, L1, G1, nm2, t2, b2, nx2, ma2, mn2, mc2, ga2, gn2, gc2, L2, G2, rfl, ⟨k1, k2⟩, ⟨o1, o2⟩, hc, hg⟩
 have hlt := C2.out.lt
 have r0 := R02.out.gone8 hg (by omega)
 have r1 := R12.out.gone8 hg (by omega)
 have TW := hid (two_out (nm1 := nm1) (t1 := t1) (b1 := b1) (nx1 := nx1) (nm2 := nm2) (t2 := t2) (b2 := b2) (nx2 := nx2) r0 r1 (by omega) o1 o2)
 have KK := hid (And.intro k1 k2)
 have B3 := hid (B2.out.trans (only_below hg (by omega) B2.out.size))
 have q1 := r0.cells
 have f1 := r0.loose
 have R13 := hid r1
 obtain ⟨z1, -⟩ := TW.out _ rfl
 have q2 := z1.cells
 have f2 := z1.loose
 unfold set7 at q2 f2
 clear z1 r0 r1 k1 k2 o1 o2 hc hg R02 R12 B2 C2 O2 hlt HS R13
 go_wp2
 obtain ⟨-, z2⟩ := TW.out _ rfl
 obtain ⟨d1, d2, o1, o2, g1, g2⟩ := z2 _ rfl
 have bb := (B3.out.trans (below_of_grown g1 (Nat.le_refl _) B3.out.size)).trans (below_of_grown g2 (Nat.le_succ _) (Nat.le_trans B3.out.size g1.size))
 have d1 := d1.cells
 have d2 := d2.cells
 have z1 := ok8_bz KK.out.1 o1
 have z2 := ok8_bz KK.out.2 o2
 clear o1 o2 g1 g2
 unfold set7 at d1 d2 bb z1 z2
 refine bodyPost_ret (v := .tuple #[.agg #[.int .i64 7, .string nm1, .int .i64 t1, .int .i64 b1, .int .i64 nx1, .slice ma1 mn1 mc1, .slice ga1 gn1 gc1], .agg #[.int .i64 7, .string nm2, .int .i64 t2, .int .i64 b2, .int .i64 nx2, .slice ma2 mn2 mc2, .slice ga2 gn2 gc2]]) (by simp [results, Tryz.results9, go_sem, d1, d2]) rfl ⟨nm1, t1, b1, nx1, ma1, mn1, mc1, ga1, gn1, gc1, L1, G1, nm2, t2, b2, nx2, ma2, mn2, mc2, ga2, gn2, gc2, L2, G2, rfl, KK.out, ⟨z1, z2⟩, bb⟩
end Go.Proofs.YtmpcmllfgogegaaGreat
