/- Lst. -/

import Derived.Test.YtkbecgcbheopnaaGreatsUsw
namespace Go.Proofs.YtkbecgcbheopnaaGreat
open Go.RowKit Go.ChangeMaps
def Tz (W : World) (ba : Option Addr) (bn bc : Nat) (ga : Option Addr) (gn gc : Nat) (S : List X7) (G : List Int) : Prop := ∃ lo hi, Tg W lo hi ba bn bc ga gn gc S G
section
variable {W W' : World} {lo hi : Nat} {ba : Option Addr} {bn bc : Nat} {ga : Option Addr} {gn gc : Nat} {S : List X7} {G : List Int}
theorem Tg.tz (h : Tg W lo hi ba bn bc ga gn gc S G) : Tz W ba bn bc ga gn gc S G := ⟨lo, hi, h⟩
theorem Tz.later (h : Tz W ba bn bc ga gn gc S G) (hb : Below W.heap.size W W') : Tz W' ba bn bc ga gn gc S G := by
 obtain ⟨lo, hi, h⟩ := h
 exact ⟨lo, hi, h.later hb⟩
theorem Tz.len (h : Tz W ba bn bc ga gn gc S G) : S.length = bn := by obtain ⟨_, _, h⟩ := h; exact h.len
theorem Tz.most (h : Tz W ba bn bc ga gn gc S G) : bn ≤ 1048576 := by obtain ⟨_, _, h⟩ := h; exact h.most
theorem Tz.sb (h : Tz W ba bn bc ga gn gc S G) : Sb S := by obtain ⟨_, _, h⟩ := h; exact h.sb
theorem Tz.glen (h : Tz W ba bn bc ga gn gc S G) : G.length = gn := by obtain ⟨_, _, h⟩ := h; exact h.glen
theorem Tz.gmost (h : Tz W ba bn bc ga gn gc S G) : gn ≤ 1048576 := by obtain ⟨_, _, h⟩ := h; exact h.gmost
theorem Tz.use {P : Prop} (h : Tz W ba bn bc ga gn gc S G) (f : ∀ lo hi, Tg W lo hi ba bn bc ga gn gc S G → P) : P := by obtain ⟨lo, hi, h⟩ := h; exact f lo hi h
theorem storeOk_is (h : Tz W ba bn bc ga gn gc S G) (y tm : Int) (p : Bool) (hp : sOk y tm S G = p) : Calls Tryz.prog 9 #[.agg #[.int .i64 y, .int .i64 tm, .slice ba bn bc, .slice ga gn gc]] W fun e w' => e = .returned (.bool p) ∧ Below W.heap.size W w' := by
 obtain ⟨lo, hi, h⟩ := h
 rw [← hp]
 exact implStoreOk_any lo hi lo hi y tm ba bn bc ga gn gc S G W h.len h.most h.sb h.boxes h.glen h.gmost h.gone
theorem boxAt_is (h : Tz W ba bn bc ga gn gc S G) (y tm x j : Int) (hj : fidx (isG x) S 0 = j) : Calls Tryz.prog 13 #[.agg #[.int .i64 y, .int .i64 tm, .slice ba bn bc, .slice ga gn gc], .int .i64 x] W fun e w' => e = .returned (.int .i64 j) ∧ Below W.heap.size W w' := by
 obtain ⟨lo, hi, h⟩ := h
 rw [← hj]
 exact implBoxAt_any lo hi y tm ba bn bc _ S x W h.len h.most h.boxes
theorem boxNamed_is (h : Tz W ba bn bc ga gn gc S G) (y tm : Int) (x : ByteArray) (j : Int) (hj : fidx (isN x) S 0 = j) : Calls Tryz.prog 15 #[.agg #[.int .i64 y, .int .i64 tm, .slice ba bn bc, .slice ga gn gc], .string x] W fun e w' => e = .returned (.int .i64 j) ∧ Below W.heap.size W w' := by
 obtain ⟨lo, hi, h⟩ := h
 rw [← hj]
 exact implBoxNamed_any lo hi y tm ba bn bc _ S x W h.len h.most h.boxes
theorem knows_is (h : Tz W ba bn bc ga gn gc S G) (y tm x : Int) (p : Bool) (hp : kno x S G = p) : Calls Tryz.prog 16 #[.agg #[.int .i64 y, .int .i64 tm, .slice ba bn bc, .slice ga gn gc], .int .i64 x] W fun e w' => e = .returned (.bool p) ∧ Below W.heap.size W w' := by
 obtain ⟨lo, hi, h⟩ := h
 rw [← hp]
 exact implKnows_any lo hi lo hi y tm ba bn bc ga gn gc S G x W h.len h.most h.sb h.boxes h.glen h.gmost h.gone
end
structure Rk (W : World) (kk oo : Nat) (g : Int) (nm : ByteArray) (t b nx : Int) (ma : Option Addr) (mn mc : Nat) (ga : Option Addr) (gn gc : Nat) (L : List M4) (G : List Int) : Prop where
 lt : kk < W.heap.size
 c7 : C7 W kk oo g nm t b nx (.slice ma mn mc) (.slice ga gn gc)
 len : L.length = mn
 most : mn ≤ 1048576
 sm : Sm L
 mails : ∃ lo hi, Ms lo hi W ma L
 glen : G.length = gn
 gmost : gn ≤ 1048576
 gone : ∃ lo hi, Is lo hi W ga G
section
variable {W W' : World} {kk oo kk' oo' : Nat} {g : Int} {nm : ByteArray} {t b nx : Int} {ma : Option Addr} {mn mc : Nat} {ga : Option Addr} {gn gc : Nat} {ma' : Option Addr} {mc' : Nat} {ga' : Option Addr} {gc' : Nat} {L : List M4} {G : List Int}
theorem Rk.later (h : Rk W kk oo g nm t b nx ma mn mc ga gn gc L G) (hb : Below W.heap.size W W') : Rk W' kk oo g nm t b nx ma mn mc ga gn gc L G := by
 obtain ⟨l1, h1, m1⟩ := h.mails
 obtain ⟨l2, h2, m2⟩ := h.gone
 exact ⟨Nat.lt_of_lt_of_le h.lt hb.size, h.c7.later h.lt hb, h.len, h.most, h.sm, ⟨l1, h1, m1.later hb⟩, h.glen, h.gmost, ⟨l2, h2, m2.later hb⟩⟩
theorem same_rk (h : Rk W kk oo g nm t b nx ma mn mc ga gn gc L G) (h' : Rk W kk' oo' g nm t b nx ma' mn mc' ga' gn gc' L G) :
  Calls Tryz.prog 14 #[.agg #[.int .i64 g, .string nm, .int .i64 t, .int .i64 b, .int .i64 nx, .slice ma mn mc, .slice ga gn gc], .agg #[.int .i64 g, .string nm, .int .i64 t, .int .i64 b, .int .i64 nx, .slice ma' mn mc', .slice ga' gn gc']] W fun e w' => e = .returned (.bool true) ∧ Below W.heap.size W w' := by
 obtain ⟨l1, h1, m1⟩ := h.mails
 obtain ⟨l2, h2, m2⟩ := h.gone
 obtain ⟨l3, h3, m3⟩ := h'.mails
 obtain ⟨l4, h4, m4⟩ := h'.gone
 exact sameBox_any l1 h1 l3 h3 l2 h2 l4 h4 g nm t b nx ma mn mc ga gn gc ma' mc' ga' gc' L G W h.len h.most h.sm m1 m3 h.glen h.gmost m2 m4
end
theorem Tz.rk {W : World} {ba : Option Addr} {bn bc : Nat} {ga : Option Addr} {gn gc : Nat} {S : List X7} {G : List Int} (h : Tz W ba bn bc ga gn gc S G) {k : Nat} {g : Int} {nm : ByteArray} {t b nx : Int} {L : List M4} {H : List Int} (hx : S[k]? = some (g, nm, t, b, nx, L, H)) {mn hn : Nat} (hm : L.length = mn) (hh : H.length = hn) :
  ∃ kk oo ma mc ha hc, ba = some ⟨kk, oo, none⟩ ∧ Rk W kk (oo + k * 7) g nm t b nx ma mn mc ha hn hc L H := by
 obtain ⟨lo, hi, h⟩ := h
 obtain ⟨hk, hx⟩ := List.getElem?_eq_some_iff.1 hx
 obtain ⟨kk, oo, ma, mc, ha, hc, e1, e2, c, m1, m2, _⟩ := h.boxes.at hk
 have hs := h.sb _ (List.getElem_mem hk)
 rw [hx] at c m1 m2 hs
 dsimp only at c m1 m2 hs
 rw [hm, hh] at c
 exact ⟨kk, oo, ma, mc, ha, hc, e1, e2, c, hm, by rw [← hm]; exact hs.2.1, hs.2.2.1, ⟨_, _, m1⟩, hh, by rw [← hh]; exact hs.2.2.2, ⟨_, _, m2⟩⟩
def Pc (W : World) (gp x y : Nat) : Prop := gp < W.heap.size ∧ W.cell? ⟨gp, 0, none⟩ = some (.int .i64 (x : Int)) ∧ W.cell? ⟨gp, 1, none⟩ = some (.int .i64 (y : Int))
theorem Pc.later {W W' : World} {gp x y : Nat} (h : Pc W gp x y) (hb : Below W.heap.size W W') : Pc W' gp x y :=
 ⟨Nat.lt_of_lt_of_le h.1 hb.size, (hb.cell (p := ⟨gp, 0, none⟩) h.1).trans h.2.1, (hb.cell (p := ⟨gp, 1, none⟩) h.1).trans h.2.2⟩
theorem tmodEight (x : Nat) : ∃ r : Nat, (x : Int).tmod 8 = (r : Int) ∧ r < 8 := ⟨x % 8, by rw [Int.tmod_eq_emod_of_nonneg (by omega)]; omega, by omega⟩
theorem tmodAny (x n : Nat) (h : 0 < n) : ∃ r : Nat, (x : Int).tmod (n : Int) = (r : Int) ∧ r < n := ⟨x % n, by rw [Int.tmod_eq_emod_of_nonneg (by omega)]; rfl, Nat.mod_lt _ h⟩
structure Au (wn W : World) (k : Nat) (y tm : Int) (ba : Option Addr) (bn bc : Nat) (ga : Option Addr) (gn gc : Nat) (S : List X7) (G : List Int) : Prop where
 sx : Sx W k 27 y tm (.slice ba bn bc) (.slice ga gn gc)
 tz : Tz W ba bn bc ga gn gc S G
 bel : Below wn.heap.size wn W
section
variable {wn v : World} {y tm : Int} {ba : Option Addr} {bn bc : Nat} {ga : Option Addr} {gn gc : Nat} {S : List X7} {G : List Int}
theorem Au.last {lo hi : Nat} (hz : Tg v lo hi ba bn bc ga gn gc S G) (hb : Below wn.heap.size wn v) : Au wn (v.alloc (.cells #[.int .i64 y, .int .i64 tm, .slice ba bn bc, .slice ga gn gc] 27)) v.heap.size y tm ba bn bc ga gn gc S G :=
 ⟨Sx.new _ _ _ _ _ _, (hz.later (bpush (bre _) _)).tz, bpush hb _⟩
theorem Au.first {lo hi k : Nat} (hx : Sx v k 27 0 0 (.slice none 0 0) (.slice none 0 0)) (hz : Tg v lo hi ba bn bc ga gn gc S G) (hk : k < lo) (hw : wn.heap.size ≤ k) (hb : Below wn.heap.size wn v) :
  Au wn ((((v.setCell ⟨k, 0, none⟩ (.int .i64 y)).setCell ⟨k, 1, none⟩ (.int .i64 tm)).setCell ⟨k, 2, none⟩ (.slice ba bn bc)).setCell ⟨k, 3, none⟩ (.slice ga gn gc)) k y tm ba bn bc ga gn gc S G := by
 have hg := put4_grown v k y tm (.slice ba bn bc) (.slice ga gn gc)
 have hy := hx.put4 y tm (.slice ba bn bc) (.slice ga gn gc)
 unfold Go.Proofs.YtkbecgcbheopnaaGreat.put4 at hg hy
 exact ⟨hy, (hz.far hg (.inl hk)).tz, hb.trans (below_of_grown hg hw hb.size)⟩
end
set_option maxHeartbeats 64000000 in
set_option maxRecDepth 100000 in
theorem lawStores_any (ao : Option Addr) (n cap : Nat) (w : World) (hcode : Code w w.heap.size ao n) :
  Calls Tryz.prog 3 #[.slice ao n cap] w fun e w' => e = .returned (.bool true) ∧ Below w.heap.size w w' := by
 have HO := hid hcode
 have BE := hid (bre w)
 clear hcode
 by_cases hbig : ¬ n ≤ 1048576
 ·go_enter Tryz.func3, Tryz.ntmps3
  go_wp2_with fail
  refine (bigF_yes ao n cap _ hbig).mono ?_; rintro e w' ⟨rfl, h'⟩
  rw [h']
  clear h'
  go_wp2
  go_ret
  exact ⟨rfl, bre _⟩
 ·have hbig := Classical.not_not.1 hbig
  go_enter Tryz.func3, Tryz.ntmps3
  go_wp2_with fail
  refine (bigF_no ao n cap _ hbig).mono ?_; rintro e w' ⟨rfl, h'⟩
  rw [h']
  clear h'
  go_wp2_with fail
  refine (drawStore_any ao n cap _ hbig HO.out).mono ?_; rintro e w1 ⟨_, y, tm, ba, bn, bc, ga, gn, gc, S, G, rfl, hr, ht, hb⟩
  have R0 := hid hr
  obtain ⟨k0, hk0⟩ : ∃ k0, w1.heap.size = k0 := ⟨_, rfl⟩
  obtain ⟨W1, hW1⟩ : ∃ W1, (w1.alloc (.cells #[.int .i64 y, .int .i64 tm, .slice ba bn bc, .slice ga gn gc] 27)) = W1 := ⟨_, rfl⟩
  have HB1 : Below w.heap.size w W1 := by rw [← hW1]; exact bpush (hb) _
  have BE := hid (btr BE.out HB1)
  clear HB1
  have X0 : Hid (Sx W1 k0 27 y tm (.slice ba bn bc) (.slice ga gn gc)) := by rw [← hW1, ← hk0]; exact Sx.new _ _ _ _ _ _
  have Z0 : Hid (Tz W1 ba bn bc ga gn gc S G) := by rw [← hW1]; exact ht.tz.later (bpush (bre _) _)
  clear ht hb hr
  go_wp2_with fail
  try rw [hk0]
  try rw [hW1]
  clear hk0 hW1
  refine (drawPlaces_any ao n cap _ hbig (HO.out.over BE.out)).mono ?_; rintro e w2 ⟨gp, cp, x, z, rfl, hgp, hcx, hcz, hx, hz, hb⟩
  have PC0 : Pc w2 gp x z := ⟨hgp, hcx, hcz⟩
  have HB2 := hb
  have X0 := hid (X0.out.later HB2)
  have Z0 := hid (Z0.out.later HB2)
  have BE := hid (btr BE.out HB2)
  clear HB2
  have PC := hid PC0
  clear hgp hcx hcz hb PC0 hz hx
  have HW : Hid (IntKind.i64.wrap (tm + 1) = tm + 1) := by show _ = _; have h1 := R0.out.time; have h2 := (sOk_sb R0.out.ok).2.2.2; rw [IntKind.wrap_i64]; omega
  by_cases hb0 : bn = 0
  ·have hS : S = [] := List.eq_nil_of_length_eq_zero (by rw [Z0.out.len]; exact hb0)
   subst hS
   subst hb0
   have q0 := X0.out.cells
   go_wp2_with fail
   clear q0
   obtain ⟨p1, t1, K1, H1, N1, M1, hE1, hZ1, _, ci1⟩ := make_two 5 ⟨#[105, 110, 98, 111, 120]⟩ (y := y) (tm := tm) Z0.out.len Z0.out.most Z0.out.sb Z0.out.glen Z0.out.gmost (by decide)
   have e0 := hE1.out
   rw [fn_none R0.out] at e0
   obtain ⟨ep, et, eK, eH⟩ := e0
   subst ep
   replace et : t1 = tm + 1 := et
   have HT : Hid (IntKind.i64.wrap (tm + 1) = t1) := by show _ = _; rw [et]; exact HW.out
   have eN : N1 = 1 := by rw [← hZ1.out.1, eK]; rfl
   subst eN
   have HOK : Hid (sOk y t1 K1 H1 = true) := by have h := fn_none R0.out; simp only [Bool.and_eq_true] at h; rw [eK, eH, et]; exact h.2.2
   clear hE1 hZ1 eK eH et
   refine (Z0.out.use (fun lo hi h => ci1.out lo hi ba bc ga gc _ h)).mono ?_; rintro e w3 ⟨a1, c1, d1, e1, rfl, ht, hb⟩
   obtain ⟨k1, hk1⟩ : ∃ k1, w3.heap.size = k1 := ⟨_, rfl⟩
   obtain ⟨W21, hW21⟩ : ∃ W21, (w3.alloc (.cells #[.int .i64 y, .int .i64 t1, .slice a1 1 c1, .slice d1 M1 e1] 27)) = W21 := ⟨_, rfl⟩
   have HB21 : Below w2.heap.size w2 W21 := by rw [← hW21]; exact bpush (hb) _
   have X0 := hid (X0.out.later HB21)
   have Z0 := hid (Z0.out.later HB21)
   have PC := hid (PC.out.later HB21)
   have BE := hid (btr BE.out HB21)
   clear HB21
   have X1 : Hid (Sx W21 k1 27 y t1 (.slice a1 1 c1) (.slice d1 M1 e1)) := by rw [← hW21, ← hk1]; exact Sx.new _ _ _ _ _ _
   have Z1 : Hid (Tz W21 a1 1 c1 d1 M1 e1 K1 H1) := by rw [← hW21]; exact ht.tz.later (bpush (bre _) _)
   clear ht hb ci1
   have q0 := X0.out.cells
   have q1 := X1.out.cells
   have hw := HT.out
   go_wp2_with fail
   try rw [hk1]
   try rw [hW21]
   clear hk1 hW21
   refine (storeOk_is Z1.out y t1 true HOK.out).mono ?_; rintro e w4 ⟨rfl, hb⟩
   have BE := hid (btr BE.out hb)
   clear hb
   go_wp2
   go_ret
   exact ⟨rfl, BE.out⟩
  ·have hbp : 0 < bn := by omega
   obtain ⟨i, hie, hil⟩ := tmodAny x bn hbp
   obtain ⟨f, hf, hf8⟩ := tmodEight z
   have HF := hid hf
   clear hf hf8
   have HIL : Hid (i < S.length) := by show _ < _; rw [Z0.out.len]; exact hil
   obtain ⟨⟨g, nm, t, b, nx, L, Gi⟩, hSi⟩ : ∃ s, S[i]'HIL.out = s := ⟨_, rfl⟩
   have HSG : Hid ((S[i]'HIL.out).1 = g) := by show _ = _; rw [hSi]
   have HSI : Hid (S[i]? = some (g, nm, t, b, nx, L, Gi)) := by show _ = _; rw [List.getElem?_eq_getElem HIL.out, hSi]
   obtain ⟨kk, oo, ma, mc, ha, hc, hba, hrk⟩ := Z0.out.rk HSI.out rfl rfl
   subst hba
   have K0 := hid hrk
   clear hSi hrk
   have hI : (0 : Int) ≤ (i : Int) ∧ (i : Int) < (bn : Int) := by omega
   have hbz : ¬ (bn : Int) = 0 := by omega
   have hbb : ((bn : Int) == 0) = false := beq_eq_false_iff_ne.2 hbz
   have HBN : Hid (0 < bn ∧ i < bn) := ⟨hbp, hil⟩
   clear hbp hil
   have q0 := X0.out.cells
   go_wp2_with fail
   clear q0
   refine wp_region_noPanic ?_
   refine wp_region_held_drew (S := (fun W => W.cell? ⟨gp, 0, none⟩ = some (.int .i64 (x : Int)) ∧ W.cell? ⟨k0, 2, none⟩ = some (.slice (some ⟨kk, oo, none⟩) bn bc))) (by kernel_rfl) (⟨PC.out.2.1, X0.out.cells.2.2.1⟩) (fun hHeld => ?_)
   refine tk 0 ?_
   refine tk 1 ?_
   refine tk 2 ?_
   refine tk 3 ?_
   refine tk 4 ?_
   refine tk 5 ?_
   refine tk 6 ?_
   refine tk 7 ?_
   refine wpAnyH_done (by kernel_rfl) ?_ _
   refine NoPanic.normal ?_
   clear hHeld
   clear hie
   obtain ⟨V2, hV2⟩ : ∃ V, w2.drew = V := ⟨_, rfl⟩
   rw [hV2]
   have hbv : Below w2.heap.size w2 V2 := by rw [← hV2]; exact bdr (bre _)
   clear hV2
   have HB31 := hbv
   have X0 := hid (X0.out.later HB31)
   have Z0 := hid (Z0.out.later HB31)
   have PC := hid (PC.out.later HB31)
   have K0 := hid (K0.out.later HB31)
   have BE := hid (btr BE.out HB31)
   clear HB31
   have q1 := K0.out.c7.1
   have q0 := X0.out.cells
   go_wp2_with fail
   clear q0 q1 hbz hbb hb0
   obtain ⟨p1, t1, K1, H1, N1, M1, hE1, hZ1, _, ci1⟩ := put_two g 9000 (f : Int) ⟨#[110, 101, 119]⟩ (y := y) (tm := tm) Z0.out.len Z0.out.most Z0.out.sb Z0.out.glen Z0.out.gmost (by decide)
   go_cut [9, 10] from 20 (fun s s' wx => ∃ (k : Nat) (a : Option Addr) (c : Nat) (d : Option Addr) (e : Nat), s = .pointer (some ⟨k, 0, none⟩) ∧ s' = .bool p1 ∧ Au V2 wx k y t1 a N1 c d M1 e K1 H1)
   case first =>
    have HS : Hid (∀ W, Below V2.heap.size V2 W → (W.cell? ⟨k0, 0, none⟩ = some (.int .i64 y) ∧ W.cell? ⟨k0, 1, none⟩ = some (.int .i64 tm) ∧ W.cell? ⟨k0, 2, none⟩ = some (.slice (some ⟨kk, oo, none⟩) bn bc) ∧ W.cell? ⟨k0, 3, none⟩ = some (.slice ga gn gc)) ∧ W.cell? ⟨gp, 1, none⟩ = some (.int .i64 (z : Int))) := fun W h => ⟨(X0.out.later h).cells, (PC.out.later h).2.2⟩
    have hfe := HF.out
    refine wp_region_noPanic ?_
    refine wp_region_held_drew (S := (fun W => (W.cell? ⟨k0, 0, none⟩ = some (.int .i64 y) ∧ W.cell? ⟨k0, 1, none⟩ = some (.int .i64 tm) ∧ W.cell? ⟨k0, 2, none⟩ = some (.slice (some ⟨kk, oo, none⟩) bn bc) ∧ W.cell? ⟨k0, 3, none⟩ = some (.slice ga gn gc)) ∧ W.cell? ⟨gp, 1, none⟩ = some (.int .i64 (z : Int)))) (by kernel_rfl) (HS.out _ (bdr (bre _))) (fun hHeld => ?_)
    refine tk 0 ?_
    refine tk 1 ?_
    refine tk 2 ?_
    refine tk 3 ?_
    refine tk 4 ?_
    refine tk 5 ?_
    clear hHeld
    refine wpAnyH_ready (rs := [6, 10]) (by kernel_rfl) (by simp) ?_
    refine rc (fun K hK => ?_) ?_
    ·go_simp
     refine ((Z0.out.later (bdr (bre _))).use (fun lo hi h => ci1.out lo hi _ bc ga gc _ h)).mono ?_
     rintro e v3 ⟨a1, c1, d1, e1, rfl, hz3, hb3⟩
     have HZ3 := hid hz3
     have HB3 := hid (btr (bdr (bre _)) hb3)
     clear hz3 hb3
     go_wp2_with fail
     refine hK.out _ _ (HS.out _ HB3.out) (fun hHeld => ?_)
     clear hK K
     try simp only [Act.put, tp2, tp3, tp4]
     refine tk 7 ?_
     refine tk 8 ?_
     refine tk 9 ?_
     clear hHeld
     refine ry 10 (fun K hK => ?_)
     go_simp
     refine hK.out _ _ (HS.out _ (bpush HB3.out _)) (fun hHeld => ?_)
     clear hK K
     try simp only [Act.put, tp2, tp3, tp4]
     clear hHeld
     refine ry 11 (fun K hK => ?_)
     go_simp
     have AN := hid (Au.last (y := y) (tm := t1) HZ3.out HB3.out)
     refine hK.out _ _ (HS.out _ AN.out.bel) (fun hHeld => ?_)
     clear hK K
     try simp only [Act.put, tp2, tp3, tp4]
     refine tk 12 ?_
     refine wpAnyH_done (by kernel_rfl) ?_ _
     refine NoPanic.normal ?_
     try go_wp2_with fail
     go_meet
     exact ⟨_, a1, c1, d1, e1, rfl, rfl, AN.out⟩
    refine rl (fun K hK => ?_)
    go_simp
    refine hK.out _ _ (HS.out _ (bpush (bdr (bre _)) _)) (fun hHeld => ?_)
    clear hK K
    try simp only [Act.put, tp2, tp3, tp4]
    clear hHeld
    refine ry 6 (fun K hK => ?_)
    go_simp
    refine ((Z0.out.later (bpush (bdr (bre _)) (.cells #[.int .i64 0, .int .i64 0, .slice none 0 0, .slice none 0 0] 27))).use (fun lo hi h => ci1.out lo hi _ bc ga gc _ h)).mono ?_
    rintro e v3 ⟨a1, c1, d1, e1, rfl, hz3, hb3⟩
    have HZ3 := hid hz3
    have HB3 := hid (btr (bpush (bdr (bre _)) (.cells #[.int .i64 0, .int .i64 0, .slice none 0 0, .slice none 0 0] 27)) hb3)
    have R3 : Hid (Sx v3 V2.heap.size 27 0 0 (.slice none 0 0) (.slice none 0 0)) := (Sx.new V2.drew 27 0 0 _ _).later hb3
    have q3 := R3.out.cells
    have y3 := R3.out.loose
    clear hz3 hb3
    go_wp2_with fail
    refine hK.out _ _ (HS.out _ HB3.out) (fun hHeld => ?_)
    clear hK K
    try simp only [Act.put, tp2, tp3, tp4]
    refine tk 7 ?_
    refine tk 8 ?_
    refine tk 9 ?_
    clear hHeld
    refine ry 11 (fun K hK => ?_)
    go_simp
    clear q3 y3
    have AN := hid (Au.first (wn := V2) (y := y) (tm := t1) R3.out HZ3.out (by simp) (Nat.le_refl _) HB3.out)
    refine hK.out _ _ (HS.out _ AN.out.bel) (fun hHeld => ?_)
    clear hK K
    try simp only [Act.put, tp2, tp3, tp4]
    refine tk 12 ?_
    refine wpAnyH_done (by kernel_rfl) ?_ _
    refine NoPanic.normal ?_
    try go_wp2_with fail
    go_meet
    exact ⟨_, a1, c1, d1, e1, rfl, rfl, AN.out⟩
   case rest =>
    obtain ⟨k9, a9, c9, d9, e9, rfl, rfl, hAn⟩ := hcut
    have HBn := hAn.bel
    have X0 := hid (X0.out.later HBn)
    have Z0 := hid (Z0.out.later HBn)
    have PC := hid (PC.out.later HBn)
    have K0 := hid (K0.out.later HBn)
    have BE := hid (btr BE.out HBn)
    clear HBn
    have X9 := hid hAn.sx
    have Z9 := hid hAn.tz
    clear hAn HF
    have HP : Hid (sOk y t1 K1 H1 = true ∧ N1 = bn ∧ (∀ k, k < S.length → k ≠ i → K1[k]? = S[k]?) ∧ (p1 = true → t1 = tm + 1 ∧ kno 9000 K1 H1 = true)) := by
     obtain ⟨hp, et, eK, eH⟩ := hE1.out
     rw [← HSG.out] at hp eK
     have h := fn_put R0.out HIL.out hp
     rw [← et, ← eK, ← eH] at h
     exact ⟨h.1, by rw [← hZ1.out.1, h.2.1, Z0.out.len], h.2.2.1, h.2.2.2⟩
    clear hE1 hZ1 ci1
    have eN := HP.out.2.1
    subst eN
    have q0 := X0.out.cells
    go_wp2_with fail
    clear q0
    obtain ⟨p2, t2, K2, H2, N2, M2, hE2, hZ2, _, ci2⟩ := ren_two g ⟨#[102, 114, 101, 115, 104]⟩ (y := y) (tm := tm) Z0.out.len Z0.out.most Z0.out.sb Z0.out.glen Z0.out.gmost (by decide)
    have HRx : Hid (p2 = true ∧ t2 = tm + 1 ∧ sOk y t2 K2 H2 = true ∧ fidx (isN nmFresh) K2 0 = (i : Int) ∧ N2 = N1 ∧ (∀ k, k < S.length → k ≠ i → K2[k]? = S[k]?)) := by
     obtain ⟨hp, et, eK, eH⟩ := hE2.out
     rw [← HSG.out] at hp eK
     have h := fn_ren R0.out HIL.out
     rw [show (⟨#[102, 114, 101, 115, 104]⟩ : ByteArray) = nmFresh from rfl] at hp eK
     rw [h.1] at hp
     subst hp
     have eK : K2 = S.set i (rnF y tm nmFresh (S[i]'HIL.out)) := eK.trans h.2.1
     have eH : H2 = G := eH
     refine ⟨rfl, et, by rw [eK, eH, et]; exact h.2.2.1, by rw [eK]; exact h.2.2.2, by rw [← hZ2.out.1, eK, List.length_set, Z0.out.len], fun k _ hki => by rw [eK]; exact set_at hki⟩
    obtain ⟨ep, et, hr2⟩ := HRx.out
    clear HRx
    subst ep
    have HT2 := hid et
    have HW2 : Hid (IntKind.i64.wrap (tm + 1) = t2) := by show _ = _; rw [et]; exact HW.out
    have HR := hid hr2
    have eN := hr2.2.2.1
    clear hr2 et
    subst eN
    clear hE2 hZ2
    refine (Z0.out.use (fun lo hi h => ci2.out lo hi (some ⟨kk, oo, none⟩) bc ga gc _ h)).mono ?_; rintro e w4 ⟨a2, c2, d2, e2, rfl, ht, hb⟩
    obtain ⟨k2, hk2⟩ : ∃ k2, w4.heap.size = k2 := ⟨_, rfl⟩
    obtain ⟨W51, hW51⟩ : ∃ W51, (w4.alloc (.cells #[.int .i64 y, .int .i64 t2, .slice a2 N2 c2, .slice d2 M2 e2] 27)) = W51 := ⟨_, rfl⟩
    have HB51 : Below wc.heap.size wc W51 := by rw [← hW51]; exact bpush (hb) _
    have X0 := hid (X0.out.later HB51)
    have Z0 := hid (Z0.out.later HB51)
    have PC := hid (PC.out.later HB51)
    have K0 := hid (K0.out.later HB51)
    have X9 := hid (X9.out.later HB51)
    have Z9 := hid (Z9.out.later HB51)
    have BE := hid (btr BE.out HB51)
    clear HB51
    have X2 : Hid (Sx W51 k2 27 y t2 (.slice a2 N2 c2) (.slice d2 M2 e2)) := by rw [← hW51, ← hk2]; exact Sx.new _ _ _ _ _ _
    have Z2 : Hid (Tz W51 a2 N2 c2 d2 M2 e2 K2 H2) := by rw [← hW51]; exact ht.tz.later (bpush (bre _) _)
    clear ht hb ci2
    have q0 := X0.out.cells
    go_wp2_with fail
    clear q0
    try rw [hk2]
    try rw [hW51]
    clear hk2 hW51
    obtain ⟨p3, t3, K3, H3, N3, M3, hE3, hZ3, _, ci3⟩ := dropB_two g (y := y) (tm := tm) Z0.out.len Z0.out.most Z0.out.sb Z0.out.glen Z0.out.gmost
    have HDx : Hid (p3 = true ∧ t3 = tm ∧ sOk y tm K3 H3 = true ∧ (∀ k (hk : k < S.length), k ≠ i → 0 ≤ fidx (isG S[k].1) K3 0) ∧ fidx (isG g) K3 0 = -1 ∧ kno g K3 H3 = true) := by
     obtain ⟨hp, et, eK, eH⟩ := hE3.out
     rw [← HSG.out] at hp eK eH ⊢
     have h := fn_drop R0.out HIL.out
     rw [h.1] at hp
     subst hp
     have eK : K3 = dbS S (S[i]'HIL.out).1 := eK
     have eH : H3 = pin (S[i]'HIL.out).1 G := eH
     subst eK
     subst eH
     exact ⟨rfl, et, h.2.1, h.2.2.1, h.2.2.2.1, h.2.2.2.2⟩
    obtain ⟨ep, et, hd2⟩ := HDx.out
    clear HDx
    have et := et.symm
    subst ep
    subst et
    have HD := hid hd2
    clear hd2 hE3 hZ3
    refine (Z0.out.use (fun lo hi h => ci3.out lo hi (some ⟨kk, oo, none⟩) bc ga gc _ h)).mono ?_; rintro e w5 ⟨a3, c3, d3, e3, rfl, ht, hb⟩
    obtain ⟨k3, hk3⟩ : ∃ k3, w5.heap.size = k3 := ⟨_, rfl⟩
    obtain ⟨W52, hW52⟩ : ∃ W52, (w5.alloc (.cells #[.int .i64 y, .int .i64 tm, .slice a3 N3 c3, .slice d3 M3 e3] 27)) = W52 := ⟨_, rfl⟩
    have HB52 : Below W51.heap.size W51 W52 := by rw [← hW52]; exact bpush (hb) _
    have X0 := hid (X0.out.later HB52)
    have Z0 := hid (Z0.out.later HB52)
    have PC := hid (PC.out.later HB52)
    have K0 := hid (K0.out.later HB52)
    have X9 := hid (X9.out.later HB52)
    have Z9 := hid (Z9.out.later HB52)
    have X2 := hid (X2.out.later HB52)
    have Z2 := hid (Z2.out.later HB52)
    have BE := hid (btr BE.out HB52)
    clear HB52
    have X3 : Hid (Sx W52 k3 27 y tm (.slice a3 N3 c3) (.slice d3 M3 e3)) := by rw [← hW52, ← hk3]; exact Sx.new _ _ _ _ _ _
    have Z3 : Hid (Tz W52 a3 N3 c3 d3 M3 e3 K3 H3) := by rw [← hW52]; exact ht.tz.later (bpush (bre _) _)
    clear ht hb ci3
    go_upto_region 13 with fail
    try rw [hk3]
    try rw [hW52]
    clear hk3 hW52
    go_cut [113] from 20 (fun s wx => s = .bool false ∧ W52 = wx)
    case first =>
     have q0 := X0.out.cells
     have q2 := X2.out.cells
     have hw := HW2.out
     cases p1 with
     | false =>
      go_wp2_with fail
      go_meet
      exact ⟨rfl, rfl⟩
     | true =>
      have et := (HP.out.2.2.2 rfl).1.trans HT2.out.symm
      subst et
      have q9 := X9.out.cells
      go_wp2_with fail
      go_meet
      exact ⟨rfl, rfl⟩
    case rest =>
     obtain ⟨rfl, rfl⟩ := hcut
     go_wp2_with fail
     go_loopg [15] N2 (fun gg s wx => ∃ k : Nat, k ≤ N2 ∧ gg = N2 - k ∧ s = .int .i64 (k : Int) ∧ Below W52.heap.size W52 wx)
     case atStart => exact ⟨0, by omega, by omega, rfl, bre _⟩
     case round =>
      obtain ⟨k, hkl, hgk, rfl, hbw⟩ := hrel
      have HGK := hid hgk
      have X0 := hid (X0.out.later hbw)
      have Z0 := hid (Z0.out.later hbw)
      have PC := hid (PC.out.later hbw)
      have K0 := hid (K0.out.later hbw)
      have X9 := hid (X9.out.later hbw)
      have Z9 := hid (Z9.out.later hbw)
      have X2 := hid (X2.out.later hbw)
      have Z2 := hid (Z2.out.later hbw)
      have X3 := hid (X3.out.later hbw)
      have Z3 := hid (Z3.out.later hbw)
      have BE := hid (btr BE.out hbw)
      have HBW := hid hbw
      clear hbw hgk
      by_cases hkn : k < N2
      ·have hkn' : (k : Int) < (N2 : Int) := by omega
       have hNm : N2 ≤ 1048576 := Z0.out.most
       have HKL : Hid (k < S.length) := by show _ < _; rw [Z0.out.len]; exact hkn
       obtain ⟨⟨g', nm', t', b', nx', L', G'⟩, hSk⟩ : ∃ s, S[k]'HKL.out = s := ⟨_, rfl⟩
       have HSKG : Hid ((S[k]'HKL.out).1 = g') := by show _ = _; rw [hSk]
       have HSK : Hid (S[k]? = some (g', nm', t', b', nx', L', G')) := by show _ = _; rw [List.getElem?_eq_getElem HKL.out, hSk]
       clear hSk
       obtain ⟨mn', hmn⟩ : ∃ v, L'.length = v := ⟨_, rfl⟩
       obtain ⟨gn', hgn⟩ : ∃ v, G'.length = v := ⟨_, rfl⟩
       obtain ⟨kk', oo', ma', mc', ha', hc', hba', hrk'⟩ := Z0.out.rk HSK.out hmn hgn
       simp only [Option.some.injEq, Addr.mk.injEq] at hba'
       obtain ⟨rfl, rfl, _⟩ := hba'
       have KK0 := hid hrk'
       have HMN := hid hmn
       have HGN := hid hgn
       clear hmn hgn hrk'
       have hIk : (0 : Int) ≤ (k : Int) ∧ (k : Int) < (N2 : Int) := by omega
       have q0 := X0.out.cells
       have q1 := KK0.out.c7.1
       have q3 := X3.out.cells
       go_wp2_with fail
       clear q0 q1 q3
       by_cases hki : k = i
       ·have hj : fidx (isG g') K3 0 = -1 := by
         have h1 := HSK.out
         rw [hki, HSI.out] at h1
         simp only [Option.some.injEq, Prod.mk.injEq] at h1
         rw [← h1.1]
         exact HD.out.2.2.1
        subst hki
        refine (boxAt_is Z3.out y tm g' (-1) hj).mono ?_; rintro e w6 ⟨rfl, hb⟩
        have HB6 := hid (btr HBW.out hb)
        clear hb hj
        go_wp2_with fail
        refine wp_region_noPanic ?_
        refine wp_region_held_drew (S := (fun _ => True)) (by kernel_rfl) (trivial) (fun hHeld => ?_)
        refine tk 0 ?_
        refine tk 1 ?_
        refine tk 2 ?_
        refine tk 3 ?_
        refine tn 4 ?_
        refine tn 5 ?_
        refine tn 6 ?_
        refine tn 7 ?_
        refine tn 8 ?_
        refine tn 9 ?_
        refine tn 10 ?_
        refine tn 11 ?_
        refine tn 12 ?_
        refine tn 13 ?_
        refine tn 14 ?_
        refine tn 15 ?_
        refine tn 16 ?_
        refine tn 17 ?_
        refine tn 18 ?_
        refine tn 19 ?_
        refine tn 20 ?_
        refine tn 21 ?_
        refine tn 22 ?_
        refine tn 23 ?_
        refine tn 24 ?_
        refine tn 25 ?_
        refine tn 26 ?_
        refine tn 27 ?_
        refine tn 28 ?_
        refine tn 29 ?_
        refine tn 30 ?_
        refine tn 31 ?_
        refine tn 32 ?_
        refine tn 33 ?_
        refine tk 34 ?_
        refine tk 35 ?_
        refine tk 36 ?_
        refine tk 37 ?_
        refine tk 38 ?_
        refine tk 39 ?_
        refine tk 40 ?_
        refine tk 41 ?_
        refine tk 42 ?_
        refine tk 43 ?_
        refine wpAnyH_done (by kernel_rfl) ?_ _
        refine NoPanic.normal ?_
        clear hHeld
        go_wp2
        go_roundg (N2 - (k + 1))
        case measure => have := HGK.out; omega
        case rel => exact ⟨k + 1, by omega, rfl, by go_num, bdr HB6.out⟩
       ·have hj0 := HD.out.2.1 k HKL.out hki
        rw [HSKG.out] at hj0
        obtain ⟨j, hj⟩ : ∃ j : Nat, fidx (isG g') K3 0 = (j : Int) := ⟨(fidx (isG g') K3 0).toNat, by omega⟩
        refine (boxAt_is Z3.out y tm g' (j : Int) hj).mono ?_; rintro e w6 ⟨rfl, hb⟩
        have HB6 := hid (btr HBW.out hb)
        have X0 := hid (X0.out.later hb)
        have X9 := hid (X9.out.later hb)
        have X2 := hid (X2.out.later hb)
        have KK0 := hid (KK0.out.later hb)
        obtain ⟨ka, oa, mx, mcx, hx, hcx, hba, hrk⟩ := (Z9.out.later hb).rk ((HP.out.2.2.1 k HKL.out hki).trans HSK.out) HMN.out HGN.out
        subst hba
        have KK9 := hid hrk
        obtain ⟨kz, oz, mz, mcz, hz, hcz, hbz, hrz⟩ := (Z2.out.later hb).rk ((HR.out.2.2.2 k HKL.out hki).trans HSK.out) HMN.out HGN.out
        subst hbz
        have KK2 := hid hrz
        have hkb : ((k : Int) != (i : Int)) = true := by simp; omega
        have hkc : ((k : Int) == (i : Int)) = false := beq_eq_false_iff_ne.2 (by omega)
        have hkd : ¬ (k : Int) = (i : Int) := by omega
        clear hb hj hj0 hrk hrz
        have HS : Hid (∀ W, Below w6.heap.size w6 W → W.cell? ⟨k9, 2, none⟩ = some (.slice (some ⟨ka, oa, none⟩) N2 c9) ∧ W.cell? ⟨k0, 2, none⟩ = some (.slice (some ⟨kk, oo, none⟩) N2 bc) ∧ W.cell? ⟨k2, 2, none⟩ = some (.slice (some ⟨kz, oz, none⟩) N2 c2) ∧ (W.cell? ⟨ka, oa + k * 7, none⟩ = some (.int .i64 g') ∧ W.cell? ⟨ka, oa + k * 7 + 1, none⟩ = some (.string nm') ∧ W.cell? ⟨ka, oa + k * 7 + 2, none⟩ = some (.int .i64 t') ∧ W.cell? ⟨ka, oa + k * 7 + 3, none⟩ = some (.int .i64 b') ∧ W.cell? ⟨ka, oa + k * 7 + 4, none⟩ = some (.int .i64 nx') ∧ W.cell? ⟨ka, oa + k * 7 + 5, none⟩ = some (.slice mx mn' mcx) ∧ W.cell? ⟨ka, oa + k * 7 + 6, none⟩ = some (.slice hx gn' hcx)) ∧ (W.cell? ⟨kk, oo + k * 7, none⟩ = some (.int .i64 g') ∧ W.cell? ⟨kk, oo + k * 7 + 1, none⟩ = some (.string nm') ∧ W.cell? ⟨kk, oo + k * 7 + 2, none⟩ = some (.int .i64 t') ∧ W.cell? ⟨kk, oo + k * 7 + 3, none⟩ = some (.int .i64 b') ∧ W.cell? ⟨kk, oo + k * 7 + 4, none⟩ = some (.int .i64 nx') ∧ W.cell? ⟨kk, oo + k * 7 + 5, none⟩ = some (.slice ma' mn' mc') ∧ W.cell? ⟨kk, oo + k * 7 + 6, none⟩ = some (.slice ha' gn' hc')) ∧ (W.cell? ⟨kz, oz + k * 7, none⟩ = some (.int .i64 g') ∧ W.cell? ⟨kz, oz + k * 7 + 1, none⟩ = some (.string nm') ∧ W.cell? ⟨kz, oz + k * 7 + 2, none⟩ = some (.int .i64 t') ∧ W.cell? ⟨kz, oz + k * 7 + 3, none⟩ = some (.int .i64 b') ∧ W.cell? ⟨kz, oz + k * 7 + 4, none⟩ = some (.int .i64 nx') ∧ W.cell? ⟨kz, oz + k * 7 + 5, none⟩ = some (.slice mz mn' mcz) ∧ W.cell? ⟨kz, oz + k * 7 + 6, none⟩ = some (.slice hz gn' hcz))) := fun W h => ⟨(X9.out.later h).cells.2.2.1, (X0.out.later h).cells.2.2.1, (X2.out.later h).cells.2.2.1, (KK9.out.later h).c7, (KK0.out.later h).c7, (KK2.out.later h).c7⟩
        go_wp2_with fail
        refine wp_region_noPanic ?_
        refine wp_region_held_drew (S := (fun W => W.cell? ⟨k9, 2, none⟩ = some (.slice (some ⟨ka, oa, none⟩) N2 c9) ∧ W.cell? ⟨k0, 2, none⟩ = some (.slice (some ⟨kk, oo, none⟩) N2 bc) ∧ W.cell? ⟨k2, 2, none⟩ = some (.slice (some ⟨kz, oz, none⟩) N2 c2) ∧ (W.cell? ⟨ka, oa + k * 7, none⟩ = some (.int .i64 g') ∧ W.cell? ⟨ka, oa + k * 7 + 1, none⟩ = some (.string nm') ∧ W.cell? ⟨ka, oa + k * 7 + 2, none⟩ = some (.int .i64 t') ∧ W.cell? ⟨ka, oa + k * 7 + 3, none⟩ = some (.int .i64 b') ∧ W.cell? ⟨ka, oa + k * 7 + 4, none⟩ = some (.int .i64 nx') ∧ W.cell? ⟨ka, oa + k * 7 + 5, none⟩ = some (.slice mx mn' mcx) ∧ W.cell? ⟨ka, oa + k * 7 + 6, none⟩ = some (.slice hx gn' hcx)) ∧ (W.cell? ⟨kk, oo + k * 7, none⟩ = some (.int .i64 g') ∧ W.cell? ⟨kk, oo + k * 7 + 1, none⟩ = some (.string nm') ∧ W.cell? ⟨kk, oo + k * 7 + 2, none⟩ = some (.int .i64 t') ∧ W.cell? ⟨kk, oo + k * 7 + 3, none⟩ = some (.int .i64 b') ∧ W.cell? ⟨kk, oo + k * 7 + 4, none⟩ = some (.int .i64 nx') ∧ W.cell? ⟨kk, oo + k * 7 + 5, none⟩ = some (.slice ma' mn' mc') ∧ W.cell? ⟨kk, oo + k * 7 + 6, none⟩ = some (.slice ha' gn' hc')) ∧ (W.cell? ⟨kz, oz + k * 7, none⟩ = some (.int .i64 g') ∧ W.cell? ⟨kz, oz + k * 7 + 1, none⟩ = some (.string nm') ∧ W.cell? ⟨kz, oz + k * 7 + 2, none⟩ = some (.int .i64 t') ∧ W.cell? ⟨kz, oz + k * 7 + 3, none⟩ = some (.int .i64 b') ∧ W.cell? ⟨kz, oz + k * 7 + 4, none⟩ = some (.int .i64 nx') ∧ W.cell? ⟨kz, oz + k * 7 + 5, none⟩ = some (.slice mz mn' mcz) ∧ W.cell? ⟨kz, oz + k * 7 + 6, none⟩ = some (.slice hz gn' hcz)))) (by kernel_rfl) (HS.out _ (bdr (bre _))) (fun hHeld => ?_)
        refine tk 0 ?_
        refine tk 1 ?_
        refine tk 2 ?_
        refine tk 3 ?_
        refine tk 4 ?_
        refine tk 5 ?_
        refine tk 6 ?_
        refine tk 7 ?_
        refine tk 8 ?_
        refine tk 9 ?_
        refine tk 10 ?_
        refine tk 11 ?_
        refine tk 12 ?_
        refine tk 13 ?_
        clear hHeld
        refine ry 14 (fun K hK => ?_)
        go_simp
        refine (same_rk (KK9.out.later (bdr (bre _))) (KK0.out.later (bdr (bre _)))).mono ?_
        rintro e v14 ⟨rfl, hb⟩
        have HV : Hid (Below w6.heap.size w6 v14) := btr (bdr (bre _)) hb
        clear hb
        go_wp2_with fail
        refine hK.out _ _ (HS.out _ HV.out) (fun hHeld => ?_)
        clear hK K
        try simp only [Act.put, tp2, tp3, tp4]
        refine tk 15 ?_
        refine tk 16 ?_
        refine tk 17 ?_
        refine tk 18 ?_
        refine tk 19 ?_
        refine tk 20 ?_
        refine tk 21 ?_
        refine tk 22 ?_
        refine tk 23 ?_
        refine tk 24 ?_
        refine tk 25 ?_
        refine tk 26 ?_
        clear hHeld
        refine ry 27 (fun K hK => ?_)
        go_simp
        refine (same_rk (KK2.out.later HV.out) (KK0.out.later HV.out)).mono ?_
        rintro e v27 ⟨rfl, hb⟩
        have HV := hid (btr HV.out hb)
        clear hb
        go_wp2_with fail
        refine hK.out _ _ (HS.out _ HV.out) (fun hHeld => ?_)
        clear hK K
        try simp only [Act.put, tp2, tp3, tp4]
        refine tk 28 ?_
        refine tk 29 ?_
        refine tk 30 ?_
        refine tk 31 ?_
        refine tk 32 ?_
        refine tk 33 ?_
        refine tk 34 ?_
        refine tk 35 ?_
        refine tk 36 ?_
        refine tk 37 ?_
        refine tk 38 ?_
        refine tk 39 ?_
        refine tn 40 ?_
        refine tn 41 ?_
        refine tk 42 ?_
        refine tk 43 ?_
        refine wpAnyH_done (by kernel_rfl) ?_ _
        refine NoPanic.normal ?_
        clear hHeld
        go_wp2
        go_roundg (N2 - (k + 1))
        case measure => have := HGK.out; omega
        case rel => exact ⟨k + 1, by omega, rfl, by go_num, btr HB6.out HV.out⟩
      ·have hkn' : ¬ (k : Int) < (N2 : Int) := by omega
       clear hkn
       have q0 := X0.out.cells
       have q3 := X3.out.cells
       go_wp2_with fail
       clear q0 q3 hkn'
       obtain ⟨p4, t4, K4, H4, N4, M4, hE4, hZ4, _, ci4⟩ := make_two g ⟨#[111, 116, 104, 101, 114]⟩ (y := y) (tm := tm) Z3.out.len Z3.out.most Z3.out.sb Z3.out.glen Z3.out.gmost (by decide)
       have ep : p4 = false := by have h := hE4.out.1; rw [HD.out.2.2.2] at h; rw [← h]; simp
       subst ep
       clear hE4 hZ4
       refine (Z3.out.use (fun lo hi h => ci4.out lo hi a3 c3 d3 e3 _ h)).mono ?_; rintro e w7 ⟨a4, c4, d4, e4, rfl, ht, hb⟩
       obtain ⟨k4, hk4⟩ : ∃ k4, w7.heap.size = k4 := ⟨_, rfl⟩
       obtain ⟨W91, hW91⟩ : ∃ W91, (w7.alloc (.cells #[.int .i64 y, .int .i64 t4, .slice a4 N4 c4, .slice d4 M4 e4] 27)) = W91 := ⟨_, rfl⟩
       have HB91 : Below wr.heap.size wr W91 := by rw [← hW91]; exact bpush (hb) _
       have X0 := hid (X0.out.later HB91)
       have Z0 := hid (Z0.out.later HB91)
       have PC := hid (PC.out.later HB91)
       have K0 := hid (K0.out.later HB91)
       have X9 := hid (X9.out.later HB91)
       have Z9 := hid (Z9.out.later HB91)
       have X2 := hid (X2.out.later HB91)
       have Z2 := hid (Z2.out.later HB91)
       have X3 := hid (X3.out.later HB91)
       have Z3 := hid (Z3.out.later HB91)
       have BE := hid (btr BE.out HB91)
       clear HB91
       have X4 : Hid (Sx W91 k4 27 y t4 (.slice a4 N4 c4) (.slice d4 M4 e4)) := by rw [← hW91, ← hk4]; exact Sx.new _ _ _ _ _ _
       have Z4 : Hid (Tz W91 a4 N4 c4 d4 M4 e4 K4 H4) := by rw [← hW91]; exact ht.tz.later (bpush (bre _) _)
       clear ht hb ci4
       have q9 := X9.out.cells
       go_wp2_with fail
       clear q9
       try rw [hk4]
       try rw [hW91]
       clear hk4 hW91
       refine (storeOk_is Z9.out y t1 true HP.out.1).mono ?_; rintro e x1 ⟨rfl, hb⟩
       have HB92 := hb
       have X0 := hid (X0.out.later HB92)
       have Z0 := hid (Z0.out.later HB92)
       have PC := hid (PC.out.later HB92)
       have K0 := hid (K0.out.later HB92)
       have X9 := hid (X9.out.later HB92)
       have Z9 := hid (Z9.out.later HB92)
       have X2 := hid (X2.out.later HB92)
       have Z2 := hid (Z2.out.later HB92)
       have X3 := hid (X3.out.later HB92)
       have Z3 := hid (Z3.out.later HB92)
       have X4 := hid (X4.out.later HB92)
       have Z4 := hid (Z4.out.later HB92)
       have BE := hid (btr BE.out HB92)
       clear HB92
       clear hb
       have q0 := X2.out.cells
       go_wp2_with fail
       clear q0
       refine (storeOk_is Z2.out y t2 true HR.out.1).mono ?_; rintro e x2 ⟨rfl, hb⟩
       have HB93 := hb
       have X0 := hid (X0.out.later HB93)
       have Z0 := hid (Z0.out.later HB93)
       have PC := hid (PC.out.later HB93)
       have K0 := hid (K0.out.later HB93)
       have X9 := hid (X9.out.later HB93)
       have Z9 := hid (Z9.out.later HB93)
       have X2 := hid (X2.out.later HB93)
       have Z2 := hid (Z2.out.later HB93)
       have X3 := hid (X3.out.later HB93)
       have Z3 := hid (Z3.out.later HB93)
       have X4 := hid (X4.out.later HB93)
       have Z4 := hid (Z4.out.later HB93)
       have BE := hid (btr BE.out HB93)
       clear HB93
       clear hb
       have q0 := X3.out.cells
       go_wp2_with fail
       clear q0
       refine (storeOk_is Z3.out y tm true HD.out.1).mono ?_; rintro e x3 ⟨rfl, hb⟩
       have HB94 := hb
       have X0 := hid (X0.out.later HB94)
       have Z0 := hid (Z0.out.later HB94)
       have PC := hid (PC.out.later HB94)
       have K0 := hid (K0.out.later HB94)
       have X9 := hid (X9.out.later HB94)
       have Z9 := hid (Z9.out.later HB94)
       have X2 := hid (X2.out.later HB94)
       have Z2 := hid (Z2.out.later HB94)
       have X3 := hid (X3.out.later HB94)
       have Z3 := hid (Z3.out.later HB94)
       have X4 := hid (X4.out.later HB94)
       have Z4 := hid (Z4.out.later HB94)
       have BE := hid (btr BE.out HB94)
       clear HB94
       clear hb
       have q0 := X2.out.cells
       go_wp2_with fail
       clear q0
       refine (boxNamed_is Z2.out y t2 nmFresh (i : Int) HR.out.2.1).mono ?_; rintro e x4 ⟨rfl, hb⟩
       have HB95 := hb
       have X0 := hid (X0.out.later HB95)
       have Z0 := hid (Z0.out.later HB95)
       have PC := hid (PC.out.later HB95)
       have K0 := hid (K0.out.later HB95)
       have X9 := hid (X9.out.later HB95)
       have Z9 := hid (Z9.out.later HB95)
       have X2 := hid (X2.out.later HB95)
       have Z2 := hid (Z2.out.later HB95)
       have X3 := hid (X3.out.later HB95)
       have Z3 := hid (Z3.out.later HB95)
       have X4 := hid (X4.out.later HB95)
       have Z4 := hid (Z4.out.later HB95)
       have BE := hid (btr BE.out HB95)
       clear HB95
       clear hb
       have q0 := X3.out.cells
       go_wp2_with fail
       clear q0
       have q9 := X9.out.cells
       cases p1 with
       | false =>
        refine (knows_is Z3.out y tm g true HD.out.2.2.2).mono ?_; rintro e x5 ⟨rfl, hb⟩
        have HB96 := hb
        have X0 := hid (X0.out.later HB96)
        have Z0 := hid (Z0.out.later HB96)
        have PC := hid (PC.out.later HB96)
        have K0 := hid (K0.out.later HB96)
        have X9 := hid (X9.out.later HB96)
        have Z9 := hid (Z9.out.later HB96)
        have X2 := hid (X2.out.later HB96)
        have Z2 := hid (Z2.out.later HB96)
        have X3 := hid (X3.out.later HB96)
        have Z3 := hid (Z3.out.later HB96)
        have X4 := hid (X4.out.later HB96)
        have Z4 := hid (Z4.out.later HB96)
        have BE := hid (btr BE.out HB96)
        clear HB96
        clear hb
        go_wp2
        go_ret
        exact ⟨rfl, BE.out⟩
       | true =>
        refine (knows_is Z3.out y tm g true HD.out.2.2.2).mono ?_; rintro e x5 ⟨rfl, hb⟩
        have HB97 := hb
        have X0 := hid (X0.out.later HB97)
        have Z0 := hid (Z0.out.later HB97)
        have PC := hid (PC.out.later HB97)
        have K0 := hid (K0.out.later HB97)
        have X9 := hid (X9.out.later HB97)
        have Z9 := hid (Z9.out.later HB97)
        have X2 := hid (X2.out.later HB97)
        have Z2 := hid (Z2.out.later HB97)
        have X3 := hid (X3.out.later HB97)
        have Z3 := hid (Z3.out.later HB97)
        have X4 := hid (X4.out.later HB97)
        have Z4 := hid (Z4.out.later HB97)
        have BE := hid (btr BE.out HB97)
        clear HB97
        clear hb q9
        have q9 := X9.out.cells
        go_wp2_with fail
        clear q9
        refine (knows_is Z9.out y t1 9000 true (HP.out.2.2.2 (by trivial)).2).mono ?_; rintro e x6 ⟨rfl, hb⟩
        have HB98 := hb
        have X0 := hid (X0.out.later HB98)
        have Z0 := hid (Z0.out.later HB98)
        have PC := hid (PC.out.later HB98)
        have K0 := hid (K0.out.later HB98)
        have X9 := hid (X9.out.later HB98)
        have Z9 := hid (Z9.out.later HB98)
        have X2 := hid (X2.out.later HB98)
        have Z2 := hid (Z2.out.later HB98)
        have X3 := hid (X3.out.later HB98)
        have Z3 := hid (Z3.out.later HB98)
        have X4 := hid (X4.out.later HB98)
        have Z4 := hid (Z4.out.later HB98)
        have BE := hid (btr BE.out HB98)
        clear HB98
        clear hb
        have q0 := X0.out.cells
        go_wp2_with fail
        clear q0
        refine (knows_is Z0.out y tm 9000 false (R0.out.unknown (by omega))).mono ?_; rintro e x7 ⟨rfl, hb⟩
        have BE := hid (btr BE.out hb)
        clear hb
        go_wp2
        go_ret
        exact ⟨rfl, BE.out⟩
end Go.Proofs.YtkbecgcbheopnaaGreat
