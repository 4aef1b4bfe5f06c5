/- Mm, Twa. -/

import Derived.Test.YtmpcmllfgogegaaGreatjHfb
namespace Go.Proofs.YtmpcmllfgogegaaGreat
open Go.RowKit Go.ChangeMaps
structure Bg (W : World) (lo hi : Nat) (nm : ByteArray) (ma : Option Addr) (mn mc : Nat) (ga : Option Addr) (gn gc : Nat) (L : List M4) (G : List Int) : Prop where
 nmz : nm.size ≤ 20
 len : L.length = mn
 most : mn ≤ 20
 sm : Sm L
 mails : Ms lo hi W ma L
 m0 : ma = none → mc = 0
 glen : G.length = gn
 gmost : gn ≤ 50
 gone : Is lo hi W ga G
 g0 : ga = none → gc = 0
section
variable {W W' : World} {lo hi : Nat} {nm : ByteArray} {ma : Option Addr} {mn mc : Nat} {ga : Option Addr} {gn gc : Nat} {L : List M4} {G : List Int}
end
structure As (w W : World) (cb : Nat) (ao : Option Addr) (n cap kb hi : Nat) (g : Int) (nm : ByteArray) (t b nx : Int) (ma : Option Addr) (mn mc : Nat) (ga : Option Addr) (gn gc : Nat) (L : List M4) (G : List Int) : Prop where
 res : Bx W w.heap.size 29 0 ⟨#[]⟩ 0 0 0 (.slice none 0 0) (.slice none 0 0)
 box : Bx W kb 29 g nm t b nx (.slice ma mn mc) (.slice ga gn gc)
 bg : Bg W (w.heap.size + 1) hi nm ma mn mc ga gn gc L G
 cur : Cur W cb ao n cap
 gr : w.grownBy W (some cb)
 lo : w.heap.size < kb
 hi : cb < w.heap.size
section
variable {w W W' : World} {cb : Nat} {ao : Option Addr} {n cap kb hi : Nat} {g : Int} {nm : ByteArray} {t b nx : Int} {ma : Option Addr} {mn mc : Nat} {ga : Option Addr} {gn gc : Nat} {L : List M4} {G : List Int}
end
def Any6 (cb : Nat) (ao : Option Addr) (n cap : Nat) (w : World) (e : Ending) (w' : World) : Prop :=
 ∃ (g : Int) (nm : ByteArray) (t b nx : Int) (ma : Option Addr) (mn mc : Nat) (ga : Option Addr) (gn gc : Nat) (L : List M4) (G : List Int) (hi : Nat), e = .returned (.agg #[.int .i64 g, .string nm, .int .i64 t, .int .i64 b, .int .i64 nx, .slice ma mn mc, .slice ga gn gc]) ∧ Bg w' (w.heap.size + 1) hi nm ma mn mc ga gn gc L G ∧ Cur w' cb ao n cap ∧ w.grownBy w' (some cb)
def Bq (W : World) (lo : Nat) (nm : ByteArray) (ma : Option Addr) (mn mc : Nat) (ga : Option Addr) (gn gc : Nat) (L : List M4) (G : List Int) : Prop := ∃ hi, Bg W lo hi nm ma mn mc ga gn gc L G
def Pair6 (w : World) (e : Ending) (w' : World) : Prop :=
 ∃ (g : Int) (nm : ByteArray) (t b nx : Int) (ma : Option Addr) (mn mc : Nat) (ga : Option Addr) (gn gc : Nat) (L : List M4) (G : List Int) (gid : Int), e = .returned (.tuple #[.agg #[.int .i64 g, .string nm, .int .i64 t, .int .i64 b, .int .i64 nx, .slice ma mn mc, .slice ga gn gc], .int .i64 gid]) ∧ Bq w' (w.heap.size + 1) nm ma mn mc ga gn gc L G ∧ Below w.heap.size w w'
def One6 (w : World) (e : Ending) (w' : World) : Prop :=
 ∃ (g : Int) (nm : ByteArray) (t b nx : Int) (ma : Option Addr) (mn mc : Nat) (ga : Option Addr) (gn gc : Nat) (L : List M4) (G : List Int), e = .returned (.agg #[.int .i64 g, .string nm, .int .i64 t, .int .i64 b, .int .i64 nx, .slice ma mn mc, .slice ga gn gc]) ∧ Bq w' (w.heap.size + 1) nm ma mn mc ga gn gc L G ∧ Below w.heap.size w w'
def Right6 (w : World) (e : Ending) (w' : World) : Prop :=
 ∃ (g : Int) (nm : ByteArray) (t b nx : Int) (ma : Option Addr) (mn mc : Nat) (ga : Option Addr) (gn gc : Nat) (L : List M4) (G : List Int), e = .returned (.agg #[.int .i64 g, .string nm, .int .i64 t, .int .i64 b, .int .i64 nx, .slice ma mn mc, .slice ga gn gc]) ∧ Dbx 11 g nm t b nx L G ∧ Bq w' (w.heap.size + 1) nm ma mn mc ga gn gc L G ∧ Below w.heap.size w w'
def Add6 (w : World) (e : Ending) (w' : World) : Prop :=
 ∃ (g : Int) (nm : ByteArray) (t b nx : Int) (ma : Option Addr) (mn mc : Nat) (ga : Option Addr) (gn gc : Nat) (L : List M4) (G : List Int) (gid fl : Int) (tx : ByteArray) (st sb : Int), e = .returned (.tuple #[.agg #[.int .i64 g, .string nm, .int .i64 t, .int .i64 b, .int .i64 nx, .slice ma mn mc, .slice ga gn gc], .int .i64 gid, .int .i64 fl, .string tx, .agg #[.int .i64 st, .int .i64 sb]]) ∧ tx.size ≤ 100 ∧ Bq w' (w.heap.size + 1) nm ma mn mc ga gn gc L G ∧ Below w.heap.size w w'
def Flag6 (w : World) (e : Ending) (w' : World) : Prop :=
 ∃ (g : Int) (nm : ByteArray) (t b nx : Int) (ma : Option Addr) (mn mc : Nat) (ga : Option Addr) (gn gc : Nat) (L : List M4) (G : List Int) (gid fl : Int) (st sb : Int), e = .returned (.tuple #[.agg #[.int .i64 g, .string nm, .int .i64 t, .int .i64 b, .int .i64 nx, .slice ma mn mc, .slice ga gn gc], .int .i64 gid, .int .i64 fl, .agg #[.int .i64 st, .int .i64 sb]]) ∧ Bq w' (w.heap.size + 1) nm ma mn mc ga gn gc L G ∧ Below w.heap.size w w'
structure Rs6 (w W : World) : Prop where
 bx : Bx W w.heap.size 29 0 ⟨#[]⟩ 0 0 0 (.slice none 0 0) (.slice none 0 0)
 sg : Sg W (w.heap.size + 1) 25 0 0
 bel : Below w.heap.size w W
structure Rc6 (w W : World) (ao : Option Addr) (n cap : Nat) : Prop where
 rs : Rs6 w W
 cur : Cur W (w.heap.size + 1 + 1) ao n cap
 code : Code W (w.heap.size + 1 + 1) ao n
structure Rd6 (w W : World) (ao : Option Addr) (n cap kt kb hi : Nat) (st sb : Int) (g : Int) (nm : ByteArray) (t b nx : Int) (ma : Option Addr) (mn mc : Nat) (ga : Option Addr) (gn gc : Nat) (L : List M4) (G : List Int) : Prop where
 rcQ : Rc6 w W ao n cap
 sg : Sg W kt 25 st sb
 bx : Bx W kb 29 g nm t b nx (.slice ma mn mc) (.slice ga gn gc)
 bg : Bg W (w.heap.size + 1 + 1 + 1) hi nm ma mn mc ga gn gc L G
 kl : w.heap.size + 1 + 1 < kt
 kk : kt < kb
structure Bz (W : World) (ma : Option Addr) (mn mc : Nat) (ga : Option Addr) (gn gc : Nat) (L : List M4) (G : List Int) : Prop where
 len : L.length = mn
 most : mn ≤ 1048576
 sm : Sm L
 mails : ∃ lo hi, Ms lo hi W ma L
 m0 : ma = none → mc = 0
 glen : G.length = gn
 gmost : gn ≤ 1048576
 gone : ∃ lo hi, Is lo hi W ga G
 g0 : ga = none → gc = 0
section
variable {W W' : World} {ma : Option Addr} {mn mc : Nat} {ga : Option Addr} {gn gc : Nat} {L : List M4} {G : List Int}
theorem Bz.later (h : Bz W ma mn mc ga gn gc L G) (hb : Below W.heap.size W W') : Bz W' ma mn mc ga gn gc L G := by
 obtain ⟨l1, h1, hm⟩ := h.mails
 obtain ⟨l2, h2, hi⟩ := h.gone
 exact ⟨h.len, h.most, h.sm, ⟨l1, h1, hm.later hb⟩, h.m0, h.glen, h.gmost, ⟨l2, h2, hi.later hb⟩, h.g0⟩
structure BzL (W : World) (lo : Nat) (ma : Option Addr) (mn mc : Nat) (ga : Option Addr) (gn gc : Nat) (L : List M4) (G : List Int) : Prop where
 bz : Bz W ma mn mc ga gn gc L G
 mlo : ∃ hi, Ms lo hi W ma L
 glo : ∃ hi, Is lo hi W ga G
theorem own_bz {B : Nat} {mv gv : Value} (h : OwB W B mv gv L G) (h1 : L.length ≤ 1048576) (h2 : Sm L) (h3 : G.length ≤ 1048576) : ∃ a c a' c', mv = .slice a L.length c ∧ gv = .slice a' G.length c' ∧ BzL W B a L.length c a' G.length c' L G := by
 obtain ⟨a, c, a', c', rfl, rfl⟩ := h.shape
 exact ⟨a, c, a', c', rfl, rfl, ⟨rfl, h1, h2, ⟨_, _, h.reads.2.2.1⟩, h.none.1, rfl, h3, ⟨_, _, h.reads.2.2.2⟩, h.none.2⟩, ⟨_, h.reads.2.2.1⟩, ⟨_, h.reads.2.2.2⟩⟩
end
theorem sameBox_bz (g : Int) (nm : ByteArray) (t b nx : Int) (ma : Option Addr) (mn mc : Nat) (ga : Option Addr) (gn gc : Nat) (ma' : Option Addr) (mc' : Nat) (ga' : Option Addr) (gc' : Nat) (L : List M4) (G : List Int) (w : World) (h : Bz w ma mn mc ga gn gc L G) (h' : Bz w ma' mn mc' ga' gn gc' L G) :
  Calls Tryz.prog 11 #[.agg #[.int .i64 g, .string nm, .int .i64 t, .int .i64 b, .int .i64 nx, .slice ma mn mc, .slice ga gn gc], .agg #[.int .i64 g, .string nm, .int .i64 t, .int .i64 b, .int .i64 nx, .slice ma' mn mc', .slice ga' gn gc']] w fun e w' => e = .returned (.bool true) ∧ Below w.heap.size w w' := by
 obtain ⟨l1, h1, hm⟩ := h.mails
 obtain ⟨l2, h2, hi⟩ := h.gone
 obtain ⟨l3, h3, hm'⟩ := h'.mails
 obtain ⟨l4, h4, hi'⟩ := h'.gone
 exact sameBox_any l1 h1 l3 h3 l2 h2 l4 h4 g nm t b nx ma mn mc ga gn gc ma' mc' ga' gc' L G w h.len h.most h.sm hm hm' h.glen h.gmost hi hi'
section
variable (g : Int) (nm : ByteArray) (t b nx : Int) (mn gn : Nat) (L : List M4) (G : List Int)
end
theorem Bx.gone8 {W W' : World} {k ty cb : Nat} {g : Int} {nm : ByteArray} {t b nx : Int} {ms gs : Value} (h : Bx W k ty g nm t b nx ms gs) (hg : W.grownBy W' (some cb)) (hk : k ≠ cb) : Bx W' k ty g nm t b nx ms gs := h.grown hg (fun e => by simp only [Option.some.injEq] at e; omega)
def E8 (B k kb : Nat) (W : World) : Prop :=
 ∃ (nm : ByteArray) (t b nx : Int) (ma : Option Addr) (mn mc : Nat) (ga : Option Addr) (gn gc : Nat) (L : List M4) (G : List Int) (lo hi : Nat), Bx W kb 29 7 nm t b nx (.slice ma mn mc) (.slice ga gn gc) ∧ OwH W lo hi (.slice ma mn mc) (.slice ga gn gc) L G ∧ bxOk 7 nm t b nx L G = true ∧ (B ≤ lo ∧ (kb < lo ∨ hi ≤ kb)) ∧ hi ≤ k ∧ kb < k ∧ B ≤ kb
theorem E8.chg {B k kb cb : Nat} {W W' : World} (h : E8 B k kb W) (hc : Chg (fun j => j = cb ∨ j = k) W W') (hB : cb < B) : E8 B k kb W' := by
 obtain ⟨nm, t, b, nx, ma, mn, mc, ga, gn, gc, L, G, lo, hi, h1, h2, h3, h7, h4, h5, h6⟩ := h
 exact ⟨nm, t, b, nx, ma, mn, mc, ga, gn, gc, L, G, lo, hi, h1.chg hc (by omega), h2.chg hc (fun j _ _ => by omega), h3, h7, h4, h5, h6⟩
def Kp8 (X : World → Prop) (cb kb : Nat) : Prop := ∀ A B : World, X A → Chg (fun j => j = cb ∨ j = kb) A B → X B
theorem E8.kp {B k kb cb : Nat} (hB : cb < B) : Kp8 (E8 B k kb) cb k := fun _ _ h hc => h.chg hc hB
structure L8 (X : World → Prop) (w W : World) (cb : Nat) (ao : Option Addr) (n cap B kb : Nat) (nm : ByteArray) (t b nx : Int) (ma : Option Addr) (mn mc : Nat) (ga : Option Addr) (gn gc : Nat) (L : List M4) (G : List Int) : Prop where
 r0 : Bx W w.heap.size 29 0 ⟨#[]⟩ 0 0 0 (.slice none 0 0) (.slice none 0 0)
 r1 : Bx W (w.heap.size + 1) 29 0 ⟨#[]⟩ 0 0 0 (.slice none 0 0) (.slice none 0 0)
 box : Bx W kb 29 7 nm t b nx (.slice ma mn mc) (.slice ga gn gc)
 own : ∃ lo hi, OwH W lo hi (.slice ma mn mc) (.slice ga gn gc) L G ∧ B ≤ lo ∧ (kb < lo ∨ hi ≤ kb)
 ok : bxOk 7 nm t b nx L G = true
 cur : Cur W cb ao n cap
 gr : w.grownBy W (some cb)
 kp : Kp8 X cb kb
 x : X W
 b0 : w.heap.size + 2 ≤ B
 lo : B ≤ kb
 hi : cb < w.heap.size
section
variable {X : World → Prop} {w W W' : World} {cb : Nat} {ao : Option Addr} {n cap B kb : Nat} {nm : ByteArray} {t b nx : Int} {ma : Option Addr} {mn mc : Nat} {ga : Option Addr} {gn gc : Nat} {L : List M4} {G : List Int}
theorem L8.later (h : L8 X w W cb ao n cap B kb nm t b nx ma mn mc ga gn gc L G) (hb : Below W.heap.size W W') : L8 X w W' cb ao n cap B kb nm t b nx ma mn mc ga gn gc L G := by
 obtain ⟨lo, hi, o1, o2, o3⟩ := h.own
 exact ⟨h.r0.later hb, h.r1.later hb, h.box.later hb, ⟨lo, hi, o1.later hb, o2, o3⟩, h.ok, h.cur.later hb h.cur.lt, only_add h.gr (hb.mono h.gr.size), h.kp, h.kp _ _ h.x (Chg.of_below hb), h.b0, h.lo, h.hi⟩
theorem L8.drew (h : L8 X w W cb ao n cap B kb nm t b nx ma mn mc ga gn gc L G) : L8 X w W.drew cb ao n cap B kb nm t b nx ma mn mc ga gn gc L G := h.later (bdr (bre _))
theorem L8.draw (h : L8 X w W cb ao n cap B kb nm t b nx ma mn mc ga gn gc L G) (hg : W.grownBy W' (some cb)) (hc : Cur W' cb ao n cap) : L8 X w W' cb ao n cap B kb nm t b nx ma mn mc ga gn gc L G := by
 have h1 := h.lo
 have h2 := h.hi
 have h3 := h.b0
 obtain ⟨lo, hi, o1, o2, o3⟩ := h.own
 have hh : Chg (fun j => j = cb ∨ j = kb) W W' := Chg.of_grown hg (fun j e => by simp only [Option.some.injEq] at e; omega)
 have hh2 : Chg (fun j => j = cb) W W' := Chg.of_grown hg (fun j e => by simp only [Option.some.injEq] at e; omega)
 exact ⟨h.r0.gone8 hg (by omega), h.r1.gone8 hg (by omega), h.box.gone8 hg (by omega), ⟨lo, hi, o1.chg hh2 (fun j _ _ => by omega), o2, o3⟩, h.ok, hc, only_trans h.gr hg, h.kp, h.kp _ _ h.x hh, h.b0, h.lo, h.hi⟩
theorem L8.reads (h : L8 X w W cb ao n cap B kb nm t b nx ma mn mc ga gn gc L G) : mn = L.length ∧ gn = G.length ∧ Ms B W.heap.size W ma L ∧ Is B W.heap.size W ga G ∧ (ga = none → gc = 0) := by
 obtain ⟨lo, hi, o1, o2, o3⟩ := h.own
 have hb := o1.b.base o2
 obtain ⟨a1, a2, a3, a4⟩ := hb.reads
 exact ⟨a1, a2, a3, a4, hb.none.2⟩
theorem L8.put {nx' : Int} {a : Option Addr} {N c : Nat} {a' : Option Addr} {M c' : Nat} {K : List M4} {H : List Int} {wv : World} (h : L8 X w W cb ao n cap B kb nm t b nx ma mn mc ga gn gc L G) (hb : Below W.heap.size W wv) (ho : OwB wv W.heap.size (.slice a N c) (.slice a' M c') K H) (hd : bxOk 7 nm t b nx' K H = true) :
  L8 X w (((((((wv.setCell ⟨kb, 0, none⟩ (.int .i64 7)).setCell ⟨kb, 1, none⟩ (.string nm)).setCell ⟨kb, 2, none⟩ (.int .i64 t)).setCell ⟨kb, 3, none⟩ (.int .i64 b)).setCell ⟨kb, 4, none⟩ (.int .i64 nx')).setCell ⟨kb, 5, none⟩ (.slice a N c)).setCell ⟨kb, 6, none⟩ (.slice a' M c')) cb ao n cap B kb nm t b nx' a N c a' M c' K H := by
 have h1 := h.lo
 have h2 := h.hi
 have h3 := h.box.lt
 have h4 := h.b0
 have hl := h.later hb
 have hg := set7_grown wv kb 7 nm t b nx' (.slice a N c) (.slice a' M c')
 have hx := hl.box.set7 7 nm t b nx' (.slice a N c) (.slice a' M c')
 unfold set7 at hg hx
 have hh : Chg (fun j => j = cb ∨ j = kb) wv _ := Chg.of_grown hg (fun j e => by simp only [Option.some.injEq] at e; omega)
 have hh2 : Chg (fun j => j = kb) wv _ := Chg.of_grown hg (fun j e => by simp only [Option.some.injEq] at e; omega)
 refine ⟨hl.r0.gone8 hg (by omega), hl.r1.gone8 hg (by omega), hx, ⟨W.heap.size, wv.heap.size, ho.h.chg hh2 (fun j _ _ => by omega), by omega, Or.inl h3⟩, hd, ?_, ?_, h.kp, h.kp _ _ hl.x hh, h4, h1, h2⟩
 ·exact ((((((hl.cur.set (by omega)).set (by omega)).set (by omega)).set (by omega)).set (by omega)).set (by omega)).set (by omega)
 ·exact gset (gset (gset (gset (gset (gset (gset hl.gr (by omega) _ _) (by omega) _ _) (by omega) _ _) (by omega) _ _) (by omega) _ _) (by omega) _ _) (by omega) _ _
theorem L8.next {nm' : ByteArray} {t' b' nx' : Int} {a : Option Addr} {N c : Nat} {a' : Option Addr} {M c' : Nat} {L' : List M4} {G' : List Int} {wv : World} (h : L8 X w W cb ao n cap B kb nm t b nx ma mn mc ga gn gc L G) (hb : Below W.heap.size W wv) (ho : OwB wv W.heap.size (.slice a N c) (.slice a' M c') L' G') (hk : bxOk 7 nm' t' b' nx' L' G' = true) :
  L8 (E8 B wv.heap.size kb) w (wv.alloc (.cells #[.int .i64 7, .string nm', .int .i64 t', .int .i64 b', .int .i64 nx', .slice a N c, .slice a' M c'] 29)) cb ao n cap W.heap.size wv.heap.size nm' t' b' nx' a N c a' M c' L' G' := by
 have h1 := h.lo
 have h2 := h.hi
 have h3 := h.box.lt
 have h4 := h.b0
 have h5 := hb.size
 have hl := h.later hb
 obtain ⟨lo, hi, o1, o2, o3⟩ := hl.own
 have o4 : ∃ hi', OwH wv lo hi' (.slice ma mn mc) (.slice ga gn gc) L G ∧ (kb < lo ∨ hi' ≤ kb) ∧ hi' ≤ wv.heap.size := by
  rcases o3 with o3 | o3
  ·exact ⟨_, o1.b.h, Or.inl o3, Nat.le_refl _⟩
  ·exact ⟨hi, o1, Or.inr o3, by omega⟩
 obtain ⟨hi', o4, o5, o6⟩ := o4
 have hp : Below wv.heap.size wv (wv.alloc (.cells #[.int .i64 7, .string nm', .int .i64 t', .int .i64 b', .int .i64 nx', .slice a N c, .slice a' M c'] 29)) := bpush (bre _) _
 exact ⟨hl.r0.later hp, hl.r1.later hp, Bx.new _ _ _ _ _ _ _ _ _, ⟨W.heap.size, wv.heap.size, ho.h.later hp, Nat.le_refl _, Or.inr (Nat.le_refl _)⟩, hk, hl.cur.alloc _, gal hl.gr _, E8.kp (by omega), ⟨nm, t, b, nx, ma, mn, mc, ga, gn, gc, L, G, lo, hi', hl.box.later hp, o4.later hp, h.ok, ⟨o2, o5⟩, o6, by omega, h1⟩, by omega, by omega, h2⟩
theorem ok8_name {nm' : ByteArray} (h : bxOk 7 nm t b nx L G = true) (hn : nmOk nm' = true) : bxOk 7 nm' t b nx L G = true := by
 unfold bxOk at h ⊢
 simp only [Bool.and_eq_true] at h ⊢
 exact ⟨h.1, hn, h.2.2⟩
theorem ok8_stamp {t' b' : Int} (h : bxOk 7 nm t b nx L G = true) (hn : 0 ≤ t' ∧ t' < 12 ∧ 1 ≤ b' ∧ b' ≤ 2) : bxOk 7 nm t' b' nx L G = true := by
 unfold bxOk at h ⊢
 simp only [Bool.and_eq_true] at h ⊢
 refine ⟨h.1, h.2.1, ?_, h.2.2.2⟩
 unfold stOk
 simp only [decide_eq_true_eq]
 omega
theorem L8.name {nm' : ByteArray} (h : L8 X w W cb ao n cap B kb nm t b nx ma mn mc ga gn gc L G) (hn : nmOk nm' = true) :
  L8 X w (W.setCell ⟨kb, 1, none⟩ (.string nm')) cb ao n cap B kb nm' t b nx ma mn mc ga gn gc L G := by
 have h1 := h.lo
 have h2 := h.hi
 have h4 := h.b0
 obtain ⟨lo, hi, o1, o2, o3⟩ := h.own
 have hg : W.grownBy (W.setCell ⟨kb, 1, none⟩ (.string nm')) (some kb) := wst (wre _ _) _ _
 have hh : Chg (fun j => j = cb ∨ j = kb) W (W.setCell ⟨kb, 1, none⟩ (.string nm')) := Chg.of_grown hg (fun j e => by simp only [Option.some.injEq] at e; omega)
 have hh2 : Chg (fun j => j = kb) W (W.setCell ⟨kb, 1, none⟩ (.string nm')) := Chg.of_grown hg (fun j e => by simp only [Option.some.injEq] at e; omega)
 exact ⟨h.r0.gone8 hg (by omega), h.r1.gone8 hg (by omega), h.box.s1 nm', ⟨lo, hi, o1.chg hh2 (fun j _ _ => by omega), o2, o3⟩, ok8_name h.ok hn, h.cur.set (by omega), gset h.gr (by omega) _ _, h.kp, h.kp _ _ h.x hh, h4, h1, h2⟩
theorem L8.stamp {t' b' : Int} (h : L8 X w W cb ao n cap B kb nm t b nx ma mn mc ga gn gc L G) (hn : 0 ≤ t' ∧ t' < 12 ∧ 1 ≤ b' ∧ b' ≤ 2) :
  L8 X w ((W.setCell ⟨kb, 2, none⟩ (.int .i64 t')).setCell ⟨kb, 3, none⟩ (.int .i64 b')) cb ao n cap B kb nm t' b' nx ma mn mc ga gn gc L G := by
 have h1 := h.lo
 have h2 := h.hi
 have h4 := h.b0
 obtain ⟨lo, hi, o1, o2, o3⟩ := h.own
 have hg : W.grownBy ((W.setCell ⟨kb, 2, none⟩ (.int .i64 t')).setCell ⟨kb, 3, none⟩ (.int .i64 b')) (some kb) := wst (wst (wre _ _) _ _) _ _
 have hh : Chg (fun j => j = cb ∨ j = kb) W ((W.setCell ⟨kb, 2, none⟩ (.int .i64 t')).setCell ⟨kb, 3, none⟩ (.int .i64 b')) := Chg.of_grown hg (fun j e => by simp only [Option.some.injEq] at e; omega)
 have hh2 : Chg (fun j => j = kb) W ((W.setCell ⟨kb, 2, none⟩ (.int .i64 t')).setCell ⟨kb, 3, none⟩ (.int .i64 b')) := Chg.of_grown hg (fun j e => by simp only [Option.some.injEq] at e; omega)
 exact ⟨h.r0.gone8 hg (by omega), h.r1.gone8 hg (by omega), (h.box.s2 t').s3 b', ⟨lo, hi, o1.chg hh2 (fun j _ _ => by omega), o2, o3⟩, ok8_stamp h.ok hn, (h.cur.set (by omega)).set (by omega), gset (gset h.gr (by omega) _ _) (by omega) _ _, h.kp, h.kp _ _ h.x hh, h4, h1, h2⟩
end
def P8 (w W : World) (cb : Nat) (ao : Option Addr) (n cap kx ky : Nat) : Prop :=
 ∃ (B' B : Nat) (nm : ByteArray) (t b nx : Int) (ma : Option Addr) (mn mc : Nat) (ga : Option Addr) (gn gc : Nat) (L : List M4) (G : List Int), L8 (E8 B' ky kx) w W cb ao n cap B ky nm t b nx ma mn mc ga gn gc L G ∧ kx < B ∧ w.heap.size + 2 ≤ B'
section
variable {w W W' : World} {cb : Nat} {ao : Option Addr} {n cap kx ky : Nat}
theorem P8.draw (h : P8 w W cb ao n cap kx ky) (hg : W.grownBy W' (some cb)) (hc : Cur W' cb ao n cap) : P8 w W' cb ao n cap kx ky := by
 obtain ⟨B', B, nm, t, b, nx, ma, mn, mc, ga, gn, gc, L, G, h, h1⟩ := h
 exact ⟨B', B, nm, t, b, nx, ma, mn, mc, ga, gn, gc, L, G, h.draw hg hc, h1⟩
theorem P8.cur (h : P8 w W cb ao n cap kx ky) : Cur W cb ao n cap := by
 obtain ⟨B', B, nm, t, b, nx, ma, mn, mc, ga, gn, gc, L, G, h, h1⟩ := h
 exact h.cur
theorem P8.gr (h : P8 w W cb ao n cap kx ky) : w.grownBy W (some cb) := by
 obtain ⟨B', B, nm, t, b, nx, ma, mn, mc, ga, gn, gc, L, G, h, h1⟩ := h
 exact h.gr
theorem P8.yname (h : P8 w W cb ao n cap kx ky) (nm' : ByteArray) (hn : nmOk nm' = true) : P8 w (W.setCell ⟨ky, 1, none⟩ (.string nm')) cb ao n cap kx ky := by
 obtain ⟨B', B, nm, t, b, nx, ma, mn, mc, ga, gn, gc, L, G, h, h1⟩ := h
 exact ⟨B', B, _, t, b, nx, ma, mn, mc, ga, gn, gc, L, G, h.name hn, h1⟩
theorem P8.ystamp (h : P8 w W cb ao n cap kx ky) (t' b' : Int) (hn : 0 ≤ t' ∧ t' < 12 ∧ 1 ≤ b' ∧ b' ≤ 2) : P8 w ((W.setCell ⟨ky, 2, none⟩ (.int .i64 t')).setCell ⟨ky, 3, none⟩ (.int .i64 b')) cb ao n cap kx ky := by
 obtain ⟨B', B, nm, t, b, nx, ma, mn, mc, ga, gn, gc, L, G, h, h1⟩ := h
 exact ⟨B', B, _, _, _, nx, ma, mn, mc, ga, gn, gc, L, G, h.stamp hn, h1⟩
theorem P8.first (h : P8 w W cb ao n cap kx ky) (hg : W.grownBy W' (some kx)) (hc : Cur W cb ao n cap → cb < w.heap.size → w.heap.size + 2 ≤ kx → Cur W' cb ao n cap) (hr : w.grownBy W (some cb) → w.heap.size + 2 ≤ kx → w.grownBy W' (some cb))
  (hb : ∀ (nm : ByteArray) (t b nx : Int) (ms gs : Value) (L : List M4) (G : List Int), Bx W kx 29 7 nm t b nx ms gs → bxOk 7 nm t b nx L G = true → ∃ (nm' : ByteArray) (t' b' : Int), Bx W' kx 29 7 nm' t' b' nx ms gs ∧ bxOk 7 nm' t' b' nx L G = true) : P8 w W' cb ao n cap kx ky := by
 obtain ⟨B', B, nm, t, b, nx, ma, mn, mc, ga, gn, gc, L, G, h, h0, h00⟩ := h
 have h1 := h.lo
 have h2 := h.hi
 have h4 := h.b0
 obtain ⟨lo, hi, o1, o2, o3⟩ := h.own
 obtain ⟨nm1, t1, b1, nx1, ma1, mn1, mc1, ga1, gn1, gc1, L1, G1, lo1, hi1, e1, e2, e3, e7, e4, e5, e6⟩ := h.x
 have hh : Chg (fun j => j = kx) W W' := Chg.of_grown hg (fun j e => by simp only [Option.some.injEq] at e; omega)
 obtain ⟨nm2, t2, b2, f1, f2⟩ := hb _ _ _ _ _ _ _ _ e1 e3
 have f3 := e2.chg hh (fun j _ _ => by omega)
 exact ⟨B', B, nm, t, b, nx, ma, mn, mc, ga, gn, gc, L, G, ⟨h.r0.gone8 hg (by omega), h.r1.gone8 hg (by omega), h.box.gone8 hg (by omega), ⟨lo, hi, o1.chg hh (fun j _ _ => by omega), o2, o3⟩, h.ok, hc h.cur h2 (by omega), hr h.gr (by omega), h.kp, ⟨nm2, t2, b2, nx1, ma1, mn1, mc1, ga1, gn1, gc1, L1, G1, lo1, hi1, f1, f3, f2, e7, e4, e5, e6⟩, h4, h1, h2⟩, h0, h00⟩
theorem P8.xname (h : P8 w W cb ao n cap kx ky) (nm' : ByteArray) (hn : nmOk nm' = true) : P8 w (W.setCell ⟨kx, 1, none⟩ (.string nm')) cb ao n cap kx ky :=
 h.first (wst (wre _ _) _ _) (fun hc h1 h2 => hc.set (by omega)) (fun hg h2 => gset hg (by omega) _ _) (fun _ t b _ _ _ _ _ hb hk => ⟨nm', t, b, hb.s1 nm', ok8_name hk hn⟩)
theorem P8.xstamp (h : P8 w W cb ao n cap kx ky) (t' b' : Int) (hn : 0 ≤ t' ∧ t' < 12 ∧ 1 ≤ b' ∧ b' ≤ 2) : P8 w ((W.setCell ⟨kx, 2, none⟩ (.int .i64 t')).setCell ⟨kx, 3, none⟩ (.int .i64 b')) cb ao n cap kx ky :=
 h.first (wst (wst (wre _ _) _ _) _ _) (fun hc h1 h2 => (hc.set (by omega)).set (by omega)) (fun hg h2 => gset (gset hg (by omega) _ _) (by omega) _ _) (fun nm _ _ _ _ _ _ _ hb hk => ⟨nm, t', b', (hb.s2 t').s3 b', ok8_stamp hk hn⟩)
theorem P8.cells (h : P8 w W cb ao n cap kx ky) : ∃ (nm : ByteArray) (t b nx : Int) (ms gs : Value) (nm' : ByteArray) (t' b' nx' : Int) (ms' gs' : Value), Bx W kx 29 7 nm t b nx ms gs ∧ Bx W ky 29 7 nm' t' b' nx' ms' gs' := by
 obtain ⟨B', B, nm, t, b, nx, ma, mn, mc, ga, gn, gc, L, G, h, h0, h00⟩ := h
 obtain ⟨nm1, t1, b1, nx1, ma1, mn1, mc1, ga1, gn1, gc1, L1, G1, lo1, hi1, e1, e2⟩ := h.x
 exact ⟨_, _, _, _, _, _, _, _, _, _, _, _, e1, h.box⟩
end
def Two8 (cb : Nat) (ao : Option Addr) (n cap : Nat) (w : World) (e : Ending) (w' : World) : Prop :=
 ∃ (nm : ByteArray) (t b nx : Int) (ma : Option Addr) (mn mc : Nat) (ga : Option Addr) (gn gc : Nat) (L : List M4) (G : List Int) (nm' : ByteArray) (t' b' nx' : Int) (ma' : Option Addr) (mn' mc' : Nat) (ga' : Option Addr) (gn' gc' : Nat) (L' : List M4) (G' : List Int), e = .returned (.tuple #[.agg #[.int .i64 7, .string nm, .int .i64 t, .int .i64 b, .int .i64 nx, .slice ma mn mc, .slice ga gn gc], .agg #[.int .i64 7, .string nm', .int .i64 t', .int .i64 b', .int .i64 nx', .slice ma' mn' mc', .slice ga' gn' gc']]) ∧ (bxOk 7 nm t b nx L G = true ∧ bxOk 7 nm' t' b' nx' L' G' = true) ∧ (OwB w' w.heap.size (.slice ma mn mc) (.slice ga gn gc) L G ∧ OwB w' w.heap.size (.slice ma' mn' mc') (.slice ga' gn' gc') L' G') ∧ Cur w' cb ao n cap ∧ w.grownBy w' (some cb)
theorem P8.nm {w W : World} {cb : Nat} {ao : Option Addr} {n cap kx ky : Nat} (h : P8 w W cb ao n cap kx ky) : ∃ W', W = W' ∧ P8 w W' cb ao n cap kx ky := ⟨W, rfl, h⟩
theorem two_end {w W : World} {cb : Nat} {ao : Option Addr} {n cap kx ky : Nat} (h : P8 w W cb ao n cap kx ky) :
  ∃ (nm : ByteArray) (t b nx : Int) (ma : Option Addr) (mn mc : Nat) (ga : Option Addr) (gn gc : Nat) (nm' : ByteArray) (t' b' nx' : Int) (ma' : Option Addr) (mn' mc' : Nat) (ga' : Option Addr) (gn' gc' : Nat),
   (Bx W kx 29 7 nm t b nx (.slice ma mn mc) (.slice ga gn gc) ∧ Bx W ky 29 7 nm' t' b' nx' (.slice ma' mn' mc') (.slice ga' gn' gc') ∧ Bx W w.heap.size 29 0 ⟨#[]⟩ 0 0 0 (.slice none 0 0) (.slice none 0 0)) ∧
   (∀ W1, set7 W w.heap.size 7 nm t b nx (.slice ma mn mc) (.slice ga gn gc) = W1 → Bx W1 kx 29 7 nm t b nx (.slice ma mn mc) (.slice ga gn gc) ∧ Bx W1 ky 29 7 nm' t' b' nx' (.slice ma' mn' mc') (.slice ga' gn' gc') ∧ Bx W1 (w.heap.size + 1) 29 0 ⟨#[]⟩ 0 0 0 (.slice none 0 0) (.slice none 0 0) ∧
     ∀ W2, set7 W1 (w.heap.size + 1) 7 nm' t' b' nx' (.slice ma' mn' mc') (.slice ga' gn' gc') = W2 → Bx W2 kx 29 7 nm t b nx (.slice ma mn mc) (.slice ga gn gc) ∧ Bx W2 ky 29 7 nm' t' b' nx' (.slice ma' mn' mc') (.slice ga' gn' gc') ∧ Bx W2 w.heap.size 29 7 nm t b nx (.slice ma mn mc) (.slice ga gn gc) ∧ Bx W2 (w.heap.size + 1) 29 7 nm' t' b' nx' (.slice ma' mn' mc') (.slice ga' gn' gc') ∧
       ∀ e, e = .returned (.tuple #[.agg #[.int .i64 7, .string nm, .int .i64 t, .int .i64 b, .int .i64 nx, .slice ma mn mc, .slice ga gn gc], .agg #[.int .i64 7, .string nm', .int .i64 t', .int .i64 b', .int .i64 nx', .slice ma' mn' mc', .slice ga' gn' gc']]) → Two8 cb ao n cap w e W2) := by
 obtain ⟨B', B, nm', t', b', nx', ma', mn', mc', ga', gn', gc', L', G', h, h0, h00⟩ := h
 obtain ⟨nm, t, b, nx, ma, mn, mc, ga, gn, gc, L, G, lo, hi, e1, e2, e3, e4, e5, e6, e7⟩ := h.x
 have h1 := h.lo
 have h2 := h.hi
 have h4 := h.b0
 obtain ⟨lo', hi', o1, o2, o3⟩ := h.own
 refine ⟨nm, t, b, nx, ma, mn, mc, ga, gn, gc, nm', t', b', nx', ma', mn', mc', ga', gn', gc', ⟨e1, h.box, h.r0⟩, ?_⟩
 rintro W1 rfl
 have g1 := set7_grown W w.heap.size 7 nm t b nx (.slice ma mn mc) (.slice ga gn gc)
 refine ⟨e1.gone8 g1 (by omega), h.box.gone8 g1 (by omega), h.r1.gone8 g1 (by omega), ?_⟩
 have a0 := h.r0.set7 7 nm t b nx (.slice ma mn mc) (.slice ga gn gc)
 have a1 := h.r1.gone8 g1 (by omega)
 have c1 : Cur (set7 W w.heap.size 7 nm t b nx (.slice ma mn mc) (.slice ga gn gc)) cb ao n cap := ((((((h.cur.set (by omega)).set (by omega)).set (by omega)).set (by omega)).set (by omega)).set (by omega)).set (by omega)
 have d1 : w.grownBy (set7 W w.heap.size 7 nm t b nx (.slice ma mn mc) (.slice ga gn gc)) (some cb) := gset (gset (gset (gset (gset (gset (gset h.gr (by omega) _ _) (by omega) _ _) (by omega) _ _) (by omega) _ _) (by omega) _ _) (by omega) _ _) (by omega) _ _
 have hh1 : Chg (fun j => j = w.heap.size) W (set7 W w.heap.size 7 nm t b nx (.slice ma mn mc) (.slice ga gn gc)) := Chg.of_grown g1 (fun j e => by simp only [Option.some.injEq] at e; omega)
 have p1 := e2.chg hh1 (fun j _ _ => by omega)
 have p2 := o1.chg hh1 (fun j _ _ => by omega)
 have x1 := e1.gone8 g1 (by omega)
 have y1 := h.box.gone8 g1 (by omega)
 obtain ⟨W1, hW1⟩ : ∃ W1, set7 W w.heap.size 7 nm t b nx (.slice ma mn mc) (.slice ga gn gc) = W1 := ⟨_, rfl⟩
 rw [hW1] at a0 a1 c1 d1 p1 p2 x1 y1 ⊢
 rintro W2 rfl
 have g2 := set7_grown W1 (w.heap.size + 1) 7 nm' t' b' nx' (.slice ma' mn' mc') (.slice ga' gn' gc')
 have hh2 : Chg (fun j => j = w.heap.size + 1) W1 (set7 W1 (w.heap.size + 1) 7 nm' t' b' nx' (.slice ma' mn' mc') (.slice ga' gn' gc')) := Chg.of_grown g2 (fun j e => by simp only [Option.some.injEq] at e; omega)
 have q1 := p1.chg hh2 (fun j _ _ => by omega)
 have q2 := p2.chg hh2 (fun j _ _ => by omega)
 refine ⟨x1.gone8 g2 (by omega), y1.gone8 g2 (by omega), a0.gone8 g2 (by omega), a1.set7 _ _ _ _ _ _ _, fun e he => ⟨nm, t, b, nx, ma, mn, mc, ga, gn, gc, L, G, nm', t', b', nx', ma', mn', mc', ga', gn', gc', L', G', he, ⟨e3, h.ok⟩, ⟨q1.b.base (by omega), q2.b.base (by omega)⟩, ?_, ?_⟩⟩
 ·exact ((((((c1.set (by omega)).set (by omega)).set (by omega)).set (by omega)).set (by omega)).set (by omega)).set (by omega)
 ·exact gset (gset (gset (gset (gset (gset (gset d1 (by omega) _ _) (by omega) _ _) (by omega) _ _) (by omega) _ _) (by omega) _ _) (by omega) _ _) (by omega) _ _
def M8 (X : World → Prop) (w W : World) (cb : Nat) (ao : Option Addr) (n cap B kb : Nat) : Prop :=
 ∃ (nm : ByteArray) (t b nx : Int) (ma : Option Addr) (mn mc : Nat) (ga : Option Addr) (gn gc : Nat) (L : List M4) (G : List Int), L8 X w W cb ao n cap B kb nm t b nx ma mn mc ga gn gc L G
end Go.Proofs.YtmpcmllfgogegaaGreat
