/- Ku, Kv, Open, OpenL, OpenM, OpenB, OpenS, OpenK. -/
import Derived.Test.YtpannfkfaagflaaV11
namespace Go.Proofs.Ytpannfkfaagflaa
open Go.RowKit Go.ChangeMaps
theorem eqKept_any (l1 h1 l2 h2 l3 h3 l4 h4 : Nat) (y tm : Int) (ba : Option Addr) (bn bc : Nat) (ga : Option Addr) (gn gc : Nat) (ba' : Option Addr) (bc' : Nat) (ga' : Option Addr) (gc' : Nat) (jr : ByteArray) (sv : Int) (S : List X7) (G : List Int) (w : World) (hl : S.length = bn) (hn : bn ≤ 1048576) (hsb : Sb S) (hm : Bs l1 h1 w ba S) (hm' : Bs l2 h2 w ba' S)
    (hgl : G.length = gn) (hgn : gn ≤ 1048576) (hs : Is l3 h3 w ga G) (hs' : Is l4 h4 w ga' G) :
    Calls Try.prog 7 #[.agg #[.int .i64 y, .int .i64 tm, .slice ba bn bc, .slice ga gn gc, .string jr, .int .i64 sv], .agg #[.int .i64 y, .int .i64 tm, .slice ba' bn bc', .slice ga' gn gc', .string jr, .int .i64 sv]] w fun e w' => e = .returned (.bool true) ∧ Below w.heap.size w w' :=
  eqKept_of y tm ba bn bc ga gn gc ba' bn bc' ga' gn gc' jr sv w (fun W hb => eqStore_any l1 h1 l2 h2 l3 h3 l4 h4 y tm ba bn bc ga gn gc ba' bc' ga' gc' S G W hl hn hsb (hm.later hb) (hm'.later hb) hgl hgn (hs.later hb) (hs'.later hb))
theorem Chg.after {P : Nat → Prop} {a b c : World} (hb : Below a.heap.size a b) (h : Chg P b c) : Chg P a c := by
  exact (Chg.of_below hb).trans h
theorem markKept_any (B hi : Nat) (y tm : Int) (ma : Option Addr) (mn mc : Nat) (ga : Option Addr) (gn gc : Nat) (jr : ByteArray) (sv : Int) (S : List X7) (G : List Int) (w : World) (hown : OwU w B hi (.slice ma mn mc) (.slice ga gn gc) S G) (hl : S.length = mn) (hn : mn ≤ 1048576) (hsm : SmX S) (hgl : G.length = gn) (hgn : gn ≤ 1048576) (hfz : kx 1 S ≤ 6291456) :
    Calls Try.prog 8 #[.agg #[.int .i64 y, .int .i64 tm, .slice ma mn mc, .slice ga gn gc, .string jr, .int .i64 sv], .int .i64 1] w fun e w' => e = .returned (.int .i64 ((kx 1 S + gn : Nat) : Int)) ∧ OwU w' B hi (.slice ma mn mc) (.slice ga gn gc) (mxl 1 S) (mki (kx 1 S) gn) ∧ Chg (fun j => B ≤ j ∧ j < hi) w w' :=
  markKept_of y tm ma mn mc ga gn gc jr sv 1 _ w (fun w' => OwU w' B hi (.slice ma mn mc) (.slice ga gn gc) (mxl 1 S) (mki (kx 1 S) gn) ∧ Chg (fun j => B ≤ j ∧ j < hi) w w') (fun W hb => (markStore_any B hi y tm ma mn mc ga gn gc S G W (hown.later hb) hl hn hsm hgl hgn hfz).mono fun _ _ h => ⟨h.1, h.2.1, h.2.2.after hb⟩)
theorem heldKept_any (B hi : Nat) (y tm : Int) (ma : Option Addr) (mn mc : Nat) (ga : Option Addr) (gn gc : Nat) (jr : ByteArray) (sv : Int) (S : List X7) (w : World) (hown : OwU w B hi (.slice ma mn mc) (.slice ga gn gc) (mxl 1 S) (mki (kx 1 S) gn)) (hl : S.length = mn) (hn : mn ≤ 1048576) (hsm : SmX S) (hgn : gn ≤ 1048576) (hfz : kx 1 S ≤ 6291456) :
    Calls Try.prog 9 #[.agg #[.int .i64 y, .int .i64 tm, .slice ma mn mc, .slice ga gn gc, .string jr, .int .i64 sv], .int .i64 1] w fun e w' => e = .returned (.int .i64 ((kx 1 S + gn : Nat) : Int)) ∧ Below w.heap.size w w' :=
  heldKept_of y tm ma mn mc ga gn gc jr sv 1 _ w (by omega) (fun W hb => heldStore_any B hi y tm ma mn mc ga gn gc S W (hown.later hb) hl hn hsm hgn hfz)
structure AnsK (wn W : World) (k : Nat) (y tm : Int) (bv gv : Value) (jr : ByteArray) (sv : Int) (S : List X7) (G : List Int) : Prop where
  box : Kx W k 27 y tm bv gv jr sv
  le : wn.heap.size ≤ k
  own : ∃ B hi, OwU W B hi bv gv S G ∧ wn.heap.size ≤ B ∧ hi ≤ W.heap.size ∧ (k < B ∨ hi ≤ k)
  bel : Below wn.heap.size wn W
theorem ansk_last {wn v : World} {B : Nat} {y tm : Int} {bv gv : Value} {jr : ByteArray} {sv : Int} {S : List X7} {G : List Int} (ho : OwT v B bv gv S G) (hB : wn.heap.size ≤ B) (hb : Below wn.heap.size wn v) :
    AnsK wn (v.alloc (.cells #[.int .i64 y, .int .i64 tm, bv, gv, .string jr, .int .i64 sv] 27)) v.heap.size y tm bv gv jr sv S G :=
  ⟨Kx.new v _ _ _ _ _ _ _, hb.size, ⟨B, v.heap.size, ho.u.later (bpush (bre _) _), hB, by simp, .inr (Nat.le_refl _)⟩, bpush hb _⟩
theorem Kx.chg {P : Nat → Prop} {W W' : World} {k ty : Nat} {y tm : Int} {bv gv : Value} {jr : ByteArray} {sv : Int} (h : Kx W k ty y tm bv gv jr sv) (hc : Chg P W W') (hk : ¬ P k) : Kx W' k ty y tm bv gv jr sv := (hc.block k h.lt hk).trans h
/-- What comes of SaveKept, in letters. -/
theorem pairSave (y tm : Int) (bn gn : Nat) (S : List X7) (G : List Int) (jr : ByteArray) (sv : Int) (hl : S.length = bn) (hn : bn ≤ 1048576) (hsb : Sb S) (hgl : G.length = gn) (hgn : gn ≤ 1048576) (hsz : szB S + gn ≤ 1048576) (hj : jr.size ≤ 1048576) :
    ∃ (tn js : Int) (K : List X7) (H : List Int) (N M : Nat), (K.length = N ∧ N ≤ 1048576 ∧ Sb K ∧ kx 1 K ≤ 6291456) ∧ (H.length = M ∧ M ≤ 1048576) ∧ Hid (∀ (lo hh lo' hh' km kg : Nat) (w : World), Bs lo hh w (some ⟨km, 0, none⟩) S → Is lo' hh' w (some ⟨kg, 0, none⟩) G → Calls Try.prog 11 #[.agg #[.int .i64 y, .int .i64 tm, .slice (some ⟨km, 0, none⟩) bn bn, .slice (some ⟨kg, 0, none⟩) gn gn, .string jr, .int .i64 sv]] w fun e w' => ∃ a c a' c', e = .returned (.agg #[.int .i64 y, .int .i64 tn, .slice a N c, .slice a' M c', .string jr, .int .i64 js]) ∧ OwT w' w.heap.size (.slice a N c) (.slice a' M c') K H ∧ Below w.heap.size w w') ∧ Hid (∀ (lo hh lo' hh' km kg : Nat) (w : World), Bs lo hh w (some ⟨km, 0, none⟩) S → Is lo' hh' w (some ⟨kg, 0, none⟩) G → Calls Try.prog 13 #[.agg #[.int .i64 y, .int .i64 tm, .slice (some ⟨km, 0, none⟩) bn bn, .slice (some ⟨kg, 0, none⟩) gn gn, .string jr, .int .i64 sv]] w fun e w' => ∃ a c a' c', e = .returned (.agg #[.int .i64 y, .int .i64 tn, .slice a N c, .slice a' M c', .string jr, .int .i64 js]) ∧ OwT w' w.heap.size (.slice a N c) (.slice a' M c') K H ∧ Below w.heap.size w w') := by
  refine ⟨tm, (jr.size : Int), S, G, bn, gn, ⟨hl, hn, hsb, by have := kx_sz 1 S; omega⟩, ⟨hgl, hgn⟩, ?_, ?_⟩
  · intro lo hh lo' hh' km kg w hm hs
    refine (specSave_any lo hh lo' hh' y tm _ bn bn _ gn gn jr sv S G w hl hn hsb hm hgl hgn hs (by intro h; cases h)).mono ?_
    rintro e w' ⟨bv, gv, rfl, ho, hb⟩
    obtain ⟨a, c, a', c', rfl, rfl⟩ := ho.shape
    rw [hl, hgl] at ho
    rw [hl, hgl]
    exact ⟨a, c, a', c', rfl, ho, hb⟩
  · intro lo hh lo' hh' km kg w hm hs
    refine (implSave_any lo hh lo' hh' y tm _ bn bn _ gn gn jr sv S G w hl hn hsb hm (by intro h; cases h) hgl hgn hs (by intro h; cases h) hj).mono ?_
    rintro e w' ⟨bv, gv, rfl, ho, hb⟩
    obtain ⟨a, c, a', c', rfl, rfl⟩ := ho.shape
    rw [hl, hgl] at ho
    rw [hl, hgl]
    exact ⟨a, c, a', c', rfl, ho, hb⟩
set_option maxHeartbeats 8000000 in
set_option maxRecDepth 100000 in
theorem lawSaveS_any (y tm : Int) (ba : Option Addr) (bn bc : Nat) (ga : Option Addr) (gn gc : Nat) (S : List X7) (G : List Int) (jr : ByteArray) (sv : Int) (w : World) (hl : S.length = bn) (hn : (bn : Int) ≤ 9223372036854775807) (hft : FitB S) (hm : Bs 0 w.heap.size w ba S) (hgl : G.length = gn) (hgn : (gn : Int) ≤ 9223372036854775807) (hs : Is 0 w.heap.size w ga G) (hjr : jr.size ≤ maxLen) :
    Calls Try.prog 4 #[.agg #[.int .i64 y, .int .i64 tm, .slice ba bn bc, .slice ga gn gc, .string jr, .int .i64 sv]] w fun e w' => e = .returned (.bool true) ∧ Below w.heap.size w w' := by
  obtain ⟨W0, hW0⟩ : ∃ W0, w.alloc (.cells #[.int .i64 y, .int .i64 tm, .slice ba bn bc, .slice ga gn gc, .string jr, .int .i64 sv] 36) = W0 := ⟨_, rfl⟩
  have a0 : Kx W0 w.heap.size 36 y tm (.slice ba bn bc) (.slice ga gn gc) jr sv := by subst hW0; exact Kx.new w _ y tm _ _ _ _
  have b0 : Below w.heap.size w W0 := by subst hW0; exact bpush (bre _) _
  have c0 := a0.cells
  have A0 := hid a0
  have B0 := hid b0
  have HM := hid hm
  have HS' := hid hs
  have HF := hid hft
  have HL := hid hl
  have HGL := hid hgl
  have HN := hid hn
  have HGN := hid hgn
  have HJ : Hid ((jr.size : Int) ≤ 9223372036854775807) := hid (by unfold maxLen at hjr; omega)
  clear a0 b0 hm hs hft hl hgl hn hgn hjr
  go_enter Try.func4, Try.ntmps4
  go_wp2_with fail
  clear hW0
  refine (szKept_any 0 w.heap.size y tm ba bn bc ga gn gc jr sv S _ HL.out HN.out HF.out (HM.out.later B0.out) HGN.out HJ.out).mono ?_; rintro e w1 ⟨rfl, hb1⟩
  have A0 := hid (A0.out.later hb1)
  have B1 := hid (btr B0.out hb1)
  clear hb1 B0 c0
  by_cases hbig : ¬ (szB S + gn ≤ 1048576 ∧ szB S + gn + jr.size ≤ 1048576)
  · rw [show kzr (szB S + gn) jr.size = -1 from if_neg hbig]
    clear hbig
    go_wp2
    go_ret
    exact ⟨rfl, B1.out⟩
  replace hbig := Decidable.not_not.1 hbig
  obtain ⟨s2, s3, s4⟩ := smallT (show ¬ (1048576 : Int) < ((szB S + gn : Nat) : Int) by omega)
  have hsz : szB S + gn ≤ 1048576 := hbig.1
  obtain ⟨q, hq⟩ : ∃ q, kzr (szB S + gn) jr.size = q := ⟨_, rfl⟩
  have h0 : ¬ q < 0 := by rw [← hq]; unfold kzr; rw [if_pos hbig]; omega
  rw [hq]
  obtain ⟨tn, js, K, H, N, M, ⟨k1, k2, k3, k4⟩, ⟨k5, k6⟩, CSP, CIM⟩ := pairSave y tm bn gn S G jr sv HL.out (by rw [← HL.out]; exact s2) s4 HGL.out s3 hsz (by omega)
  have S2 : Hid (bn ≤ 1048576) := by show _ ≤ _; rw [← HL.out]; exact s2
  have S3 := hid s3
  have S4 := hid s4
  have SF : Hid (kx 1 S ≤ 6291456) := by show _ ≤ _; have := kx_sz 1 S; omega
  have K1 := hid k1
  have K2 := hid k2
  have K3 := hid k3
  have K4 := hid k4
  have K5 := hid k5
  have K6 := hid k6
  clear hq hbig s2 s3 s4 hsz k1 k2 k3 k4 k5 k6
  have HMw1 := hid (HM.out.later B1.out)
  have HIw1 := hid (HS'.out.later B1.out)
  have e9 := A0.out.cells
  go_wp2_with fail
  refine (toKept_any 0 w.heap.size 0 w.heap.size y tm ba bn bc ga gn gc jr sv S G _ HL.out S2.out S4.out HMw1.out HGL.out S3.out HIw1.out).mono ?_; rintro e v1 ⟨km, kg, rfl, how, hb1⟩
  have P1 := hid how.reads.2.2.1
  have P2 := hid how.reads.2.2.2
  clear how e9
  go_wp2_with fail
  refine (CSP.out _ _ _ _ _ _ _ P1.out P2.out).mono ?_; rintro e v3 ⟨av, cv, av', cv', rfl, ho3, hb3⟩
  have hb4 := btr hb1 hb3
  have hle : w1.heap.size ≤ v1.heap.size := hb1.size
  clear P1 P2 hb1 hb3
  obtain ⟨kv, hkv⟩ : ∃ kv, v3.heap.size = kv := ⟨_, rfl⟩
  obtain ⟨w2, hw2⟩ : ∃ w2, v3.alloc (.cells #[.int .i64 y, .int .i64 tn, .slice av N cv, .slice av' M cv', .string jr, .int .i64 js] 27) = w2 := ⟨_, rfl⟩
  have hv : AnsK w1 w2 kv y tn (.slice av N cv) (.slice av' M cv') jr js K H := by rw [← hw2, ← hkv]; exact ansk_last ho3 hle hb4
  clear ho3 hb4 hle
  obtain ⟨BV, HV, ov, bv, tv, dv⟩ := hv.own
  have Q1 := hid tv
  have Q2 : Hid (kv < w2.heap.size) := hv.box.lt
  have Q6 : Hid (w.heap.size < w1.heap.size) := A0.out.lt
  have Q7 : Hid (w1.heap.size ≤ w2.heap.size) := hv.bel.size
  have V2 := hid hv.box
  have OV2 := hid ov
  have hb := hv.bel
  have A2 := hid (A0.out.later hb)
  have B2 := hid (btr B1.out hb)
  have e0 := A2.out.cells
  clear hb hv ov bv tv dv A0 B1 HMw1 HIw1
  go_wp2_with fail
  clear hw2 hkv
  refine (toKept_any 0 w.heap.size 0 w.heap.size y tm ba bn bc ga gn gc jr sv S G _ HL.out S2.out S4.out (HM.out.later B2.out) HGL.out S3.out (HS'.out.later B2.out)).mono ?_; rintro e w4 ⟨km4, kg4, rfl, how, hb4⟩
  obtain ⟨W5, hW5⟩ : ∃ W5, w4.alloc (.cells #[.int .i64 y, .int .i64 tm, .slice (some ⟨km4, 0, none⟩) bn bn, .slice (some ⟨kg4, 0, none⟩) gn gn, .string jr, .int .i64 sv] 27) = W5 := ⟨_, rfl⟩
  have n5 : Below w4.heap.size w4 W5 := by rw [← hW5]; exact bpush (bre _) _
  have x5 : Kx W5 w4.heap.size 27 y tm (.slice (some ⟨km4, 0, none⟩) bn bn) (.slice (some ⟨kg4, 0, none⟩) gn gn) jr sv := by rw [← hW5]; exact Kx.new _ _ _ _ _ _ _ _
  have hb5 := btr hb4 n5
  have X5 := hid x5
  have OX5 := hid (how.u.later n5)
  have Q3 : Hid (w2.heap.size ≤ w4.heap.size) := hb4.size
  have Q4 : Hid (w4.heap.size < W5.heap.size) := x5.lt
  have A5 := hid (A2.out.later hb5)
  have B5 := hid (btr B2.out hb5)
  have V5 := hid (V2.out.later hb5)
  have OV5 := hid (OV2.out.later hb5)
  have PM := hid OX5.out.t.reads.2.2.1
  have PI := hid OX5.out.t.reads.2.2.2
  clear e0 hb4 n5 x5 hb5 how A2 B2 V2 OV2
  have e9 := X5.out.cells
  go_wp2_with fail
  clear hW5
  refine (CIM.out _ _ _ _ _ _ _ PM.out PI.out).mono ?_; rintro e v3 ⟨ag, cg, ag', cg', rfl, ho3, hb4⟩
  have hle : W5.heap.size ≤ W5.heap.size := Nat.le_refl _
  clear e9
  obtain ⟨kg, hkg⟩ : ∃ kg, v3.heap.size = kg := ⟨_, rfl⟩
  obtain ⟨w6, hw6⟩ : ∃ w6, v3.alloc (.cells #[.int .i64 y, .int .i64 tn, .slice ag N cg, .slice ag' M cg', .string jr, .int .i64 js] 27) = w6 := ⟨_, rfl⟩
  have hv : AnsK W5 w6 kg y tn (.slice ag N cg) (.slice ag' M cg') jr js K H := by rw [← hw6, ← hkg]; exact ansk_last ho3 hle hb4
  clear ho3 hb4 hle
  obtain ⟨BG, HG, ov, bv, tv, dv⟩ := hv.own
  have Q5 := hid bv
  have Q8 := hid dv
  have Q9 : Hid (W5.heap.size ≤ kg) := hv.le
  have Gb6 := hid hv.box
  have OG6 := hid ov
  have hb := hv.bel
  have A6 := hid (A5.out.later hb)
  have B6 := hid (btr B5.out hb)
  have V6 := hid (V5.out.later hb)
  have OV6 := hid (OV5.out.later hb)
  have X6 := hid (X5.out.later hb)
  have OX6 := hid (OX5.out.later hb)
  clear hb hv ov bv tv dv A5 B5 V5 OV5 X5 OX5 PM PI
  have e0 := Gb6.out.cells
  have e2 := V6.out.cells
  go_wp2_with fail
  clear hw6 hkg
  refine (eqKept_any _ _ _ _ _ _ _ _ y tn _ N _ _ M _ _ _ _ _ jr js K H _ K1.out K2.out K3.out OG6.out.t.reads.2.2.1 OV6.out.t.reads.2.2.1 K5.out K6.out OG6.out.t.reads.2.2.2 OV6.out.t.reads.2.2.2).mono ?_; rintro e w7 ⟨rfl, hb⟩
  clear e0 e2
  have A7 := hid (A6.out.later hb)
  have B7 := hid (btr B6.out hb)
  have V7 := hid (V6.out.later hb)
  have OV7 := hid (OV6.out.later hb)
  have X7 := hid (X6.out.later hb)
  have OX7 := hid (OX6.out.later hb)
  have Gb7 := hid (Gb6.out.later hb)
  have OG7 := hid (OG6.out.later hb)
  clear A6 B6 V6 OV6 X6 OX6 Gb6 OG6
  clear hb
  have HSX : Hid (∀ W, Below w7.heap.size w7 W → (W.cell? ⟨w4.heap.size, 0, none⟩ = some (.int .i64 y) ∧ W.cell? ⟨w4.heap.size, 1, none⟩ = some (.int .i64 tm) ∧ W.cell? ⟨w4.heap.size, 2, none⟩ = some (.slice (some ⟨km4, 0, none⟩) bn bn) ∧ W.cell? ⟨w4.heap.size, 3, none⟩ = some (.slice (some ⟨kg4, 0, none⟩) gn gn) ∧ W.cell? ⟨w4.heap.size, 4, none⟩ = some (.string jr) ∧ W.cell? ⟨w4.heap.size, 5, none⟩ = some (.int .i64 sv)) ∧ (W.cell? ⟨w.heap.size, 0, none⟩ = some (.int .i64 y) ∧ W.cell? ⟨w.heap.size, 1, none⟩ = some (.int .i64 tm) ∧ W.cell? ⟨w.heap.size, 2, none⟩ = some (.slice ba bn bc) ∧ W.cell? ⟨w.heap.size, 3, none⟩ = some (.slice ga gn gc) ∧ W.cell? ⟨w.heap.size, 4, none⟩ = some (.string jr) ∧ W.cell? ⟨w.heap.size, 5, none⟩ = some (.int .i64 sv))) :=
    fun W h => ⟨(X7.out.later h).cells, (A7.out.later h).cells⟩
  have PM := hid OX7.out.t.reads.2.2.1
  have PI := hid OX7.out.t.reads.2.2.2
  go_wp2_with fail
  go_region_held3 (fun W => (W.cell? ⟨w4.heap.size, 0, none⟩ = some (.int .i64 y) ∧ W.cell? ⟨w4.heap.size, 1, none⟩ = some (.int .i64 tm) ∧ W.cell? ⟨w4.heap.size, 2, none⟩ = some (.slice (some ⟨km4, 0, none⟩) bn bn) ∧ W.cell? ⟨w4.heap.size, 3, none⟩ = some (.slice (some ⟨kg4, 0, none⟩) gn gn) ∧ W.cell? ⟨w4.heap.size, 4, none⟩ = some (.string jr) ∧ W.cell? ⟨w4.heap.size, 5, none⟩ = some (.int .i64 sv)) ∧ (W.cell? ⟨w.heap.size, 0, none⟩ = some (.int .i64 y) ∧ W.cell? ⟨w.heap.size, 1, none⟩ = some (.int .i64 tm) ∧ W.cell? ⟨w.heap.size, 2, none⟩ = some (.slice ba bn bc) ∧ W.cell? ⟨w.heap.size, 3, none⟩ = some (.slice ga gn gc) ∧ W.cell? ⟨w.heap.size, 4, none⟩ = some (.string jr) ∧ W.cell? ⟨w.heap.size, 5, none⟩ = some (.int .i64 sv)))
    ((refine HSX.out _ ?_; repeat (first | exact bdr (bre _) | exact C8.out | exact D8.out | refine btr ?_ (by assumption))))
    ((first
      | (go_at_call 12; refine (toKept_any 0 w.heap.size 0 w.heap.size y tm ba bn bc ga gn gc jr sv S G _ HL.out S2.out S4.out (HM.out.later (btr B7.out (bdr (bre _)))) HGL.out S3.out (HS'.out.later (btr B7.out (bdr (bre _))))).mono ?_; rintro e w8 ⟨km8, kg8, rfl, how8, hb8⟩; have R8 := hid how8; have C8 : Hid (Below w7.heap.size w7 w8) := btr (bdr (bre _)) hb8; clear how8 hb8)
      | (go_at_call 7; refine (eqKept_any _ _ _ _ _ _ _ _ y tm _ bn _ _ gn _ _ _ _ _ jr sv S G w8 HL.out S2.out S4.out (PM.out.later C8.out) R8.out.reads.2.2.1 HGL.out S3.out (PI.out.later C8.out) R8.out.reads.2.2.2).mono ?_; rintro e w9 ⟨rfl, hb9⟩; have D8 : Hid (Below w7.heap.size w7 w9) := btr C8.out hb9; clear hb9)))
  have hb := D8.out
  clear PM PI HSX C8 D8 R8
  have A8 := hid (A7.out.later hb)
  have B8 := hid (btr B7.out hb)
  have V8 := hid (V7.out.later hb)
  have OV8 := hid (OV7.out.later hb)
  have X8 := hid (X7.out.later hb)
  have OX8 := hid (OX7.out.later hb)
  have Gb8 := hid (Gb7.out.later hb)
  have OG8 := hid (OG7.out.later hb)
  clear A7 B7 V7 OV7 X7 OX7 Gb7 OG7
  clear hb
  have e0 := X8.out.cells
  go_wp2_with fail
  refine (markKept_any w2.heap.size w4.heap.size y tm _ bn bn _ gn gn jr sv S G _ OX8.out HL.out S2.out (sb_smx S4.out) HGL.out S3.out SF.out).mono ?_; rintro e w10 ⟨rfl, -, hc⟩
  have q1 := Q1.out
  have q2 := Q2.out
  have q3 := Q3.out
  have q4 := Q4.out
  have q5 := Q5.out
  have q6 := Q6.out
  have q7 := Q7.out
  have q9 := Q9.out
  have A9 := hid (A8.out.chg hc (by omega))
  have V9 := hid (V8.out.chg hc (by omega))
  have Gb9 := hid (Gb8.out.chg hc (by omega))
  have OV9 := hid (OV8.out.chg hc (by intro j h1 h2; omega))
  have OG9 := hid (OG8.out.chg hc (by intro j h1 h2; omega))
  have B9 : Hid (Below w.heap.size w w10) := B8.out.trans (hc.below B8.out.size (by intro j h; omega))
  obtain ⟨q0, hq0⟩ : ∃ q0 : Nat, kx 1 S + gn = q0 := ⟨_, rfl⟩
  rw [hq0]
  have hq1 : ¬ ((q0 : Nat) : Int) < 0 := by omega
  clear e0 hc q1 q2 q3 q4 q5 q6 q7 q9 hq0 A8 V8 Gb8 OV8 OG8 B8 X8 OX8
  have e0 := Gb9.out.cells
  have e2 := V9.out.cells
  go_wp2_with fail
  refine (eqKept_any _ _ _ _ _ _ _ _ y tn _ N _ _ M _ _ _ _ _ jr js K H _ K1.out K2.out K3.out OG9.out.t.reads.2.2.1 OV9.out.t.reads.2.2.1 K5.out K6.out OG9.out.t.reads.2.2.2 OV9.out.t.reads.2.2.2).mono ?_; rintro e w11 ⟨rfl, hb⟩
  clear e0 e2
  have A10 := hid (A9.out.later hb)
  have B10 := hid (btr B9.out hb)
  have V10 := hid (V9.out.later hb)
  have OV10 := hid (OV9.out.later hb)
  have Gb10 := hid (Gb9.out.later hb)
  have OG10 := hid (OG9.out.later hb)
  clear A9 B9 V9 OV9 Gb9 OG9
  clear hb
  have e0 := Gb10.out.cells
  go_wp2_with fail
  refine (markKept_any BG HG y tn _ N _ _ M _ jr js K H _ OG10.out K1.out K2.out (sb_smx K3.out) K5.out K6.out K4.out).mono ?_; rintro e w12 ⟨rfl, hmk, hc⟩
  have q1 := Q1.out
  have q2 := Q2.out
  have q3 := Q3.out
  have q4 := Q4.out
  have q5 := Q5.out
  have q6 := Q6.out
  have q7 := Q7.out
  have q8 := Q8.out
  have A11 := hid (A10.out.chg hc (by omega))
  have V11 := hid (V10.out.chg hc (by omega))
  have Gb11 := hid (Gb10.out.chg hc (by omega))
  have OV11 := hid (OV10.out.chg hc (by intro j h1 h2; omega))
  have MG11 := hid hmk
  have B11 : Hid (Below w.heap.size w w12) := B10.out.trans (hc.below B10.out.size (by intro j h; omega))
  obtain ⟨qm, hqm⟩ : ∃ qm : Nat, kx 1 K + M = qm := ⟨_, rfl⟩
  rw [hqm]
  have HQM := hid hqm
  have hm1 : ¬ ((qm : Nat) : Int) < 0 := by omega
  have hm2 : (((qm : Nat) : Int) != ((qm : Nat) : Int)) = false := by simp
  clear e0 hc hmk q1 q2 q3 q4 q5 q6 q7 q8 hqm A10 V10 Gb10 OV10 OG10 B10 hq1
  have e0 := Gb11.out.cells
  go_wp2_with fail
  refine (heldKept_any _ _ y tn _ N _ _ M _ jr js K _ MG11.out K1.out K2.out (sb_smx K3.out) K6.out K4.out).mono ?_; rintro e w13 ⟨rfl, hb⟩
  rw [HQM.out]
  clear e0
  have A12 := hid (A11.out.later hb)
  have B12 := hid (btr B11.out hb)
  have V12 := hid (V11.out.later hb)
  have OV12 := hid (OV11.out.later hb)
  have Gb12 := hid (Gb11.out.later hb)
  have MG12 := hid (MG11.out.later hb)
  clear A11 B11 V11 OV11 Gb11 MG11
  clear hb
  have HMw13 := hid (HM.out.later B12.out)
  have HIw13 := hid (HS'.out.later B12.out)
  have e9 := A12.out.cells
  go_wp2_with fail
  refine (toKept_any 0 w.heap.size 0 w.heap.size y tm ba bn bc ga gn gc jr sv S G _ HL.out S2.out S4.out HMw13.out HGL.out S3.out HIw13.out).mono ?_; rintro e v1 ⟨km, kg, rfl, how, hb1⟩
  have P1 := hid how.reads.2.2.1
  have P2 := hid how.reads.2.2.2
  clear how e9
  go_wp2_with fail
  refine (CIM.out _ _ _ _ _ _ _ P1.out P2.out).mono ?_; rintro e v3 ⟨ah, ch, ah', ch', rfl, ho3, hb3⟩
  have hb4 := btr hb1 hb3
  have hle : w13.heap.size ≤ v1.heap.size := hb1.size
  clear P1 P2 hb1 hb3
  obtain ⟨kh, hkh⟩ : ∃ kh, v3.heap.size = kh := ⟨_, rfl⟩
  obtain ⟨w14, hw14⟩ : ∃ w14, v3.alloc (.cells #[.int .i64 y, .int .i64 tn, .slice ah N ch, .slice ah' M ch', .string jr, .int .i64 js] 27) = w14 := ⟨_, rfl⟩
  have hv : AnsK w13 w14 kh y tn (.slice ah N ch) (.slice ah' M ch') jr js K H := by rw [← hw14, ← hkh]; exact ansk_last ho3 hle hb4
  clear ho3 hb4 hle
  obtain ⟨BH, HH, ov, bv, tv, dv⟩ := hv.own
  have hb := hv.bel
  have A13 := hid (A12.out.later hb)
  have B13 := hid (btr B12.out hb)
  have V13 := hid (V12.out.later hb)
  have OV13 := hid (OV12.out.later hb)
  have Gb13 := hid (Gb12.out.later hb)
  have MG13 := hid (MG12.out.later hb)
  clear A12 B12 V12 OV12 Gb12 MG12
  have Hb13 := hid hv.box
  have OH13 := hid ov
  clear hb hv ov bv tv dv HMw13 HIw13
  have e0 := Hb13.out.cells
  have e2 := V13.out.cells
  go_wp2_with fail
  clear hw14 hkh
  refine (eqKept_any _ _ _ _ _ _ _ _ y tn _ N _ _ M _ _ _ _ _ jr js K H _ K1.out K2.out K3.out OH13.out.t.reads.2.2.1 OV13.out.t.reads.2.2.1 K5.out K6.out OH13.out.t.reads.2.2.2 OV13.out.t.reads.2.2.2).mono ?_; rintro e w15 ⟨rfl, hb⟩
  clear e0 e2
  have A14 := hid (A13.out.later hb)
  have B14 := hid (btr B13.out hb)
  have V14 := hid (V13.out.later hb)
  have OV14 := hid (OV13.out.later hb)
  have Gb14 := hid (Gb13.out.later hb)
  have MG14 := hid (MG13.out.later hb)
  clear A13 B13 V13 OV13 Gb13 MG13
  clear hb
  have e0 := Gb14.out.cells
  go_wp2_with fail
  refine (heldKept_any _ _ y tn _ N _ _ M _ jr js K _ MG14.out K1.out K2.out (sb_smx K3.out) K6.out K4.out).mono ?_; rintro e w16 ⟨rfl, hb⟩
  rw [HQM.out]
  clear e0
  go_wp2
  go_ret
  exact ⟨rfl, btr B14.out hb⟩
end Go.Proofs.Ytpannfkfaagflaa
namespace Go.Proofs.Ytpannfkfaagflaa
open Go.ChangeShapes Go.WideShapes Go.ChangeAt Go.RowKit Go.Joins
theorem cellsInt : Try.prog.cellsOf 3 = 1 := by kernel_rfl
theorem cellsSt : Try.prog.cellsOf 66 = 2 := by kernel_rfl
theorem cellsRg : Try.prog.cellsOf 101 = 3 := by kernel_rfl
section
variable {H : Type} {enc : TypeId × Value → H} {w : World} {sp : Nat → Bool} {held : Bool}
set_option maxRecDepth 100000 in
theorem trodSt {fuel : Nat} {cs : List Value} {x : DataW H × List MemPlace} (hc : cs.length = 2) (h : DataW.trod enc Try.prog w 0 sp held fuel 66 cs = some x) :
    ∃ t b : Int, cs = [.int .i64 t, .int .i64 b] ∧ x = (.agg [.lit (.int .i64 t), .lit (.int .i64 b)], []) ∧ (Lit.int .i64 t).wf = true ∧ (Lit.int .i64 b).wf = true := by
  obtain ⟨y0, y1, n, hx, hl, h0, h1⟩ := trod_struct2 Try.underlying66 h
  match cs, hc with
  | [c0, c1], _ =>
    have k0 : DataW.trod enc Try.prog w 0 sp held n 3 [c0] = some y0 := by simpa [cellsInt] using h0
    have k1 : DataW.trod enc Try.prog w 0 sp held n 3 [c1] = some y1 := by simpa [cellsInt] using h1
    obtain ⟨t, e0, rfl, w0⟩ := DataW.trod_int Try.underlying3 k0
    obtain ⟨b, e1, rfl, w1⟩ := DataW.trod_int Try.underlying3 k1
    simp at e0 e1
    subst e0 e1
    exact ⟨t, b, rfl, hx, w0, w1⟩
end
section
variable {H : Type} {enc : TypeId × Value → H} {w : World} {spr : Nat → Bool} {held : Bool}
set_option maxRecDepth 100000 in
theorem trodRg {fuel : Nat} {cs : List Value} {y : DataW H × List MemPlace} (hc : cs.length = 3) (hf : DataW.trod enc Try.prog w 0 spr held fuel 101 cs = some y) :
    ∃ x t b : Int, cs = [.int .i64 x, .int .i64 t, .int .i64 b] := by
  match cs, hc with
  | [c0, c1, c2], _ =>
    obtain ⟨y0, y1, n, hx, hl, h0, h1⟩ := trod_struct2 Try.underlying101 hf
    have k0 : DataW.trod enc Try.prog w 0 spr held n 3 [c0] = some y0 := by simpa [cellsInt] using h0
    have k1 : DataW.trod enc Try.prog w 0 spr held n 66 [c1, c2] = some y1 := by simpa [cellsSt] using h1
    obtain ⟨x, e0, rfl, _⟩ := DataW.trod_int Try.underlying3 k0
    obtain ⟨t, b, e, rfl, _, _⟩ := trodSt rfl k1
    simp at e0 e
    obtain ⟨rfl, rfl⟩ := e
    subst e0
    exact ⟨x, t, b, rfl⟩
set_option maxRecDepth 100000 in
theorem addr_at {a : Addr} {u : Value} (h : w.cell? (a.add 0) = some u) : ∃ k o, a = ⟨k, o, none⟩ := by
  obtain ⟨k, o, s⟩ := a
  have hs : s = none := by simpa [Addr.add] using World.cell?_spot h
  exact ⟨k, o, by rw [hs]⟩
end
theorem cellsMl : Try.prog.cellsOf 92 = 4 := by kernel_rfl
theorem cellsRs : Try.prog.cellsOf 90 = 1 := by kernel_rfl
theorem cellsTx : Try.prog.cellsOf 9 = 1 := by kernel_rfl
section
variable {H : Type} {enc : TypeId × Value → H} {w : World} {spr : Nat → Bool} {held : Bool}
set_option maxRecDepth 100000 in
theorem trodRgS {fuel : Nat} {cs : List Value} {y : DataW H × List MemPlace} (hf : DataW.trod enc Try.prog w 0 spr held fuel 90 cs = some y) :
    ∃ (ao : Option Addr) (n cap : Nat) (l : List R3), cs = [.slice ao n cap] ∧ l.length = n ∧ (n : Int) ≤ 9223372036854775807 ∧ Rs w ao l := by
  rcases Go.Deep.open_slice Try.underlying90 hf with ⟨hcs, _⟩ | ⟨a, n, cap, m, nf, D, Pl, hcs, _, hl, hm, hmm, _, hx⟩
  · exact ⟨none, 0, 0, [], hcs, rfl, by decide, Rs.empty _ _⟩
  · have hlm : n ≤ m := by rw [hmm]; split <;> omega
    have hx' : ∀ i, i < n → ∃ r : R3, w.cell? (a.add (i * 3)) = some (.int .i64 r.1) ∧ w.cell? (a.add (i * 3 + 1)) = some (.int .i64 r.2.1) ∧ w.cell? (a.add (i * 3 + 2)) = some (.int .i64 r.2.2) := by
      intro i hi
      obtain ⟨cs, h1, h2⟩ := hx i (by omega)
      rw [cellsRg] at h1
      obtain ⟨_, hlen, hcell⟩ := World.cells?_some h1
      obtain ⟨x, t, b, rfl⟩ := trodRg hlen h2
      have e0 := hcell 0 (by omega)
      have e1 := hcell 1 (by omega)
      have e2 := hcell 2 (by omega)
      simp only [Go.Deep.add_add, Nat.add_zero] at e0 e1 e2
      exact ⟨(x, t, b), by simpa using e0, by simpa using e1, by simpa using e2⟩
    obtain ⟨r, hr⟩ := Go.Deep.choose_lt hx'
    refine ⟨some a, n, cap, (List.range n).map r, hcs, by simp, by unfold maxLen at hm; omega, ?_⟩
    intro hn
    simp at hn
    obtain ⟨k, o, rfl⟩ := addr_at (u := .int .i64 (r 0).1) (by simpa using (hr 0 hn).1)
    refine ⟨k, o, rfl, World.block_lt_of_cell? w (Addr.add ⟨k, o, none⟩ (0 * 3)) (hr 0 hn).1, fun i hi => ?_⟩
    have hi' : i < n := by simpa using hi
    have e := hr i hi'
    simp only [addr_add] at e
    simp only [List.getElem_map, List.getElem_range, Nat.add_assoc]
    exact e
end
theorem cellsBx : Try.prog.cellsOf 69 = 7 := by kernel_rfl
theorem cellsMls : Try.prog.cellsOf 67 = 1 := by kernel_rfl
theorem cellsIs : Try.prog.cellsOf 23 = 1 := by kernel_rfl
section
variable {H : Type} {enc : TypeId × Value → H} {w : World} {spr : Nat → Bool} {held : Bool}
theorem trod_struct6 {P : Program} {base : Nat} {spare : Nat → Bool} {t : TypeId} {f0 f1 f2 f3 f4 f5 : Field} {fuel : Nat} {cs : List Value} {x : DataW H × List MemPlace} (ht : P.underlying t = some (.struct #[f0, f1, f2, f3, f4, f5])) (h : DataW.trod enc P w base spare held fuel t cs = some x) :
    ∃ y0 y1 y2 y3 y4 y5 n, cs.length = P.cellsOf t ∧ DataW.trod enc P w base spare held n f0.type ((cs.drop f0.offset).take (P.cellsOf f0.type)) = some y0 ∧
      DataW.trod enc P w base spare held n f1.type ((cs.drop f1.offset).take (P.cellsOf f1.type)) = some y1 ∧ DataW.trod enc P w base spare held n f2.type ((cs.drop f2.offset).take (P.cellsOf f2.type)) = some y2 ∧
      DataW.trod enc P w base spare held n f3.type ((cs.drop f3.offset).take (P.cellsOf f3.type)) = some y3 ∧ DataW.trod enc P w base spare held n f4.type ((cs.drop f4.offset).take (P.cellsOf f4.type)) = some y4 ∧
      DataW.trod enc P w base spare held n f5.type ((cs.drop f5.offset).take (P.cellsOf f5.type)) = some y5 := by
  obtain ⟨xs, n, _, rfl, hl, hlen, hf⟩ := DataW.trod_struct ht h
  match xs, hlen with
  | [y0, y1, y2, y3, y4, y5], _ => exact ⟨y0, y1, y2, y3, y4, y5, n, hl, by simpa using hf 0 f0 rfl, by simpa using hf 1 f1 rfl, by simpa using hf 2 f2 rfl, by simpa using hf 3 f3 rfl, by simpa using hf 4 f4 rfl, by simpa using hf 5 f5 rfl⟩
/-- A list of registers in a field: a nil one has no room. -/
theorem trodRgZ {fuel : Nat} {cs : List Value} {y : DataW H × List MemPlace} (hf : DataW.trod enc Try.prog w 0 spr held fuel 90 cs = some y) :
    ∃ (ao : Option Addr) (n cap : Nat) (l : List R3), cs = [.slice ao n cap] ∧ l.length = n ∧ (n : Int) ≤ 9223372036854775807 ∧ Rs w ao l ∧ (ao = none → cap = 0) := by
  obtain ⟨ao, n, cap, l, h1, h2, h3, h4⟩ := trodRgS hf
  refine ⟨ao, n, cap, l, h1, h2, h3, h4, fun h0 => ?_⟩
  subst h0
  rcases Go.Deep.open_slice Try.underlying90 hf with ⟨hcs, _⟩ | ⟨a, n', cap', m, nf, D, Pl, hcs, _⟩
  · rw [h1] at hcs
    simp only [List.cons.injEq, Value.slice.injEq, and_true, true_and] at hcs
    exact hcs.2
  · rw [h1] at hcs
    simp at hcs
set_option maxRecDepth 100000 in
theorem trodMl {fuel : Nat} {cs : List Value} {y : DataW H × List MemPlace} (hc : cs.length = 4) (hf : DataW.trod enc Try.prog w 0 spr held fuel 92 cs = some y) :
    ∃ (r : M4) (fa : Option Addr) (fc : Nat), cs = [.int .i64 r.1, .int .i64 r.2.1, .slice fa r.2.2.1.length fc, .string r.2.2.2] ∧ ((r.2.2.1.length : Int) ≤ 9223372036854775807 ∧ (r.2.2.2.size : Int) ≤ 9223372036854775807) ∧ Rs w fa r.2.2.1 ∧ (fa = none → fc = 0) := by
  match cs, hc with
  | [c0, c1, c2, c3], _ =>
    obtain ⟨y0, y1, y2, y3, n, hx, hl, h0, h1, h2, h3⟩ := trod_struct4 Try.underlying92 hf
    have k0 : DataW.trod enc Try.prog w 0 spr held n 3 [c0] = some y0 := by simpa [cellsInt] using h0
    have k1 : DataW.trod enc Try.prog w 0 spr held n 3 [c1] = some y1 := by simpa [cellsInt] using h1
    have k2 : DataW.trod enc Try.prog w 0 spr held n 90 [c2] = some y2 := by simpa [cellsRs] using h2
    have k3 : DataW.trod enc Try.prog w 0 spr held n 9 [c3] = some y3 := by simpa [cellsTx] using h3
    obtain ⟨g, e0, _, _⟩ := DataW.trod_int Try.underlying3 k0
    obtain ⟨u, e1, _, _⟩ := DataW.trod_int Try.underlying3 k1
    obtain ⟨ao, m, cap, l, e2, hl2, hm, hr, hz⟩ := trodRgZ k2
    obtain ⟨t, e3, _, ht⟩ := DataW.trod_string Try.underlying9 k3
    simp only [List.cons.injEq, and_true] at e0 e1 e2 e3
    subst e0 e1 e2 e3 hl2
    exact ⟨(g, u, l, t), ao, cap, rfl, ⟨hm, by unfold maxLen at ht; dsimp only; omega⟩, hr, hz⟩
set_option maxRecDepth 100000 in
theorem trodMlS {fuel : Nat} {cs : List Value} {y : DataW H × List MemPlace} (hf : DataW.trod enc Try.prog w 0 spr held fuel 67 cs = some y) :
    ∃ (ao : Option Addr) (n cap : Nat) (L : List M4), cs = [.slice ao n cap] ∧ L.length = n ∧ (n : Int) ≤ 9223372036854775807 ∧ Fit L ∧ Ms 0 w.heap.size w ao L := by
  rcases Go.Deep.open_slice Try.underlying67 hf with ⟨hcs, _⟩ | ⟨a, n, cap, m, nf, D, Pl, hcs, _, hl, hm, hmm, _, hx⟩
  · exact ⟨none, 0, 0, [], hcs, rfl, by decide, (fun m hm => by cases hm), Nat.le_refl _, fun i hi => absurd hi (by simp)⟩
  · have hlm : n ≤ m := by rw [hmm]; split <;> omega
    have hx' : ∀ i, i < n → ∃ z : M4 × Option Addr × Nat, (w.cell? (a.add (i * 4)) = some (.int .i64 z.1.1) ∧ w.cell? (a.add (i * 4 + 1)) = some (.int .i64 z.1.2.1) ∧ w.cell? (a.add (i * 4 + 2)) = some (.slice z.2.1 z.1.2.2.1.length z.2.2) ∧ w.cell? (a.add (i * 4 + 3)) = some (.string z.1.2.2.2)) ∧ ((z.1.2.2.1.length : Int) ≤ 9223372036854775807 ∧ (z.1.2.2.2.size : Int) ≤ 9223372036854775807) ∧ Rs w z.2.1 z.1.2.2.1 ∧ (z.2.1 = none → z.2.2 = 0) := by
      intro i hi
      obtain ⟨cs, h1, h2⟩ := hx i (by omega)
      rw [cellsMl] at h1
      obtain ⟨_, hlen, hcell⟩ := World.cells?_some h1
      obtain ⟨r, fa, fc, rfl, hf1, hf2, hf3⟩ := trodMl hlen h2
      have e0 := hcell 0 (by omega)
      have e1 := hcell 1 (by omega)
      have e2 := hcell 2 (by omega)
      have e3 := hcell 3 (by omega)
      simp only [Go.Deep.add_add, Nat.add_zero] at e0 e1 e2 e3
      exact ⟨(r, fa, fc), ⟨by simpa using e0, by simpa using e1, by simpa using e2, by simpa using e3⟩, hf1, hf2, hf3⟩
    obtain ⟨r, hr⟩ := Go.Deep.choose_lt hx'
    refine ⟨some a, n, cap, (List.range n).map (fun i => (r i).1), hcs, by simp, by unfold maxLen at hm; omega, ?_, Nat.le_refl _, ?_⟩
    · intro x hx
      obtain ⟨i, hi, rfl⟩ := List.mem_map.1 hx
      exact (hr i (List.mem_range.1 hi)).2.1
    · intro i hi
      have hi' : i < n := by simpa using hi
      obtain ⟨e, _, e2, e3⟩ := hr i hi'
      obtain ⟨k, o, rfl⟩ := addr_at (a := a) (u := .int .i64 (r 0).1.1) (by simpa using (hr 0 (by omega)).1.1)
      have hb := World.block_lt_of_cell? w (Addr.add ⟨k, o, none⟩ (i * 4)) e.1
      simp only [addr_add] at e hb
      refine ⟨k, o, (r i).2.1, (r i).2.2, rfl, Nat.zero_le _, hb, ?_, ?_, e3⟩
      · simp only [List.getElem_map, List.getElem_range, Nat.add_assoc]
        exact e
      · simp only [List.getElem_map, List.getElem_range]
        intro hn
        obtain ⟨k', o', h1, h2, h3⟩ := e2 hn
        exact ⟨k', o', h1, Nat.zero_le _, h2, h3⟩
set_option maxRecDepth 100000 in
theorem trodIS {fuel : Nat} {cs : List Value} {y : DataW H × List MemPlace} (hf : DataW.trod enc Try.prog w 0 spr held fuel 23 cs = some y) :
    ∃ (ao : Option Addr) (n cap : Nat) (G : List Int), cs = [.slice ao n cap] ∧ G.length = n ∧ (n : Int) ≤ 9223372036854775807 ∧ Is 0 w.heap.size w ao G := by
  rcases Go.Deep.open_slice Try.underlying23 hf with ⟨hcs, _⟩ | ⟨a, n, cap, m, nf, D, Pl, hcs, _, hl, hm, hmm, _, hx⟩
  · exact ⟨none, 0, 0, [], hcs, rfl, by decide, Nat.le_refl _, fun i hi => absurd hi (by simp)⟩
  · have hlm : n ≤ m := by rw [hmm]; split <;> omega
    have hx' : ∀ i, i < n → ∃ z : Int, w.cell? (a.add i) = some (.int .i64 z) := by
      intro i hi
      obtain ⟨cs, h1, h2⟩ := hx i (by omega)
      rw [cellsInt] at h1
      obtain ⟨_, hlen, hcell⟩ := World.cells?_some h1
      match cs, hlen with
      | [c0], _ =>
        obtain ⟨z, e0, _, _⟩ := DataW.trod_int Try.underlying3 h2
        simp only [List.cons.injEq, and_true] at e0
        subst e0
        have e := hcell 0 (by omega)
        exact ⟨z, by simpa [Go.Deep.add_add] using e⟩
    obtain ⟨r, hr⟩ := Go.Deep.choose_lt hx'
    refine ⟨some a, n, cap, (List.range n).map r, hcs, by simp, by unfold maxLen at hm; omega, Nat.le_refl _, ?_⟩
    intro i hi
    have hi' : i < n := by simpa using hi
    have e := hr i hi'
    obtain ⟨k, o, rfl⟩ := addr_at (a := a) (u := .int .i64 (r 0)) (hr 0 (by omega))
    have hb := World.block_lt_of_cell? w (Addr.add ⟨k, o, none⟩ i) e
    simp only [addr_add] at e hb
    refine ⟨k, o, rfl, Nat.zero_le _, hb, ?_⟩
    simp only [List.getElem_map, List.getElem_range]
    exact e
end
theorem cellsSo : Try.prog.cellsOf 34 = 4 := by kernel_rfl
theorem cellsBxs : Try.prog.cellsOf 32 = 1 := by kernel_rfl
section
variable {H : Type} {enc : TypeId × Value → H} {w : World} {spr : Nat → Bool} {held : Bool}
theorem trodMlZ {fuel : Nat} {cs : List Value} {y : DataW H × List MemPlace} (hf : DataW.trod enc Try.prog w 0 spr held fuel 67 cs = some y) :
    ∃ (ao : Option Addr) (n cap : Nat) (L : List M4), cs = [.slice ao n cap] ∧ L.length = n ∧ (n : Int) ≤ 9223372036854775807 ∧ Fit L ∧ Ms 0 w.heap.size w ao L ∧ (ao = none → cap = 0) := by
  obtain ⟨ao, n, cap, l, h1, h2, h3, h4, h5⟩ := trodMlS hf
  refine ⟨ao, n, cap, l, h1, h2, h3, h4, h5, fun h0 => ?_⟩
  subst h0
  rcases Go.Deep.open_slice Try.underlying67 hf with ⟨hcs, _⟩ | ⟨a, n', cap', m, nf, D, Pl, hcs, _⟩
  · rw [h1] at hcs
    simp only [List.cons.injEq, Value.slice.injEq, and_true, true_and] at hcs
    exact hcs.2
  · rw [h1] at hcs
    simp at hcs
theorem trodIZ {fuel : Nat} {cs : List Value} {y : DataW H × List MemPlace} (hf : DataW.trod enc Try.prog w 0 spr held fuel 23 cs = some y) :
    ∃ (ao : Option Addr) (n cap : Nat) (G : List Int), cs = [.slice ao n cap] ∧ G.length = n ∧ (n : Int) ≤ 9223372036854775807 ∧ Is 0 w.heap.size w ao G ∧ (ao = none → cap = 0) := by
  obtain ⟨ao, n, cap, l, h1, h2, h3, h4⟩ := trodIS hf
  refine ⟨ao, n, cap, l, h1, h2, h3, h4, fun h0 => ?_⟩
  subst h0
  rcases Go.Deep.open_slice Try.underlying23 hf with ⟨hcs, _⟩ | ⟨a, n', cap', m, nf, D, Pl, hcs, _⟩
  · rw [h1] at hcs
    simp only [List.cons.injEq, Value.slice.injEq, and_true, true_and] at hcs
    exact hcs.2
  · rw [h1] at hcs
    simp at hcs
set_option maxRecDepth 100000 in
theorem trodBx {fuel : Nat} {cs : List Value} {y : DataW H × List MemPlace} (hc : cs.length = 7) (hf : DataW.trod enc Try.prog w 0 spr held fuel 69 cs = some y) :
    ∃ (x : X7) (ma : Option Addr) (mc : Nat) (ga : Option Addr) (gc : Nat), cs = [.int .i64 x.1, .string x.2.1, .int .i64 x.2.2.1, .int .i64 x.2.2.2.1, .int .i64 x.2.2.2.2.1, .slice ma x.2.2.2.2.2.1.length mc, .slice ga x.2.2.2.2.2.2.length gc] ∧ ((x.2.1.size : Int) ≤ 9223372036854775807 ∧ (x.2.2.2.2.2.1.length : Int) ≤ 9223372036854775807 ∧ Fit x.2.2.2.2.2.1 ∧ (x.2.2.2.2.2.2.length : Int) ≤ 9223372036854775807) ∧ Ms 0 w.heap.size w ma x.2.2.2.2.2.1 ∧ Is 0 w.heap.size w ga x.2.2.2.2.2.2 ∧ (ma = none → mc = 0) ∧ (ga = none → gc = 0) := by
  match cs, hc with
  | [c0, c1, c2, c3, c4, c5, c6], _ =>
    obtain ⟨y0, y1, y2, y3, y4, y5, n, hl, h0, h1, h2, h3, h4, h5⟩ := trod_struct6 Try.underlying69 hf
    have k0 : DataW.trod enc Try.prog w 0 spr held n 3 [c0] = some y0 := by simpa [cellsInt] using h0
    have k1 : DataW.trod enc Try.prog w 0 spr held n 9 [c1] = some y1 := by simpa [cellsTx] using h1
    have k2 : DataW.trod enc Try.prog w 0 spr held n 66 [c2, c3] = some y2 := by simpa [cellsSt] using h2
    have k3 : DataW.trod enc Try.prog w 0 spr held n 3 [c4] = some y3 := by simpa [cellsInt] using h3
    have k4 : DataW.trod enc Try.prog w 0 spr held n 67 [c5] = some y4 := by simpa [cellsMls] using h4
    have k5 : DataW.trod enc Try.prog w 0 spr held n 23 [c6] = some y5 := by simpa [cellsIs] using h5
    obtain ⟨g, e0, _, _⟩ := DataW.trod_int Try.underlying3 k0
    obtain ⟨nm, e1, _, hnm⟩ := DataW.trod_string Try.underlying9 k1
    obtain ⟨t, b, e2, _, _, _⟩ := trodSt rfl k2
    obtain ⟨nx, e3, _, _⟩ := DataW.trod_int Try.underlying3 k3
    obtain ⟨ma, mn, mc, L, e4, i1, i2, i3, i4, i5⟩ := trodMlZ k4
    obtain ⟨ga, gn, gc, G, e5, j1, j2, j3, j4⟩ := trodIZ k5
    simp only [List.cons.injEq, and_true] at e0 e1 e2 e3 e4 e5
    obtain ⟨rfl, rfl⟩ := e2
    subst e0 e1 e3 e4 e5 i1 j1
    exact ⟨(g, nm, t, b, nx, L, G), ma, mc, ga, gc, rfl, ⟨by unfold maxLen at hnm; dsimp only; omega, i2, i3, j2⟩, i4, j3, i5, j4⟩
set_option maxRecDepth 100000 in
theorem trodBxS {fuel : Nat} {cs : List Value} {y : DataW H × List MemPlace} (hf : DataW.trod enc Try.prog w 0 spr held fuel 32 cs = some y) :
    ∃ (ao : Option Addr) (n cap : Nat) (S : List X7), cs = [.slice ao n cap] ∧ S.length = n ∧ (n : Int) ≤ 9223372036854775807 ∧ FitB S ∧ Bs 0 w.heap.size w ao S := by
  rcases Go.Deep.open_slice Try.underlying32 hf with ⟨hcs, _⟩ | ⟨a, n, cap, m, nf, D, Pl, hcs, _, hl, hm, hmm, _, hx⟩
  · exact ⟨none, 0, 0, [], hcs, rfl, by decide, (fun m hm => by cases hm), Nat.le_refl _, fun i hi => absurd hi (by simp)⟩
  · have hlm : n ≤ m := by rw [hmm]; split <;> omega
    have hx' : ∀ i, i < n → ∃ z : X7 × Option Addr × Nat × Option Addr × Nat, (w.cell? (a.add (i * 7)) = some (.int .i64 z.1.1) ∧ w.cell? (a.add (i * 7 + 1)) = some (.string z.1.2.1) ∧ w.cell? (a.add (i * 7 + 2)) = some (.int .i64 z.1.2.2.1) ∧ w.cell? (a.add (i * 7 + 3)) = some (.int .i64 z.1.2.2.2.1) ∧ w.cell? (a.add (i * 7 + 4)) = some (.int .i64 z.1.2.2.2.2.1) ∧ w.cell? (a.add (i * 7 + 5)) = some (.slice z.2.1 z.1.2.2.2.2.2.1.length z.2.2.1) ∧ w.cell? (a.add (i * 7 + 6)) = some (.slice z.2.2.2.1 z.1.2.2.2.2.2.2.length z.2.2.2.2)) ∧ ((z.1.2.1.size : Int) ≤ 9223372036854775807 ∧ (z.1.2.2.2.2.2.1.length : Int) ≤ 9223372036854775807 ∧ Fit z.1.2.2.2.2.2.1 ∧ (z.1.2.2.2.2.2.2.length : Int) ≤ 9223372036854775807) ∧ Ms 0 w.heap.size w z.2.1 z.1.2.2.2.2.2.1 ∧ Is 0 w.heap.size w z.2.2.2.1 z.1.2.2.2.2.2.2 ∧ (z.2.1 = none → z.2.2.1 = 0) ∧ (z.2.2.2.1 = none → z.2.2.2.2 = 0) := by
      intro i hi
      obtain ⟨cs, h1, h2⟩ := hx i (by omega)
      rw [cellsBx] at h1
      obtain ⟨_, hlen, hcell⟩ := World.cells?_some h1
      obtain ⟨x, ma, mc, ga, gc, rfl, hf1, hf2, hf3, hf4, hf5⟩ := trodBx hlen h2
      have e0 := hcell 0 (by omega)
      have e1 := hcell 1 (by omega)
      have e2 := hcell 2 (by omega)
      have e3 := hcell 3 (by omega)
      have e4 := hcell 4 (by omega)
      have e5 := hcell 5 (by omega)
      have e6 := hcell 6 (by omega)
      simp only [Go.Deep.add_add, Nat.add_zero] at e0 e1 e2 e3 e4 e5 e6
      exact ⟨(x, ma, mc, ga, gc), ⟨by simpa using e0, by simpa using e1, by simpa using e2, by simpa using e3, by simpa using e4, by simpa using e5, by simpa using e6⟩, hf1, hf2, hf3, hf4, hf5⟩
    obtain ⟨r, hr⟩ := Go.Deep.choose_lt hx'
    refine ⟨some a, n, cap, (List.range n).map (fun i => (r i).1), hcs, by simp, by unfold maxLen at hm; omega, ?_, Nat.le_refl _, ?_⟩
    · intro x hx
      obtain ⟨i, hi, rfl⟩ := List.mem_map.1 hx
      exact (hr i (List.mem_range.1 hi)).2.1
    · intro i hi
      have hi' : i < n := by simpa using hi
      obtain ⟨e, _, e2, e3, e4, e5⟩ := hr i hi'
      obtain ⟨k, o, rfl⟩ := addr_at (a := a) (u := .int .i64 (r 0).1.1) (by simpa using (hr 0 (by omega)).1.1)
      have hb := World.block_lt_of_cell? w (Addr.add ⟨k, o, none⟩ (i * 7)) e.1
      simp only [addr_add] at e hb
      refine ⟨k, o, (r i).2.1, (r i).2.2.1, (r i).2.2.2.1, (r i).2.2.2.2, rfl, Nat.zero_le _, hb, ?_, ?_, ?_, e4, e5⟩
      · simp only [List.getElem_map, List.getElem_range]
        unfold C7
        simp only [Nat.add_assoc]
        exact e
      · simp only [List.getElem_map, List.getElem_range]
        exact e2
      · simp only [List.getElem_map, List.getElem_range]
        exact e3
end
theorem cellsKp : Try.prog.cellsOf 36 = 6 := by kernel_rfl
theorem array6 {α : Type} {cs : Array α} (h : cs.size = 6) : ∃ c0 c1 c2 c3 c4 c5, cs = #[c0, c1, c2, c3, c4, c5] := by
  obtain ⟨l, rfl⟩ : ∃ l : List α, cs = l.toArray := ⟨cs.toList, by simp⟩
  have hl : l.length = 6 := by simpa using h
  match l, hl with
  | [c0, c1, c2, c3, c4, c5], _ => exact ⟨c0, c1, c2, c3, c4, c5, rfl⟩
section
variable {H : Type} {enc : TypeId × Value → H} {w : World} {spr : Nat → Bool} {held : Bool}
set_option maxRecDepth 100000 in
theorem trodSo {fuel : Nat} {c0 c1 c2 c3 : Value} {y : DataW H × List MemPlace} (hf : DataW.trod enc Try.prog w 0 spr held fuel 34 [c0, c1, c2, c3] = some y) :
    ∃ (y tm : Int) (ba : Option Addr) (bn bc : Nat) (ga : Option Addr) (gn gc : Nat) (S : List X7) (G : List Int), (c0 = .int .i64 y ∧ c1 = .int .i64 tm ∧ c2 = .slice ba bn bc ∧ c3 = .slice ga gn gc) ∧ S.length = bn ∧ (bn : Int) ≤ 9223372036854775807 ∧ FitB S ∧ Bs 0 w.heap.size w ba S ∧ G.length = gn ∧ (gn : Int) ≤ 9223372036854775807 ∧ Is 0 w.heap.size w ga G := by
  obtain ⟨y0, y1, y2, y3, n, hx, hl, h0, h1, h2, h3⟩ := trod_struct4 Try.underlying34 hf
  have k0 : DataW.trod enc Try.prog w 0 spr held n 3 [c0] = some y0 := by simpa [cellsInt] using h0
  have k1 : DataW.trod enc Try.prog w 0 spr held n 3 [c1] = some y1 := by simpa [cellsInt] using h1
  have k2 : DataW.trod enc Try.prog w 0 spr held n 32 [c2] = some y2 := by simpa [cellsBxs] using h2
  have k3 : DataW.trod enc Try.prog w 0 spr held n 23 [c3] = some y3 := by simpa [cellsIs] using h3
  obtain ⟨g, e0, _, _⟩ := DataW.trod_int Try.underlying3 k0
  obtain ⟨u, e1, _, _⟩ := DataW.trod_int Try.underlying3 k1
  obtain ⟨ba, bn, bc, S, e2, i1, i2, i3, i4⟩ := trodBxS k2
  obtain ⟨ga, gn, gc, G, e3, j1, j2, j3⟩ := trodIS k3
  simp only [List.cons.injEq, and_true] at e0 e1 e2 e3
  exact ⟨g, u, ba, bn, bc, ga, gn, gc, S, G, ⟨e0, e1, e2, e3⟩, i1, i2, i3, i4, j1, j2, j3⟩
set_option maxRecDepth 100000 in
theorem openKp {base : Nat} {v : Value} {d : DataW H} {p : List MemPlace} (hv : Value.okWide Try.prog w .any base 36 v) (h : DataW.Trod enc Try.prog w 0 spr held 36 v d p) :
    ∃ (y tm : Int) (ba : Option Addr) (bn bc : Nat) (ga : Option Addr) (gn gc : Nat) (S : List X7) (G : List Int) (jr : ByteArray) (sv : Int), v = .agg #[.int .i64 y, .int .i64 tm, .slice ba bn bc, .slice ga gn gc, .string jr, .int .i64 sv] ∧ S.length = bn ∧ (bn : Int) ≤ 9223372036854775807 ∧ FitB S ∧ Bs 0 w.heap.size w ba S ∧ G.length = gn ∧ (gn : Int) ≤ 9223372036854775807 ∧ Is 0 w.heap.size w ga G ∧ jr.size ≤ maxLen := by
  obtain ⟨cs, rfl, hsz⟩ := okWide_struct Try.underlying36 hv
  obtain ⟨fuel, hf⟩ := h
  rw [cellsKp] at hsz
  obtain ⟨c0, c1, c2, c3, c4, c5, rfl⟩ := array6 hsz
  obtain ⟨xs, n, _, _, _, hlen, hx⟩ := DataW.trod_struct Try.underlying36 hf
  match xs, hlen with
  | [y0, y1, y2], _ =>
    have k0 : DataW.trod enc Try.prog w 0 spr held n 34 [c0, c1, c2, c3] = some y0 := by simpa [cellsSo, Value.cells] using hx 0 _ rfl
    have k1 : DataW.trod enc Try.prog w 0 spr held n 9 [c4] = some y1 := by simpa [cellsTx, Value.cells] using hx 1 _ rfl
    have k2 : DataW.trod enc Try.prog w 0 spr held n 3 [c5] = some y2 := by simpa [cellsInt, Value.cells] using hx 2 _ rfl
    obtain ⟨y, tm, ba, bn, bc, ga, gn, gc, S, G, ⟨rfl, rfl, rfl, rfl⟩, i1, i2, i3, i4, i5, i6, i7⟩ := trodSo k0
    obtain ⟨jr, e4, _, ht⟩ := DataW.trod_string Try.underlying9 k1
    obtain ⟨sv, e5, _, _⟩ := DataW.trod_int Try.underlying3 k2
    simp only [List.cons.injEq, and_true] at e4 e5
    subst e4 e5
    exact ⟨y, tm, ba, bn, bc, ga, gn, gc, S, G, jr, sv, rfl, i1, i2, i3, i4, i5, i6, i7, ht⟩
end
end Go.Proofs.Ytpannfkfaagflaa
