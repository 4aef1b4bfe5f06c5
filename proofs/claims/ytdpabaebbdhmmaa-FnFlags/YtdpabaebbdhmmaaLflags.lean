/- The walk of the law of flags. -/
import Derived.Test.YtdpabaebbdhmmaaFpure
namespace Go.Proofs.Ytdpabaebbdhmmaa
open Go.RowKit

theorem joinF (ao bo : Option Addr) (ca cb : Nat) (a b : List R3) (w : World) (hla : a.length = 3) (hlb : b.length = 3) (ha : Rs w ao a) (hb : Rs w bo b) :
    Calls Try.prog 19 #[.slice ao 3 ca, .slice bo 3 cb] w fun e w' => e = .returned (.slice (some ⟨w.heap.size, 0, none⟩) 3 3) ∧ Rs w' (some ⟨w.heap.size, 0, none⟩) (jl a b) ∧ Below w.heap.size w w' := by
  have hl : (jl a b).length = 3 := by rw [jl_len, hla, hlb]; rfl
  refine (implJoinFlags_any ao bo 3 3 ca cb a b w hla hlb (by decide) (by decide) ha hb).mono ?_
  rintro e w' ⟨h1, h2, h3⟩
  rw [hl] at h1 h2
  exact ⟨h1, (Ow.rs h2).2, h3⟩
theorem setF (ao : Option Addr) (cap : Nat) (l : List R3) (m t b : Int) (w : World) (hl : l.length = 3) (hr : Rs w ao l) :
    Calls Try.prog 21 #[.slice ao 3 cap, .int .i64 m, .agg #[.int .i64 t, .int .i64 b]] w fun e w' => ∃ g, e = .returned (.slice (some ⟨g, 0, none⟩) 3 3) ∧ Rs w' (some ⟨g, 0, none⟩) (sl l m t b) ∧ Below w.heap.size w w' :=
  (implSetFlags_any ao 3 cap l m t b w hl (by decide) hr).mono fun _ _ ⟨g, _, h1, h2, h3⟩ => ⟨g, h1, (Ow.rs h2).2, h3⟩

theorem ofF (ao : Option Addr) (l : List R3) (m : Int) (w : World) (hl : l.length = 3) (hm : ((fof l 3 : Nat) : Int) = m) (hr : Rs w ao l) :
    Calls Try.prog 25 #[.slice ao 3 3] w fun e w' => e = .returned (.int .i64 m) ∧ Below w.heap.size w w' :=
  (implFlagsOf_any ao 3 3 l w hl (by decide) (by decide) hr).mono fun _ _ ⟨h1, h2⟩ => ⟨by rw [h1]; exact val_end _ _ hm, h2⟩
theorem okF (ao : Option Addr) (c : Nat) (l : List R3) (w : World) (hl : l.length = 3) (hm : flOk l = true) (hr : Rs w ao l) :
    Calls Try.prog 26 #[.slice ao 3 c] w fun e w' => e = .returned (.bool true) ∧ Below w.heap.size w w' :=
  (implFlagsOk_any ao 3 c l w hl (by decide) hr).mono fun _ _ ⟨h1, h2⟩ => ⟨by rw [h1, hm], h2⟩
theorem newF (m : Int) (w : World) :
    Calls Try.prog 30 #[.int .i64 m, .agg #[.int .i64 0, .int .i64 0]] w fun e w' => ∃ g, e = .returned (.slice (some ⟨g, 0, none⟩) 3 3) ∧ Rs w' (some ⟨g, 0, none⟩) (fnew m 0 0) ∧ Below w.heap.size w w' :=
  (implFlagsNew_any m 0 0 w).mono fun _ _ ⟨g, _, h1, h2, h3⟩ => ⟨g, h1, (Ow.rs h2).2, h3⟩
theorem setI (ao : Option Addr) (n cap : Nat) (l : List R3) (m t b : Int) (w : World) (hl : l.length = n) (hn : n ≤ 4) (hr : Rs w ao l) :
    Calls Try.prog 21 #[.slice ao n cap, .int .i64 m, .agg #[.int .i64 t, .int .i64 b]] w fun e w' => ∃ g, e = .returned (.slice (some ⟨g, 0, none⟩) n n) ∧ Rs w' (some ⟨g, 0, none⟩) (sl l m t b) ∧ Below w.heap.size w w' :=
  (implSetFlags_any ao n cap l m t b w hl (by omega) hr).mono fun _ _ ⟨g, _, h1, h2, h3⟩ => ⟨g, h1, (Ow.rs h2).2, h3⟩
theorem setM (ao : Option Addr) (n cap : Nat) (l : List R3) (m t b : Int) (w : World) (hl : l.length = n) (hn : n ≤ 4) (hr : Rs w ao l) (h0 : ao = none → cap = 0) :
    Calls Try.prog 27 #[.slice ao n cap, .int .i64 m, .agg #[.int .i64 t, .int .i64 b]] w fun e w' => ∃ a c, e = .returned (.slice a n c) ∧ Rs w' a (sl l m t b) ∧ Below w.heap.size w w' :=
  (specSetFlags_any ao n cap l m t b w hl (by omega) hr h0).mono fun _ _ ⟨v, h1, h2, h3⟩ => by
    obtain ⟨a, c, hv, hs⟩ := Ow.shape h2
    rw [sl_len, hl] at hv
    exact ⟨a, c, by rw [h1, hv], hs, h3⟩

set_option maxHeartbeats 8000000 in
set_option maxRecDepth 100000 in
theorem lawFlags_any (ao : Option Addr) (n cap : Nat) (w : World) (hcode : Code w w.heap.size ao n) :
    Calls Try.prog 5 #[.slice ao n cap] w fun e w' => e = .returned (.bool true) ∧ Below w.heap.size w w' := by
  have HO := hid hcode
  clear hcode
  by_cases hbig : n ≤ 1048576
  · go_enter Try.func5, Try.ntmps5
    go_wp2_with fail
    refine (bigF_no ao n cap _ hbig).mono ?_; rintro e w' ⟨rfl, h'⟩
    rw [h']
    clear h'
    go_wp2_with fail
    refine (drawFlags_any ao n cap _ hbig HO.out).mono ?_; rintro e w1 ⟨va, vb, vc, a, b, c, hlen, hgd, rfl, hd, hb1⟩
    obtain ⟨⟨aa, ka, rfl, _, _, _, ra, _⟩, ⟨ab, kb, rfl, _, _, _, rb, _⟩, ⟨ac, kc, rfl, _, _, _, rc, _⟩⟩ := hd
    have LA := hid hlen.1
    have LB := hid hlen.2.1
    have LC := hid hlen.2.2
    rw [LA.out, LB.out, LC.out]
    have GD := hid hgd
    have B1 := hid hb1
    have RA := hid ra
    have RB := hid rb
    have RC := hid rc
    clear hlen hgd hb1 ra rb rc
    have LJ : Hid ((jl a b).length = 3) := by show _ = _; rw [jl_len, LA.out, LB.out]; rfl
    go_wp2_with fail
    refine (joinF aa ab ka kb a b _ LA.out LB.out RA.out RB.out).mono ?_; rintro e w2 ⟨rfl, rj, hb2⟩
    have B2 := hid hb2
    have RJ := hid rj
    clear hb2 rj
    go_wp2_with fail
    refine (joinF _ ac 3 kc (jl a b) c _ LJ.out LC.out RJ.out (RC.out.later B2.out)).mono ?_; rintro e w3 ⟨rfl, rx, hb3⟩
    have B3 := hid (btr B2.out hb3)
    have RJ3 := hid (RJ.out.later hb3)
    have RX := hid rx
    clear hb3 rx RJ
    go_wp2_with fail
    refine (joinF ac ab kc kb c b _ LC.out LB.out (RC.out.later B3.out) (RB.out.later B3.out)).mono ?_; rintro e w4 ⟨rfl, r4, hb4⟩
    have LCB : Hid ((jl c b).length = 3) := by show _ = _; rw [jl_len, LC.out, LB.out]; rfl
    have B4 := hid (btr B3.out hb4)
    have RJ4 := hid (RJ3.out.later hb4)
    have RX4 := hid (RX.out.later hb4)
    have R4 := hid r4
    clear hb4 r4 RJ3 RX
    go_wp2_with fail
    refine (joinF aa _ ka 3 a (jl c b) _ LA.out LCB.out (RA.out.later B4.out) R4.out).mono ?_; rintro e w5 ⟨rfl, ry, hb5⟩
    rw [jl_order LA.out LB.out LC.out] at ry
    have B5 := hid (btr B4.out hb5)
    have RJ5 := hid (RJ4.out.later hb5)
    have RX5 := hid (RX4.out.later hb5)
    have RY := hid ry
    clear hb5 ry RJ4 RX4 R4
    go_wp2_with fail
    refine (drawPlaces_any ao n cap _ hbig (HO.out.over (btr B1.out B5.out))).mono ?_; rintro e w6 ⟨g6, c6, x6, y6, rfl, _, hx6, hy6, hxb, _, hb6⟩
    have B6 := hid (btr B5.out hb6)
    have RJ6 := hid (RJ5.out.later hb6)
    have RX6 := hid (RX5.out.later hb6)
    have RY6 := hid (RY.out.later hb6)
    obtain ⟨m, hm⟩ : ∃ m : Int, (x6 : Int).tmod 8 = m := ⟨_, rfl⟩
    have HM : Hid (0 ≤ m ∧ m ≤ 7) := by
      show _ ∧ _
      rw [Int.tmod_eq_emod_of_nonneg (by omega)] at hm
      omega
    clear hb6 hy6 hxb RJ5 RX5 RY
    go_wp2_with fail
    clear hm hx6
    refine (setF _ 3 (jl a b) m 50 2 _ LJ.out RJ6.out).mono ?_; rintro e w7 ⟨g7, rfl, rs, hb7⟩
    have B7 := hid (btr B6.out hb7)
    have RJ7 := hid (RJ6.out.later hb7)
    have RX7 := hid (RX6.out.later hb7)
    have RY7 := hid (RY6.out.later hb7)
    have RS := hid rs
    clear hb7 rs RJ6 RX6 RY6
    go_wp2_with fail
    refine (drawSet_any ao n cap _ hbig (HO.out.over (btr B1.out B7.out))).mono ?_; rintro e w8 ⟨vu, lu, mu, tu, bu, rfl, ⟨au, ku, rfl, hu4, hukc, hu0, ru, _⟩, hb8⟩
    have B8 := hid (btr B7.out hb8)
    have RJ8 := hid (RJ7.out.later hb8)
    have RX8 := hid (RX7.out.later hb8)
    have RY8 := hid (RY7.out.later hb8)
    have RS8 := hid (RS.out.later hb8)
    have RU := hid ru
    obtain ⟨nu, hnu⟩ : ∃ nu, lu.length = nu := ⟨_, rfl⟩
    have LU := hid hnu
    have HU0 := hid hu0
    rw [hnu] at hu4 hukc ⊢
    have HU4 := hid hu4
    clear hb8 ru hnu RJ7 RX7 RY7 RS hu0 hu4 hukc
    obtain ⟨W8, hW8⟩ : ∃ W8, w8.alloc (.cells #[.int .i64 tu, .int .i64 bu] 25) = W8 := ⟨_, rfl⟩
    have A8 : Hid (Sg W8 w8.heap.size 25 tu bu) := by subst hW8; exact Sg.new w8 _ tu bu
    have BB8 : Hid (Below w8.heap.size w8 W8) := by subst hW8; exact bpush (bre _) _
    go_wp2_with fail
    clear hW8
    refine (drawFlagsOf_any ao n cap _ hbig (HO.out.over (btr B1.out (btr B8.out BB8.out)))).mono ?_; rintro e w9 ⟨vf, lf, rfl, ⟨af, kf, rfl, hf4, hfkc, hf0, rf, _⟩, hb9⟩
    have B9 := hid (btr B8.out (btr BB8.out hb9))
    have BB9 := hid (btr BB8.out hb9)
    have RF := hid rf
    obtain ⟨nf, hnf⟩ : ∃ nf, lf.length = nf := ⟨_, rfl⟩
    have LF := hid hnf
    rw [hnf] at hf4 hfkc ⊢
    have HF4 := hid hf4
    have HFK := hid hfkc
    have HF0 := hid hf0
    have A9 := hid (A8.out.later hb9)
    clear hb9 rf hnf hf4 hfkc hf0 A8 BB8
    go_wp2_with fail
    have FA : Hid (∀ W, Below w9.heap.size w9 W → Rs W aa a) := fun W h => RA.out.later (btr B9.out h)
    have FB : Hid (∀ W, Below w9.heap.size w9 W → Rs W ab b) := fun W h => RB.out.later (btr B9.out h)
    have FJ : Hid (∀ W, Below w9.heap.size w9 W → Rs W (some ⟨w1.heap.size, 0, none⟩) (jl a b)) := fun W h => RJ8.out.later (btr BB9.out h)
    have FX : Hid (∀ W, Below w9.heap.size w9 W → Rs W (some ⟨w2.heap.size, 0, none⟩) (jl (jl a b) c)) := fun W h => RX8.out.later (btr BB9.out h)
    have FY : Hid (∀ W, Below w9.heap.size w9 W → Rs W (some ⟨w4.heap.size, 0, none⟩) (jl (jl a b) c)) := fun W h => RY8.out.later (btr BB9.out h)
    have FS : Hid (∀ W, Below w9.heap.size w9 W → Rs W (some ⟨g7, 0, none⟩) (sl (jl a b) m 50 2)) := fun W h => RS8.out.later (btr BB9.out h)
    have FU : Hid (∀ W, Below w9.heap.size w9 W → Rs W au lu) := fun W h => RU.out.later (btr BB9.out h)
    have FF : Hid (∀ W, Below w9.heap.size w9 W → Rs W af lf) := fun W h => RF.out.later h
    have HS : Hid (∀ W, Below w9.heap.size w9 W → W.cell? ⟨w8.heap.size, 0, none⟩ = some (.int .i64 tu) ∧ W.cell? ⟨w8.heap.size, 1, none⟩ = some (.int .i64 bu)) := fun W h => (A9.out.later h).cells
    have LX : Hid ((jl (jl a b) c).length = 3) := by show _ = _; rw [jl_len, LJ.out, LC.out]; rfl
    have LS : Hid ((sl (jl a b) m 50 2).length = 3) := by show _ = _; rw [sl_len, LJ.out]
    have LSA : Hid ((jl (sl (jl a b) m 50 2) a).length = 3) := by show _ = _; rw [jl_len, LS.out, LA.out]; rfl
    have LSU : Hid ((sl lu mu tu bu).length = nu) := by show _ = _; rw [sl_len, LU.out]
    have QS : Hid (((fof (sl (jl a b) m 50 2) 3 : Nat) : Int) = m) := (fof_set LA.out LB.out GD.out.1 GD.out.2.1 HM.out).1
    have QSA : Hid (((fof (jl (sl (jl a b) m 50 2) a) 3 : Nat) : Int) = m) := (fof_set LA.out LB.out GD.out.1 GD.out.2.1 HM.out).2
    have QJ : Hid (flOk (jl a b) = true) := jl_ok LA.out LB.out GD.out.1 GD.out.2.1
    have QN : Hid (((fof (fnew m 0 0) 3 : Nat) : Int) = m) := fof_new HM.out
    obtain ⟨q, hq⟩ : ∃ q : Int, ((fof lf (min nf 3) : Nat) : Int) = q := ⟨_, rfl⟩
    obtain ⟨r, hr⟩ : ∃ r : Bool, flOk lf = r := ⟨_, rfl⟩
    have CF : Hid (∀ W, Rs W af lf → Calls Try.prog 25 #[.slice af nf kf] W fun e w' => e = .returned (.int .i64 q) ∧ Below W.heap.size W w') := fun W h => (implFlagsOf_any af nf kf lf W LF.out (by have := HF4.out; omega) HFK.out h).mono fun _ _ ⟨h1, h2⟩ => ⟨by rw [h1]; exact val_end _ _ hq, h2⟩
    have CFs : Hid (∀ W, Rs W af lf → Calls Try.prog 28 #[.slice af nf kf] W fun e w' => e = .returned (.int .i64 q) ∧ Below W.heap.size W w') := fun W h => (specFlagsOf_any af nf kf lf W LF.out (by have := HF4.out; omega) h).mono fun _ _ ⟨h1, h2⟩ => ⟨by rw [h1]; exact val_end _ _ hq, h2⟩
    have CG : Hid (∀ W, Rs W af lf → Calls Try.prog 26 #[.slice af nf kf] W fun e w' => e = .returned (.bool r) ∧ Below W.heap.size W w') := fun W h => (implFlagsOk_any af nf kf lf W LF.out (by have := HF4.out; omega) h).mono fun _ _ ⟨h1, h2⟩ => ⟨by rw [h1, hr], h2⟩
    have CGs : Hid (∀ W, Rs W af lf → Calls Try.prog 29 #[.slice af nf kf] W fun e w' => e = .returned (.bool r) ∧ Below W.heap.size W w') := fun W h => (specFlagsOk_any af nf kf lf W LF.out (by have := HF4.out; omega) h).mono fun _ _ ⟨h1, h2⟩ => ⟨by rw [h1, hr], h2⟩
    have hqq : (q == q) = true := by simp
    have hmm : (m == m) = true := by simp
    have hrr : (r == r) = true := by simp
    clear hq hr hbig RA RB RC RJ8 RX8 RY8 RS8 RU RF
    dsimp only [List.append]
    go_region_held3 (fun W => W.cell? ⟨w8.heap.size, 0, none⟩ = some (.int .i64 tu) ∧ W.cell? ⟨w8.heap.size, 1, none⟩ = some (.int .i64 bu))
      ((refine HS.out _ ?_; repeat (first | exact bdr (bre _) | refine btr ?_ (by assumption))))
      ((first
        | (go_at_call 19; (with_reducible refine (joinF ab aa kb ka b a _ LB.out LA.out (FB.out _ (by repeat (first | exact bdr (bre _) | refine btr ?_ (by assumption)))) (FA.out _ (by repeat (first | exact bdr (bre _) | refine btr ?_ (by assumption))))).mono ?_); rintro e wA ⟨rfl, rA, hA⟩; rw [jl_comm LA.out LB.out] at rA; have TA : Hid (Rs wA (some ⟨w9.heap.size, 0, none⟩) (jl a b)) := rA; clear rA)
        | (go_at_call 24; (with_reducible refine (same_any (some ⟨w1.heap.size, 0, none⟩) _ 3 3 3 (jl a b) _ LJ.out (by decide) (FJ.out _ (by repeat (first | exact bdr (bre _) | refine btr ?_ (by assumption)))) TA.out).mono ?_); rintro e wB ⟨rfl, hB⟩)
        | (go_at_call 24; (with_reducible refine (same_any (some ⟨w2.heap.size, 0, none⟩) (some ⟨w4.heap.size, 0, none⟩) 3 3 3 (jl (jl a b) c) _ LX.out (by decide) (FX.out _ (by repeat (first | exact bdr (bre _) | refine btr ?_ (by assumption)))) (FY.out _ (by repeat (first | exact bdr (bre _) | refine btr ?_ (by assumption))))).mono ?_); rintro e wC ⟨rfl, hC⟩)
        | (go_at_call 19; (with_reducible refine (joinF (some ⟨w1.heap.size, 0, none⟩) aa 3 ka (jl a b) a _ LJ.out LA.out (FJ.out _ (by repeat (first | exact bdr (bre _) | refine btr ?_ (by assumption)))) (FA.out _ (by repeat (first | exact bdr (bre _) | refine btr ?_ (by assumption))))).mono ?_); rintro e wD ⟨rfl, rD, hD⟩; rw [jl_again LA.out LB.out] at rD; have TD := hid rD; clear rD)
        | (go_at_call 24; (with_reducible refine (same_any _ (some ⟨w1.heap.size, 0, none⟩) 3 3 3 (jl a b) _ LJ.out (by decide) TD.out (FJ.out _ (by repeat (first | exact bdr (bre _) | refine btr ?_ (by assumption))))).mono ?_); rintro e wE ⟨rfl, hE⟩)
        | (go_at_call 25; (with_reducible refine (ofF (some ⟨g7, 0, none⟩) (sl (jl a b) m 50 2) m _ LS.out QS.out (FS.out _ (by repeat (first | exact bdr (bre _) | refine btr ?_ (by assumption))))).mono ?_); rintro e wF ⟨rfl, hF⟩)
        | (go_at_call 19; (with_reducible refine (joinF (some ⟨g7, 0, none⟩) aa 3 ka (sl (jl a b) m 50 2) a _ LS.out LA.out (FS.out _ (by repeat (first | exact bdr (bre _) | refine btr ?_ (by assumption)))) (FA.out _ (by repeat (first | exact bdr (bre _) | refine btr ?_ (by assumption))))).mono ?_); rintro e wG ⟨rfl, rG, hG⟩; have TG := hid rG; clear rG)
        | (go_at_call 25; (with_reducible refine (ofF _ (jl (sl (jl a b) m 50 2) a) m _ LSA.out QSA.out TG.out).mono ?_); rintro e wH ⟨rfl, hH⟩)
        | (go_at_call 26; (with_reducible refine (okF (some ⟨w1.heap.size, 0, none⟩) 3 (jl a b) _ LJ.out QJ.out (FJ.out _ (by repeat (first | exact bdr (bre _) | refine btr ?_ (by assumption))))).mono ?_); rintro e wI ⟨rfl, hI⟩)
        | (go_at_call 21; (with_reducible refine (setI au nu ku lu mu tu bu _ LU.out HU4.out (FU.out _ (by repeat (first | exact bdr (bre _) | refine btr ?_ (by assumption))))).mono ?_); rintro e wK ⟨gK, rfl, rK, hK⟩; have TK := hid rK; clear rK)
        | (go_at_call 27; (with_reducible refine (setM au nu ku lu mu tu bu _ LU.out HU4.out (FU.out _ (by repeat (first | exact bdr (bre _) | refine btr ?_ (by assumption)))) HU0.out).mono ?_); rintro e wL ⟨aL, cL, rfl, rL, hL⟩; have TL := hid rL; clear rL)
        | (go_at_call 24; (with_reducible refine (same_any _ _ nu nu _ (sl lu mu tu bu) _ LSU.out (by have := HU4.out; omega) (by first | exact TK.out | exact TK.out.later (by assumption)) (by first | exact TL.out | exact TL.out.later (by assumption))).mono ?_); rintro e wM ⟨rfl, hM⟩)
        | (go_at_call 25; (with_reducible refine ((CF.out _ (FF.out _ (by repeat (first | exact bdr (bre _) | refine btr ?_ (by assumption)))))).mono ?_); rintro e wN ⟨rfl, hN⟩)
        | (go_at_call 28; (with_reducible refine ((CFs.out _ (FF.out _ (by repeat (first | exact bdr (bre _) | refine btr ?_ (by assumption)))))).mono ?_); rintro e wO ⟨rfl, hO⟩)
        | (go_at_call 26; (with_reducible refine ((CG.out _ (FF.out _ (by repeat (first | exact bdr (bre _) | refine btr ?_ (by assumption)))))).mono ?_); rintro e wP ⟨rfl, hP⟩)
        | (go_at_call 29; (with_reducible refine ((CGs.out _ (FF.out _ (by repeat (first | exact bdr (bre _) | refine btr ?_ (by assumption)))))).mono ?_); rintro e wQ ⟨rfl, hQ⟩)
        | (go_at_call 30; (with_reducible refine (newF m _).mono ?_); rintro e wR ⟨gR, rfl, rR, hR⟩; have TR := hid rR; clear rR)
        | (go_at_call 25; (with_reducible refine (ofF _ (fnew m 0 0) m _ rfl QN.out TR.out).mono ?_); rintro e wS ⟨rfl, hS⟩)))
    have BZ : Hid (Below w9.heap.size w9 wS) := by show Below _ _ _; repeat (first | exact bdr (bre _) | refine btr ?_ (by assumption))
    go_wp2_with fail
    go_ret
    exact ⟨rfl, btr B1.out (btr B9.out BZ.out)⟩
  · go_enter Try.func5, Try.ntmps5
    go_wp2_with fail
    refine (bigF_yes ao n cap _ hbig).mono ?_; rintro e w' ⟨rfl, h'⟩
    rw [h']
    go_wp2_with fail
    go_ret
    exact ⟨rfl, bre _⟩
end Go.Proofs.Ytdpabaebbdhmmaa
