/- Tia, Tib, Tic, Ssh. -/
import Derived.Test.YtdkedgedkgabnaaGreatDoorR9
import Derived.Test.YtdkedgedkgabnaaGreatDoorR10
namespace Go.Proofs.YtdkedgedkgabnaaGreatDoor
open Go.RowKit Go.ChangeMaps
theorem atName_any (x : X7) (mv gv : Value) (z : ByteArray) (kb : Nat) (w : World) (hkb : kb < w.heap.size) (hc : w.cell? ⟨kb, 0, none⟩ = some (.string z)) :
  Calls Tryz.prog 157 #[.agg #[.int .i64 x.1, .string x.2.1, .int .i64 x.2.2.1, .int .i64 x.2.2.2.1, .int .i64 x.2.2.2.2.1, mv, gv], .pointer (some ⟨kb, 0, none⟩)] w fun e w' => e = .returned (.bool (isN z x)) ∧ Below w.heap.size w w' := by
 obtain ⟨g, nm, t, b, nx, L, G⟩ := x
 dsimp only
 have A0 := (Bx.new w 38 g nm t b nx mv gv).cells
 have c1 := ((bpush (bre w) (.cells #[.int .i64 g, .string nm, .int .i64 t, .int .i64 b, .int .i64 nx, mv, gv] 38)).cell (p := ⟨kb, 0, none⟩) hkb).trans hc
 have HE : Hid (isN z (g, nm, t, b, nx, L, G) = (nm.toList == z.toList)) := by
  show _ = _
  by_cases h : nm = z
  ·subst h; simp [isN]
  ·rw [bytes_ne h]; simp [isN, h]
 clear hc
 go_enter Tryz.func157, Tryz.ntmps157
 go_wp2
 go_ret
 exact ⟨by rw [HE.out]; rfl, bpush (bre _) _⟩
set_option maxHeartbeats 800000 in
set_option maxRecDepth 100000 in
theorem idxFunc_any (F : Nat) (p : X7 → Bool) (lo hi : Nat) (ba : Option Addr) (bn bc : Nat) (S : List X7) (kb : Nat) (w : World) (hl : S.length = bn) (hn : bn ≤ 1048576) (hm : Bs lo hi w ba S) (hE : ∀ args W, (callFunc F args).run Tryz.prog W = .ok (.enter F args) W)
  (hF : ∀ (x : X7) (mv gv : Value) (W : World), Below w.heap.size w W → Calls Tryz.prog F #[.agg #[.int .i64 x.1, .string x.2.1, .int .i64 x.2.2.1, .int .i64 x.2.2.2.1, .int .i64 x.2.2.2.2.1, mv, gv], .pointer (some ⟨kb, 0, none⟩)] W fun e W' => e = .returned (.bool (p x)) ∧ Below W.heap.size W W') :
  Calls Tryz.prog 156 #[.slice ba bn bc, .func (.func F) #[] #[.pointer (some ⟨kb, 0, none⟩)]] w fun e w' => e = .returned (.int .i64 (fidx p S 0)) ∧ Below w.heap.size w w' := by
 have HR := hid hm
 have HL := hid hl
 have HF := hid hF
 clear hm hl hF
 go_enter Tryz.func156, Tryz.ntmps156
 go_wp2
 go_loopw [8] (fun iv wr => ∃ (i : Nat), i ≤ bn ∧ iv = .int .i64 (i : Int) ∧ Hid (fidx p S 0 = fidx p (S.drop i) i) ∧ Below w.heap.size w wr) (fun iv _ => bn - (intOf iv).toNat)
 case atStart => exact ⟨0, Nat.zero_le _, rfl, rfl, bre _⟩
 case round =>
  obtain ⟨i, hi, rfl, HQ, hb⟩ := hrel
  by_cases hlt : i < bn
  ·have hil : i < S.length := by rw [HL.out]; exact hlt
   obtain ⟨k, o, ma, mc, ga, gc, rfl, hk, d, _⟩ := (HR.out.later hb).at hil
   obtain ⟨q, hq⟩ : ∃ q, S[i] = q := ⟨_, rfl⟩
   rw [hq] at d
   have HP := hid hq
   have HB := hid hb
   have HC := hid (HF.out q)
   obtain ⟨r, hr⟩ : ∃ r, p q = r := ⟨_, rfl⟩
   rw [hr] at HC
   have HRR := hid hr
   obtain ⟨g1, nm1, t1, b1, nx1, L1, G1⟩ := q
   dsimp only at d HC
   obtain ⟨m1, hm1⟩ : ∃ m1, L1.length = m1 := ⟨_, rfl⟩
   obtain ⟨n1, hn1⟩ : ∃ n1, G1.length = n1 := ⟨_, rfl⟩
   rw [hm1, hn1] at d
   unfold C7 at d
   have hI : (0 : Int) ≤ (i : Int) ∧ (i : Int) < (bn : Int) := by omega
   clear hq hb hr hm1 hn1
   go_wp2_with fail
   refine (HC.out _ _ _ HB.out).mono ?_; rintro e w1 ⟨rfl, hb1⟩
   have HB1 := hid (btr HB.out hb1)
   clear hb1 d
   cases r
   ·have HE : Hid (fidx p S 0 = fidx p (S.drop (i + 1)) (i + 1)) := by show _ = _; rw [HQ.out, fidx_on hil (by rw [HP.out]; exact HRR.out)]
    go_wp2
    go_roundw
    case rel => exact ⟨i + 1, by omega, by go_num, HE, HB1.out⟩
    case measure => simp [intOf]; omega
   ·have HE : Hid (fidx p S 0 = i) := by show _ = _; rw [HQ.out, fidx_here hil (by rw [HP.out]; exact HRR.out)]
    go_wp2
    go_ret
    exact ⟨by rw [HE.out]; rfl, HB1.out⟩
  ·have HE : Hid (fidx p S 0 = -1) := by show _ = _; rw [HQ.out, List.drop_of_length_le (by rw [HL.out]; omega)]; rfl
   go_wp2
   go_ret
   exact ⟨by rw [HE.out]; rfl, hb⟩
theorem store_cell (w : World) (ta tc : Nat) (y tm : Int) (bv gv v : Value) (W0 : World) (h : (w.alloc (.cells #[.int .i64 y, .int .i64 tm, bv, gv] ta)).alloc (.cells #[v] tc) = W0) :
  Sx W0 w.heap.size ta y tm bv gv ∧ W0.cell? ⟨w.heap.size + 1, 0, none⟩ = some v ∧ Below w.heap.size w W0 ∧ W0.heap.size = w.heap.size + 1 + 1 := by
 subst h
 refine ⟨(Sx.new w _ y tm _ _).later (bpush (bre _) _), ?_, bpush (bpush (bre _) _) _, by simp⟩
 have h := heap_alloc_new (w.alloc (.cells #[.int .i64 y, .int .i64 tm, bv, gv] ta)) (.cells #[v] tc)
 rw [show (w.alloc (.cells #[.int .i64 y, .int .i64 tm, bv, gv] ta)).heap.size = w.heap.size + 1 by simp] at h
 exact cell_of_row _ _ 0 _ _ _ h
set_option maxRecDepth 100000 in
theorem implBoxNamed_any (lo hi : Nat) (y tm : Int) (ba : Option Addr) (bn bc : Nat) (gv : Value) (S : List X7) (x : ByteArray) (w : World) (hl : S.length = bn) (hn : bn ≤ 1048576) (hm : Bs lo hi w ba S) :
  Calls Tryz.prog 118 #[.agg #[.int .i64 y, .int .i64 tm, .slice ba bn bc, gv], .string x] w fun e w' => e = .returned (.int .i64 (fidx (isN x) S 0)) ∧ Below w.heap.size w w' := by
 obtain ⟨W0, hW0⟩ : ∃ W0, (w.alloc (.cells #[.int .i64 y, .int .i64 tm, .slice ba bn bc, gv] 27)).alloc (.cells #[.string x] 9) = W0 := ⟨_, rfl⟩
 obtain ⟨a0, hx, b0, hs⟩ := store_cell w _ _ _ _ _ _ _ W0 hW0
 have c0 := a0.cells
 have HR := hid (hm.later b0)
 have B0 := hid b0
 have HX := hid hx
 have HS := hid hs
 clear a0 b0 hm hx hs
 go_enter Tryz.func118, Tryz.ntmps118
 go_wp2_with fail
 clear hW0 c0
 have hlt : w.heap.size + 1 < W0.heap.size := by have := HS.out; omega
 refine (idxFunc_any 157 (isN x) lo hi ba bn bc S (w.heap.size + 1) _ hl hn HR.out (Go.Proofs.enters_of Tryz.func157 (by kernel_rfl) rfl) (fun q mv gv W hW => atName_any q mv gv x (w.heap.size + 1) W (Nat.lt_of_lt_of_le hlt hW.size) ((hW.cell (p := ⟨w.heap.size + 1, 0, none⟩) hlt).trans HX.out))).mono ?_; rintro e w1 ⟨rfl, hb1⟩
 have B1 := hid (btr B0.out hb1)
 clear hb1
 obtain ⟨q, hq⟩ : ∃ q, fidx (isN x) S 0 = q := ⟨_, rfl⟩
 rw [hq]
 have HQ := hid hq
 clear hq
 go_wp2
 go_ret
 exact ⟨by rw [HQ.out]; rfl, B1.out⟩
set_option maxHeartbeats 800000 in
set_option maxRecDepth 100000 in
theorem goneOkM_any (mo : Int) (lo hi : Nat) (ao : Option Addr) (n cap : Nat) (G : List Int) (w : World) (hl : G.length = n) (hn : n ≤ 1048576) (hr : Is lo hi w ao G) :
  Calls Tryz.prog 76 #[.slice ao n cap, .int .i64 mo] w fun e w' => e = .returned (.bool (gnM mo G)) ∧ w' = w := by
 have HR := hid hr
 have HL := hid hl
 clear hr hl
 go_enter Tryz.func76, Tryz.ntmps76
 go_wp2
 go_loopw [5, 10] (fun lv iv wr => ∃ (i : Nat) (q : Int), i ≤ n ∧ lv = .int .i64 q ∧ iv = .int .i64 (i : Int) ∧ Hid (q = lst 0 (G.take i)) ∧ Hid (asc 0 (G.take i) = true) ∧ wr = w) (fun _ iv _ => n - (intOf iv).toNat)
 case atStart => exact ⟨0, 0, Nat.zero_le _, rfl, rfl, rfl, rfl, rfl⟩
 case round =>
  obtain ⟨i, q, hi, rfl, rfl, HQ, HA, hw⟩ := hrel
  subst hw
  by_cases hlt : i < n
  ·have hil : i < G.length := by rw [HL.out]; exact hlt
   obtain ⟨k, o, rfl, hk, c⟩ := HR.out.at hil
   have hst := asc_take hil
   have hls := lst_take hil
   have hbad := asc_bad hil
   obtain ⟨x, hx⟩ : ∃ x, G[i] = x := ⟨_, rfl⟩
   rw [hx] at c hst hls hbad
   rw [← HQ.out] at hst hbad
   obtain ⟨p, hp, cp⟩ := gid_l x
   rw [← hp.out] at hst hbad
   have HST := hid hst
   have HLS := hid hls
   have HBD := hid hbad
   have hI : (0 : Int) ≤ (i : Int) ∧ (i : Int) < (n : Int) := by omega
   clear hst hls hbad hx
   by_cases hle : q < x
   ·go_wp2_with fail
    refine (cp.out _).mono ?_; rintro e w1 ⟨rfl, h1⟩
    subst h1
    cases p
    ·have HE : Hid (gnM mo G = false) := gnM_bad (HBD.out (by simp))
     go_wp2
     go_ret
     exact ⟨by rw [HE.out]; rfl, rfl⟩
    ·have HE : Hid (asc 0 (G.take (i + 1)) = true) := by show _ = _; rw [HST.out, HA.out]; simp [hle]
     go_wp2
     go_roundw
     case rel => exact ⟨i + 1, x, by omega, rfl, by go_num, HLS.out.symm, HE, by first | rfl | trivial⟩
     case measure => simp [intOf]; omega
   ·have HE : Hid (gnM mo G = false) := gnM_bad (HBD.out (by simp [hle]))
    go_wp2
    go_ret
    exact ⟨by rw [HE.out]; rfl, rfl⟩
  ·have HE : Hid (gnM mo G = decide ((n : Int) ≤ mo)) := by
    show _ = _
    have := HA.out
    rw [List.take_of_length_le (by rw [HL.out]; omega)] at this
    rw [gnM_fin this, HL.out]
   go_wp2
   go_ret
   exact ⟨by rw [HE.out]; rfl, rfl⟩
def mx2 (a b : Int) : Int := if a < b then b else a
def ltF (a : Int) : List R3 → Int
 | [] => a
 | p :: l => ltF (mx2 a p.2.1) l
def ltM (a : Int) : List M4 → Int
 | [] => a
 | m :: L => ltM (ltF a m.2.2.1) L
theorem ltF_app (a : Int) (l k : List R3) : ltF a (l ++ k) = ltF (ltF a l) k := by
 induction l generalizing a with
 | nil => rfl
 | cons p l ih => exact ih _
theorem ltM_app (a : Int) (L K : List M4) : ltM a (L ++ K) = ltM (ltM a L) K := by
 induction L generalizing a with
 | nil => rfl
 | cons p l ih => exact ih _
theorem ltF_take {a : Int} {l : List R3} {j : Nat} (h : j < l.length) : ltF a (l.take (j + 1)) = mx2 (ltF a (l.take j)) l[j].2.1 := by
 rw [List.take_succ_eq_append_getElem h, ltF_app]; rfl
theorem ltM_take {a : Int} {L : List M4} {j : Nat} (h : j < L.length) : ltM a (L.take (j + 1)) = ltF (ltM a (L.take j)) L[j].2.2.1 := by
 rw [List.take_succ_eq_append_getElem h, ltM_app]; rfl
theorem ltF_le {tm : Int} {l : List R3} : ∀ {a : Int}, ltF a l ≤ tm ↔ a ≤ tm ∧ tmF tm l = true := by
 induction l with
 | nil => intro a; simp [ltF, tmF]
 | cons p l ih =>
  intro a
  have e : tmF tm (p :: l) = (decide (p.2.1 ≤ tm) && tmF tm l) := rfl
  rw [ltF, ih, e]
  simp only [Bool.and_eq_true, decide_eq_true_eq]
  unfold mx2
  constructor
  ·rintro ⟨h1, h2⟩
   split at h1 <;> exact ⟨by omega, by omega, h2⟩
  ·rintro ⟨h1, h2, h3⟩
   refine ⟨?_, h3⟩
   split <;> omega
theorem ltM_le {tm : Int} {L : List M4} : ∀ {a : Int}, ltM a L ≤ tm ↔ a ≤ tm ∧ L.all (fun m => tmF tm m.2.2.1) = true := by
 induction L with
 | nil => intro a; simp [ltM]
 | cons m L ih =>
  intro a
  rw [ltM, ih, ltF_le, List.all_cons]
  simp only [Bool.and_eq_true]
  constructor
  ·rintro ⟨⟨h1, h2⟩, h3⟩; exact ⟨h1, h2, h3⟩
  ·rintro ⟨h1, h2, h3⟩; exact ⟨⟨h1, h2⟩, h3⟩
theorem ltM_tm (tm t : Int) (L : List M4) : decide (tm < ltM t L) = !tmOk tm t L := by
 have h := ltM_le (tm := tm) (L := L) (a := t)
 unfold tmOk
 cases hb : (decide (t ≤ tm) && L.all (fun m => tmF tm m.2.2.1)) with
 | true =>
  simp only [Bool.and_eq_true, decide_eq_true_eq] at hb
  have := h.2 hb
  simp only [Bool.not_true, decide_eq_false_iff_not]
  omega
 | false =>
  simp only [Bool.not_false, decide_eq_true_eq]
  have h2 : ¬ ltM t L ≤ tm := fun h3 => by
   have h4 := h.1 h3
   simp [h4.1, h4.2] at hb
  omega
set_option maxHeartbeats 1600000 in
set_option maxRecDepth 100000 in
theorem latestTime_any (lo hi : Nat) (g : Int) (nm : ByteArray) (t b nx : Int) (ma : Option Addr) (mn mc : Nat) (gv : Value) (L : List M4) (w : World) (hl : L.length = mn) (hn : mn ≤ 1048576) (hsm : Sm L) (hm : Ms lo hi w ma L) :
  Calls Tryz.prog 120 #[.agg #[.int .i64 g, .string nm, .int .i64 t, .int .i64 b, .int .i64 nx, .slice ma mn mc, gv]] w fun e w' => e = .returned (.int .i64 (ltM t L)) ∧ Below w.heap.size w w' := by
 obtain ⟨W0, hW0⟩ : ∃ W0, w.alloc (.cells #[.int .i64 g, .string nm, .int .i64 t, .int .i64 b, .int .i64 nx, .slice ma mn mc, gv] 38) = W0 := ⟨_, rfl⟩
 have a0 : Bx W0 w.heap.size 38 g nm t b nx (.slice ma mn mc) gv := by subst hW0; exact Bx.new w _ g nm t b nx _ _
 have b0 : Below w.heap.size w W0 := by subst hW0; exact bpush (bre _) _
 have c0 := a0.cells
 have HR := hid (hm.later b0)
 have B0 := hid b0
 have HL := hid hl
 have HSM := hid hsm
 have HN := hid hn
 clear a0 b0 hm hl hsm
 go_enter Tryz.func120, Tryz.ntmps120
 go_wp2
 clear hW0 c0
 go_loopw [3, 14] (fun tv iv wr => ∃ (i : Nat) (q : Int), i ≤ mn ∧ tv = .int .i64 q ∧ iv = .int .i64 (i : Int) ∧ Hid (q = ltM t (L.take i)) ∧ Below W0.heap.size W0 wr) (fun _ iv _ => mn - (intOf iv).toNat)
 case atStart => exact ⟨0, t, Nat.zero_le _, rfl, rfl, rfl, bre _⟩
 case round =>
  obtain ⟨i, q, hi, rfl, rfl, HQ, hb⟩ := hrel
  obtain ⟨wq, hwq⟩ : ∃ wq, wq = wr := ⟨_, rfl⟩
  subst hwq
  have HB := hid hb
  clear hb
  by_cases hlt : i < mn
  ·have hil : i < L.length := by rw [HL.out]; exact hlt
   obtain ⟨k, o, fa, fc, rfl, hk, c, hrs, _⟩ := (HR.out.later HB.out).at hil
   have hmem := HSM.out L[i] (List.getElem_mem hil)
   have HTK := hid (ltM_take (a := t) hil)
   obtain ⟨p, hp⟩ : ∃ p, L[i] = p := ⟨_, rfl⟩
   rw [hp] at c hrs hmem HTK
   obtain ⟨g1, u1, l, t1⟩ := p
   dsimp only at c hrs hmem HTK
   rw [← HQ.out] at HTK
   obtain ⟨m, hm⟩ : ∃ m, l.length = m := ⟨_, rfl⟩
   rw [hm] at c hmem
   have hml : m ≤ 1048576 := hmem.1
   have HM := hid hm
   have AM := Mg.new wq 78 g1 u1 (.slice fa m fc) t1
   have BM : Below wq.heap.size wq (wq.alloc (.cells #[.int .i64 g1, .int .i64 u1, .slice fa m fc, .string t1] 78)) := bpush (bre _) _
   have cm := AM.cells
   have HRS := hid (hrs.later BM)
   have HBM := hid (btr HB.out BM)
   have hI : (0 : Int) ≤ (i : Int) ∧ (i : Int) < (mn : Int) := by omega
   clear hp hm hrs hmem AM BM hk
   go_wp2
   obtain ⟨W1, hW1⟩ : ∃ W1, wq.alloc (.cells #[.int .i64 g1, .int .i64 u1, .slice fa m fc, .string t1] 78) = W1 := ⟨_, rfl⟩
   rw [hW1] at HRS HBM ⊢
   clear hW1 c cm
   go_loopw [3, 21] (fun tv jv wr2 => ∃ (j : Nat) (r : Int), j ≤ m ∧ tv = .int .i64 r ∧ jv = .int .i64 (j : Int) ∧ Hid (r = ltF q (l.take j)) ∧ Below W1.heap.size W1 wr2) (fun _ jv _ => m - (intOf jv).toNat)
   case atStart => exact ⟨0, q, Nat.zero_le _, rfl, rfl, rfl, bre _⟩
   case round =>
    obtain ⟨j, r, hj, rfl, rfl, HQ2, hb2⟩ := hrel
    have HB2 := hid hb2
    clear hb2
    by_cases hjt : j < m
    ·have hjl : j < l.length := by rw [HM.out]; exact hjt
     obtain ⟨kf, of, rfl, hkf, hrow⟩ := (HRS.out.later HB2.out) (by omega)
     have HTJ := hid (ltF_take (a := q) hjl)
     have e := hrow j hjl
     obtain ⟨z, hz⟩ : ∃ z, l[j] = z := ⟨_, rfl⟩
     rw [hz] at e HTJ
     rw [← HQ2.out] at HTJ
     obtain ⟨z1, z2, z3⟩ := z
     dsimp only at e HTJ
     have AR := Rg.new wr 126 z1 z2 z3
     have cr := AR.cells
     have HBR := hid (bpush (bre wr) (.cells #[.int .i64 z1, .int .i64 z2, .int .i64 z3] 126))
     have hJ : (0 : Int) ≤ (j : Int) ∧ (j : Int) < (m : Int) := by omega
     clear hz hrow AR hkf
     by_cases hrz : r < z2
     ·have HE : Hid (ltF q (l.take (j + 1)) = z2) := by show _ = _; rw [HTJ.out, mx2, if_pos hrz]
      have hmx : max r z2 = z2 := by omega
      go_wp2
      go_roundw
      case rel => exact ⟨j + 1, z2, by omega, by first | rfl | (rw [hmx]) , by go_num, HE.out.symm, btr HB2.out HBR.out⟩
      case measure => simp [intOf]; omega
     ·have HE : Hid (ltF q (l.take (j + 1)) = r) := by show _ = _; rw [HTJ.out, mx2, if_neg hrz]
      have hmx : max r z2 = r := by omega
      go_wp2
      go_roundw
      case rel => exact ⟨j + 1, r, by omega, by first | rfl | (rw [hmx]), by go_num, HE.out.symm, btr HB2.out HBR.out⟩
      case measure => simp [intOf]; omega
    ·have HE : Hid (r = ltM t (L.take (i + 1))) := by
      show _ = _
      have h1 := HQ2.out
      rw [List.take_of_length_le (by rw [HM.out]; omega)] at h1
      rw [HTK.out, h1]
     go_wp2
     go_roundw
     case rel => exact ⟨i + 1, r, by omega, rfl, by go_num, HE, btr HBM.out HB2.out⟩
     case measure => simp [intOf]; omega
  ·have HE : Hid (ltM t L = q) := by
    show _ = _
    have h1 := HQ.out
    rw [List.take_of_length_le (by rw [HL.out]; omega)] at h1
    exact h1.symm
   go_wp2
   go_ret
   exact ⟨by rw [HE.out]; rfl, btr B0.out HB.out⟩
def bkOk (tm : Int) (G : List Int) (S : List X7) : Bool := decide ((S.length : Int) ≤ 5) && (List.range S.length).all (stp7 tm G S)
set_option maxHeartbeats 16000000 in
set_option maxRecDepth 100000 in
theorem boxesOk_any (lo hi lo' hi' : Nat) (y tm : Int) (ba : Option Addr) (bn bc : Nat) (ga : Option Addr) (gn gc : Nat) (S : List X7) (G : List Int) (w : World) (hl : S.length = bn) (hn : bn ≤ 1048576) (hsb : Sb S) (hm : Bs lo hi w ba S) (hgl : G.length = gn) (hgn : gn ≤ 1048576) (hs : Is lo' hi' w ga G) :
  Calls Tryz.prog 77 #[.agg #[.int .i64 y, .int .i64 tm, .slice ba bn bc, .slice ga gn gc]] w fun e w' => e = .returned (.bool (bkOk tm G S)) ∧ Below w.heap.size w w' := by
 obtain ⟨W0, hW0⟩ : ∃ W0, w.alloc (.cells #[.int .i64 y, .int .i64 tm, .slice ba bn bc, .slice ga gn gc] 27) = W0 := ⟨_, rfl⟩
 have a0 : Sx W0 w.heap.size 27 y tm (.slice ba bn bc) (.slice ga gn gc) := by subst hW0; exact Sx.new w _ y tm _ _
 have b0 : Below w.heap.size w W0 := by subst hW0; exact bpush (bre _) _
 have c0 := a0.cells
 have HL := hid hl
 have HN := hid hn
 have HSB := hid hsb
 have HR := hid hm
 have HGL := hid hgl
 have HGN := hid hgn
 have HIS := hid hs
 have A0 := hid a0
 have B0 := hid b0
 clear hl hsb hm hgl hgn hs a0 b0
 by_cases h5 : (bn : Int) ≤ 5
 case neg =>
  have HE : Hid (bkOk tm G S = false) := by show _ = _; rw [bkOk, HL.out]; simp [h5]
  have h6 : (5 : Int) < (bn : Int) := by omega
  go_enter Tryz.func77, Tryz.ntmps77
  go_wp2
  go_ret
  exact ⟨by rw [HE.out]; rfl, B0.out⟩
 have h6 : ¬ (5 : Int) < (bn : Int) := by omega
 have HFIVE : Hid ((bn : Int) ≤ 5) := h5
 go_enter Tryz.func77, Tryz.ntmps77
 go_wp2
 clear hW0 h5 h6 c0
 go_loopw [3, 13] (fun lv iv wr => ∃ (i : Nat) (q : Int), i ≤ bn ∧ lv = .int .i64 q ∧ iv = .int .i64 (i : Int) ∧ Hid (q = pg S i) ∧ Hid (∀ j, j < i → j < S.length → stp7 tm G S j = true) ∧ Sx wr w.heap.size 27 y tm (.slice ba bn bc) (.slice ga gn gc) ∧ Below w.heap.size w wr) (fun _ iv _ => bn - (intOf iv).toNat)
 case atStart => exact ⟨0, 0, Nat.zero_le _, rfl, rfl, rfl, fun j hj => absurd hj (Nat.not_lt_zero _), A0.out, B0.out⟩
 case round =>
  obtain ⟨i, q, hin, rfl, rfl, HQ0, HA, hsx, hb⟩ := hrel
  obtain ⟨wq, hwq⟩ : ∃ wq, wq = wr := ⟨_, rfl⟩
  subst hwq
  have HB := hid hb
  have A6 := hid hsx
  have c0 := hsx.cells
  have hbn := HN.out
  clear hb hsx A0 B0
  by_cases hlt : i < bn
  ·have hil : i < S.length := by rw [HL.out]; exact hlt
   obtain ⟨k, o, ma1, mc1, ga1, gc1, rfl, hk, d, hms, his, _⟩ := HR.out.at hil
   have hmem := HSB.out S[i] (List.getElem_mem hil)
   have HPG := hid (pg_succ hil)
   obtain ⟨qq, hq⟩ : ∃ qq, S[i] = qq := ⟨_, rfl⟩
   obtain ⟨g1, nm1, t1, b1, nx1, L1, G1⟩ := qq
   have HST := hid (stp7_at (tm := tm) (G := G) hil hq)
   rw [hq] at d hms his hmem HPG
   dsimp only at d hms his hmem HST HPG
   obtain ⟨m1, hm1⟩ : ∃ m1, L1.length = m1 := ⟨_, rfl⟩
   obtain ⟨n1, hn1⟩ : ∃ n1, G1.length = n1 := ⟨_, rfl⟩
   rw [hm1, hn1] at d hmem
   have HM1 := hid hm1
   have HN1 := hid hn1
   have HNM := hid hmem.1
   have HML := hid hmem.2.1
   have HSL := hid hmem.2.2.1
   have HNL := hid hmem.2.2.2
   have HMS := hid hms
   have HIS1 := hid his
   obtain ⟨p, hp⟩ : ∃ p, bxOk g1 nm1 t1 b1 nx1 L1 G1 = p := ⟨_, rfl⟩
   obtain ⟨si, hsi⟩ : ∃ si, inl g1 G = si := ⟨_, rfl⟩
   obtain ⟨zn, hzn⟩ : ∃ zn, fidx (isN nm1) S 0 = zn := ⟨_, rfl⟩
   obtain ⟨tkQ, htk⟩ : ∃ tkQ, tmOk tm t1 L1 = tkQ := ⟨_, rfl⟩
   obtain ⟨lt, hltm⟩ : ∃ lt, ltM t1 L1 = lt := ⟨_, rfl⟩
   have HLK : Hid (decide (tm < lt) = !tkQ) := by show _ = _; rw [← hltm, ← htk]; exact ltM_tm _ _ _
   have HLT := hid hltm
   have HP := hid hp
   have HSI := hid hsi
   have HZN := hid hzn
   have hI : (0 : Int) ≤ (i : Int) ∧ (i : Int) < (bn : Int) := by omega
   rw [show bxx (g1, nm1, t1, b1, nx1, L1, G1) = p from hp, HSI.out, HZN.out, htk, ← HQ0.out] at HST
   have d0 := d.later hk HB.out
   unfold C7 at d0
   clear hq hms his hmem hm1 hn1 hp hsi hzn htk d hltm
   go_wp2_with fail
   obtain ⟨W1, hW1⟩ : ∃ W1, wq.alloc (.cells #[.int .i64 g1, .string nm1, .int .i64 t1, .int .i64 b1, .int .i64 nx1, .slice ma1 m1 mc1, .slice ga1 n1 gc1] 38) = W1 := ⟨_, rfl⟩
   have A1 : Hid (Bx W1 wq.heap.size 38 g1 nm1 t1 b1 nx1 (.slice ma1 m1 mc1) (.slice ga1 n1 gc1)) := by subst hW1; exact Bx.new _ _ _ _ _ _ _ _ _
   have B1 : Hid (Below wq.heap.size wq W1) := by subst hW1; exact bpush (bre _) _
   rw [hW1]
   have HS : Hid (∀ W, Below W1.heap.size W1 W → (W.cell? ⟨w.heap.size, 0, none⟩ = some (.int .i64 y) ∧ W.cell? ⟨w.heap.size, 1, none⟩ = some (.int .i64 tm) ∧ W.cell? ⟨w.heap.size, 2, none⟩ = some (.slice (some ⟨k, o, none⟩) bn bc) ∧ W.cell? ⟨w.heap.size, 3, none⟩ = some (.slice ga gn gc)) ∧ (W.cell? ⟨wq.heap.size, 0, none⟩ = some (.int .i64 g1) ∧ W.cell? ⟨wq.heap.size, 1, none⟩ = some (.string nm1) ∧ W.cell? ⟨wq.heap.size, 2, none⟩ = some (.int .i64 t1) ∧ W.cell? ⟨wq.heap.size, 3, none⟩ = some (.int .i64 b1) ∧ W.cell? ⟨wq.heap.size, 4, none⟩ = some (.int .i64 nx1) ∧ W.cell? ⟨wq.heap.size, 5, none⟩ = some (.slice ma1 m1 mc1) ∧ W.cell? ⟨wq.heap.size, 6, none⟩ = some (.slice ga1 n1 gc1))) := fun W h => ⟨(A6.out.later (btr B1.out h)).cells, (A1.out.later h).cells⟩
   clear hW1 d0 c0 hk
   refine wp_region_noPanic ?_
   refine wp_region_held_drew (S := (fun W => (W.cell? ⟨w.heap.size, 0, none⟩ = some (.int .i64 y) ∧ W.cell? ⟨w.heap.size, 1, none⟩ = some (.int .i64 tm) ∧ W.cell? ⟨w.heap.size, 2, none⟩ = some (.slice (some ⟨k, o, none⟩) bn bc) ∧ W.cell? ⟨w.heap.size, 3, none⟩ = some (.slice ga gn gc)) ∧ (W.cell? ⟨wq.heap.size, 0, none⟩ = some (.int .i64 g1) ∧ W.cell? ⟨wq.heap.size, 1, none⟩ = some (.string nm1) ∧ W.cell? ⟨wq.heap.size, 2, none⟩ = some (.int .i64 t1) ∧ W.cell? ⟨wq.heap.size, 3, none⟩ = some (.int .i64 b1) ∧ W.cell? ⟨wq.heap.size, 4, none⟩ = some (.int .i64 nx1) ∧ W.cell? ⟨wq.heap.size, 5, none⟩ = some (.slice ma1 m1 mc1) ∧ W.cell? ⟨wq.heap.size, 6, none⟩ = some (.slice ga1 n1 gc1)))) (by kernel_rfl) (HS.out _ (bdr (bre _))) (fun hHeld => ?_)
   refine tk 0 ?_
   clear hHeld
   refine ry 1 (fun K hK => ?_)
   go_simp
   refine (implBoxOk_any lo hi lo hi g1 nm1 t1 b1 nx1 ma1 m1 mc1 ga1 n1 gc1 L1 G1 _ HNM.out HM1.out HML.out HSL.out (HMS.out.later (btr HB.out (btr B1.out bb))) HN1.out HNL.out (HIS1.out.later (btr HB.out (btr B1.out bb)))).mono ?_; rintro e w2 ⟨rfl, hb2⟩
   rw [HP.out]
   go_wp2_with fail
   refine hK.out _ _ (HS.out _ bb) (fun hHeld => ?_)
   clear hK K
   try simp only [Act.put, tp2, tp3, tp4]
   cases p
   ·refine tk 2 ?_
    refine tk 3 ?_
    refine tn 4 ?_
    refine tn 5 ?_
    refine tn 6 ?_
    refine tn 7 ?_
    refine tk 8 ?_
    refine tk 9 ?_
    refine tn 10 ?_
    refine tn 11 ?_
    refine tn 12 ?_
    refine tn 14 ?_
    refine tn 13 ?_
    refine tn 15 ?_
    refine tk 16 ?_
    refine tk 17 ?_
    refine tn 18 ?_
    refine tn 19 ?_
    refine tn 20 ?_
    refine tn 21 ?_
    refine tn 22 ?_
    refine tk 23 ?_
    refine tk 24 ?_
    refine tn 25 ?_
    refine tn 27 ?_
    refine tn 28 ?_
    refine tn 26 ?_
    refine tn 29 ?_
    refine tk 30 ?_
    refine wpAnyH_done (by kernel_rfl) ?_ _
    refine NoPanic.normal ?_
    have HE : Hid (bkOk tm G S = false) := by show _ = _; rw [bkOk, all_no (S := List.range S.length) (i := i) (by simpa using hil) (by rw [List.getElem_range, HST.out]; rfl), Bool.and_false]
    clear hHeld
    go_wp2
    go_ret
    exact ⟨by rw [HE.out]; rfl, btr HB.out (btr B1.out bb)⟩
   ·refine tk 2 ?_
    refine tk 3 ?_
    refine tk 4 ?_
    refine tk 5 ?_
    refine tk 6 ?_
    by_cases hle : q < g1
    ·have hle2 : ¬ g1 ≤ q := by omega
     refine tk 7 ?_
     refine tk 8 ?_
     refine tk 9 ?_
     refine tk 10 ?_
     refine tk 11 ?_
     refine tk 12 ?_
     refine tk 14 ?_
     clear hHeld
     refine ry 13 (fun K hK => ?_)
     go_simp
     refine (implBoxNamed_any lo hi y tm (some ⟨k, o, none⟩) bn bc (.slice ga gn gc) S nm1 _ HL.out HN.out (HR.out.later (btr HB.out (btr B1.out bb)))).mono ?_; rintro e w3 ⟨rfl, hb3⟩
     rw [HZN.out]
     go_wp2_with fail
     refine hK.out _ _ (HS.out _ bb) (fun hHeld => ?_)
     clear hK K
     try simp only [Act.put, tp2, tp3, tp4]
     by_cases hzn : zn = (i : Int)
     ·have hzn2 : (zn != (i : Int)) = false := by simp [hzn]
      refine tk 15 ?_
      refine tk 16 ?_
      refine tk 17 ?_
      refine tk 18 ?_
      refine tk 19 ?_
      refine tk 20 ?_
      refine tk 21 ?_
      clear hHeld
      refine ry 22 (fun K hK => ?_)
      go_simp
      refine (contains_any lo' hi' ga gn gc G g1 _ HGL.out HGN.out (HIS.out.later (btr HB.out (btr B1.out bb)))).mono ?_; rintro e w4 ⟨rfl, h4⟩
      subst h4
      rw [HSI.out]
      go_wp2_with fail
      refine hK.out _ _ (HS.out _ bb) (fun hHeld => ?_)
      clear hK K
      try simp only [Act.put, tp2, tp3, tp4]
      cases si
      ·refine tk 23 ?_
       refine tk 24 ?_
       refine tk 25 ?_
       refine tk 27 ?_
       refine tk 28 ?_
       clear hHeld
       refine ry 26 (fun K hK => ?_)
       go_simp
       refine (latestTime_any lo hi g1 nm1 t1 b1 nx1 ma1 m1 mc1 (.slice ga1 n1 gc1) L1 _ HM1.out HML.out HSL.out (HMS.out.later (btr HB.out (btr B1.out bb)))).mono ?_; rintro e w5 ⟨rfl, hb5⟩
       rw [HLT.out]
       go_wp2_with fail
       refine hK.out _ _ (HS.out _ bb) (fun hHeld => ?_)
       clear hK K
       try simp only [Act.put, tp2, tp3, tp4]
       by_cases hlt9 : tm < lt
       ·refine tk 29 ?_
        refine tk 30 ?_
        refine wpAnyH_done (by kernel_rfl) ?_ _
        refine NoPanic.normal ?_
        have htk : tkQ = false := by have h := HLK.out; simpa [hlt9] using h
        have HE : Hid (bkOk tm G S = false) := by show _ = _; rw [bkOk, all_no (S := List.range S.length) (i := i) (by simpa using hil) (by rw [List.getElem_range, HST.out]; simp [htk]), Bool.and_false]
        clear hHeld
        go_wp2
        go_ret
        exact ⟨by rw [HE.out]; rfl, btr HB.out (btr B1.out bb)⟩
       ·refine tk 29 ?_
        refine tk 30 ?_
        refine wpAnyH_done (by kernel_rfl) ?_ _
        refine NoPanic.normal ?_
        have htk : tkQ = true := by have h := HLK.out; simpa [hlt9] using h
        have HE : Hid (∀ j, j < i + 1 → j < S.length → stp7 tm G S j = true) := by
         intro j hj h
         by_cases hji : j < i
         ·exact HA.out j hji h
         ·obtain rfl : j = i := by omega
          rw [HST.out]; simp [hle, hzn, htk]
        have cb := (A1.out.later (show Below W1.heap.size W1 w5 by repeat (first | exact bre _ | refine bdr ?_ | refine btr ?_ (by assumption)))).cells
        have HBV : Hid (Below wq.heap.size wq w5) := by show Below _ _ _; refine btr B1.out ?_; repeat (first | exact bre _ | refine bdr ?_ | refine btr ?_ (by assumption))
        have A7 := hid (A6.out.later HBV.out)
        have B7 := hid (btr HB.out HBV.out)
        clear hHeld htk
        go_wp2
        go_roundw
        case rel => exact ⟨i + 1, g1, by omega, rfl, by go_num, HPG.out.symm, HE, A7.out, B7.out⟩
        case measure => simp [intOf]; omega
      ·refine tk 23 ?_
       refine tk 24 ?_
       refine tn 25 ?_
       refine tn 27 ?_
       refine tn 28 ?_
       refine tn 26 ?_
       refine tn 29 ?_
       refine tk 30 ?_
       refine wpAnyH_done (by kernel_rfl) ?_ _
       refine NoPanic.normal ?_
       have HE : Hid (bkOk tm G S = false) := by show _ = _; rw [bkOk, all_no (S := List.range S.length) (i := i) (by simpa using hil) (by rw [List.getElem_range, HST.out]; simp), Bool.and_false]
       clear hHeld
       go_wp2
       go_ret
       exact ⟨by rw [HE.out]; rfl, btr HB.out (btr B1.out bb)⟩
     ·have hzn2 : (zn != (i : Int)) = true := by simp [hzn]
      refine tk 15 ?_
      refine tk 16 ?_
      refine tk 17 ?_
      refine tn 18 ?_
      refine tn 19 ?_
      refine tn 20 ?_
      refine tn 21 ?_
      refine tn 22 ?_
      refine tk 23 ?_
      refine tk 24 ?_
      refine tn 25 ?_
      refine tn 27 ?_
      refine tn 28 ?_
      refine tn 26 ?_
      refine tn 29 ?_
      refine tk 30 ?_
      refine wpAnyH_done (by kernel_rfl) ?_ _
      refine NoPanic.normal ?_
      have HE : Hid (bkOk tm G S = false) := by show _ = _; rw [bkOk, all_no (S := List.range S.length) (i := i) (by simpa using hil) (by rw [List.getElem_range, HST.out]; simp [hzn]), Bool.and_false]
      clear hHeld
      go_wp2
      go_ret
      exact ⟨by rw [HE.out]; rfl, btr HB.out (btr B1.out bb)⟩
    ·have hle2 : g1 ≤ q := by omega
     refine tk 7 ?_
     refine tk 8 ?_
     refine tk 9 ?_
     refine tn 10 ?_
     refine tn 11 ?_
     refine tn 12 ?_
     refine tn 14 ?_
     refine tn 13 ?_
     refine tn 15 ?_
     refine tk 16 ?_
     refine tk 17 ?_
     refine tn 18 ?_
     refine tn 19 ?_
     refine tn 20 ?_
     refine tn 21 ?_
     refine tn 22 ?_
     refine tk 23 ?_
     refine tk 24 ?_
     refine tn 25 ?_
     refine tn 27 ?_
     refine tn 28 ?_
     refine tn 26 ?_
     refine tn 29 ?_
     refine tk 30 ?_
     refine wpAnyH_done (by kernel_rfl) ?_ _
     refine NoPanic.normal ?_
     have HE : Hid (bkOk tm G S = false) := by show _ = _; rw [bkOk, all_no (S := List.range S.length) (i := i) (by simpa using hil) (by rw [List.getElem_range, HST.out]; simp [hle]), Bool.and_false]
     clear hHeld
     go_wp2
     go_ret
     exact ⟨by rw [HE.out]; rfl, btr HB.out (btr B1.out bb)⟩
  ·have HE : Hid (bkOk tm G S = true) := by
    show _ = _
    have e := HL.out
    rw [bkOk, List.all_eq_true.2 (fun j hj => HA.out j (by have := List.mem_range.1 hj; omega) (List.mem_range.1 hj)), HL.out]
    simp [HFIVE.out]
   go_wp2
   go_ret
   exact ⟨by rw [HE.out]; rfl, HB.out⟩
def soLaysRen : Go.Shelf.Ren := ⟨fun | 189 => 121 | 125 => 160 | 257 => 159 | 128 => 184 | 129 => 185 | 294 => 175 | 295 => 176 | 296 => 177 | 297 => 178 | 298 => 179 | 299 => 180 | 216 => 181 | 300 => 182 | 301 => 183 | 328 => 192 | 329 => 193 | 330 => 194 | 331 => 195 | 332 => 196 | 215 => 197 | 343 => 200 | n => n, fun | 28 => 25 | 3 => 3 | 46 => 144 | 0 => 0 | 51 => 103 | 53 => 196 | 4 => 4 | 183 => 187 | 182 => 186 | 131 => 192 | 5 => 5 | 9 => 9 | 218 => 203 | 222 => 207 | 228 => 211 | 229 => 212 | n => n, fun | n => n⟩
theorem soLays : Go.Proofs.Lays.n189 Tryz.prog soLaysRen := {
  mixed := by kernel_rfl
  f125 := Tryz.func160.trans (congrArg some (by kernel_rfl))
  f128 := Tryz.func184.trans (congrArg some (by kernel_rfl))
  f129 := Tryz.func185.trans (congrArg some (by kernel_rfl))
  f189 := Tryz.func121.trans (congrArg some (by kernel_rfl))
  f215 := Tryz.func197.trans (congrArg some (by kernel_rfl))
  f216 := Tryz.func181.trans (congrArg some (by kernel_rfl))
  f257 := Tryz.func159.trans (congrArg some (by kernel_rfl))
  f294 := Tryz.func175.trans (congrArg some (by kernel_rfl))
  f295 := Tryz.func176.trans (congrArg some (by kernel_rfl))
  f296 := Tryz.func177.trans (congrArg some (by kernel_rfl))
  f297 := Tryz.func178.trans (congrArg some (by kernel_rfl))
  f298 := Tryz.func179.trans (congrArg some (by kernel_rfl))
  f299 := Tryz.func180.trans (congrArg some (by kernel_rfl))
  f300 := Tryz.func182.trans (congrArg some (by kernel_rfl))
  f301 := Tryz.func183.trans (congrArg some (by kernel_rfl))
  f328 := Tryz.func192.trans (congrArg some (by kernel_rfl))
  f329 := Tryz.func193.trans (congrArg some (by kernel_rfl))
  f330 := Tryz.func194.trans (congrArg some (by kernel_rfl))
  f331 := Tryz.func195.trans (congrArg some (by kernel_rfl))
  f332 := Tryz.func196.trans (congrArg some (by kernel_rfl))
  f343 := Tryz.func200.trans (congrArg some (by kernel_rfl))
  t0 := Tryz.underlying0
  a0 := Tryz.isAgg0
  z0 := Tryz.sizeOf0
  v0 := Tryz.zeroValue0
  t3 := Tryz.underlying3
  a3 := Tryz.isAgg3
  z3 := Tryz.sizeOf3
  v3 := Tryz.zeroValue3
  t4 := Tryz.underlying4
  a4 := Tryz.isAgg4
  z4 := Tryz.sizeOf4
  v4 := Tryz.zeroValue4
  t5 := Tryz.underlying5
  a5 := Tryz.isAgg5
  z5 := Tryz.sizeOf5
  v5 := Tryz.zeroValue5
  t9 := Tryz.underlying9
  a9 := Tryz.isAgg9
  z9 := Tryz.sizeOf9
  v9 := Tryz.zeroValue9
  t28 := Tryz.underlying25
  a28 := Tryz.isAgg25
  z28 := Tryz.sizeOf25
  v28 := Tryz.zeroValue25
  t46 := Tryz.underlying144
  a46 := Tryz.isAgg144
  z46 := Tryz.sizeOf144
  v46 := Tryz.zeroValue144
  t51 := Tryz.underlying103
  a51 := Tryz.isAgg103
  z51 := Tryz.sizeOf103
  v51 := Tryz.zeroValue103
  t53 := Tryz.underlying196
  a53 := Tryz.isAgg196
  z53 := Tryz.sizeOf196
  v53 := Tryz.zeroValue196
  t131 := Tryz.underlying192
  a131 := Tryz.isAgg192
  z131 := Tryz.sizeOf192
  v131 := Tryz.zeroValue192
  t182 := Tryz.underlying186
  a182 := Tryz.isAgg186
  z182 := Tryz.sizeOf186
  v182 := Tryz.zeroValue186
  t183 := Tryz.underlying187
  a183 := Tryz.isAgg187
  z183 := Tryz.sizeOf187
  v183 := Tryz.zeroValue187
  t218 := Tryz.underlying203
  a218 := Tryz.isAgg203
  z218 := Tryz.sizeOf203
  v218 := Tryz.zeroValue203
  t222 := Tryz.underlying207
  a222 := Tryz.isAgg207
  z222 := Tryz.sizeOf207
  v222 := Tryz.zeroValue207
  t228 := Tryz.underlying211
  a228 := Tryz.isAgg211
  z228 := Tryz.sizeOf211
  v228 := Tryz.zeroValue211
  t229 := Tryz.underlying212
  a229 := Tryz.isAgg212
  z229 := Tryz.sizeOf212
  v229 := Tryz.zeroValue212 }
def coLaysRen : Go.Shelf.Ren := ⟨fun | 20 => 122 | n => n, fun | 22 => 25 | 3 => 3 | 4 => 4 | 0 => 0 | n => n, fun | n => n⟩
theorem coLays : Go.Proofs.Lays2.n20 Tryz.prog coLaysRen := {
  mixed := by kernel_rfl
  f20 := Tryz.func122.trans (congrArg some (by kernel_rfl))
  t0 := Tryz.underlying0
  a0 := Tryz.isAgg0
  z0 := Tryz.sizeOf0
  v0 := Tryz.zeroValue0
  t3 := Tryz.underlying3
  a3 := Tryz.isAgg3
  z3 := Tryz.sizeOf3
  v3 := Tryz.zeroValue3
  t4 := Tryz.underlying4
  a4 := Tryz.isAgg4
  z4 := Tryz.sizeOf4
  v4 := Tryz.zeroValue4
  t22 := Tryz.underlying25
  a22 := Tryz.isAgg25
  z22 := Tryz.sizeOf25
  v22 := Tryz.zeroValue25
  i3 := by kernel_rfl }
end Go.Proofs.YtdkedgedkgabnaaGreatDoor
