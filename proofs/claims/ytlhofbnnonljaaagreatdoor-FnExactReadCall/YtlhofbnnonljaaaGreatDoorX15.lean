/- Ta2, Ta3, Tb0, Tb1. -/
import Derived.Test.YtlhofbnnonljaaaGreatDoorX12
import Derived.Test.YtlhofbnnonljaaaGreatDoorX14
namespace Go.Proofs.YtlhofbnnonljaaaGreatDoor
open Go.RowKit Go.ChangeMaps
theorem vbs_k : ∀ (k n : Nat), n < 128 ^ (k + 1) → (vbs n).length ≤ k + 1
  | 0, n, h => by rw [vbs_small n (by omega)]; simp
  | k + 1, n, h => by
    by_cases hn : n < 128
    · rw [vbs_small n (by omega)]; simp
    · rw [vbs_big n (by omega)]
      have := vbs_k k (n / 128) (by rw [Nat.pow_succ] at h; omega)
      simp; omega
theorem vi_k (k : Nat) (n : Int) (h : n < 128 ^ (k + 1)) : (vi n).size ≤ k + 1 := by
  have h2 : n.toNat < 128 ^ (k + 1) := by
    have h3 : ((128 : Int) ^ (k + 1)) = ((128 ^ (k + 1) : Nat) : Int) := by simp
    rw [h3] at h
    have h4 : 0 < 128 ^ (k + 1) := Nat.pow_pos (by decide)
    omega
  have := vbs_k k n.toNat h2
  show (vbs n.toNat).toArray.size ≤ _
  simpa using this
theorem vi_1 {n : Int} (h : n ≤ 127) : (vi n).size ≤ 1 := vi_k 0 n (by omega)
theorem vi_2 {n : Int} (h : n ≤ 10000) : (vi n).size ≤ 2 := vi_k 1 n (by omega)
theorem vi_3 {n : Int} (h : n ≤ 100000) : (vi n).size ≤ 3 := vi_k 2 n (by omega)
theorem mtx_80 {g u : Int} {l : List R3} {t : ByteArray} (h : mlOk g u l t = true) : (mtx g u l t).size ≤ 80 := by
  simp only [mlOk, gok, flOk, Bool.and_eq_true, decide_eq_true_eq] at h
  obtain ⟨h1, h2, ⟨h3, h4⟩, h5⟩ := h
  have hr : ∀ p ∈ l, (rt p).size ≤ 5 := by
    intro p hp
    have h6 := List.all_eq_true.1 h4 p hp
    simp only [okp, rgOk, stOk, Bool.and_eq_true, decide_eq_true_eq] at h6
    have a1 := vi_1 (n := p.1) (by omega)
    have a2 := vi_3 (n := p.2.1) (by omega)
    have a3 := vi_1 (n := p.2.2) (by omega)
    unfold rt
    rw [ByteArray.size_append, ByteArray.size_append]
    omega
  have hs : ∀ k : List R3, (∀ p ∈ k, (rt p).size ≤ 5) → (rts k).size ≤ k.length * 5 := by
    intro k
    induction k with
    | nil => intro _; exact Nat.zero_le _
    | cons p k ih =>
      intro hk
      have h7 := hk p (List.mem_cons_self ..)
      have h8 := ih (fun q hq => hk q (List.mem_cons_of_mem _ hq))
      simp only [rts, ByteArray.size_append, List.length_cons]
      omega
  have h9 := hs l hr
  have a1 := vi_2 (n := g) (by omega)
  have a2 := vi_2 (n := u) (by omega)
  have a3 := vi_1 (n := (t.size : Int)) (by omega)
  unfold mtx
  simp only [ByteArray.size_append]
  have : l.length = 3 := by simpa using h3
  rw [this] at h9
  omega
theorem mts_80 {L : List M4} (h : ∀ m ∈ L, mlOk m.1 m.2.1 m.2.2.1 m.2.2.2 = true) : (mts L).size ≤ L.length * 80 := by
  induction L with
  | nil => exact Nat.zero_le _
  | cons m L ih =>
    have h1 := mtx_80 (h m (List.mem_cons_self ..))
    have h2 := ih (fun q hq => h q (List.mem_cons_of_mem _ hq))
    simp only [mts, ByteArray.size_append, List.length_cons]
    omega
theorem vis_2 {G : List Int} (h : ∀ y ∈ G, 1 ≤ y ∧ y ≤ 9999) : (vis G).size ≤ G.length * 2 := by
  induction G with
  | nil => exact Nat.zero_le _
  | cons m L ih =>
    have h1 := vi_2 (n := m) (by have := h m (List.mem_cons_self ..); omega)
    have h2 := ih (fun q hq => h q (List.mem_cons_of_mem _ hq))
    simp only [vis, ByteArray.size_append, List.length_cons]
    omega
theorem btx_size {g : Int} {nm : ByteArray} {t b nx : Int} {L : List M4} {G : List Int} (h : bxOk g nm t b nx L G = true) : (btx g nm t b nx L G).size ≤ 903 := by
  obtain ⟨p1, p2, p3, p4, p5, p6, p7, p8⟩ := bx_txt h
  have a1 := vi_2 (n := g) (by omega)
  have a2 := vi_1 (n := (nm.size : Int)) (by omega)
  have a3 := vi_3 (n := t) (by omega)
  have a4 := vi_1 (n := b) (by omega)
  have a5 := vi_2 (n := nx) (by omega)
  have a6 := vi_1 (n := (L.length : Int)) (by omega)
  have a7 := vi_1 (n := (G.length : Int)) (by omega)
  have a8 := mts_80 p6
  have a9 := vis_2 p8
  unfold btx bth
  simp only [ByteArray.size_append]
  omega
/-- The bytes of boxes; of a store, not sealed. -/
def bts : List X7 → ByteArray
  | [] => ⟨#[]⟩
  | x :: S => btx x.1 x.2.1 x.2.2.1 x.2.2.2.1 x.2.2.2.2.1 x.2.2.2.2.2.1 x.2.2.2.2.2.2 ++ bts S
theorem bts_snoc (S : List X7) (x : X7) : bts (S ++ [x]) = bts S ++ btx x.1 x.2.1 x.2.2.1 x.2.2.2.1 x.2.2.2.2.1 x.2.2.2.2.2.1 x.2.2.2.2.2.2 := by
  induction S with
  | nil => simp only [List.nil_append, bts, ba_nil, nil_ba]
  | cons a S ih => simp only [List.cons_append, bts, ih, ByteArray.append_assoc]
def stx (y tm : Int) (S : List X7) (G : List Int) : ByteArray := vi y ++ vi tm ++ vi S.length ++ bts S ++ vi G.length ++ vis G
theorem bts_size {S : List X7} (h : ∀ x ∈ S, bxx x = true) : (bts S).size ≤ S.length * 903 := by
  induction S with
  | nil => exact Nat.zero_le _
  | cons x S ih =>
    have h1 := btx_size (h x (List.mem_cons_self ..))
    have h2 := ih (fun q hq => h q (List.mem_cons_of_mem _ hq))
    simp only [bts, ByteArray.size_append, List.length_cons]
    omega
/-- What a right store's numbers are. -/
theorem st_txt {y tm : Int} {S : List X7} {G : List Int} (h : sOk y tm S G = true) : (1 ≤ y ∧ y ≤ 2) ∧ (0 ≤ tm ∧ tm ≤ 100000) ∧ S.length ≤ 5 ∧ (∀ x ∈ S, bxx x = true) ∧ G.length ≤ 20 ∧ ∀ z ∈ G, 1 ≤ z ∧ z ≤ 9999 := by
  simp only [sOk, gnM, Bool.and_eq_true, decide_eq_true_eq] at h
  obtain ⟨h1, h2, h3, h4, h5, -⟩ := h
  refine ⟨h1, h2, by omega, fun x hx => ?_, by omega, asc_gk h4.1⟩
  obtain ⟨i, hi, rfl⟩ := List.getElem_of_mem hx
  have h9 := List.all_eq_true.1 h5 i (List.mem_range.2 hi)
  unfold stp7 at h9
  rw [List.getElem?_eq_getElem hi] at h9
  simp only [Bool.and_eq_true] at h9
  exact h9.1
theorem stx_size {y tm : Int} {S : List X7} {G : List Int} (h : sOk y tm S G = true) : (stx y tm S G).size ≤ 4561 := by
  obtain ⟨p1, p2, p3, p4, p5, p6⟩ := st_txt h
  have a1 := vi_1 (n := y) (by omega)
  have a2 := vi_3 (n := tm) (by omega)
  have a3 := vi_1 (n := (S.length : Int)) (by omega)
  have a4 := vi_1 (n := (G.length : Int)) (by omega)
  have a5 := bts_size p4
  have a6 := vis_2 p6
  unfold stx
  simp only [ByteArray.size_append]
  omega
def stR (y tm : Int) (S : List X7) (G : List Int) : Value := if sOk y tm S G = true then .tuple #[.string (stx y tm S G ++ tail4 (stx y tm S G)), .bool true] else .tuple #[.string ⟨#[]⟩, .bool false]
set_option maxHeartbeats 8000000 in
set_option maxRecDepth 100000 in
theorem specStoreText_any (l1 h1 l2 h2 : Nat) (y tm : Int) (ba : Option Addr) (bn bc : Nat) (ga : Option Addr) (gn gc : Nat) (S : List X7) (G : List Int) (w : World) (hl : S.length = bn) (hn : bn ≤ 1048576) (hsb : Sb S) (hm : Bs l1 h1 w ba S) (hgl : G.length = gn) (hgn : gn ≤ 1048576) (hs : Is l2 h2 w ga G) :
    Calls Tryz.prog 50 #[.agg #[.int .i64 y, .int .i64 tm, .slice ba bn bc, .slice ga gn gc]] w fun e w' => e = .returned (stR y tm S G) ∧ Below w.heap.size w w' := by
  obtain ⟨W0, hW0⟩ : ∃ W0, w.alloc (.cells #[.int .i64 y, .int .i64 tm, .slice ba bn bc, .slice ga gn gc] 57) = W0 := ⟨_, rfl⟩
  have a0 : Sx W0 w.heap.size 57 y tm (.slice ba bn bc) (.slice ga gn gc) := by subst hW0; exact Sx.new w _ y tm _ _
  have b0 : Below w.heap.size w W0 := by subst hW0; exact bpush (bre _) _
  have c0 := a0.cells
  have XB := hid a0
  have HB := hid b0
  have HM := hid hm
  have HS := hid hs
  have HX := hid hsb
  have HL := hid hl
  have HG := hid hgl
  have HOK := hid (specStoreOk_any l1 h1 l2 h2 y tm ba bn bc ga gn gc S G W0 hl hn hsb (hm.later b0) hgl hgn (hs.later b0))
  clear a0 b0 hm hs hsb hl hgl
  cases hok : sOk y tm S G
  · have hE : stR y tm S G = .tuple #[.string ⟨#[]⟩, .bool false] := by unfold stR; rw [hok]; rfl
    rw [hE]
    rw [hok] at HOK
    clear hE hok
    go_enter Tryz.func50, Tryz.ntmps50
    go_wp2_with fail
    try rw [hW0]
    clear hW0
    refine HOK.out.mono ?_; rintro e w1 ⟨rfl, hb1⟩
    have B1 := hid (btr HB.out hb1)
    clear hb1 c0
    go_wp2
    go_ret2
    exact ⟨rfl, B1.out⟩
  · have hE : stR y tm S G = .tuple #[.string (stx y tm S G ++ tail4 (stx y tm S G)), .bool true] := by unfold stR; rw [hok]; rfl
    rw [hE]
    rw [hok] at HOK
    have HZZ := hid (stx_size hok)
    obtain ⟨p1, p2, p3, p4, p5, p6⟩ := st_txt hok
    obtain ⟨x1, e1, z1, C1⟩ := var_s y (by omega) (by omega)
    obtain ⟨x2, e2, z2, C2⟩ := var_s tm (by omega) (by omega)
    obtain ⟨x3, e3, z3, C3⟩ := var_s bn (by omega) (by have := HL.out; omega)
    obtain ⟨x7, e7, z7, CC7⟩ := var_s gn (by omega) (by have := HG.out; omega)
    have P4 := hid p4
    have P6 := hid p6
    have hmn : bn ≤ 5 := by rw [← HL.out]; exact p3
    have hgn4 : gn ≤ 20 := by rw [← HG.out]; exact p5
    clear hE hok hn hgn p1 p2 p3 p4 p5 p6
    go_enter Tryz.func50, Tryz.ntmps50
    go_wp2_with fail
    try rw [hW0]
    clear hW0
    refine HOK.out.mono ?_; rintro e w1 ⟨rfl, hb1⟩
    replace XB := hid (XB.out.later hb1)
    replace HB := hid (btr HB.out hb1)
    clear hb1 c0
    go_wp2_with fail
    have HSS : Hid (∀ W, Sx W w.heap.size 57 y tm (.slice ba bn bc) (.slice ga gn gc) → (W.cell? ⟨w.heap.size, 0, none⟩ = some (.int .i64 y) ∧ W.cell? ⟨w.heap.size, 1, none⟩ = some (.int .i64 tm) ∧ W.cell? ⟨w.heap.size, 2, none⟩ = some (.slice ba bn bc) ∧ W.cell? ⟨w.heap.size, 3, none⟩ = some (.slice ga gn gc))) := hid (fun W h => h.cells)
    have q1 : (9223372036854775807 < x1.size + x2.size) = False := eq_false (by omega)
    have q2 : (9223372036854775807 < x1.size + x2.size + x3.size) = False := eq_false (by omega)
    refine wp_region_noPanic ?_
    refine wp_region_held_drew (S := (fun W => (W.cell? ⟨w.heap.size, 0, none⟩ = some (.int .i64 y) ∧ W.cell? ⟨w.heap.size, 1, none⟩ = some (.int .i64 tm) ∧ W.cell? ⟨w.heap.size, 2, none⟩ = some (.slice ba bn bc) ∧ W.cell? ⟨w.heap.size, 3, none⟩ = some (.slice ga gn gc)))) (by kernel_rfl) (HSS.out _ (XB.out.later (bdr (bre _)))) (fun hHeld => ?_)
    refine tk 0 ?_
    refine tk 1 ?_
    refine tk 3 ?_
    refine tk 4 ?_
    refine tk 7 ?_
    refine tk 8 ?_
    refine tk 9 ?_
    clear hHeld
    refine ry 2 (fun K hK => ?_)
    go_simp
    refine (C1.out _).mono ?_; rintro e w2 ⟨rfl, hbx⟩
    replace hbx := btr (bdr (bre _)) hbx
    replace XB := hid (XB.out.later hbx)
    replace HB := hid (btr HB.out hbx)
    clear hbx
    go_wp2_with fail
    refine hK.out _ _ (HSS.out _ XB.out) (fun hHeld => ?_)
    clear hK K
    try simp only [Act.put, List.setIfInBounds_toArray, List.set_cons_zero, List.set_cons_succ]
    clear hHeld
    refine ry 5 (fun K hK => ?_)
    go_simp
    refine (C2.out _).mono ?_; rintro e w3 ⟨rfl, hbx⟩
    replace XB := hid (XB.out.later hbx)
    replace HB := hid (btr HB.out hbx)
    clear hbx
    go_wp2_with fail
    refine hK.out _ _ (HSS.out _ XB.out) (fun hHeld => ?_)
    clear hK K
    try simp only [Act.put, List.setIfInBounds_toArray, List.set_cons_zero, List.set_cons_succ]
    refine tk 6 ?_
    clear hHeld
    refine ry 10 (fun K hK => ?_)
    go_simp
    refine (C3.out _).mono ?_; rintro e w4 ⟨rfl, hbx⟩
    replace XB := hid (XB.out.later hbx)
    replace HB := hid (btr HB.out hbx)
    clear hbx
    go_wp2_with fail
    refine hK.out _ _ (HSS.out _ XB.out) (fun hHeld => ?_)
    clear hK K
    try simp only [Act.put, List.setIfInBounds_toArray, List.set_cons_zero, List.set_cons_succ]
    refine tk 11 ?_
    refine tk 12 ?_
    refine wpAnyH_done (by kernel_rfl) ?_ _
    refine NoPanic.normal ?_
    clear hHeld q1 q2
    obtain ⟨th, hth⟩ : ∃ s, x1 ++ x2 ++ x3 = s := ⟨_, rfl⟩
    have HTH : Hid (th = vi y ++ vi tm ++ vi S.length) := hid (by rw [← hth, e1.out, e2.out, e3.out, HL.out])
    have hthz : th.size ≤ 3000000003 := by rw [← hth]; simp only [ByteArray.size_append]; omega
    rw [hth]
    clear hth z1 z2 z3 C1 C2 C3 HOK
    go_wp2
    go_loopw [4, 5] (fun sv iv wr => ∃ (i : Nat) (s : ByteArray), i ≤ bn ∧ iv = .int .i64 (i : Int) ∧ sv = .string s ∧ Hid (s = th ++ bts (S.take i)) ∧ Hid (s.size ≤ 3000000003 + i * 903) ∧ Sx wr w.heap.size 57 y tm (.slice ba bn bc) (.slice ga gn gc) ∧ Below w.heap.size w wr) (fun _ iv _ => bn - (intOf iv).toNat)
    case atStart => exact ⟨0, th, Nat.zero_le _, rfl, rfl, by show th = th ++ bts []; rw [show bts [] = ⟨#[]⟩ from rfl, nil_ba], by show _ ≤ _; omega, XB.out, HB.out⟩
    case round =>
      obtain ⟨i, s, hi, rfl, rfl, HT, HZ, hx, hb⟩ := hrel
      replace XB := hid hx
      replace HB := hid hb
      have c0 := XB.out.cells
      clear hx hb
      by_cases hlt : i < bn
      · have hil : i < S.length := by rw [HL.out]; exact hlt
        obtain ⟨k, o, ma, mc, ha, hc, hka, hkk, d, hms, hgs, _⟩ := (HM.out.later HB.out).at hil
        have hok := P4.out S[i] (List.getElem_mem hil)
        have hsz := btx_size hok
        have htk : bts (S.take (i + 1)) = bts (S.take i) ++ btx S[i].1 S[i].2.1 S[i].2.2.1 S[i].2.2.2.1 S[i].2.2.2.2.1 S[i].2.2.2.2.2.1 S[i].2.2.2.2.2.2 := by rw [List.take_succ_eq_append_getElem hil, bts_snoc]
        have hsb := HX.out S[i] (List.getElem_mem hil)
        obtain ⟨q, hq⟩ : ∃ q, S[i] = q := ⟨_, rfl⟩
        obtain ⟨g, nm, t, b, nx, L, H⟩ := q
        rw [hq] at d hms hgs hok hsz htk hsb
        dsimp only at d hms hgs hsz htk hsb
        have CT := specBoxText_any _ _ _ _ g nm t b nx ma L.length mc ha H.length hc L H wr hsb.1 rfl hsb.2.1 hsb.2.2.1 hms rfl hsb.2.2.2 hgs
        have hE2 : btR g nm t b nx L H = .tuple #[.string (btx g nm t b nx L H), .bool true] := by unfold btR; rw [show bxOk g nm t b nx L H = true from hok]; rfl
        rw [hE2] at CT
        obtain ⟨xm, hxm⟩ : ∃ x, btx g nm t b nx L H = x := ⟨_, rfl⟩
        obtain ⟨mn, hmn2⟩ : ∃ n, L.length = n := ⟨_, rfl⟩
        obtain ⟨hn9, hhn⟩ : ∃ n, H.length = n := ⟨_, rfl⟩
        rw [hxm] at CT hsz htk
        rw [hmn2, hhn] at CT d
        have HCT := hid CT
        have HTK := hid htk
        subst hka
        unfold C7 at d
        have hI : (0 : Int) ≤ (i : Int) ∧ (i : Int) < (bn : Int) := by omega
        have hz := HZ.out
        have q1 : (9223372036854775807 < s.size + xm.size) = False := eq_false (by omega)
        clear hq hok hsb hE2 hxm hmn2 hhn CT htk hms hgs
        go_wp2_with fail
        refine HCT.out.mono ?_; rintro e w9 ⟨rfl, hb9⟩
        replace XB := hid (XB.out.later hb9)
        replace HB := hid (btr HB.out hb9)
        clear hb9 d c0 HCT
        go_wp2
        clear q1
        go_roundw
        case rel => exact ⟨i + 1, s ++ xm, by omega, by go_num, rfl, by show _ = _; rw [HTK.out, HT.out, ByteArray.append_assoc], by show _ ≤ _; rw [ByteArray.size_append]; omega, XB.out, HB.out⟩
        case measure => simp [intOf]; omega
      · have HT2 : Hid (s = th ++ bts S) := hid (by have := HT.out; rwa [List.take_of_length_le (by rw [HL.out]; omega)] at this)
        have hz := HZ.out
        have q1 : (9223372036854775807 < s.size + x7.size) = False := eq_false (by omega)
        have q2 : (9223372036854775807 < s.size) = False := eq_false (by omega)
        go_wp2_with fail
        refine (CC7.out _).mono ?_; rintro e w9 ⟨rfl, hb9⟩
        replace XB := hid (XB.out.later hb9)
        replace HB := hid (btr HB.out hb9)
        clear hb9 c0 HT HZ
        go_wp2
        clear q1 q2
        obtain ⟨s2, hs2⟩ : ∃ x, s ++ x7 = x := ⟨_, rfl⟩
        have HS2 : Hid (s2 = vi y ++ vi tm ++ vi S.length ++ bts S ++ vi G.length) := hid (by rw [← hs2, HT2.out, HTH.out, e7.out, HG.out])
        have hz2 : s2.size ≤ 300000000000 := by rw [← hs2, ByteArray.size_append]; omega
        rw [hs2]
        clear hs2 hz
        go_loopw [4, 8] (fun sv iv wr => ∃ (i : Nat) (s : ByteArray), i ≤ gn ∧ iv = .int .i64 (i : Int) ∧ sv = .string s ∧ Hid (s = s2 ++ vis (G.take i)) ∧ Hid (s.size ≤ 300000000000 + i * 1000000001) ∧ Sx wr w.heap.size 57 y tm (.slice ba bn bc) (.slice ga gn gc) ∧ Below w.heap.size w wr) (fun _ iv _ => gn - (intOf iv).toNat)
        case atStart => exact ⟨0, s2, Nat.zero_le _, rfl, rfl, by show s2 = s2 ++ vis []; rw [show vis [] = ⟨#[]⟩ from rfl, nil_ba], by show _ ≤ _; omega, XB.out, HB.out⟩
        case round =>
          obtain ⟨j, s3, hj, rfl, rfl, HT3, HZ3, hx, hb⟩ := hrel
          replace XB := hid hx
          replace HB := hid hb
          have c0 := XB.out.cells
          clear hx hb
          by_cases hlt2 : j < gn
          · have hjl : j < G.length := by rw [HG.out]; exact hlt2
            obtain ⟨k, o, hka, hkk, d⟩ := (HS.out.later HB.out).at hjl
            have hp := P6.out G[j] (List.getElem_mem hjl)
            have htk : vis (G.take (j + 1)) = vis (G.take j) ++ vi G[j] := by rw [List.take_succ_eq_append_getElem hjl, vis_snoc]
            obtain ⟨x, hx⟩ : ∃ x, G[j] = x := ⟨_, rfl⟩
            rw [hx] at d hp htk
            obtain ⟨xv, ev, zv, CV⟩ := var_s x (by omega) (by omega)
            rw [← ev.out] at htk
            have HTK := hid htk
            subst hka
            have hI : (0 : Int) ≤ (j : Int) ∧ (j : Int) < (gn : Int) := by omega
            have hz := HZ3.out
            have q1 : (9223372036854775807 < s3.size + xv.size) = False := eq_false (by omega)
            clear hx hp htk ev
            go_wp2_with fail
            refine (CV.out _).mono ?_; rintro e w10 ⟨rfl, hb10⟩
            replace XB := hid (XB.out.later hb10)
            replace HB := hid (btr HB.out hb10)
            clear hb10 d c0 CV
            go_wp2
            clear q1
            go_roundw
            case rel => exact ⟨j + 1, s3 ++ xv, by omega, by go_num, rfl, by show _ = _; rw [HTK.out, HT3.out, ByteArray.append_assoc], by show _ ≤ _; rw [ByteArray.size_append]; omega, XB.out, HB.out⟩
            case measure => simp [intOf]; omega
          · have HT4 : Hid (s3 = stx y tm S G) := hid (by have := HT3.out; rw [List.take_of_length_le (by rw [HG.out]; omega), HS2.out] at this; exact this)
            have HZ4 : Hid (s3.size ≤ 20000) := hid (by rw [HT4.out]; have := HZZ.out; omega)
            have CS := hid (specSealed_yes s3 wr HZ4.out)
            obtain ⟨t4, ht4⟩ : ∃ t, s3 ++ tail4 s3 = t := ⟨_, rfl⟩
            rw [ht4] at CS
            have HT5 : Hid (stx y tm S G ++ tail4 (stx y tm S G) = t4) := hid (by rw [← HT4.out, ht4])
            clear ht4
            go_wp2_with fail
            refine CS.out.mono ?_; rintro e w11 ⟨rfl, hb11⟩
            replace HB := hid (btr HB.out hb11)
            clear hb11 c0 CS
            go_wp2
            go_ret2
            exact ⟨by rw [HT5.out]; rfl, HB.out⟩
/-- As many numbers as are told, but at most mo and one more. -/
def rints (s : ByteArray) (a : Int) (mo : Int) : Option (List Int × Int) := (rd s a).bind fun p => rds s p.2 (min p.1 (mo + 1)).toNat
/-- What was read so far, or it went bad. -/
def Rk {α : Type} (o : Option (α × Int)) (x : α) (b : Int) (bad : Bool) : Prop := (bad = false ∧ o = some (x, b)) ∨ (bad = true ∧ o = none)
theorem Rk.start (a : Int) : Rk (some ((), a)) () a false := Or.inl ⟨rfl, rfl⟩
theorem Rk.var {α : Type} {o : Option (α × Int)} {x : α} {s : ByteArray} {b : Int} {bad : Bool} {n b' : Int} {bad' : Bool} (h : Rk o x b bad) (hn : nxt s b bad n b' bad') :
    Rk (o.bind fun p => (rd s p.2).map fun q => ((p.1, q.1), q.2)) (x, n) b' bad' := by
  rcases h with ⟨h1, h2⟩ | ⟨h1, h2⟩
  · rcases hn with ⟨_, g2, g3⟩ | ⟨g1, _, _, g4⟩
    · exact Or.inl ⟨g2, by rw [h2]; simp only [Option.bind_some, g3, Option.map_some]⟩
    · rcases g4 with g4 | g4
      · rw [h1] at g4; cases g4
      · exact Or.inr ⟨g1, by rw [h2]; simp only [Option.bind_some, g4, Option.map_none]⟩
  · rcases hn with ⟨g1, _, _⟩ | ⟨g1, _, _, _⟩
    · rw [h1] at g1; cases g1
    · exact Or.inr ⟨g1, by rw [h2]; rfl⟩
theorem Rk.short {α : Type} {o : Option (α × Int)} {x : α} {s : ByteArray} {b : Int} {bad : Bool} {t : ByteArray} {b' : Int} {bad' : Bool} (h : Rk o x b bad) (hn : nxtS s b bad t b' bad') :
    Rk (o.bind fun p => (rsh s p.2).map fun q => ((p.1, q.1), q.2)) (x, t) b' bad' := by
  rcases h with ⟨h1, h2⟩ | ⟨h1, h2⟩
  · rcases hn with ⟨_, g2, g3⟩ | ⟨g1, _, _, g4⟩
    · exact Or.inl ⟨g2, by rw [h2]; simp only [Option.bind_some, g3, Option.map_some]⟩
    · rcases g4 with g4 | g4
      · rw [h1] at g4; cases g4
      · exact Or.inr ⟨g1, by rw [h2]; simp only [Option.bind_some, g4, Option.map_none]⟩
  · rcases hn with ⟨g1, _, _⟩ | ⟨g1, _, _, _⟩
    · rw [h1] at g1; cases g1
    · exact Or.inr ⟨g1, by rw [h2]; rfl⟩
/-- How a call ends that reads numbers by the cursor at block k. -/
def Ints1 (w : World) (k : Nat) (s : ByteArray) (b : Int) (bad : Bool) (mo : Int) (e : Ending) (w' : World) : Prop :=
  ∃ G gv b' bad', e = .returned gv ∧ OwI w' w.heap.size gv G ∧ Cg w' k s b' bad' ∧ ((bad = false ∧ bad' = false ∧ rints s b mo = some (G, b')) ∨ (bad' = true ∧ (bad = true ∨ rints s b mo = none))) ∧ w.grownBy w' (some k) ∧ G.length ≤ 101
def Iq (s : ByteArray) (b1 : Int) (bad1 : Bool) (G : List Int) (b2 : Int) (bad2 : Bool) : Prop := (bad1 = true ∧ bad2 = true) ∨ (bad1 = false ∧ SS s b1 G b2 bad2)
theorem Iq.start (s : ByteArray) (b1 : Int) (bad1 : Bool) : Iq s b1 bad1 [] b1 bad1 := by
  cases bad1
  · exact Or.inr ⟨rfl, SS.start s b1⟩
  · exact Or.inl ⟨rfl, rfl⟩
/-- What numbers come to at the end. -/
theorem Iq.fin {s : ByteArray} {b : Int} {bad : Bool} {n b1 : Int} {bad1 : Bool} {mo : Int} {G : List Int} {b2 : Int} {bad2 : Bool} (hn : nxt s b bad n b1 bad1) (h : Iq s b1 bad1 G b2 bad2) (hm : bad2 = true ∨ G.length = (min n (mo + 1)).toNat) (hl : G.length ≤ (min n (mo + 1)).toNat) :
    (bad = false ∧ bad2 = false ∧ rints s b mo = some (G, b2)) ∨ (bad2 = true ∧ (bad = true ∨ rints s b mo = none)) := by
  rcases hn with ⟨h1, h2, h3⟩ | ⟨h1, _, _, h4⟩
  · rcases h with ⟨h5, _⟩ | ⟨_, h5⟩
    · rw [h2] at h5; cases h5
    · rcases h5 with ⟨h6, h7⟩ | ⟨h6, h7⟩
      · rcases hm with h8 | h8
        · rw [h6] at h8; cases h8
        · refine Or.inl ⟨h1, h6, ?_⟩
          unfold rints
          rw [h3]
          simp only [Option.bind_some]
          rw [← h8, h7]
      · refine Or.inr ⟨h6, Or.inr ?_⟩
        unfold rints
        rw [h3]
        simp only [Option.bind_some]
        have h9 := rds_dead h7 ((min n (mo + 1)).toNat - G.length)
        rwa [show G.length + ((min n (mo + 1)).toNat - G.length) = (min n (mo + 1)).toNat by omega] at h9
  · rcases h with ⟨_, h5⟩ | ⟨h5, _⟩
    · exact Or.inr ⟨h5, h4.imp id (fun h => by unfold rints; rw [h]; rfl)⟩
    · rw [h1] at h5; cases h5
theorem grown_alloc {a w : World} {r : Option Nat} (h : a.grownBy w r) (o : Obj) : a.grownBy (w.alloc o) r :=
  ⟨h.os, h.tape, h.output, by have := h.size; simp; omega, fun i hi hr => (RowKit.Below.heap_alloc w o i (Nat.lt_of_lt_of_le hi h.size)).trans (h.block i hi hr)⟩
theorem grown_up {a w w' : World} {r : Option Nat} {B : Nat} (h : a.grownBy w r) (hb : Below B w w') (hB : a.heap.size ≤ B) : a.grownBy w' r :=
  ⟨hb.os.trans h.os, hb.tape.trans h.tape, hb.output.trans h.output, Nat.le_trans h.size hb.size, fun i hi hr => (hb.block i (by omega)).trans (h.block i hi hr)⟩
theorem ownI_far {W W' : World} {B k : Nat} {v : Value} {G : List Int} (h : OwI W B v G) (hg : W.grownBy W' (some k)) (hk : k < B) : OwI W' B v G :=
  World.ownsRow.kept h hg (by
    cases hv : v.ownBlock with
    | none => exact Or.inl rfl
    | some j => exact Or.inr (fun e => by have := (World.ownsRow.lt h j hv).1; simp at e; omega))
theorem cell_one_i10 (w : World) (n : Int) (e : Nat) : ∀ (j : Nat) (u : Value), ([Value.int .i64 n] : List Value)[j]? = some u → (w.alloc (.cells #[.int .i64 n] e)).cell? ((⟨w.heap.size, 0, none⟩ : Addr).add j) = some u := by
  intro j u hj
  match j, hj with
  | 0, hj =>
    simp only [List.getElem?_cons_zero, Option.some.injEq] at hj
    subst hj
    exact cell_of_row _ w.heap.size 0 _ _ _ (heap_alloc_new w _)
  | j + 1, hj => simp at hj
theorem wpList_append_i10 (w : World) {ops : Array Oper} {rest : List Oper} {o : Oper} {a : Act} {Q : Exit → Act → World → Prop} (hgd : o.guard = none) (s x : Operand)
    (ho : o.op = .call { callee := .builtin .append, args := #[s, x], argTypes := #[55, 55] })
    (base : Nat) (v : Value) (bs : List Int) (hs : a.eval s = v) (hown : OwI w base v bs) (n : Int)
    (hx : a.eval x = .slice (some ⟨w.heap.size, 0, none⟩) 1 1) (hlen : bs.length ≤ 9000000) (hbase : base ≤ w.heap.size)
    (h : ∀ v' w', OwI w' base v' (bs ++ [n]) → Below base w w' → wpList Tryz.prog ops Q rest (a.put o.dst v') w') :
    wpList Tryz.prog ops Q (o :: rest) a (w.alloc (.cells #[.int .i64 n] 3)) := by
  obtain ⟨i0, hi, hz0, hz1, hz2⟩ := info_parts3 info_int
  refine wpList_append_own _ hgd s x 55 ho base 3 i0 (.int .i64 0) 1 8 Tryz.underlying55 hi hz0 hz1 hz2 rfl (by decide) v _ _ hs (hown.alloc _) ⟨w.heap.size, 0, none⟩ 1 1 [.int .i64 n] hx rfl (cell_one_i10 _ _ _) (by intro u hu; simp at hu; subst hu; rfl) (by unfold maxLen; omega) (by omega) (by simp; omega) ?_
  intro v' w' hown' hg _
  refine h v' w' (by simpa [OwI] using hown') (((Below.refl base w).alloc hbase _).grown hg (by simp; omega) (fun k hk => (hown.lt k hk).1))
set_option maxHeartbeats 1600000 in
set_option maxRecDepth 100000 in
theorem l10Ints_any (k : Nat) (s : ByteArray) (b : Int) (bad : Bool) (mo : Int) (w : World) (hs : s.size ≤ 1048576) (hc : Cg w k s b bad) (hmo : 0 ≤ mo ∧ mo ≤ 100) :
    Calls Tryz.prog 49 #[.pointer (some ⟨k, 0, none⟩), .int .i64 mo] w fun e w' => Ints1 w k s b bad mo e w' := by
  have HK := hid hc.lt
  have HC := hid hc
  have HSZ := hid hs
  clear hc hs
  go_enter Tryz.func49, Tryz.ntmps49
  go_wp2_with fail
  refine (l05Var_any k s b bad _ HSZ.out HC.out).mono ?_; rintro e w1 ⟨n, b1, bad1, rfl, hc1, hn1, hg1⟩
  have HN := hid hn1
  have C1 := hid (hc1.later (bpush (bre _) (.cells #[] 3)))
  have G1 := hid (grown_alloc hg1 (.cells #[] 3))
  have hs1 := hg1.size
  have O1 := hid (ownI_empty w1 w.heap.size hs1)
  have hnn : 0 ≤ n ∧ n ≤ 1000000000 := by
    rcases hn1 with ⟨_, _, h⟩ | ⟨_, h, _⟩
    · have := rd_some h; omega
    · omega
  clear hc1 hg1 HC hn1
  go_wp2
  obtain ⟨w2, hw2⟩ : ∃ x, w1.alloc (.cells #[] 3) = x := ⟨_, rfl⟩
  rw [hw2] at C1 G1 O1
  rw [hw2]
  clear hw2
  obtain ⟨mx, hmx⟩ : ∃ m : Nat, (m : Int) = min n (mo + 1) := ⟨(min n (mo + 1)).toNat, by omega⟩
  have HMX : Hid (mx = (min n (mo + 1)).toNat) := hid (by omega)
  go_loopw [6, 7] (fun ov iv wr => ∃ (i : Nat) (G : List Int) (b2 : Int) (bad2 : Bool), i ≤ mx ∧ iv = .int .i64 (i : Int) ∧ Hid (G.length = i) ∧ OwI wr w.heap.size ov G ∧ Cg wr k s b2 bad2 ∧ Hid (Iq s b1 bad1 G b2 bad2) ∧ w.grownBy wr (some k)) (fun _ iv _ => mx - (intOf iv).toNat)
  case atStart => exact ⟨0, [], b1, bad1, Nat.zero_le _, rfl, rfl, O1.out, C1.out, Iq.start s b1 bad1, G1.out⟩
  case round =>
    obtain ⟨i, G, b2, bad2, hi, rfl, HL, ho, hc, HQ, hg⟩ := hrel
    have XO := hid ho
    have XC := hid hc
    have XG := hid hg
    have c0 := hc.cells
    clear ho hc hg O1 C1 G1
    by_cases hlt : (i : Int) < n
    · by_cases hle : (i : Int) ≤ mo
      · cases bad2
        · have HQ2 : Hid (bad1 = false ∧ SS s b1 G b2 false) := hid (by rcases HQ.out with ⟨_, h⟩ | h; (cases h); exact h)
          go_wp2_with fail
          refine (l05Var_any k s b2 false _ HSZ.out XC.out).mono ?_; rintro e w3 ⟨x, b3, bad3, rfl, hc3, hn3, hg3⟩
          have S3 := hid (HQ2.out.2.next hn3)
          have O3 := hid (ownI_far XO.out hg3 HK.out)
          have G3 := hid (wtr XG.out hg3)
          have C3 := hid hc3
          have hs3 := G3.out.size
          have hgl : G.length ≤ 9000000 := by rw [HL.out]; omega
          obtain ⟨a9, c9, e9, _⟩ := OwI.shape O3.out
          subst e9
          clear hc3 hn3 hg3 c0
          go_wp2_with (at_builtin; refine wpList_append_i10 _ rfl _ _ rfl w.heap.size _ G (by rfl) O3.out x (by rfl) hgl hs3 ?_; intro v4 w4 hown4 hb4)
          have C4 := hid (C3.out.below hb4 HK.out)
          have G4 := hid (grown_up G3.out hb4 (Nat.le_refl _))
          have O4 := hid hown4
          obtain ⟨a8, c8, e8, _⟩ := OwI.shape hown4
          subst e8
          clear hown4 hb4
          go_roundw
          case rel => exact ⟨i + 1, G ++ [x], b3, bad3, by omega, by go_num, hid (by show (G ++ [x]).length = i + 1; rw [List.length_append, HL.out]; rfl), O4.out, C4.out, Or.inr ⟨HQ2.out.1, S3.out⟩, G4.out⟩
          case measure => simp [intOf]; omega
        · go_wp2
          go_ret
          exact ⟨G, _, b2, _, rfl, XO.out, XC.out, Iq.fin HN.out HQ.out (Or.inl rfl) (by rw [HL.out, ← HMX.out]; exact hi), XG.out, by rw [HL.out]; have := HMX.out; omega⟩
      · go_wp2
        go_ret
        exact ⟨G, _, b2, _, rfl, XO.out, XC.out, Iq.fin HN.out HQ.out (Or.inr (by rw [HL.out, ← HMX.out]; omega)) (by rw [HL.out, ← HMX.out]; exact hi), XG.out, by rw [HL.out]; have := HMX.out; omega⟩
    · go_wp2
      go_ret
      exact ⟨G, _, b2, _, rfl, XO.out, XC.out, Iq.fin HN.out HQ.out (Or.inr (by rw [HL.out, ← HMX.out]; omega)) (by rw [HL.out, ← HMX.out]; exact hi), XG.out, by rw [HL.out]; have := HMX.out; omega⟩
/-- Mails, one behind the other. -/
def rms (s : ByteArray) (a : Int) : Nat → Option (List M4 × Int)
  | 0 => some ([], a)
  | k + 1 => (rms s a k).bind fun p => if (rm6 s p.2).2.2.2.2.2 = true then some (p.1 ++ [((rm6 s p.2).1, (rm6 s p.2).2.1, (rm6 s p.2).2.2.1, (rm6 s p.2).2.2.2.1)], (rm6 s p.2).2.2.2.2.1) else none
theorem rms_dead {s : ByteArray} {a : Int} {k : Nat} (h : rms s a k = none) (j : Nat) : rms s a (k + j) = none := by
  induction j with
  | zero => exact h
  | succ j ih => show (rms s a (k + j)).bind _ = none; rw [ih]; rfl
abbrev Hd6 := (((((Unit × Int) × ByteArray) × Int) × Int) × Int) × Int
/-- What stands ahead of a box's mails. -/
def rh1 (s : ByteArray) (a : Int) : Option ((Unit × Int) × Int) := (some ((), a)).bind fun p => (rd s p.2).map fun q => ((p.1, q.1), q.2)
def rh2 (s : ByteArray) (a : Int) : Option (((Unit × Int) × ByteArray) × Int) := (rh1 s a).bind fun p => (rsh s p.2).map fun q => ((p.1, q.1), q.2)
def rh3 (s : ByteArray) (a : Int) : Option ((((Unit × Int) × ByteArray) × Int) × Int) := (rh2 s a).bind fun p => (rd s p.2).map fun q => ((p.1, q.1), q.2)
def rh4 (s : ByteArray) (a : Int) : Option (((((Unit × Int) × ByteArray) × Int) × Int) × Int) := (rh3 s a).bind fun p => (rd s p.2).map fun q => ((p.1, q.1), q.2)
def rh5 (s : ByteArray) (a : Int) : Option ((((((Unit × Int) × ByteArray) × Int) × Int) × Int) × Int) := (rh4 s a).bind fun p => (rd s p.2).map fun q => ((p.1, q.1), q.2)
def rh6 (s : ByteArray) (a : Int) : Option (Hd6 × Int) := (rh5 s a).bind fun p => (rd s p.2).map fun q => ((p.1, q.1), q.2)
/-- The box that is read: the box, and the place behind it. -/
def rbx (s : ByteArray) (a : Int) : Option (X7 × Int) :=
  (rh6 s a).bind fun p => (rms s p.2 (min p.1.2 11).toNat).bind fun q => (rints s q.2 40).bind fun r =>
    if bxOk p.1.1.1.1.1.1.2 p.1.1.1.1.1.2 p.1.1.1.1.2 p.1.1.1.2 p.1.1.2 q.1 r.1 = true then some ((p.1.1.1.1.1.1.2, p.1.1.1.1.1.2, p.1.1.1.1.2, p.1.1.1.2, p.1.1.2, q.1, r.1), r.2) else none
/-- How a call ends that reads a box. -/
def RbPost (s : ByteArray) (a : Int) (w : World) (e : Ending) (w' : World) : Prop :=
  (rbx s a = none ∧ e = .returned (.tuple #[.agg #[.int .i64 0, .string ⟨#[]⟩, .int .i64 0, .int .i64 0, .int .i64 0, .slice none 0 0, .slice none 0 0], .int .i64 0, .bool false]) ∧ Below w.heap.size w w') ∨
  ∃ g nm t b nx L G c mv gv, rbx s a = some ((g, nm, t, b, nx, L, G), c) ∧ bxOk g nm t b nx L G = true ∧ e = .returned (.tuple #[.agg #[.int .i64 g, .string nm, .int .i64 t, .int .i64 b, .int .i64 nx, mv, gv], .int .i64 c, .bool true]) ∧ OwB w' w.heap.size mv gv L G ∧ Below w.heap.size w w'
/-- The memory of a call that reads a box. -/
structure Rbs (w W : World) (kb : Nat) (s : ByteArray) (g : Int) (nm : ByteArray) (t b nx : Int) (mv gv : Value) (c : Int) (bad : Bool) : Prop where
  zero : Bx W w.heap.size 77 0 ⟨#[]⟩ 0 0 0 (.slice none 0 0) (.slice none 0 0)
  cur : Cg W (w.heap.size + 1) s c bad
  box : Bx W kb 77 g nm t b nx mv gv
  far : w.heap.size + 1 < kb
  bel : Below w.heap.size w W
section
variable {w W W' : World} {kb : Nat} {s : ByteArray} {g : Int} {nm : ByteArray} {t b nx : Int} {mv gv : Value} {c : Int} {bad : Bool}
theorem Rbs.later (h : Rbs w W kb s g nm t b nx mv gv c bad) (hb : Below W.heap.size W W') : Rbs w W' kb s g nm t b nx mv gv c bad :=
  ⟨h.zero.later hb, h.cur.later hb, h.box.later hb, h.far, btr h.bel hb⟩
theorem Rbs.below {B : Nat} (h : Rbs w W kb s g nm t b nx mv gv c bad) (hb : Below B W W') (hB : kb < B) : Rbs w W' kb s g nm t b nx mv gv c bad :=
  have hf := h.far
  ⟨(hb.block _ (by omega)).trans h.zero, (hb.block _ (by omega)).trans h.cur, (hb.block _ hB).trans h.box, h.far, h.bel.trans (hb.mono (by omega))⟩
theorem Rbs.read {c' : Int} {bad' : Bool} (h : Rbs w W kb s g nm t b nx mv gv c bad) (hg : W.grownBy W' (some (w.heap.size + 1))) (hc : Cg W' (w.heap.size + 1) s c' bad') : Rbs w W' kb s g nm t b nx mv gv c' bad' :=
  have hf := h.far
  ⟨h.zero.grown hg (by simp), hc, h.box.grown hg (by simp; omega), h.far, h.bel.trans (below_grownR hg (by intro j hj; simp at hj; omega) h.bel.size)⟩
theorem Rbs.put {i : Nat} {x : Value} {g' : Int} {nm' : ByteArray} {t' b' nx' : Int} {mv' gv' : Value} (h : Rbs w W kb s g nm t b nx mv gv c bad) (hx : Bx (W.setCell ⟨kb, i, none⟩ x) kb 77 g' nm' t' b' nx' mv' gv') : Rbs w (W.setCell ⟨kb, i, none⟩ x) kb s g' nm' t' b' nx' mv' gv' c bad :=
  have hf := h.far
  ⟨heap_setCell_far x h.zero (by omega), h.cur.far x (by omega), hx, h.far, bsk h.bel (by omega) i x⟩
theorem Rbs.place (h : Rbs w W kb s g nm t b nx mv gv c bad) (c' : Int) : Rbs w (W.setCell ⟨w.heap.size + 1, 1, none⟩ (.int .i64 c')) kb s g nm t b nx mv gv c' bad :=
  have hf := h.far
  ⟨heap_setCell_far _ h.zero (by omega), h.cur.s1 c', heap_setCell_far _ h.box (by omega), h.far, bsk h.bel (by omega) 1 _⟩
end
theorem ownZ_far {W : World} {B k i : Nat} {v x : Value} {Z : List Z5} (h : OwZ W B v Z) (hk : k < B) : OwZ (W.setCell ⟨k, i, none⟩ x) B v Z :=
  h.grown (wst (wre W (some k)) i x) hk
theorem ownZ_nil (W : World) (B : Nat) : OwZ W B (.slice none 0 0) [] :=
  ⟨⟨rfl, Or.inl ⟨rfl, rfl⟩⟩, (fun z hz => by cases hz), (fun z hz => by cases hz), List.Pairwise.nil⟩
end Go.Proofs.YtlhofbnnonljaaaGreatDoor
