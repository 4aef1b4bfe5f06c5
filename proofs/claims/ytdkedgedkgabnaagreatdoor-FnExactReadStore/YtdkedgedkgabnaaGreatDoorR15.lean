/- Tjd, Tje, Ta0, Ta1, Ta2, Ta3. -/
import Derived.Test.YtdkedgedkgabnaaGreatDoorR14
namespace Go.Proofs.YtdkedgedkgabnaaGreatDoor
open Go.RowKit Go.ChangeMaps
def OwU (W : World) (B hi : Nat) (bv gv : Value) (S : List X7) (G : List Int) : Prop :=
 ∃ Y, Y.map yd = S ∧ OwS W B bv Y ∧ OwI W B gv G ∧ Dj gv bv ∧ (∀ y ∈ Y, ∀ j, gv.ownBlock = some j → j < y.lo ∨ y.hi ≤ j) ∧ (∀ j, bv.ownBlock = some j → j < hi) ∧ (∀ j, gv.ownBlock = some j → j < hi) ∧ ∀ y ∈ Y, y.hi ≤ hi
section
variable {W W' : World} {B B' hi : Nat} {bv gv : Value} {S : List X7} {G : List Int} {P : Nat → Prop}
theorem OwT.u (h : OwT W B bv gv S G) : OwU W B W.heap.size bv gv S G := by
 obtain ⟨Y, h1, h2, h3, h4, h5⟩ := h.own
 exact ⟨Y, h1, h2, h3, h4, h5, fun j hj => (h2.row.lt j hj).2, fun j hj => (h3.lt j hj).2, fun y hy => (h2.each y hy).1.top⟩
theorem OwU.t (h : OwU W B hi bv gv S G) : OwT W B bv gv S G := by
 obtain ⟨Y, h1, h2, h3, h4, h5, _⟩ := h
 exact ⟨Y, h1, h2, h3, h4, h5⟩
theorem OwU.later (h : OwU W B hi bv gv S G) (hb : Below W.heap.size W W') : OwU W' B hi bv gv S G := by
 obtain ⟨Y, h1, h2, h3, h4⟩ := h
 exact ⟨Y, h1, h2.later hb, own_later h3 hb, h4⟩
theorem OwU.base (h : OwU W B' hi bv gv S G) (hB : B ≤ B') : OwU W B hi bv gv S G := by
 obtain ⟨Y, h1, h2, h3, h4⟩ := h
 exact ⟨Y, h1, h2.base hB, own_base h3 hB, h4⟩
theorem OwU.chg (h : OwU W B hi bv gv S G) (hc : Chg P W W') (hp : ∀ j, B ≤ j → j < hi → ¬ P j) : OwU W' B hi bv gv S G := by
 obtain ⟨Y, h1, h2, h3, h4, h5, h6, h7, h8⟩ := h
 refine ⟨Y, h1, h2.kept hc.size (fun j hj => hc.block j (h2.row.lt j hj).2 (hp j (h2.row.lt j hj).1 (h6 j hj))) (fun y hy j j1 j2 => hc.block j (Nat.lt_of_lt_of_le j2 (h2.each y hy).1.top) (hp j (Nat.le_trans (h2.each y hy).2 j1) (Nat.lt_of_lt_of_le j2 (h8 y hy)))), row_chg h3 hc (fun j hj => hp j (h3.lt j hj).1 (h7 j hj)), h4, h5, h6, h7, h8⟩
end
theorem Sx.chg {P : Nat → Prop} {W W' : World} {k ty : Nat} {y tm : Int} {bv gv : Value} (h : Sx W k ty y tm bv gv) (hc : Chg P W W') (hk : ¬ P k) : Sx W' k ty y tm bv gv := (hc.block k h.lt hk).trans h
set_option maxHeartbeats 800000 in
set_option maxRecDepth 100000 in
theorem markStore_any (B hi : Nat) (y tm : Int) (ma : Option Addr) (mn mc : Nat) (ga : Option Addr) (gn gc : Nat) (S : List X7) (G : List Int) (w : World) (hown : OwU w B hi (.slice ma mn mc) (.slice ga gn gc) S G) (hl : S.length = mn) (hn : mn ≤ 1048576) (hsm : SmX S) (hgl : G.length = gn) (hgn : gn ≤ 1048576) (hfz : kx 1 S ≤ 6291456) :
  Calls Tryz.prog 24 #[.agg #[.int .i64 y, .int .i64 tm, .slice ma mn mc, .slice ga gn gc], .int .i64 1] w fun e w' => e = .returned (.int .i64 ((kx 1 S + gn : Nat) : Int)) ∧ OwU w' B hi (.slice ma mn mc) (.slice ga gn gc) (mxl 1 S) (mki (kx 1 S) gn) ∧ Chg (fun j => B ≤ j ∧ j < hi) w w' := by
 obtain ⟨Y, rfl, hz, hii, hd, hdz, hv1, hv2, hv3⟩ := hown
 have hlt : ∀ j, (Value.ownBlock (.slice ma mn mc) = some j ∨ ∃ z ∈ Y, z.lo ≤ j ∧ j < z.hi) → j < w.heap.size := by
  rintro j (h | ⟨z, hzz, _, h⟩)
  ·exact (hz.row.lt j h).2
  ·exact Nat.lt_of_lt_of_le h (hz.each z hzz).1.top
 have hbl : ∀ j, (Value.ownBlock (.slice ma mn mc) = some j ∨ ∃ z ∈ Y, z.lo ≤ j ∧ j < z.hi) → B ≤ j ∧ j < hi := by
  rintro j (h | ⟨z, hzz, h1, h2⟩)
  ·exact ⟨(hz.row.lt j h).1, hv1 j h⟩
  ·exact ⟨Nat.le_trans (hz.each z hzz).2 h1, Nat.lt_of_lt_of_le h2 (hv3 z hzz)⟩
 have HLT := hid hlt
 have HBL := hid hbl
 have HV1 := hid hv1
 have HV2 := hid hv2
 have HV3 := hid hv3
 obtain ⟨W0, hW0⟩ : ∃ W0, w.alloc (.cells #[.int .i64 y, .int .i64 tm, .slice ma mn mc, .slice ga gn gc] 27) = W0 := ⟨_, rfl⟩
 have a0 : Sx W0 w.heap.size 27 y tm (.slice ma mn mc) (.slice ga gn gc) := by subst hW0; exact Sx.new w _ y tm _ _
 have b0 : Below w.heap.size w W0 := by subst hW0; exact bpush (bre _) _
 have c0 := a0.cells
 have HC := markBS_any (fun j => Value.ownBlock (.slice ma mn mc) = some j ∨ ∃ z ∈ Y, z.lo ≤ j ∧ j < z.hi) B ma mn mc 1 Y W0 (hz.later b0) (by rw [← hl, List.length_map]) hn (by omega) hfz hsm (fun j hj => .inl hj) (fun z hz j h1 h2 => .inr ⟨z, hz, h1, h2⟩)
 have HCC := hid HC
 have HZ := hid hz
 have HI := hid hii
 have HD := hid hd
 have HDZ := hid hdz
 have A0 := hid a0
 have B0 := hid b0
 have HGL := hid hgl
 obtain ⟨q, hq⟩ : ∃ q, kx 1 (Y.map yd) = q := ⟨_, rfl⟩
 have hqb : q ≤ 6291456 := by rw [← hq]; exact hfz
 have HQ := hid hq
 rw [hq]
 clear hbl HC hz hii hd hdz a0 b0 hgl hsm hfz hl hlt hv1 hv2 hv3
 go_enter Tryz.func24, Tryz.ntmps24
 go_wp2_with fail
 clear hW0
 refine HCC.out.mono ?_; rintro e w1 ⟨rfl, ho1, hc1⟩
 rw [hq]
 clear hq
 have ho2 : OwI w1 B (.slice ga gn gc) G := row_chg (own_later HI.out B0.out) hc1 (fun j hj => by
   rintro (h | ⟨z, hzz, h1, h2⟩)
   · exact HD.out j hj h
   · have := HDZ.out z hzz j hj; omega)
 have x1 : Sx w1 w.heap.size 27 y tm (.slice ma mn mc) (.slice ga gn gc) := (hc1.block _ A0.out.lt (fun e => by have h1 := HLT.out _ e; omega)).trans A0.out
 have k1 := x1.cells
 have HC1 := hid hc1
 have HO1 := hid ho1
 have HO2 := hid ho2
 clear hc1 ho1 ho2 c0 x1
 go_wp2_with fail
 refine (markIS_any B ga gn gc q G w1 HO2.out HGL.out hgn (by omega)).mono ?_; rintro e w2 ⟨rfl, ho3, hg3⟩
 have HO3 := hid ho3
 have HG3 := hid hg3
 clear ho3 hg3
 have HF : Hid (OwS w2 B (.slice ma mn mc) (mys 1 Y)) := by
  show OwS _ _ _ _
  refine HO1.out.kept HG3.out.size (fun j hj => HG3.out.block j (HO1.out.row.lt j hj).2 (fun e => HD.out j e.symm hj)) (fun z hz j j1 j2 => HG3.out.block j (Nat.lt_of_lt_of_le j2 (HO1.out.each z hz).1.top) (fun e => ?_))
  obtain ⟨x, hx, e1, e2⟩ := mys_mem 1 Y z hz
  have := HDZ.out x hx j e.symm
  omega
 have HCH : Hid (Chg (fun j => B ≤ j ∧ j < hi) w w2) := by
  show Chg _ _ _
  refine Chg.trans (Chg.trans (Chg.of_below B0.out) (HC1.out.mono HBL.out)) (Chg.of_grown HG3.out (fun j hj => ⟨(HI.out.lt j hj).1, HV2.out j hj⟩))
 go_wp2
 go_ret
 refine ⟨by go_num, ⟨mys 1 Y, mys_yd 1 Y, HF.out, HO3.out, HD.out, fun z hz j hj => ?_, HV1.out, HV2.out, fun z hz => ?_⟩, HCH.out⟩
 ·obtain ⟨x, hx, e1, e2⟩ := mys_mem 1 Y z hz
  rw [e1, e2]; exact HDZ.out x hx j hj
 ·obtain ⟨x, hx, e1, e2⟩ := mys_mem 1 Y z hz
  rw [e2]; exact HV3.out x hx
theorem mys_fix (k : Nat) (S : List X7) : ∀ Y : List Y9, Y.map yd = mxl k S → mys k Y = Y := by
 induction S generalizing k with
 | nil =>
  intro Y h
  cases Y with
  | nil => rfl
  | cons y Y => simp [mxl] at h
 | cons x S ih =>
  intro Y h
  cases Y with
  | nil => simp [mxl] at h
  | cons y Y =>
   simp only [List.map_cons, mxl, List.cons.injEq] at h
   obtain ⟨h1, h2⟩ := h
   have e : kx1 k (yd y) = kx1 k x := by rw [h1]; simp [kx1, mx1, mzl_fz, mki_len]
   simp only [mys]
   rw [e, ih _ Y h2]
   obtain ⟨g, nm, t, b, nx, mv, gv, L, G, lo, hi⟩ := y
   simp only [yd, mx1, Prod.mk.injEq] at h1
   obtain ⟨rfl, rfl, rfl, rfl, rfl, rfl, rfl⟩ := h1
   have e2 : ∀ (k : Nat) (L : List M4), mzl k (mzl k L) = mzl k L := by
    intro k L
    induction L generalizing k with
    | nil => rfl
    | cons m L ih =>
     have e3 : km1 k (mm1 k m) = km1 k m := by simp [km1, mm1, mks_len]
     simp only [mzl]
     rw [e3, ih]
     simp [mm1, mks_len]
   simp [my1, e2, mzl_fz, mki_len]
theorem kx_fix (k : Nat) (S : List X7) : kx k (mxl k S) = kx k S := by
 induction S generalizing k with
 | nil => rfl
 | cons x S ih =>
  have e : kx1 k (mx1 k x) = kx1 k x := by simp [kx1, mx1, mzl_fz, mki_len]
  simp only [mxl, kx]
  rw [e, ih]
theorem mxl_smx (k : Nat) (S : List X7) (h : SmX S) (hk : kx k S ≤ 6291456) : SmX (mxl k S) := by
 induction S generalizing k with
 | nil => intro x hx; simp [mxl] at hx
 | cons x S ih =>
  have h1 := kx_le (kx1 k x) S
  have e1 : kx1 k x = k + 5 + 3 * fz x.2.2.2.2.2.1 + x.2.2.2.2.2.2.length := rfl
  have hk' : kx (kx1 k x) S ≤ 6291456 := hk
  intro z hz
  simp only [mxl, List.mem_cons] at hz
  rcases hz with rfl | hz
  ·have hs := h x (by simp)
   exact ⟨mzl_sm _ _ hs.1 (by omega), by simp only [mx1, mzl_len]; exact hs.2.1, by simp only [mx1, mki_len]; exact hs.2.2⟩
  ·exact ih (kx1 k x) (fun x hx => h x (by simp [hx])) hk' z hz
set_option maxHeartbeats 800000 in
set_option maxRecDepth 100000 in
theorem heldStore_any (B hi : Nat) (y tm : Int) (ma : Option Addr) (mn mc : Nat) (ga : Option Addr) (gn gc : Nat) (S : List X7) (w : World) (hown : OwU w B hi (.slice ma mn mc) (.slice ga gn gc) (mxl 1 S) (mki (kx 1 S) gn)) (hl : S.length = mn) (hn : mn ≤ 1048576) (hsm : SmX S) (hgn : gn ≤ 1048576) (hfz : kx 1 S ≤ 6291456) :
  Calls Tryz.prog 25 #[.agg #[.int .i64 y, .int .i64 tm, .slice ma mn mc, .slice ga gn gc], .int .i64 1] w fun e w' => e = .returned (.int .i64 ((kx 1 S + gn : Nat) : Int)) ∧ Below w.heap.size w w' := by
 obtain ⟨Y, hy, hz, hii, -⟩ := hown
 have hfix := mys_fix 1 S Y hy
 have hkx : kx 1 (Y.map yd) = kx 1 S := by rw [hy, kx_fix]
 have hyl : Y.length = mn := by have h := congrArg List.length hy; rw [List.length_map, mxl_len] at h; omega
 obtain ⟨W0, hW0⟩ : ∃ W0, w.alloc (.cells #[.int .i64 y, .int .i64 tm, .slice ma mn mc, .slice ga gn gc] 27) = W0 := ⟨_, rfl⟩
 have a0 : Sx W0 w.heap.size 27 y tm (.slice ma mn mc) (.slice ga gn gc) := by subst hW0; exact Sx.new w _ y tm _ _
 have b0 : Below w.heap.size w W0 := by subst hW0; exact bpush (bre _) _
 have c0 := a0.cells
 have HC := heldBS_any B ma mn mc 1 Y W0 (by rw [hfix]; exact hz.later b0) hyl hn (by omega) (by rw [hkx]; exact hfz) (by rw [hy]; exact mxl_smx 1 S hsm hfz)
 rw [hkx] at HC
 have HCC := hid HC
 have HI := hid hii
 have A0 := hid a0
 have B0 := hid b0
 obtain ⟨q, hq⟩ : ∃ q, kx 1 S = q := ⟨_, rfl⟩
 have hqb : q ≤ 6291456 := by rw [← hq]; exact hfz
 have HQ := hid hq
 have h1 : ¬ (q : Int) < 0 := by omega
 rw [hq]
 clear HC hz hii a0 b0 hsm hfz hl hy hfix hkx hyl
 go_enter Tryz.func25, Tryz.ntmps25
 go_wp2_with fail
 clear hW0
 refine HCC.out.mono ?_; rintro e w1 ⟨rfl, hb1⟩
 rw [hq]
 clear hq
 have c0 := (A0.out.later hb1).cells
 have B1 := hid (btr B0.out hb1)
 clear hb1
 go_wp2_with fail
 refine (heldIS_any B ga gn gc q w1 (by rw [← HQ.out]; exact own_later HI.out B1.out) hgn (by omega)).mono ?_; rintro e w2 ⟨rfl, hw2⟩
 subst hw2
 have h2 : ¬ ((q + gn : Nat) : Int) < 0 := by omega
 have h3 : ¬ (q : Int) + (gn : Int) < 0 := by omega
 go_wp2
 go_ret
 exact ⟨by go_num, B1.out⟩
theorem sb_smx {S : List X7} (h : Sb S) : SmX S := fun x hx => ⟨(h x hx).2.2.1, (h x hx).2.1, (h x hx).2.2.2⟩
theorem fz_few (L : List M4) (h : ∀ m ∈ L, m.2.2.1.length = 3) : fz L = 4 * L.length := by
 induction L with
 | nil => rfl
 | cons m L ih =>
  simp only [fz, List.length_cons, ih (fun x hx => h x (by simp [hx])), h m (by simp)]
  omega
theorem bxx_small {x : X7} (h : bxx x = true) : Sx1 x ∧ kx1 0 x ≤ 200 := by
 obtain ⟨g, nm, t, b, nx, L, G⟩ := x
 simp only [bxx] at h
 obtain ⟨h1, h2, h3, h4, h5, h6⟩ := bx_parts h
 have hm : ∀ m ∈ L, m.2.2.1.length = 3 ∧ m.2.2.2.size ≤ 60 := by
  intro m hm
  obtain ⟨i, hi, rfl⟩ := List.getElem_of_mem hm
  have h7 := List.all_eq_true.1 h3 i (List.mem_range.2 hi)
  obtain ⟨⟨a, c, d, e⟩, hLi⟩ : ∃ m, L[i] = m := ⟨_, rfl⟩
  rw [stp_at hi hLi] at h7
  rw [hLi]
  simp only [Bool.and_eq_true, mlOk, flOk, decide_eq_true_eq] at h7
  exact ⟨h7.1.2.2.1.1, by have := h7.1.2.2.2; show e.size ≤ 60; omega⟩
 have hn : nm.size ≤ 12 := by
  simp only [bxOk, nmOk, Bool.and_eq_true, decide_eq_true_eq] at h
  have := h.2.1.2.2
  omega
 refine ⟨⟨by show nm.size ≤ _; omega, by show L.length ≤ _; omega, fun m hm' => ⟨by have := (hm m hm').1; omega, by have := (hm m hm').2; omega⟩, by show G.length ≤ _; omega⟩, ?_⟩
 show 0 + 5 + 3 * fz L + G.length ≤ 200
 rw [fz_few L (fun m hm' => (hm m hm').1)]
 omega
theorem sOk_small {y tm : Int} {S : List X7} {G : List Int} (h : sOk y tm S G = true) : S.length ≤ 5 ∧ Sb S ∧ kx 1 S ≤ 6291456 ∧ G.length ≤ 20 := by
 obtain ⟨h1, h2, h3, _⟩ := sOk_all h
 have hx : ∀ x ∈ S, bxx x = true := by
  intro x hx
  obtain ⟨i, hi, rfl⟩ := List.getElem_of_mem hx
  exact (stp7_all h3 hi).1
 have hk : ∀ (k : Nat) (T : List X7), (∀ x ∈ T, bxx x = true) → kx k T ≤ k + 200 * T.length := by
  intro k T
  induction T generalizing k with
  | nil => intro _; simp [kx]
  | cons x T ih =>
   intro hT
   have a := ih (kx1 k x) (fun z hz => hT z (by simp [hz]))
   have b := (bxx_small (hT x (by simp))).2
   have e : kx1 k x = k + 5 + 3 * fz x.2.2.2.2.2.1 + x.2.2.2.2.2.2.length := rfl
   have e2 : kx1 0 x = 0 + 5 + 3 * fz x.2.2.2.2.2.1 + x.2.2.2.2.2.2.length := rfl
   show kx (kx1 k x) T ≤ _
   simp only [List.length_cons]
   omega
 exact ⟨h1, fun x hx' => (bxx_small (hx x hx')).1, by have := hk 1 S hx; omega, (sOk_gone h).2⟩
structure AnsS (wn W : World) (k : Nat) (y tm : Int) (bv gv : Value) (S : List X7) (G : List Int) : Prop where
 box : Sx W k 27 y tm bv gv
 le : wn.heap.size ≤ k
 own : ∃ B hi, OwU W B hi bv gv S G ∧ wn.heap.size ≤ B ∧ hi ≤ W.heap.size ∧ (k < B ∨ hi ≤ k)
 bel : Below wn.heap.size wn W
theorem anss_last {wn v : World} {B : Nat} {y tm : Int} {bv gv : Value} {S : List X7} {G : List Int} (ho : OwT v B bv gv S G) (hB : wn.heap.size ≤ B) (hb : Below wn.heap.size wn v) :
  AnsS wn (v.alloc (.cells #[.int .i64 y, .int .i64 tm, bv, gv] 27)) v.heap.size y tm bv gv S G :=
 ⟨Sx.new v _ _ _ _ _, hb.size, ⟨B, v.heap.size, ho.u.later (bpush (bre _) _), hB, by simp, .inr (Nat.le_refl _)⟩, bpush hb _⟩
theorem OwT.len {W : World} {B : Nat} {bv gv : Value} {S : List X7} {G : List Int} (h : OwT W B bv gv S G) : ∃ a c a' c', bv = .slice a S.length c ∧ gv = .slice a' G.length c' := h.shape
def mts : List M4 → ByteArray
 | [] => ⟨#[]⟩
 | m :: L => mtx m.1 m.2.1 m.2.2.1 m.2.2.2 ++ mts L
theorem mts_snoc (L : List M4) (m : M4) : mts (L ++ [m]) = mts L ++ mtx m.1 m.2.1 m.2.2.1 m.2.2.2 := by
 induction L with
 | nil => simp only [List.nil_append, mts, ba_nil, nil_ba]
 | cons a L ih => simp only [List.cons_append, mts, ih, ByteArray.append_assoc]
def bth (g : Int) (nm : ByteArray) (t b nx : Int) (n : Nat) : ByteArray := vi g ++ vi nm.size ++ nm ++ vi t ++ vi b ++ vi nx ++ vi n
def btx (g : Int) (nm : ByteArray) (t b nx : Int) (L : List M4) (G : List Int) : ByteArray := bth g nm t b nx L.length ++ mts L ++ vi G.length ++ vis G
theorem asc_gk {G : List Int} {a : Int} (h : asc a G = true) : ∀ y ∈ G, 1 ≤ y ∧ y ≤ 9999 := by
 induction G generalizing a with
 | nil => intro y hy; cases hy
 | cons x G ih =>
  simp only [asc, Bool.and_eq_true, decide_eq_true_eq, gok] at h
  intro y hy
  rcases List.mem_cons.1 hy with rfl | hy
  ·exact h.1.2
  ·exact ih h.2 y hy
theorem bx_txt {g : Int} {nm : ByteArray} {t b nx : Int} {L : List M4} {G : List Int} (h : bxOk g nm t b nx L G = true) :
  (1 ≤ g ∧ g ≤ 9999) ∧ nm.size ≤ 12 ∧ (0 ≤ t ∧ t ≤ 100000 ∧ 0 ≤ b ∧ b ≤ 2) ∧ (1 ≤ nx ∧ nx ≤ 10000) ∧ L.length ≤ 10 ∧ (∀ m ∈ L, mlOk m.1 m.2.1 m.2.2.1 m.2.2.2 = true) ∧ G.length ≤ 40 ∧ ∀ y ∈ G, 1 ≤ y ∧ y ≤ 9999 := by
 simp only [bxOk, bxm, gok, nmOk, stOk, gnOk, Bool.and_eq_true, decide_eq_true_eq] at h
 obtain ⟨h1, h2, h3, h4, h5, h6, h7, -⟩ := h
 refine ⟨h1, by omega, h3, h4, by omega, fun m hm => ?_, by omega, asc_gk h6.1⟩
 obtain ⟨i, hi, rfl⟩ := List.getElem_of_mem hm
 have h9 := List.all_eq_true.1 h7 i (List.mem_range.2 hi)
 unfold stp at h9
 rw [List.getElem?_eq_getElem hi] at h9
 simp only [Bool.and_eq_true] at h9
 exact h9.1
theorem mtx_size {g u : Int} {l : List R3} {t : ByteArray} (h : mlOk g u l t = true) : (mtx g u l t).size ≤ 20000000000 := by
 simp only [mlOk, gok, flOk, Bool.and_eq_true, decide_eq_true_eq] at h
 obtain ⟨h1, h2, ⟨h3, h4⟩, h5⟩ := h
 have hr : ∀ p ∈ l, (rt p).size ≤ 3000000003 := by
  intro p hp
  have h6 := List.all_eq_true.1 h4 p hp
  simp only [okp, rgOk, stOk, Bool.and_eq_true, decide_eq_true_eq] at h6
  have a1 := vi_size p.1 (by omega)
  have a2 := vi_size p.2.1 (by omega)
  have a3 := vi_size p.2.2 (by omega)
  unfold rt
  rw [ByteArray.size_append, ByteArray.size_append]
  omega
 have hs : ∀ k : List R3, (∀ p ∈ k, (rt p).size ≤ 3000000003) → (rts k).size ≤ k.length * 3000000003 := by
  intro k
  induction k with
  | nil => intro _; exact Nat.zero_le _
  | cons p k ih =>
   intro hk
   have h7 := hk p (List.mem_cons_self ..)
   have h8 := ih (fun q hq => hk q (List.mem_cons_of_mem _ hq))
   simp only [rts, ByteArray.size_append, List.length_cons]
   omega
 have h9 := hs l hr
 have a1 := vi_size g (by omega)
 have a2 := vi_size u (by omega)
 have a3 := vi_size t.size (by omega)
 unfold mtx
 simp only [ByteArray.size_append]
 have : l.length = 3 := by simpa using h3
 rw [this] at h9
 omega
def btR (g : Int) (nm : ByteArray) (t b nx : Int) (L : List M4) (G : List Int) : Value := if bxOk g nm t b nx L G = true then .tuple #[.string (btx g nm t b nx L G), .bool true] else .tuple #[.string ⟨#[]⟩, .bool false]
set_option maxHeartbeats 8000000 in
set_option maxRecDepth 100000 in
theorem specBoxText_any (l1 h1 l2 h2 : Nat) (g : Int) (nm : ByteArray) (t b nx : Int) (ma : Option Addr) (mn mc : Nat) (ga : Option Addr) (gn gc : Nat) (L : List M4) (G : List Int) (w : World) (hnm : nm.size ≤ 1048576) (hl : L.length = mn) (hn : mn ≤ 1048576) (hsm : Sm L) (hm : Ms l1 h1 w ma L) (hgl : G.length = gn) (hgn : gn ≤ 1048576) (hs : Is l2 h2 w ga G) :
  Calls Tryz.prog 52 #[.agg #[.int .i64 g, .string nm, .int .i64 t, .int .i64 b, .int .i64 nx, .slice ma mn mc, .slice ga gn gc]] w fun e w' => e = .returned (btR g nm t b nx L G) ∧ Below w.heap.size w w' := by
 obtain ⟨W0, hW0⟩ : ∃ W0, w.alloc (.cells #[.int .i64 g, .string nm, .int .i64 t, .int .i64 b, .int .i64 nx, .slice ma mn mc, .slice ga gn gc] 38) = W0 := ⟨_, rfl⟩
 have a0 : Bx W0 w.heap.size 38 g nm t b nx (.slice ma mn mc) (.slice ga gn gc) := by subst hW0; exact Bx.new w _ g nm t b nx _ _
 have b0 : Below w.heap.size w W0 := by subst hW0; exact bpush (bre _) _
 have c0 := a0.cells
 have XB := hid a0
 have HB := hid b0
 have HM := hid hm
 have HS := hid hs
 have HX := hid hsm
 have HL := hid hl
 have HG := hid hgl
 have HOK := hid (specBoxOk_any l1 h1 l2 h2 g nm t b nx ma mn mc ga gn gc L G W0 hnm hl hn hsm (hm.later b0) hgl hgn (hs.later b0))
 clear a0 b0 hm hs hsm hl hgl
 cases hok : bxOk g nm t b nx L G
 ·have hE : btR g nm t b nx L G = .tuple #[.string ⟨#[]⟩, .bool false] := by unfold btR; rw [hok]; rfl
  rw [hE]
  rw [hok] at HOK
  clear hE hok
  go_enter Tryz.func52, Tryz.ntmps52
  go_wp2_with fail
  try rw [hW0]
  clear hW0
  refine HOK.out.mono ?_; rintro e w1 ⟨rfl, hb1⟩
  have B1 := hid (btr HB.out hb1)
  clear hb1 c0
  go_wp2
  go_ret2
  exact ⟨rfl, B1.out⟩
 ·have hE : btR g nm t b nx L G = .tuple #[.string (btx g nm t b nx L G), .bool true] := by unfold btR; rw [hok]; rfl
  rw [hE]
  rw [hok] at HOK
  obtain ⟨p1, p2, p3, p4, p5, p6, p7, p8⟩ := bx_txt hok
  obtain ⟨x1, e1, z1, C1⟩ := var_s g (by omega) (by omega)
  obtain ⟨x2, e2, z2, C2⟩ := var_s nm.size (by omega) (by omega)
  obtain ⟨x3, e3, z3, C3⟩ := var_s t (by omega) (by omega)
  obtain ⟨x4, e4, z4, C4⟩ := var_s b (by omega) (by omega)
  obtain ⟨x5, e5, z5, C5⟩ := var_s nx (by omega) (by omega)
  obtain ⟨x6, e6, z6, C6⟩ := var_s mn (by omega) (by have := HL.out; omega)
  obtain ⟨x7, e7, z7, C7⟩ := var_s gn (by omega) (by have := HG.out; omega)
  have P6 := hid p6
  have P8 := hid p8
  have hmn : mn ≤ 10 := by rw [← HL.out]; exact p5
  have hgn4 : gn ≤ 40 := by rw [← HG.out]; exact p7
  clear hE hok hn hgn p1 p3 p4 p5 p6 p7 p8
  go_enter Tryz.func52, Tryz.ntmps52
  go_wp2_with fail
  try rw [hW0]
  clear hW0
  refine HOK.out.mono ?_; rintro e w1 ⟨rfl, hb1⟩
  replace XB := hid (XB.out.later hb1)
  replace HB := hid (btr HB.out hb1)
  clear hb1 c0
  go_wp2_with fail
  have HSS : Hid (∀ W, Bx W w.heap.size 38 g nm t b nx (.slice ma mn mc) (.slice ga gn gc) → (W.cell? ⟨w.heap.size, 0, none⟩ = some (.int .i64 g) ∧ W.cell? ⟨w.heap.size, 1, none⟩ = some (.string nm) ∧ W.cell? ⟨w.heap.size, 2, none⟩ = some (.int .i64 t) ∧ W.cell? ⟨w.heap.size, 3, none⟩ = some (.int .i64 b) ∧ W.cell? ⟨w.heap.size, 4, none⟩ = some (.int .i64 nx) ∧ W.cell? ⟨w.heap.size, 5, none⟩ = some (.slice ma mn mc) ∧ W.cell? ⟨w.heap.size, 6, none⟩ = some (.slice ga gn gc))) := hid (fun W h => h.cells)
  have q1 : (9223372036854775807 < x1.size + x2.size) = False := eq_false (by omega)
  have q2 : (9223372036854775807 < x1.size + x2.size + nm.size) = False := eq_false (by omega)
  have q3 : (9223372036854775807 < x1.size + x2.size + nm.size + x3.size) = False := eq_false (by omega)
  have q4 : (9223372036854775807 < x1.size + x2.size + nm.size + x3.size + x4.size) = False := eq_false (by omega)
  have q5 : (9223372036854775807 < x1.size + x2.size + nm.size + x3.size + x4.size + x5.size) = False := eq_false (by omega)
  have q6 : (9223372036854775807 < x1.size + x2.size + nm.size + x3.size + x4.size + x5.size + x6.size) = False := eq_false (by omega)
  refine wp_region_noPanic ?_
  refine wp_region_held_drew (S := (fun W => (W.cell? ⟨w.heap.size, 0, none⟩ = some (.int .i64 g) ∧ W.cell? ⟨w.heap.size, 1, none⟩ = some (.string nm) ∧ W.cell? ⟨w.heap.size, 2, none⟩ = some (.int .i64 t) ∧ W.cell? ⟨w.heap.size, 3, none⟩ = some (.int .i64 b) ∧ W.cell? ⟨w.heap.size, 4, none⟩ = some (.int .i64 nx) ∧ W.cell? ⟨w.heap.size, 5, none⟩ = some (.slice ma mn mc) ∧ W.cell? ⟨w.heap.size, 6, none⟩ = some (.slice ga gn gc)))) (by kernel_rfl) (HSS.out _ (XB.out.later (bdr (bre _)))) (fun hHeld => ?_)
  refine tk 0 ?_
  refine tk 1 ?_
  refine tk 3 ?_
  refine tk 4 ?_
  refine tk 5 ?_
  refine tk 8 ?_
  refine tk 9 ?_
  refine tk 11 ?_
  refine tk 12 ?_
  refine tk 13 ?_
  refine tk 16 ?_
  refine tk 17 ?_
  refine tk 18 ?_
  refine tk 21 ?_
  refine tk 22 ?_
  refine tk 25 ?_
  refine tk 26 ?_
  refine tk 27 ?_
  clear hHeld
  refine ry 2 (fun K hK => ?_)
  go_simp
  refine (C1.out _).mono ?_; rintro e w2 ⟨rfl, hbx⟩
  replace hbx := btr (bdr (bre _)) hbx
  replace XB := hid (XB.out.later hbx)
  replace HB := hid (btr HB.out hbx)
  clear hbx
  go_wp2_with fail
  refine hK.out _ _ (HSS.out _ XB.out) (fun hHeld => ?_)
  clear hK K
  try simp only [Act.put, tp2, tp3, tp4]
  clear hHeld
  refine ry 6 (fun K hK => ?_)
  go_simp
  refine (C2.out _).mono ?_; rintro e w3 ⟨rfl, hbx⟩
  replace XB := hid (XB.out.later hbx)
  replace HB := hid (btr HB.out hbx)
  clear hbx
  go_wp2_with fail
  refine hK.out _ _ (HSS.out _ XB.out) (fun hHeld => ?_)
  clear hK K
  try simp only [Act.put, tp2, tp3, tp4]
  refine tk 7 ?_
  refine tk 10 ?_
  clear hHeld
  refine ry 14 (fun K hK => ?_)
  go_simp
  refine (C3.out _).mono ?_; rintro e w4 ⟨rfl, hbx⟩
  replace XB := hid (XB.out.later hbx)
  replace HB := hid (btr HB.out hbx)
  clear hbx
  go_wp2_with fail
  refine hK.out _ _ (HSS.out _ XB.out) (fun hHeld => ?_)
  clear hK K
  try simp only [Act.put, tp2, tp3, tp4]
  refine tk 15 ?_
  clear hHeld
  refine ry 19 (fun K hK => ?_)
  go_simp
  refine (C4.out _).mono ?_; rintro e w5 ⟨rfl, hbx⟩
  replace XB := hid (XB.out.later hbx)
  replace HB := hid (btr HB.out hbx)
  clear hbx
  go_wp2_with fail
  refine hK.out _ _ (HSS.out _ XB.out) (fun hHeld => ?_)
  clear hK K
  try simp only [Act.put, tp2, tp3, tp4]
  refine tk 20 ?_
  clear hHeld
  refine ry 23 (fun K hK => ?_)
  go_simp
  refine (C5.out _).mono ?_; rintro e w6 ⟨rfl, hbx⟩
  replace XB := hid (XB.out.later hbx)
  replace HB := hid (btr HB.out hbx)
  clear hbx
  go_wp2_with fail
  refine hK.out _ _ (HSS.out _ XB.out) (fun hHeld => ?_)
  clear hK K
  try simp only [Act.put, tp2, tp3, tp4]
  refine tk 24 ?_
  clear hHeld
  refine ry 28 (fun K hK => ?_)
  go_simp
  refine (C6.out _).mono ?_; rintro e w7 ⟨rfl, hbx⟩
  replace XB := hid (XB.out.later hbx)
  replace HB := hid (btr HB.out hbx)
  clear hbx
  go_wp2_with fail
  refine hK.out _ _ (HSS.out _ XB.out) (fun hHeld => ?_)
  clear hK K
  try simp only [Act.put, tp2, tp3, tp4]
  refine tk 29 ?_
  refine tk 30 ?_
  refine wpAnyH_done (by kernel_rfl) ?_ _
  refine NoPanic.normal ?_
  clear hHeld q1 q2 q3 q4 q5 q6
  obtain ⟨th, hth⟩ : ∃ s, x1 ++ x2 ++ nm ++ x3 ++ x4 ++ x5 ++ x6 = s := ⟨_, rfl⟩
  have HTH : Hid (th = bth g nm t b nx L.length) := hid (by rw [← hth, e1.out, e2.out, e3.out, e4.out, e5.out, e6.out, HL.out]; rfl)
  have hthz : th.size ≤ 7000000100 := by rw [← hth]; simp only [ByteArray.size_append]; omega
  rw [hth]
  clear hth z1 z2 z3 z4 z5 z6 C1 C2 C3 C4 C5 C6 HOK
  go_wp2
  go_loopw [4, 5] (fun sv iv wr => ∃ (i : Nat) (s : ByteArray), i ≤ mn ∧ iv = .int .i64 (i : Int) ∧ sv = .string s ∧ Hid (s = th ++ mts (L.take i)) ∧ Hid (s.size ≤ 7000000100 + i * 20000000000) ∧ Bx wr w.heap.size 38 g nm t b nx (.slice ma mn mc) (.slice ga gn gc) ∧ Below w.heap.size w wr) (fun _ iv _ => mn - (intOf iv).toNat)
  case atStart => exact ⟨0, th, Nat.zero_le _, rfl, rfl, by show th = th ++ mts []; rw [show mts [] = ⟨#[]⟩ from rfl, nil_ba], by show _ ≤ _; omega, XB.out, HB.out⟩
  case round =>
   obtain ⟨i, s, hi, rfl, rfl, HT, HZ, hx, hb⟩ := hrel
   replace XB := hid hx
   replace HB := hid hb
   have c0 := XB.out.cells
   clear hx hb
   by_cases hlt : i < mn
   ·have hil : i < L.length := by rw [HL.out]; exact hlt
    obtain ⟨k, o, fa, fc, hka, hkk, d, hrs, _⟩ := (HM.out.later HB.out).at hil
    have hok := P6.out L[i] (List.getElem_mem hil)
    have hsz := mtx_size hok
    have htk : mts (L.take (i + 1)) = mts (L.take i) ++ mtx L[i].1 L[i].2.1 L[i].2.2.1 L[i].2.2.2 := by rw [List.take_succ_eq_append_getElem hil, mts_snoc]
    have hfl := (HX.out L[i] (List.getElem_mem hil)).1
    obtain ⟨q, hq⟩ : ∃ q, L[i] = q := ⟨_, rfl⟩
    obtain ⟨g2, u, fl, tx⟩ := q
    rw [hq] at d hrs hok hsz htk hfl
    dsimp only at d hrs hok hsz htk hfl
    have CT := specMailText_any g2 u fa fl.length fc fl tx wr rfl hfl hrs
    have hE2 : mtR g2 u fl tx = .tuple #[.string (mtx g2 u fl tx), .bool true] := by unfold mtR; rw [hok]; rfl
    rw [hE2] at CT
    obtain ⟨xm, hxm⟩ : ∃ x, mtx g2 u fl tx = x := ⟨_, rfl⟩
    obtain ⟨lf, hlf⟩ : ∃ n, fl.length = n := ⟨_, rfl⟩
    rw [hxm] at CT hsz htk
    rw [hlf] at CT d
    have HCT := hid CT
    have HTK := hid htk
    subst hka
    have hI : (0 : Int) ≤ (i : Int) ∧ (i : Int) < (mn : Int) := by omega
    have hz := HZ.out
    have q1 : (9223372036854775807 < s.size + xm.size) = False := eq_false (by omega)
    clear hq hok hfl hE2 hxm hlf CT htk hrs
    go_wp2_with fail
    refine HCT.out.mono ?_; rintro e w9 ⟨rfl, hb9⟩
    replace XB := hid (XB.out.later hb9)
    replace HB := hid (btr HB.out hb9)
    clear hb9 d c0 HCT
    go_wp2
    clear q1
    go_roundw
    case rel => exact ⟨i + 1, s ++ xm, by omega, by go_num, rfl, by show _ = _; rw [HTK.out, HT.out, ByteArray.append_assoc], by show _ ≤ _; rw [ByteArray.size_append]; omega, XB.out, HB.out⟩
    case measure => simp [intOf]; omega
   ·have HT2 : Hid (s = th ++ mts L) := hid (by have := HT.out; rwa [List.take_of_length_le (by rw [HL.out]; omega)] at this)
    have hz := HZ.out
    have q1 : (9223372036854775807 < s.size + x7.size) = False := eq_false (by omega)
    have q2 : (9223372036854775807 < s.size) = False := eq_false (by omega)
    go_wp2_with fail
    refine (C7.out _).mono ?_; rintro e w9 ⟨rfl, hb9⟩
    replace XB := hid (XB.out.later hb9)
    replace HB := hid (btr HB.out hb9)
    clear hb9 c0 HT HZ
    go_wp2
    clear q1 q2
    obtain ⟨s2, hs2⟩ : ∃ x, s ++ x7 = x := ⟨_, rfl⟩
    have HS2 : Hid (s2 = bth g nm t b nx L.length ++ mts L ++ vi G.length) := hid (by rw [← hs2, HT2.out, HTH.out, e7.out, HG.out])
    have hz2 : s2.size ≤ 300000000000 := by rw [← hs2, ByteArray.size_append]; omega
    rw [hs2]
    clear hs2 hz
    go_loopw [4, 8] (fun sv iv wr => ∃ (i : Nat) (s : ByteArray), i ≤ gn ∧ iv = .int .i64 (i : Int) ∧ sv = .string s ∧ Hid (s = s2 ++ vis (G.take i)) ∧ Hid (s.size ≤ 300000000000 + i * 1000000001) ∧ Bx wr w.heap.size 38 g nm t b nx (.slice ma mn mc) (.slice ga gn gc) ∧ Below w.heap.size w wr) (fun _ iv _ => gn - (intOf iv).toNat)
    case atStart => exact ⟨0, s2, Nat.zero_le _, rfl, rfl, by show s2 = s2 ++ vis []; rw [show vis [] = ⟨#[]⟩ from rfl, nil_ba], by show _ ≤ _; omega, XB.out, HB.out⟩
    case round =>
     obtain ⟨j, s3, hj, rfl, rfl, HT3, HZ3, hx, hb⟩ := hrel
     replace XB := hid hx
     replace HB := hid hb
     have c0 := XB.out.cells
     clear hx hb
     by_cases hlt2 : j < gn
     ·have hjl : j < G.length := by rw [HG.out]; exact hlt2
      obtain ⟨k, o, hka, hkk, d⟩ := (HS.out.later HB.out).at hjl
      have hp := P8.out G[j] (List.getElem_mem hjl)
      have htk : vis (G.take (j + 1)) = vis (G.take j) ++ vi G[j] := by rw [List.take_succ_eq_append_getElem hjl, vis_snoc]
      obtain ⟨x, hx⟩ : ∃ x, G[j] = x := ⟨_, rfl⟩
      rw [hx] at d hp htk
      obtain ⟨xv, ev, zv, CV⟩ := var_s x (by omega) (by omega)
      rw [← ev.out] at htk
      have HTK := hid htk
      subst hka
      have hI : (0 : Int) ≤ (j : Int) ∧ (j : Int) < (gn : Int) := by omega
      have hz := HZ3.out
      have q1 : (9223372036854775807 < s3.size + xv.size) = False := eq_false (by omega)
      clear hx hp htk ev
      go_wp2_with fail
      refine (CV.out _).mono ?_; rintro e w10 ⟨rfl, hb10⟩
      replace XB := hid (XB.out.later hb10)
      replace HB := hid (btr HB.out hb10)
      clear hb10 d c0 CV
      go_wp2
      clear q1
      go_roundw
      case rel => exact ⟨j + 1, s3 ++ xv, by omega, by go_num, rfl, by show _ = _; rw [HTK.out, HT3.out, ByteArray.append_assoc], by show _ ≤ _; rw [ByteArray.size_append]; omega, XB.out, HB.out⟩
      case measure => simp [intOf]; omega
     ·have HT4 : Hid (s3 = btx g nm t b nx L G) := hid (by have := HT3.out; rw [List.take_of_length_le (by rw [HG.out]; omega), HS2.out] at this; exact this)
      go_wp2
      go_ret2
      exact ⟨by rw [← HT4.out]; rfl, HB.out⟩
theorem vbs_k : ∀ (k n : Nat), n < 128 ^ (k + 1) → (vbs n).length ≤ k + 1
 | 0, n, h => by rw [vbs_small n (by omega)]; simp
 | k + 1, n, h => by
  by_cases hn : n < 128
  ·rw [vbs_small n (by omega)]; simp
  ·rw [vbs_big n (by omega)]
   have := vbs_k k (n / 128) (by rw [Nat.pow_succ] at h; omega)
   simp; omega
theorem vi_k (k : Nat) (n : Int) (h : n < 128 ^ (k + 1)) : (vi n).size ≤ k + 1 := by
 have h2 : n.toNat < 128 ^ (k + 1) := by
  have h3 : ((128 : Int) ^ (k + 1)) = ((128 ^ (k + 1) : Nat) : Int) := by simp
  rw [h3] at h
  have h4 : 0 < 128 ^ (k + 1) := Nat.pow_pos (by decide)
  omega
 have := vbs_k k n.toNat h2
 show (vbs n.toNat).toArray.size ≤ _
 simpa using this
theorem vi_1 {n : Int} (h : n ≤ 127) : (vi n).size ≤ 1 := vi_k 0 n (by omega)
theorem vi_2 {n : Int} (h : n ≤ 10000) : (vi n).size ≤ 2 := vi_k 1 n (by omega)
theorem vi_3 {n : Int} (h : n ≤ 100000) : (vi n).size ≤ 3 := vi_k 2 n (by omega)
theorem mtx_80 {g u : Int} {l : List R3} {t : ByteArray} (h : mlOk g u l t = true) : (mtx g u l t).size ≤ 80 := by
 simp only [mlOk, gok, flOk, Bool.and_eq_true, decide_eq_true_eq] at h
 obtain ⟨h1, h2, ⟨h3, h4⟩, h5⟩ := h
 have hr : ∀ p ∈ l, (rt p).size ≤ 5 := by
  intro p hp
  have h6 := List.all_eq_true.1 h4 p hp
  simp only [okp, rgOk, stOk, Bool.and_eq_true, decide_eq_true_eq] at h6
  have a1 := vi_1 (n := p.1) (by omega)
  have a2 := vi_3 (n := p.2.1) (by omega)
  have a3 := vi_1 (n := p.2.2) (by omega)
  unfold rt
  rw [ByteArray.size_append, ByteArray.size_append]
  omega
 have hs : ∀ k : List R3, (∀ p ∈ k, (rt p).size ≤ 5) → (rts k).size ≤ k.length * 5 := by
  intro k
  induction k with
  | nil => intro _; exact Nat.zero_le _
  | cons p k ih =>
   intro hk
   have h7 := hk p (List.mem_cons_self ..)
   have h8 := ih (fun q hq => hk q (List.mem_cons_of_mem _ hq))
   simp only [rts, ByteArray.size_append, List.length_cons]
   omega
 have h9 := hs l hr
 have a1 := vi_2 (n := g) (by omega)
 have a2 := vi_2 (n := u) (by omega)
 have a3 := vi_1 (n := (t.size : Int)) (by omega)
 unfold mtx
 simp only [ByteArray.size_append]
 have : l.length = 3 := by simpa using h3
 rw [this] at h9
 omega
theorem mts_80 {L : List M4} (h : ∀ m ∈ L, mlOk m.1 m.2.1 m.2.2.1 m.2.2.2 = true) : (mts L).size ≤ L.length * 80 := by
 induction L with
 | nil => exact Nat.zero_le _
 | cons m L ih =>
  have h1 := mtx_80 (h m (List.mem_cons_self ..))
  have h2 := ih (fun q hq => h q (List.mem_cons_of_mem _ hq))
  simp only [mts, ByteArray.size_append, List.length_cons]
  omega
theorem vis_2 {G : List Int} (h : ∀ y ∈ G, 1 ≤ y ∧ y ≤ 9999) : (vis G).size ≤ G.length * 2 := by
 induction G with
 | nil => exact Nat.zero_le _
 | cons m L ih =>
  have h1 := vi_2 (n := m) (by have := h m (List.mem_cons_self ..); omega)
  have h2 := ih (fun q hq => h q (List.mem_cons_of_mem _ hq))
  simp only [vis, ByteArray.size_append, List.length_cons]
  omega
theorem btx_size {g : Int} {nm : ByteArray} {t b nx : Int} {L : List M4} {G : List Int} (h : bxOk g nm t b nx L G = true) : (btx g nm t b nx L G).size ≤ 903 := by
 obtain ⟨p1, p2, p3, p4, p5, p6, p7, p8⟩ := bx_txt h
 have a1 := vi_2 (n := g) (by omega)
 have a2 := vi_1 (n := (nm.size : Int)) (by omega)
 have a3 := vi_3 (n := t) (by omega)
 have a4 := vi_1 (n := b) (by omega)
 have a5 := vi_2 (n := nx) (by omega)
 have a6 := vi_1 (n := (L.length : Int)) (by omega)
 have a7 := vi_1 (n := (G.length : Int)) (by omega)
 have a8 := mts_80 p6
 have a9 := vis_2 p8
 unfold btx bth
 simp only [ByteArray.size_append]
 omega
def bts : List X7 → ByteArray
 | [] => ⟨#[]⟩
 | x :: S => btx x.1 x.2.1 x.2.2.1 x.2.2.2.1 x.2.2.2.2.1 x.2.2.2.2.2.1 x.2.2.2.2.2.2 ++ bts S
theorem bts_snoc (S : List X7) (x : X7) : bts (S ++ [x]) = bts S ++ btx x.1 x.2.1 x.2.2.1 x.2.2.2.1 x.2.2.2.2.1 x.2.2.2.2.2.1 x.2.2.2.2.2.2 := by
 induction S with
 | nil => simp only [List.nil_append, bts, ba_nil, nil_ba]
 | cons a S ih => simp only [List.cons_append, bts, ih, ByteArray.append_assoc]
def stx (y tm : Int) (S : List X7) (G : List Int) : ByteArray := vi y ++ vi tm ++ vi S.length ++ bts S ++ vi G.length ++ vis G
theorem bts_size {S : List X7} (h : ∀ x ∈ S, bxx x = true) : (bts S).size ≤ S.length * 903 := by
 induction S with
 | nil => exact Nat.zero_le _
 | cons x S ih =>
  have h1 := btx_size (h x (List.mem_cons_self ..))
  have h2 := ih (fun q hq => h q (List.mem_cons_of_mem _ hq))
  simp only [bts, ByteArray.size_append, List.length_cons]
  omega
theorem st_txt {y tm : Int} {S : List X7} {G : List Int} (h : sOk y tm S G = true) : (1 ≤ y ∧ y ≤ 2) ∧ (0 ≤ tm ∧ tm ≤ 100000) ∧ S.length ≤ 5 ∧ (∀ x ∈ S, bxx x = true) ∧ G.length ≤ 20 ∧ ∀ z ∈ G, 1 ≤ z ∧ z ≤ 9999 := by
 simp only [sOk, gnM, Bool.and_eq_true, decide_eq_true_eq] at h
 obtain ⟨h1, h2, h3, h4, h5, -⟩ := h
 refine ⟨h1, h2, by omega, fun x hx => ?_, by omega, asc_gk h4.1⟩
 obtain ⟨i, hi, rfl⟩ := List.getElem_of_mem hx
 have h9 := List.all_eq_true.1 h5 i (List.mem_range.2 hi)
 unfold stp7 at h9
 rw [List.getElem?_eq_getElem hi] at h9
 simp only [Bool.and_eq_true] at h9
 exact h9.1
theorem stx_size {y tm : Int} {S : List X7} {G : List Int} (h : sOk y tm S G = true) : (stx y tm S G).size ≤ 4561 := by
 obtain ⟨p1, p2, p3, p4, p5, p6⟩ := st_txt h
 have a1 := vi_1 (n := y) (by omega)
 have a2 := vi_3 (n := tm) (by omega)
 have a3 := vi_1 (n := (S.length : Int)) (by omega)
 have a4 := vi_1 (n := (G.length : Int)) (by omega)
 have a5 := bts_size p4
 have a6 := vis_2 p6
 unfold stx
 simp only [ByteArray.size_append]
 omega
def stR (y tm : Int) (S : List X7) (G : List Int) : Value := if sOk y tm S G = true then .tuple #[.string (stx y tm S G ++ tail4 (stx y tm S G)), .bool true] else .tuple #[.string ⟨#[]⟩, .bool false]
set_option maxHeartbeats 8000000 in
set_option maxRecDepth 100000 in
theorem specStoreText_any (l1 h1 l2 h2 : Nat) (y tm : Int) (ba : Option Addr) (bn bc : Nat) (ga : Option Addr) (gn gc : Nat) (S : List X7) (G : List Int) (w : World) (hl : S.length = bn) (hn : bn ≤ 1048576) (hsb : Sb S) (hm : Bs l1 h1 w ba S) (hgl : G.length = gn) (hgn : gn ≤ 1048576) (hs : Is l2 h2 w ga G) :
  Calls Tryz.prog 39 #[.agg #[.int .i64 y, .int .i64 tm, .slice ba bn bc, .slice ga gn gc]] w fun e w' => e = .returned (stR y tm S G) ∧ Below w.heap.size w w' := by
 obtain ⟨W0, hW0⟩ : ∃ W0, w.alloc (.cells #[.int .i64 y, .int .i64 tm, .slice ba bn bc, .slice ga gn gc] 27) = W0 := ⟨_, rfl⟩
 have a0 : Sx W0 w.heap.size 27 y tm (.slice ba bn bc) (.slice ga gn gc) := by subst hW0; exact Sx.new w _ y tm _ _
 have b0 : Below w.heap.size w W0 := by subst hW0; exact bpush (bre _) _
 have c0 := a0.cells
 have XB := hid a0
 have HB := hid b0
 have HM := hid hm
 have HS := hid hs
 have HX := hid hsb
 have HL := hid hl
 have HG := hid hgl
 have HOK := hid (specStoreOk_any l1 h1 l2 h2 y tm ba bn bc ga gn gc S G W0 hl hn hsb (hm.later b0) hgl hgn (hs.later b0))
 clear a0 b0 hm hs hsb hl hgl
 cases hok : sOk y tm S G
 ·have hE : stR y tm S G = .tuple #[.string ⟨#[]⟩, .bool false] := by unfold stR; rw [hok]; rfl
  rw [hE]
  rw [hok] at HOK
  clear hE hok
  go_enter Tryz.func39, Tryz.ntmps39
  go_wp2_with fail
  try rw [hW0]
  clear hW0
  refine HOK.out.mono ?_; rintro e w1 ⟨rfl, hb1⟩
  have B1 := hid (btr HB.out hb1)
  clear hb1 c0
  go_wp2
  go_ret2
  exact ⟨rfl, B1.out⟩
 ·have hE : stR y tm S G = .tuple #[.string (stx y tm S G ++ tail4 (stx y tm S G)), .bool true] := by unfold stR; rw [hok]; rfl
  rw [hE]
  rw [hok] at HOK
  have HZZ := hid (stx_size hok)
  obtain ⟨p1, p2, p3, p4, p5, p6⟩ := st_txt hok
  obtain ⟨x1, e1, z1, C1⟩ := var_s y (by omega) (by omega)
  obtain ⟨x2, e2, z2, C2⟩ := var_s tm (by omega) (by omega)
  obtain ⟨x3, e3, z3, C3⟩ := var_s bn (by omega) (by have := HL.out; omega)
  obtain ⟨x7, e7, z7, CC7⟩ := var_s gn (by omega) (by have := HG.out; omega)
  have P4 := hid p4
  have P6 := hid p6
  have hmn : bn ≤ 5 := by rw [← HL.out]; exact p3
  have hgn4 : gn ≤ 20 := by rw [← HG.out]; exact p5
  clear hE hok hn hgn p1 p2 p3 p4 p5 p6
  go_enter Tryz.func39, Tryz.ntmps39
  go_wp2_with fail
  try rw [hW0]
  clear hW0
  refine HOK.out.mono ?_; rintro e w1 ⟨rfl, hb1⟩
  replace XB := hid (XB.out.later hb1)
  replace HB := hid (btr HB.out hb1)
  clear hb1 c0
  go_wp2_with fail
  have HSS : Hid (∀ W, Sx W w.heap.size 27 y tm (.slice ba bn bc) (.slice ga gn gc) → (W.cell? ⟨w.heap.size, 0, none⟩ = some (.int .i64 y) ∧ W.cell? ⟨w.heap.size, 1, none⟩ = some (.int .i64 tm) ∧ W.cell? ⟨w.heap.size, 2, none⟩ = some (.slice ba bn bc) ∧ W.cell? ⟨w.heap.size, 3, none⟩ = some (.slice ga gn gc))) := hid (fun W h => h.cells)
  have q1 : (9223372036854775807 < x1.size + x2.size) = False := eq_false (by omega)
  have q2 : (9223372036854775807 < x1.size + x2.size + x3.size) = False := eq_false (by omega)
  refine wp_region_noPanic ?_
  refine wp_region_held_drew (S := (fun W => (W.cell? ⟨w.heap.size, 0, none⟩ = some (.int .i64 y) ∧ W.cell? ⟨w.heap.size, 1, none⟩ = some (.int .i64 tm) ∧ W.cell? ⟨w.heap.size, 2, none⟩ = some (.slice ba bn bc) ∧ W.cell? ⟨w.heap.size, 3, none⟩ = some (.slice ga gn gc)))) (by kernel_rfl) (HSS.out _ (XB.out.later (bdr (bre _)))) (fun hHeld => ?_)
  refine tk 0 ?_
  refine tk 1 ?_
  refine tk 3 ?_
  refine tk 4 ?_
  refine tk 7 ?_
  refine tk 8 ?_
  refine tk 9 ?_
  clear hHeld
  refine ry 2 (fun K hK => ?_)
  go_simp
  refine (C1.out _).mono ?_; rintro e w2 ⟨rfl, hbx⟩
  replace hbx := btr (bdr (bre _)) hbx
  replace XB := hid (XB.out.later hbx)
  replace HB := hid (btr HB.out hbx)
  clear hbx
  go_wp2_with fail
  refine hK.out _ _ (HSS.out _ XB.out) (fun hHeld => ?_)
  clear hK K
  try simp only [Act.put, tp2, tp3, tp4]
  clear hHeld
  refine ry 5 (fun K hK => ?_)
  go_simp
  refine (C2.out _).mono ?_; rintro e w3 ⟨rfl, hbx⟩
  replace XB := hid (XB.out.later hbx)
  replace HB := hid (btr HB.out hbx)
  clear hbx
  go_wp2_with fail
  refine hK.out _ _ (HSS.out _ XB.out) (fun hHeld => ?_)
  clear hK K
  try simp only [Act.put, tp2, tp3, tp4]
  refine tk 6 ?_
  clear hHeld
  refine ry 10 (fun K hK => ?_)
  go_simp
  refine (C3.out _).mono ?_; rintro e w4 ⟨rfl, hbx⟩
  replace XB := hid (XB.out.later hbx)
  replace HB := hid (btr HB.out hbx)
  clear hbx
  go_wp2_with fail
  refine hK.out _ _ (HSS.out _ XB.out) (fun hHeld => ?_)
  clear hK K
  try simp only [Act.put, tp2, tp3, tp4]
  refine tk 11 ?_
  refine tk 12 ?_
  refine wpAnyH_done (by kernel_rfl) ?_ _
  refine NoPanic.normal ?_
  clear hHeld q1 q2
  obtain ⟨th, hth⟩ : ∃ s, x1 ++ x2 ++ x3 = s := ⟨_, rfl⟩
  have HTH : Hid (th = vi y ++ vi tm ++ vi S.length) := hid (by rw [← hth, e1.out, e2.out, e3.out, HL.out])
  have hthz : th.size ≤ 3000000003 := by rw [← hth]; simp only [ByteArray.size_append]; omega
  rw [hth]
  clear hth z1 z2 z3 C1 C2 C3 HOK
  go_wp2
  go_loopw [4, 5] (fun sv iv wr => ∃ (i : Nat) (s : ByteArray), i ≤ bn ∧ iv = .int .i64 (i : Int) ∧ sv = .string s ∧ Hid (s = th ++ bts (S.take i)) ∧ Hid (s.size ≤ 3000000003 + i * 903) ∧ Sx wr w.heap.size 27 y tm (.slice ba bn bc) (.slice ga gn gc) ∧ Below w.heap.size w wr) (fun _ iv _ => bn - (intOf iv).toNat)
  case atStart => exact ⟨0, th, Nat.zero_le _, rfl, rfl, by show th = th ++ bts []; rw [show bts [] = ⟨#[]⟩ from rfl, nil_ba], by show _ ≤ _; omega, XB.out, HB.out⟩
  case round =>
   obtain ⟨i, s, hi, rfl, rfl, HT, HZ, hx, hb⟩ := hrel
   replace XB := hid hx
   replace HB := hid hb
   have c0 := XB.out.cells
   clear hx hb
   by_cases hlt : i < bn
   ·have hil : i < S.length := by rw [HL.out]; exact hlt
    obtain ⟨k, o, ma, mc, ha, hc, hka, hkk, d, hms, hgs, _⟩ := (HM.out.later HB.out).at hil
    have hok := P4.out S[i] (List.getElem_mem hil)
    have hsz := btx_size hok
    have htk : bts (S.take (i + 1)) = bts (S.take i) ++ btx S[i].1 S[i].2.1 S[i].2.2.1 S[i].2.2.2.1 S[i].2.2.2.2.1 S[i].2.2.2.2.2.1 S[i].2.2.2.2.2.2 := by rw [List.take_succ_eq_append_getElem hil, bts_snoc]
    have hsb := HX.out S[i] (List.getElem_mem hil)
    obtain ⟨q, hq⟩ : ∃ q, S[i] = q := ⟨_, rfl⟩
    obtain ⟨g, nm, t, b, nx, L, H⟩ := q
    rw [hq] at d hms hgs hok hsz htk hsb
    dsimp only at d hms hgs hsz htk hsb
    have CT := specBoxText_any _ _ _ _ g nm t b nx ma L.length mc ha H.length hc L H wr hsb.1 rfl hsb.2.1 hsb.2.2.1 hms rfl hsb.2.2.2 hgs
    have hE2 : btR g nm t b nx L H = .tuple #[.string (btx g nm t b nx L H), .bool true] := by unfold btR; rw [show bxOk g nm t b nx L H = true from hok]; rfl
    rw [hE2] at CT
    obtain ⟨xm, hxm⟩ : ∃ x, btx g nm t b nx L H = x := ⟨_, rfl⟩
    obtain ⟨mn, hmn2⟩ : ∃ n, L.length = n := ⟨_, rfl⟩
    obtain ⟨hn9, hhn⟩ : ∃ n, H.length = n := ⟨_, rfl⟩
    rw [hxm] at CT hsz htk
    rw [hmn2, hhn] at CT d
    have HCT := hid CT
    have HTK := hid htk
    subst hka
    unfold C7 at d
    have hI : (0 : Int) ≤ (i : Int) ∧ (i : Int) < (bn : Int) := by omega
    have hz := HZ.out
    have q1 : (9223372036854775807 < s.size + xm.size) = False := eq_false (by omega)
    clear hq hok hsb hE2 hxm hmn2 hhn CT htk hms hgs
    go_wp2_with fail
    refine HCT.out.mono ?_; rintro e w9 ⟨rfl, hb9⟩
    replace XB := hid (XB.out.later hb9)
    replace HB := hid (btr HB.out hb9)
    clear hb9 d c0 HCT
    go_wp2
    clear q1
    go_roundw
    case rel => exact ⟨i + 1, s ++ xm, by omega, by go_num, rfl, by show _ = _; rw [HTK.out, HT.out, ByteArray.append_assoc], by show _ ≤ _; rw [ByteArray.size_append]; omega, XB.out, HB.out⟩
    case measure => simp [intOf]; omega
   ·have HT2 : Hid (s = th ++ bts S) := hid (by have := HT.out; rwa [List.take_of_length_le (by rw [HL.out]; omega)] at this)
    have hz := HZ.out
    have q1 : (9223372036854775807 < s.size + x7.size) = False := eq_false (by omega)
    have q2 : (9223372036854775807 < s.size) = False := eq_false (by omega)
    go_wp2_with fail
    refine (CC7.out _).mono ?_; rintro e w9 ⟨rfl, hb9⟩
    replace XB := hid (XB.out.later hb9)
    replace HB := hid (btr HB.out hb9)
    clear hb9 c0 HT HZ
    go_wp2
    clear q1 q2
    obtain ⟨s2, hs2⟩ : ∃ x, s ++ x7 = x := ⟨_, rfl⟩
    have HS2 : Hid (s2 = vi y ++ vi tm ++ vi S.length ++ bts S ++ vi G.length) := hid (by rw [← hs2, HT2.out, HTH.out, e7.out, HG.out])
    have hz2 : s2.size ≤ 300000000000 := by rw [← hs2, ByteArray.size_append]; omega
    rw [hs2]
    clear hs2 hz
    go_loopw [4, 8] (fun sv iv wr => ∃ (i : Nat) (s : ByteArray), i ≤ gn ∧ iv = .int .i64 (i : Int) ∧ sv = .string s ∧ Hid (s = s2 ++ vis (G.take i)) ∧ Hid (s.size ≤ 300000000000 + i * 1000000001) ∧ Sx wr w.heap.size 27 y tm (.slice ba bn bc) (.slice ga gn gc) ∧ Below w.heap.size w wr) (fun _ iv _ => gn - (intOf iv).toNat)
    case atStart => exact ⟨0, s2, Nat.zero_le _, rfl, rfl, by show s2 = s2 ++ vis []; rw [show vis [] = ⟨#[]⟩ from rfl, nil_ba], by show _ ≤ _; omega, XB.out, HB.out⟩
    case round =>
     obtain ⟨j, s3, hj, rfl, rfl, HT3, HZ3, hx, hb⟩ := hrel
     replace XB := hid hx
     replace HB := hid hb
     have c0 := XB.out.cells
     clear hx hb
     by_cases hlt2 : j < gn
     ·have hjl : j < G.length := by rw [HG.out]; exact hlt2
      obtain ⟨k, o, hka, hkk, d⟩ := (HS.out.later HB.out).at hjl
      have hp := P6.out G[j] (List.getElem_mem hjl)
      have htk : vis (G.take (j + 1)) = vis (G.take j) ++ vi G[j] := by rw [List.take_succ_eq_append_getElem hjl, vis_snoc]
      obtain ⟨x, hx⟩ : ∃ x, G[j] = x := ⟨_, rfl⟩
      rw [hx] at d hp htk
      obtain ⟨xv, ev, zv, CV⟩ := var_s x (by omega) (by omega)
      rw [← ev.out] at htk
      have HTK := hid htk
      subst hka
      have hI : (0 : Int) ≤ (j : Int) ∧ (j : Int) < (gn : Int) := by omega
      have hz := HZ3.out
      have q1 : (9223372036854775807 < s3.size + xv.size) = False := eq_false (by omega)
      clear hx hp htk ev
      go_wp2_with fail
      refine (CV.out _).mono ?_; rintro e w10 ⟨rfl, hb10⟩
      replace XB := hid (XB.out.later hb10)
      replace HB := hid (btr HB.out hb10)
      clear hb10 d c0 CV
      go_wp2
      clear q1
      go_roundw
      case rel => exact ⟨j + 1, s3 ++ xv, by omega, by go_num, rfl, by show _ = _; rw [HTK.out, HT3.out, ByteArray.append_assoc], by show _ ≤ _; rw [ByteArray.size_append]; omega, XB.out, HB.out⟩
      case measure => simp [intOf]; omega
     ·have HT4 : Hid (s3 = stx y tm S G) := hid (by have := HT3.out; rw [List.take_of_length_le (by rw [HG.out]; omega), HS2.out] at this; exact this)
      have HZ4 : Hid (s3.size ≤ 20000) := hid (by rw [HT4.out]; have := HZZ.out; omega)
      have CS := hid (specSealed_yes s3 wr HZ4.out)
      obtain ⟨t4, ht4⟩ : ∃ t, s3 ++ tail4 s3 = t := ⟨_, rfl⟩
      rw [ht4] at CS
      have HT5 : Hid (stx y tm S G ++ tail4 (stx y tm S G) = t4) := hid (by rw [← HT4.out, ht4])
      clear ht4
      go_wp2_with fail
      refine CS.out.mono ?_; rintro e w11 ⟨rfl, hb11⟩
      replace HB := hid (btr HB.out hb11)
      clear hb11 c0 CS
      go_wp2
      go_ret2
      exact ⟨by rw [HT5.out]; rfl, HB.out⟩
end Go.Proofs.YtdkedgedkgabnaaGreatDoor
