/- Tjd, Tje, Ka, Ks, Kt, Kw. -/
import Derived.Test.YtpannfkfaagflaaV10
namespace Go.Proofs.Ytpannfkfaagflaa
open Go.RowKit Go.ChangeMaps
/-- The lists of a store that a call owns, in blocks below hi. -/
def OwU (W : World) (B hi : Nat) (bv gv : Value) (S : List X7) (G : List Int) : Prop :=
  ∃ Y, Y.map yd = S ∧ OwS W B bv Y ∧ OwI W B gv G ∧ Dj gv bv ∧ (∀ y ∈ Y, ∀ j, gv.ownBlock = some j → j < y.lo ∨ y.hi ≤ j) ∧ (∀ j, bv.ownBlock = some j → j < hi) ∧ (∀ j, gv.ownBlock = some j → j < hi) ∧ ∀ y ∈ Y, y.hi ≤ hi
section
variable {W W' : World} {B B' hi : Nat} {bv gv : Value} {S : List X7} {G : List Int} {P : Nat → Prop}
theorem OwT.u (h : OwT W B bv gv S G) : OwU W B W.heap.size bv gv S G := by
  obtain ⟨Y, h1, h2, h3, h4, h5⟩ := h.own
  exact ⟨Y, h1, h2, h3, h4, h5, fun j hj => (h2.row.lt j hj).2, fun j hj => (h3.lt j hj).2, fun y hy => (h2.each y hy).1.top⟩
theorem OwU.t (h : OwU W B hi bv gv S G) : OwT W B bv gv S G := by
  obtain ⟨Y, h1, h2, h3, h4, h5, _⟩ := h
  exact ⟨Y, h1, h2, h3, h4, h5⟩
theorem OwU.later (h : OwU W B hi bv gv S G) (hb : Below W.heap.size W W') : OwU W' B hi bv gv S G := by
  obtain ⟨Y, h1, h2, h3, h4⟩ := h
  exact ⟨Y, h1, h2.later hb, own_later h3 hb, h4⟩
theorem OwU.base (h : OwU W B' hi bv gv S G) (hB : B ≤ B') : OwU W B hi bv gv S G := by
  obtain ⟨Y, h1, h2, h3, h4⟩ := h
  exact ⟨Y, h1, h2.base hB, own_base h3 hB, h4⟩
theorem OwU.chg (h : OwU W B hi bv gv S G) (hc : Chg P W W') (hp : ∀ j, B ≤ j → j < hi → ¬ P j) : OwU W' B hi bv gv S G := by
  obtain ⟨Y, h1, h2, h3, h4, h5, h6, h7, h8⟩ := h
  refine ⟨Y, h1, h2.kept hc.size (fun j hj => hc.block j (h2.row.lt j hj).2 (hp j (h2.row.lt j hj).1 (h6 j hj))) (fun y hy j j1 j2 => hc.block j (Nat.lt_of_lt_of_le j2 (h2.each y hy).1.top) (hp j (Nat.le_trans (h2.each y hy).2 j1) (Nat.lt_of_lt_of_le j2 (h8 y hy)))), row_chg h3 hc (fun j hj => hp j (h3.lt j hj).1 (h7 j hj)), h4, h5, h6, h7, h8⟩
end
theorem Sx.chg {P : Nat → Prop} {W W' : World} {k ty : Nat} {y tm : Int} {bv gv : Value} (h : Sx W k ty y tm bv gv) (hc : Chg P W W') (hk : ¬ P k) : Sx W' k ty y tm bv gv := (hc.block k h.lt hk).trans h
set_option maxHeartbeats 800000 in
set_option maxRecDepth 100000 in
theorem markStore_any (B hi : Nat) (y tm : Int) (ma : Option Addr) (mn mc : Nat) (ga : Option Addr) (gn gc : Nat) (S : List X7) (G : List Int) (w : World) (hown : OwU w B hi (.slice ma mn mc) (.slice ga gn gc) S G) (hl : S.length = mn) (hn : mn ≤ 1048576) (hsm : SmX S) (hgl : G.length = gn) (hgn : gn ≤ 1048576) (hfz : kx 1 S ≤ 6291456) :
    Calls Try.prog 17 #[.agg #[.int .i64 y, .int .i64 tm, .slice ma mn mc, .slice ga gn gc], .int .i64 1] w fun e w' => e = .returned (.int .i64 ((kx 1 S + gn : Nat) : Int)) ∧ OwU w' B hi (.slice ma mn mc) (.slice ga gn gc) (mxl 1 S) (mki (kx 1 S) gn) ∧ Chg (fun j => B ≤ j ∧ j < hi) w w' := by
  obtain ⟨Y, rfl, hz, hii, hd, hdz, hv1, hv2, hv3⟩ := hown
  have hlt : ∀ j, (Value.ownBlock (.slice ma mn mc) = some j ∨ ∃ z ∈ Y, z.lo ≤ j ∧ j < z.hi) → j < w.heap.size := by
    rintro j (h | ⟨z, hzz, _, h⟩)
    · exact (hz.row.lt j h).2
    · exact Nat.lt_of_lt_of_le h (hz.each z hzz).1.top
  have hbl : ∀ j, (Value.ownBlock (.slice ma mn mc) = some j ∨ ∃ z ∈ Y, z.lo ≤ j ∧ j < z.hi) → B ≤ j ∧ j < hi := by
    rintro j (h | ⟨z, hzz, h1, h2⟩)
    · exact ⟨(hz.row.lt j h).1, hv1 j h⟩
    · exact ⟨Nat.le_trans (hz.each z hzz).2 h1, Nat.lt_of_lt_of_le h2 (hv3 z hzz)⟩
  have HLT := hid hlt
  have HBL := hid hbl
  have HV1 := hid hv1
  have HV2 := hid hv2
  have HV3 := hid hv3
  obtain ⟨W0, hW0⟩ : ∃ W0, w.alloc (.cells #[.int .i64 y, .int .i64 tm, .slice ma mn mc, .slice ga gn gc] 25) = W0 := ⟨_, rfl⟩
  have a0 : Sx W0 w.heap.size 25 y tm (.slice ma mn mc) (.slice ga gn gc) := by subst hW0; exact Sx.new w _ y tm _ _
  have b0 : Below w.heap.size w W0 := by subst hW0; exact bpush (bre _) _
  have c0 := a0.cells
  have HC := markBS_any (fun j => Value.ownBlock (.slice ma mn mc) = some j ∨ ∃ z ∈ Y, z.lo ≤ j ∧ j < z.hi) B ma mn mc 1 Y W0 (hz.later b0) (by rw [← hl, List.length_map]) hn (by omega) hfz hsm (fun j hj => .inl hj) (fun z hz j h1 h2 => .inr ⟨z, hz, h1, h2⟩)
  have HCC := hid HC
  have HZ := hid hz
  have HI := hid hii
  have HD := hid hd
  have HDZ := hid hdz
  have A0 := hid a0
  have B0 := hid b0
  have HGL := hid hgl
  obtain ⟨q, hq⟩ : ∃ q, kx 1 (Y.map yd) = q := ⟨_, rfl⟩
  have hqb : q ≤ 6291456 := by rw [← hq]; exact hfz
  have HQ := hid hq
  rw [hq]
  clear hbl HC hz hii hd hdz a0 b0 hgl hsm hfz hl hlt hv1 hv2 hv3
  go_enter Try.func17, Try.ntmps17
  go_wp2_with fail
  clear hW0
  refine HCC.out.mono ?_; rintro e w1 ⟨rfl, ho1, hc1⟩
  rw [hq]
  clear hq
  have ho2 : OwI w1 B (.slice ga gn gc) G := row_chg (own_later HI.out B0.out) hc1 (fun j hj => by
    rintro (h | ⟨z, hzz, h1, h2⟩)
    · exact HD.out j hj h
    · have := HDZ.out z hzz j hj; omega)
  have x1 : Sx w1 w.heap.size 25 y tm (.slice ma mn mc) (.slice ga gn gc) := (hc1.block _ A0.out.lt (fun e => by have h1 := HLT.out _ e; omega)).trans A0.out
  have k1 := x1.cells
  have HC1 := hid hc1
  have HO1 := hid ho1
  have HO2 := hid ho2
  clear hc1 ho1 ho2 c0 x1
  go_wp2_with fail
  refine (markIS_any B ga gn gc q G w1 HO2.out HGL.out hgn (by omega)).mono ?_; rintro e w2 ⟨rfl, ho3, hg3⟩
  have HO3 := hid ho3
  have HG3 := hid hg3
  clear ho3 hg3
  have HF : Hid (OwS w2 B (.slice ma mn mc) (mys 1 Y)) := by
    show OwS _ _ _ _
    refine HO1.out.kept HG3.out.size (fun j hj => HG3.out.block j (HO1.out.row.lt j hj).2 (fun e => HD.out j e.symm hj)) (fun z hz j j1 j2 => HG3.out.block j (Nat.lt_of_lt_of_le j2 (HO1.out.each z hz).1.top) (fun e => ?_))
    obtain ⟨x, hx, e1, e2⟩ := mys_mem 1 Y z hz
    have := HDZ.out x hx j e.symm
    omega
  have HCH : Hid (Chg (fun j => B ≤ j ∧ j < hi) w w2) := by
    show Chg _ _ _
    refine Chg.trans (Chg.trans (Chg.of_below B0.out) (HC1.out.mono HBL.out)) (Chg.of_grown HG3.out (fun j hj => ⟨(HI.out.lt j hj).1, HV2.out j hj⟩))
  go_wp2
  go_ret
  refine ⟨by go_num, ⟨mys 1 Y, mys_yd 1 Y, HF.out, HO3.out, HD.out, fun z hz j hj => ?_, HV1.out, HV2.out, fun z hz => ?_⟩, HCH.out⟩
  · obtain ⟨x, hx, e1, e2⟩ := mys_mem 1 Y z hz
    rw [e1, e2]; exact HDZ.out x hx j hj
  · obtain ⟨x, hx, e1, e2⟩ := mys_mem 1 Y z hz
    rw [e2]; exact HV3.out x hx
/-- What a marked row is the marks of. -/
theorem mys_fix (k : Nat) (S : List X7) : ∀ Y : List Y9, Y.map yd = mxl k S → mys k Y = Y := by
  induction S generalizing k with
  | nil =>
    intro Y h
    cases Y with
    | nil => rfl
    | cons y Y => simp [mxl] at h
  | cons x S ih =>
    intro Y h
    cases Y with
    | nil => simp [mxl] at h
    | cons y Y =>
      simp only [List.map_cons, mxl, List.cons.injEq] at h
      obtain ⟨h1, h2⟩ := h
      have e : kx1 k (yd y) = kx1 k x := by rw [h1]; simp [kx1, mx1, mzl_fz, mki_len]
      simp only [mys]
      rw [e, ih _ Y h2]
      obtain ⟨g, nm, t, b, nx, mv, gv, L, G, lo, hi⟩ := y
      simp only [yd, mx1, Prod.mk.injEq] at h1
      obtain ⟨rfl, rfl, rfl, rfl, rfl, rfl, rfl⟩ := h1
      have e2 : ∀ (k : Nat) (L : List M4), mzl k (mzl k L) = mzl k L := by
        intro k L
        induction L generalizing k with
        | nil => rfl
        | cons m L ih =>
          have e3 : km1 k (mm1 k m) = km1 k m := by simp [km1, mm1, mks_len]
          simp only [mzl]
          rw [e3, ih]
          simp [mm1, mks_len]
      simp [my1, e2, mzl_fz, mki_len]
theorem kx_fix (k : Nat) (S : List X7) : kx k (mxl k S) = kx k S := by
  induction S generalizing k with
  | nil => rfl
  | cons x S ih =>
    have e : kx1 k (mx1 k x) = kx1 k x := by simp [kx1, mx1, mzl_fz, mki_len]
    simp only [mxl, kx]
    rw [e, ih]
theorem mxl_smx (k : Nat) (S : List X7) (h : SmX S) (hk : kx k S ≤ 6291456) : SmX (mxl k S) := by
  induction S generalizing k with
  | nil => intro x hx; simp [mxl] at hx
  | cons x S ih =>
    have h1 := kx_le (kx1 k x) S
    have e1 : kx1 k x = k + 5 + 3 * fz x.2.2.2.2.2.1 + x.2.2.2.2.2.2.length := rfl
    have hk' : kx (kx1 k x) S ≤ 6291456 := hk
    intro z hz
    simp only [mxl, List.mem_cons] at hz
    rcases hz with rfl | hz
    · have hs := h x (by simp)
      exact ⟨mzl_sm _ _ hs.1 (by omega), by simp only [mx1, mzl_len]; exact hs.2.1, by simp only [mx1, mki_len]; exact hs.2.2⟩
    · exact ih (kx1 k x) (fun x hx => h x (by simp [hx])) hk' z hz
set_option maxHeartbeats 800000 in
set_option maxRecDepth 100000 in
theorem heldStore_any (B hi : Nat) (y tm : Int) (ma : Option Addr) (mn mc : Nat) (ga : Option Addr) (gn gc : Nat) (S : List X7) (w : World) (hown : OwU w B hi (.slice ma mn mc) (.slice ga gn gc) (mxl 1 S) (mki (kx 1 S) gn)) (hl : S.length = mn) (hn : mn ≤ 1048576) (hsm : SmX S) (hgn : gn ≤ 1048576) (hfz : kx 1 S ≤ 6291456) :
    Calls Try.prog 18 #[.agg #[.int .i64 y, .int .i64 tm, .slice ma mn mc, .slice ga gn gc], .int .i64 1] w fun e w' => e = .returned (.int .i64 ((kx 1 S + gn : Nat) : Int)) ∧ Below w.heap.size w w' := by
  obtain ⟨Y, hy, hz, hii, -⟩ := hown
  have hfix := mys_fix 1 S Y hy
  have hkx : kx 1 (Y.map yd) = kx 1 S := by rw [hy, kx_fix]
  have hyl : Y.length = mn := by have h := congrArg List.length hy; rw [List.length_map, mxl_len] at h; omega
  obtain ⟨W0, hW0⟩ : ∃ W0, w.alloc (.cells #[.int .i64 y, .int .i64 tm, .slice ma mn mc, .slice ga gn gc] 25) = W0 := ⟨_, rfl⟩
  have a0 : Sx W0 w.heap.size 25 y tm (.slice ma mn mc) (.slice ga gn gc) := by subst hW0; exact Sx.new w _ y tm _ _
  have b0 : Below w.heap.size w W0 := by subst hW0; exact bpush (bre _) _
  have c0 := a0.cells
  have HC := heldBS_any B ma mn mc 1 Y W0 (by rw [hfix]; exact hz.later b0) hyl hn (by omega) (by rw [hkx]; exact hfz) (by rw [hy]; exact mxl_smx 1 S hsm hfz)
  rw [hkx] at HC
  have HCC := hid HC
  have HI := hid hii
  have A0 := hid a0
  have B0 := hid b0
  obtain ⟨q, hq⟩ : ∃ q, kx 1 S = q := ⟨_, rfl⟩
  have hqb : q ≤ 6291456 := by rw [← hq]; exact hfz
  have HQ := hid hq
  have h1 : ¬ (q : Int) < 0 := by omega
  rw [hq]
  clear HC hz hii a0 b0 hsm hfz hl hy hfix hkx hyl
  go_enter Try.func18, Try.ntmps18
  go_wp2_with fail
  clear hW0
  refine HCC.out.mono ?_; rintro e w1 ⟨rfl, hb1⟩
  rw [hq]
  clear hq
  have c0 := (A0.out.later hb1).cells
  have B1 := hid (btr B0.out hb1)
  clear hb1
  go_wp2_with fail
  refine (heldIS_any B ga gn gc q w1 (by rw [← HQ.out]; exact own_later HI.out B1.out) hgn (by omega)).mono ?_; rintro e w2 ⟨rfl, hw2⟩
  subst hw2
  have h2 : ¬ ((q + gn : Nat) : Int) < 0 := by omega
  have h3 : ¬ (q : Int) + (gn : Int) < 0 := by omega
  go_wp2
  go_ret
  exact ⟨by go_num, B1.out⟩
theorem sb_smx {S : List X7} (h : Sb S) : SmX S := fun x hx => ⟨(h x hx).2.2.1, (h x hx).2.1, (h x hx).2.2.2⟩
theorem kx_sz (k : Nat) (S : List X7) : kx k S ≤ k + 5 * szB S := by
  induction S generalizing k with
  | nil => simp [kx]
  | cons x S ih =>
    have h := ih (kx1 k x)
    have e : kx1 k x = k + 5 + 3 * fz x.2.2.2.2.2.1 + x.2.2.2.2.2.2.length := rfl
    have e2 : szB (x :: S) = 1 + szX x + szB S := by simp only [szB, toX, List.length_cons]; omega
    have e3 : szX x = x.2.1.size + szL x.2.2.2.2.2.1 + x.2.2.2.2.2.2.length := rfl
    have h4 := fz_le x.2.2.2.2.2.1
    show kx (kx1 k x) S ≤ _
    omega
theorem smallT {S : List X7} {gn : Nat} (h : ¬ (1048576 : Int) < ((szB S + gn : Nat) : Int)) : S.length ≤ 1048576 ∧ gn ≤ 1048576 ∧ Sb S := by
  unfold szB at h
  refine ⟨by omega, by omega, ?_⟩
  have h2 : toX S ≤ 1048576 := by omega
  clear h
  induction S with
  | nil => intro x hx; cases hx
  | cons a S ih =>
    intro x hx
    have e : toX (a :: S) = szX a + toX S := rfl
    rcases List.mem_cons.1 hx with rfl | hx
    · have h3 : szX x ≤ 1048576 := by omega
      unfold szX szL at h3
      exact ⟨by omega, by omega, sm_of (by omega), by omega⟩
    · exact ih (by omega) x hx
theorem OwT.len {W : World} {B : Nat} {bv gv : Value} {S : List X7} {G : List Int} (h : OwT W B bv gv S G) : ∃ a c a' c', bv = .slice a S.length c ∧ gv = .slice a' G.length c' := h.shape
/-- Block k holds what is kept. -/
def Kx (W : World) (k ty : Nat) (y tm : Int) (bv gv : Value) (jr : ByteArray) (sv : Int) : Prop := W.heap[k]? = some (.cells #[.int .i64 y, .int .i64 tm, bv, gv, .string jr, .int .i64 sv] ty (0, 0))
section
variable {W W' : World} {k ty : Nat} {y tm : Int} {bv gv : Value} {jr : ByteArray} {sv : Int}
theorem Kx.new (w : World) (ty : Nat) (y tm : Int) (bv gv : Value) (jr : ByteArray) (sv : Int) : Kx (w.alloc (.cells #[.int .i64 y, .int .i64 tm, bv, gv, .string jr, .int .i64 sv] ty)) w.heap.size ty y tm bv gv jr sv := heap_alloc_new w _
theorem Kx.lt (h : Kx W k ty y tm bv gv jr sv) : k < W.heap.size := (Array.getElem?_eq_some_iff.1 h).1
theorem Kx.later (h : Kx W k ty y tm bv gv jr sv) (hb : Below W.heap.size W W') : Kx W' k ty y tm bv gv jr sv := (hb.block k h.lt).trans h
theorem Kx.cells (h : Kx W k ty y tm bv gv jr sv) : W.cell? ⟨k, 0, none⟩ = some (.int .i64 y) ∧ W.cell? ⟨k, 1, none⟩ = some (.int .i64 tm) ∧ W.cell? ⟨k, 2, none⟩ = some bv ∧ W.cell? ⟨k, 3, none⟩ = some gv ∧ W.cell? ⟨k, 4, none⟩ = some (.string jr) ∧ W.cell? ⟨k, 5, none⟩ = some (.int .i64 sv) :=
  ⟨cell_of_row W k 0 _ _ _ h, cell_of_row W k 1 _ _ _ h, cell_of_row W k 2 _ _ _ h, cell_of_row W k 3 _ _ _ h, cell_of_row W k 4 _ _ _ h, cell_of_row W k 5 _ _ _ h⟩
theorem Kx.loose (h : Kx W k ty y tm bv gv jr sv) : W.frozen? ⟨k, 0, none⟩ = false ∧ W.frozen? ⟨k, 1, none⟩ = false ∧ W.frozen? ⟨k, 2, none⟩ = false ∧ W.frozen? ⟨k, 3, none⟩ = false ∧ W.frozen? ⟨k, 4, none⟩ = false ∧ W.frozen? ⟨k, 5, none⟩ = false :=
  ⟨frozen_of_row W k 0 _ _ h, frozen_of_row W k 1 _ _ h, frozen_of_row W k 2 _ _ h, frozen_of_row W k 3 _ _ h, frozen_of_row W k 4 _ _ h, frozen_of_row W k 5 _ _ h⟩
end
set_option maxHeartbeats 800000 in
set_option maxRecDepth 100000 in
theorem eqKept_of (y tm : Int) (ba : Option Addr) (bn bc : Nat) (ga : Option Addr) (gn gc : Nat) (ba' : Option Addr) (bn' bc' : Nat) (ga' : Option Addr) (gn' gc' : Nat) (jr : ByteArray) (sv : Int) (w : World)
    (C : ∀ W, Below w.heap.size w W → Calls Try.prog 16 #[.agg #[.int .i64 y, .int .i64 tm, .slice ba bn bc, .slice ga gn gc], .agg #[.int .i64 y, .int .i64 tm, .slice ba' bn' bc', .slice ga' gn' gc']] W fun e w' => e = .returned (.bool true) ∧ Below W.heap.size W w') :
    Calls Try.prog 7 #[.agg #[.int .i64 y, .int .i64 tm, .slice ba bn bc, .slice ga gn gc, .string jr, .int .i64 sv], .agg #[.int .i64 y, .int .i64 tm, .slice ba' bn' bc', .slice ga' gn' gc', .string jr, .int .i64 sv]] w fun e w' => e = .returned (.bool true) ∧ Below w.heap.size w w' := by
  obtain ⟨W0, hW0⟩ : ∃ W0, (w.alloc (.cells #[.int .i64 y, .int .i64 tm, .slice ba bn bc, .slice ga gn gc, .string jr, .int .i64 sv] 27)).alloc (.cells #[.int .i64 y, .int .i64 tm, .slice ba' bn' bc', .slice ga' gn' gc', .string jr, .int .i64 sv] 27) = W0 := ⟨_, rfl⟩
  have a0 : Kx W0 w.heap.size 27 y tm (.slice ba bn bc) (.slice ga gn gc) jr sv := by subst hW0; exact (Kx.new w _ _ _ _ _ _ _).later (bpush (bre _) _)
  have a1 : Kx W0 (w.heap.size + 1) 27 y tm (.slice ba' bn' bc') (.slice ga' gn' gc') jr sv := by
    have h := Kx.new (w.alloc (.cells #[.int .i64 y, .int .i64 tm, .slice ba bn bc, .slice ga gn gc, .string jr, .int .i64 sv] 27)) 27 y tm (.slice ba' bn' bc') (.slice ga' gn' gc') jr sv
    rw [show (w.alloc (.cells #[.int .i64 y, .int .i64 tm, .slice ba bn bc, .slice ga gn gc, .string jr, .int .i64 sv] 27)).heap.size = w.heap.size + 1 by simp, hW0] at h
    exact h
  have b0 : Below w.heap.size w W0 := by subst hW0; exact bpush (bpush (bre _) _) _
  have A0 := hid a0
  have A1 := hid a1
  have B0 := hid b0
  have HC := hid (C W0 b0)
  have c0 := a0.cells
  have c1 := a1.cells
  clear a0 a1 b0 C
  go_enter Try.func7, Try.ntmps7
  go_wp2_with fail
  clear hW0
  refine HC.out.mono ?_; rintro e w1 ⟨rfl, hb⟩
  have B1 := hid (btr B0.out hb)
  have d0 := (A0.out.later hb).cells
  have d1 := (A1.out.later hb).cells
  clear hb c0 c1
  go_wp2
  go_ret
  exact ⟨rfl, B1.out⟩
set_option maxHeartbeats 800000 in
set_option maxRecDepth 100000 in
theorem markKept_of (y tm : Int) (ba : Option Addr) (bn bc : Nat) (ga : Option Addr) (gn gc : Nat) (jr : ByteArray) (sv k r : Int) (w : World) (R : World → Prop)
    (C : ∀ W, Below w.heap.size w W → Calls Try.prog 17 #[.agg #[.int .i64 y, .int .i64 tm, .slice ba bn bc, .slice ga gn gc], .int .i64 k] W fun e w' => e = .returned (.int .i64 r) ∧ R w') :
    Calls Try.prog 8 #[.agg #[.int .i64 y, .int .i64 tm, .slice ba bn bc, .slice ga gn gc, .string jr, .int .i64 sv], .int .i64 k] w fun e w' => e = .returned (.int .i64 r) ∧ R w' := by
  obtain ⟨W0, hW0⟩ : ∃ W0, w.alloc (.cells #[.int .i64 y, .int .i64 tm, .slice ba bn bc, .slice ga gn gc, .string jr, .int .i64 sv] 27) = W0 := ⟨_, rfl⟩
  have a0 : Kx W0 w.heap.size 27 y tm (.slice ba bn bc) (.slice ga gn gc) jr sv := by subst hW0; exact Kx.new w _ _ _ _ _ _ _
  have b0 : Below w.heap.size w W0 := by subst hW0; exact bpush (bre _) _
  have HC := hid (C W0 b0)
  have c0 := a0.cells
  clear a0 b0 C
  go_enter Try.func8, Try.ntmps8
  go_wp2_with fail
  clear hW0
  refine HC.out.mono ?_; rintro e w1 ⟨rfl, hr⟩
  have HR := hid hr
  clear hr c0
  go_wp2
  go_ret
  exact ⟨rfl, HR.out⟩
set_option maxHeartbeats 800000 in
set_option maxRecDepth 100000 in
theorem heldKept_of (y tm : Int) (ba : Option Addr) (bn bc : Nat) (ga : Option Addr) (gn gc : Nat) (jr : ByteArray) (sv k r : Int) (w : World) (hr0 : ¬ r < 0)
    (C : ∀ W, Below w.heap.size w W → Calls Try.prog 18 #[.agg #[.int .i64 y, .int .i64 tm, .slice ba bn bc, .slice ga gn gc], .int .i64 k] W fun e w' => e = .returned (.int .i64 r) ∧ Below W.heap.size W w') :
    Calls Try.prog 9 #[.agg #[.int .i64 y, .int .i64 tm, .slice ba bn bc, .slice ga gn gc, .string jr, .int .i64 sv], .int .i64 k] w fun e w' => e = .returned (.int .i64 r) ∧ Below w.heap.size w w' := by
  obtain ⟨W0, hW0⟩ : ∃ W0, w.alloc (.cells #[.int .i64 y, .int .i64 tm, .slice ba bn bc, .slice ga gn gc, .string jr, .int .i64 sv] 27) = W0 := ⟨_, rfl⟩
  have a0 : Kx W0 w.heap.size 27 y tm (.slice ba bn bc) (.slice ga gn gc) jr sv := by subst hW0; exact Kx.new w _ _ _ _ _ _ _
  have b0 : Below w.heap.size w W0 := by subst hW0; exact bpush (bre _) _
  have HC := hid (C W0 b0)
  have B0 := hid b0
  have c0 := a0.cells
  clear a0 b0 C
  go_enter Try.func9, Try.ntmps9
  go_wp2_with fail
  clear hW0
  refine HC.out.mono ?_; rintro e w1 ⟨rfl, hb⟩
  have B1 := hid (btr B0.out hb)
  clear hb c0
  go_wp2
  go_ret
  exact ⟨rfl, B1.out⟩
theorem Kx.grown {W W' : World} {k ty : Nat} {y tm : Int} {bv gv : Value} {jr : ByteArray} {sv : Int} {r : Option Nat} (h : Kx W k ty y tm bv gv jr sv) (hg : W.grownBy W' r) (hk : some k ≠ r) : Kx W' k ty y tm bv gv jr sv := (hg.block k h.lt hk).trans h
theorem Kx.set6 {W : World} {k ty : Nat} {y0 tm0 : Int} {bv0 gv0 : Value} {jr0 : ByteArray} {sv0 : Int} (h : Kx W k ty y0 tm0 bv0 gv0 jr0 sv0) (y tm : Int) (bv gv : Value) (jr : ByteArray) (sv : Int) :
    Kx ((((((W.setCell ⟨k, 0, none⟩ (.int .i64 y)).setCell ⟨k, 1, none⟩ (.int .i64 tm)).setCell ⟨k, 2, none⟩ bv).setCell ⟨k, 3, none⟩ gv).setCell ⟨k, 4, none⟩ (.string jr)).setCell ⟨k, 5, none⟩ (.int .i64 sv)) k ty y tm bv gv jr sv :=
  heap_setCell_same _ k 5 _ _ _ (heap_setCell_same _ k 4 _ _ _ (heap_setCell_same _ k 3 _ _ _ (heap_setCell_same _ k 2 _ _ _ (heap_setCell_same _ k 1 _ _ _ (heap_setCell_same W k 0 _ _ _ h)))))
/-- What is left of the room. -/
def kzr (n j : Nat) : Int := if n ≤ 1048576 ∧ n + j ≤ 1048576 then 1048576 - (n : Int) - (j : Int) else -1
set_option maxHeartbeats 800000 in
set_option maxRecDepth 100000 in
theorem szKept_any (lo hi : Nat) (y tm : Int) (ba : Option Addr) (bn bc : Nat) (ga : Option Addr) (gn gc : Nat) (jr : ByteArray) (sv : Int) (S : List X7) (w : World) (hl : S.length = bn) (hn : (bn : Int) ≤ 9223372036854775807) (hft : FitB S) (hm : Bs lo hi w ba S) (hgn : (gn : Int) ≤ 9223372036854775807) (hj : (jr.size : Int) ≤ 9223372036854775807) :
    Calls Try.prog 10 #[.agg #[.int .i64 y, .int .i64 tm, .slice ba bn bc, .slice ga gn gc, .string jr, .int .i64 sv], .int .i64 1048576] w fun e w' => e = .returned (.int .i64 (kzr (szB S + gn) jr.size)) ∧ Below w.heap.size w w' := by
  obtain ⟨W0, hW0⟩ : ∃ W0, w.alloc (.cells #[.int .i64 y, .int .i64 tm, .slice ba bn bc, .slice ga gn gc, .string jr, .int .i64 sv] 36) = W0 := ⟨_, rfl⟩
  have a0 : Kx W0 w.heap.size 36 y tm (.slice ba bn bc) (.slice ga gn gc) jr sv := by subst hW0; exact Kx.new w _ _ _ _ _ _ _
  have b0 : Below w.heap.size w W0 := by subst hW0; exact bpush (bre _) _
  have HC := hid (szStore_any lo hi y tm ba bn bc ga gn gc S W0 hl hn hft (hm.later b0) hgn)
  have A0 := hid a0
  have B0 := hid b0
  have c0 := a0.cells
  obtain ⟨z, hz⟩ : ∃ z : Nat, szB S + gn = z := ⟨_, rfl⟩
  obtain ⟨n, hn2⟩ : ∃ n : Int, (jr.size : Int) = n := ⟨_, rfl⟩
  rw [hz] at HC
  rw [hz]
  clear a0 b0 hl hn hft hm hgn hz
  by_cases hbig : (1048576 : Int) < (z : Int)
  · rw [szr_over hbig] at HC
    have hk : kzr z jr.size = -1 := if_neg (by omega)
    rw [hk]
    clear hbig hk hj hn2
    go_enter Try.func10, Try.ntmps10
    go_wp2_with fail
    clear hW0
    refine HC.out.mono ?_; rintro e w1 ⟨rfl, hb⟩
    have B1 := hid (btr B0.out hb)
    clear hb c0
    go_wp2
    go_ret
    exact ⟨rfl, B1.out⟩
  · rw [szr_fits hbig] at HC
    obtain ⟨q, hq⟩ : ∃ q : Int, (1048576 : Int) - (z : Int) = q := ⟨_, rfl⟩
    rw [hq] at HC
    have hq0 : ¬ q < 0 := by omega
    have hw : wrap64 (q - n) = q - n := by unfold wrap64; omega
    by_cases hs : z + jr.size ≤ 1048576
    · have hk : kzr z jr.size = q - n := by unfold kzr; rw [if_pos (by omega)]; omega
      have hs0 : ¬ q - n < 0 := by omega
      have hb1 : 0 ≤ n ∧ n ≤ 1048576 := by omega
      have hb2 : 0 ≤ q ∧ q ≤ 1048576 := by omega
      rw [hk]
      have HN2 := hid hn2
      clear hbig hk hj hq hs
      go_enter Try.func10, Try.ntmps10
      go_wp2_with fail
      clear hW0
      refine HC.out.mono ?_; rintro e w1 ⟨rfl, hb⟩
      have B1 := hid (btr B0.out hb)
      have c1 := (A0.out.later hb).cells
      clear hb c0
      go_wp2
      go_ret
      exact ⟨rfl, B1.out⟩
    · have hk : kzr z jr.size = -1 := if_neg (by omega)
      have hs0 : q - n < 0 := by omega
      rw [hk]
      clear hbig hk hj hq hs
      go_enter Try.func10, Try.ntmps10
      go_wp2_with fail
      clear hW0
      refine HC.out.mono ?_; rintro e w1 ⟨rfl, hb⟩
      have B1 := hid (btr B0.out hb)
      have c1 := (A0.out.later hb).cells
      clear hb c0
      go_wp2
      go_ret
      exact ⟨rfl, B1.out⟩
set_option maxHeartbeats 1600000 in
set_option maxRecDepth 100000 in
theorem toKept_any (lo hh lo' hh' : Nat) (y tm : Int) (ba : Option Addr) (bn bc : Nat) (ga : Option Addr) (gn gc : Nat) (jr : ByteArray) (sv : Int) (S : List X7) (G : List Int) (w : World) (hl : S.length = bn) (hn : bn ≤ 1048576) (hsb : Sb S) (hm : Bs lo hh w ba S) (hg : G.length = gn) (hgn : gn ≤ 1048576) (hs : Is lo' hh' w ga G) :
    Calls Try.prog 12 #[.agg #[.int .i64 y, .int .i64 tm, .slice ba bn bc, .slice ga gn gc, .string jr, .int .i64 sv]] w fun e w' => ∃ km kg, e = .returned (.agg #[.int .i64 y, .int .i64 tm, .slice (some ⟨km, 0, none⟩) bn bn, .slice (some ⟨kg, 0, none⟩) gn gn, .string jr, .int .i64 sv]) ∧
      OwT w' w.heap.size (.slice (some ⟨km, 0, none⟩) bn bn) (.slice (some ⟨kg, 0, none⟩) gn gn) S G ∧ Below w.heap.size w w' := by
  obtain ⟨W0, hW0⟩ : ∃ W0, (((w.alloc (.cells #[.int .i64 y, .int .i64 tm, .slice ba bn bc, .slice ga gn gc, .string jr, .int .i64 sv] 36)).alloc (.cells #[.int .i64 0, .int .i64 0, .slice none 0 0, .slice none 0 0, .string ⟨#[]⟩, .int .i64 0] 27)).alloc (.cells #[.int .i64 0, .int .i64 0, .slice none 0 0, .slice none 0 0, .string ⟨#[]⟩, .int .i64 0] 27)) = W0 := ⟨_, rfl⟩
  have a0 : Kx W0 w.heap.size 36 y tm (.slice ba bn bc) (.slice ga gn gc) jr sv := by subst hW0; exact (Kx.new w _ _ _ _ _ _ _).later (bpush (bpush (bre _) _) _)
  have a1 : Kx W0 (w.heap.size + 1) 27 0 0 (.slice none 0 0) (.slice none 0 0) ⟨#[]⟩ 0 := by
    have h := (Kx.new (w.alloc (.cells #[.int .i64 y, .int .i64 tm, .slice ba bn bc, .slice ga gn gc, .string jr, .int .i64 sv] 36)) 27 0 0 (.slice none 0 0) (.slice none 0 0) ⟨#[]⟩ 0).later (bpush (bre _) (.cells #[.int .i64 0, .int .i64 0, .slice none 0 0, .slice none 0 0, .string ⟨#[]⟩, .int .i64 0] 27))
    rw [hW0] at h
    simpa using h
  have a2 : Kx W0 (w.heap.size + 1 + 1) 27 0 0 (.slice none 0 0) (.slice none 0 0) ⟨#[]⟩ 0 := by
    have h := Kx.new ((w.alloc (.cells #[.int .i64 y, .int .i64 tm, .slice ba bn bc, .slice ga gn gc, .string jr, .int .i64 sv] 36)).alloc (.cells #[.int .i64 0, .int .i64 0, .slice none 0 0, .slice none 0 0, .string ⟨#[]⟩, .int .i64 0] 27)) 27 0 0 (.slice none 0 0) (.slice none 0 0) ⟨#[]⟩ 0
    rw [hW0] at h
    simpa using h
  have b0 : Below w.heap.size w W0 := by subst hW0; exact bpush (bpush (bpush (bre _) _) _) _
  have HC := hid (toStore_any lo hh lo' hh' y tm ba bn bc ga gn gc S G W0 hl hn hsb (hm.later b0) hg hgn (hs.later b0))
  have A0 := hid a0
  have A1 := hid a1
  have A2 := hid a2
  have B0 := hid b0
  have HW := hid hW0
  have c0 := a0.cells
  clear a0 a1 a2 b0 hl hn hsb hm hg hgn hs hW0
  go_enter Try.func12, Try.ntmps12
  go_wp2_with fail
  rw [HW.out]
  clear HW
  refine HC.out.mono ?_; rintro e w1 ⟨km, kg, rfl, ho, hb⟩
  have D0 := hid (A0.out.later hb)
  have D1 := hid (A1.out.later hb)
  have D2 := hid (A2.out.later hb)
  have LW : Hid (w.heap.size + 1 + 1 < W0.heap.size) := hid A2.out.lt
  have B1 := hid (btr B0.out hb)
  have HO := hid ho
  have c0 := D0.out.cells
  have c1 := D1.out.cells
  have c2 := D2.out.cells
  have f1 := D1.out.loose
  have f2 := D2.out.loose
  clear hb ho A0 A1 A2
  go_wp2
  have g1 := wst (wst (wst (wst (wst (wst (wre w1 (some (w.heap.size + 1 + 1))) 0 (.int .i64 y)) 1 (.int .i64 tm)) 2 (.slice (some ⟨km, 0, none⟩) bn bn)) 3 (.slice (some ⟨kg, 0, none⟩) gn gn)) 4 (.string jr)) 5 (.int .i64 sv)
  have x1 := Kx.set6 (D1.out.grown g1 (by simp)) y tm (.slice (some ⟨km, 0, none⟩) bn bn) (.slice (some ⟨kg, 0, none⟩) gn gn) jr sv
  have g2 := wst (wst (wst (wst (wst (wst (wre (((((( w1.setCell ⟨w.heap.size + 1 + 1, 0, none⟩ (.int .i64 y)).setCell ⟨w.heap.size + 1 + 1, 1, none⟩ (.int .i64 tm)).setCell ⟨w.heap.size + 1 + 1, 2, none⟩ (.slice (some ⟨km, 0, none⟩) bn bn)).setCell ⟨w.heap.size + 1 + 1, 3, none⟩ (.slice (some ⟨kg, 0, none⟩) gn gn)).setCell ⟨w.heap.size + 1 + 1, 4, none⟩ (.string jr)).setCell ⟨w.heap.size + 1 + 1, 5, none⟩ (.int .i64 sv)) (some (w.heap.size + 1))) 0 (.int .i64 y)) 1 (.int .i64 tm)) 2 (.slice (some ⟨km, 0, none⟩) bn bn)) 3 (.slice (some ⟨kg, 0, none⟩) gn gn)) 4 (.string jr)) 5 (.int .i64 sv)
  have d := x1.cells
  have l1 := LW.out
  refine bodyPost_ret (v := .agg #[.int .i64 y, .int .i64 tm, .slice (some ⟨km, 0, none⟩) bn bn, .slice (some ⟨kg, 0, none⟩) gn gn, .string jr, .int .i64 sv]) (by simp [results, Try.results12, go_sem, d]) rfl ⟨km, kg, rfl, ?_, ?_⟩
  · exact ((HO.out.grown g1 l1).grown g2 (by omega)).base (by omega)
  · exact (B1.out.trans (below_grownR g1 (by intro j hj; simp at hj; omega) B1.out.size)).trans (below_grownR g2 (by intro j hj; simp at hj; omega) (Nat.le_trans B1.out.size g1.size))
set_option maxHeartbeats 1600000 in
set_option maxRecDepth 100000 in
theorem specCopy12_any (lo hh lo' hh' : Nat) (y tm : Int) (ba : Option Addr) (bn bc : Nat) (ga : Option Addr) (gn gc : Nat) (jr : ByteArray) (sv : Int) (S : List X7) (G : List Int) (w : World) (hl : S.length = bn) (hn : bn ≤ 1048576) (hsm : Sb S) (hm : Bs lo hh w ba S) (hgl : G.length = gn) (hgn : gn ≤ 1048576) (hs : Is lo' hh' w ga G) (hg0 : ga = none → gc = 0) :
    Calls Try.prog 20 #[.agg #[.int .i64 y, .int .i64 tm, .slice ba bn bc, .slice ga gn gc, .string jr, .int .i64 sv]] w fun e w' => ∃ bv gv, e = .returned (.agg #[.int .i64 y, .int .i64 tm, bv, gv, .string jr, .int .i64 sv]) ∧ OwT w' w.heap.size bv gv S G ∧ Below w.heap.size w w' := by
  obtain ⟨W0, hW0⟩ : ∃ W0, (w.alloc (.cells #[.int .i64 y, .int .i64 tm, .slice ba bn bc, .slice ga gn gc, .string jr, .int .i64 sv] 27)).alloc (.cells #[.int .i64 0, .int .i64 0, .slice none 0 0, .slice none 0 0, .string ⟨#[]⟩, .int .i64 0] 27) = W0 := ⟨_, rfl⟩
  have a0 : Kx W0 w.heap.size 27 y tm (.slice ba bn bc) (.slice ga gn gc) jr sv := by subst hW0; exact (Kx.new w _ _ _ _ _ _ _).later (bpush (bre _) _)
  have a1 : Kx W0 (w.heap.size + 1) 27 0 0 (.slice none 0 0) (.slice none 0 0) ⟨#[]⟩ 0 := by
    have h := Kx.new (w.alloc (.cells #[.int .i64 y, .int .i64 tm, .slice ba bn bc, .slice ga gn gc, .string jr, .int .i64 sv] 27)) 27 0 0 (.slice none 0 0) (.slice none 0 0) ⟨#[]⟩ 0
    rw [hW0] at h
    simpa using h
  have b0 : Below w.heap.size w W0 := by subst hW0; exact bpush (bpush (bre _) _) _
  have HC := hid (fun (W : World) (hb : Below w.heap.size w W) => l07Copy_any lo hh lo' hh' y tm ba bn bc ga gn gc S G W hl hn hsm (hm.later hb) hgl hgn (hs.later hb) hg0)
  have A0 := hid a0
  have A1 := hid a1
  have B0 := hid b0
  have HW := hid hW0
  have HSS : Hid (∀ W, Kx W w.heap.size 27 y tm (.slice ba bn bc) (.slice ga gn gc) jr sv → (W.cell? ⟨w.heap.size, 0, none⟩ = some (.int .i64 y) ∧ W.cell? ⟨w.heap.size, 1, none⟩ = some (.int .i64 tm) ∧ W.cell? ⟨w.heap.size, 2, none⟩ = some (.slice ba bn bc) ∧ W.cell? ⟨w.heap.size, 3, none⟩ = some (.slice ga gn gc) ∧ W.cell? ⟨w.heap.size, 4, none⟩ = some (.string jr) ∧ W.cell? ⟨w.heap.size, 5, none⟩ = some (.int .i64 sv))) := hid (fun W h => h.cells)
  clear a0 a1 b0 hl hn hsm hm hgl hgn hs hg0 hW0
  go_enter Try.func20, Try.ntmps20
  go_upto_region 1 with fail
  rw [HW.out]
  clear HW
  refine wp_region_noPanic ?_
  refine wp_region_held_drew (S := (fun W => (W.cell? ⟨w.heap.size, 0, none⟩ = some (.int .i64 y) ∧ W.cell? ⟨w.heap.size, 1, none⟩ = some (.int .i64 tm) ∧ W.cell? ⟨w.heap.size, 2, none⟩ = some (.slice ba bn bc) ∧ W.cell? ⟨w.heap.size, 3, none⟩ = some (.slice ga gn gc) ∧ W.cell? ⟨w.heap.size, 4, none⟩ = some (.string jr) ∧ W.cell? ⟨w.heap.size, 5, none⟩ = some (.int .i64 sv)))) (by kernel_rfl) (HSS.out _ A0.out) (fun hHeld => ?_)
  obtain ⟨v0, hv0⟩ : ∃ x, W0.drew = x := ⟨_, rfl⟩
  replace A0 := hid (A0.out.later (bdr (bre _)))
  replace A1 := hid (A1.out.later (bdr (bre _)))
  replace B0 := hid (btr B0.out (bdr (bre _)))
  rw [hv0] at A0 A1 B0 hHeld
  rw [hv0]
  clear hv0
  refine tk 0 ?_
  refine tk 1 ?_
  refine tk 3 ?_
  refine tk 4 ?_
  refine tk 5 ?_
  refine tk 6 ?_
  clear hHeld
  refine ry 2 (fun K hK => ?_)
  go_simp
  refine (HC.out _ B0.out).mono ?_; rintro e w1 ⟨bv, gv, rfl, ho, hb⟩
  obtain ⟨ma, mc, na, nc, rfl, rfl⟩ := ho.shape
  have D0 := hid (A0.out.later hb)
  have D1 := hid (A1.out.later hb)
  have B1 := hid (btr B0.out hb)
  have HO := hid ho
  have LW : Hid (w.heap.size + 1 < v0.heap.size) := hid A1.out.lt
  obtain ⟨p, hp⟩ : ∃ n, S.length = n := ⟨_, rfl⟩
  obtain ⟨q, hq⟩ : ∃ n, G.length = n := ⟨_, rfl⟩
  rw [hp, hq] at HO
  rw [hp, hq]
  clear ho hb A0 A1 B0 hp hq
  go_wp2_with fail
  refine hK.out _ _ (HSS.out _ D0.out) (fun hHeld => ?_)
  clear hK K
  try simp only [Act.put, List.setIfInBounds_toArray, List.set_cons_zero, List.set_cons_succ]
  refine tk 7 ?_
  clear hHeld
  have c1 := D1.out.cells
  have f1 := D1.out.loose
  refine ry 8 (fun K hK => ?_)
  go_simp
  have g1 := wst (wst (wst (wst (wst (wst (wre w1 (some (w.heap.size + 1))) 0 (.int .i64 y)) 1 (.int .i64 tm)) 2 (.slice ma p mc)) 3 (.slice na q nc)) 4 (.string jr)) 5 (.int .i64 sv)
  have x1 := Kx.set6 D1.out y tm (.slice ma p mc) (.slice na q nc) jr sv
  have x0 := D0.out.grown g1 (by simp)
  have l1 := LW.out
  have o1 := HO.out.grown g1 l1
  have b1 : Below w.heap.size w _ := B1.out.trans (below_grownR g1 (by intro j hj; simp at hj; omega) B1.out.size)
  obtain ⟨W2, hW2⟩ : ∃ W, (((((w1.setCell ⟨w.heap.size + 1, 0, none⟩ (.int .i64 y)).setCell ⟨w.heap.size + 1, 1, none⟩ (.int .i64 tm)).setCell ⟨w.heap.size + 1, 2, none⟩ (.slice ma p mc)).setCell ⟨w.heap.size + 1, 3, none⟩ (.slice na q nc)).setCell ⟨w.heap.size + 1, 4, none⟩ (.string jr)).setCell ⟨w.heap.size + 1, 5, none⟩ (.int .i64 sv) = W := ⟨_, rfl⟩
  rw [hW2] at x1 x0 o1 b1
  rw [hW2]
  clear hW2 c1 f1 g1 D0 D1 HO B1
  refine hK.out _ _ (HSS.out _ x0) (fun hHeld => ?_)
  clear hK K hHeld
  refine wpAnyH_done (by kernel_rfl) ?_ _
  refine NoPanic.normal ?_
  go_wp2
  have d := x1.cells
  refine bodyPost_ret (v := .agg #[.int .i64 y, .int .i64 tm, .slice ma p mc, .slice na q nc, .string jr, .int .i64 sv]) (by simp [results, Try.results20, go_sem, d]) rfl ⟨_, _, rfl, o1.base (by omega), b1⟩
set_option maxHeartbeats 1600000 in
set_option maxRecDepth 100000 in
theorem specSave_any (lo hh lo' hh' : Nat) (y tm : Int) (ba : Option Addr) (bn bc : Nat) (ga : Option Addr) (gn gc : Nat) (jr : ByteArray) (sv : Int) (S : List X7) (G : List Int) (w : World) (hl : S.length = bn) (hn : bn ≤ 1048576) (hsm : Sb S) (hm : Bs lo hh w ba S) (hgl : G.length = gn) (hgn : gn ≤ 1048576) (hs : Is lo' hh' w ga G) (hg0 : ga = none → gc = 0) :
    Calls Try.prog 11 #[.agg #[.int .i64 y, .int .i64 tm, .slice ba bn bc, .slice ga gn gc, .string jr, .int .i64 sv]] w fun e w' => ∃ bv gv, e = .returned (.agg #[.int .i64 y, .int .i64 tm, bv, gv, .string jr, .int .i64 (jr.size : Int)]) ∧ OwT w' w.heap.size bv gv S G ∧ Below w.heap.size w w' := by
  obtain ⟨W0, hW0⟩ : ∃ W0, (w.alloc (.cells #[.int .i64 y, .int .i64 tm, .slice ba bn bc, .slice ga gn gc, .string jr, .int .i64 sv] 27)).alloc (.cells #[.int .i64 0, .int .i64 0, .slice none 0 0, .slice none 0 0, .string ⟨#[]⟩, .int .i64 0] 27) = W0 := ⟨_, rfl⟩
  have a0 : Kx W0 w.heap.size 27 y tm (.slice ba bn bc) (.slice ga gn gc) jr sv := by subst hW0; exact (Kx.new w _ _ _ _ _ _ _).later (bpush (bre _) _)
  have a1 : Kx W0 (w.heap.size + 1) 27 0 0 (.slice none 0 0) (.slice none 0 0) ⟨#[]⟩ 0 := by
    have h := Kx.new (w.alloc (.cells #[.int .i64 y, .int .i64 tm, .slice ba bn bc, .slice ga gn gc, .string jr, .int .i64 sv] 27)) 27 0 0 (.slice none 0 0) (.slice none 0 0) ⟨#[]⟩ 0
    rw [hW0] at h
    simpa using h
  have b0 : Below w.heap.size w W0 := by subst hW0; exact bpush (bpush (bre _) _) _
  have HC := hid (specCopy12_any lo hh lo' hh' y tm ba bn bc ga gn gc jr sv S G W0 hl hn hsm (hm.later b0) hgl hgn (hs.later b0) hg0)
  have A0 := hid a0
  have A1 := hid a1
  have B0 := hid b0
  have HW := hid hW0
  have c0 := a0.cells
  clear a0 a1 b0 hl hn hsm hm hgl hgn hs hg0 hW0
  go_enter Try.func11, Try.ntmps11
  go_wp2_with fail
  rw [HW.out]
  clear HW
  refine HC.out.mono ?_; rintro e w1 ⟨bv, gv, rfl, ho, hb⟩
  obtain ⟨ma, mc, na, nc, rfl, rfl⟩ := ho.shape
  have LW : Hid (w.heap.size + 1 < W0.heap.size) := hid A1.out.lt
  have LW1 : Hid (W0.heap.size ≤ w1.heap.size) := hid hb.size
  obtain ⟨p, hp⟩ : ∃ n, S.length = n := ⟨_, rfl⟩
  obtain ⟨q, hq⟩ : ∃ n, G.length = n := ⟨_, rfl⟩
  rw [hp, hq] at ho
  rw [hp, hq]
  have hb3 := btr hb (bpush (bre w1) (.cells #[.int .i64 y, .int .i64 tm, .slice ma p mc, .slice na q nc, .string jr, .int .i64 sv] 27))
  have c3 := (A0.out.later hb3).cells
  have hb2 := btr hb (bpush (bre w1) (.cells #[.int .i64 y, .int .i64 tm, .slice ma p mc, .slice na q nc, .string jr, .int .i64 (jr.size : Int)] 27))
  have D1 := hid (A1.out.later hb2)
  have B1 := hid (btr B0.out hb2)
  have HO := hid (ho.later (bpush (bre w1) (.cells #[.int .i64 y, .int .i64 tm, .slice ma p mc, .slice na q nc, .string jr, .int .i64 (jr.size : Int)] 27)))
  have c1 := D1.out.cells
  have f1 := D1.out.loose
  clear ho hb hb2 hb3 A0 A1 B0 hp hq c0
  go_wp2
  have hX := Kx.set6 D1.out y tm (.slice ma p mc) (.slice na q nc) jr (jr.size : Int)
  have d := hX.cells
  have l1 := LW.out
  have l2 := LW1.out
  have g1 := wst (wst (wst (wst (wst (wst (wre (w1.alloc (.cells #[.int .i64 y, .int .i64 tm, .slice ma p mc, .slice na q nc, .string jr, .int .i64 (jr.size : Int)] 27)) (some (w.heap.size + 1))) 0 (.int .i64 y)) 1 (.int .i64 tm)) 2 (.slice ma p mc)) 3 (.slice na q nc)) 4 (.string jr)) 5 (.int .i64 (jr.size : Int))
  refine bodyPost_ret (v := .agg #[.int .i64 y, .int .i64 tm, .slice ma p mc, .slice na q nc, .string jr, .int .i64 (jr.size : Int)]) (by simp [results, Try.results11, go_sem, d]) rfl ⟨_, _, rfl, ?_, ?_⟩
  · exact (HO.out.grown g1 l1).base (by omega)
  · exact B1.out.trans (below_grownR g1 (by intro j hj; simp at hj; omega) B1.out.size)
set_option maxHeartbeats 1600000 in
set_option maxRecDepth 100000 in
theorem copyKept_any (lo hh lo' hh' : Nat) (y tm : Int) (ba : Option Addr) (bn bc : Nat) (ga : Option Addr) (gn gc : Nat) (jr : ByteArray) (sv : Int) (S : List X7) (G : List Int) (w : World) (hl : S.length = bn) (hn : bn ≤ 1048576) (hsm : Sb S) (hm : Bs lo hh w ba S) (hm0 : ba = none → bc = 0) (hgl : G.length = gn) (hgn : gn ≤ 1048576) (hs : Is lo' hh' w ga G) (hg0 : ga = none → gc = 0) (hjr : jr.size ≤ 1048576) :
    Calls Try.prog 22 #[.agg #[.int .i64 y, .int .i64 tm, .slice ba bn bc, .slice ga gn gc, .string jr, .int .i64 sv]] w fun e w' => ∃ bv gv, e = .returned (.agg #[.int .i64 y, .int .i64 tm, bv, gv, .string jr, .int .i64 sv]) ∧ OwT w' w.heap.size bv gv S G ∧ Below w.heap.size w w' := by
  obtain ⟨W0, hW0⟩ : ∃ W0, (w.alloc (.cells #[.int .i64 y, .int .i64 tm, .slice ba bn bc, .slice ga gn gc, .string jr, .int .i64 sv] 27)).alloc (.cells #[.int .i64 0, .int .i64 0, .slice none 0 0, .slice none 0 0, .string ⟨#[]⟩, .int .i64 0] 27) = W0 := ⟨_, rfl⟩
  have a0 : Kx W0 w.heap.size 27 y tm (.slice ba bn bc) (.slice ga gn gc) jr sv := by subst hW0; exact (Kx.new w _ _ _ _ _ _ _).later (bpush (bre _) _)
  have a1 : Kx W0 (w.heap.size + 1) 27 0 0 (.slice none 0 0) (.slice none 0 0) ⟨#[]⟩ 0 := by
    have h := Kx.new (w.alloc (.cells #[.int .i64 y, .int .i64 tm, .slice ba bn bc, .slice ga gn gc, .string jr, .int .i64 sv] 27)) 27 0 0 (.slice none 0 0) (.slice none 0 0) ⟨#[]⟩ 0
    rw [hW0] at h
    simpa using h
  have b0 : Below w.heap.size w W0 := by subst hW0; exact bpush (bpush (bre _) _) _
  have HC := hid (opened_any lo hh lo' hh' y tm ba bn bc ga gn gc S G W0 hl hn hsm (hm.later b0) hm0 hgl hgn (hs.later b0) hg0)
  have A0 := hid a0
  have A1 := hid a1
  have B0 := hid b0
  have HW := hid hW0
  have HJ := hid hjr
  have c0 := a0.cells
  clear a0 a1 b0 hl hn hsm hm hgl hgn hs hg0 hW0 hm0 hjr
  go_enter Try.func22, Try.ntmps22
  go_wp2_with fail
  rw [HW.out]
  clear HW
  refine HC.out.mono ?_; rintro e w1 ⟨rfl, bv, gv, hx, ho, hb⟩
  obtain ⟨ma, mc, na, nc, rfl, rfl⟩ := ho.shape
  obtain ⟨p, hp⟩ : ∃ n, S.length = n := ⟨_, rfl⟩
  obtain ⟨q, hq⟩ : ∃ n, G.length = n := ⟨_, rfl⟩
  rw [hp, hq] at ho hx
  have LW : Hid (w.heap.size + 1 < W0.heap.size) := hid A1.out.lt
  have LW1 : Hid (W0.heap.size ≤ w1.heap.size) := hid hb.size
  have D0 := hid (A0.out.later hb)
  have D1 := hid (A1.out.later hb)
  have B1 := hid (btr B0.out hb)
  have HO := hid ho
  have cx := hx.cells
  have c1 := D0.out.cells
  have f1 := D0.out.loose
  clear ho hb hx A0 A1 B0 hp hq c0
  go_wp2_with fail
  have g1 := wst (wst (wst (wst (wre w1 (some w.heap.size)) 0 (.int .i64 y)) 1 (.int .i64 tm)) 2 (.slice ma p mc)) 3 (.slice na q nc)
  have x0 : Kx ((((w1.setCell ⟨w.heap.size, 0, none⟩ (.int .i64 y)).setCell ⟨w.heap.size, 1, none⟩ (.int .i64 tm)).setCell ⟨w.heap.size, 2, none⟩ (.slice ma p mc)).setCell ⟨w.heap.size, 3, none⟩ (.slice na q nc)) w.heap.size 27 y tm (.slice ma p mc) (.slice na q nc) jr sv :=
    heap_setCell_same _ _ 3 _ _ _ (heap_setCell_same _ _ 2 _ _ _ (heap_setCell_same _ _ 1 _ _ _ (heap_setCell_same _ _ 0 _ _ _ D0.out)))
  have x1 := D1.out.grown g1 (by simp)
  have l1 := LW.out
  have o1 := HO.out.grown g1 (by omega)
  have b1 : Below w.heap.size w _ := B1.out.trans (below_grownR g1 (by intro j hj; simp at hj; omega) B1.out.size)
  obtain ⟨V, hV⟩ : ∃ W, (((w1.setCell ⟨w.heap.size, 0, none⟩ (.int .i64 y)).setCell ⟨w.heap.size, 1, none⟩ (.int .i64 tm)).setCell ⟨w.heap.size, 2, none⟩ (.slice ma p mc)).setCell ⟨w.heap.size, 3, none⟩ (.slice na q nc) = W := ⟨_, rfl⟩
  rw [hV] at x0 x1 o1 b1
  rw [hV]
  clear hV g1 cx c1 f1 HO B1 D0 D1
  refine (clone_any jr V HJ.out).mono ?_; rintro e w2 ⟨rfl, hb2⟩
  have X0 := hid (x0.later hb2)
  have X1 := hid (x1.later hb2)
  have O2 := hid (o1.later hb2)
  have B2 := hid (btr b1 hb2)
  have c1 := X0.out.cells
  have f1 := X0.out.loose
  have c2 := X1.out.cells
  have f2 := X1.out.loose
  clear x0 x1 o1 b1 hb2
  go_wp2
  have hX := Kx.set6 (X1.out.grown (wst (wre w2 (some w.heap.size)) 4 (.string jr)) (by simp)) y tm (.slice ma p mc) (.slice na q nc) jr sv
  have d := hX.cells
  have g2 := wst (wst (wst (wst (wst (wst (wre (w2.setCell ⟨w.heap.size, 4, none⟩ (.string jr)) (some (w.heap.size + 1))) 0 (.int .i64 y)) 1 (.int .i64 tm)) 2 (.slice ma p mc)) 3 (.slice na q nc)) 4 (.string jr)) 5 (.int .i64 sv)
  have g3 := wst (wre w2 (some w.heap.size)) 4 (.string jr)
  have hs2 := B2.out.size
  refine bodyPost_ret (v := .agg #[.int .i64 y, .int .i64 tm, .slice ma p mc, .slice na q nc, .string jr, .int .i64 sv]) (by simp [results, Try.results22, go_sem, d]) rfl ⟨_, _, rfl, ?_, ?_⟩
  · exact ((O2.out.grown g3 (by omega)).grown g2 (by omega)).base (by omega)
  · have b3 := B2.out.trans (below_grownR g3 (by intro j hj; simp at hj; omega) hs2)
    exact b3.trans (below_grownR g2 (by intro j hj; simp at hj; omega) b3.size)
set_option maxHeartbeats 1600000 in
set_option maxRecDepth 100000 in
theorem implSave_any (lo hh lo' hh' : Nat) (y tm : Int) (ba : Option Addr) (bn bc : Nat) (ga : Option Addr) (gn gc : Nat) (jr : ByteArray) (sv : Int) (S : List X7) (G : List Int) (w : World) (hl : S.length = bn) (hn : bn ≤ 1048576) (hsm : Sb S) (hm : Bs lo hh w ba S) (hm0 : ba = none → bc = 0) (hgl : G.length = gn) (hgn : gn ≤ 1048576) (hs : Is lo' hh' w ga G) (hg0 : ga = none → gc = 0) (hjr : jr.size ≤ 1048576) :
    Calls Try.prog 13 #[.agg #[.int .i64 y, .int .i64 tm, .slice ba bn bc, .slice ga gn gc, .string jr, .int .i64 sv]] w fun e w' => ∃ bv gv, e = .returned (.agg #[.int .i64 y, .int .i64 tm, bv, gv, .string jr, .int .i64 (jr.size : Int)]) ∧ OwT w' w.heap.size bv gv S G ∧ Below w.heap.size w w' := by
  obtain ⟨W0, hW0⟩ : ∃ W0, (w.alloc (.cells #[.int .i64 y, .int .i64 tm, .slice ba bn bc, .slice ga gn gc, .string jr, .int .i64 sv] 27)).alloc (.cells #[.int .i64 0, .int .i64 0, .slice none 0 0, .slice none 0 0, .string ⟨#[]⟩, .int .i64 0] 27) = W0 := ⟨_, rfl⟩
  have a0 : Kx W0 w.heap.size 27 y tm (.slice ba bn bc) (.slice ga gn gc) jr sv := by subst hW0; exact (Kx.new w _ _ _ _ _ _ _).later (bpush (bre _) _)
  have a1 : Kx W0 (w.heap.size + 1) 27 0 0 (.slice none 0 0) (.slice none 0 0) ⟨#[]⟩ 0 := by
    have h := Kx.new (w.alloc (.cells #[.int .i64 y, .int .i64 tm, .slice ba bn bc, .slice ga gn gc, .string jr, .int .i64 sv] 27)) 27 0 0 (.slice none 0 0) (.slice none 0 0) ⟨#[]⟩ 0
    rw [hW0] at h
    simpa using h
  have b0 : Below w.heap.size w W0 := by subst hW0; exact bpush (bpush (bre _) _) _
  have HC := hid (copyKept_any lo hh lo' hh' y tm ba bn bc ga gn gc jr sv S G W0 hl hn hsm (hm.later b0) hm0 hgl hgn (hs.later b0) hg0 hjr)
  have A0 := hid a0
  have A1 := hid a1
  have B0 := hid b0
  have HW := hid hW0
  have c0 := a0.cells
  clear a0 a1 b0 hl hn hsm hm hgl hgn hs hg0 hW0 hm0 hjr
  go_enter Try.func13, Try.ntmps13
  go_wp2_with fail
  rw [HW.out]
  clear HW
  refine HC.out.mono ?_; rintro e w1 ⟨bv, gv, rfl, ho, hb⟩
  obtain ⟨ma, mc, na, nc, rfl, rfl⟩ := ho.shape
  obtain ⟨p, hp⟩ : ∃ n, S.length = n := ⟨_, rfl⟩
  obtain ⟨q, hq⟩ : ∃ n, G.length = n := ⟨_, rfl⟩
  rw [hp, hq] at ho
  rw [hp, hq]
  have LW : Hid (w.heap.size + 1 < W0.heap.size) := hid A1.out.lt
  have D0 := hid (A0.out.later hb)
  have D1 := hid (A1.out.later hb)
  have B1 := hid (btr B0.out hb)
  have HO := hid ho
  have c1 := D0.out.cells
  have f1 := D0.out.loose
  have c2 := D1.out.cells
  have f2 := D1.out.loose
  clear ho hb A0 A1 B0 hp hq c0
  go_upto_region 2 with fail
  have l1 := LW.out
  have g1 := wst (wst (wst (wst (wst (wst (wre w1 (some w.heap.size)) 0 (.int .i64 y)) 1 (.int .i64 tm)) 2 (.slice ma p mc)) 3 (.slice na q nc)) 4 (.string jr)) 5 (.int .i64 sv)
  have x0 := Kx.set6 D0.out y tm (.slice ma p mc) (.slice na q nc) jr sv
  have x1 := D1.out.grown g1 (by simp)
  have o1 := HO.out.grown g1 (by omega)
  have b1 : Below w.heap.size w _ := B1.out.trans (below_grownR g1 (by intro j hj; simp at hj; omega) B1.out.size)
  obtain ⟨V, hV⟩ : ∃ W, (((((w1.setCell ⟨w.heap.size, 0, none⟩ (.int .i64 y)).setCell ⟨w.heap.size, 1, none⟩ (.int .i64 tm)).setCell ⟨w.heap.size, 2, none⟩ (.slice ma p mc)).setCell ⟨w.heap.size, 3, none⟩ (.slice na q nc)).setCell ⟨w.heap.size, 4, none⟩ (.string jr)).setCell ⟨w.heap.size, 5, none⟩ (.int .i64 sv) = W := ⟨_, rfl⟩
  rw [hV] at x0 x1 o1 b1
  rw [hV]
  clear hV g1 c1 f1 c2 f2 HO B1 D0 D1
  have X1 := hid x1
  have O1 := hid o1
  have B1 := hid b1
  have c1 := x0.cells
  have f1 := x0.loose
  have c2 := x1.cells
  have f2 := x1.loose
  clear x0 x1 o1 b1 l1
  go_wp2
  have l1 := LW.out
  have g3 := wst (wre V (some w.heap.size)) 5 (.int .i64 (jr.size : Int))
  have hX := Kx.set6 (X1.out.grown g3 (by simp)) y tm (.slice ma p mc) (.slice na q nc) jr (jr.size : Int)
  have d := hX.cells
  have g2 := wst (wst (wst (wst (wst (wst (wre (V.setCell ⟨w.heap.size, 5, none⟩ (.int .i64 (jr.size : Int))) (some (w.heap.size + 1))) 0 (.int .i64 y)) 1 (.int .i64 tm)) 2 (.slice ma p mc)) 3 (.slice na q nc)) 4 (.string jr)) 5 (.int .i64 (jr.size : Int))
  have hs2 := B1.out.size
  refine bodyPost_ret (v := .agg #[.int .i64 y, .int .i64 tm, .slice ma p mc, .slice na q nc, .string jr, .int .i64 (jr.size : Int)]) (by simp [results, Try.results13, go_sem, d]) rfl ⟨_, _, rfl, ?_, ?_⟩
  · exact ((O1.out.grown g3 (by omega)).grown g2 (by omega)).base (by omega)
  · have b3 := B1.out.trans (below_grownR g3 (by intro j hj; simp at hj; omega) hs2)
    exact b3.trans (below_grownR g2 (by intro j hj; simp at hj; omega) b3.size)
end Go.Proofs.Ytpannfkfaagflaa
