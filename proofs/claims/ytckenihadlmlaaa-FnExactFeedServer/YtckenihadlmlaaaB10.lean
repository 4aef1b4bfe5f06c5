/- Tja, Tjb, Tjc, Tjd, Tje, Ka, Kb, Kw0, Kn. -/
import Derived.Test.YtckenihadlmlaaaB9
namespace Go.Proofs.Ytckenihadlmlaaa
open Go.RowKit Go.ChangeMaps
/-- The marks of mails, as they are meant. -/
def mm1 (k : Nat) (m : M4) : M4 := ((k : Int), ((k + 1 : Nat) : Int), mks (k + 2) m.2.2.1.length, mtx6 (k + 2 + m.2.2.1.length * 3))
def km1 (k : Nat) (m : M4) : Nat := k + 2 + m.2.2.1.length * 3 + 1
def mzl (k : Nat) : List M4 → List M4
  | [] => []
  | m :: L => mm1 k m :: mzl (km1 k m) L
theorem mzs_md (k : Nat) (Z : List Z5) : (mzs k Z).map md = mzl k (Z.map md) := by
  induction Z generalizing k with
  | nil => rfl
  | cons z Z ih =>
    simp only [mzs, List.map_cons, mzl]
    rw [ih]
    rfl
theorem mzl_len (k : Nat) (L : List M4) : (mzl k L).length = L.length := by
  induction L generalizing k with
  | nil => rfl
  | cons m L ih => simp [mzl, ih]
theorem mzl_fz (k : Nat) (L : List M4) : fz (mzl k L) = fz L := by
  induction L generalizing k with
  | nil => rfl
  | cons m L ih =>
    simp only [mzl, fz, ih]
    simp [mm1, mks_len]
theorem mzs_fix (k : Nat) (L : List M4) : ∀ Z : List Z5, Z.map md = mzl k L → mzs k Z = Z := by
  induction L generalizing k with
  | nil =>
    intro Z h
    cases Z with
    | nil => rfl
    | cons z Z => simp [mzl] at h
  | cons m L ih =>
    intro Z h
    cases Z with
    | nil => simp [mzl] at h
    | cons z Z =>
      simp only [List.map_cons, mzl, List.cons.injEq] at h
      obtain ⟨h1, h2⟩ := h
      obtain ⟨a, b, f, l, t⟩ := z
      simp only [md, mm1, Prod.mk.injEq] at h1
      obtain ⟨rfl, rfl, rfl, rfl⟩ := h1
      have e : kz1 k ((k : Int), ((k + 1 : Nat) : Int), f, mks (k + 2) m.2.2.1.length, mtx6 (k + 2 + m.2.2.1.length * 3)) = km1 k m := by simp [kz1, km1, mks_len]
      simp only [mzs]
      rw [e, ih _ Z h2]
      simp [mz1, mks_len]
theorem mdg_size (n : Nat) (h : n ≤ 9000000) : (mtx6 n).size ≤ 1048576 := by
  have h1 := mdg_len 7 n (by omega)
  have h2 : (mtx6 n).size = (mdg n).length + 1 := by simp [mtx6, ByteArray.size]
  omega
theorem mzl_sm (k : Nat) (L : List M4) (h : Sm L) (hk : k + 3 * fz L ≤ 6291456) : Sm (mzl k L) := by
  induction L generalizing k with
  | nil => intro m hm; simp [mzl] at hm
  | cons m L ih =>
    have e : fz (m :: L) = 1 + m.2.2.1.length + fz L := rfl
    intro x hx
    simp only [mzl, List.mem_cons] at hx
    rcases hx with rfl | hx
    · refine ⟨?_, ?_⟩
      · simp only [mm1, mks_len]; exact (h m (by simp)).1
      · simp only [mm1]; exact mdg_size _ (by omega)
    · exact ih (km1 k m) (fun x hx => h x (by simp [hx])) (by simp only [km1]; omega) x hx
/-- The marks of boxes. -/
def mx1 (k : Nat) (x : X7) : X7 := ((k : Int), mtx6 (k + 1), ((k + 2 : Nat) : Int), ((k + 3 : Nat) : Int), ((k + 4 : Nat) : Int), mzl (k + 5) x.2.2.2.2.2.1, mki (k + 5 + 3 * fz x.2.2.2.2.2.1) x.2.2.2.2.2.2.length)
def kx1 (k : Nat) (x : X7) : Nat := k + 5 + 3 * fz x.2.2.2.2.2.1 + x.2.2.2.2.2.2.length
def mxl (k : Nat) : List X7 → List X7
  | [] => []
  | x :: S => mx1 k x :: mxl (kx1 k x) S
def kx (k : Nat) : List X7 → Nat
  | [] => k
  | x :: S => kx (kx1 k x) S
def my1 (k : Nat) (y : Y9) : Y9 := ⟨(k : Int), mtx6 (k + 1), ((k + 2 : Nat) : Int), ((k + 3 : Nat) : Int), ((k + 4 : Nat) : Int), y.mv, y.gv, mzl (k + 5) y.L, mki (k + 5 + 3 * fz y.L) y.G.length, y.lo, y.hi⟩
def mys (k : Nat) : List Y9 → List Y9
  | [] => []
  | y :: Y => my1 k y :: mys (kx1 k (yd y)) Y
theorem mys_yd (k : Nat) (Y : List Y9) : (mys k Y).map yd = mxl k (Y.map yd) := by
  induction Y generalizing k with
  | nil => rfl
  | cons y Y ih =>
    simp only [mys, List.map_cons, mxl]
    rw [ih]
    rfl
theorem mys_len (k : Nat) (Y : List Y9) : (mys k Y).length = Y.length := by
  induction Y generalizing k with
  | nil => rfl
  | cons y Y ih => simp [mys, ih]
theorem mxl_len (k : Nat) (S : List X7) : (mxl k S).length = S.length := by
  induction S generalizing k with
  | nil => rfl
  | cons y Y ih => simp [mxl, ih]
theorem mys_snoc (k : Nat) (Y : List Y9) (y : Y9) : mys k (Y ++ [y]) = mys k Y ++ [my1 (kx k (Y.map yd)) y] := by
  induction Y generalizing k with
  | nil => rfl
  | cons x Y ih => simp [mys, kx, ih]
theorem kx_snoc (k : Nat) (S : List X7) (x : X7) : kx k (S ++ [x]) = kx1 (kx k S) x := by
  induction S generalizing k with
  | nil => rfl
  | cons y S ih => simp [kx, ih]
theorem kx_le (k : Nat) (S : List X7) : k ≤ kx k S := by
  induction S generalizing k with
  | nil => exact Nat.le_refl _
  | cons x S ih =>
    have h := ih (kx1 k x)
    have e2 : kx1 k x = k + 5 + 3 * fz x.2.2.2.2.2.1 + x.2.2.2.2.2.2.length := rfl
    show k ≤ kx (kx1 k x) S
    omega
theorem kx_take (k : Nat) (S : List X7) (i : Nat) : kx k (S.take i) ≤ kx k S := by
  induction S generalizing k i with
  | nil => simp [kx]
  | cons z Z ih =>
    cases i with
    | zero => exact Nat.le_trans (by have e2 : kx1 k z = k + 5 + 3 * fz z.2.2.2.2.2.1 + z.2.2.2.2.2.2.length := rfl; simp only [List.take_zero, kx]; omega) (kx_le (kx1 k z) Z)
    | succ i => simp only [List.take_succ_cons, kx]; exact ih _ _
theorem mys_mem (k : Nat) (Y : List Y9) : ∀ z ∈ mys k Y, ∃ y ∈ Y, z.lo = y.lo ∧ z.hi = y.hi := by
  induction Y generalizing k with
  | nil => intro z hz; simp [mys] at hz
  | cons y Y ih =>
    intro z hz
    simp only [mys, List.mem_cons] at hz
    rcases hz with rfl | hz
    · exact ⟨y, by simp, rfl, rfl⟩
    · obtain ⟨x, hx, e⟩ := ih _ z hz
      exact ⟨x, by simp [hx], e⟩
theorem mys_at (k : Nat) (Y : List Y9) (i : Nat) (h : i < Y.length) (h' : i < (mys k Y).length) : (mys k Y)[i] = my1 (kx k ((Y.take i).map yd)) Y[i] := by
  induction Y generalizing k i with
  | nil => simp at h
  | cons y Y ih =>
    cases i with
    | zero => rfl
    | succ i => simp only [mys, List.getElem_cons_succ, List.take_succ_cons, List.map_cons, kx]; exact ih _ i (by simpa using h) _
theorem dropy {X : List Y9} {i : Nat} (h : i < X.length) : X.drop i = X[i] :: X.drop (i + 1) := List.drop_eq_getElem_cons h
/-- The first five cells of a box stored. -/
theorem yc_set5 (Y : List Y9) (i : Nat) (y : Y9) (h : i < Y.length) (hm : y.mv = Y[i].mv) (hg : y.gv = Y[i].gv) :
    (((((yc Y).set (i * 7) (.int .i64 y.g)).set (i * 7 + 1) (.string y.nm)).set (i * 7 + 2) (.int .i64 y.t)).set (i * 7 + 3) (.int .i64 y.b)).set (i * 7 + 4) (.int .i64 y.nx) = yc (Y.set i y) := by
  induction Y generalizing i with
  | nil => simp at h
  | cons x Y ih =>
    cases i with
    | zero =>
      simp only [List.getElem_cons_zero] at hm hg
      simp [yc, hm, hg]
    | succ i =>
      have h' : i < Y.length := by simpa using h
      have := ih i h' (by simpa using hm) (by simpa using hg)
      have e : (i + 1) * 7 = i * 7 + 1 + 1 + 1 + 1 + 1 + 1 + 1 := by omega
      rw [e]
      simpa [yc] using this
theorem midy {P : List Y9} {x z : Y9} {C : List Y9} : (P ++ x :: C).set P.length z = P ++ z :: C := by
  rw [List.set_append_right _ _ (Nat.le_refl _)]; simp
/-- A box of an owned row marked: five cells in the row, its lists in their own blocks. -/
theorem OwS.marked {W W1 W2 : World} {B g n c i : Nat} {P C : List Y9} {y y' : Y9} (h : OwS W B (.slice (some ⟨g, 0, none⟩) n c) (P ++ y :: C)) (_hp : P.length = i) (hm : y'.mv = y.mv) (hgv : y'.gv = y.gv) (hlo : y'.lo = y.lo) (hhi : y'.hi = y.hi)
    (hc1 : Chg (fun j => j = g) W W1) (hrow : W1.ownsRow B 99 7 (.slice (some ⟨g, 0, none⟩) n c) (P ++ y' :: C).length (yc (P ++ y' :: C)))
    (hc2 : Chg (fun j => y.lo ≤ j ∧ j < y.hi) W1 W2) (ho : OwX W2 y'.lo y'.hi y'.mv y'.gv y'.L y'.G) : OwS W2 B (.slice (some ⟨g, 0, none⟩) n c) (P ++ y' :: C) := by
  have hap := List.pairwise_append.1 h.apart
  have hap2 := List.pairwise_cons.1 hap.2.1
  have hy0 : y ∈ P ++ y :: C := by simp
  have hmem : ∀ z ∈ P ++ y' :: C, z = y' ∨ (z ∈ P ++ y :: C ∧ (z.hi ≤ y.lo ∨ y.hi ≤ z.lo)) := by
    intro z hz
    rcases List.mem_append.1 hz with hz | hz
    · exact .inr ⟨by simp [hz], hap.2.2 z hz y (by simp)⟩
    · rcases List.mem_cons.1 hz with hz | hz
      · exact .inl hz
      · exact .inr ⟨by simp [hz], (hap2.1 z hz).symm⟩
  refine ⟨row_chg hrow hc2 (fun j hj => ?_), fun z hz => ?_, fun z hz => ?_, ?_⟩
  · have := h.off y hy0 j hj
    omega
  · rcases hmem z hz with rfl | ⟨hz, hd⟩
    · exact ⟨ho, by rw [hlo]; exact (h.each y hy0).2⟩
    · have hx := (h.each z hz).1
      refine ⟨hx.same (Nat.le_trans hx.top (Nat.le_trans hc1.size hc2.size)) (fun k k1 k2 => ?_), (h.each z hz).2⟩
      have hk := Nat.lt_of_lt_of_le k2 hx.top
      have := h.off z hz g rfl
      exact (hc2.block k (Nat.lt_of_lt_of_le hk hc1.size) (by omega)).trans (hc1.block k hk (by omega))
  · rcases hmem z hz with rfl | ⟨hz, _⟩
    · rw [hlo, hhi]; exact h.off y hy0
    · exact h.off z hz
  · rw [List.pairwise_append, List.pairwise_cons]
    refine ⟨hap.1, ⟨fun z hz => by rw [hlo, hhi]; exact hap2.1 z hz, hap2.2⟩, fun x hx z hz => ?_⟩
    rcases List.mem_cons.1 hz with rfl | hz
    · rw [hlo, hhi]; exact hap.2.2 x hx y (by simp)
    · exact hap.2.2 x hx z (by simp [hz])
/-- The lists of a box marked: what a call of the two marks leaves. -/
theorem OwX.marked {W W1 W2 : World} {lo hi k : Nat} {mv gv : Value} {L : List M4} {G : List Int} {Z : List Z5} (hz : Z.map md = L) (_h2 : OwZ W lo mv Z) (_h3 : OwI W lo gv G) (h4 : Dj gv mv) (h5 : ∀ z ∈ Z, Dj gv z.2.2.1) (h6 : ∀ j, mv.ownBlock = some j → j < hi) (h7 : ∀ j, gv.ownBlock = some j → j < hi) (h8 : ∀ z ∈ Z, ∀ j, z.2.2.1.ownBlock = some j → j < hi) (htop : hi ≤ W.heap.size)
    (o1 : OwZ W1 lo mv (mzs k Z)) (hs : W.heap.size ≤ W1.heap.size) (o2 : OwI W2 lo gv (mki (k + 3 * fz L) G.length)) (hg : W1.grownBy W2 gv.ownBlock) : OwX W2 lo hi mv gv (mzl k L) (mki (k + 3 * fz L) G.length) := by
  subst hz
  refine ⟨⟨mzs k Z, mzs_md k Z, ?_, o2, h4, fun z hz => ?_, h6, h7, fun z hz j hj => ?_⟩, Nat.le_trans htop (Nat.le_trans hs hg.size)⟩
  · refine o1.chg (P := fun j => gv.ownBlock = some j) (Chg.of_grown hg (fun j hj => hj)) (fun j hj h => h4 j h hj) (fun z hz j hj h => ?_)
    obtain ⟨x, hx, e⟩ := mzs_own k Z z hz
    rw [e] at hj
    exact h5 x hx j h hj
  · obtain ⟨x, hx, e⟩ := mzs_own k Z z hz
    rw [e]; exact h5 x hx
  · obtain ⟨x, hx, e⟩ := mzs_own k Z z hz
    rw [e] at hj
    exact h8 x hx j hj
/-- Boxes that are small. -/
def SmX (S : List X7) : Prop := ∀ x ∈ S, Sm x.2.2.2.2.2.1 ∧ x.2.2.2.2.2.1.length ≤ 1048576 ∧ x.2.2.2.2.2.2.length ≤ 1048576
theorem row_five {W W1 : World} {B g n c i : Nat} {P C : List Y9} {y y' : Y9} (h : OwS W B (.slice (some ⟨g, 0, none⟩) n c) (P ++ y :: C)) (hp : P.length = i) (hm : y'.mv = y.mv) (hgv : y'.gv = y.gv)
    (hb : Below (W.setCell ⟨g, i * 7, none⟩ (.int .i64 y'.g)).heap.size (W.setCell ⟨g, i * 7, none⟩ (.int .i64 y'.g)) W1) :
    (C7 W1 g (i * 7) y'.g y.nm y.t y.b y.nx y.mv y.gv ∧ ∀ j, W1.frozen? ⟨g, j, none⟩ = false) ∧
    ((((W1.setCell ⟨g, i * 7 + 1, none⟩ (.string y'.nm)).setCell ⟨g, i * 7 + 2, none⟩ (.int .i64 y'.t)).setCell ⟨g, i * 7 + 3, none⟩ (.int .i64 y'.b)).setCell ⟨g, i * 7 + 4, none⟩ (.int .i64 y'.nx)).ownsRow B 99 7 (.slice (some ⟨g, 0, none⟩) n c) (P ++ y' :: C).length (yc (P ++ y' :: C)) ∧
    Chg (fun j => j = g) W ((((W1.setCell ⟨g, i * 7 + 1, none⟩ (.string y'.nm)).setCell ⟨g, i * 7 + 2, none⟩ (.int .i64 y'.t)).setCell ⟨g, i * 7 + 3, none⟩ (.int .i64 y'.b)).setCell ⟨g, i * 7 + 4, none⟩ (.int .i64 y'.nx)) := by
  have hil : i < (P ++ y :: C).length := by rw [List.length_append, hp, List.length_cons]; omega
  have hyi : (P ++ y :: C)[i] = y := by
    rw [List.getElem_append_right (by omega)]
    simp [hp]
  obtain rfl := h.bs.1
  have h1 := (World.ownsRow.stored h.row (i * 7) (.int .i64 y'.g)).1
  have h2 := own_later h1 hb
  have h3 := (World.ownsRow.stored h2 (i * 7 + 1) (.string y'.nm)).1
  have h4 := (World.ownsRow.stored h3 (i * 7 + 2) (.int .i64 y'.t)).1
  have h5 := (World.ownsRow.stored h4 (i * 7 + 3) (.int .i64 y'.b)).1
  have h6 := (World.ownsRow.stored h5 (i * 7 + 4) (.int .i64 y'.nx)).1
  rw [yc_set5 _ i y' hil (by rw [hyi]; exact hm) (by rw [hyi]; exact hgv)] at h6
  have hms : (P ++ y :: C).set i y' = P ++ y' :: C := by rw [← hp]; exact midy
  rw [hms] at h6
  have hlen : (P ++ y' :: C).length = (P ++ y :: C).length := by simp
  have e := yc_at (P ++ y :: C) i hil
  rw [hyi] at e
  have hyl := yc_len (P ++ y :: C)
  refine ⟨⟨⟨?_, ?_, ?_, ?_, ?_, ?_, ?_⟩, fun j => h2.frozenAt _⟩, by rw [hlen]; exact h6, ?_⟩
  · exact (h2.cellAt _ (by omega)).trans (by rw [List.getElem?_set_self (by omega)])
  · exact (h2.cellAt _ (by omega)).trans (by rw [List.getElem?_set_ne (by omega)]; exact e.2.1)
  · exact (h2.cellAt _ (by omega)).trans (by rw [List.getElem?_set_ne (by omega)]; exact e.2.2.1)
  · exact (h2.cellAt _ (by omega)).trans (by rw [List.getElem?_set_ne (by omega)]; exact e.2.2.2.1)
  · exact (h2.cellAt _ (by omega)).trans (by rw [List.getElem?_set_ne (by omega)]; exact e.2.2.2.2.1)
  · exact (h2.cellAt _ (by omega)).trans (by rw [List.getElem?_set_ne (by omega)]; exact e.2.2.2.2.2.1)
  · exact (h2.cellAt _ (by omega)).trans (by rw [List.getElem?_set_ne (by omega)]; exact e.2.2.2.2.2.2)
  · exact Chg.trans (Chg.trans (Chg.of_grown (r := some g) (wst (wre _ _) _ _) (fun j hj => by simpa using hj.symm)) (Chg.of_below hb)) (Chg.of_grown (r := some g) (wst (wst (wst (wst (wre _ _) _ _) _ _) _ _) _ _) (fun j hj => by simpa using hj.symm))
theorem row_gv {W : World} {B g n c i : Nat} {P C : List Y9} {y : Y9} (h : W.ownsRow B 99 7 (.slice (some ⟨g, 0, none⟩) n c) (P ++ y :: C).length (yc (P ++ y :: C))) (hp : P.length = i) : W.cell? ⟨g, i * 7 + 6, none⟩ = some y.gv := by
  have hil : i < (P ++ y :: C).length := by rw [List.length_append, hp, List.length_cons]; omega
  have hyi : (P ++ y :: C)[i] = y := by
    rw [List.getElem_append_right (by omega)]
    simp [hp]
  have e := yc_at (P ++ y :: C) i hil
  rw [hyi] at e
  obtain rfl : n = (P ++ y :: C).length := by
    rcases h.2 with ⟨h1, _⟩ | ⟨g', cap', cur, h1, _⟩
    · simp at h1
    · simp only [Value.slice.injEq] at h1; exact h1.2.1
  exact (h.cellAt _ (by omega)).trans e.2.2.2.2.2.2
set_option maxHeartbeats 8000000 in
set_option maxRecDepth 100000 in
theorem markBS_any (P : Nat → Prop) (B : Nat) (a : Option Addr) (n cap k : Nat) (Y : List Y9) (w : World) (hown : OwS w B (.slice a n cap) Y) (hl : Y.length = n) (hn : n ≤ 1048576) (hk : 0 < k) (hkz : kx k (Y.map yd) ≤ 6291456) (hsm : SmX (Y.map yd)) (hv : ∀ j, Value.ownBlock (.slice a n cap) = some j → P j) (he : ∀ y ∈ Y, ∀ j, y.lo ≤ j → j < y.hi → P j) :
    Calls Try.prog 55 #[.slice a n cap, .int .i64 (k : Int)] w fun e w' => e = .returned (.int .i64 (kx k (Y.map yd) : Int)) ∧ OwS w' B (.slice a n cap) (mys k Y) ∧ Chg P w w' := by
  have HO := hid hown
  have HL := hid hl
  have HV := hid hv
  have HEE := hid he
  have HK := hid hk
  have HKZ := hid hkz
  have HSM := hid hsm
  clear hown hl hv he hk hkz hsm
  go_enter Try.func55, Try.ntmps55
  go_wp2
  go_loopw [1, 5] (fun kv iv wr => ∃ i : Nat, i ≤ n ∧ kv = .int .i64 ((kx k ((Y.take i).map yd) : Nat) : Int) ∧ iv = .int .i64 (i : Int) ∧ OwS wr B (.slice a n cap) (mys k (Y.take i) ++ Y.drop i) ∧ Chg P w wr) (fun _ iv _ => n - (intOf iv).toNat)
  case atStart => exact ⟨0, Nat.zero_le _, by simp [kx], rfl, by simpa [mys] using HO.out, Chg.refl _ _⟩
  case round =>
    obtain ⟨i, hin, rfl, rfl, hown, hc⟩ := hrel
    have HOW := hid hown
    have HC := hid hc
    clear hown hc
    by_cases hlt : i < n
    · have hiz : i < Y.length := by rw [HL.out]; exact hlt
      have hz := dropy hiz
      have hpl : (mys k (Y.take i)).length = i := by rw [mys_len, List.length_take]; omega
      have hown := HOW.out
      rw [hz] at hown
      rcases hown.row.2 with ⟨_, h2⟩ | ⟨gr, cap', cur, h1, hB, _⟩
      · exfalso
        rw [List.length_append, List.length_cons] at h2
        omega
      simp only [Value.slice.injEq] at h1
      obtain ⟨rfl, -, rfl⟩ := h1
      have hyl : i < (mys k (Y.take i) ++ Y[i] :: Y.drop (i + 1)).length := by rw [List.length_append, hpl, List.length_cons]; omega
      obtain ⟨c, f⟩ := hown.spot i hyl
      have hyi : (mys k (Y.take i) ++ Y[i] :: Y.drop (i + 1))[i] = Y[i] := by
        rw [List.getElem_append_right (by omega)]
        simp [hpl]
      rw [hyi] at c
      have hkq := kx_snoc k ((Y.take i).map yd) (yd Y[i])
      have hmq := mys_snoc k (Y.take i) Y[i]
      have htk : (Y.take (i + 1)).map yd = (Y.take i).map yd ++ [yd Y[i]] := by rw [List.take_succ_eq_append_getElem hiz, List.map_append]; rfl
      rw [← htk] at hkq
      rw [← List.take_succ_eq_append_getElem hiz] at hmq
      have hlim : kx k ((Y.take (i + 1)).map yd) ≤ 6291456 := Nat.le_trans (by rw [List.map_take]; exact kx_take k (Y.map yd) (i + 1)) HKZ.out
      have hge := kx_le k ((Y.take i).map yd)
      have hmem : Y[i] ∈ mys k (Y.take i) ++ Y[i] :: Y.drop (i + 1) := List.mem_append.2 (.inr (List.mem_cons_self ..))
      have heach := (hown.each Y[i] hmem).1
      have hoff := hown.off Y[i] hmem gr rfl
      have hbl := HEE.out Y[i] (List.getElem_mem hiz)
      have hsx := HSM.out (yd Y[i]) (List.mem_map_of_mem (List.getElem_mem hiz))
      obtain ⟨q, hq⟩ : ∃ q : Nat, kx k ((Y.take i).map yd) = q := ⟨_, rfl⟩
      rw [hq] at hkq hmq hge
      obtain ⟨x, hxe⟩ : ∃ x, Y[i] = x := ⟨_, rfl⟩
      rw [hxe] at c hkq hmq heach hoff hbl hown hsx
      have HFV := fun (W1 : World) hb => row_five (W := wr) (W1 := W1) (y' := my1 q x) hown hpl rfl rfl hb
      have HMK := fun (W1 W2 : World) h1 h2 h3 h4 => OwS.marked (W := wr) (W1 := W1) (W2 := W2) (y' := my1 q x) hown hpl rfl rfl rfl rfl h1 h2 h3 h4
      obtain ⟨g1, nm1, t1, b1, nx1, mv1, gv1, L1, G1, lo1, hi1⟩ := x
      have hrd := heach.reads
      obtain ⟨ma, mc, ga, gc, hmv, hgv, _⟩ := hrd
      dsimp only at hmv hgv
      subst hmv hgv
      obtain ⟨Z, hz1, hz2, hz3, hz4, hz5, hz6, hz7, hz8⟩ := heach.own
      have htop := heach.top
      obtain ⟨mn, hmn⟩ : ∃ m, L1.length = m := ⟨_, rfl⟩
      obtain ⟨gn, hgn⟩ : ∃ m, G1.length = m := ⟨_, rfl⟩
      obtain ⟨fzn, hfz⟩ : ∃ m, fz L1 = m := ⟨_, rfl⟩
      dsimp only [yd] at hsx hbl hoff c hz1 hz2 hz3 hz4 hz5 hz6 hz7 hz8 htop
      dsimp only [yd, kx1] at hkq
      rw [hmn, hgn] at c
      rw [hfz, hgn] at hkq
      rw [hmn] at hz2 hz4 hz6
      rw [hgn] at hz3 hz4 hz5 hz7
      have hlq : q + 5 + 3 * fzn + gn ≤ 6291456 := by rw [← hkq]; exact hlim
      have hmb : mn ≤ 1048576 := by rw [← hmn]; exact hsx.2.1
      have hgb : gn ≤ 1048576 := by rw [← hgn]; exact hsx.2.2
      have HSX := hid hsx.1
      have HMN := hid hmn
      have HGN := hid hgn
      have HFZ := hid hfz
      have HKQ := hid hkq
      have HMQ := hid hmq
      have HX := hid heach
      have HOF := hid hoff
      have HBL := hid hbl
      have HHI := hid (HV.out gr rfl)
      have HGR : Hid (gr < wr.heap.size) := (hown.row.lt gr rfl).2
      have HFV2 := hid HFV
      have HMK2 := hid HMK
      have HZ1 := hid hz1
      have HZ2 := hid hz2
      have HZ3 := hid hz3
      have HZ4 := hid hz4
      have HZ5 := hid hz5
      have HZ6 := hid hz6
      have HZ7 := hid hz7
      have HZ8 := hid hz8
      have HTP := hid htop
      have HK0 := HK.out
      have HPL := hid hpl
      rw [hq]
      simp only [C7] at c
      clear hown hkq hmq heach hoff hbl hB hyl hyi hz hmn hgn hfz hxe hq hlim hpl hmem htk hsx hz1 hz2 hz3 hz4 hz5 hz6 hz7 hz8 htop HFV HMK
      go_wp2_with fail
      rw [show ((q : Int) + 1) = ((q + 1 : Nat) : Int) by omega]
      refine (markText_any (q + 1) _ (by omega) (by omega)).mono ?_; rintro e w1 ⟨rfl, hb1⟩
      obtain ⟨⟨c1, f1⟩, R1, X1⟩ := HFV2.out w1 hb1
      dsimp only [my1, C7] at c1 R1 X1
      rw [HMN.out, HGN.out] at c1
      obtain ⟨W6, hW6⟩ : ∃ W6, ((((w1.setCell ⟨gr, i * 7 + 1, none⟩ (.string (mtx6 (q + 1)))).setCell ⟨gr, i * 7 + 2, none⟩ (.int .i64 ((q + 2 : Nat) : Int))).setCell ⟨gr, i * 7 + 3, none⟩ (.int .i64 ((q + 3 : Nat) : Int))).setCell ⟨gr, i * 7 + 4, none⟩ (.int .i64 ((q + 4 : Nat) : Int))) = W6 := ⟨_, rfl⟩
      rw [hW6] at R1 X1
      have R2 := hid R1
      have X2 := hid X1
      have HW6 := hid hW6
      have C6 : W6.cell? ⟨gr, i * 7 + 6, none⟩ = some (.slice ga G1.length gc) := row_gv R1 HPL.out
      rw [HGN.out] at C6
      clear hb1 R1 X1 hW6 c f
      go_wp2_with fail
      rw [show (q : Int) + 1 + 1 + 1 + 1 + 1 = ((q + 5 : Nat) : Int) by omega, show (q : Int) + 1 + 1 + 1 + 1 = ((q + 4 : Nat) : Int) by omega, show (q : Int) + 1 + 1 + 1 = ((q + 3 : Nat) : Int) by omega, show (q : Int) + 1 + 1 = ((q + 2 : Nat) : Int) by omega, show i * 7 + 2 + 1 = i * 7 + 3 from rfl, HW6.out]
      have hkz5 : kz (q + 5) Z = q + 5 + 3 * fzn := by rw [kz_fz, HZ1.out, HFZ.out]
      have HPQ : ∀ j, (Value.ownBlock (.slice ma mn mc) = some j ∨ ∃ z ∈ Z, z.2.2.1.ownBlock = some j) → lo1 ≤ j ∧ j < hi1 := by
        rintro j (h | ⟨z, hz, h⟩)
        · exact ⟨(HZ2.out.row.lt j h).1, HZ6.out j h⟩
        · exact ⟨((HZ2.out.each z hz).lt j h).1, HZ8.out z hz j h⟩
      have HPQ2 := hid HPQ
      clear HPQ
      refine (markMS6_any (fun j => Value.ownBlock (.slice ma mn mc) = some j ∨ ∃ z ∈ Z, z.2.2.1.ownBlock = some j) lo1 ma mn mc (q + 5) Z W6 (HZ2.out.chg X2.out (fun j hj e => by have h1 := HPQ2.out j (.inl hj); have h3 := HOF.out; omega) (fun z hz j hj e => by have h1 := HPQ2.out j (.inr ⟨z, hz, hj⟩); have h3 := HOF.out; omega)) (by rw [← HMN.out, ← HZ1.out, List.length_map]) hmb (by omega) (by rw [hkz5]; omega) (by rw [HZ1.out]; exact HSX.out) (fun j hj => .inl hj) (fun z hz j hj => .inr ⟨z, hz, hj⟩)).mono ?_
      rintro e w7 ⟨rfl, ho7, hc7⟩
      rw [hkz5]
      have c7 : w7.cell? ⟨gr, i * 7 + 6, none⟩ = some (.slice ga gn gc) := (cell_same (p := ⟨gr, _, none⟩) (hc7.block gr (Nat.lt_of_lt_of_le HGR.out X2.out.size) (fun e => by have h1 := HPQ2.out gr e; have h3 := HOF.out; omega))).trans C6
      have HO7 := hid ho7
      have HC7 := hid hc7
      have c8 : OwI w7 lo1 (.slice ga gn gc) G1 := row_chg (row_chg HZ3.out X2.out (fun j hj e => by have h1 := HZ7.out j hj; have h2 := (HZ3.out.lt j hj).1; have h3 := HOF.out; omega)) hc7 (by
        rintro j hj (h | ⟨z, hz, h⟩)
        · exact HZ4.out j hj h
        · exact HZ5.out z hz j hj h)
      have HC8 := hid c8
      clear ho7 hc7 hkz5 c1 f1 C6 c8
      go_wp2_with fail
      rw [show (q : Int) + 5 + 3 * (fzn : Int) = ((q + 5 + 3 * fzn : Nat) : Int) by omega]
      refine (markIS_any lo1 ga gn gc (q + 5 + 3 * fzn) G1 w7 HC8.out HGN.out hgb (by omega)).mono ?_; rintro e w8 ⟨rfl, ho8, hg8⟩
      have HXN : OwX w8 lo1 hi1 (.slice ma L1.length mc) (.slice ga G1.length gc) (mzl (q + 5) L1) (mki (q + 5 + 3 * fz L1) G1.length) := by
        rw [HMN.out, HFZ.out, HGN.out]
        have h := OwX.marked (W := wr) (W1 := w7) (W2 := w8) (hi := hi1) (k := q + 5) HZ1.out HZ2.out HZ3.out HZ4.out HZ5.out HZ6.out HZ7.out HZ8.out HTP.out HO7.out (Nat.le_trans X2.out.size HC7.out.size) (by rw [HFZ.out, HGN.out]; exact ho8) hg8
        rw [HFZ.out, HGN.out] at h
        exact h
      have HCH : Chg (fun j => lo1 ≤ j ∧ j < hi1) W6 w8 := Chg.trans (HC7.out.mono HPQ2.out) (Chg.of_grown hg8 (fun j hj => ⟨(HZ3.out.lt j hj).1, HZ7.out j hj⟩))
      have HFI := hid (HMK2.out W6 w8 X2.out R2.out HCH HXN)
      have HCW : Hid (Chg P wr w8) := Chg.trans (X2.out.mono (fun j hj => by subst hj; exact HHI.out)) (HCH.mono (fun j hj => HBL.out j hj.1 hj.2))
      clear ho8 hg8 HXN HCH
      go_wp2
      go_roundw
      case rel =>
        refine ⟨i + 1, by omega, by rw [HKQ.out]; go_num, by go_num, ?_, Chg.trans HC.out HCW.out⟩
        rw [HMQ.out, List.append_assoc]
        exact HFI.out
      case measure => simp [intOf]; omega
    · have HE1 : Hid (Y.take i = Y) := List.take_of_length_le (by rw [HL.out]; omega)
      have HE2 : Hid (Y.drop i = []) := List.drop_of_length_le (by rw [HL.out]; omega)
      go_wp2
      go_ret
      have h := HOW.out
      rw [HE1.out, HE2.out, List.append_nil] at h
      exact ⟨by rw [HE1.out]; rfl, h, HC.out⟩
set_option maxHeartbeats 8000000 in
set_option maxRecDepth 100000 in
theorem heldBS_any (B : Nat) (a : Option Addr) (n cap k : Nat) (Y : List Y9) (w : World) (hown : OwS w B (.slice a n cap) (mys k Y)) (hl : Y.length = n) (hn : n ≤ 1048576) (hk : 0 < k) (hkz : kx k (Y.map yd) ≤ 6291456) (hsm : SmX (Y.map yd)) :
    Calls Try.prog 56 #[.slice a n cap, .int .i64 (k : Int)] w fun e w' => e = .returned (.int .i64 (kx k (Y.map yd) : Int)) ∧ Below w.heap.size w w' := by
  have HO := hid hown
  have HL := hid hl
  have HK := hid hk
  have HKZ := hid hkz
  have HSM := hid hsm
  clear hown hl hk hkz hsm
  go_enter Try.func56, Try.ntmps56
  go_wp2
  go_loopw [1, 5] (fun kv iv wr => ∃ i : Nat, i ≤ n ∧ kv = .int .i64 ((kx k ((Y.take i).map yd) : Nat) : Int) ∧ iv = .int .i64 (i : Int) ∧ Below w.heap.size w wr) (fun _ iv _ => n - (intOf iv).toNat)
  case atStart => exact ⟨0, Nat.zero_le _, by simp [kx], rfl, bre _⟩
  case round =>
    obtain ⟨i, hin, rfl, rfl, hb⟩ := hrel
    have HB := hid hb
    clear hb
    by_cases hlt : i < n
    · have hiz : i < Y.length := by rw [HL.out]; exact hlt
      have hown := HO.out.later HB.out
      have hyl : i < (mys k Y).length := by rw [mys_len]; exact hiz
      rcases hown.row.2 with ⟨_, h2⟩ | ⟨gr, cap', cur, h1, hB, hr⟩
      · exfalso
        omega
      simp only [Value.slice.injEq] at h1
      obtain ⟨rfl, -, rfl⟩ := h1
      clear hr
      obtain ⟨c, -⟩ := hown.spot i hyl
      have heach := (hown.each _ (List.getElem_mem hyl)).1
      rw [mys_at k Y i hiz hyl] at c heach
      have hkq := kx_snoc k ((Y.take i).map yd) (yd Y[i])
      have htk : (Y.take (i + 1)).map yd = (Y.take i).map yd ++ [yd Y[i]] := by rw [List.take_succ_eq_append_getElem hiz, List.map_append]; rfl
      rw [← htk] at hkq
      have hlim : kx k ((Y.take (i + 1)).map yd) ≤ 6291456 := Nat.le_trans (by rw [List.map_take]; exact kx_take k (Y.map yd) (i + 1)) HKZ.out
      have hge := kx_le k ((Y.take i).map yd)
      have hsx := HSM.out (yd Y[i]) (List.mem_map_of_mem (List.getElem_mem hiz))
      have hgr : gr < wr.heap.size := (hown.row.lt gr rfl).2
      obtain ⟨q, hq⟩ : ∃ q : Nat, kx k ((Y.take i).map yd) = q := ⟨_, rfl⟩
      rw [hq] at hkq hge c heach
      obtain ⟨x, hxe⟩ : ∃ x, Y[i] = x := ⟨_, rfl⟩
      rw [hxe] at c hkq heach hsx
      obtain ⟨g1, nm1, t1, b1, nx1, mv1, gv1, L1, G1, lo1, hi1⟩ := x
      obtain ⟨ma, mc, ga, gc, hmv, hgv, _⟩ := heach.reads
      simp only [my1, mzl_len, mki_len] at hmv hgv
      subst hmv hgv
      obtain ⟨Z, hz1, hz2, hz3, -⟩ := heach.own
      dsimp only [my1] at hz1 hz2 hz3 c
      have hzf := mzs_fix _ _ Z hz1
      obtain ⟨mn, hmn⟩ : ∃ m, L1.length = m := ⟨_, rfl⟩
      obtain ⟨gn, hgn⟩ : ∃ m, G1.length = m := ⟨_, rfl⟩
      obtain ⟨fzn, hfz⟩ : ∃ m, fz L1 = m := ⟨_, rfl⟩
      dsimp only [yd] at hsx
      dsimp only [yd, kx1] at hkq
      rw [hmn] at hz2
      rw [hgn, hfz] at hz3
      rw [hmn, hgn] at c
      rw [hfz, hgn] at hkq
      have hlq : q + 5 + 3 * fzn + gn ≤ 6291456 := by rw [← hkq]; exact hlim
      have hmb : mn ≤ 1048576 := by rw [← hmn]; exact hsx.2.1
      have hgb : gn ≤ 1048576 := by rw [← hgn]; exact hsx.2.2
      have hzl : Z.length = mn := by have h := congrArg List.length hz1; rw [List.length_map, mzl_len] at h; rw [h]; exact hmn
      have hsmz : Sm (Z.map md) := by rw [hz1]; exact mzl_sm _ _ hsx.1 (by rw [hfz]; omega)
      have hkzz : kz (q + 5) Z = q + 5 + 3 * fzn := by rw [kz_fz, hz1, mzl_fz, hfz]
      have HZ2 : Hid (OwZ wr lo1 (.slice ma mn mc) (mzs (q + 5) Z)) := by show OwZ _ _ _ _; rw [hzf]; exact hz2
      have HZ3 := hid hz3
      have HZL := hid hzl
      have HSZ := hid hsmz
      have HKK := hid hkzz
      have HKQ := hid hkq
      have HK0 := HK.out
      obtain ⟨tx, htx⟩ : ∃ tx, mtx6 (q + 1) = tx := ⟨_, rfl⟩
      rw [htx] at c
      have HTX := hid htx
      have e1 : ((q : Int) != (q : Int)) = false := by simp
      have e2 : (((q : Int) + 1 + 1) != ((q : Int) + 1 + 1)) = false := by simp
      have e5 : (((q : Int) + 1 + 1 + 1) != ((q : Int) + 1 + 1 + 1)) = false := by simp
      have e6 : (((q : Int) + 1 + 1 + 1 + 1) != ((q : Int) + 1 + 1 + 1 + 1)) = false := by simp
      have e4 : (!tx.toList == tx.toList) = false := by simp
      have hI : (0 : Int) ≤ (i : Int) ∧ (i : Int) < (n : Int) := by omega
      rw [show ((q + 2 : Nat) : Int) = (q : Int) + 1 + 1 by omega, show ((q + 3 : Nat) : Int) = (q : Int) + 1 + 1 + 1 by omega, show ((q + 4 : Nat) : Int) = (q : Int) + 1 + 1 + 1 + 1 by omega] at c
      have HSS : Hid (∀ W, Below wr.heap.size wr W → (W.cell? ⟨gr, i * 7, none⟩ = some (.int .i64 q) ∧ W.cell? ⟨gr, i * 7 + 1, none⟩ = some (.string tx) ∧ W.cell? ⟨gr, i * 7 + 2, none⟩ = some (.int .i64 (q + 1 + 1)) ∧ W.cell? ⟨gr, i * 7 + 3, none⟩ = some (.int .i64 (q + 1 + 1 + 1)) ∧ W.cell? ⟨gr, i * 7 + 4, none⟩ = some (.int .i64 (q + 1 + 1 + 1 + 1)) ∧ W.cell? ⟨gr, i * 7 + 5, none⟩ = some (.slice ma mn mc) ∧ W.cell? ⟨gr, i * 7 + 6, none⟩ = some (.slice ga gn gc))) := fun W h => C7.later c hgr h
      rw [hq]
      simp only [C7] at c
      clear hown heach hkq hyl hmn hgn hfz hxe hq hlim htx hgr hB hz1 hz2 hz3 hzf hzl hsmz hkzz hsx htk
      go_wp2_with fail
      go_region_held3 (fun W => W.cell? ⟨gr, i * 7, none⟩ = some (.int .i64 q) ∧ W.cell? ⟨gr, i * 7 + 1, none⟩ = some (.string tx) ∧ W.cell? ⟨gr, i * 7 + 2, none⟩ = some (.int .i64 (q + 1 + 1)) ∧ W.cell? ⟨gr, i * 7 + 3, none⟩ = some (.int .i64 (q + 1 + 1 + 1)) ∧ W.cell? ⟨gr, i * 7 + 4, none⟩ = some (.int .i64 (q + 1 + 1 + 1 + 1)) ∧ W.cell? ⟨gr, i * 7 + 5, none⟩ = some (.slice ma mn mc) ∧ W.cell? ⟨gr, i * 7 + 6, none⟩ = some (.slice ga gn gc))
        ((refine HSS.out _ ?_; repeat (first | exact bdr (bre _) | refine btr ?_ (by assumption))))
        ((go_at_call 67; rw [show ((q : Int) + 1) = ((q + 1 : Nat) : Int) by omega]; refine (markText_any (q + 1) _ (by omega) (by omega)).mono ?_; rintro e w1 ⟨rfl, hb1⟩; rw [HTX.out]))
      have HB1 : Hid (Below wr.heap.size wr w1) := by show Below _ _ _; repeat (first | exact bdr (bre _) | refine btr ?_ (by assumption))
      have c2 := HSS.out w1 HB1.out
      go_wp2_with fail
      rw [show (q : Int) + 1 + 1 + 1 + 1 + 1 = ((q + 5 : Nat) : Int) by omega]
      refine (heldMS6_any lo1 ma mn mc (q + 5) Z _ (HZ2.out.later HB1.out) HZL.out hmb (by omega) (by rw [HKK.out]; omega) HSZ.out).mono ?_; rintro e w2 ⟨rfl, hb2⟩
      rw [HKK.out]
      have HB2 := hid (btr HB1.out hb2)
      have c3 := HSS.out w2 HB2.out
      have e7 : ¬ (((q + 5 + 3 * fzn : Nat) : Int) < 0) := by omega
      clear hb2 c2 c
      go_wp2_with fail
      rw [show (q : Int) + 5 + 3 * (fzn : Int) = ((q + 5 + 3 * fzn : Nat) : Int) by omega]
      refine (heldIS_any lo1 ga gn gc (q + 5 + 3 * fzn) _ (own_later HZ3.out HB2.out) hgb (by omega)).mono ?_; rintro e w3 ⟨rfl, hw3⟩
      subst hw3
      have e8 : ¬ (((q + 5 + 3 * fzn + gn : Nat) : Int) < 0) := by omega
      have HB3 := hid (btr HB.out HB2.out)
      go_wp2
      go_roundw
      case rel => exact ⟨i + 1, by omega, by rw [HKQ.out]; go_num, by go_num, HB3.out⟩
      case measure => simp [intOf]; omega
    · have HE1 : Hid (Y.take i = Y) := List.take_of_length_le (by rw [HL.out]; omega)
      go_wp2
      go_ret
      exact ⟨by rw [HE1.out]; rfl, HB.out⟩
/-- The lists of a store that a call owns, in blocks below hi. -/
def OwU (W : World) (B hi : Nat) (bv gv : Value) (S : List X7) (G : List Int) : Prop :=
  ∃ Y, Y.map yd = S ∧ OwS W B bv Y ∧ OwI W B gv G ∧ Dj gv bv ∧ (∀ y ∈ Y, ∀ j, gv.ownBlock = some j → j < y.lo ∨ y.hi ≤ j) ∧ (∀ j, bv.ownBlock = some j → j < hi) ∧ (∀ j, gv.ownBlock = some j → j < hi) ∧ ∀ y ∈ Y, y.hi ≤ hi
section
variable {W W' : World} {B B' hi : Nat} {bv gv : Value} {S : List X7} {G : List Int} {P : Nat → Prop}
theorem OwT.u (h : OwT W B bv gv S G) : OwU W B W.heap.size bv gv S G := by
  obtain ⟨Y, h1, h2, h3, h4, h5⟩ := h.own
  exact ⟨Y, h1, h2, h3, h4, h5, fun j hj => (h2.row.lt j hj).2, fun j hj => (h3.lt j hj).2, fun y hy => (h2.each y hy).1.top⟩
theorem OwU.t (h : OwU W B hi bv gv S G) : OwT W B bv gv S G := by
  obtain ⟨Y, h1, h2, h3, h4, h5, _⟩ := h
  exact ⟨Y, h1, h2, h3, h4, h5⟩
theorem OwU.later (h : OwU W B hi bv gv S G) (hb : Below W.heap.size W W') : OwU W' B hi bv gv S G := by
  obtain ⟨Y, h1, h2, h3, h4⟩ := h
  exact ⟨Y, h1, h2.later hb, own_later h3 hb, h4⟩
theorem OwU.base (h : OwU W B' hi bv gv S G) (hB : B ≤ B') : OwU W B hi bv gv S G := by
  obtain ⟨Y, h1, h2, h3, h4⟩ := h
  exact ⟨Y, h1, h2.base hB, own_base h3 hB, h4⟩
theorem OwU.chg (h : OwU W B hi bv gv S G) (hc : Chg P W W') (hp : ∀ j, B ≤ j → j < hi → ¬ P j) : OwU W' B hi bv gv S G := by
  obtain ⟨Y, h1, h2, h3, h4, h5, h6, h7, h8⟩ := h
  refine ⟨Y, h1, h2.kept hc.size (fun j hj => hc.block j (h2.row.lt j hj).2 (hp j (h2.row.lt j hj).1 (h6 j hj))) (fun y hy j j1 j2 => hc.block j (Nat.lt_of_lt_of_le j2 (h2.each y hy).1.top) (hp j (Nat.le_trans (h2.each y hy).2 j1) (Nat.lt_of_lt_of_le j2 (h8 y hy)))), row_chg h3 hc (fun j hj => hp j (h3.lt j hj).1 (h7 j hj)), h4, h5, h6, h7, h8⟩
end
theorem Sx.chg {P : Nat → Prop} {W W' : World} {k ty : Nat} {y tm : Int} {bv gv : Value} (h : Sx W k ty y tm bv gv) (hc : Chg P W W') (hk : ¬ P k) : Sx W' k ty y tm bv gv := (hc.block k h.lt hk).trans h
set_option maxHeartbeats 800000 in
set_option maxRecDepth 100000 in
theorem markStore_any (B hi : Nat) (y tm : Int) (ma : Option Addr) (mn mc : Nat) (ga : Option Addr) (gn gc : Nat) (S : List X7) (G : List Int) (w : World) (hown : OwU w B hi (.slice ma mn mc) (.slice ga gn gc) S G) (hl : S.length = mn) (hn : mn ≤ 1048576) (hsm : SmX S) (hgl : G.length = gn) (hgn : gn ≤ 1048576) (hfz : kx 1 S ≤ 6291456) :
    Calls Try.prog 40 #[.agg #[.int .i64 y, .int .i64 tm, .slice ma mn mc, .slice ga gn gc], .int .i64 1] w fun e w' => e = .returned (.int .i64 ((kx 1 S + gn : Nat) : Int)) ∧ OwU w' B hi (.slice ma mn mc) (.slice ga gn gc) (mxl 1 S) (mki (kx 1 S) gn) ∧ Chg (fun j => B ≤ j ∧ j < hi) w w' := by
  obtain ⟨Y, rfl, hz, hii, hd, hdz, hv1, hv2, hv3⟩ := hown
  have hlt : ∀ j, (Value.ownBlock (.slice ma mn mc) = some j ∨ ∃ z ∈ Y, z.lo ≤ j ∧ j < z.hi) → j < w.heap.size := by
    rintro j (h | ⟨z, hzz, _, h⟩)
    · exact (hz.row.lt j h).2
    · exact Nat.lt_of_lt_of_le h (hz.each z hzz).1.top
  have hbl : ∀ j, (Value.ownBlock (.slice ma mn mc) = some j ∨ ∃ z ∈ Y, z.lo ≤ j ∧ j < z.hi) → B ≤ j ∧ j < hi := by
    rintro j (h | ⟨z, hzz, h1, h2⟩)
    · exact ⟨(hz.row.lt j h).1, hv1 j h⟩
    · exact ⟨Nat.le_trans (hz.each z hzz).2 h1, Nat.lt_of_lt_of_le h2 (hv3 z hzz)⟩
  have HLT := hid hlt
  have HBL := hid hbl
  have HV1 := hid hv1
  have HV2 := hid hv2
  have HV3 := hid hv3
  obtain ⟨W0, hW0⟩ : ∃ W0, w.alloc (.cells #[.int .i64 y, .int .i64 tm, .slice ma mn mc, .slice ga gn gc] 25) = W0 := ⟨_, rfl⟩
  have a0 : Sx W0 w.heap.size 25 y tm (.slice ma mn mc) (.slice ga gn gc) := by subst hW0; exact Sx.new w _ y tm _ _
  have b0 : Below w.heap.size w W0 := by subst hW0; exact bpush (bre _) _
  have c0 := a0.cells
  have HC := markBS_any (fun j => Value.ownBlock (.slice ma mn mc) = some j ∨ ∃ z ∈ Y, z.lo ≤ j ∧ j < z.hi) B ma mn mc 1 Y W0 (hz.later b0) (by rw [← hl, List.length_map]) hn (by omega) hfz hsm (fun j hj => .inl hj) (fun z hz j h1 h2 => .inr ⟨z, hz, h1, h2⟩)
  have HCC := hid HC
  have HZ := hid hz
  have HI := hid hii
  have HD := hid hd
  have HDZ := hid hdz
  have A0 := hid a0
  have B0 := hid b0
  have HGL := hid hgl
  obtain ⟨q, hq⟩ : ∃ q, kx 1 (Y.map yd) = q := ⟨_, rfl⟩
  have hqb : q ≤ 6291456 := by rw [← hq]; exact hfz
  have HQ := hid hq
  rw [hq]
  clear hbl HC hz hii hd hdz a0 b0 hgl hsm hfz hl hlt hv1 hv2 hv3
  go_enter Try.func40, Try.ntmps40
  go_wp2_with fail
  clear hW0
  refine HCC.out.mono ?_; rintro e w1 ⟨rfl, ho1, hc1⟩
  rw [hq]
  clear hq
  have ho2 : OwI w1 B (.slice ga gn gc) G := row_chg (own_later HI.out B0.out) hc1 (fun j hj => by
    rintro (h | ⟨z, hzz, h1, h2⟩)
    · exact HD.out j hj h
    · have := HDZ.out z hzz j hj; omega)
  have x1 : Sx w1 w.heap.size 25 y tm (.slice ma mn mc) (.slice ga gn gc) := (hc1.block _ A0.out.lt (fun e => by have h1 := HLT.out _ e; omega)).trans A0.out
  have k1 := x1.cells
  have HC1 := hid hc1
  have HO1 := hid ho1
  have HO2 := hid ho2
  clear hc1 ho1 ho2 c0 x1
  go_wp2_with fail
  refine (markIS_any B ga gn gc q G w1 HO2.out HGL.out hgn (by omega)).mono ?_; rintro e w2 ⟨rfl, ho3, hg3⟩
  have HO3 := hid ho3
  have HG3 := hid hg3
  clear ho3 hg3
  have HF : Hid (OwS w2 B (.slice ma mn mc) (mys 1 Y)) := by
    show OwS _ _ _ _
    refine HO1.out.kept HG3.out.size (fun j hj => HG3.out.block j (HO1.out.row.lt j hj).2 (fun e => HD.out j e.symm hj)) (fun z hz j j1 j2 => HG3.out.block j (Nat.lt_of_lt_of_le j2 (HO1.out.each z hz).1.top) (fun e => ?_))
    obtain ⟨x, hx, e1, e2⟩ := mys_mem 1 Y z hz
    have := HDZ.out x hx j e.symm
    omega
  have HCH : Hid (Chg (fun j => B ≤ j ∧ j < hi) w w2) := by
    show Chg _ _ _
    refine Chg.trans (Chg.trans (Chg.of_below B0.out) (HC1.out.mono HBL.out)) (Chg.of_grown HG3.out (fun j hj => ⟨(HI.out.lt j hj).1, HV2.out j hj⟩))
  go_wp2
  go_ret
  refine ⟨by go_num, ⟨mys 1 Y, mys_yd 1 Y, HF.out, HO3.out, HD.out, fun z hz j hj => ?_, HV1.out, HV2.out, fun z hz => ?_⟩, HCH.out⟩
  · obtain ⟨x, hx, e1, e2⟩ := mys_mem 1 Y z hz
    rw [e1, e2]; exact HDZ.out x hx j hj
  · obtain ⟨x, hx, e1, e2⟩ := mys_mem 1 Y z hz
    rw [e2]; exact HV3.out x hx
/-- What a marked row is the marks of. -/
theorem mys_fix (k : Nat) (S : List X7) : ∀ Y : List Y9, Y.map yd = mxl k S → mys k Y = Y := by
  induction S generalizing k with
  | nil =>
    intro Y h
    cases Y with
    | nil => rfl
    | cons y Y => simp [mxl] at h
  | cons x S ih =>
    intro Y h
    cases Y with
    | nil => simp [mxl] at h
    | cons y Y =>
      simp only [List.map_cons, mxl, List.cons.injEq] at h
      obtain ⟨h1, h2⟩ := h
      have e : kx1 k (yd y) = kx1 k x := by rw [h1]; simp [kx1, mx1, mzl_fz, mki_len]
      simp only [mys]
      rw [e, ih _ Y h2]
      obtain ⟨g, nm, t, b, nx, mv, gv, L, G, lo, hi⟩ := y
      simp only [yd, mx1, Prod.mk.injEq] at h1
      obtain ⟨rfl, rfl, rfl, rfl, rfl, rfl, rfl⟩ := h1
      have e2 : ∀ (k : Nat) (L : List M4), mzl k (mzl k L) = mzl k L := by
        intro k L
        induction L generalizing k with
        | nil => rfl
        | cons m L ih =>
          have e3 : km1 k (mm1 k m) = km1 k m := by simp [km1, mm1, mks_len]
          simp only [mzl]
          rw [e3, ih]
          simp [mm1, mks_len]
      simp [my1, e2, mzl_fz, mki_len]
theorem kx_fix (k : Nat) (S : List X7) : kx k (mxl k S) = kx k S := by
  induction S generalizing k with
  | nil => rfl
  | cons x S ih =>
    have e : kx1 k (mx1 k x) = kx1 k x := by simp [kx1, mx1, mzl_fz, mki_len]
    simp only [mxl, kx]
    rw [e, ih]
theorem mxl_smx (k : Nat) (S : List X7) (h : SmX S) (hk : kx k S ≤ 6291456) : SmX (mxl k S) := by
  induction S generalizing k with
  | nil => intro x hx; simp [mxl] at hx
  | cons x S ih =>
    have h1 := kx_le (kx1 k x) S
    have e1 : kx1 k x = k + 5 + 3 * fz x.2.2.2.2.2.1 + x.2.2.2.2.2.2.length := rfl
    have hk' : kx (kx1 k x) S ≤ 6291456 := hk
    intro z hz
    simp only [mxl, List.mem_cons] at hz
    rcases hz with rfl | hz
    · have hs := h x (by simp)
      exact ⟨mzl_sm _ _ hs.1 (by omega), by simp only [mx1, mzl_len]; exact hs.2.1, by simp only [mx1, mki_len]; exact hs.2.2⟩
    · exact ih (kx1 k x) (fun x hx => h x (by simp [hx])) hk' z hz
set_option maxHeartbeats 800000 in
set_option maxRecDepth 100000 in
theorem heldStore_any (B hi : Nat) (y tm : Int) (ma : Option Addr) (mn mc : Nat) (ga : Option Addr) (gn gc : Nat) (S : List X7) (w : World) (hown : OwU w B hi (.slice ma mn mc) (.slice ga gn gc) (mxl 1 S) (mki (kx 1 S) gn)) (hl : S.length = mn) (hn : mn ≤ 1048576) (hsm : SmX S) (hgn : gn ≤ 1048576) (hfz : kx 1 S ≤ 6291456) :
    Calls Try.prog 42 #[.agg #[.int .i64 y, .int .i64 tm, .slice ma mn mc, .slice ga gn gc], .int .i64 1] w fun e w' => e = .returned (.int .i64 ((kx 1 S + gn : Nat) : Int)) ∧ Below w.heap.size w w' := by
  obtain ⟨Y, hy, hz, hii, -⟩ := hown
  have hfix := mys_fix 1 S Y hy
  have hkx : kx 1 (Y.map yd) = kx 1 S := by rw [hy, kx_fix]
  have hyl : Y.length = mn := by have h := congrArg List.length hy; rw [List.length_map, mxl_len] at h; omega
  obtain ⟨W0, hW0⟩ : ∃ W0, w.alloc (.cells #[.int .i64 y, .int .i64 tm, .slice ma mn mc, .slice ga gn gc] 25) = W0 := ⟨_, rfl⟩
  have a0 : Sx W0 w.heap.size 25 y tm (.slice ma mn mc) (.slice ga gn gc) := by subst hW0; exact Sx.new w _ y tm _ _
  have b0 : Below w.heap.size w W0 := by subst hW0; exact bpush (bre _) _
  have c0 := a0.cells
  have HC := heldBS_any B ma mn mc 1 Y W0 (by rw [hfix]; exact hz.later b0) hyl hn (by omega) (by rw [hkx]; exact hfz) (by rw [hy]; exact mxl_smx 1 S hsm hfz)
  rw [hkx] at HC
  have HCC := hid HC
  have HI := hid hii
  have A0 := hid a0
  have B0 := hid b0
  obtain ⟨q, hq⟩ : ∃ q, kx 1 S = q := ⟨_, rfl⟩
  have hqb : q ≤ 6291456 := by rw [← hq]; exact hfz
  have HQ := hid hq
  have h1 : ¬ (q : Int) < 0 := by omega
  rw [hq]
  clear HC hz hii a0 b0 hsm hfz hl hy hfix hkx hyl
  go_enter Try.func42, Try.ntmps42
  go_wp2_with fail
  clear hW0
  refine HCC.out.mono ?_; rintro e w1 ⟨rfl, hb1⟩
  rw [hq]
  clear hq
  have c0 := (A0.out.later hb1).cells
  have B1 := hid (btr B0.out hb1)
  clear hb1
  go_wp2_with fail
  refine (heldIS_any B ga gn gc q w1 (by rw [← HQ.out]; exact own_later HI.out B1.out) hgn (by omega)).mono ?_; rintro e w2 ⟨rfl, hw2⟩
  subst hw2
  have h2 : ¬ ((q + gn : Nat) : Int) < 0 := by omega
  have h3 : ¬ (q : Int) + (gn : Int) < 0 := by omega
  go_wp2
  go_ret
  exact ⟨by go_num, B1.out⟩
theorem OwT.len {W : World} {B : Nat} {bv gv : Value} {S : List X7} {G : List Int} (h : OwT W B bv gv S G) : ∃ a c a' c', bv = .slice a S.length c ∧ gv = .slice a' G.length c' := h.shape
/-- Block k holds what is kept. -/
def Kx (W : World) (k ty : Nat) (y tm : Int) (bv gv : Value) (jr : ByteArray) (sv : Int) : Prop := W.heap[k]? = some (.cells #[.int .i64 y, .int .i64 tm, bv, gv, .string jr, .int .i64 sv] ty (0, 0))
section
variable {W W' : World} {k ty : Nat} {y tm : Int} {bv gv : Value} {jr : ByteArray} {sv : Int}
theorem Kx.new (w : World) (ty : Nat) (y tm : Int) (bv gv : Value) (jr : ByteArray) (sv : Int) : Kx (w.alloc (.cells #[.int .i64 y, .int .i64 tm, bv, gv, .string jr, .int .i64 sv] ty)) w.heap.size ty y tm bv gv jr sv := heap_alloc_new w _
theorem Kx.lt (h : Kx W k ty y tm bv gv jr sv) : k < W.heap.size := (Array.getElem?_eq_some_iff.1 h).1
theorem Kx.later (h : Kx W k ty y tm bv gv jr sv) (hb : Below W.heap.size W W') : Kx W' k ty y tm bv gv jr sv := (hb.block k h.lt).trans h
theorem Kx.cells (h : Kx W k ty y tm bv gv jr sv) : W.cell? ⟨k, 0, none⟩ = some (.int .i64 y) ∧ W.cell? ⟨k, 1, none⟩ = some (.int .i64 tm) ∧ W.cell? ⟨k, 2, none⟩ = some bv ∧ W.cell? ⟨k, 3, none⟩ = some gv ∧ W.cell? ⟨k, 4, none⟩ = some (.string jr) ∧ W.cell? ⟨k, 5, none⟩ = some (.int .i64 sv) :=
  ⟨cell_of_row W k 0 _ _ _ h, cell_of_row W k 1 _ _ _ h, cell_of_row W k 2 _ _ _ h, cell_of_row W k 3 _ _ _ h, cell_of_row W k 4 _ _ _ h, cell_of_row W k 5 _ _ _ h⟩
theorem Kx.loose (h : Kx W k ty y tm bv gv jr sv) : W.frozen? ⟨k, 0, none⟩ = false ∧ W.frozen? ⟨k, 1, none⟩ = false ∧ W.frozen? ⟨k, 2, none⟩ = false ∧ W.frozen? ⟨k, 3, none⟩ = false ∧ W.frozen? ⟨k, 4, none⟩ = false ∧ W.frozen? ⟨k, 5, none⟩ = false :=
  ⟨frozen_of_row W k 0 _ _ h, frozen_of_row W k 1 _ _ h, frozen_of_row W k 2 _ _ h, frozen_of_row W k 3 _ _ h, frozen_of_row W k 4 _ _ h, frozen_of_row W k 5 _ _ h⟩
end
set_option maxHeartbeats 800000 in
set_option maxRecDepth 100000 in
theorem eqKept_of (y tm : Int) (ba : Option Addr) (bn bc : Nat) (ga : Option Addr) (gn gc : Nat) (ba' : Option Addr) (bn' bc' : Nat) (ga' : Option Addr) (gn' gc' : Nat) (jr : ByteArray) (sv : Int) (w : World)
    (C : ∀ W, Below w.heap.size w W → Calls Try.prog 38 #[.agg #[.int .i64 y, .int .i64 tm, .slice ba bn bc, .slice ga gn gc], .agg #[.int .i64 y, .int .i64 tm, .slice ba' bn' bc', .slice ga' gn' gc']] W fun e w' => e = .returned (.bool true) ∧ Below W.heap.size W w') :
    Calls Try.prog 21 #[.agg #[.int .i64 y, .int .i64 tm, .slice ba bn bc, .slice ga gn gc, .string jr, .int .i64 sv], .agg #[.int .i64 y, .int .i64 tm, .slice ba' bn' bc', .slice ga' gn' gc', .string jr, .int .i64 sv]] w fun e w' => e = .returned (.bool true) ∧ Below w.heap.size w w' := by
  obtain ⟨W0, hW0⟩ : ∃ W0, (w.alloc (.cells #[.int .i64 y, .int .i64 tm, .slice ba bn bc, .slice ga gn gc, .string jr, .int .i64 sv] 27)).alloc (.cells #[.int .i64 y, .int .i64 tm, .slice ba' bn' bc', .slice ga' gn' gc', .string jr, .int .i64 sv] 27) = W0 := ⟨_, rfl⟩
  have a0 : Kx W0 w.heap.size 27 y tm (.slice ba bn bc) (.slice ga gn gc) jr sv := by subst hW0; exact (Kx.new w _ _ _ _ _ _ _).later (bpush (bre _) _)
  have a1 : Kx W0 (w.heap.size + 1) 27 y tm (.slice ba' bn' bc') (.slice ga' gn' gc') jr sv := by
    have h := Kx.new (w.alloc (.cells #[.int .i64 y, .int .i64 tm, .slice ba bn bc, .slice ga gn gc, .string jr, .int .i64 sv] 27)) 27 y tm (.slice ba' bn' bc') (.slice ga' gn' gc') jr sv
    rw [show (w.alloc (.cells #[.int .i64 y, .int .i64 tm, .slice ba bn bc, .slice ga gn gc, .string jr, .int .i64 sv] 27)).heap.size = w.heap.size + 1 by simp, hW0] at h
    exact h
  have b0 : Below w.heap.size w W0 := by subst hW0; exact bpush (bpush (bre _) _) _
  have A0 := hid a0
  have A1 := hid a1
  have B0 := hid b0
  have HC := hid (C W0 b0)
  have c0 := a0.cells
  have c1 := a1.cells
  clear a0 a1 b0 C
  go_enter Try.func21, Try.ntmps21
  go_wp2_with fail
  clear hW0
  refine HC.out.mono ?_; rintro e w1 ⟨rfl, hb⟩
  have B1 := hid (btr B0.out hb)
  have d0 := (A0.out.later hb).cells
  have d1 := (A1.out.later hb).cells
  clear hb c0 c1
  go_wp2
  go_ret
  exact ⟨rfl, B1.out⟩
set_option maxHeartbeats 800000 in
set_option maxRecDepth 100000 in
theorem markKept_of (y tm : Int) (ba : Option Addr) (bn bc : Nat) (ga : Option Addr) (gn gc : Nat) (jr : ByteArray) (sv k r : Int) (w : World) (R : World → Prop)
    (C : ∀ W, Below w.heap.size w W → Calls Try.prog 40 #[.agg #[.int .i64 y, .int .i64 tm, .slice ba bn bc, .slice ga gn gc], .int .i64 k] W fun e w' => e = .returned (.int .i64 r) ∧ R w') :
    Calls Try.prog 23 #[.agg #[.int .i64 y, .int .i64 tm, .slice ba bn bc, .slice ga gn gc, .string jr, .int .i64 sv], .int .i64 k] w fun e w' => e = .returned (.int .i64 r) ∧ R w' := by
  obtain ⟨W0, hW0⟩ : ∃ W0, w.alloc (.cells #[.int .i64 y, .int .i64 tm, .slice ba bn bc, .slice ga gn gc, .string jr, .int .i64 sv] 27) = W0 := ⟨_, rfl⟩
  have a0 : Kx W0 w.heap.size 27 y tm (.slice ba bn bc) (.slice ga gn gc) jr sv := by subst hW0; exact Kx.new w _ _ _ _ _ _ _
  have b0 : Below w.heap.size w W0 := by subst hW0; exact bpush (bre _) _
  have HC := hid (C W0 b0)
  have c0 := a0.cells
  clear a0 b0 C
  go_enter Try.func23, Try.ntmps23
  go_wp2_with fail
  clear hW0
  refine HC.out.mono ?_; rintro e w1 ⟨rfl, hr⟩
  have HR := hid hr
  clear hr c0
  go_wp2
  go_ret
  exact ⟨rfl, HR.out⟩
set_option maxHeartbeats 800000 in
set_option maxRecDepth 100000 in
theorem heldKept_of (y tm : Int) (ba : Option Addr) (bn bc : Nat) (ga : Option Addr) (gn gc : Nat) (jr : ByteArray) (sv k r : Int) (w : World) (hr0 : ¬ r < 0)
    (C : ∀ W, Below w.heap.size w W → Calls Try.prog 42 #[.agg #[.int .i64 y, .int .i64 tm, .slice ba bn bc, .slice ga gn gc], .int .i64 k] W fun e w' => e = .returned (.int .i64 r) ∧ Below W.heap.size W w') :
    Calls Try.prog 25 #[.agg #[.int .i64 y, .int .i64 tm, .slice ba bn bc, .slice ga gn gc, .string jr, .int .i64 sv], .int .i64 k] w fun e w' => e = .returned (.int .i64 r) ∧ Below w.heap.size w w' := by
  obtain ⟨W0, hW0⟩ : ∃ W0, w.alloc (.cells #[.int .i64 y, .int .i64 tm, .slice ba bn bc, .slice ga gn gc, .string jr, .int .i64 sv] 27) = W0 := ⟨_, rfl⟩
  have a0 : Kx W0 w.heap.size 27 y tm (.slice ba bn bc) (.slice ga gn gc) jr sv := by subst hW0; exact Kx.new w _ _ _ _ _ _ _
  have b0 : Below w.heap.size w W0 := by subst hW0; exact bpush (bre _) _
  have HC := hid (C W0 b0)
  have B0 := hid b0
  have c0 := a0.cells
  clear a0 b0 C
  go_enter Try.func25, Try.ntmps25
  go_wp2_with fail
  clear hW0
  refine HC.out.mono ?_; rintro e w1 ⟨rfl, hb⟩
  have B1 := hid (btr B0.out hb)
  clear hb c0
  go_wp2
  go_ret
  exact ⟨rfl, B1.out⟩
theorem eBS0 (w : World) : Calls Try.prog 54 #[.slice none 0 0, .slice none 0 0] w fun e w' => e = .returned (.bool true) ∧ w' = w := by
  go_enter Try.func54, Try.ntmps54
  go_wp2
  go_loop [5] (fun iv => iv = .int .i64 0) (fun _ => 0)
  case atStart => exact rfl
  case round =>
    obtain rfl := hrel
    go_wp2
    go_ret
    exact ⟨rfl, rfl⟩
theorem eIS0 (w : World) : Calls Try.prog 39 #[.slice none 0 0, .slice none 0 0] w fun e w' => e = .returned (.bool true) ∧ w' = w := by
  go_enter Try.func39, Try.ntmps39
  go_wp2
  go_loop [5] (fun iv => iv = .int .i64 0) (fun _ => 0)
  case atStart => exact rfl
  case round =>
    obtain rfl := hrel
    go_wp2
    go_ret
    exact ⟨rfl, rfl⟩
theorem mBS0 (w : World) : Calls Try.prog 55 #[.slice none 0 0, .int .i64 1] w fun e w' => e = .returned (.int .i64 1) ∧ w' = w := by
  go_enter Try.func55, Try.ntmps55
  go_wp2
  go_loop [1, 5] (fun kv iv => kv = .int .i64 1 ∧ iv = .int .i64 0) (fun _ _ => 0)
  case atStart => exact ⟨rfl, rfl⟩
  case round =>
    obtain ⟨rfl, rfl⟩ := hrel
    go_wp2
    go_ret
    exact ⟨rfl, rfl⟩
theorem mIS0 (w : World) : Calls Try.prog 41 #[.slice none 0 0, .int .i64 1] w fun e w' => e = .returned (.int .i64 1) ∧ w' = w := by
  go_enter Try.func41, Try.ntmps41
  go_wp2
  go_loop [1, 5] (fun kv iv => kv = .int .i64 1 ∧ iv = .int .i64 0) (fun _ _ => 0)
  case atStart => exact ⟨rfl, rfl⟩
  case round =>
    obtain ⟨rfl, rfl⟩ := hrel
    go_wp2
    go_ret
    exact ⟨rfl, rfl⟩
theorem hBS0 (w : World) : Calls Try.prog 56 #[.slice none 0 0, .int .i64 1] w fun e w' => e = .returned (.int .i64 1) ∧ w' = w := by
  go_enter Try.func56, Try.ntmps56
  go_wp2
  go_loop [1, 5] (fun kv iv => kv = .int .i64 1 ∧ iv = .int .i64 0) (fun _ _ => 0)
  case atStart => exact ⟨rfl, rfl⟩
  case round =>
    obtain ⟨rfl, rfl⟩ := hrel
    go_wp2
    go_ret
    exact ⟨rfl, rfl⟩
theorem hIS0 (w : World) : Calls Try.prog 43 #[.slice none 0 0, .int .i64 1] w fun e w' => e = .returned (.int .i64 1) ∧ w' = w := by
  go_enter Try.func43, Try.ntmps43
  go_wp2
  go_loop [1, 5] (fun kv iv => kv = .int .i64 1 ∧ iv = .int .i64 0) (fun _ _ => 0)
  case atStart => exact ⟨rfl, rfl⟩
  case round =>
    obtain ⟨rfl, rfl⟩ := hrel
    go_wp2
    go_ret
    exact ⟨rfl, rfl⟩
theorem mStore0 (y : Int) (w : World) : Calls Try.prog 40 #[.agg #[.int .i64 y, .int .i64 0, .slice none 0 0, .slice none 0 0], .int .i64 1] w fun e w' => e = .returned (.int .i64 1) ∧ Below w.heap.size w w' := by
  obtain ⟨W0, hW0⟩ : ∃ W0, w.alloc (.cells #[.int .i64 y, .int .i64 0, .slice none 0 0, .slice none 0 0] 25) = W0 := ⟨_, rfl⟩
  have a0 : Sx W0 w.heap.size 25 y 0 (.slice none 0 0) (.slice none 0 0) := by subst hW0; exact Sx.new w _ y 0 _ _
  have b0 : Below w.heap.size w W0 := by subst hW0; exact bpush (bre _) _
  have c0 := a0.cells
  have B0 := hid b0
  have h1 : ¬ ((1 : Int) < 0) := by omega
  clear a0 b0
  go_enter Try.func40, Try.ntmps40
  go_wp2_with fail
  clear hW0
  refine (mBS0 _).mono ?_; rintro e w1 ⟨rfl, hw1⟩
  subst hw1
  go_wp2_with fail
  refine (mIS0 _).mono ?_; rintro e w2 ⟨rfl, hw2⟩
  subst hw2
  go_wp2
  go_ret
  exact ⟨rfl, B0.out⟩
theorem hStore0 (y : Int) (w : World) : Calls Try.prog 42 #[.agg #[.int .i64 y, .int .i64 0, .slice none 0 0, .slice none 0 0], .int .i64 1] w fun e w' => e = .returned (.int .i64 1) ∧ Below w.heap.size w w' := by
  obtain ⟨W0, hW0⟩ : ∃ W0, w.alloc (.cells #[.int .i64 y, .int .i64 0, .slice none 0 0, .slice none 0 0] 25) = W0 := ⟨_, rfl⟩
  have a0 : Sx W0 w.heap.size 25 y 0 (.slice none 0 0) (.slice none 0 0) := by subst hW0; exact Sx.new w _ y 0 _ _
  have b0 : Below w.heap.size w W0 := by subst hW0; exact bpush (bre _) _
  have c0 := a0.cells
  have B0 := hid b0
  have h1 : ¬ ((1 : Int) < 0) := by omega
  clear a0 b0
  go_enter Try.func42, Try.ntmps42
  go_wp2_with fail
  clear hW0
  refine (hBS0 _).mono ?_; rintro e w1 ⟨rfl, hw1⟩
  subst hw1
  go_wp2_with fail
  refine (hIS0 _).mono ?_; rintro e w2 ⟨rfl, hw2⟩
  subst hw2
  go_wp2
  go_ret
  exact ⟨rfl, B0.out⟩
theorem eStore0 (y : Int) (w : World) : Calls Try.prog 38 #[.agg #[.int .i64 y, .int .i64 0, .slice none 0 0, .slice none 0 0], .agg #[.int .i64 y, .int .i64 0, .slice none 0 0, .slice none 0 0]] w fun e w' => e = .returned (.bool true) ∧ Below w.heap.size w w' := by
  obtain ⟨W0, hW0⟩ : ∃ W0, ((w.alloc (.cells #[.int .i64 y, .int .i64 0, .slice none 0 0, .slice none 0 0] 25)).alloc (.cells #[.int .i64 y, .int .i64 0, .slice none 0 0, .slice none 0 0] 25)) = W0 := ⟨_, rfl⟩
  have a0 : Sx W0 w.heap.size 25 y 0 (.slice none 0 0) (.slice none 0 0) := by subst hW0; exact (Sx.new w _ y 0 _ _).later (bpush (bre _) _)
  have a1 : Sx W0 (w.heap.size + 1) 25 y 0 (.slice none 0 0) (.slice none 0 0) := by
    have h := Sx.new (w.alloc (.cells #[.int .i64 y, .int .i64 0, .slice none 0 0, .slice none 0 0] 25)) 25 y 0 (.slice none 0 0) (.slice none 0 0)
    have e : (w.alloc (.cells #[.int .i64 y, .int .i64 0, .slice none 0 0, .slice none 0 0] 25)).heap.size = w.heap.size + 1 := by simp
    rw [e, hW0] at h
    exact h
  have b0 : Below w.heap.size w W0 := by subst hW0; exact bpush (bpush (bre _) _) _
  have c0 := a0.cells
  have c1 := a1.cells
  have B0 := hid b0
  have e1 : (y != y) = false := by simp
  clear a0 a1 b0
  go_enter Try.func38, Try.ntmps38
  go_wp2_with fail
  clear hW0
  refine (eBS0 _).mono ?_; rintro e w1 ⟨rfl, hw1⟩
  subst hw1
  go_wp2_with fail
  refine (eIS0 _).mono ?_; rintro e w2 ⟨rfl, hw2⟩
  subst hw2
  go_wp2
  go_ret
  exact ⟨rfl, B0.out⟩
/-- What is kept at the beginning. -/
abbrev kn0 (y : Int) : Value := .agg #[.int .i64 y, .int .i64 0, .slice none 0 0, .slice none 0 0, .string ⟨#[]⟩, .int .i64 0]
abbrev kc0 (y : Int) : Array Value := #[.int .i64 y, .int .i64 0, .slice none 0 0, .slice none 0 0, .string ⟨#[]⟩, .int .i64 0]
theorem specStoreNew0 (y : Int) (w : World) : Calls Try.prog 35 #[.int .i64 y] w fun e w' => e = .returned (.agg #[.int .i64 y, .int .i64 0, .slice none 0 0, .slice none 0 0]) ∧ Below w.heap.size w w' := by
  have a0 := Sx.new w 25 0 0 (.slice none 0 0) (.slice none 0 0)
  have c0 := a0.cells
  have f0 := a0.loose
  clear a0
  go_enter Try.func35, Try.ntmps35
  go_wp2
  have d1 := (Sx.new w 25 y 0 (.slice none 0 0) (.slice none 0 0)).cells
  exact bodyPost_ret (v := .agg #[.int .i64 y, .int .i64 0, .slice none 0 0, .slice none 0 0]) (by simp [results, Try.results35, go_sem, d1]) rfl ⟨rfl, bpush (bre _) _⟩
theorem specKeptNew_any (y : Int) (w : World) : Calls Try.prog 17 #[.int .i64 y] w fun e w' => e = .returned (kn0 y) ∧ Below w.heap.size w w' := by
  have Z0 := hid (Kx.new w 27 0 0 (.slice none 0 0) (.slice none 0 0) ⟨#[]⟩ 0)
  have B0 := hid (bpush (bre w) (.cells (kc0 0) 27))
  go_enter Try.func17, Try.ntmps17
  go_wp2_with fail
  refine (specStoreNew0 y _).mono ?_; rintro e w1 ⟨rfl, hb⟩
  have Z1 := hid (Z0.out.later hb)
  have B1 := hid (btr B0.out hb)
  have d4 := Z1.out.cells
  have f4 := Z1.out.loose
  clear hb Z0 B0
  go_wp2
  have hX := heap_setCell_same _ w.heap.size 5 _ _ (.int .i64 0) (heap_setCell_same _ w.heap.size 4 _ _ (.string ⟨#[]⟩) (heap_setCell_same _ w.heap.size 3 _ _ (.slice none 0 0) (heap_setCell_same _ w.heap.size 2 _ _ (.slice none 0 0) (heap_setCell_same _ w.heap.size 1 _ _ (.int .i64 0) (heap_setCell_same _ w.heap.size 0 _ _ (.int .i64 y) Z1.out)))))
  have d := Kx.cells (y := y) (tm := 0) (bv := .slice none 0 0) (gv := .slice none 0 0) (jr := ⟨#[]⟩) (sv := 0) hX
  refine bodyPost_ret (v := kn0 y) (by simp [results, Try.results17, go_sem, d]) rfl ⟨rfl, ?_⟩
  exact bsk (bsk (bsk (bsk (bsk (bsk B1.out (Nat.le_refl _) 0 _) (Nat.le_refl _) 1 _) (Nat.le_refl _) 2 _) (Nat.le_refl _) 3 _) (Nat.le_refl _) 4 _) (Nat.le_refl _) 5 _
theorem implKeptNew_any (y : Int) (w : World) : Calls Try.prog 19 #[.int .i64 y] w fun e w' => e = .returned (kn0 y) ∧ Below w.heap.size w w' := by
  have Z0 := hid (Kx.new w 27 0 0 (.slice none 0 0) (.slice none 0 0) ⟨#[]⟩ 0)
  have B0 := hid (bpush (bre w) (.cells (kc0 0) 27))
  go_enter Try.func19, Try.ntmps19
  go_wp2_with fail
  refine (implStoreNew_any y _).mono ?_; rintro e w1 ⟨rfl, hb⟩
  have Z1 := hid (Z0.out.later hb)
  have B1 := hid (btr B0.out hb)
  have d4 := Z1.out.cells
  have f4 := Z1.out.loose
  clear hb Z0 B0
  go_wp2
  have hX := heap_setCell_same _ w.heap.size 5 _ _ (.int .i64 0) (heap_setCell_same _ w.heap.size 4 _ _ (.string ⟨#[]⟩) (heap_setCell_same _ w.heap.size 3 _ _ (.slice none 0 0) (heap_setCell_same _ w.heap.size 2 _ _ (.slice none 0 0) (heap_setCell_same _ w.heap.size 1 _ _ (.int .i64 0) (heap_setCell_same _ w.heap.size 0 _ _ (.int .i64 y) Z1.out)))))
  have d := Kx.cells (y := y) (tm := 0) (bv := .slice none 0 0) (gv := .slice none 0 0) (jr := ⟨#[]⟩) (sv := 0) hX
  refine bodyPost_ret (v := kn0 y) (by simp [results, Try.results19, go_sem, d]) rfl ⟨rfl, ?_⟩
  exact bsk (bsk (bsk (bsk (bsk (bsk B1.out (Nat.le_refl _) 0 _) (Nat.le_refl _) 1 _) (Nat.le_refl _) 2 _) (Nat.le_refl _) 3 _) (Nat.le_refl _) 4 _) (Nat.le_refl _) 5 _
theorem eKept0 (y : Int) (w : World) : Calls Try.prog 21 #[.agg #[.int .i64 y, .int .i64 0, .slice none 0 0, .slice none 0 0, .string ⟨#[]⟩, .int .i64 0], .agg #[.int .i64 y, .int .i64 0, .slice none 0 0, .slice none 0 0, .string ⟨#[]⟩, .int .i64 0]] w fun e w' => e = .returned (.bool true) ∧ Below w.heap.size w w' :=
  eqKept_of y 0 none 0 0 none 0 0 none 0 0 none 0 0 ⟨#[]⟩ 0 w (fun W _ => eStore0 y W)
theorem mKept0 (y : Int) (w : World) : Calls Try.prog 23 #[.agg #[.int .i64 y, .int .i64 0, .slice none 0 0, .slice none 0 0, .string ⟨#[]⟩, .int .i64 0], .int .i64 1] w fun e w' => e = .returned (.int .i64 1) ∧ Below w.heap.size w w' :=
  markKept_of y 0 none 0 0 none 0 0 ⟨#[]⟩ 0 1 1 w (fun w' => Below w.heap.size w w') (fun W hb => (mStore0 y W).mono fun _ _ h => ⟨h.1, btr hb h.2⟩)
theorem hKept0 (y : Int) (w : World) : Calls Try.prog 25 #[.agg #[.int .i64 y, .int .i64 0, .slice none 0 0, .slice none 0 0, .string ⟨#[]⟩, .int .i64 0], .int .i64 1] w fun e w' => e = .returned (.int .i64 1) ∧ Below w.heap.size w w' :=
  heldKept_of y 0 none 0 0 none 0 0 ⟨#[]⟩ 0 1 1 w (by decide) (fun W _ => hStore0 y W)
end Go.Proofs.Ytckenihadlmlaaa
