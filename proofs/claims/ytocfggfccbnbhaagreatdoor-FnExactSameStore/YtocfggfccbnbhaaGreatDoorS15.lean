/- Tja, Tjd, Tje, Ta0, Ta1, Ta2, Ta3, Tb4, Wk, Wt, Wd, Wg. -/
import Derived.Test.YtocfggfccbnbhaaGreatDoorS14
import Derived.Lib.BufferWrite
import Derived.Laws.IdiomStrings
namespace Go.Proofs.YtocfggfccbnbhaaGreatDoor
open Go.RowKit Go.ChangeMaps
/-- The marks of mails, as they are meant. -/
def mm1 (k : Nat) (m : M4) : M4 := ((k : Int), ((k + 1 : Nat) : Int), mks (k + 2) m.2.2.1.length, mtx6 (k + 2 + m.2.2.1.length * 3))
def km1 (k : Nat) (m : M4) : Nat := k + 2 + m.2.2.1.length * 3 + 1
def mzl (k : Nat) : List M4 → List M4
  | [] => []
  | m :: L => mm1 k m :: mzl (km1 k m) L
theorem mzs_md (k : Nat) (Z : List Z5) : (mzs k Z).map md = mzl k (Z.map md) := by
  induction Z generalizing k with
  | nil => rfl
  | cons z Z ih =>
    simp only [mzs, List.map_cons, mzl]
    rw [ih]
    rfl
def kx1 (k : Nat) (x : X7) : Nat := k + 5 + 3 * fz x.2.2.2.2.2.1 + x.2.2.2.2.2.2.length
def kx (k : Nat) : List X7 → Nat
  | [] => k
  | x :: S => kx (kx1 k x) S
/-- A box of an owned row marked: five cells in the row, its lists in their own blocks. -/
theorem OwS.marked {W W1 W2 : World} {B g n c i : Nat} {P C : List Y9} {y y' : Y9} (h : OwS W B (.slice (some ⟨g, 0, none⟩) n c) (P ++ y :: C)) (_hp : P.length = i) (hm : y'.mv = y.mv) (hgv : y'.gv = y.gv) (hlo : y'.lo = y.lo) (hhi : y'.hi = y.hi)
    (hc1 : Chg (fun j => j = g) W W1) (hrow : W1.ownsRow B 38 7 (.slice (some ⟨g, 0, none⟩) n c) (P ++ y' :: C).length (yc (P ++ y' :: C)))
    (hc2 : Chg (fun j => y.lo ≤ j ∧ j < y.hi) W1 W2) (ho : OwX W2 y'.lo y'.hi y'.mv y'.gv y'.L y'.G) : OwS W2 B (.slice (some ⟨g, 0, none⟩) n c) (P ++ y' :: C) := by
  have hap := List.pairwise_append.1 h.apart
  have hap2 := List.pairwise_cons.1 hap.2.1
  have hy0 : y ∈ P ++ y :: C := by simp
  have hmem : ∀ z ∈ P ++ y' :: C, z = y' ∨ (z ∈ P ++ y :: C ∧ (z.hi ≤ y.lo ∨ y.hi ≤ z.lo)) := by
    intro z hz
    rcases List.mem_append.1 hz with hz | hz
    · exact .inr ⟨by simp [hz], hap.2.2 z hz y (by simp)⟩
    · rcases List.mem_cons.1 hz with hz | hz
      · exact .inl hz
      · exact .inr ⟨by simp [hz], (hap2.1 z hz).symm⟩
  refine ⟨row_chg hrow hc2 (fun j hj => ?_), fun z hz => ?_, fun z hz => ?_, ?_⟩
  · have := h.off y hy0 j hj
    omega
  · rcases hmem z hz with rfl | ⟨hz, hd⟩
    · exact ⟨ho, by rw [hlo]; exact (h.each y hy0).2⟩
    · have hx := (h.each z hz).1
      refine ⟨hx.same (Nat.le_trans hx.top (Nat.le_trans hc1.size hc2.size)) (fun k k1 k2 => ?_), (h.each z hz).2⟩
      have hk := Nat.lt_of_lt_of_le k2 hx.top
      have := h.off z hz g rfl
      exact (hc2.block k (Nat.lt_of_lt_of_le hk hc1.size) (by omega)).trans (hc1.block k hk (by omega))
  · rcases hmem z hz with rfl | ⟨hz, _⟩
    · rw [hlo, hhi]; exact h.off y hy0
    · exact h.off z hz
  · rw [List.pairwise_append, List.pairwise_cons]
    refine ⟨hap.1, ⟨fun z hz => by rw [hlo, hhi]; exact hap2.1 z hz, hap2.2⟩, fun x hx z hz => ?_⟩
    rcases List.mem_cons.1 hz with rfl | hz
    · rw [hlo, hhi]; exact hap.2.2 x hx y (by simp)
    · exact hap.2.2 x hx z (by simp [hz])
/-- The lists of a box marked: what a call of the two marks leaves. -/
theorem OwX.marked {W W1 W2 : World} {lo hi k : Nat} {mv gv : Value} {L : List M4} {G : List Int} {Z : List Z5} (hz : Z.map md = L) (_h2 : OwZ W lo mv Z) (_h3 : OwI W lo gv G) (h4 : Dj gv mv) (h5 : ∀ z ∈ Z, Dj gv z.2.2.1) (h6 : ∀ j, mv.ownBlock = some j → j < hi) (h7 : ∀ j, gv.ownBlock = some j → j < hi) (h8 : ∀ z ∈ Z, ∀ j, z.2.2.1.ownBlock = some j → j < hi) (htop : hi ≤ W.heap.size)
    (o1 : OwZ W1 lo mv (mzs k Z)) (hs : W.heap.size ≤ W1.heap.size) (o2 : OwI W2 lo gv (mki (k + 3 * fz L) G.length)) (hg : W1.grownBy W2 gv.ownBlock) : OwX W2 lo hi mv gv (mzl k L) (mki (k + 3 * fz L) G.length) := by
  subst hz
  refine ⟨⟨mzs k Z, mzs_md k Z, ?_, o2, h4, fun z hz => ?_, h6, h7, fun z hz j hj => ?_⟩, Nat.le_trans htop (Nat.le_trans hs hg.size)⟩
  · refine o1.chg (P := fun j => gv.ownBlock = some j) (Chg.of_grown hg (fun j hj => hj)) (fun j hj h => h4 j h hj) (fun z hz j hj h => ?_)
    obtain ⟨x, hx, e⟩ := mzs_own k Z z hz
    rw [e] at hj
    exact h5 x hx j h hj
  · obtain ⟨x, hx, e⟩ := mzs_own k Z z hz
    rw [e]; exact h5 x hx
  · obtain ⟨x, hx, e⟩ := mzs_own k Z z hz
    rw [e] at hj
    exact h8 x hx j hj
end Go.Proofs.YtocfggfccbnbhaaGreatDoor

namespace Go.Proofs.YtocfggfccbnbhaaGreatDoor
open Go.RowKit Go.ChangeMaps
/-- The lists of a store that a call owns, in blocks below hi. -/
def OwU (W : World) (B hi : Nat) (bv gv : Value) (S : List X7) (G : List Int) : Prop :=
  ∃ Y, Y.map yd = S ∧ OwS W B bv Y ∧ OwI W B gv G ∧ Dj gv bv ∧ (∀ y ∈ Y, ∀ j, gv.ownBlock = some j → j < y.lo ∨ y.hi ≤ j) ∧ (∀ j, bv.ownBlock = some j → j < hi) ∧ (∀ j, gv.ownBlock = some j → j < hi) ∧ ∀ y ∈ Y, y.hi ≤ hi
section
variable {W W' : World} {B B' hi : Nat} {bv gv : Value} {S : List X7} {G : List Int} {P : Nat → Prop}
theorem OwT.u (h : OwT W B bv gv S G) : OwU W B W.heap.size bv gv S G := by
  obtain ⟨Y, h1, h2, h3, h4, h5⟩ := h.own
  exact ⟨Y, h1, h2, h3, h4, h5, fun j hj => (h2.row.lt j hj).2, fun j hj => (h3.lt j hj).2, fun y hy => (h2.each y hy).1.top⟩
theorem OwU.t (h : OwU W B hi bv gv S G) : OwT W B bv gv S G := by
  obtain ⟨Y, h1, h2, h3, h4, h5, _⟩ := h
  exact ⟨Y, h1, h2, h3, h4, h5⟩
theorem OwU.later (h : OwU W B hi bv gv S G) (hb : Below W.heap.size W W') : OwU W' B hi bv gv S G := by
  obtain ⟨Y, h1, h2, h3, h4⟩ := h
  exact ⟨Y, h1, h2.later hb, own_later h3 hb, h4⟩
theorem OwU.base (h : OwU W B' hi bv gv S G) (hB : B ≤ B') : OwU W B hi bv gv S G := by
  obtain ⟨Y, h1, h2, h3, h4⟩ := h
  exact ⟨Y, h1, h2.base hB, own_base h3 hB, h4⟩
theorem OwU.chg (h : OwU W B hi bv gv S G) (hc : Chg P W W') (hp : ∀ j, B ≤ j → j < hi → ¬ P j) : OwU W' B hi bv gv S G := by
  obtain ⟨Y, h1, h2, h3, h4, h5, h6, h7, h8⟩ := h
  refine ⟨Y, h1, h2.kept hc.size (fun j hj => hc.block j (h2.row.lt j hj).2 (hp j (h2.row.lt j hj).1 (h6 j hj))) (fun y hy j j1 j2 => hc.block j (Nat.lt_of_lt_of_le j2 (h2.each y hy).1.top) (hp j (Nat.le_trans (h2.each y hy).2 j1) (Nat.lt_of_lt_of_le j2 (h8 y hy)))), row_chg h3 hc (fun j hj => hp j (h3.lt j hj).1 (h7 j hj)), h4, h5, h6, h7, h8⟩
end
theorem Sx.chg {P : Nat → Prop} {W W' : World} {k ty : Nat} {y tm : Int} {bv gv : Value} (h : Sx W k ty y tm bv gv) (hc : Chg P W W') (hk : ¬ P k) : Sx W' k ty y tm bv gv := (hc.block k h.lt hk).trans h
end Go.Proofs.YtocfggfccbnbhaaGreatDoor

namespace Go.Proofs.YtocfggfccbnbhaaGreatDoor
open Go.RowKit Go.ChangeMaps
theorem OwT.len {W : World} {B : Nat} {bv gv : Value} {S : List X7} {G : List Int} (h : OwT W B bv gv S G) : ∃ a c a' c', bv = .slice a S.length c ∧ gv = .slice a' G.length c' := h.shape
end Go.Proofs.YtocfggfccbnbhaaGreatDoor

namespace Go.Proofs.YtocfggfccbnbhaaGreatDoor
open Go.RowKit Go.ChangeMaps
def mts : List M4 → ByteArray
  | [] => ⟨#[]⟩
  | m :: L => mtx m.1 m.2.1 m.2.2.1 m.2.2.2 ++ mts L
theorem mts_snoc (L : List M4) (m : M4) : mts (L ++ [m]) = mts L ++ mtx m.1 m.2.1 m.2.2.1 m.2.2.2 := by
  induction L with
  | nil => simp only [List.nil_append, mts, ba_nil, nil_ba]
  | cons a L ih => simp only [List.cons_append, mts, ih, ByteArray.append_assoc]
/-- A box's bytes ahead of its mails. -/
def bth (g : Int) (nm : ByteArray) (t b nx : Int) (n : Nat) : ByteArray := vi g ++ vi nm.size ++ nm ++ vi t ++ vi b ++ vi nx ++ vi n
def btx (g : Int) (nm : ByteArray) (t b nx : Int) (L : List M4) (G : List Int) : ByteArray := bth g nm t b nx L.length ++ mts L ++ vi G.length ++ vis G
theorem asc_gk {G : List Int} {a : Int} (h : asc a G = true) : ∀ y ∈ G, 1 ≤ y ∧ y ≤ 9999 := by
  induction G generalizing a with
  | nil => intro y hy; cases hy
  | cons x G ih =>
    simp only [asc, Bool.and_eq_true, decide_eq_true_eq, gok] at h
    intro y hy
    rcases List.mem_cons.1 hy with rfl | hy
    · exact h.1.2
    · exact ih h.2 y hy
/-- What a right box's numbers are. -/
theorem bx_txt {g : Int} {nm : ByteArray} {t b nx : Int} {L : List M4} {G : List Int} (h : bxOk g nm t b nx L G = true) :
    (1 ≤ g ∧ g ≤ 9999) ∧ nm.size ≤ 12 ∧ (0 ≤ t ∧ t ≤ 100000 ∧ 0 ≤ b ∧ b ≤ 2) ∧ (1 ≤ nx ∧ nx ≤ 10000) ∧ L.length ≤ 10 ∧ (∀ m ∈ L, mlOk m.1 m.2.1 m.2.2.1 m.2.2.2 = true) ∧ G.length ≤ 40 ∧ ∀ y ∈ G, 1 ≤ y ∧ y ≤ 9999 := by
  simp only [bxOk, bxm, gok, nmOk, stOk, gnOk, Bool.and_eq_true, decide_eq_true_eq] at h
  obtain ⟨h1, h2, h3, h4, h5, h6, h7, -⟩ := h
  refine ⟨h1, by omega, h3, h4, by omega, fun m hm => ?_, by omega, asc_gk h6.1⟩
  obtain ⟨i, hi, rfl⟩ := List.getElem_of_mem hm
  have h9 := List.all_eq_true.1 h7 i (List.mem_range.2 hi)
  unfold stp at h9
  rw [List.getElem?_eq_getElem hi] at h9
  simp only [Bool.and_eq_true] at h9
  exact h9.1
/-- A mail's bytes are not many. -/
theorem mtx_size {g u : Int} {l : List R3} {t : ByteArray} (h : mlOk g u l t = true) : (mtx g u l t).size ≤ 20000000000 := by
  simp only [mlOk, gok, flOk, Bool.and_eq_true, decide_eq_true_eq] at h
  obtain ⟨h1, h2, ⟨h3, h4⟩, h5⟩ := h
  have hr : ∀ p ∈ l, (rt p).size ≤ 3000000003 := by
    intro p hp
    have h6 := List.all_eq_true.1 h4 p hp
    simp only [okp, rgOk, stOk, Bool.and_eq_true, decide_eq_true_eq] at h6
    have a1 := vi_size p.1 (by omega)
    have a2 := vi_size p.2.1 (by omega)
    have a3 := vi_size p.2.2 (by omega)
    unfold rt
    rw [ByteArray.size_append, ByteArray.size_append]
    omega
  have hs : ∀ k : List R3, (∀ p ∈ k, (rt p).size ≤ 3000000003) → (rts k).size ≤ k.length * 3000000003 := by
    intro k
    induction k with
    | nil => intro _; exact Nat.zero_le _
    | cons p k ih =>
      intro hk
      have h7 := hk p (List.mem_cons_self ..)
      have h8 := ih (fun q hq => hk q (List.mem_cons_of_mem _ hq))
      simp only [rts, ByteArray.size_append, List.length_cons]
      omega
  have h9 := hs l hr
  have a1 := vi_size g (by omega)
  have a2 := vi_size u (by omega)
  have a3 := vi_size t.size (by omega)
  unfold mtx
  simp only [ByteArray.size_append]
  have : l.length = 3 := by simpa using h3
  rw [this] at h9
  omega
end Go.Proofs.YtocfggfccbnbhaaGreatDoor

namespace Go.Proofs.YtocfggfccbnbhaaGreatDoor
open Go.RowKit Go.ChangeMaps
def btR (g : Int) (nm : ByteArray) (t b nx : Int) (L : List M4) (G : List Int) : Value := if bxOk g nm t b nx L G = true then .tuple #[.string (btx g nm t b nx L G), .bool true] else .tuple #[.string ⟨#[]⟩, .bool false]
set_option maxHeartbeats 8000000 in
set_option maxRecDepth 100000 in
theorem specBoxText_any (l1 h1 l2 h2 : Nat) (g : Int) (nm : ByteArray) (t b nx : Int) (ma : Option Addr) (mn mc : Nat) (ga : Option Addr) (gn gc : Nat) (L : List M4) (G : List Int) (w : World) (hnm : nm.size ≤ 1048576) (hl : L.length = mn) (hn : mn ≤ 1048576) (hsm : Sm L) (hm : Ms l1 h1 w ma L) (hgl : G.length = gn) (hgn : gn ≤ 1048576) (hs : Is l2 h2 w ga G) :
    Calls Tryz.prog 56 #[.agg #[.int .i64 g, .string nm, .int .i64 t, .int .i64 b, .int .i64 nx, .slice ma mn mc, .slice ga gn gc]] w fun e w' => e = .returned (btR g nm t b nx L G) ∧ Below w.heap.size w w' := by
  obtain ⟨W0, hW0⟩ : ∃ W0, w.alloc (.cells #[.int .i64 g, .string nm, .int .i64 t, .int .i64 b, .int .i64 nx, .slice ma mn mc, .slice ga gn gc] 38) = W0 := ⟨_, rfl⟩
  have a0 : Bx W0 w.heap.size 38 g nm t b nx (.slice ma mn mc) (.slice ga gn gc) := by subst hW0; exact Bx.new w _ g nm t b nx _ _
  have b0 : Below w.heap.size w W0 := by subst hW0; exact bpush (bre _) _
  have c0 := a0.cells
  have XB := hid a0
  have HB := hid b0
  have HM := hid hm
  have HS := hid hs
  have HX := hid hsm
  have HL := hid hl
  have HG := hid hgl
  have HOK := hid (specBoxOk_any l1 h1 l2 h2 g nm t b nx ma mn mc ga gn gc L G W0 hnm hl hn hsm (hm.later b0) hgl hgn (hs.later b0))
  clear a0 b0 hm hs hsm hl hgl
  cases hok : bxOk g nm t b nx L G
  · have hE : btR g nm t b nx L G = .tuple #[.string ⟨#[]⟩, .bool false] := by unfold btR; rw [hok]; rfl
    rw [hE]
    rw [hok] at HOK
    clear hE hok
    go_enter Tryz.func56, Tryz.ntmps56
    go_wp2_with fail
    try rw [hW0]
    clear hW0
    refine HOK.out.mono ?_; rintro e w1 ⟨rfl, hb1⟩
    have B1 := hid (btr HB.out hb1)
    clear hb1 c0
    go_wp2
    go_ret2
    exact ⟨rfl, B1.out⟩
  · have hE : btR g nm t b nx L G = .tuple #[.string (btx g nm t b nx L G), .bool true] := by unfold btR; rw [hok]; rfl
    rw [hE]
    rw [hok] at HOK
    obtain ⟨p1, p2, p3, p4, p5, p6, p7, p8⟩ := bx_txt hok
    obtain ⟨x1, e1, z1, C1⟩ := var_s g (by omega) (by omega)
    obtain ⟨x2, e2, z2, C2⟩ := var_s nm.size (by omega) (by omega)
    obtain ⟨x3, e3, z3, C3⟩ := var_s t (by omega) (by omega)
    obtain ⟨x4, e4, z4, C4⟩ := var_s b (by omega) (by omega)
    obtain ⟨x5, e5, z5, C5⟩ := var_s nx (by omega) (by omega)
    obtain ⟨x6, e6, z6, C6⟩ := var_s mn (by omega) (by have := HL.out; omega)
    obtain ⟨x7, e7, z7, C7⟩ := var_s gn (by omega) (by have := HG.out; omega)
    have P6 := hid p6
    have P8 := hid p8
    have hmn : mn ≤ 10 := by rw [← HL.out]; exact p5
    have hgn4 : gn ≤ 40 := by rw [← HG.out]; exact p7
    clear hE hok hn hgn p1 p3 p4 p5 p6 p7 p8
    go_enter Tryz.func56, Tryz.ntmps56
    go_wp2_with fail
    try rw [hW0]
    clear hW0
    refine HOK.out.mono ?_; rintro e w1 ⟨rfl, hb1⟩
    replace XB := hid (XB.out.later hb1)
    replace HB := hid (btr HB.out hb1)
    clear hb1 c0
    go_wp2_with fail
    have HSS : Hid (∀ W, Bx W w.heap.size 38 g nm t b nx (.slice ma mn mc) (.slice ga gn gc) → (W.cell? ⟨w.heap.size, 0, none⟩ = some (.int .i64 g) ∧ W.cell? ⟨w.heap.size, 1, none⟩ = some (.string nm) ∧ W.cell? ⟨w.heap.size, 2, none⟩ = some (.int .i64 t) ∧ W.cell? ⟨w.heap.size, 3, none⟩ = some (.int .i64 b) ∧ W.cell? ⟨w.heap.size, 4, none⟩ = some (.int .i64 nx) ∧ W.cell? ⟨w.heap.size, 5, none⟩ = some (.slice ma mn mc) ∧ W.cell? ⟨w.heap.size, 6, none⟩ = some (.slice ga gn gc))) := hid (fun W h => h.cells)
    have q1 : (9223372036854775807 < x1.size + x2.size) = False := eq_false (by omega)
    have q2 : (9223372036854775807 < x1.size + x2.size + nm.size) = False := eq_false (by omega)
    have q3 : (9223372036854775807 < x1.size + x2.size + nm.size + x3.size) = False := eq_false (by omega)
    have q4 : (9223372036854775807 < x1.size + x2.size + nm.size + x3.size + x4.size) = False := eq_false (by omega)
    have q5 : (9223372036854775807 < x1.size + x2.size + nm.size + x3.size + x4.size + x5.size) = False := eq_false (by omega)
    have q6 : (9223372036854775807 < x1.size + x2.size + nm.size + x3.size + x4.size + x5.size + x6.size) = False := eq_false (by omega)
    refine wp_region_noPanic ?_
    refine wp_region_held_drew (S := (fun W => (W.cell? ⟨w.heap.size, 0, none⟩ = some (.int .i64 g) ∧ W.cell? ⟨w.heap.size, 1, none⟩ = some (.string nm) ∧ W.cell? ⟨w.heap.size, 2, none⟩ = some (.int .i64 t) ∧ W.cell? ⟨w.heap.size, 3, none⟩ = some (.int .i64 b) ∧ W.cell? ⟨w.heap.size, 4, none⟩ = some (.int .i64 nx) ∧ W.cell? ⟨w.heap.size, 5, none⟩ = some (.slice ma mn mc) ∧ W.cell? ⟨w.heap.size, 6, none⟩ = some (.slice ga gn gc)))) (by kernel_rfl) (HSS.out _ (XB.out.later (bdr (bre _)))) (fun hHeld => ?_)
    refine tk 0 ?_
    refine tk 1 ?_
    refine tk 3 ?_
    refine tk 4 ?_
    refine tk 5 ?_
    refine tk 8 ?_
    refine tk 9 ?_
    refine tk 11 ?_
    refine tk 12 ?_
    refine tk 13 ?_
    refine tk 16 ?_
    refine tk 17 ?_
    refine tk 18 ?_
    refine tk 21 ?_
    refine tk 22 ?_
    refine tk 25 ?_
    refine tk 26 ?_
    refine tk 27 ?_
    clear hHeld
    refine ry 2 (fun K hK => ?_)
    go_simp
    refine (C1.out _).mono ?_; rintro e w2 ⟨rfl, hbx⟩
    replace hbx := btr (bdr (bre _)) hbx
    replace XB := hid (XB.out.later hbx)
    replace HB := hid (btr HB.out hbx)
    clear hbx
    go_wp2_with fail
    refine hK.out _ _ (HSS.out _ XB.out) (fun hHeld => ?_)
    clear hK K
    try simp only [Act.put, List.setIfInBounds_toArray, List.set_cons_zero, List.set_cons_succ]
    clear hHeld
    refine ry 6 (fun K hK => ?_)
    go_simp
    refine (C2.out _).mono ?_; rintro e w3 ⟨rfl, hbx⟩
    replace XB := hid (XB.out.later hbx)
    replace HB := hid (btr HB.out hbx)
    clear hbx
    go_wp2_with fail
    refine hK.out _ _ (HSS.out _ XB.out) (fun hHeld => ?_)
    clear hK K
    try simp only [Act.put, List.setIfInBounds_toArray, List.set_cons_zero, List.set_cons_succ]
    refine tk 7 ?_
    refine tk 10 ?_
    clear hHeld
    refine ry 14 (fun K hK => ?_)
    go_simp
    refine (C3.out _).mono ?_; rintro e w4 ⟨rfl, hbx⟩
    replace XB := hid (XB.out.later hbx)
    replace HB := hid (btr HB.out hbx)
    clear hbx
    go_wp2_with fail
    refine hK.out _ _ (HSS.out _ XB.out) (fun hHeld => ?_)
    clear hK K
    try simp only [Act.put, List.setIfInBounds_toArray, List.set_cons_zero, List.set_cons_succ]
    refine tk 15 ?_
    clear hHeld
    refine ry 19 (fun K hK => ?_)
    go_simp
    refine (C4.out _).mono ?_; rintro e w5 ⟨rfl, hbx⟩
    replace XB := hid (XB.out.later hbx)
    replace HB := hid (btr HB.out hbx)
    clear hbx
    go_wp2_with fail
    refine hK.out _ _ (HSS.out _ XB.out) (fun hHeld => ?_)
    clear hK K
    try simp only [Act.put, List.setIfInBounds_toArray, List.set_cons_zero, List.set_cons_succ]
    refine tk 20 ?_
    clear hHeld
    refine ry 23 (fun K hK => ?_)
    go_simp
    refine (C5.out _).mono ?_; rintro e w6 ⟨rfl, hbx⟩
    replace XB := hid (XB.out.later hbx)
    replace HB := hid (btr HB.out hbx)
    clear hbx
    go_wp2_with fail
    refine hK.out _ _ (HSS.out _ XB.out) (fun hHeld => ?_)
    clear hK K
    try simp only [Act.put, List.setIfInBounds_toArray, List.set_cons_zero, List.set_cons_succ]
    refine tk 24 ?_
    clear hHeld
    refine ry 28 (fun K hK => ?_)
    go_simp
    refine (C6.out _).mono ?_; rintro e w7 ⟨rfl, hbx⟩
    replace XB := hid (XB.out.later hbx)
    replace HB := hid (btr HB.out hbx)
    clear hbx
    go_wp2_with fail
    refine hK.out _ _ (HSS.out _ XB.out) (fun hHeld => ?_)
    clear hK K
    try simp only [Act.put, List.setIfInBounds_toArray, List.set_cons_zero, List.set_cons_succ]
    refine tk 29 ?_
    refine tk 30 ?_
    refine wpAnyH_done (by kernel_rfl) ?_ _
    refine NoPanic.normal ?_
    clear hHeld q1 q2 q3 q4 q5 q6
    obtain ⟨th, hth⟩ : ∃ s, x1 ++ x2 ++ nm ++ x3 ++ x4 ++ x5 ++ x6 = s := ⟨_, rfl⟩
    have HTH : Hid (th = bth g nm t b nx L.length) := hid (by rw [← hth, e1.out, e2.out, e3.out, e4.out, e5.out, e6.out, HL.out]; rfl)
    have hthz : th.size ≤ 7000000100 := by rw [← hth]; simp only [ByteArray.size_append]; omega
    rw [hth]
    clear hth z1 z2 z3 z4 z5 z6 C1 C2 C3 C4 C5 C6 HOK
    go_wp2
    go_loopw [4, 5] (fun sv iv wr => ∃ (i : Nat) (s : ByteArray), i ≤ mn ∧ iv = .int .i64 (i : Int) ∧ sv = .string s ∧ Hid (s = th ++ mts (L.take i)) ∧ Hid (s.size ≤ 7000000100 + i * 20000000000) ∧ Bx wr w.heap.size 38 g nm t b nx (.slice ma mn mc) (.slice ga gn gc) ∧ Below w.heap.size w wr) (fun _ iv _ => mn - (intOf iv).toNat)
    case atStart => exact ⟨0, th, Nat.zero_le _, rfl, rfl, by show th = th ++ mts []; rw [show mts [] = ⟨#[]⟩ from rfl, nil_ba], by show _ ≤ _; omega, XB.out, HB.out⟩
    case round =>
      obtain ⟨i, s, hi, rfl, rfl, HT, HZ, hx, hb⟩ := hrel
      replace XB := hid hx
      replace HB := hid hb
      have c0 := XB.out.cells
      clear hx hb
      by_cases hlt : i < mn
      · have hil : i < L.length := by rw [HL.out]; exact hlt
        obtain ⟨k, o, fa, fc, hka, hkk, d, hrs, _⟩ := (HM.out.later HB.out).at hil
        have hok := P6.out L[i] (List.getElem_mem hil)
        have hsz := mtx_size hok
        have htk : mts (L.take (i + 1)) = mts (L.take i) ++ mtx L[i].1 L[i].2.1 L[i].2.2.1 L[i].2.2.2 := by rw [List.take_succ_eq_append_getElem hil, mts_snoc]
        have hfl := (HX.out L[i] (List.getElem_mem hil)).1
        obtain ⟨q, hq⟩ : ∃ q, L[i] = q := ⟨_, rfl⟩
        obtain ⟨g2, u, fl, tx⟩ := q
        rw [hq] at d hrs hok hsz htk hfl
        dsimp only at d hrs hok hsz htk hfl
        have CT := specMailText_any g2 u fa fl.length fc fl tx wr rfl hfl hrs
        have hE2 : mtR g2 u fl tx = .tuple #[.string (mtx g2 u fl tx), .bool true] := by unfold mtR; rw [hok]; rfl
        rw [hE2] at CT
        obtain ⟨xm, hxm⟩ : ∃ x, mtx g2 u fl tx = x := ⟨_, rfl⟩
        obtain ⟨lf, hlf⟩ : ∃ n, fl.length = n := ⟨_, rfl⟩
        rw [hxm] at CT hsz htk
        rw [hlf] at CT d
        have HCT := hid CT
        have HTK := hid htk
        subst hka
        have hI : (0 : Int) ≤ (i : Int) ∧ (i : Int) < (mn : Int) := by omega
        have hz := HZ.out
        have q1 : (9223372036854775807 < s.size + xm.size) = False := eq_false (by omega)
        clear hq hok hfl hE2 hxm hlf CT htk hrs
        go_wp2_with fail
        refine HCT.out.mono ?_; rintro e w9 ⟨rfl, hb9⟩
        replace XB := hid (XB.out.later hb9)
        replace HB := hid (btr HB.out hb9)
        clear hb9 d c0 HCT
        go_wp2
        clear q1
        go_roundw
        case rel => exact ⟨i + 1, s ++ xm, by omega, by go_num, rfl, by show _ = _; rw [HTK.out, HT.out, ByteArray.append_assoc], by show _ ≤ _; rw [ByteArray.size_append]; omega, XB.out, HB.out⟩
        case measure => simp [intOf]; omega
      · have HT2 : Hid (s = th ++ mts L) := hid (by have := HT.out; rwa [List.take_of_length_le (by rw [HL.out]; omega)] at this)
        have hz := HZ.out
        have q1 : (9223372036854775807 < s.size + x7.size) = False := eq_false (by omega)
        have q2 : (9223372036854775807 < s.size) = False := eq_false (by omega)
        go_wp2_with fail
        refine (C7.out _).mono ?_; rintro e w9 ⟨rfl, hb9⟩
        replace XB := hid (XB.out.later hb9)
        replace HB := hid (btr HB.out hb9)
        clear hb9 c0 HT HZ
        go_wp2
        clear q1 q2
        obtain ⟨s2, hs2⟩ : ∃ x, s ++ x7 = x := ⟨_, rfl⟩
        have HS2 : Hid (s2 = bth g nm t b nx L.length ++ mts L ++ vi G.length) := hid (by rw [← hs2, HT2.out, HTH.out, e7.out, HG.out])
        have hz2 : s2.size ≤ 300000000000 := by rw [← hs2, ByteArray.size_append]; omega
        rw [hs2]
        clear hs2 hz
        go_loopw [4, 8] (fun sv iv wr => ∃ (i : Nat) (s : ByteArray), i ≤ gn ∧ iv = .int .i64 (i : Int) ∧ sv = .string s ∧ Hid (s = s2 ++ vis (G.take i)) ∧ Hid (s.size ≤ 300000000000 + i * 1000000001) ∧ Bx wr w.heap.size 38 g nm t b nx (.slice ma mn mc) (.slice ga gn gc) ∧ Below w.heap.size w wr) (fun _ iv _ => gn - (intOf iv).toNat)
        case atStart => exact ⟨0, s2, Nat.zero_le _, rfl, rfl, by show s2 = s2 ++ vis []; rw [show vis [] = ⟨#[]⟩ from rfl, nil_ba], by show _ ≤ _; omega, XB.out, HB.out⟩
        case round =>
          obtain ⟨j, s3, hj, rfl, rfl, HT3, HZ3, hx, hb⟩ := hrel
          replace XB := hid hx
          replace HB := hid hb
          have c0 := XB.out.cells
          clear hx hb
          by_cases hlt2 : j < gn
          · have hjl : j < G.length := by rw [HG.out]; exact hlt2
            obtain ⟨k, o, hka, hkk, d⟩ := (HS.out.later HB.out).at hjl
            have hp := P8.out G[j] (List.getElem_mem hjl)
            have htk : vis (G.take (j + 1)) = vis (G.take j) ++ vi G[j] := by rw [List.take_succ_eq_append_getElem hjl, vis_snoc]
            obtain ⟨x, hx⟩ : ∃ x, G[j] = x := ⟨_, rfl⟩
            rw [hx] at d hp htk
            obtain ⟨xv, ev, zv, CV⟩ := var_s x (by omega) (by omega)
            rw [← ev.out] at htk
            have HTK := hid htk
            subst hka
            have hI : (0 : Int) ≤ (j : Int) ∧ (j : Int) < (gn : Int) := by omega
            have hz := HZ3.out
            have q1 : (9223372036854775807 < s3.size + xv.size) = False := eq_false (by omega)
            clear hx hp htk ev
            go_wp2_with fail
            refine (CV.out _).mono ?_; rintro e w10 ⟨rfl, hb10⟩
            replace XB := hid (XB.out.later hb10)
            replace HB := hid (btr HB.out hb10)
            clear hb10 d c0 CV
            go_wp2
            clear q1
            go_roundw
            case rel => exact ⟨j + 1, s3 ++ xv, by omega, by go_num, rfl, by show _ = _; rw [HTK.out, HT3.out, ByteArray.append_assoc], by show _ ≤ _; rw [ByteArray.size_append]; omega, XB.out, HB.out⟩
            case measure => simp [intOf]; omega
          · have HT4 : Hid (s3 = btx g nm t b nx L G) := hid (by have := HT3.out; rw [List.take_of_length_le (by rw [HG.out]; omega), HS2.out] at this; exact this)
            go_wp2
            go_ret2
            exact ⟨by rw [← HT4.out]; rfl, HB.out⟩
end Go.Proofs.YtocfggfccbnbhaaGreatDoor

namespace Go.Proofs.YtocfggfccbnbhaaGreatDoor
open Go.RowKit Go.ChangeMaps
theorem vbs_k : ∀ (k n : Nat), n < 128 ^ (k + 1) → (vbs n).length ≤ k + 1
  | 0, n, h => by rw [vbs_small n (by omega)]; simp
  | k + 1, n, h => by
    by_cases hn : n < 128
    · rw [vbs_small n (by omega)]; simp
    · rw [vbs_big n (by omega)]
      have := vbs_k k (n / 128) (by rw [Nat.pow_succ] at h; omega)
      simp; omega
theorem vi_k (k : Nat) (n : Int) (h : n < 128 ^ (k + 1)) : (vi n).size ≤ k + 1 := by
  have h2 : n.toNat < 128 ^ (k + 1) := by
    have h3 : ((128 : Int) ^ (k + 1)) = ((128 ^ (k + 1) : Nat) : Int) := by simp
    rw [h3] at h
    have h4 : 0 < 128 ^ (k + 1) := Nat.pow_pos (by decide)
    omega
  have := vbs_k k n.toNat h2
  show (vbs n.toNat).toArray.size ≤ _
  simpa using this
theorem vi_1 {n : Int} (h : n ≤ 127) : (vi n).size ≤ 1 := vi_k 0 n (by omega)
theorem vi_2 {n : Int} (h : n ≤ 10000) : (vi n).size ≤ 2 := vi_k 1 n (by omega)
theorem vi_3 {n : Int} (h : n ≤ 100000) : (vi n).size ≤ 3 := vi_k 2 n (by omega)
theorem mtx_80 {g u : Int} {l : List R3} {t : ByteArray} (h : mlOk g u l t = true) : (mtx g u l t).size ≤ 80 := by
  simp only [mlOk, gok, flOk, Bool.and_eq_true, decide_eq_true_eq] at h
  obtain ⟨h1, h2, ⟨h3, h4⟩, h5⟩ := h
  have hr : ∀ p ∈ l, (rt p).size ≤ 5 := by
    intro p hp
    have h6 := List.all_eq_true.1 h4 p hp
    simp only [okp, rgOk, stOk, Bool.and_eq_true, decide_eq_true_eq] at h6
    have a1 := vi_1 (n := p.1) (by omega)
    have a2 := vi_3 (n := p.2.1) (by omega)
    have a3 := vi_1 (n := p.2.2) (by omega)
    unfold rt
    rw [ByteArray.size_append, ByteArray.size_append]
    omega
  have hs : ∀ k : List R3, (∀ p ∈ k, (rt p).size ≤ 5) → (rts k).size ≤ k.length * 5 := by
    intro k
    induction k with
    | nil => intro _; exact Nat.zero_le _
    | cons p k ih =>
      intro hk
      have h7 := hk p (List.mem_cons_self ..)
      have h8 := ih (fun q hq => hk q (List.mem_cons_of_mem _ hq))
      simp only [rts, ByteArray.size_append, List.length_cons]
      omega
  have h9 := hs l hr
  have a1 := vi_2 (n := g) (by omega)
  have a2 := vi_2 (n := u) (by omega)
  have a3 := vi_1 (n := (t.size : Int)) (by omega)
  unfold mtx
  simp only [ByteArray.size_append]
  have : l.length = 3 := by simpa using h3
  rw [this] at h9
  omega
theorem mts_80 {L : List M4} (h : ∀ m ∈ L, mlOk m.1 m.2.1 m.2.2.1 m.2.2.2 = true) : (mts L).size ≤ L.length * 80 := by
  induction L with
  | nil => exact Nat.zero_le _
  | cons m L ih =>
    have h1 := mtx_80 (h m (List.mem_cons_self ..))
    have h2 := ih (fun q hq => h q (List.mem_cons_of_mem _ hq))
    simp only [mts, ByteArray.size_append, List.length_cons]
    omega
theorem vis_2 {G : List Int} (h : ∀ y ∈ G, 1 ≤ y ∧ y ≤ 9999) : (vis G).size ≤ G.length * 2 := by
  induction G with
  | nil => exact Nat.zero_le _
  | cons m L ih =>
    have h1 := vi_2 (n := m) (by have := h m (List.mem_cons_self ..); omega)
    have h2 := ih (fun q hq => h q (List.mem_cons_of_mem _ hq))
    simp only [vis, ByteArray.size_append, List.length_cons]
    omega
theorem btx_size {g : Int} {nm : ByteArray} {t b nx : Int} {L : List M4} {G : List Int} (h : bxOk g nm t b nx L G = true) : (btx g nm t b nx L G).size ≤ 903 := by
  obtain ⟨p1, p2, p3, p4, p5, p6, p7, p8⟩ := bx_txt h
  have a1 := vi_2 (n := g) (by omega)
  have a2 := vi_1 (n := (nm.size : Int)) (by omega)
  have a3 := vi_3 (n := t) (by omega)
  have a4 := vi_1 (n := b) (by omega)
  have a5 := vi_2 (n := nx) (by omega)
  have a6 := vi_1 (n := (L.length : Int)) (by omega)
  have a7 := vi_1 (n := (G.length : Int)) (by omega)
  have a8 := mts_80 p6
  have a9 := vis_2 p8
  unfold btx bth
  simp only [ByteArray.size_append]
  omega
/-- The bytes of boxes; of a store, not sealed. -/
def bts : List X7 → ByteArray
  | [] => ⟨#[]⟩
  | x :: S => btx x.1 x.2.1 x.2.2.1 x.2.2.2.1 x.2.2.2.2.1 x.2.2.2.2.2.1 x.2.2.2.2.2.2 ++ bts S
theorem bts_snoc (S : List X7) (x : X7) : bts (S ++ [x]) = bts S ++ btx x.1 x.2.1 x.2.2.1 x.2.2.2.1 x.2.2.2.2.1 x.2.2.2.2.2.1 x.2.2.2.2.2.2 := by
  induction S with
  | nil => simp only [List.nil_append, bts, ba_nil, nil_ba]
  | cons a S ih => simp only [List.cons_append, bts, ih, ByteArray.append_assoc]
def stx (y tm : Int) (S : List X7) (G : List Int) : ByteArray := vi y ++ vi tm ++ vi S.length ++ bts S ++ vi G.length ++ vis G
theorem bts_size {S : List X7} (h : ∀ x ∈ S, bxx x = true) : (bts S).size ≤ S.length * 903 := by
  induction S with
  | nil => exact Nat.zero_le _
  | cons x S ih =>
    have h1 := btx_size (h x (List.mem_cons_self ..))
    have h2 := ih (fun q hq => h q (List.mem_cons_of_mem _ hq))
    simp only [bts, ByteArray.size_append, List.length_cons]
    omega
/-- What a right store's numbers are. -/
theorem st_txt {y tm : Int} {S : List X7} {G : List Int} (h : sOk y tm S G = true) : (1 ≤ y ∧ y ≤ 2) ∧ (0 ≤ tm ∧ tm ≤ 100000) ∧ S.length ≤ 5 ∧ (∀ x ∈ S, bxx x = true) ∧ G.length ≤ 20 ∧ ∀ z ∈ G, 1 ≤ z ∧ z ≤ 9999 := by
  simp only [sOk, gnM, Bool.and_eq_true, decide_eq_true_eq] at h
  obtain ⟨h1, h2, h3, h4, h5, -⟩ := h
  refine ⟨h1, h2, by omega, fun x hx => ?_, by omega, asc_gk h4.1⟩
  obtain ⟨i, hi, rfl⟩ := List.getElem_of_mem hx
  have h9 := List.all_eq_true.1 h5 i (List.mem_range.2 hi)
  unfold stp7 at h9
  rw [List.getElem?_eq_getElem hi] at h9
  simp only [Bool.and_eq_true] at h9
  exact h9.1
theorem stx_size {y tm : Int} {S : List X7} {G : List Int} (h : sOk y tm S G = true) : (stx y tm S G).size ≤ 4561 := by
  obtain ⟨p1, p2, p3, p4, p5, p6⟩ := st_txt h
  have a1 := vi_1 (n := y) (by omega)
  have a2 := vi_3 (n := tm) (by omega)
  have a3 := vi_1 (n := (S.length : Int)) (by omega)
  have a4 := vi_1 (n := (G.length : Int)) (by omega)
  have a5 := bts_size p4
  have a6 := vis_2 p6
  unfold stx
  simp only [ByteArray.size_append]
  omega
end Go.Proofs.YtocfggfccbnbhaaGreatDoor

namespace Go.Proofs.YtocfggfccbnbhaaGreatDoor
open Go.RowKit Go.ChangeMaps
def stR (y tm : Int) (S : List X7) (G : List Int) : Value := if sOk y tm S G = true then .tuple #[.string (stx y tm S G ++ tail4 (stx y tm S G)), .bool true] else .tuple #[.string ⟨#[]⟩, .bool false]
set_option maxHeartbeats 8000000 in
set_option maxRecDepth 100000 in
theorem specStoreText_any (l1 h1 l2 h2 : Nat) (y tm : Int) (ba : Option Addr) (bn bc : Nat) (ga : Option Addr) (gn gc : Nat) (S : List X7) (G : List Int) (w : World) (hl : S.length = bn) (hn : bn ≤ 1048576) (hsb : Sb S) (hm : Bs l1 h1 w ba S) (hgl : G.length = gn) (hgn : gn ≤ 1048576) (hs : Is l2 h2 w ga G) :
    Calls Tryz.prog 26 #[.agg #[.int .i64 y, .int .i64 tm, .slice ba bn bc, .slice ga gn gc]] w fun e w' => e = .returned (stR y tm S G) ∧ Below w.heap.size w w' := by
  obtain ⟨W0, hW0⟩ : ∃ W0, w.alloc (.cells #[.int .i64 y, .int .i64 tm, .slice ba bn bc, .slice ga gn gc] 27) = W0 := ⟨_, rfl⟩
  have a0 : Sx W0 w.heap.size 27 y tm (.slice ba bn bc) (.slice ga gn gc) := by subst hW0; exact Sx.new w _ y tm _ _
  have b0 : Below w.heap.size w W0 := by subst hW0; exact bpush (bre _) _
  have c0 := a0.cells
  have XB := hid a0
  have HB := hid b0
  have HM := hid hm
  have HS := hid hs
  have HX := hid hsb
  have HL := hid hl
  have HG := hid hgl
  have HOK := hid (specStoreOk_any l1 h1 l2 h2 y tm ba bn bc ga gn gc S G W0 hl hn hsb (hm.later b0) hgl hgn (hs.later b0))
  clear a0 b0 hm hs hsb hl hgl
  cases hok : sOk y tm S G
  · have hE : stR y tm S G = .tuple #[.string ⟨#[]⟩, .bool false] := by unfold stR; rw [hok]; rfl
    rw [hE]
    rw [hok] at HOK
    clear hE hok
    go_enter Tryz.func26, Tryz.ntmps26
    go_wp2_with fail
    try rw [hW0]
    clear hW0
    refine HOK.out.mono ?_; rintro e w1 ⟨rfl, hb1⟩
    have B1 := hid (btr HB.out hb1)
    clear hb1 c0
    go_wp2
    go_ret2
    exact ⟨rfl, B1.out⟩
  · have hE : stR y tm S G = .tuple #[.string (stx y tm S G ++ tail4 (stx y tm S G)), .bool true] := by unfold stR; rw [hok]; rfl
    rw [hE]
    rw [hok] at HOK
    have HZZ := hid (stx_size hok)
    obtain ⟨p1, p2, p3, p4, p5, p6⟩ := st_txt hok
    obtain ⟨x1, e1, z1, C1⟩ := var_s y (by omega) (by omega)
    obtain ⟨x2, e2, z2, C2⟩ := var_s tm (by omega) (by omega)
    obtain ⟨x3, e3, z3, C3⟩ := var_s bn (by omega) (by have := HL.out; omega)
    obtain ⟨x7, e7, z7, CC7⟩ := var_s gn (by omega) (by have := HG.out; omega)
    have P4 := hid p4
    have P6 := hid p6
    have hmn : bn ≤ 5 := by rw [← HL.out]; exact p3
    have hgn4 : gn ≤ 20 := by rw [← HG.out]; exact p5
    clear hE hok hn hgn p1 p2 p3 p4 p5 p6
    go_enter Tryz.func26, Tryz.ntmps26
    go_wp2_with fail
    try rw [hW0]
    clear hW0
    refine HOK.out.mono ?_; rintro e w1 ⟨rfl, hb1⟩
    replace XB := hid (XB.out.later hb1)
    replace HB := hid (btr HB.out hb1)
    clear hb1 c0
    go_wp2_with fail
    have HSS : Hid (∀ W, Sx W w.heap.size 27 y tm (.slice ba bn bc) (.slice ga gn gc) → (W.cell? ⟨w.heap.size, 0, none⟩ = some (.int .i64 y) ∧ W.cell? ⟨w.heap.size, 1, none⟩ = some (.int .i64 tm) ∧ W.cell? ⟨w.heap.size, 2, none⟩ = some (.slice ba bn bc) ∧ W.cell? ⟨w.heap.size, 3, none⟩ = some (.slice ga gn gc))) := hid (fun W h => h.cells)
    have q1 : (9223372036854775807 < x1.size + x2.size) = False := eq_false (by omega)
    have q2 : (9223372036854775807 < x1.size + x2.size + x3.size) = False := eq_false (by omega)
    refine wp_region_noPanic ?_
    refine wp_region_held_drew (S := (fun W => (W.cell? ⟨w.heap.size, 0, none⟩ = some (.int .i64 y) ∧ W.cell? ⟨w.heap.size, 1, none⟩ = some (.int .i64 tm) ∧ W.cell? ⟨w.heap.size, 2, none⟩ = some (.slice ba bn bc) ∧ W.cell? ⟨w.heap.size, 3, none⟩ = some (.slice ga gn gc)))) (by kernel_rfl) (HSS.out _ (XB.out.later (bdr (bre _)))) (fun hHeld => ?_)
    refine tk 0 ?_
    refine tk 1 ?_
    refine tk 3 ?_
    refine tk 4 ?_
    refine tk 7 ?_
    refine tk 8 ?_
    refine tk 9 ?_
    clear hHeld
    refine ry 2 (fun K hK => ?_)
    go_simp
    refine (C1.out _).mono ?_; rintro e w2 ⟨rfl, hbx⟩
    replace hbx := btr (bdr (bre _)) hbx
    replace XB := hid (XB.out.later hbx)
    replace HB := hid (btr HB.out hbx)
    clear hbx
    go_wp2_with fail
    refine hK.out _ _ (HSS.out _ XB.out) (fun hHeld => ?_)
    clear hK K
    try simp only [Act.put, List.setIfInBounds_toArray, List.set_cons_zero, List.set_cons_succ]
    clear hHeld
    refine ry 5 (fun K hK => ?_)
    go_simp
    refine (C2.out _).mono ?_; rintro e w3 ⟨rfl, hbx⟩
    replace XB := hid (XB.out.later hbx)
    replace HB := hid (btr HB.out hbx)
    clear hbx
    go_wp2_with fail
    refine hK.out _ _ (HSS.out _ XB.out) (fun hHeld => ?_)
    clear hK K
    try simp only [Act.put, List.setIfInBounds_toArray, List.set_cons_zero, List.set_cons_succ]
    refine tk 6 ?_
    clear hHeld
    refine ry 10 (fun K hK => ?_)
    go_simp
    refine (C3.out _).mono ?_; rintro e w4 ⟨rfl, hbx⟩
    replace XB := hid (XB.out.later hbx)
    replace HB := hid (btr HB.out hbx)
    clear hbx
    go_wp2_with fail
    refine hK.out _ _ (HSS.out _ XB.out) (fun hHeld => ?_)
    clear hK K
    try simp only [Act.put, List.setIfInBounds_toArray, List.set_cons_zero, List.set_cons_succ]
    refine tk 11 ?_
    refine tk 12 ?_
    refine wpAnyH_done (by kernel_rfl) ?_ _
    refine NoPanic.normal ?_
    clear hHeld q1 q2
    obtain ⟨th, hth⟩ : ∃ s, x1 ++ x2 ++ x3 = s := ⟨_, rfl⟩
    have HTH : Hid (th = vi y ++ vi tm ++ vi S.length) := hid (by rw [← hth, e1.out, e2.out, e3.out, HL.out])
    have hthz : th.size ≤ 3000000003 := by rw [← hth]; simp only [ByteArray.size_append]; omega
    rw [hth]
    clear hth z1 z2 z3 C1 C2 C3 HOK
    go_wp2
    go_loopw [4, 5] (fun sv iv wr => ∃ (i : Nat) (s : ByteArray), i ≤ bn ∧ iv = .int .i64 (i : Int) ∧ sv = .string s ∧ Hid (s = th ++ bts (S.take i)) ∧ Hid (s.size ≤ 3000000003 + i * 903) ∧ Sx wr w.heap.size 27 y tm (.slice ba bn bc) (.slice ga gn gc) ∧ Below w.heap.size w wr) (fun _ iv _ => bn - (intOf iv).toNat)
    case atStart => exact ⟨0, th, Nat.zero_le _, rfl, rfl, by show th = th ++ bts []; rw [show bts [] = ⟨#[]⟩ from rfl, nil_ba], by show _ ≤ _; omega, XB.out, HB.out⟩
    case round =>
      obtain ⟨i, s, hi, rfl, rfl, HT, HZ, hx, hb⟩ := hrel
      replace XB := hid hx
      replace HB := hid hb
      have c0 := XB.out.cells
      clear hx hb
      by_cases hlt : i < bn
      · have hil : i < S.length := by rw [HL.out]; exact hlt
        obtain ⟨k, o, ma, mc, ha, hc, hka, hkk, d, hms, hgs, _⟩ := (HM.out.later HB.out).at hil
        have hok := P4.out S[i] (List.getElem_mem hil)
        have hsz := btx_size hok
        have htk : bts (S.take (i + 1)) = bts (S.take i) ++ btx S[i].1 S[i].2.1 S[i].2.2.1 S[i].2.2.2.1 S[i].2.2.2.2.1 S[i].2.2.2.2.2.1 S[i].2.2.2.2.2.2 := by rw [List.take_succ_eq_append_getElem hil, bts_snoc]
        have hsb := HX.out S[i] (List.getElem_mem hil)
        obtain ⟨q, hq⟩ : ∃ q, S[i] = q := ⟨_, rfl⟩
        obtain ⟨g, nm, t, b, nx, L, H⟩ := q
        rw [hq] at d hms hgs hok hsz htk hsb
        dsimp only at d hms hgs hsz htk hsb
        have CT := specBoxText_any _ _ _ _ g nm t b nx ma L.length mc ha H.length hc L H wr hsb.1 rfl hsb.2.1 hsb.2.2.1 hms rfl hsb.2.2.2 hgs
        have hE2 : btR g nm t b nx L H = .tuple #[.string (btx g nm t b nx L H), .bool true] := by unfold btR; rw [show bxOk g nm t b nx L H = true from hok]; rfl
        rw [hE2] at CT
        obtain ⟨xm, hxm⟩ : ∃ x, btx g nm t b nx L H = x := ⟨_, rfl⟩
        obtain ⟨mn, hmn2⟩ : ∃ n, L.length = n := ⟨_, rfl⟩
        obtain ⟨hn9, hhn⟩ : ∃ n, H.length = n := ⟨_, rfl⟩
        rw [hxm] at CT hsz htk
        rw [hmn2, hhn] at CT d
        have HCT := hid CT
        have HTK := hid htk
        subst hka
        unfold C7 at d
        have hI : (0 : Int) ≤ (i : Int) ∧ (i : Int) < (bn : Int) := by omega
        have hz := HZ.out
        have q1 : (9223372036854775807 < s.size + xm.size) = False := eq_false (by omega)
        clear hq hok hsb hE2 hxm hmn2 hhn CT htk hms hgs
        go_wp2_with fail
        refine HCT.out.mono ?_; rintro e w9 ⟨rfl, hb9⟩
        replace XB := hid (XB.out.later hb9)
        replace HB := hid (btr HB.out hb9)
        clear hb9 d c0 HCT
        go_wp2
        clear q1
        go_roundw
        case rel => exact ⟨i + 1, s ++ xm, by omega, by go_num, rfl, by show _ = _; rw [HTK.out, HT.out, ByteArray.append_assoc], by show _ ≤ _; rw [ByteArray.size_append]; omega, XB.out, HB.out⟩
        case measure => simp [intOf]; omega
      · have HT2 : Hid (s = th ++ bts S) := hid (by have := HT.out; rwa [List.take_of_length_le (by rw [HL.out]; omega)] at this)
        have hz := HZ.out
        have q1 : (9223372036854775807 < s.size + x7.size) = False := eq_false (by omega)
        have q2 : (9223372036854775807 < s.size) = False := eq_false (by omega)
        go_wp2_with fail
        refine (CC7.out _).mono ?_; rintro e w9 ⟨rfl, hb9⟩
        replace XB := hid (XB.out.later hb9)
        replace HB := hid (btr HB.out hb9)
        clear hb9 c0 HT HZ
        go_wp2
        clear q1 q2
        obtain ⟨s2, hs2⟩ : ∃ x, s ++ x7 = x := ⟨_, rfl⟩
        have HS2 : Hid (s2 = vi y ++ vi tm ++ vi S.length ++ bts S ++ vi G.length) := hid (by rw [← hs2, HT2.out, HTH.out, e7.out, HG.out])
        have hz2 : s2.size ≤ 300000000000 := by rw [← hs2, ByteArray.size_append]; omega
        rw [hs2]
        clear hs2 hz
        go_loopw [4, 8] (fun sv iv wr => ∃ (i : Nat) (s : ByteArray), i ≤ gn ∧ iv = .int .i64 (i : Int) ∧ sv = .string s ∧ Hid (s = s2 ++ vis (G.take i)) ∧ Hid (s.size ≤ 300000000000 + i * 1000000001) ∧ Sx wr w.heap.size 27 y tm (.slice ba bn bc) (.slice ga gn gc) ∧ Below w.heap.size w wr) (fun _ iv _ => gn - (intOf iv).toNat)
        case atStart => exact ⟨0, s2, Nat.zero_le _, rfl, rfl, by show s2 = s2 ++ vis []; rw [show vis [] = ⟨#[]⟩ from rfl, nil_ba], by show _ ≤ _; omega, XB.out, HB.out⟩
        case round =>
          obtain ⟨j, s3, hj, rfl, rfl, HT3, HZ3, hx, hb⟩ := hrel
          replace XB := hid hx
          replace HB := hid hb
          have c0 := XB.out.cells
          clear hx hb
          by_cases hlt2 : j < gn
          · have hjl : j < G.length := by rw [HG.out]; exact hlt2
            obtain ⟨k, o, hka, hkk, d⟩ := (HS.out.later HB.out).at hjl
            have hp := P6.out G[j] (List.getElem_mem hjl)
            have htk : vis (G.take (j + 1)) = vis (G.take j) ++ vi G[j] := by rw [List.take_succ_eq_append_getElem hjl, vis_snoc]
            obtain ⟨x, hx⟩ : ∃ x, G[j] = x := ⟨_, rfl⟩
            rw [hx] at d hp htk
            obtain ⟨xv, ev, zv, CV⟩ := var_s x (by omega) (by omega)
            rw [← ev.out] at htk
            have HTK := hid htk
            subst hka
            have hI : (0 : Int) ≤ (j : Int) ∧ (j : Int) < (gn : Int) := by omega
            have hz := HZ3.out
            have q1 : (9223372036854775807 < s3.size + xv.size) = False := eq_false (by omega)
            clear hx hp htk ev
            go_wp2_with fail
            refine (CV.out _).mono ?_; rintro e w10 ⟨rfl, hb10⟩
            replace XB := hid (XB.out.later hb10)
            replace HB := hid (btr HB.out hb10)
            clear hb10 d c0 CV
            go_wp2
            clear q1
            go_roundw
            case rel => exact ⟨j + 1, s3 ++ xv, by omega, by go_num, rfl, by show _ = _; rw [HTK.out, HT3.out, ByteArray.append_assoc], by show _ ≤ _; rw [ByteArray.size_append]; omega, XB.out, HB.out⟩
            case measure => simp [intOf]; omega
          · have HT4 : Hid (s3 = stx y tm S G) := hid (by have := HT3.out; rw [List.take_of_length_le (by rw [HG.out]; omega), HS2.out] at this; exact this)
            have HZ4 : Hid (s3.size ≤ 20000) := hid (by rw [HT4.out]; have := HZZ.out; omega)
            have CS := hid (specSealed_yes s3 wr HZ4.out)
            obtain ⟨t4, ht4⟩ : ∃ t, s3 ++ tail4 s3 = t := ⟨_, rfl⟩
            rw [ht4] at CS
            have HT5 : Hid (stx y tm S G ++ tail4 (stx y tm S G) = t4) := hid (by rw [← HT4.out, ht4])
            clear ht4
            go_wp2_with fail
            refine CS.out.mono ?_; rintro e w11 ⟨rfl, hb11⟩
            replace HB := hid (btr HB.out hb11)
            clear hb11 c0 CS
            go_wp2
            go_ret2
            exact ⟨by rw [HT5.out]; rfl, HB.out⟩
end Go.Proofs.YtocfggfccbnbhaaGreatDoor

namespace Go.Proofs.YtocfggfccbnbhaaGreatDoor
open Go.RowKit Go.ChangeMaps
theorem stR_l (y tm : Int) (S : List X7) (G : List Int) : ∃ x : ByteArray, stR y tm S G = .tuple #[.string x, .bool (sOk y tm S G)] ∧ (sOk y tm S G = true → x = stx y tm S G ++ tail4 (stx y tm S G)) := by
  cases h : sOk y tm S G
  · exact ⟨⟨#[]⟩, by unfold stR; rw [h]; rfl, fun h2 => by cases h2⟩
  · exact ⟨_, by unfold stR; rw [h]; rfl, fun _ => rfl⟩
end Go.Proofs.YtocfggfccbnbhaaGreatDoor

namespace Go.Proofs.YtocfggfccbnbhaaGreatDoor
open Go.RowKit
theorem alloc_size (w : World) (o : Obj) : (w.alloc o).heap.size = w.heap.size + 1 := by simp
end Go.Proofs.YtocfggfccbnbhaaGreatDoor

namespace Go.Proofs.YtocfggfccbnbhaaGreatDoor
open Go.RowKit Go.ChangeMaps
def zs (n : Nat) : List Value := List.replicate n (Value.int .u8 0)
end Go.Proofs.YtocfggfccbnbhaaGreatDoor

namespace Go.Proofs.YtocfggfccbnbhaaGreatDoor
open Go.RowKit Go.ChangeMaps
theorem tail4_len (u : ByteArray) : (tail4 u).size = 4 := by unfold tail4; rfl
end Go.Proofs.YtocfggfccbnbhaaGreatDoor

namespace Go.Proofs.YtocfggfccbnbhaaGreatDoor
open Go.RowKit Go.ChangeMaps
theorem Nib.on {w w' : World} (h : Nib w) (hb : Below w.heap.size w w') : Nib w' := h.later hb (World.block_lt_of_cell? _ _ (h 0 (by omega)))
end Go.Proofs.YtocfggfccbnbhaaGreatDoor

