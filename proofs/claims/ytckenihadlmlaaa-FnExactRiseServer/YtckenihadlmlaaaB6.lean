/- Srow, SrowB, Stb, Sat, Mj, Sapp. -/
import Derived.Test.YtckenihadlmlaaaB4
namespace Go.Proofs.Ytckenihadlmlaaa
open Go.RowKit Go.ChangeMaps
/-- A box as it is meant: Gid, Name, Named, Next, Mails, Gone. -/
abbrev X7 := Int × ByteArray × Int × Int × Int × List M4 × List Int
/-- A box as it lies: its fields, the values of its lists, and the blocks between which they lie. -/
structure Y9 where
  g : Int
  nm : ByteArray
  t : Int
  b : Int
  nx : Int
  mv : Value
  gv : Value
  L : List M4
  G : List Int
  lo : Nat
  hi : Nat
def yd (y : Y9) : X7 := (y.g, y.nm, y.t, y.b, y.nx, y.L, y.G)
/-- The cells of boxes. -/
def yc : List Y9 → List Value
  | [] => []
  | y :: Y => .int .i64 y.g :: .string y.nm :: .int .i64 y.t :: .int .i64 y.b :: .int .i64 y.nx :: y.mv :: y.gv :: yc Y
theorem yc_len (Y : List Y9) : (yc Y).length = Y.length * 7 := by
  induction Y with
  | nil => rfl
  | cons y Y ih => simp only [yc, List.length_cons, ih]; omega
theorem yc_app (Y X : List Y9) : yc (Y ++ X) = yc Y ++ yc X := by
  induction Y with
  | nil => rfl
  | cons y Y ih => simp only [List.cons_append, yc, ih]
theorem yc_at (Y : List Y9) (i : Nat) (h : i < Y.length) :
    (yc Y)[i * 7]? = some (.int .i64 Y[i].g) ∧ (yc Y)[i * 7 + 1]? = some (.string Y[i].nm) ∧ (yc Y)[i * 7 + 2]? = some (.int .i64 Y[i].t) ∧ (yc Y)[i * 7 + 3]? = some (.int .i64 Y[i].b) ∧ (yc Y)[i * 7 + 4]? = some (.int .i64 Y[i].nx) ∧ (yc Y)[i * 7 + 5]? = some Y[i].mv ∧ (yc Y)[i * 7 + 6]? = some Y[i].gv := by
  induction Y generalizing i with
  | nil => simp at h
  | cons y Y ih =>
    cases i with
    | zero => exact ⟨rfl, rfl, rfl, rfl, rfl, rfl, rfl⟩
    | succ i =>
      have h' : i < Y.length := by simpa using h
      have := ih i h'
      have e : (i + 1) * 7 = i * 7 + 1 + 1 + 1 + 1 + 1 + 1 + 1 := by omega
      rw [e]
      simpa [yc] using this
theorem yc_set (Y : List Y9) (i : Nat) (y : Y9) (h : i < Y.length) :
    (((((((yc Y).set (i * 7) (.int .i64 y.g)).set (i * 7 + 1) (.string y.nm)).set (i * 7 + 2) (.int .i64 y.t)).set (i * 7 + 3) (.int .i64 y.b)).set (i * 7 + 4) (.int .i64 y.nx)).set (i * 7 + 5) y.mv).set (i * 7 + 6) y.gv = yc (Y.set i y) := by
  induction Y generalizing i with
  | nil => simp at h
  | cons x Y ih =>
    cases i with
    | zero => rfl
    | succ i =>
      have h' : i < Y.length := by simpa using h
      have := ih i h'
      have e : (i + 1) * 7 = i * 7 + 1 + 1 + 1 + 1 + 1 + 1 + 1 := by omega
      rw [e]
      simpa [yc] using this
/-- The seven cells of a box. -/
def C7 (W : World) (k o : Nat) (g : Int) (nm : ByteArray) (t b nx : Int) (mv gv : Value) : Prop := W.cell? ⟨k, o, none⟩ = some (.int .i64 g) ∧ W.cell? ⟨k, o + 1, none⟩ = some (.string nm) ∧ W.cell? ⟨k, o + 2, none⟩ = some (.int .i64 t) ∧ W.cell? ⟨k, o + 3, none⟩ = some (.int .i64 b) ∧ W.cell? ⟨k, o + 4, none⟩ = some (.int .i64 nx) ∧ W.cell? ⟨k, o + 5, none⟩ = some mv ∧ W.cell? ⟨k, o + 6, none⟩ = some gv
theorem C7.same {W W' : World} {k o : Nat} {g : Int} {nm : ByteArray} {t b nx : Int} {mv gv : Value} (h : C7 W k o g nm t b nx mv gv) (e : W'.heap[k]? = W.heap[k]?) : C7 W' k o g nm t b nx mv gv :=
  ⟨(cell_same (p := ⟨k, _, none⟩) e).trans h.1, (cell_same (p := ⟨k, _, none⟩) e).trans h.2.1, (cell_same (p := ⟨k, _, none⟩) e).trans h.2.2.1, (cell_same (p := ⟨k, _, none⟩) e).trans h.2.2.2.1, (cell_same (p := ⟨k, _, none⟩) e).trans h.2.2.2.2.1, (cell_same (p := ⟨k, _, none⟩) e).trans h.2.2.2.2.2.1, (cell_same (p := ⟨k, _, none⟩) e).trans h.2.2.2.2.2.2⟩
theorem C7.later {W W' : World} {k o : Nat} {g : Int} {nm : ByteArray} {t b nx : Int} {mv gv : Value} (h : C7 W k o g nm t b nx mv gv) (hk : k < W.heap.size) (hb : Below W.heap.size W W') : C7 W' k o g nm t b nx mv gv := h.same (hb.block k hk)
theorem Is.wid {lo hi lo' hi' : Nat} {W : World} {a : Option Addr} {G : List Int} (h : Is lo hi W a G) (h1 : lo' ≤ lo) (h2 : hi ≤ hi') (h3 : hi' ≤ W.heap.size) : Is lo' hi' W a G := by
  refine ⟨h3, fun i hi' => ?_⟩
  obtain ⟨k, o, e1, e2, e3, e4⟩ := h.2 i hi'
  exact ⟨k, o, e1, by omega, by omega, e4⟩
/-- The slice of address a is the boxes of S, in blocks from lo on, below hi. -/
def Bs (lo hi : Nat) (W : World) (a : Option Addr) (S : List X7) : Prop :=
  hi ≤ W.heap.size ∧ ∀ i (h : i < S.length), ∃ k o ma mc ga gc, a = some ⟨k, o, none⟩ ∧ lo ≤ k ∧ k < hi ∧
    C7 W k (o + i * 7) S[i].1 S[i].2.1 S[i].2.2.1 S[i].2.2.2.1 S[i].2.2.2.2.1 (.slice ma S[i].2.2.2.2.2.1.length mc) (.slice ga S[i].2.2.2.2.2.2.length gc) ∧
    Ms lo hi W ma S[i].2.2.2.2.2.1 ∧ Is lo hi W ga S[i].2.2.2.2.2.2 ∧ (ma = none → mc = 0) ∧ (ga = none → gc = 0)
theorem Bs.same {lo hi : Nat} {W W' : World} {a : Option Addr} {S : List X7} (h : Bs lo hi W a S) (hs : hi ≤ W'.heap.size) (hk : ∀ k, lo ≤ k → k < hi → W'.heap[k]? = W.heap[k]?) : Bs lo hi W' a S := by
  refine ⟨hs, fun i hi' => ?_⟩
  obtain ⟨k, o, ma, mc, ga, gc, h1, h2, h3, c, hm, hg, h4, h5⟩ := h.2 i hi'
  exact ⟨k, o, ma, mc, ga, gc, h1, h2, h3, c.same (hk k h2 h3), hm.same hs hk, hg.same hs hk, h4, h5⟩
theorem Bs.later {lo hi : Nat} {W W' : World} {a : Option Addr} {S : List X7} (h : Bs lo hi W a S) (hb : Below W.heap.size W W') : Bs lo hi W' a S :=
  h.same (Nat.le_trans h.1 hb.size) (fun k _ hk => hb.block k (Nat.lt_of_lt_of_le hk h.1))
theorem Bs.wide {lo hi lo' hi' : Nat} {W : World} {a : Option Addr} {S : List X7} (h : Bs lo hi W a S) (h1 : lo' ≤ lo) (h2 : hi ≤ hi') (h3 : hi' ≤ W.heap.size) : Bs lo' hi' W a S := by
  refine ⟨h3, fun i hi'' => ?_⟩
  obtain ⟨k, o, ma, mc, ga, gc, e1, e2, e3, c, hm, hg, h4, h5⟩ := h.2 i hi''
  exact ⟨k, o, ma, mc, ga, gc, e1, by omega, by omega, c, hm.wide h1 h2 h3, hg.wid h1 h2 h3, h4, h5⟩
/-- What a reader of the i-th box wants. -/
theorem Bs.at {lo hi : Nat} {W : World} {a : Option Addr} {S : List X7} (h : Bs lo hi W a S) {i : Nat} (hi' : i < S.length) : ∃ k o ma mc ga gc, a = some ⟨k, o, none⟩ ∧ k < W.heap.size ∧
    C7 W k (o + i * 7) S[i].1 S[i].2.1 S[i].2.2.1 S[i].2.2.2.1 S[i].2.2.2.2.1 (.slice ma S[i].2.2.2.2.2.1.length mc) (.slice ga S[i].2.2.2.2.2.2.length gc) ∧
    Ms lo hi W ma S[i].2.2.2.2.2.1 ∧ Is lo hi W ga S[i].2.2.2.2.2.2 ∧ (ma = none → mc = 0) ∧ (ga = none → gc = 0) := by
  obtain ⟨k, o, ma, mc, ga, gc, e1, e2, e3, c, hm, hg, h4, h5⟩ := h.2 i hi'
  exact ⟨k, o, ma, mc, ga, gc, e1, Nat.lt_of_lt_of_le e3 h.1, c, hm, hg, h4, h5⟩
/-- The lists of a box that a call owns, all in blocks from lo on, below hi: no two rows in one block. -/
structure OwX (W : World) (lo hi : Nat) (mv gv : Value) (L : List M4) (G : List Int) : Prop where
  own : ∃ Z, Z.map md = L ∧ OwZ W lo mv Z ∧ OwI W lo gv G ∧ Dj gv mv ∧ (∀ z ∈ Z, Dj gv z.2.2.1) ∧ (∀ j, mv.ownBlock = some j → j < hi) ∧ (∀ j, gv.ownBlock = some j → j < hi) ∧ ∀ z ∈ Z, ∀ j, z.2.2.1.ownBlock = some j → j < hi
  top : hi ≤ W.heap.size
theorem ow_at {W W' : World} {B e size n : Nat} {x : Value} {xs : List Value} (ho : W.ownsRow B e size x n xs) (hk : ∀ j, x.ownBlock = some j → W'.heap[j]? = W.heap[j]?) : W'.ownsRow B e size x n xs := by
  refine ⟨ho.1, ho.2.imp id ?_⟩
  rintro ⟨g, cap, cur, h1, h2, h3, h4⟩
  exact ⟨g, cap, cur, h1, h2, (hk g (by rw [h1]; rfl)).trans h3, h4⟩
section
variable {W W' : World} {lo hi : Nat} {mv gv : Value} {L : List M4} {G : List Int}
theorem OwX.same (h : OwX W lo hi mv gv L G) (hs : hi ≤ W'.heap.size) (hk : ∀ k, lo ≤ k → k < hi → W'.heap[k]? = W.heap[k]?) : OwX W' lo hi mv gv L G := by
  obtain ⟨Z, h1, h2, h3, h4, h5, h6, h7, h8⟩ := h.own
  refine ⟨⟨Z, h1, ?_, ?_, h4, h5, h6, h7, h8⟩, hs⟩
  · refine ⟨ow_at h2.row (fun j hj => hk j (h2.row.lt j hj).1 (h6 j hj)), fun z hz => ow_at (h2.each z hz) (fun j hj => hk j ((h2.each z hz).lt j hj).1 (h8 z hz j hj)), h2.off, h2.apart⟩
  · exact ow_at h3 (fun j hj => hk j (h3.lt j hj).1 (h7 j hj))
theorem OwX.later (h : OwX W lo hi mv gv L G) (hb : Below W.heap.size W W') : OwX W' lo hi mv gv L G :=
  h.same (Nat.le_trans h.top hb.size) (fun k _ hk => hb.block k (Nat.lt_of_lt_of_le hk h.top))
theorem OwB.owx (h : OwB W lo mv gv L G) : OwX W lo W.heap.size mv gv L G := by
  obtain ⟨Z, h1, h2, h3, h4, h5⟩ := h
  exact ⟨⟨Z, h1, h2, h3, h4, h5, fun j hj => (h2.row.lt j hj).2, fun j hj => (h3.lt j hj).2, fun z hz j hj => ((h2.each z hz).lt j hj).2⟩, Nat.le_refl _⟩
theorem OwX.reads (h : OwX W lo hi mv gv L G) : ∃ a c a' c', mv = .slice a L.length c ∧ gv = .slice a' G.length c' ∧ Ms lo hi W a L ∧ Is lo hi W a' G ∧ (a = none → c = 0) ∧ (a' = none → c' = 0) := by
  obtain ⟨Z, h1, h2, h3, h4, h5, h6, h7, h8⟩ := h.own
  obtain ⟨a, c, rfl⟩ := h2.shape
  obtain ⟨a', c', rfl, _⟩ := h3.shape
  have hm := h2.ms
  have hi' := OwI.is h3
  have hlen : Z.length = L.length := by rw [← h1, List.length_map]
  have hnone : ∀ {n c m e size : Nat} {a : Option Addr} {xs : List Value}, W.ownsRow lo e size (.slice a n c) m xs → a = none → c = 0 := by
    intro n c m e size a xs ho ha
    subst ha
    rcases ho.2 with ⟨h1, _⟩ | ⟨g, cap, cur, h1, _⟩
    · simpa using congrArg (fun v => match v with | .slice _ _ c => c | _ => 0) h1
    · simp at h1
  refine ⟨a, c, a', c', by rw [hlen], rfl, ?_, ?_, hnone h2.row, hnone h3⟩
  · rw [h1] at hm
    refine ⟨h.top, fun i hi'' => ?_⟩
    obtain ⟨k, o, fa, fc, e1, e2, e3, e4, e5, e6⟩ := hm.2.2 i hi''
    subst e1
    refine ⟨k, o, fa, fc, rfl, e2, h6 k rfl, e4, fun hn => ?_, e6⟩
    obtain ⟨k', o', p1, p2, p3, p4⟩ := e5 hn
    subst p1
    refine ⟨k', o', rfl, p2, ?_, p4⟩
    have hil : i < Z.length := by omega
    have hz := hm.2.1
    -- the flags' value of the i-th mail is this slice
    have hrow := h2.row
    rcases h2.row.2 with ⟨q1, q2⟩ | ⟨g, cap, cur, q1, q2, q3, q4, q5, q6, q7⟩
    · simp at q1
    · simp only [Value.slice.injEq, Option.some.injEq, Addr.mk.injEq] at q1
      obtain ⟨⟨rfl, rfl, _⟩, _, rfl⟩ := q1
      have hc := (hrow.cellAt (i * 4 + 2) (by omega)).trans (zc_at Z i hil).2.2.1
      have hc2 := e4.2.2.1
      rw [show 0 + i * 4 + 2 = i * 4 + 2 by omega, hc] at hc2
      simp only [Option.some.injEq] at hc2
      exact h8 Z[i] (List.getElem_mem hil) k' (by rw [hc2]; rfl)
  · refine ⟨h.top, fun i hi'' => ?_⟩
    obtain ⟨k, o, e1, e2, e3, e4⟩ := hi'.2.2 i hi''
    subst e1
    exact ⟨k, o, rfl, e2, h7 k rfl, e4⟩
end
/-- A row of boxes that a call owns, with all their lists: no two rows in one block. -/
structure OwS (W : World) (B : Nat) (v : Value) (Y : List Y9) : Prop where
  row : W.ownsRow B 99 7 v Y.length (yc Y)
  each : ∀ y ∈ Y, OwX W y.lo y.hi y.mv y.gv y.L y.G ∧ B ≤ y.lo
  off : ∀ y ∈ Y, ∀ j, v.ownBlock = some j → j < y.lo ∨ y.hi ≤ j
  apart : Y.Pairwise fun x y => x.hi ≤ y.lo ∨ y.hi ≤ x.lo
section
variable {W W' : World} {B : Nat} {v : Value} {Y : List Y9}
theorem OwS.kept (h : OwS W B v Y) (hs : W.heap.size ≤ W'.heap.size) (hr : ∀ j, v.ownBlock = some j → W'.heap[j]? = W.heap[j]?) (he : ∀ y ∈ Y, ∀ j, y.lo ≤ j → j < y.hi → W'.heap[j]? = W.heap[j]?) : OwS W' B v Y :=
  ⟨ow_at h.row hr, fun y hy => ⟨(h.each y hy).1.same (Nat.le_trans (h.each y hy).1.top hs) (he y hy), (h.each y hy).2⟩, h.off, h.apart⟩
theorem OwS.later (h : OwS W B v Y) (hb : Below W.heap.size W W') : OwS W' B v Y :=
  h.kept hb.size (fun j hj => hb.block j (h.row.lt j hj).2) (fun y hy j _ hj => hb.block j (Nat.lt_of_lt_of_le hj (h.each y hy).1.top))
theorem OwS.base {B' : Nat} (h : OwS W B' v Y) (hB : B ≤ B') : OwS W B v Y :=
  ⟨own_base h.row hB, fun y hy => ⟨(h.each y hy).1, Nat.le_trans hB (h.each y hy).2⟩, h.off, h.apart⟩
theorem OwS.grown {k : Nat} (h : OwS W B v Y) (hg : W.grownBy W' (some k)) (hk : k < B) : OwS W' B v Y :=
  h.kept hg.size (fun j hj => hg.block j (h.row.lt j hj).2 (fun e => by have := (h.row.lt j hj).1; simp at e; omega)) (fun y hy j h1 h2 => hg.block j (Nat.lt_of_lt_of_le h2 (h.each y hy).1.top) (fun e => by have := (h.each y hy).2; simp at e; omega))
theorem OwS.shape (h : OwS W B v Y) : ∃ a c, v = .slice a Y.length c := by
  rcases h.row.2 with ⟨h1, h2⟩ | ⟨g, cap, cur, h1, _⟩
  · exact ⟨none, 0, by rw [h1, h2]⟩
  · exact ⟨_, _, h1⟩
/-- What it reads as. -/
theorem OwS.bs {n c : Nat} {a : Option Addr} (h : OwS W B (.slice a n c) Y) : n = Y.length ∧ Bs B W.heap.size W a (Y.map yd) := by
  have hw := h.row
  rcases h.row.2 with ⟨h1, h2⟩ | ⟨g, cap, cur, h1, h2, h3, h4, h5, h6, h7⟩
  · simp only [Value.slice.injEq] at h1
    refine ⟨by omega, Nat.le_refl _, fun i hi => ?_⟩
    rw [List.length_map] at hi
    omega
  · simp only [Value.slice.injEq] at h1
    obtain ⟨rfl, rfl, rfl⟩ := h1
    refine ⟨rfl, Nat.le_refl _, fun i hi => ?_⟩
    rw [List.length_map] at hi
    have e := yc_at Y i hi
    obtain ⟨hx, hlo⟩ := h.each Y[i] (List.getElem_mem hi)
    obtain ⟨ma, mc, ga, gc, e1, e2, e3, e4, e5, e6⟩ := hx.reads
    rw [e1, e2] at e
    refine ⟨g, 0, ma, mc, ga, gc, rfl, h2, (Array.getElem?_eq_some_iff.1 h3).1, ?_, ?_, ?_, e5, e6⟩
    · simp only [Nat.zero_add, List.getElem_map, yd]
      exact ⟨(hw.cellAt _ (by omega)).trans e.1, (hw.cellAt _ (by omega)).trans e.2.1, (hw.cellAt _ (by omega)).trans e.2.2.1, (hw.cellAt _ (by omega)).trans e.2.2.2.1, (hw.cellAt _ (by omega)).trans e.2.2.2.2.1, (hw.cellAt _ (by omega)).trans e.2.2.2.2.2.1, (hw.cellAt _ (by omega)).trans e.2.2.2.2.2.2⟩
    · simpa [yd] using e3.wide hlo hx.top (Nat.le_refl _)
    · simpa [yd] using e4.wid hlo hx.top (Nat.le_refl _)
/-- The seven cells of place i, and that they may be stored into. -/
theorem OwS.spot {g n c : Nat} (h : OwS W B (.slice (some ⟨g, 0, none⟩) n c) Y) (i : Nat) (hi : i < Y.length) :
    C7 W g (i * 7) Y[i].g Y[i].nm Y[i].t Y[i].b Y[i].nx Y[i].mv Y[i].gv ∧ ∀ j, W.frozen? ⟨g, j, none⟩ = false := by
  obtain rfl := h.bs.1
  have hw := h.row
  have e := yc_at Y i hi
  exact ⟨⟨(hw.cellAt _ (by omega)).trans e.1, (hw.cellAt _ (by omega)).trans e.2.1, (hw.cellAt _ (by omega)).trans e.2.2.1, (hw.cellAt _ (by omega)).trans e.2.2.2.1, (hw.cellAt _ (by omega)).trans e.2.2.2.2.1, (hw.cellAt _ (by omega)).trans e.2.2.2.2.2.1, (hw.cellAt _ (by omega)).trans e.2.2.2.2.2.2⟩, fun j => hw.frozenAt _⟩
end
/-- The seven stores of a box at place o of block g. -/
def put7 (W : World) (g o : Nat) (y : Y9) : World :=
  ((((((W.setCell ⟨g, o, none⟩ (.int .i64 y.g)).setCell ⟨g, o + 1, none⟩ (.string y.nm)).setCell ⟨g, o + 2, none⟩ (.int .i64 y.t)).setCell ⟨g, o + 3, none⟩ (.int .i64 y.b)).setCell ⟨g, o + 4, none⟩ (.int .i64 y.nx)).setCell ⟨g, o + 5, none⟩ y.mv).setCell ⟨g, o + 6, none⟩ y.gv
theorem put7_grown (W : World) (g o : Nat) (y : Y9) : W.grownBy (put7 W g o y) (some g) := wst (wst (wst (wst (wst (wst (wst (wre _ _) _ _) _ _) _ _) _ _) _ _) _ _) _ _
/-- A box stored at place i of an owned row: its lists lie apart from all others. -/
theorem OwS.stored {W : World} {B g n c : Nat} {Y : List Y9} (h : OwS W B (.slice (some ⟨g, 0, none⟩) n c) Y) (i : Nat) (hi : i < Y.length) (y : Y9) (ho : OwX W y.lo y.hi y.mv y.gv y.L y.G) (hB : B ≤ y.lo) (hg : g < y.lo ∨ y.hi ≤ g) (hd : ∀ x ∈ Y, x.hi ≤ y.lo ∨ y.hi ≤ x.lo) :
    OwS (put7 W g (i * 7) y) B (.slice (some ⟨g, 0, none⟩) n c) (Y.set i y) := by
  obtain rfl := h.bs.1
  have hgr := put7_grown W g (i * 7) y
  have h1 := (World.ownsRow.stored h.row (i * 7) (.int .i64 y.g)).1
  have h2 := (World.ownsRow.stored h1 (i * 7 + 1) (.string y.nm)).1
  have h3 := (World.ownsRow.stored h2 (i * 7 + 2) (.int .i64 y.t)).1
  have h4 := (World.ownsRow.stored h3 (i * 7 + 3) (.int .i64 y.b)).1
  have h5 := (World.ownsRow.stored h4 (i * 7 + 4) (.int .i64 y.nx)).1
  have h6 := (World.ownsRow.stored h5 (i * 7 + 5) y.mv).1
  have h7 := (World.ownsRow.stored h6 (i * 7 + 6) y.gv).1
  rw [yc_set Y i y hi] at h7
  have hkeep : ∀ {lo hh : Nat} {mv gv : Value} {L : List M4} {G : List Int}, OwX W lo hh mv gv L G → (g < lo ∨ hh ≤ g) → OwX (put7 W g (i * 7) y) lo hh mv gv L G := fun hx hf =>
    hx.same (Nat.le_trans hx.top hgr.size) (fun k k1 k2 => hgr.block k (Nat.lt_of_lt_of_le k2 hx.top) (fun e => by simp only [Option.some.injEq] at e; omega))
  refine ⟨by simpa [put7] using h7, fun x hx => ?_, fun x hx j hj => ?_, pair_set h.apart i y (fun x hx => (hd x hx).symm) (fun x hx => hd x hx)⟩
  · rcases mem_set hx with hx | rfl
    · exact ⟨hkeep (h.each x hx).1 (h.off x hx g rfl), (h.each x hx).2⟩
    · exact ⟨hkeep ho hg, hB⟩
  · rcases mem_set hx with hx | rfl
    · exact h.off x hx j hj
    · have : j = g := by
        have e : (some g : Option Nat) = some j := hj
        simpa using e.symm
      subst this
      exact hg
/-- What comes of an owned row when a box is appended. -/
theorem OwS.snoc {w w' : World} {B : Nat} {v v' : Value} {Y : List Y9} (hown : OwS w B v Y) (y : Y9) (ho : OwX w y.lo y.hi y.mv y.gv y.L y.G) (hB : B ≤ y.lo) (hv : ∀ j, v.ownBlock = some j → j < y.lo ∨ y.hi ≤ j) (hd : ∀ x ∈ Y, x.hi ≤ y.lo ∨ y.hi ≤ x.lo) (o : Obj)
    (hrow : w'.ownsRow B 99 7 v' (Y ++ [y]).length (yc (Y ++ [y]))) (hg : (w.alloc o).grownBy w' v.ownBlock) (hloc : ∀ j, v'.ownBlock = some j → v.ownBlock = some j ∨ w.heap.size < j) : OwS w' B v' (Y ++ [y]) := by
  have hsz : w.heap.size ≤ w'.heap.size := by have := hg.size; simp at this; omega
  have hkeep : ∀ {x : Y9}, OwX w x.lo x.hi x.mv x.gv x.L x.G → (∀ j, v.ownBlock = some j → j < x.lo ∨ x.hi ≤ j) → OwX w' x.lo x.hi x.mv x.gv x.L x.G := fun hx hf =>
    hx.same (Nat.le_trans hx.top hsz) (fun k k1 k2 => (hg.block k (by have := hx.top; simp; omega) (fun e => by have := hf k e.symm; omega)).trans (Below.heap_alloc w o k (Nat.lt_of_lt_of_le k2 hx.top)))
  refine ⟨hrow, fun x hx => ?_, fun x hx j hj => ?_, ?_⟩
  · rcases List.mem_append.1 hx with hx | hx
    · exact ⟨hkeep (hown.each x hx).1 (hown.off x hx), (hown.each x hx).2⟩
    · simp only [List.mem_cons, List.not_mem_nil, or_false] at hx
      subst hx
      exact ⟨hkeep ho hv, hB⟩
  · have htop : x.hi ≤ w.heap.size := by
      rcases List.mem_append.1 hx with hx | hx
      · exact (hown.each x hx).1.top
      · simp only [List.mem_cons, List.not_mem_nil, or_false] at hx
        subst hx
        exact ho.top
    rcases hloc j hj with h | h
    · rcases List.mem_append.1 hx with hx | hx
      · exact hown.off x hx j h
      · simp only [List.mem_cons, List.not_mem_nil, or_false] at hx
        subst hx
        exact hv j h
    · exact .inr (by omega)
  · rw [List.pairwise_append]
    refine ⟨hown.apart, List.pairwise_singleton _ _, fun x hx z hz => ?_⟩
    simp only [List.mem_cons, List.not_mem_nil, or_false] at hz
    subst hz
    exact hd x hx
theorem ownS_empty (W : World) (B : Nat) (hB : B ≤ W.heap.size) : OwS (W.alloc (.cells #[] 99)) B (.slice (some ⟨W.heap.size, 0, none⟩) 0 0) [] :=
  ⟨World.ownsRow_lit (base := B) (e := 99) (size := 7) W #[] 0 hB (by unfold maxLen; omega) rfl, (fun z hz => by cases hz), (fun z hz => by cases hz), List.Pairwise.nil⟩
theorem info_bx : (Try.prog.info? 99).map (fun i => (i.zero, i.size, i.bytes)) = some (some (.agg #[.int .i64 0, .string ⟨#[]⟩, .int .i64 0, .int .i64 0, .int .i64 0, .slice none 0 0, .slice none 0 0]), 7, 96) := by kernel_rfl
theorem cells_new7 (w : World) (y : Y9) (e : Nat) : ∀ j u, (yc [y])[j]? = some u → (w.alloc (.cells #[.int .i64 y.g, .string y.nm, .int .i64 y.t, .int .i64 y.b, .int .i64 y.nx, y.mv, y.gv] e)).cell? ((⟨w.heap.size, 0, none⟩ : Addr).add j) = some u := by
  intro j u hj
  have hh := heap_alloc_new w (.cells #[.int .i64 y.g, .string y.nm, .int .i64 y.t, .int .i64 y.b, .int .i64 y.nx, y.mv, y.gv] e)
  have hlt : j < 7 := by
    have := (List.getElem?_eq_some_iff.1 hj).1
    rw [yc_len] at this
    simpa using this
  have h2 : j = 0 ∨ j = 1 ∨ j = 2 ∨ j = 3 ∨ j = 4 ∨ j = 5 ∨ j = 6 := by omega
  rcases h2 with rfl | rfl | rfl | rfl | rfl | rfl | rfl <;> simp only [yc, List.getElem?_cons_zero, List.getElem?_cons_succ, Option.some.injEq] at hj <;> subst hj
  · exact cell_of_row _ _ 0 _ _ _ hh
  · exact cell_of_row _ _ 1 _ _ _ hh
  · exact cell_of_row _ _ 2 _ _ _ hh
  · exact cell_of_row _ _ 3 _ _ _ hh
  · exact cell_of_row _ _ 4 _ _ _ hh
  · exact cell_of_row _ _ 5 _ _ _ hh
  · exact cell_of_row _ _ 6 _ _ _ hh
/-- Block k holds a store. -/
def Sx (W : World) (k ty : Nat) (y tm : Int) (bv gv : Value) : Prop := W.heap[k]? = some (.cells #[.int .i64 y, .int .i64 tm, bv, gv] ty (0, 0))
theorem Sx.new (w : World) (ty : Nat) (y tm : Int) (bv gv : Value) : Sx (w.alloc (.cells #[.int .i64 y, .int .i64 tm, bv, gv] ty)) w.heap.size ty y tm bv gv := heap_alloc_new w _
section
variable {W W' : World} {k ty : Nat} {y tm : Int} {bv gv : Value}
theorem Sx.lt (h : Sx W k ty y tm bv gv) : k < W.heap.size := (Array.getElem?_eq_some_iff.1 h).1
theorem Sx.later (h : Sx W k ty y tm bv gv) (hb : Below W.heap.size W W') : Sx W' k ty y tm bv gv := (hb.block k h.lt).trans h
theorem Sx.grown {r : Option Nat} (h : Sx W k ty y tm bv gv) (hg : W.grownBy W' r) (hk : some k ≠ r) : Sx W' k ty y tm bv gv := (hg.block k h.lt hk).trans h
theorem Sx.off {c : Nat} (h : Sx W k ty y tm bv gv) (hg : W.grownBy W' (some c)) (hk : k ≠ c) : Sx W' k ty y tm bv gv := h.grown hg (fun e => by simp only [Option.some.injEq] at e; omega)
theorem Sx.cells (h : Sx W k ty y tm bv gv) : W.cell? ⟨k, 0, none⟩ = some (.int .i64 y) ∧ W.cell? ⟨k, 1, none⟩ = some (.int .i64 tm) ∧ W.cell? ⟨k, 2, none⟩ = some bv ∧ W.cell? ⟨k, 3, none⟩ = some gv :=
  ⟨cell_of_row W k 0 _ _ _ h, cell_of_row W k 1 _ _ _ h, cell_of_row W k 2 _ _ _ h, cell_of_row W k 3 _ _ _ h⟩
theorem Sx.loose (h : Sx W k ty y tm bv gv) : W.frozen? ⟨k, 0, none⟩ = false ∧ W.frozen? ⟨k, 1, none⟩ = false ∧ W.frozen? ⟨k, 2, none⟩ = false ∧ W.frozen? ⟨k, 3, none⟩ = false :=
  ⟨frozen_of_row W k 0 _ _ h, frozen_of_row W k 1 _ _ h, frozen_of_row W k 2 _ _ h, frozen_of_row W k 3 _ _ h⟩
theorem Sx.s0 (h : Sx W k ty y tm bv gv) (x : Int) : Sx (W.setCell ⟨k, 0, none⟩ (.int .i64 x)) k ty x tm bv gv := heap_setCell_same W k 0 _ _ (.int .i64 x) h
theorem Sx.s1 (h : Sx W k ty y tm bv gv) (x : Int) : Sx (W.setCell ⟨k, 1, none⟩ (.int .i64 x)) k ty y x bv gv := heap_setCell_same W k 1 _ _ (.int .i64 x) h
theorem Sx.s2 (h : Sx W k ty y tm bv gv) (x : Value) : Sx (W.setCell ⟨k, 2, none⟩ x) k ty y tm x gv := heap_setCell_same W k 2 _ _ x h
theorem Sx.s3 (h : Sx W k ty y tm bv gv) (x : Value) : Sx (W.setCell ⟨k, 3, none⟩ x) k ty y tm bv x := heap_setCell_same W k 3 _ _ x h
end
/-- Four stores into one block. -/
def put4 (W : World) (k : Nat) (y tm : Int) (bv gv : Value) : World :=
  (((W.setCell ⟨k, 0, none⟩ (.int .i64 y)).setCell ⟨k, 1, none⟩ (.int .i64 tm)).setCell ⟨k, 2, none⟩ bv).setCell ⟨k, 3, none⟩ gv
theorem put4_grown (W : World) (k : Nat) (y tm : Int) (bv gv : Value) : W.grownBy (put4 W k y tm bv gv) (some k) := wst (wst (wst (wst (wre _ _) _ _) _ _) _ _) _ _
theorem Sx.put4 {W : World} {k ty : Nat} {y tm : Int} {bv gv : Value} (h : Sx W k ty y tm bv gv) (y' tm' : Int) (bv' gv' : Value) : Sx (Go.Proofs.Ytckenihadlmlaaa.put4 W k y' tm' bv' gv') k ty y' tm' bv' gv' :=
  (((h.s0 y').s1 tm').s2 bv').s3 gv'
/-- The lists of a store that a call owns: no two rows in one block. -/
structure OwT (W : World) (B : Nat) (bv gv : Value) (S : List X7) (G : List Int) : Prop where
  own : ∃ Y, Y.map yd = S ∧ OwS W B bv Y ∧ OwI W B gv G ∧ Dj gv bv ∧ ∀ y ∈ Y, ∀ j, gv.ownBlock = some j → j < y.lo ∨ y.hi ≤ j
theorem OwT.later {W W' : World} {B : Nat} {bv gv : Value} {S : List X7} {G : List Int} (h : OwT W B bv gv S G) (hb : Below W.heap.size W W') : OwT W' B bv gv S G := by
  obtain ⟨Y, h1, h2, h3, h4, h5⟩ := h.own
  exact ⟨Y, h1, h2.later hb, own_later h3 hb, h4, h5⟩
theorem OwT.base {W : World} {B B' : Nat} {bv gv : Value} {S : List X7} {G : List Int} (h : OwT W B' bv gv S G) (hB : B ≤ B') : OwT W B bv gv S G := by
  obtain ⟨Y, h1, h2, h3, h4, h5⟩ := h.own
  exact ⟨Y, h1, h2.base hB, own_base h3 hB, h4, h5⟩
theorem OwT.grown {W W' : World} {B k : Nat} {bv gv : Value} {S : List X7} {G : List Int} (h : OwT W B bv gv S G) (hg : W.grownBy W' (some k)) (hk : k < B) : OwT W' B bv gv S G := by
  obtain ⟨Y, h1, h2, h3, h4, h5⟩ := h.own
  exact ⟨Y, h1, h2.grown hg hk, OwI.grown h3 hg hk, h4, h5⟩
theorem OwT.reads {W : World} {B n c n' c' : Nat} {a a' : Option Addr} {S : List X7} {G : List Int} (h : OwT W B (.slice a n c) (.slice a' n' c') S G) : n = S.length ∧ n' = G.length ∧ Bs B W.heap.size W a S ∧ Is B W.heap.size W a' G := by
  obtain ⟨Y, rfl, h2, h3, _⟩ := h.own
  exact ⟨by rw [List.length_map]; exact h2.bs.1, (OwI.is h3).1, h2.bs.2, (OwI.is h3).2⟩
theorem OwT.shape {W : World} {B : Nat} {bv gv : Value} {S : List X7} {G : List Int} (h : OwT W B bv gv S G) : ∃ a c a' c', bv = .slice a S.length c ∧ gv = .slice a' G.length c' := by
  obtain ⟨Y, rfl, h2, h3, _⟩ := h.own
  obtain ⟨a, c, hv⟩ := h2.shape
  obtain ⟨a', c', hv', _⟩ := h3.shape
  exact ⟨a, c, a', c', by rw [List.length_map]; exact hv, hv'⟩
/-- Boxes of which nothing is too great. -/
def Sb (S : List X7) : Prop := ∀ x ∈ S, x.2.1.size ≤ 1048576 ∧ x.2.2.2.2.2.1.length ≤ 1048576 ∧ Sm x.2.2.2.2.2.1 ∧ x.2.2.2.2.2.2.length ≤ 1048576
end Go.Proofs.Ytckenihadlmlaaa
namespace Go.Proofs.Ytckenihadlmlaaa
open Go.RowKit Go.ChangeMaps
theorem OwB.grown {W W' : World} {B k : Nat} {mv gv : Value} {L : List M4} {G : List Int} (h : OwB W B mv gv L G) (hg : W.grownBy W' (some k)) (hk : k < B) : OwB W' B mv gv L G := by
  obtain ⟨Z, h1, h2, h3, h4⟩ := h
  exact ⟨Z, h1, h2.grown hg hk, OwI.grown h3 hg hk, h4⟩
end Go.Proofs.Ytckenihadlmlaaa
namespace Go.Proofs.Ytckenihadlmlaaa
open Go.RowKit Go.ChangeMaps
theorem yc_one {y : Y9} (h1 : ∃ a k c, y.mv = .slice a k c) (h2 : ∃ a k c, y.gv = .slice a k c) : ∀ u ∈ yc [y], u.oneCell' = true := by
  obtain ⟨a, k, c, e1⟩ := h1
  obtain ⟨a', k', c', e2⟩ := h2
  intro u hu
  simp only [yc, List.mem_cons, List.not_mem_nil, or_false] at hu
  rcases hu with rfl | rfl | rfl | rfl | rfl | rfl | rfl
  · rfl
  · rfl
  · rfl
  · rfl
  · rfl
  · rw [e1]; rfl
  · rw [e2]; rfl
theorem OwX.slices {W : World} {lo hi : Nat} {mv gv : Value} {L : List M4} {G : List Int} (h : OwX W lo hi mv gv L G) : (∃ a k c, mv = .slice a k c) ∧ ∃ a k c, gv = .slice a k c := by
  obtain ⟨a, c, a', c', h1, h2, _⟩ := h.reads
  exact ⟨⟨_, _, _, h1⟩, ⟨_, _, _, h2⟩⟩
/-- One box appended, as one step of a region that draws its order. -/
theorem step_append_bx {ops : Array Oper} {o : Oper} {a : Act} {w : World} {K : Act → World → Prop} {Q : Exit → Act → World → Prop} {E : Prop}
    (hg : o.guard = none) (s x : Operand) (hop : o.op = Op.call { callee := Callee.builtin Builtin.append, args := #[s, x], argTypes := #[22, 22] })
    (B : Nat) (v : Value) (Y : List Y9) (hs : a.eval s = v) (y : Y9) (hown : OwS w B v Y) (ho : OwX w y.lo y.hi y.mv y.gv y.L y.G) (hB : B ≤ y.lo) (hv : ∀ j, v.ownBlock = some j → j < y.lo ∨ y.hi ≤ j) (hd : ∀ x ∈ Y, x.hi ≤ y.lo ∨ y.hi ≤ x.lo)
    (hx : a.eval x = .slice (some ⟨w.heap.size, 0, none⟩) 1 1) (hlen : Y.length ≤ 1048576) (hBw : B ≤ w.heap.size)
    (hK : ∀ v' w', OwS w' B v' (Y ++ [y]) → Below B w w' → (w.alloc (.cells #[.int .i64 y.g, .string y.nm, .int .i64 y.t, .int .i64 y.b, .int .i64 y.nx, y.mv, y.gv] 99)).grownBy w' v.ownBlock → (∀ j, v'.ownBlock = some j → v.ownBlock = some j ∨ w.heap.size < j) → K (a.put o.dst v') w') :
    if Region.wanted o (yielded ops a.tmps) = true then Oper.wp Try.prog o a (w.alloc (.cells #[.int .i64 y.g, .string y.nm, .int .i64 y.t, .int .i64 y.b, .int .i64 y.nx, y.mv, y.gv] 99)) K Q else E := by
  have hw : Region.wanted o (yielded ops a.tmps) = true := by simp [Region.wanted, hg]
  rw [if_pos hw]
  obtain ⟨i0, hi, hz0, hz1, hz2⟩ := info_parts3 info_bx
  obtain ⟨v', w', hr, h2, h3, h4, h5⟩ := run_append_own_at (P := Try.prog) (w.alloc (.cells #[.int .i64 y.g, .string y.nm, .int .i64 y.t, .int .i64 y.b, .int .i64 y.nx, y.mv, y.gv] 99)) B 22 o.type 99 i0 _ 7 96 Try.underlying22 hi hz0 hz1 hz2 rfl (by decide) v _ _ (hown.row.alloc _) ⟨w.heap.size, 0, none⟩ 1 1 (yc [y]) rfl (cells_new7 w y 99) (yc_one ho.slices.1 ho.slices.2) (by unfold maxLen; omega) (by omega) (by simp; omega)
  unfold Oper.wp execOp
  simp only [hop, resolve, invoke, builtin, Sem.run_bind, Sem.run_pure, Result.andThen_ok, List.map_toArray, List.map_cons, List.map_nil, hs, hx, hr]
  have hloc : ∀ j, v'.ownBlock = some j → v.ownBlock = some j ∨ w.heap.size < j := fun j hj => by
    rcases h5 with h5 | h5
    · exact .inl (by rw [← h5]; exact hj)
    · rw [h5] at hj; simp at hj; exact .inr (by omega)
  exact hK v' w' (hown.snoc y ho hB hv hd _ (by rw [yc_app]; simpa using h2) h3 hloc) (((Below.refl B w).alloc hBw _).grown h3 (by simp; omega) (fun k hk => (hown.row.lt k hk).1)) h3 hloc
theorem three_stores (w : World) (ta tb tc : Nat) (y tm y1 tm1 y2 tm2 : Int) (bv gv bv1 gv1 bv2 gv2 : Value) (W0 : World)
    (h : (((w.alloc (.cells #[.int .i64 y, .int .i64 tm, bv, gv] ta)).alloc (.cells #[.int .i64 y1, .int .i64 tm1, bv1, gv1] tb)).alloc (.cells #[.int .i64 y2, .int .i64 tm2, bv2, gv2] tc)) = W0) :
    Sx W0 w.heap.size ta y tm bv gv ∧ Sx W0 (w.heap.size + 1) tb y1 tm1 bv1 gv1 ∧ Sx W0 (w.heap.size + 1 + 1) tc y2 tm2 bv2 gv2 ∧ Below w.heap.size w W0 ∧ W0.heap.size = w.heap.size + 1 + 1 + 1 := by
  have e1 : (w.alloc (.cells #[.int .i64 y, .int .i64 tm, bv, gv] ta)).heap.size = w.heap.size + 1 := by simp
  have e2 : ((w.alloc (.cells #[.int .i64 y, .int .i64 tm, bv, gv] ta)).alloc (.cells #[.int .i64 y1, .int .i64 tm1, bv1, gv1] tb)).heap.size = w.heap.size + 1 + 1 := by simp
  have h1 := Sx.new (w.alloc (.cells #[.int .i64 y, .int .i64 tm, bv, gv] ta)) tb y1 tm1 bv1 gv1
  have h2 := Sx.new ((w.alloc (.cells #[.int .i64 y, .int .i64 tm, bv, gv] ta)).alloc (.cells #[.int .i64 y1, .int .i64 tm1, bv1, gv1] tb)) tc y2 tm2 bv2 gv2
  rw [e1] at h1
  rw [e2] at h2
  subst h
  exact ⟨(Sx.new w ta y tm bv gv).later (bpush (bpush (bre _) _) _), h1.later (bpush (bre _) _), h2, bpush (bpush (bpush (bre _) _) _) _, by simp⟩
end Go.Proofs.Ytckenihadlmlaaa
