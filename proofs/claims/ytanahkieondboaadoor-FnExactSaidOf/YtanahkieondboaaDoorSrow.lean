/- Lists of boxes as they lie: seven cells each, their lists in rows of their own. -/
import Derived.Test.YtanahkieondboaaDoorCpz
namespace Go.Proofs.YtanahkieondboaaDoor
open Go.RowKit Go.ChangeMaps

/-- A box as it is meant: Gid, Name, Named, Next, Mails, Gone. -/
abbrev X7 := Int × ByteArray × Int × Int × Int × List M4 × List Int
/-- A box as it lies: its fields, the values of its lists, and the blocks between which they lie. -/
structure Y9 where
  g : Int
  nm : ByteArray
  t : Int
  b : Int
  nx : Int
  mv : Value
  gv : Value
  L : List M4
  G : List Int
  lo : Nat
  hi : Nat
def yd (y : Y9) : X7 := (y.g, y.nm, y.t, y.b, y.nx, y.L, y.G)
/-- The cells of boxes. -/
def yc : List Y9 → List Value
  | [] => []
  | y :: Y => .int .i64 y.g :: .string y.nm :: .int .i64 y.t :: .int .i64 y.b :: .int .i64 y.nx :: y.mv :: y.gv :: yc Y
theorem yc_len (Y : List Y9) : (yc Y).length = Y.length * 7 := by
  induction Y with
  | nil => rfl
  | cons y Y ih => simp only [yc, List.length_cons, ih]; omega
theorem yc_app (Y X : List Y9) : yc (Y ++ X) = yc Y ++ yc X := by
  induction Y with
  | nil => rfl
  | cons y Y ih => simp only [List.cons_append, yc, ih]
theorem yc_at (Y : List Y9) (i : Nat) (h : i < Y.length) :
    (yc Y)[i * 7]? = some (.int .i64 Y[i].g) ∧ (yc Y)[i * 7 + 1]? = some (.string Y[i].nm) ∧ (yc Y)[i * 7 + 2]? = some (.int .i64 Y[i].t) ∧ (yc Y)[i * 7 + 3]? = some (.int .i64 Y[i].b) ∧ (yc Y)[i * 7 + 4]? = some (.int .i64 Y[i].nx) ∧ (yc Y)[i * 7 + 5]? = some Y[i].mv ∧ (yc Y)[i * 7 + 6]? = some Y[i].gv := by
  induction Y generalizing i with
  | nil => simp at h
  | cons y Y ih =>
    cases i with
    | zero => exact ⟨rfl, rfl, rfl, rfl, rfl, rfl, rfl⟩
    | succ i =>
      have h' : i < Y.length := by simpa using h
      have := ih i h'
      have e : (i + 1) * 7 = i * 7 + 1 + 1 + 1 + 1 + 1 + 1 + 1 := by omega
      rw [e]
      simpa [yc] using this
theorem yc_set (Y : List Y9) (i : Nat) (y : Y9) (h : i < Y.length) :
    (((((((yc Y).set (i * 7) (.int .i64 y.g)).set (i * 7 + 1) (.string y.nm)).set (i * 7 + 2) (.int .i64 y.t)).set (i * 7 + 3) (.int .i64 y.b)).set (i * 7 + 4) (.int .i64 y.nx)).set (i * 7 + 5) y.mv).set (i * 7 + 6) y.gv = yc (Y.set i y) := by
  induction Y generalizing i with
  | nil => simp at h
  | cons x Y ih =>
    cases i with
    | zero => rfl
    | succ i =>
      have h' : i < Y.length := by simpa using h
      have := ih i h'
      have e : (i + 1) * 7 = i * 7 + 1 + 1 + 1 + 1 + 1 + 1 + 1 := by omega
      rw [e]
      simpa [yc] using this

/-- The seven cells of a box. -/
def C7 (W : World) (k o : Nat) (g : Int) (nm : ByteArray) (t b nx : Int) (mv gv : Value) : Prop := W.cell? ⟨k, o, none⟩ = some (.int .i64 g) ∧ W.cell? ⟨k, o + 1, none⟩ = some (.string nm) ∧ W.cell? ⟨k, o + 2, none⟩ = some (.int .i64 t) ∧ W.cell? ⟨k, o + 3, none⟩ = some (.int .i64 b) ∧ W.cell? ⟨k, o + 4, none⟩ = some (.int .i64 nx) ∧ W.cell? ⟨k, o + 5, none⟩ = some mv ∧ W.cell? ⟨k, o + 6, none⟩ = some gv
theorem C7.same {W W' : World} {k o : Nat} {g : Int} {nm : ByteArray} {t b nx : Int} {mv gv : Value} (h : C7 W k o g nm t b nx mv gv) (e : W'.heap[k]? = W.heap[k]?) : C7 W' k o g nm t b nx mv gv :=
  ⟨(cell_same (p := ⟨k, _, none⟩) e).trans h.1, (cell_same (p := ⟨k, _, none⟩) e).trans h.2.1, (cell_same (p := ⟨k, _, none⟩) e).trans h.2.2.1, (cell_same (p := ⟨k, _, none⟩) e).trans h.2.2.2.1, (cell_same (p := ⟨k, _, none⟩) e).trans h.2.2.2.2.1, (cell_same (p := ⟨k, _, none⟩) e).trans h.2.2.2.2.2.1, (cell_same (p := ⟨k, _, none⟩) e).trans h.2.2.2.2.2.2⟩
theorem C7.later {W W' : World} {k o : Nat} {g : Int} {nm : ByteArray} {t b nx : Int} {mv gv : Value} (h : C7 W k o g nm t b nx mv gv) (hk : k < W.heap.size) (hb : Below W.heap.size W W') : C7 W' k o g nm t b nx mv gv := h.same (hb.block k hk)

theorem Is.wid {lo hi lo' hi' : Nat} {W : World} {a : Option Addr} {G : List Int} (h : Is lo hi W a G) (h1 : lo' ≤ lo) (h2 : hi ≤ hi') (h3 : hi' ≤ W.heap.size) : Is lo' hi' W a G := by
  refine ⟨h3, fun i hi' => ?_⟩
  obtain ⟨k, o, e1, e2, e3, e4⟩ := h.2 i hi'
  exact ⟨k, o, e1, by omega, by omega, e4⟩

/-- The slice of address a is the boxes of S, in blocks from lo on, below hi. -/
def Bs (lo hi : Nat) (W : World) (a : Option Addr) (S : List X7) : Prop :=
  hi ≤ W.heap.size ∧ ∀ i (h : i < S.length), ∃ k o ma mc ga gc, a = some ⟨k, o, none⟩ ∧ lo ≤ k ∧ k < hi ∧
    C7 W k (o + i * 7) S[i].1 S[i].2.1 S[i].2.2.1 S[i].2.2.2.1 S[i].2.2.2.2.1 (.slice ma S[i].2.2.2.2.2.1.length mc) (.slice ga S[i].2.2.2.2.2.2.length gc) ∧
    Ms lo hi W ma S[i].2.2.2.2.2.1 ∧ Is lo hi W ga S[i].2.2.2.2.2.2 ∧ (ma = none → mc = 0) ∧ (ga = none → gc = 0)
theorem Bs.same {lo hi : Nat} {W W' : World} {a : Option Addr} {S : List X7} (h : Bs lo hi W a S) (hs : hi ≤ W'.heap.size) (hk : ∀ k, lo ≤ k → k < hi → W'.heap[k]? = W.heap[k]?) : Bs lo hi W' a S := by
  refine ⟨hs, fun i hi' => ?_⟩
  obtain ⟨k, o, ma, mc, ga, gc, h1, h2, h3, c, hm, hg, h4, h5⟩ := h.2 i hi'
  exact ⟨k, o, ma, mc, ga, gc, h1, h2, h3, c.same (hk k h2 h3), hm.same hs hk, hg.same hs hk, h4, h5⟩
theorem Bs.later {lo hi : Nat} {W W' : World} {a : Option Addr} {S : List X7} (h : Bs lo hi W a S) (hb : Below W.heap.size W W') : Bs lo hi W' a S :=
  h.same (Nat.le_trans h.1 hb.size) (fun k _ hk => hb.block k (Nat.lt_of_lt_of_le hk h.1))
theorem Bs.wide {lo hi lo' hi' : Nat} {W : World} {a : Option Addr} {S : List X7} (h : Bs lo hi W a S) (h1 : lo' ≤ lo) (h2 : hi ≤ hi') (h3 : hi' ≤ W.heap.size) : Bs lo' hi' W a S := by
  refine ⟨h3, fun i hi'' => ?_⟩
  obtain ⟨k, o, ma, mc, ga, gc, e1, e2, e3, c, hm, hg, h4, h5⟩ := h.2 i hi''
  exact ⟨k, o, ma, mc, ga, gc, e1, by omega, by omega, c, hm.wide h1 h2 h3, hg.wid h1 h2 h3, h4, h5⟩
/-- What a reader of the i-th box wants. -/
theorem Bs.at {lo hi : Nat} {W : World} {a : Option Addr} {S : List X7} (h : Bs lo hi W a S) {i : Nat} (hi' : i < S.length) : ∃ k o ma mc ga gc, a = some ⟨k, o, none⟩ ∧ k < W.heap.size ∧
    C7 W k (o + i * 7) S[i].1 S[i].2.1 S[i].2.2.1 S[i].2.2.2.1 S[i].2.2.2.2.1 (.slice ma S[i].2.2.2.2.2.1.length mc) (.slice ga S[i].2.2.2.2.2.2.length gc) ∧
    Ms lo hi W ma S[i].2.2.2.2.2.1 ∧ Is lo hi W ga S[i].2.2.2.2.2.2 ∧ (ma = none → mc = 0) ∧ (ga = none → gc = 0) := by
  obtain ⟨k, o, ma, mc, ga, gc, e1, e2, e3, c, hm, hg, h4, h5⟩ := h.2 i hi'
  exact ⟨k, o, ma, mc, ga, gc, e1, Nat.lt_of_lt_of_le e3 h.1, c, hm, hg, h4, h5⟩

/-- The lists of a box that a call owns, all in blocks from lo on, below hi: no two rows in one block. -/
structure OwX (W : World) (lo hi : Nat) (mv gv : Value) (L : List M4) (G : List Int) : Prop where
  own : ∃ Z, Z.map md = L ∧ OwZ W lo mv Z ∧ OwI W lo gv G ∧ Dj gv mv ∧ (∀ z ∈ Z, Dj gv z.2.2.1) ∧ (∀ j, mv.ownBlock = some j → j < hi) ∧ (∀ j, gv.ownBlock = some j → j < hi) ∧ ∀ z ∈ Z, ∀ j, z.2.2.1.ownBlock = some j → j < hi
  top : hi ≤ W.heap.size
theorem ow_at {W W' : World} {B e size n : Nat} {x : Value} {xs : List Value} (ho : W.ownsRow B e size x n xs) (hk : ∀ j, x.ownBlock = some j → W'.heap[j]? = W.heap[j]?) : W'.ownsRow B e size x n xs := by
  refine ⟨ho.1, ho.2.imp id ?_⟩
  rintro ⟨g, cap, cur, h1, h2, h3, h4⟩
  exact ⟨g, cap, cur, h1, h2, (hk g (by rw [h1]; rfl)).trans h3, h4⟩
section
variable {W W' : World} {lo hi : Nat} {mv gv : Value} {L : List M4} {G : List Int}
theorem OwX.same (h : OwX W lo hi mv gv L G) (hs : hi ≤ W'.heap.size) (hk : ∀ k, lo ≤ k → k < hi → W'.heap[k]? = W.heap[k]?) : OwX W' lo hi mv gv L G := by
  obtain ⟨Z, h1, h2, h3, h4, h5, h6, h7, h8⟩ := h.own
  refine ⟨⟨Z, h1, ?_, ?_, h4, h5, h6, h7, h8⟩, hs⟩
  · refine ⟨ow_at h2.row (fun j hj => hk j (h2.row.lt j hj).1 (h6 j hj)), fun z hz => ow_at (h2.each z hz) (fun j hj => hk j ((h2.each z hz).lt j hj).1 (h8 z hz j hj)), h2.off, h2.apart⟩
  · exact ow_at h3 (fun j hj => hk j (h3.lt j hj).1 (h7 j hj))
theorem OwX.later (h : OwX W lo hi mv gv L G) (hb : Below W.heap.size W W') : OwX W' lo hi mv gv L G :=
  h.same (Nat.le_trans h.top hb.size) (fun k _ hk => hb.block k (Nat.lt_of_lt_of_le hk h.top))
theorem OwX.owb (h : OwX W lo hi mv gv L G) : OwB W lo mv gv L G := by
  obtain ⟨Z, h1, h2, h3, h4, h5, _⟩ := h.own
  exact ⟨Z, h1, h2, h3, h4, h5⟩
theorem OwB.owx (h : OwB W lo mv gv L G) : OwX W lo W.heap.size mv gv L G := by
  obtain ⟨Z, h1, h2, h3, h4, h5⟩ := h
  exact ⟨⟨Z, h1, h2, h3, h4, h5, fun j hj => (h2.row.lt j hj).2, fun j hj => (h3.lt j hj).2, fun z hz j hj => ((h2.each z hz).lt j hj).2⟩, Nat.le_refl _⟩
theorem OwX.reads (h : OwX W lo hi mv gv L G) : ∃ a c a' c', mv = .slice a L.length c ∧ gv = .slice a' G.length c' ∧ Ms lo hi W a L ∧ Is lo hi W a' G ∧ (a = none → c = 0) ∧ (a' = none → c' = 0) := by
  obtain ⟨Z, h1, h2, h3, h4, h5, h6, h7, h8⟩ := h.own
  obtain ⟨a, c, rfl⟩ := h2.shape
  obtain ⟨a', c', rfl, _⟩ := h3.shape
  have hm := h2.ms
  have hi' := OwI.is h3
  have hlen : Z.length = L.length := by rw [← h1, List.length_map]
  have hnone : ∀ {n c m e size : Nat} {a : Option Addr} {xs : List Value}, W.ownsRow lo e size (.slice a n c) m xs → a = none → c = 0 := by
    intro n c m e size a xs ho ha
    subst ha
    rcases ho.2 with ⟨h1, _⟩ | ⟨g, cap, cur, h1, _⟩
    · simpa using congrArg (fun v => match v with | .slice _ _ c => c | _ => 0) h1
    · simp at h1
  refine ⟨a, c, a', c', by rw [hlen], rfl, ?_, ?_, hnone h2.row, hnone h3⟩
  · rw [h1] at hm
    refine ⟨h.top, fun i hi'' => ?_⟩
    obtain ⟨k, o, fa, fc, e1, e2, e3, e4, e5, e6⟩ := hm.2.2 i hi''
    subst e1
    refine ⟨k, o, fa, fc, rfl, e2, h6 k rfl, e4, fun hn => ?_, e6⟩
    obtain ⟨k', o', p1, p2, p3, p4⟩ := e5 hn
    subst p1
    refine ⟨k', o', rfl, p2, ?_, p4⟩
    have hil : i < Z.length := by omega
    have hz := hm.2.1
    -- the flags' value of the i-th mail is this slice
    have hrow := h2.row
    rcases h2.row.2 with ⟨q1, q2⟩ | ⟨g, cap, cur, q1, q2, q3, q4, q5, q6, q7⟩
    · simp at q1
    · simp only [Value.slice.injEq, Option.some.injEq, Addr.mk.injEq] at q1
      obtain ⟨⟨rfl, rfl, _⟩, _, rfl⟩ := q1
      have hc := (hrow.cellAt (i * 4 + 2) (by omega)).trans (zc_at Z i hil).2.2.1
      have hc2 := e4.2.2.1
      rw [show 0 + i * 4 + 2 = i * 4 + 2 by omega, hc] at hc2
      simp only [Option.some.injEq] at hc2
      exact h8 Z[i] (List.getElem_mem hil) k' (by rw [hc2]; rfl)
  · refine ⟨h.top, fun i hi'' => ?_⟩
    obtain ⟨k, o, e1, e2, e3, e4⟩ := hi'.2.2 i hi''
    subst e1
    exact ⟨k, o, rfl, e2, h7 k rfl, e4⟩
end
end Go.Proofs.YtanahkieondboaaDoor
