/- A row of boxes that a call owns. -/
import Derived.Test.YtanahkieondboaaDoorSrow
namespace Go.Proofs.YtanahkieondboaaDoor
open Go.RowKit Go.ChangeMaps

/-- A row of boxes that a call owns, with all their lists: no two rows in one block. -/
structure OwS (W : World) (B : Nat) (v : Value) (Y : List Y9) : Prop where
  row : W.ownsRow B 43 7 v Y.length (yc Y)
  each : ∀ y ∈ Y, OwX W y.lo y.hi y.mv y.gv y.L y.G ∧ B ≤ y.lo
  off : ∀ y ∈ Y, ∀ j, v.ownBlock = some j → j < y.lo ∨ y.hi ≤ j
  apart : Y.Pairwise fun x y => x.hi ≤ y.lo ∨ y.hi ≤ x.lo
section
variable {W W' : World} {B : Nat} {v : Value} {Y : List Y9}
theorem OwS.kept (h : OwS W B v Y) (hs : W.heap.size ≤ W'.heap.size) (hr : ∀ j, v.ownBlock = some j → W'.heap[j]? = W.heap[j]?) (he : ∀ y ∈ Y, ∀ j, y.lo ≤ j → j < y.hi → W'.heap[j]? = W.heap[j]?) : OwS W' B v Y :=
  ⟨ow_at h.row hr, fun y hy => ⟨(h.each y hy).1.same (Nat.le_trans (h.each y hy).1.top hs) (he y hy), (h.each y hy).2⟩, h.off, h.apart⟩
theorem OwS.later (h : OwS W B v Y) (hb : Below W.heap.size W W') : OwS W' B v Y :=
  h.kept hb.size (fun j hj => hb.block j (h.row.lt j hj).2) (fun y hy j _ hj => hb.block j (Nat.lt_of_lt_of_le hj (h.each y hy).1.top))
theorem OwS.base {B' : Nat} (h : OwS W B' v Y) (hB : B ≤ B') : OwS W B v Y :=
  ⟨own_base h.row hB, fun y hy => ⟨(h.each y hy).1, Nat.le_trans hB (h.each y hy).2⟩, h.off, h.apart⟩
theorem OwS.grown {k : Nat} (h : OwS W B v Y) (hg : W.grownBy W' (some k)) (hk : k < B) : OwS W' B v Y :=
  h.kept hg.size (fun j hj => hg.block j (h.row.lt j hj).2 (fun e => by have := (h.row.lt j hj).1; simp at e; omega)) (fun y hy j h1 h2 => hg.block j (Nat.lt_of_lt_of_le h2 (h.each y hy).1.top) (fun e => by have := (h.each y hy).2; simp at e; omega))
theorem OwS.shape (h : OwS W B v Y) : ∃ a c, v = .slice a Y.length c := by
  rcases h.row.2 with ⟨h1, h2⟩ | ⟨g, cap, cur, h1, _⟩
  · exact ⟨none, 0, by rw [h1, h2]⟩
  · exact ⟨_, _, h1⟩
theorem OwS.nil0 {n c : Nat} {a : Option Addr} (h : OwS W B (.slice a n c) Y) : a = none → c = 0 := by
  intro ha
  subst ha
  rcases h.row.2 with ⟨h1, _⟩ | ⟨g, cap, cur, h1, _⟩
  · simpa using congrArg (fun v => match v with | .slice _ _ c => c | _ => 0) h1
  · simp at h1
/-- What it reads as. -/
theorem OwS.bs {n c : Nat} {a : Option Addr} (h : OwS W B (.slice a n c) Y) : n = Y.length ∧ Bs B W.heap.size W a (Y.map yd) := by
  have hw := h.row
  rcases h.row.2 with ⟨h1, h2⟩ | ⟨g, cap, cur, h1, h2, h3, h4, h5, h6, h7⟩
  · simp only [Value.slice.injEq] at h1
    refine ⟨by omega, Nat.le_refl _, fun i hi => ?_⟩
    rw [List.length_map] at hi
    omega
  · simp only [Value.slice.injEq] at h1
    obtain ⟨rfl, rfl, rfl⟩ := h1
    refine ⟨rfl, Nat.le_refl _, fun i hi => ?_⟩
    rw [List.length_map] at hi
    have e := yc_at Y i hi
    obtain ⟨hx, hlo⟩ := h.each Y[i] (List.getElem_mem hi)
    obtain ⟨ma, mc, ga, gc, e1, e2, e3, e4, e5, e6⟩ := hx.reads
    rw [e1, e2] at e
    refine ⟨g, 0, ma, mc, ga, gc, rfl, h2, (Array.getElem?_eq_some_iff.1 h3).1, ?_, ?_, ?_, e5, e6⟩
    · simp only [Nat.zero_add, List.getElem_map, yd]
      exact ⟨(hw.cellAt _ (by omega)).trans e.1, (hw.cellAt _ (by omega)).trans e.2.1, (hw.cellAt _ (by omega)).trans e.2.2.1, (hw.cellAt _ (by omega)).trans e.2.2.2.1, (hw.cellAt _ (by omega)).trans e.2.2.2.2.1, (hw.cellAt _ (by omega)).trans e.2.2.2.2.2.1, (hw.cellAt _ (by omega)).trans e.2.2.2.2.2.2⟩
    · simpa [yd] using e3.wide hlo hx.top (Nat.le_refl _)
    · simpa [yd] using e4.wid hlo hx.top (Nat.le_refl _)
/-- The seven cells of place i, and that they may be stored into. -/
theorem OwS.spot {g n c : Nat} (h : OwS W B (.slice (some ⟨g, 0, none⟩) n c) Y) (i : Nat) (hi : i < Y.length) :
    C7 W g (i * 7) Y[i].g Y[i].nm Y[i].t Y[i].b Y[i].nx Y[i].mv Y[i].gv ∧ ∀ j, W.frozen? ⟨g, j, none⟩ = false := by
  obtain rfl := h.bs.1
  have hw := h.row
  have e := yc_at Y i hi
  exact ⟨⟨(hw.cellAt _ (by omega)).trans e.1, (hw.cellAt _ (by omega)).trans e.2.1, (hw.cellAt _ (by omega)).trans e.2.2.1, (hw.cellAt _ (by omega)).trans e.2.2.2.1, (hw.cellAt _ (by omega)).trans e.2.2.2.2.1, (hw.cellAt _ (by omega)).trans e.2.2.2.2.2.1, (hw.cellAt _ (by omega)).trans e.2.2.2.2.2.2⟩, fun j => hw.frozenAt _⟩
end
/-- The seven stores of a box at place o of block g. -/
def put7 (W : World) (g o : Nat) (y : Y9) : World :=
  ((((((W.setCell ⟨g, o, none⟩ (.int .i64 y.g)).setCell ⟨g, o + 1, none⟩ (.string y.nm)).setCell ⟨g, o + 2, none⟩ (.int .i64 y.t)).setCell ⟨g, o + 3, none⟩ (.int .i64 y.b)).setCell ⟨g, o + 4, none⟩ (.int .i64 y.nx)).setCell ⟨g, o + 5, none⟩ y.mv).setCell ⟨g, o + 6, none⟩ y.gv
theorem put7_grown (W : World) (g o : Nat) (y : Y9) : W.grownBy (put7 W g o y) (some g) := wst (wst (wst (wst (wst (wst (wst (wre _ _) _ _) _ _) _ _) _ _) _ _) _ _) _ _
/-- A box stored at place i of an owned row: its lists lie apart from all others. -/
theorem OwS.stored {W : World} {B g n c : Nat} {Y : List Y9} (h : OwS W B (.slice (some ⟨g, 0, none⟩) n c) Y) (i : Nat) (hi : i < Y.length) (y : Y9) (ho : OwX W y.lo y.hi y.mv y.gv y.L y.G) (hB : B ≤ y.lo) (hg : g < y.lo ∨ y.hi ≤ g) (hd : ∀ x ∈ Y, x.hi ≤ y.lo ∨ y.hi ≤ x.lo) :
    OwS (put7 W g (i * 7) y) B (.slice (some ⟨g, 0, none⟩) n c) (Y.set i y) := by
  obtain rfl := h.bs.1
  have hgr := put7_grown W g (i * 7) y
  have h1 := (World.ownsRow.stored h.row (i * 7) (.int .i64 y.g)).1
  have h2 := (World.ownsRow.stored h1 (i * 7 + 1) (.string y.nm)).1
  have h3 := (World.ownsRow.stored h2 (i * 7 + 2) (.int .i64 y.t)).1
  have h4 := (World.ownsRow.stored h3 (i * 7 + 3) (.int .i64 y.b)).1
  have h5 := (World.ownsRow.stored h4 (i * 7 + 4) (.int .i64 y.nx)).1
  have h6 := (World.ownsRow.stored h5 (i * 7 + 5) y.mv).1
  have h7 := (World.ownsRow.stored h6 (i * 7 + 6) y.gv).1
  rw [yc_set Y i y hi] at h7
  have hkeep : ∀ {lo hh : Nat} {mv gv : Value} {L : List M4} {G : List Int}, OwX W lo hh mv gv L G → (g < lo ∨ hh ≤ g) → OwX (put7 W g (i * 7) y) lo hh mv gv L G := fun hx hf =>
    hx.same (Nat.le_trans hx.top hgr.size) (fun k k1 k2 => hgr.block k (Nat.lt_of_lt_of_le k2 hx.top) (fun e => by simp only [Option.some.injEq] at e; omega))
  refine ⟨by simpa [put7] using h7, fun x hx => ?_, fun x hx j hj => ?_, pair_set h.apart i y (fun x hx => (hd x hx).symm) (fun x hx => hd x hx)⟩
  · rcases mem_set hx with hx | rfl
    · exact ⟨hkeep (h.each x hx).1 (h.off x hx g rfl), (h.each x hx).2⟩
    · exact ⟨hkeep ho hg, hB⟩
  · rcases mem_set hx with hx | rfl
    · exact h.off x hx j hj
    · have : j = g := by
        have e : (some g : Option Nat) = some j := hj
        simpa using e.symm
      subst this
      exact hg
/-- What comes of an owned row when a box is appended. -/
theorem OwS.snoc {w w' : World} {B : Nat} {v v' : Value} {Y : List Y9} (hown : OwS w B v Y) (y : Y9) (ho : OwX w y.lo y.hi y.mv y.gv y.L y.G) (hB : B ≤ y.lo) (hv : ∀ j, v.ownBlock = some j → j < y.lo ∨ y.hi ≤ j) (hd : ∀ x ∈ Y, x.hi ≤ y.lo ∨ y.hi ≤ x.lo) (o : Obj)
    (hrow : w'.ownsRow B 43 7 v' (Y ++ [y]).length (yc (Y ++ [y]))) (hg : (w.alloc o).grownBy w' v.ownBlock) (hloc : ∀ j, v'.ownBlock = some j → v.ownBlock = some j ∨ w.heap.size < j) : OwS w' B v' (Y ++ [y]) := by
  have hsz : w.heap.size ≤ w'.heap.size := by have := hg.size; simp at this; omega
  have hkeep : ∀ {x : Y9}, OwX w x.lo x.hi x.mv x.gv x.L x.G → (∀ j, v.ownBlock = some j → j < x.lo ∨ x.hi ≤ j) → OwX w' x.lo x.hi x.mv x.gv x.L x.G := fun hx hf =>
    hx.same (Nat.le_trans hx.top hsz) (fun k k1 k2 => (hg.block k (by have := hx.top; simp; omega) (fun e => by have := hf k e.symm; omega)).trans (Below.heap_alloc w o k (Nat.lt_of_lt_of_le k2 hx.top)))
  refine ⟨hrow, fun x hx => ?_, fun x hx j hj => ?_, ?_⟩
  · rcases List.mem_append.1 hx with hx | hx
    · exact ⟨hkeep (hown.each x hx).1 (hown.off x hx), (hown.each x hx).2⟩
    · simp only [List.mem_cons, List.not_mem_nil, or_false] at hx
      subst hx
      exact ⟨hkeep ho hv, hB⟩
  · have htop : x.hi ≤ w.heap.size := by
      rcases List.mem_append.1 hx with hx | hx
      · exact (hown.each x hx).1.top
      · simp only [List.mem_cons, List.not_mem_nil, or_false] at hx
        subst hx
        exact ho.top
    rcases hloc j hj with h | h
    · rcases List.mem_append.1 hx with hx | hx
      · exact hown.off x hx j h
      · simp only [List.mem_cons, List.not_mem_nil, or_false] at hx
        subst hx
        exact hv j h
    · exact .inr (by omega)
  · rw [List.pairwise_append]
    refine ⟨hown.apart, List.pairwise_singleton _ _, fun x hx z hz => ?_⟩
    simp only [List.mem_cons, List.not_mem_nil, or_false] at hz
    subst hz
    exact hd x hx
theorem ownS_empty (W : World) (B : Nat) (hB : B ≤ W.heap.size) : OwS (W.alloc (.cells #[] 43)) B (.slice (some ⟨W.heap.size, 0, none⟩) 0 0) [] :=
  ⟨World.ownsRow_lit (base := B) (e := 43) (size := 7) W #[] 0 hB (by unfold maxLen; omega) rfl, (fun z hz => by cases hz), (fun z hz => by cases hz), List.Pairwise.nil⟩
theorem info_bx : (Tryd.prog.info? 43).map (fun i => (i.zero, i.size, i.bytes)) = some (some (.agg #[.int .i64 0, .string ⟨#[]⟩, .int .i64 0, .int .i64 0, .int .i64 0, .slice none 0 0, .slice none 0 0]), 7, 96) := by kernel_rfl
theorem cells_new7 (w : World) (y : Y9) (e : Nat) : ∀ j u, (yc [y])[j]? = some u → (w.alloc (.cells #[.int .i64 y.g, .string y.nm, .int .i64 y.t, .int .i64 y.b, .int .i64 y.nx, y.mv, y.gv] e)).cell? ((⟨w.heap.size, 0, none⟩ : Addr).add j) = some u := by
  intro j u hj
  have hh := heap_alloc_new w (.cells #[.int .i64 y.g, .string y.nm, .int .i64 y.t, .int .i64 y.b, .int .i64 y.nx, y.mv, y.gv] e)
  have hlt : j < 7 := by
    have := (List.getElem?_eq_some_iff.1 hj).1
    rw [yc_len] at this
    simpa using this
  have h2 : j = 0 ∨ j = 1 ∨ j = 2 ∨ j = 3 ∨ j = 4 ∨ j = 5 ∨ j = 6 := by omega
  rcases h2 with rfl | rfl | rfl | rfl | rfl | rfl | rfl <;> simp only [yc, List.getElem?_cons_zero, List.getElem?_cons_succ, Option.some.injEq] at hj <;> subst hj
  · exact cell_of_row _ _ 0 _ _ _ hh
  · exact cell_of_row _ _ 1 _ _ _ hh
  · exact cell_of_row _ _ 2 _ _ _ hh
  · exact cell_of_row _ _ 3 _ _ _ hh
  · exact cell_of_row _ _ 4 _ _ _ hh
  · exact cell_of_row _ _ 5 _ _ _ hh
  · exact cell_of_row _ _ 6 _ _ _ hh
end Go.Proofs.YtanahkieondboaaDoor
