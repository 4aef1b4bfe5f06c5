/- Servers: a block that holds one; the laws' own helpers. -/
import Derived.Test.YtckenihadlmlaaaB12

namespace Go.Proofs.Ytckenihadlmlaaa
open Go.RowKit Go.ChangeMaps

/-- Block k holds a server. -/
def Vx (W : World) (k ty : Nat) (y tm : Int) (bv gv : Value) (jr : ByteArray) (sv : Int) (i o : ByteArray) (n r : Bool) (b : Int) (vv : Value) (u : Bool) : Prop := W.heap[k]? = some (.cells #[.int .i64 y, .int .i64 tm, bv, gv, .string jr, .int .i64 sv, .string i, .string o, .bool n, .bool r, .int .i64 b, vv, .bool u] ty (0, 0))
abbrev svw (y tm : Int) (bv gv : Value) (jr : ByteArray) (sv : Int) (i o : ByteArray) (n r : Bool) (b : Int) (vv : Value) (u : Bool) : Value := .agg #[.int .i64 y, .int .i64 tm, bv, gv, .string jr, .int .i64 sv, .string i, .string o, .bool n, .bool r, .int .i64 b, vv, .bool u]
abbrev sv0 : Array Value := #[.int .i64 0, .int .i64 0, .slice none 0 0, .slice none 0 0, .string ⟨#[]⟩, .int .i64 0, .string ⟨#[]⟩, .string ⟨#[]⟩, .bool false, .bool false, .int .i64 0, .slice none 0 0, .bool false]
section
variable {W W' : World} {k ty : Nat} {y tm : Int} {bv gv : Value} {jr : ByteArray} {sv : Int} {i o : ByteArray} {n r : Bool} {b : Int} {vv : Value} {u : Bool}
theorem Vx.new (w : World) (ty : Nat) (y tm : Int) (bv gv : Value) (jr : ByteArray) (sv : Int) (i o : ByteArray) (n r : Bool) (b : Int) (vv : Value) (u : Bool) : Vx (w.alloc (.cells #[.int .i64 y, .int .i64 tm, bv, gv, .string jr, .int .i64 sv, .string i, .string o, .bool n, .bool r, .int .i64 b, vv, .bool u] ty)) w.heap.size ty y tm bv gv jr sv i o n r b vv u := heap_alloc_new w _
theorem Vx.lt (h : Vx W k ty y tm bv gv jr sv i o n r b vv u) : k < W.heap.size := (Array.getElem?_eq_some_iff.1 h).1
theorem Vx.later (h : Vx W k ty y tm bv gv jr sv i o n r b vv u) (hb : Below W.heap.size W W') : Vx W' k ty y tm bv gv jr sv i o n r b vv u := (hb.block k h.lt).trans h
theorem Vx.grown {q : Option Nat} (h : Vx W k ty y tm bv gv jr sv i o n r b vv u) (hg : W.grownBy W' q) (hk : some k ≠ q) : Vx W' k ty y tm bv gv jr sv i o n r b vv u := (hg.block k h.lt hk).trans h
theorem Vx.chg {P : Nat → Prop} (h : Vx W k ty y tm bv gv jr sv i o n r b vv u) (hc : Chg P W W') (hk : ¬ P k) : Vx W' k ty y tm bv gv jr sv i o n r b vv u := (hc.block k h.lt hk).trans h
theorem Vx.cells (h : Vx W k ty y tm bv gv jr sv i o n r b vv u) : W.cell? ⟨k, 0, none⟩ = some (.int .i64 y) ∧ W.cell? ⟨k, 1, none⟩ = some (.int .i64 tm) ∧ W.cell? ⟨k, 2, none⟩ = some (bv) ∧ W.cell? ⟨k, 3, none⟩ = some (gv) ∧ W.cell? ⟨k, 4, none⟩ = some (.string jr) ∧ W.cell? ⟨k, 5, none⟩ = some (.int .i64 sv) ∧ W.cell? ⟨k, 6, none⟩ = some (.string i) ∧ W.cell? ⟨k, 7, none⟩ = some (.string o) ∧ W.cell? ⟨k, 8, none⟩ = some (.bool n) ∧ W.cell? ⟨k, 9, none⟩ = some (.bool r) ∧ W.cell? ⟨k, 10, none⟩ = some (.int .i64 b) ∧ W.cell? ⟨k, 11, none⟩ = some (vv) ∧ W.cell? ⟨k, 12, none⟩ = some (.bool u) :=
  ⟨cell_of_row W k 0 _ _ _ h, cell_of_row W k 1 _ _ _ h, cell_of_row W k 2 _ _ _ h, cell_of_row W k 3 _ _ _ h, cell_of_row W k 4 _ _ _ h, cell_of_row W k 5 _ _ _ h, cell_of_row W k 6 _ _ _ h, cell_of_row W k 7 _ _ _ h, cell_of_row W k 8 _ _ _ h, cell_of_row W k 9 _ _ _ h, cell_of_row W k 10 _ _ _ h, cell_of_row W k 11 _ _ _ h, cell_of_row W k 12 _ _ _ h⟩
theorem Vx.loose (h : Vx W k ty y tm bv gv jr sv i o n r b vv u) : W.frozen? ⟨k, 0, none⟩ = false ∧ W.frozen? ⟨k, 1, none⟩ = false ∧ W.frozen? ⟨k, 2, none⟩ = false ∧ W.frozen? ⟨k, 3, none⟩ = false ∧ W.frozen? ⟨k, 4, none⟩ = false ∧ W.frozen? ⟨k, 5, none⟩ = false ∧ W.frozen? ⟨k, 6, none⟩ = false ∧ W.frozen? ⟨k, 7, none⟩ = false ∧ W.frozen? ⟨k, 8, none⟩ = false ∧ W.frozen? ⟨k, 9, none⟩ = false ∧ W.frozen? ⟨k, 10, none⟩ = false ∧ W.frozen? ⟨k, 11, none⟩ = false ∧ W.frozen? ⟨k, 12, none⟩ = false :=
  ⟨frozen_of_row W k 0 _ _ h, frozen_of_row W k 1 _ _ h, frozen_of_row W k 2 _ _ h, frozen_of_row W k 3 _ _ h, frozen_of_row W k 4 _ _ h, frozen_of_row W k 5 _ _ h, frozen_of_row W k 6 _ _ h, frozen_of_row W k 7 _ _ h, frozen_of_row W k 8 _ _ h, frozen_of_row W k 9 _ _ h, frozen_of_row W k 10 _ _ h, frozen_of_row W k 11 _ _ h, frozen_of_row W k 12 _ _ h⟩
theorem Vx.s0 (h : Vx W k ty y tm bv gv jr sv i o n r b vv u) (x : Int) : Vx (W.setCell ⟨k, 0, none⟩ (.int .i64 x)) k ty x tm bv gv jr sv i o n r b vv u := heap_setCell_same W k 0 _ _ _ h
theorem Vx.s1 (h : Vx W k ty y tm bv gv jr sv i o n r b vv u) (x : Int) : Vx (W.setCell ⟨k, 1, none⟩ (.int .i64 x)) k ty y x bv gv jr sv i o n r b vv u := heap_setCell_same W k 1 _ _ _ h
theorem Vx.s2 (h : Vx W k ty y tm bv gv jr sv i o n r b vv u) (x : Value) : Vx (W.setCell ⟨k, 2, none⟩ (x)) k ty y tm x gv jr sv i o n r b vv u := heap_setCell_same W k 2 _ _ _ h
theorem Vx.s3 (h : Vx W k ty y tm bv gv jr sv i o n r b vv u) (x : Value) : Vx (W.setCell ⟨k, 3, none⟩ (x)) k ty y tm bv x jr sv i o n r b vv u := heap_setCell_same W k 3 _ _ _ h
theorem Vx.s4 (h : Vx W k ty y tm bv gv jr sv i o n r b vv u) (x : ByteArray) : Vx (W.setCell ⟨k, 4, none⟩ (.string x)) k ty y tm bv gv x sv i o n r b vv u := heap_setCell_same W k 4 _ _ _ h
theorem Vx.s5 (h : Vx W k ty y tm bv gv jr sv i o n r b vv u) (x : Int) : Vx (W.setCell ⟨k, 5, none⟩ (.int .i64 x)) k ty y tm bv gv jr x i o n r b vv u := heap_setCell_same W k 5 _ _ _ h
theorem Vx.s6 (h : Vx W k ty y tm bv gv jr sv i o n r b vv u) (x : ByteArray) : Vx (W.setCell ⟨k, 6, none⟩ (.string x)) k ty y tm bv gv jr sv x o n r b vv u := heap_setCell_same W k 6 _ _ _ h
theorem Vx.s7 (h : Vx W k ty y tm bv gv jr sv i o n r b vv u) (x : ByteArray) : Vx (W.setCell ⟨k, 7, none⟩ (.string x)) k ty y tm bv gv jr sv i x n r b vv u := heap_setCell_same W k 7 _ _ _ h
theorem Vx.s8 (h : Vx W k ty y tm bv gv jr sv i o n r b vv u) (x : Bool) : Vx (W.setCell ⟨k, 8, none⟩ (.bool x)) k ty y tm bv gv jr sv i o x r b vv u := heap_setCell_same W k 8 _ _ _ h
theorem Vx.s9 (h : Vx W k ty y tm bv gv jr sv i o n r b vv u) (x : Bool) : Vx (W.setCell ⟨k, 9, none⟩ (.bool x)) k ty y tm bv gv jr sv i o n x b vv u := heap_setCell_same W k 9 _ _ _ h
theorem Vx.s10 (h : Vx W k ty y tm bv gv jr sv i o n r b vv u) (x : Int) : Vx (W.setCell ⟨k, 10, none⟩ (.int .i64 x)) k ty y tm bv gv jr sv i o n r x vv u := heap_setCell_same W k 10 _ _ _ h
theorem Vx.s11 (h : Vx W k ty y tm bv gv jr sv i o n r b vv u) (x : Value) : Vx (W.setCell ⟨k, 11, none⟩ (x)) k ty y tm bv gv jr sv i o n r b x u := heap_setCell_same W k 11 _ _ _ h
theorem Vx.s12 (h : Vx W k ty y tm bv gv jr sv i o n r b vv u) (x : Bool) : Vx (W.setCell ⟨k, 12, none⟩ (.bool x)) k ty y tm bv gv jr sv i o n r b vv x := heap_setCell_same W k 12 _ _ _ h
end
def putK (W : World) (k : Nat) (y tm : Int) (bv gv : Value) (jr : ByteArray) (sv : Int) : World := ((((((W.setCell ⟨k, 0, none⟩ (.int .i64 y)).setCell ⟨k, 1, none⟩ (.int .i64 tm)).setCell ⟨k, 2, none⟩ (bv)).setCell ⟨k, 3, none⟩ (gv)).setCell ⟨k, 4, none⟩ (.string jr)).setCell ⟨k, 5, none⟩ (.int .i64 sv))
def putS (W : World) (k : Nat) (i o : ByteArray) (n r : Bool) (b : Int) (vv : Value) : World := ((((((W.setCell ⟨k, 6, none⟩ (.string i)).setCell ⟨k, 7, none⟩ (.string o)).setCell ⟨k, 8, none⟩ (.bool n)).setCell ⟨k, 9, none⟩ (.bool r)).setCell ⟨k, 10, none⟩ (.int .i64 b)).setCell ⟨k, 11, none⟩ (vv))
def putV (W : World) (k : Nat) (y tm : Int) (bv gv : Value) (jr : ByteArray) (sv : Int) (i o : ByteArray) (n r : Bool) (b : Int) (vv : Value) (u : Bool) : World := (((((((((((((W.setCell ⟨k, 0, none⟩ (.int .i64 y)).setCell ⟨k, 1, none⟩ (.int .i64 tm)).setCell ⟨k, 2, none⟩ (bv)).setCell ⟨k, 3, none⟩ (gv)).setCell ⟨k, 4, none⟩ (.string jr)).setCell ⟨k, 5, none⟩ (.int .i64 sv)).setCell ⟨k, 6, none⟩ (.string i)).setCell ⟨k, 7, none⟩ (.string o)).setCell ⟨k, 8, none⟩ (.bool n)).setCell ⟨k, 9, none⟩ (.bool r)).setCell ⟨k, 10, none⟩ (.int .i64 b)).setCell ⟨k, 11, none⟩ (vv)).setCell ⟨k, 12, none⟩ (.bool u))
theorem putK_grown (W : World) (k : Nat) (y tm : Int) (bv gv : Value) (jr : ByteArray) (sv : Int) : W.grownBy (putK W k y tm bv gv jr sv) (some k) := wst (wst (wst (wst (wst (wst (wre W (some k)) 0 _) 1 _) 2 _) 3 _) 4 _) 5 _
theorem putS_grown (W : World) (k : Nat) (i o : ByteArray) (n r : Bool) (b : Int) (vv : Value) : W.grownBy (putS W k i o n r b vv) (some k) := wst (wst (wst (wst (wst (wst (wre W (some k)) 6 _) 7 _) 8 _) 9 _) 10 _) 11 _
theorem putV_grown (W : World) (k : Nat) (y tm : Int) (bv gv : Value) (jr : ByteArray) (sv : Int) (i o : ByteArray) (n r : Bool) (b : Int) (vv : Value) (u : Bool) : W.grownBy (putV W k y tm bv gv jr sv i o n r b vv u) (some k) := wst (wst (wst (wst (wst (wst (wst (wst (wst (wst (wst (wst (wst (wre W (some k)) 0 _) 1 _) 2 _) 3 _) 4 _) 5 _) 6 _) 7 _) 8 _) 9 _) 10 _) 11 _) 12 _
theorem Vx.putK {W : World} {k ty : Nat} {y0 tm0 : Int} {bv0 gv0 : Value} {jr0 : ByteArray} {sv0 : Int} {i0 o0 : ByteArray} {n0 r0 : Bool} {b0 : Int} {vv0 : Value} {u0 : Bool} (h : Vx W k ty y0 tm0 bv0 gv0 jr0 sv0 i0 o0 n0 r0 b0 vv0 u0) (y tm : Int) (bv gv : Value) (jr : ByteArray) (sv : Int) : Vx (putK W k y tm bv gv jr sv) k ty y tm bv gv jr sv i0 o0 n0 r0 b0 vv0 u0 := ((((((h.s0 y).s1 tm).s2 bv).s3 gv).s4 jr).s5 sv)
theorem Vx.putS {W : World} {k ty : Nat} {y0 tm0 : Int} {bv0 gv0 : Value} {jr0 : ByteArray} {sv0 : Int} {i0 o0 : ByteArray} {n0 r0 : Bool} {b0 : Int} {vv0 : Value} {u0 : Bool} (h : Vx W k ty y0 tm0 bv0 gv0 jr0 sv0 i0 o0 n0 r0 b0 vv0 u0) (i o : ByteArray) (n r : Bool) (b : Int) (vv : Value) : Vx (putS W k i o n r b vv) k ty y0 tm0 bv0 gv0 jr0 sv0 i o n r b vv u0 := ((((((h.s6 i).s7 o).s8 n).s9 r).s10 b).s11 vv)
theorem Vx.putV {W : World} {k ty : Nat} {y0 tm0 : Int} {bv0 gv0 : Value} {jr0 : ByteArray} {sv0 : Int} {i0 o0 : ByteArray} {n0 r0 : Bool} {b0 : Int} {vv0 : Value} {u0 : Bool} (h : Vx W k ty y0 tm0 bv0 gv0 jr0 sv0 i0 o0 n0 r0 b0 vv0 u0) (y tm : Int) (bv gv : Value) (jr : ByteArray) (sv : Int) (i o : ByteArray) (n r : Bool) (b : Int) (vv : Value) (u : Bool) : Vx (putV W k y tm bv gv jr sv i o n r b vv u) k ty y tm bv gv jr sv i o n r b vv u := (((((((((((((h.s0 y).s1 tm).s2 bv).s3 gv).s4 jr).s5 sv).s6 i).s7 o).s8 n).s9 r).s10 b).s11 vv).s12 u)

/-- What a server reads. -/
structure Rv (W : World) (ba ga va : Option Addr) (S : List X7) (G V : List Int) : Prop where
  b : ∃ lo hi, Bs lo hi W ba S
  g : ∃ lo hi, Is lo hi W ga G
  v : ∃ lo hi, Is lo hi W va V
theorem Rv.later {W W' : World} {ba ga va : Option Addr} {S : List X7} {G V : List Int} (h : Rv W ba ga va S G V) (hb : Below W.heap.size W W') : Rv W' ba ga va S G V := by
  obtain ⟨⟨l1, h1, x1⟩, ⟨l2, h2, x2⟩, ⟨l3, h3, x3⟩⟩ := h
  exact ⟨⟨l1, h1, x1.later hb⟩, ⟨l2, h2, x2.later hb⟩, ⟨l3, h3, x3.later hb⟩⟩
/-- Its rows are small. -/
structure Sm16 (bn gn vn : Nat) (S : List X7) (G V : List Int) : Prop where
  bl : S.length = bn
  bs : bn ≤ 1048576
  sb : Sb S
  gl : G.length = gn
  gs : gn ≤ 1048576
  vl : V.length = vn
  vs : vn ≤ 1048576
  fz : kx 1 S ≤ 6291456
/-- Its rows are its own, in blocks below hi. -/
def OwR (W : World) (B hi : Nat) (bv gv vv : Value) (S : List X7) (G V : List Int) : Prop := ∃ m, OwU W B m bv gv S G ∧ OwI W m vv V ∧ B ≤ m ∧ m ≤ hi ∧ ∀ j, vv.ownBlock = some j → j < hi
section
variable {W W' : World} {B B' hi : Nat} {bv gv vv : Value} {S : List X7} {G V : List Int}
theorem OwR.later (h : OwR W B hi bv gv vv S G V) (hb : Below W.heap.size W W') : OwR W' B hi bv gv vv S G V := by
  obtain ⟨m, h1, h2, h3⟩ := h
  exact ⟨m, h1.later hb, own_later h2 hb, h3⟩
theorem OwR.base (h : OwR W B' hi bv gv vv S G V) (hB : B ≤ B') : OwR W B hi bv gv vv S G V := by
  obtain ⟨m, h1, h2, h3, h4⟩ := h
  exact ⟨m, h1.base hB, h2, Nat.le_trans hB h3, h4⟩
theorem OwR.top {hi' : Nat} (h : OwR W B hi bv gv vv S G V) (hH : hi ≤ hi') : OwR W B hi' bv gv vv S G V := by
  obtain ⟨m, h1, h2, h3, h4, h5⟩ := h
  exact ⟨m, h1, h2, h3, Nat.le_trans h4 hH, fun j hj => Nat.lt_of_lt_of_le (h5 j hj) hH⟩
theorem OwR.chg {P : Nat → Prop} (h : OwR W B hi bv gv vv S G V) (hc : Chg P W W') (hp : ∀ j, B ≤ j → j < hi → ¬ P j) : OwR W' B hi bv gv vv S G V := by
  obtain ⟨m, h1, h2, h3, h4, h5⟩ := h
  exact ⟨m, h1.chg hc (fun j a c => hp j a (Nat.lt_of_lt_of_le c h4)), row_chg h2 hc (fun j hj => hp j (Nat.le_trans h3 (World.ownsRow.lt h2 j hj).1) (h5 j hj)), h3, h4, h5⟩
theorem OwR.grown {k : Nat} (h : OwR W B hi bv gv vv S G V) (hg : W.grownBy W' (some k)) (hk : k < B ∨ hi ≤ k) : OwR W' B hi bv gv vv S G V :=
  h.chg (P := fun j => j = k) (Chg.of_grown hg (fun j e => by simpa using e.symm)) (fun j a c e => by omega)
theorem OwR.reads {ba ga va : Option Addr} {bn bc gn gc vn vc : Nat} (h : OwR W B hi (.slice ba bn bc) (.slice ga gn gc) (.slice va vn vc) S G V) : Rv W ba ga va S G V := by
  obtain ⟨m, h1, h2, _⟩ := h
  exact ⟨⟨_, _, h1.t.reads.2.2.1⟩, ⟨_, _, h1.t.reads.2.2.2⟩, ⟨_, _, (OwI.is h2).2⟩⟩
theorem OwR.shape (h : OwR W B hi bv gv vv S G V) : ∃ a c a' c' x z, bv = .slice a S.length c ∧ gv = .slice a' G.length c' ∧ vv = .slice x V.length z := by
  obtain ⟨m, h1, h2, _⟩ := h
  obtain ⟨a, c, a', c', e1, e2⟩ := h1.t.shape
  obtain ⟨x, z, e3, _⟩ := OwI.shape h2
  exact ⟨a, c, a', c', x, z, e1, e2, e3⟩
end
/-- The store's rows first, the view behind them. -/
theorem owr_two {w1 w2 : World} {B m : Nat} {bv gv vv : Value} {S : List X7} {G V : List Int} (h1 : OwT w1 B bv gv S G) (hB : B ≤ w1.heap.size) (hb : Below w1.heap.size w1 w2) (hm : w1.heap.size ≤ m) (h2 : OwI w2 m vv V) : OwR w2 B w2.heap.size bv gv vv S G V :=
  ⟨w1.heap.size, h1.u.later hb, own_base h2 hm, hB, hb.size, fun j hj => (World.ownsRow.lt h2 j hj).2⟩

theorem sb_smx16 {S : List X7} (h : Sb S) : SmX S := fun x hx => ⟨(h x hx).2.2.1, (h x hx).2.1, (h x hx).2.2.2⟩
theorem fz_le16 (L : List M4) : fz L ≤ szL L := by
  induction L with
  | nil => simp [fz, szL, tot]
  | cons m L ih => simp only [fz, szL, List.length_cons, tot] at ih ⊢; omega
theorem kx_sz16 (k : Nat) (S : List X7) : kx k S ≤ k + 5 * szB S := by
  induction S generalizing k with
  | nil => simp [kx]
  | cons x S ih =>
    have h := ih (kx1 k x)
    have e : kx1 k x = k + 5 + 3 * fz x.2.2.2.2.2.1 + x.2.2.2.2.2.2.length := rfl
    have e2 : szB (x :: S) = 1 + szX x + szB S := by simp only [szB, toX, List.length_cons]; omega
    have e3 : szX x = x.2.1.size + szL x.2.2.2.2.2.1 + x.2.2.2.2.2.2.length := rfl
    have h4 := fz_le16 x.2.2.2.2.2.1
    show kx (kx1 k x) S ≤ _
    omega
theorem tot_mem16 {L : List M4} {m : M4} (h : m ∈ L) : m.2.2.1.length + m.2.2.2.size ≤ tot L := by
  induction L with
  | nil => cases h
  | cons x L ih =>
    rcases List.mem_cons.1 h with rfl | h
    · simp only [tot]; omega
    · have := ih h; simp only [tot]; omega
theorem sm_of16 {L : List M4} (h : tot L ≤ 1048576) : Sm L := fun m hm => by have := tot_mem16 hm; omega
theorem small16 {S : List X7} {gn : Nat} (h : szB S + gn ≤ 1048576) : S.length ≤ 1048576 ∧ gn ≤ 1048576 ∧ Sb S := by
  unfold szB at h
  refine ⟨by omega, by omega, ?_⟩
  have h2 : toX S ≤ 1048576 := by omega
  clear h
  induction S with
  | nil => intro x hx; cases hx
  | cons a S ih =>
    intro x hx
    have e : toX (a :: S) = szX a + toX S := rfl
    rcases List.mem_cons.1 hx with rfl | hx
    · have h3 : szX x ≤ 1048576 := by omega
      unfold szX szL at h3
      exact ⟨by omega, by omega, sm_of16 (by omega), by omega⟩
    · exact ih (by omega) x hx

set_option maxHeartbeats 1600000 in
set_option maxRecDepth 100000 in
theorem eqSv_any (y tm : Int) (ba : Option Addr) (bn bc : Nat) (ga : Option Addr) (gn gc : Nat) (ba' : Option Addr) (bc' : Nat) (ga' : Option Addr) (gc' : Nat) (jr : ByteArray) (sv : Int) (i o : ByteArray) (n r : Bool) (b : Int) (va : Option Addr) (vn vc : Nat) (va' : Option Addr) (vc' : Nat) (u : Bool) (S : List X7) (G V : List Int) (w : World) (H : Sm16 bn gn vn S G V) (R : Rv w ba ga va S G V) (R' : Rv w ba' ga' va' S G V) :
    Calls Try.prog 8 #[svw y tm (.slice ba bn bc) (.slice ga gn gc) jr sv i o n r b (.slice va vn vc) u, svw y tm (.slice ba' bn bc') (.slice ga' gn gc') jr sv i o n r b (.slice va' vn vc') u] w fun e w' => e = .returned (.bool true) ∧ Below w.heap.size w w' := by
  obtain ⟨W0, hW0⟩ : ∃ W0, (w.alloc (.cells #[.int .i64 y, .int .i64 tm, .slice ba bn bc, .slice ga gn gc, .string jr, .int .i64 sv, .string i, .string o, .bool n, .bool r, .int .i64 b, .slice va vn vc, .bool u] 31)).alloc (.cells #[.int .i64 y, .int .i64 tm, (.slice ba' bn bc'), (.slice ga' gn gc'), .string jr, .int .i64 sv, .string i, .string o, .bool n, .bool r, .int .i64 b, (.slice va' vn vc'), .bool u] 31) = W0 := ⟨_, rfl⟩
  have b0 : Below w.heap.size w W0 := by subst hW0; exact bpush (bpush (bre _) _) _
  have a0 : Vx W0 w.heap.size 31 y tm (.slice ba bn bc) (.slice ga gn gc) jr sv i o n r b (.slice va vn vc) u := by subst hW0; exact (Vx.new w _ _ _ _ _ _ _ _ _ _ _ _ _ _ ).later (bpush (bre _) _)
  have a1 : Vx W0 (w.heap.size + 1) 31 y tm (.slice ba' bn bc') (.slice ga' gn gc') jr sv i o n r b (.slice va' vn vc') u := by
    have h := Vx.new (w.alloc (.cells #[.int .i64 y, .int .i64 tm, .slice ba bn bc, .slice ga gn gc, .string jr, .int .i64 sv, .string i, .string o, .bool n, .bool r, .int .i64 b, .slice va vn vc, .bool u] 31)) 31 y tm (.slice ba' bn bc') (.slice ga' gn gc') jr sv i o n r b (.slice va' vn vc') u
    rw [hW0] at h
    simpa using h
  have HK := hid (fun (W : World) (hb : Below W0.heap.size W0 W) => by
    obtain ⟨⟨_, _, x1⟩, ⟨_, _, x2⟩, _⟩ := R.later (btr b0 hb)
    obtain ⟨⟨_, _, y1⟩, ⟨_, _, y2⟩, _⟩ := R'.later (btr b0 hb)
    exact eqKept_any _ _ _ _ _ _ _ _ y tm ba bn bc ga gn gc ba' bc' ga' gc' jr sv S G W H.bl H.bs H.sb x1 y1 H.gl H.gs x2 y2)
  have HS := hid (fun (W : World) (hb : Below W0.heap.size W0 W) => by
    obtain ⟨_, _, ⟨_, _, x3⟩⟩ := R.later (btr b0 hb)
    obtain ⟨_, _, ⟨_, _, y3⟩⟩ := R'.later (btr b0 hb)
    exact eqSn_any _ _ _ _ i o n r b va va' vn vc vc' V W H.vl H.vs x3 y3)
  have A0 := hid a0
  have A1 := hid a1
  have B0 := hid b0
  have c0 := a0.cells
  have c1 := a1.cells
  have e5 : (u != u) = false := by simp
  clear a0 a1 b0 R R' H
  go_enter Try.func8, Try.ntmps8
  go_wp2_with fail
  clear hW0
  refine (HK.out _ (bre _)).mono ?_; rintro e w1 ⟨rfl, hb⟩
  have B1 := hid hb
  have c0 := (A0.out.later hb).cells
  have c1 := (A1.out.later hb).cells
  clear hb
  go_wp2_with fail
  refine (HS.out _ B1.out).mono ?_; rintro e w2 ⟨rfl, hb⟩
  have B2 := hid (btr B1.out hb)
  have c0 := (A0.out.later B2.out).cells
  have c1 := (A1.out.later B2.out).cells
  clear hb
  go_wp2
  go_ret
  exact ⟨rfl, btr B0.out B2.out⟩

set_option maxHeartbeats 1600000 in
set_option maxRecDepth 100000 in
theorem markSv_any (B hi : Nat) (y tm : Int) (ba : Option Addr) (bn bc : Nat) (ga : Option Addr) (gn gc : Nat) (jr : ByteArray) (sv : Int) (i o : ByteArray) (n r : Bool) (b : Int) (va : Option Addr) (vn vc : Nat) (u : Bool) (S : List X7) (G V : List Int) (w : World) (H : Sm16 bn gn vn S G V) (O : OwR w B hi (.slice ba bn bc) (.slice ga gn gc) (.slice va vn vc) S G V) (hhi : hi ≤ w.heap.size) :
    Calls Try.prog 9 #[svw y tm (.slice ba bn bc) (.slice ga gn gc) jr sv i o n r b (.slice va vn vc) u, .int .i64 1] w fun e w' => e = .returned (.int .i64 ((kx 1 S + gn + vn : Nat) : Int)) ∧ OwR w' B hi (.slice ba bn bc) (.slice ga gn gc) (.slice va vn vc) (mxl 1 S) (mki (kx 1 S) gn) (mki (kx 1 S + gn) vn) ∧ Chg (fun j => B ≤ j ∧ j < hi) w w' := by
  obtain ⟨W0, hW0⟩ : ∃ W0, w.alloc (.cells #[.int .i64 y, .int .i64 tm, .slice ba bn bc, .slice ga gn gc, .string jr, .int .i64 sv, .string i, .string o, .bool n, .bool r, .int .i64 b, .slice va vn vc, .bool u] 31) = W0 := ⟨_, rfl⟩
  have b0 : Below w.heap.size w W0 := by subst hW0; exact bpush (bre _) _
  have a0 : Vx W0 w.heap.size 31 y tm (.slice ba bn bc) (.slice ga gn gc) jr sv i o n r b (.slice va vn vc) u := by subst hW0; exact Vx.new w _ _ _ _ _ _ _ _ _ _ _ _ _ _ 
  obtain ⟨m, h1, h2, h3, h4, h5⟩ := O.later b0
  have HH := hid (And.intro h3 (And.intro h4 (And.intro h5 hhi)))
  have HK := hid (markKept_any B m y tm ba bn bc ga gn gc jr sv S G W0 h1 H.bl H.bs (sb_smx16 H.sb) H.gl H.gs H.fz)
  have HV := hid (fun (W : World) (k : Nat) (hk : k ≤ 8000000) (ho : OwI W m (.slice va vn vc) V) => markSn_any m i o n r b va vn vc k V W ho H.vl H.vs hk)
  have HB : Hid (kx 1 S + gn ≤ 8000000) := hid (by have := H.fz; have := H.gs; omega)
  have O2 := hid h2
  have A0 := hid a0
  have B0 := hid b0
  have c0 := a0.cells
  obtain ⟨q, hq⟩ : ∃ q : Nat, kx 1 S + gn = q := ⟨_, rfl⟩
  rw [hq] at HK HB ⊢
  clear a0 b0 O H h1 h2 h3 h4 h5 hhi hq
  go_enter Try.func9, Try.ntmps9
  go_wp2_with fail
  clear hW0
  refine HK.out.mono ?_; rintro e w1 ⟨rfl, ho, hc⟩
  obtain ⟨h3, h4, h5, h6⟩ := HH.out
  have c0 := (A0.out.chg hc (by omega)).cells
  have O3 : Hid (OwI w1 m (.slice va vn vc) V) := hid (row_chg O2.out hc (fun j hj => by have := (World.ownsRow.lt O2.out j hj).1; omega))
  have U3 := hid ho
  have C3 := hid hc
  clear ho hc h3 h4 h5 h6 HK
  go_wp2_with fail
  refine (HV.out _ _ HB.out O3.out).mono ?_; rintro e w2 ⟨rfl, ho, hg⟩
  obtain ⟨h3, h4, h5, h6⟩ := HH.out
  have hbl : ∀ j, Value.ownBlock (.slice va vn vc) = some j → m ≤ j := fun j hj => (World.ownsRow.lt O3.out j hj).1
  have hc : Chg (fun j => m ≤ j ∧ j < hi) w1 w2 := Chg.of_grown hg (fun j e => ⟨hbl j e, h5 j e⟩)
  have U4 := hid (U3.out.chg hc (fun j a c => by omega))
  have O4 := hid ho
  have C4 := hid ((C3.out.mono (Q := fun j => B ≤ j ∧ j < hi) (fun j a => by omega)).trans (hc.mono (fun j a => by omega)))
  clear ho hg hc hbl c0
  go_wp2
  go_ret
  exact ⟨rfl, ⟨m, U4.out, O4.out, h3, h4, h5⟩, C4.out.after B0.out⟩
set_option maxHeartbeats 1600000 in
set_option maxRecDepth 100000 in
theorem heldSv_any (B hi : Nat) (y tm : Int) (ba : Option Addr) (bn bc : Nat) (ga : Option Addr) (gn gc : Nat) (jr : ByteArray) (sv : Int) (i o : ByteArray) (n r : Bool) (b : Int) (va : Option Addr) (vn vc : Nat) (u : Bool) (S : List X7) (G V : List Int) (w : World) (H : Sm16 bn gn vn S G V) (O : OwR w B hi (.slice ba bn bc) (.slice ga gn gc) (.slice va vn vc) (mxl 1 S) (mki (kx 1 S) gn) (mki (kx 1 S + gn) vn)) :
    Calls Try.prog 10 #[svw y tm (.slice ba bn bc) (.slice ga gn gc) jr sv i o n r b (.slice va vn vc) u, .int .i64 1] w fun e w' => e = .returned (.int .i64 ((kx 1 S + gn + vn : Nat) : Int)) ∧ Below w.heap.size w w' := by
  obtain ⟨W0, hW0⟩ : ∃ W0, w.alloc (.cells #[.int .i64 y, .int .i64 tm, .slice ba bn bc, .slice ga gn gc, .string jr, .int .i64 sv, .string i, .string o, .bool n, .bool r, .int .i64 b, .slice va vn vc, .bool u] 31) = W0 := ⟨_, rfl⟩
  have b0 : Below w.heap.size w W0 := by subst hW0; exact bpush (bre _) _
  have a0 : Vx W0 w.heap.size 31 y tm (.slice ba bn bc) (.slice ga gn gc) jr sv i o n r b (.slice va vn vc) u := by subst hW0; exact Vx.new w _ _ _ _ _ _ _ _ _ _ _ _ _ _ 
  obtain ⟨m, h1, h2, h3, h4, h5⟩ := O.later b0
  have HK := hid (heldKept_any B m y tm ba bn bc ga gn gc jr sv S W0 h1 H.bl H.bs (sb_smx16 H.sb) H.gs H.fz)
  have HV := hid (fun (W : World) (k : Nat) (hk : k ≤ 8000000) (ho : OwI W m (.slice va vn vc) (mki k vn)) => heldSn_any m i o n r b va vn vc k W ho H.vs hk)
  have HB : Hid (kx 1 S + gn ≤ 8000000) := hid (by have := H.fz; have := H.gs; omega)
  have O2 := hid h2
  have A0 := hid a0
  have B0 := hid b0
  have c0 := a0.cells
  obtain ⟨q, hq⟩ : ∃ q : Nat, kx 1 S + gn = q := ⟨_, rfl⟩
  rw [hq] at HK HB O2 ⊢
  have e1 : ¬ ((q : Nat) : Int) < 0 := by omega
  have e2 : ¬ ((q + vn : Nat) : Int) < 0 := by omega
  clear a0 b0 O H h1 h2 h3 h4 h5 hq
  go_enter Try.func10, Try.ntmps10
  go_wp2_with fail
  clear hW0
  refine HK.out.mono ?_; rintro e w1 ⟨rfl, hb⟩
  have c0 := (A0.out.later hb).cells
  have B1 := hid (btr B0.out hb)
  have O3 := hid (own_later O2.out hb)
  clear hb HK
  go_wp2_with fail
  refine (HV.out _ _ HB.out O3.out).mono ?_; rintro e w2 ⟨rfl, hb⟩
  have B2 := hid (btr B1.out hb)
  clear hb c0
  go_wp2
  go_ret
  exact ⟨rfl, B2.out⟩
/-- What is left of any room, behind a session. -/
theorem szSnL_any (lf : Int) (h0 : 0 ≤ lf) (h1 : lf ≤ 1048576) (i o : ByteArray) (n v : Bool) (b : Int) (ga : Option Addr) (gn gc : Nat) (w : World) (hi : (i.size : Int) ≤ 9223372036854775807) (ho : (o.size : Int) ≤ 9223372036854775807) (hn : (gn : Int) ≤ 9223372036854775807) :
    Calls Try.prog 28 #[snv i o n v b (.slice ga gn gc), .int .i64 lf] w fun e w' => ∃ q, e = .returned (.int .i64 q) ∧ (¬ q < 0 → i.size ≤ 1048576 ∧ o.size ≤ 1048576 ∧ gn ≤ 1048576) ∧ Below w.heap.size w w' := by
  obtain ⟨W0, hW0⟩ : ∃ W0, w.alloc (.cells #[.string i, .string o, .bool n, .bool v, .int .i64 b, .slice ga gn gc] 41) = W0 := ⟨_, rfl⟩
  have b0 : Below w.heap.size w W0 := by subst hW0; exact bpush (bre _) _
  have x0 : Sn W0 w.heap.size 41 i o n v b (.slice ga gn gc) := by subst hW0; exact Sn.new w _ _ _ _ _ _ _
  have B0 := hid b0
  have c0 := x0.cells
  have HN := hid hn
  clear x0 b0 hn
  have hw : wrap64 (lf - (i.size : Int)) = lf - (i.size : Int) := by unfold wrap64; omega
  by_cases h2 : lf - (i.size : Int) < 0
  · clear h0 h1 hi ho HN
    go_enter Try.func28, Try.ntmps28
    go_wp2
    go_ret
    exact ⟨-1, rfl, fun h => absurd h (by decide), B0.out⟩
  have hw2 : wrap64 (lf - (i.size : Int) - (o.size : Int)) = lf - (i.size : Int) - (o.size : Int) := by unfold wrap64; omega
  by_cases h3 : lf - (i.size : Int) - (o.size : Int) < 0
  · clear h0 h1 hi ho HN
    go_enter Try.func28, Try.ntmps28
    go_wp2
    go_ret
    exact ⟨-1, rfl, fun h => absurd h (by decide), B0.out⟩
  have HC := hid (fun (W : World) => szIntS_any ga gn gc (lf - (i.size : Int) - (o.size : Int)) W HN.out (by omega))
  by_cases h4 : lf - (i.size : Int) - (o.size : Int) < (gn : Int)
  · rw [szr_over h4] at HC
    clear h0 h1 hi ho HN h4
    go_enter Try.func28, Try.ntmps28
    go_wp2_with fail
    clear hW0
    refine (HC.out _).mono ?_; rintro e w1 ⟨rfl, rfl⟩
    go_wp2
    go_ret
    exact ⟨-1, rfl, fun h => absurd h (by decide), B0.out⟩
  rw [szr_fits h4] at HC
  obtain ⟨q, hq⟩ : ∃ q, lf - (i.size : Int) - (o.size : Int) - (gn : Int) = q := ⟨_, rfl⟩
  have hq0 : ¬ q < 0 := by omega
  have HF : Hid (i.size ≤ 1048576 ∧ o.size ≤ 1048576 ∧ gn ≤ 1048576) := hid (by omega)
  rw [hq] at HC
  clear h0 h1 hi ho HN h4 hq
  go_enter Try.func28, Try.ntmps28
  go_wp2_with fail
  clear hW0
  refine (HC.out _).mono ?_; rintro e w1 ⟨rfl, rfl⟩
  go_wp2
  go_ret
  exact ⟨q, rfl, fun _ => HF.out, B0.out⟩
set_option maxHeartbeats 1600000 in
set_option maxRecDepth 100000 in
theorem szSv_any (lo hi : Nat) (y tm : Int) (ba : Option Addr) (bn bc : Nat) (ga : Option Addr) (gn gc : Nat) (jr : ByteArray) (sv : Int) (i o : ByteArray) (n r : Bool) (b : Int) (va : Option Addr) (vn vc : Nat) (u : Bool) (S : List X7) (w : World) (hl : S.length = bn) (hn : (bn : Int) ≤ 9223372036854775807) (hft : FitB S) (hm : Bs lo hi w ba S) (hgn : (gn : Int) ≤ 9223372036854775807) (hj : (jr.size : Int) ≤ 9223372036854775807) (hi1 : (i.size : Int) ≤ 9223372036854775807) (ho1 : (o.size : Int) ≤ 9223372036854775807) (hvn : (vn : Int) ≤ 9223372036854775807) :
    Calls Try.prog 11 #[svw y tm (.slice ba bn bc) (.slice ga gn gc) jr sv i o n r b (.slice va vn vc) u, .int .i64 1048576] w fun e w' => ∃ q, e = .returned (.int .i64 q) ∧ (¬ q < 0 → szB S + gn ≤ 1048576 ∧ jr.size ≤ 1048576 ∧ i.size ≤ 1048576 ∧ o.size ≤ 1048576 ∧ vn ≤ 1048576) ∧ Below w.heap.size w w' := by
  obtain ⟨W0, hW0⟩ : ∃ W0, w.alloc (.cells #[.int .i64 y, .int .i64 tm, .slice ba bn bc, .slice ga gn gc, .string jr, .int .i64 sv, .string i, .string o, .bool n, .bool r, .int .i64 b, .slice va vn vc, .bool u] 43) = W0 := ⟨_, rfl⟩
  have b0 : Below w.heap.size w W0 := by subst hW0; exact bpush (bre _) _
  have a0 : Vx W0 w.heap.size 43 y tm (.slice ba bn bc) (.slice ga gn gc) jr sv i o n r b (.slice va vn vc) u := by subst hW0; exact Vx.new w _ _ _ _ _ _ _ _ _ _ _ _ _ _ 
  have HK := hid (szKept_any lo hi y tm ba bn bc ga gn gc jr sv S W0 hl hn hft (hm.later b0) hgn hj)
  have HV := hid (fun (W : World) (lf : Int) (h0 : 0 ≤ lf) (h1 : lf ≤ 1048576) => szSnL_any lf h0 h1 i o n r b va vn vc W hi1 ho1 hvn)
  have A0 := hid a0
  have B0 := hid b0
  have c0 := a0.cells
  obtain ⟨z, hz⟩ : ∃ z : Nat, szB S + gn = z := ⟨_, rfl⟩
  obtain ⟨n2, hn2⟩ : ∃ n2 : Nat, jr.size = n2 := ⟨_, rfl⟩
  rw [hz, hn2] at HK
  rw [hz, hn2]
  clear a0 b0 hl hn hft hm hgn hj hi1 ho1 hvn hz hn2
  by_cases hs : z ≤ 1048576 ∧ z + n2 ≤ 1048576
  · obtain ⟨q, hq⟩ : ∃ q, kzr z n2 = q := ⟨_, rfl⟩
    have hq1 : ¬ q < 0 := by rw [← hq]; unfold kzr; rw [if_pos hs]; omega
    have HQ : Hid (0 ≤ q ∧ q ≤ 1048576) := hid (by rw [← hq]; unfold kzr; rw [if_pos hs]; omega)
    have HS := hid hs
    rw [hq] at HK
    clear hs hq
    go_enter Try.func11, Try.ntmps11
    go_wp2_with fail
    clear hW0
    refine HK.out.mono ?_; rintro e w1 ⟨rfl, hb⟩
    have c0 := (A0.out.later hb).cells
    have B1 := hid (btr B0.out hb)
    clear hb HK
    go_wp2_with fail
    refine (HV.out _ _ HQ.out.1 HQ.out.2).mono ?_; rintro e w2 ⟨q2, rfl, hz, hb⟩
    have B2 := hid (btr B1.out hb)
    have HZ := hid hz
    clear hb hz c0 hq1
    by_cases h2 : q2 < 0
    · go_wp2
      go_ret
      exact ⟨-1, rfl, fun h => absurd h (by decide), B2.out⟩
    · go_wp2
      go_ret
      have g := HZ.out h2
      have g2 := HS.out
      exact ⟨q2, rfl, fun _ => ⟨g2.1, by omega, g⟩, B2.out⟩
  · have hk : kzr z n2 = -1 := if_neg hs
    rw [hk] at HK
    clear hs hk HV
    go_enter Try.func11, Try.ntmps11
    go_wp2_with fail
    clear hW0
    refine HK.out.mono ?_; rintro e w1 ⟨rfl, hb⟩
    have B1 := hid (btr B0.out hb)
    clear hb c0
    go_wp2
    go_ret
    exact ⟨-1, rfl, fun h => absurd h (by decide), B1.out⟩

end Go.Proofs.Ytckenihadlmlaaa
