/- Mg. -/
import Derived.Test.YtlhofbnnonljaaaGreatDoorX4
namespace Go.Proofs.YtlhofbnnonljaaaGreatDoor
open Go.RowKit
/-- A mail as it is meant: Gid, Uid, flags, text. -/
abbrev M4 := Int × Int × List R3 × ByteArray
/-- A mail as it lies: Gid, Uid, the value of its flags, what they are, text. -/
abbrev Z5 := Int × Int × Value × List R3 × ByteArray
def md (z : Z5) : M4 := (z.1, z.2.1, z.2.2.2.1, z.2.2.2.2)
/-- The cells of mails. -/
def zc : List Z5 → List Value
  | [] => []
  | z :: Z => .int .i64 z.1 :: .int .i64 z.2.1 :: z.2.2.1 :: .string z.2.2.2.2 :: zc Z
theorem zc_app (Z Y : List Z5) : zc (Z ++ Y) = zc Z ++ zc Y := by
  induction Z with
  | nil => rfl
  | cons z Z ih => simp only [List.cons_append, zc, ih]
theorem zc_at (Z : List Z5) (i : Nat) (h : i < Z.length) :
    (zc Z)[i * 4]? = some (.int .i64 Z[i].1) ∧ (zc Z)[i * 4 + 1]? = some (.int .i64 Z[i].2.1) ∧ (zc Z)[i * 4 + 2]? = some Z[i].2.2.1 ∧ (zc Z)[i * 4 + 3]? = some (.string Z[i].2.2.2.2) := by
  induction Z generalizing i with
  | nil => simp at h
  | cons z Z ih =>
    cases i with
    | zero => exact ⟨rfl, rfl, rfl, rfl⟩
    | succ i =>
      have h' : i < Z.length := by simpa using h
      have := ih i h'
      have e : (i + 1) * 4 = i * 4 + 1 + 1 + 1 + 1 := by omega
      rw [e]
      simpa [zc] using this
/-- No block of the one is the other's. -/
def Dj (x y : Value) : Prop := ∀ j, x.ownBlock = some j → y.ownBlock ≠ some j
theorem Dj.symm {x y : Value} (h : Dj x y) : Dj y x := fun j hy hx => h j hx hy
theorem Dj.nil (y : Value) : Dj (.slice none 0 0) y := fun j h => by simp [Value.ownBlock] at h
/-- A row of mails that a call owns, with the rows of their flags: no two in one block. -/
structure OwZ (W : World) (B : Nat) (v : Value) (Z : List Z5) : Prop where
  row : W.ownsRow B 103 4 v Z.length (zc Z)
  each : ∀ z ∈ Z, Ow W B z.2.2.1 z.2.2.2.1
  off : ∀ z ∈ Z, Dj v z.2.2.1
  apart : Z.Pairwise fun x y => Dj x.2.2.1 y.2.2.1
theorem OwZ.kept {W W' : World} {B : Nat} {v : Value} {Z : List Z5} (h : OwZ W B v Z) (_hs : W.heap.size ≤ W'.heap.size) (hr : ∀ j, v.ownBlock = some j → W'.heap[j]? = W.heap[j]?) (he : ∀ z ∈ Z, ∀ j, z.2.2.1.ownBlock = some j → W'.heap[j]? = W.heap[j]?) : OwZ W' B v Z := by
  have key : ∀ {e size n : Nat} {x : Value} {xs : List Value}, W.ownsRow B e size x n xs → (∀ j, x.ownBlock = some j → W'.heap[j]? = W.heap[j]?) → W'.ownsRow B e size x n xs := by
    intro e size n x xs ho hk
    refine ⟨ho.1, ho.2.imp id ?_⟩
    rintro ⟨g, cap, cur, h1, h2, h3, h4⟩
    exact ⟨g, cap, cur, h1, h2, (hk g (by rw [h1]; rfl)).trans h3, h4⟩
  exact ⟨key h.row hr, fun z hz => key (h.each z hz) (he z hz), h.off, h.apart⟩
theorem OwZ.later {W W' : World} {B : Nat} {v : Value} {Z : List Z5} (h : OwZ W B v Z) (hb : Below W.heap.size W W') : OwZ W' B v Z :=
  h.kept hb.size (fun j hj => hb.block j (h.row.lt j hj).2) (fun z hz j hj => hb.block j ((h.each z hz).lt j hj).2)
theorem OwZ.base {W : World} {B B' : Nat} {v : Value} {Z : List Z5} (h : OwZ W B' v Z) (hB : B ≤ B') : OwZ W B v Z :=
  ⟨own_base h.row hB, fun z hz => own_base (h.each z hz) hB, h.off, h.apart⟩
/-- Cells of a block that stays. -/
theorem cell_same {W W' : World} {p : Addr} (h : W'.heap[p.block]? = W.heap[p.block]?) : W'.cell? p = W.cell? p := by
  unfold World.cell?
  rw [h]
/-- The slice of address a is the registers of l, in blocks from lo on, below hi. -/
def Rb (lo hi : Nat) (W : World) (a : Option Addr) (l : List R3) : Prop :=
  0 < l.length → ∃ k o, a = some ⟨k, o, none⟩ ∧ lo ≤ k ∧ k < hi ∧ Row W k o l
theorem Rb.rs {lo hi : Nat} {W : World} {a : Option Addr} {l : List R3} (h : Rb lo hi W a l) (hh : hi ≤ W.heap.size) : Rs W a l := by
  intro hn
  obtain ⟨k, o, h1, h2, h3, h4⟩ := h hn
  exact ⟨k, o, h1, by omega, h4⟩
theorem Rb.same {lo hi : Nat} {W W' : World} {a : Option Addr} {l : List R3} (h : Rb lo hi W a l) (hk : ∀ k, lo ≤ k → k < hi → W'.heap[k]? = W.heap[k]?) : Rb lo hi W' a l := by
  intro hn
  obtain ⟨k, o, h1, h2, h3, h4⟩ := h hn
  refine ⟨k, o, h1, h2, h3, fun i hi' => ?_⟩
  have e := h4 i hi'
  exact ⟨(cell_same (p := ⟨k, _, none⟩) (hk k h2 h3)).trans e.1, (cell_same (p := ⟨k, _, none⟩) (hk k h2 h3)).trans e.2.1, (cell_same (p := ⟨k, _, none⟩) (hk k h2 h3)).trans e.2.2⟩
theorem Rb.wide {lo hi lo' hi' : Nat} {W : World} {a : Option Addr} {l : List R3} (h : Rb lo hi W a l) (h1 : lo' ≤ lo) (h2 : hi ≤ hi') : Rb lo' hi' W a l := by
  intro hn
  obtain ⟨k, o, e1, e2, e3, e4⟩ := h hn
  exact ⟨k, o, e1, by omega, by omega, e4⟩
/-- The slice of address a is the mails of L, in blocks from lo on, below hi. -/
def Ms (lo hi : Nat) (W : World) (a : Option Addr) (L : List M4) : Prop :=
  hi ≤ W.heap.size ∧ ∀ i (h : i < L.length), ∃ k o fa fc, a = some ⟨k, o, none⟩ ∧ lo ≤ k ∧ k < hi ∧
    (W.cell? ⟨k, o + i * 4, none⟩ = some (.int .i64 L[i].1) ∧ W.cell? ⟨k, o + i * 4 + 1, none⟩ = some (.int .i64 L[i].2.1) ∧ W.cell? ⟨k, o + i * 4 + 2, none⟩ = some (.slice fa L[i].2.2.1.length fc) ∧ W.cell? ⟨k, o + i * 4 + 3, none⟩ = some (.string L[i].2.2.2)) ∧
    Rb lo hi W fa L[i].2.2.1 ∧ (fa = none → fc = 0)
theorem Ms.same {lo hi : Nat} {W W' : World} {a : Option Addr} {L : List M4} (h : Ms lo hi W a L) (hs : hi ≤ W'.heap.size) (hk : ∀ k, lo ≤ k → k < hi → W'.heap[k]? = W.heap[k]?) : Ms lo hi W' a L := by
  refine ⟨hs, fun i hi' => ?_⟩
  obtain ⟨k, o, fa, fc, h1, h2, h3, ⟨c0, c1, c2, c3⟩, h5, h6⟩ := h.2 i hi'
  have e := hk k h2 h3
  exact ⟨k, o, fa, fc, h1, h2, h3, ⟨(cell_same (p := ⟨k, _, none⟩) e).trans c0, (cell_same (p := ⟨k, _, none⟩) e).trans c1, (cell_same (p := ⟨k, _, none⟩) e).trans c2, (cell_same (p := ⟨k, _, none⟩) e).trans c3⟩, h5.same hk, h6⟩
theorem Ms.later {lo hi : Nat} {W W' : World} {a : Option Addr} {L : List M4} (h : Ms lo hi W a L) (hb : Below W.heap.size W W') : Ms lo hi W' a L :=
  h.same (Nat.le_trans h.1 hb.size) (fun k _ hk => hb.block k (Nat.lt_of_lt_of_le hk h.1))
theorem Ms.wide {lo hi lo' hi' : Nat} {W : World} {a : Option Addr} {L : List M4} (h : Ms lo hi W a L) (h1 : lo' ≤ lo) (h2 : hi ≤ hi') (h3 : hi' ≤ W.heap.size) : Ms lo' hi' W a L := by
  refine ⟨h3, fun i hi' => ?_⟩
  obtain ⟨k, o, fa, fc, e1, e2, e3, e4, e5, e6⟩ := h.2 i hi'
  exact ⟨k, o, fa, fc, e1, by omega, by omega, e4, e5.wide h1 h2, e6⟩
/-- What a reader of the i-th mail wants. -/
theorem Ms.at {lo hi : Nat} {W : World} {a : Option Addr} {L : List M4} (h : Ms lo hi W a L) {i : Nat} (hi' : i < L.length) : ∃ k o fa fc, a = some ⟨k, o, none⟩ ∧ k < W.heap.size ∧
    (W.cell? ⟨k, o + i * 4, none⟩ = some (.int .i64 L[i].1) ∧ W.cell? ⟨k, o + i * 4 + 1, none⟩ = some (.int .i64 L[i].2.1) ∧ W.cell? ⟨k, o + i * 4 + 2, none⟩ = some (.slice fa L[i].2.2.1.length fc) ∧ W.cell? ⟨k, o + i * 4 + 3, none⟩ = some (.string L[i].2.2.2)) ∧
    Rs W fa L[i].2.2.1 ∧ (fa = none → fc = 0) := by
  obtain ⟨k, o, fa, fc, e1, e2, e3, e4, e5, e6⟩ := h.2 i hi'
  exact ⟨k, o, fa, fc, e1, Nat.lt_of_lt_of_le e3 h.1, e4, e5.rs h.1, e6⟩
theorem Ow.rb {W : World} {B : Nat} {v : Value} {l : List R3} (h : Ow W B v l) : ∃ a c, v = .slice a l.length c ∧ Rb B W.heap.size W a l ∧ (a = none → c = 0) := by
  obtain ⟨a, c, rfl, hr⟩ := Ow.shape h
  refine ⟨a, c, rfl, fun hn => ?_, fun hn => ?_⟩
  · obtain ⟨k, o, rfl, h2, h3⟩ := hr hn
    exact ⟨k, o, rfl, (h.lt k rfl).1, h2, h3⟩
  · subst hn
    rcases h.2 with ⟨h1, _⟩ | ⟨g, cap, cur, h1, _⟩
    · simpa using congrArg (fun v => match v with | .slice _ _ c => c | _ => 0) h1
    · simp at h1
theorem OwZ.shape {W : World} {B : Nat} {v : Value} {Z : List Z5} (h : OwZ W B v Z) : ∃ a c, v = .slice a Z.length c := by
  rcases h.row.2 with ⟨h1, h2⟩ | ⟨g, cap, cur, h1, _⟩
  · exact ⟨none, 0, by rw [h1, h2]⟩
  · exact ⟨_, _, h1⟩
theorem OwZ.ms {W : World} {B n c : Nat} {a : Option Addr} {Z : List Z5} (h : OwZ W B (.slice a n c) Z) : n = Z.length ∧ Ms B W.heap.size W a (Z.map md) := by
  have hw := h.row
  rcases h.row.2 with ⟨h1, h2⟩ | ⟨g, cap, cur, h1, h2, h3, h4, h5, h6, h7⟩
  · simp only [Value.slice.injEq] at h1
    refine ⟨by omega, Nat.le_refl _, fun i hi => ?_⟩
    rw [List.length_map] at hi
    omega
  · simp only [Value.slice.injEq] at h1
    obtain ⟨rfl, rfl, rfl⟩ := h1
    refine ⟨rfl, Nat.le_refl _, fun i hi => ?_⟩
    rw [List.length_map] at hi
    have e := zc_at Z i hi
    obtain ⟨fa, fc, hf, hr, h0⟩ := Ow.rb (h.each Z[i] (List.getElem_mem hi))
    rw [hf] at e
    refine ⟨g, 0, fa, fc, rfl, h2, (Array.getElem?_eq_some_iff.1 h3).1, ?_, ?_, h0⟩
    · simp only [Nat.zero_add, List.getElem_map]
      exact ⟨(hw.cellAt _ (by omega)).trans e.1, (hw.cellAt _ (by omega)).trans e.2.1, (hw.cellAt _ (by omega)).trans e.2.2.1, (hw.cellAt _ (by omega)).trans e.2.2.2⟩
    · simpa [md] using hr
theorem info_ml : (Tryz.prog.info? 103).map (fun i => (i.zero, i.size, i.bytes)) = some (some (.agg #[.int .i64 0, .int .i64 0, .slice none 0 0, .string ⟨#[]⟩]), 4, 56) := by kernel_rfl
/-! Numbers. -/
/-- The slice of address a is the numbers of G, in blocks from lo on, below hi. -/
def Is (lo hi : Nat) (W : World) (a : Option Addr) (G : List Int) : Prop :=
  hi ≤ W.heap.size ∧ ∀ i (h : i < G.length), ∃ k o, a = some ⟨k, o, none⟩ ∧ lo ≤ k ∧ k < hi ∧ W.cell? ⟨k, o + i, none⟩ = some (.int .i64 G[i])
theorem Is.same {lo hi : Nat} {W W' : World} {a : Option Addr} {G : List Int} (h : Is lo hi W a G) (hs : hi ≤ W'.heap.size) (hk : ∀ k, lo ≤ k → k < hi → W'.heap[k]? = W.heap[k]?) : Is lo hi W' a G := by
  refine ⟨hs, fun i hi' => ?_⟩
  obtain ⟨k, o, h1, h2, h3, c⟩ := h.2 i hi'
  exact ⟨k, o, h1, h2, h3, (cell_same (p := ⟨k, _, none⟩) (hk k h2 h3)).trans c⟩
theorem Is.later {lo hi : Nat} {W W' : World} {a : Option Addr} {G : List Int} (h : Is lo hi W a G) (hb : Below W.heap.size W W') : Is lo hi W' a G :=
  h.same (Nat.le_trans h.1 hb.size) (fun k _ hk => hb.block k (Nat.lt_of_lt_of_le hk h.1))
theorem Is.at {lo hi : Nat} {W : World} {a : Option Addr} {G : List Int} (h : Is lo hi W a G) {i : Nat} (hi' : i < G.length) : ∃ k o, a = some ⟨k, o, none⟩ ∧ k < W.heap.size ∧ W.cell? ⟨k, o + i, none⟩ = some (.int .i64 G[i]) := by
  obtain ⟨k, o, e1, e2, e3, e4⟩ := h.2 i hi'
  exact ⟨k, o, e1, Nat.lt_of_lt_of_le e3 h.1, e4⟩
/-- A row of numbers that a call owns. -/
abbrev OwI (W : World) (B : Nat) (v : Value) (G : List Int) : Prop := W.ownsRow B 3 1 v G.length (G.map (Value.int .i64))
theorem OwI.is {W : World} {B n c : Nat} {a : Option Addr} {G : List Int} (h : OwI W B (.slice a n c) G) : n = G.length ∧ Is B W.heap.size W a G := by
  have hw := h
  rcases h.2 with ⟨h1, h2⟩ | ⟨g, cap, cur, h1, h2, h3, h4, h5, h6, h7⟩
  · simp only [Value.slice.injEq] at h1
    exact ⟨by omega, Nat.le_refl _, fun i hi => by omega⟩
  · simp only [Value.slice.injEq] at h1
    obtain ⟨rfl, rfl, rfl⟩ := h1
    refine ⟨rfl, Nat.le_refl _, fun i hi => ⟨g, 0, rfl, h2, (Array.getElem?_eq_some_iff.1 h3).1, ?_⟩⟩
    simp only [Nat.zero_add]
    rw [hw.cellAt i (by omega), List.getElem?_map, List.getElem?_eq_getElem hi]
    rfl
theorem OwI.shape {W : World} {B : Nat} {v : Value} {G : List Int} (h : OwI W B v G) : ∃ a c, v = .slice a G.length c ∧ (a = none → c = 0) := by
  rcases h.2 with ⟨h1, h2⟩ | ⟨g, cap, cur, h1, _⟩
  · exact ⟨none, 0, by rw [h1, h2], fun _ => rfl⟩
  · exact ⟨_, _, h1, fun h => by simp at h⟩
end Go.Proofs.YtlhofbnnonljaaaGreatDoor
namespace Go.Proofs.YtlhofbnnonljaaaGreatDoor
open Go.RowKit
def z0 : Z5 := (0, 0, .slice none 0 0, [], ⟨#[]⟩)
/-- No mail's flags or text is too long. -/
def Sm (L : List M4) : Prop := ∀ m ∈ L, m.2.2.1.length ≤ 1048576 ∧ m.2.2.2.size ≤ 1048576
/-! Sizes. -/
end Go.Proofs.YtlhofbnnonljaaaGreatDoor
namespace Go.Proofs.YtlhofbnnonljaaaGreatDoor
open Go.RowKit
/-- The four cells of a mail. -/
def C4 (W : World) (k o : Nat) (g u : Int) (f : Value) (t : ByteArray) : Prop := W.cell? ⟨k, o, none⟩ = some (.int .i64 g) ∧ W.cell? ⟨k, o + 1, none⟩ = some (.int .i64 u) ∧ W.cell? ⟨k, o + 2, none⟩ = some f ∧ W.cell? ⟨k, o + 3, none⟩ = some (.string t)
theorem C4.later {W W' : World} {k o : Nat} {g u : Int} {f : Value} {t : ByteArray} (h : C4 W k o g u f t) (hk : k < W.heap.size) (hb : Below W.heap.size W W') : C4 W' k o g u f t :=
  ⟨(hb.cell (p := ⟨k, _, none⟩) hk).trans h.1, (hb.cell (p := ⟨k, _, none⟩) hk).trans h.2.1, (hb.cell (p := ⟨k, _, none⟩) hk).trans h.2.2.1, (hb.cell (p := ⟨k, _, none⟩) hk).trans h.2.2.2⟩
end Go.Proofs.YtlhofbnnonljaaaGreatDoor
namespace Go.Proofs.YtlhofbnnonljaaaGreatDoor
open Go.RowKit
/-- Block k holds a box. -/
def Bx (W : World) (k ty : Nat) (g : Int) (nm : ByteArray) (t b nx : Int) (ms gs : Value) : Prop := W.heap[k]? = some (.cells #[.int .i64 g, .string nm, .int .i64 t, .int .i64 b, .int .i64 nx, ms, gs] ty (0, 0))
theorem Bx.new (w : World) (ty : Nat) (g : Int) (nm : ByteArray) (t b nx : Int) (ms gs : Value) : Bx (w.alloc (.cells #[.int .i64 g, .string nm, .int .i64 t, .int .i64 b, .int .i64 nx, ms, gs] ty)) w.heap.size ty g nm t b nx ms gs := heap_alloc_new w _
section
variable {W W' : World} {k ty : Nat} {g : Int} {nm : ByteArray} {t b nx : Int} {ms gs : Value}
theorem Bx.later (h : Bx W k ty g nm t b nx ms gs) (hb : Below W.heap.size W W') : Bx W' k ty g nm t b nx ms gs := (hb.block k (Array.getElem?_eq_some_iff.1 h).1).trans h
theorem Bx.lt (h : Bx W k ty g nm t b nx ms gs) : k < W.heap.size := (Array.getElem?_eq_some_iff.1 h).1
theorem Bx.cells (h : Bx W k ty g nm t b nx ms gs) : W.cell? ⟨k, 0, none⟩ = some (.int .i64 g) ∧ W.cell? ⟨k, 1, none⟩ = some (.string nm) ∧ W.cell? ⟨k, 2, none⟩ = some (.int .i64 t) ∧ W.cell? ⟨k, 3, none⟩ = some (.int .i64 b) ∧ W.cell? ⟨k, 4, none⟩ = some (.int .i64 nx) ∧ W.cell? ⟨k, 5, none⟩ = some ms ∧ W.cell? ⟨k, 6, none⟩ = some gs :=
  ⟨cell_of_row W k 0 _ _ _ h, cell_of_row W k 1 _ _ _ h, cell_of_row W k 2 _ _ _ h, cell_of_row W k 3 _ _ _ h, cell_of_row W k 4 _ _ _ h, cell_of_row W k 5 _ _ _ h, cell_of_row W k 6 _ _ _ h⟩
theorem Bx.loose (h : Bx W k ty g nm t b nx ms gs) : W.frozen? ⟨k, 0, none⟩ = false ∧ W.frozen? ⟨k, 1, none⟩ = false ∧ W.frozen? ⟨k, 2, none⟩ = false ∧ W.frozen? ⟨k, 3, none⟩ = false ∧ W.frozen? ⟨k, 4, none⟩ = false ∧ W.frozen? ⟨k, 5, none⟩ = false ∧ W.frozen? ⟨k, 6, none⟩ = false :=
  ⟨frozen_of_row W k 0 _ _ h, frozen_of_row W k 1 _ _ h, frozen_of_row W k 2 _ _ h, frozen_of_row W k 3 _ _ h, frozen_of_row W k 4 _ _ h, frozen_of_row W k 5 _ _ h, frozen_of_row W k 6 _ _ h⟩
theorem Bx.s0 (h : Bx W k ty g nm t b nx ms gs) (x : Int) : Bx (W.setCell ⟨k, 0, none⟩ (.int .i64 x)) k ty x nm t b nx ms gs := heap_setCell_same W k 0 _ _ (.int .i64 x) h
theorem Bx.s1 (h : Bx W k ty g nm t b nx ms gs) (x : ByteArray) : Bx (W.setCell ⟨k, 1, none⟩ (.string x)) k ty g x t b nx ms gs := heap_setCell_same W k 1 _ _ (.string x) h
theorem Bx.s2 (h : Bx W k ty g nm t b nx ms gs) (x : Int) : Bx (W.setCell ⟨k, 2, none⟩ (.int .i64 x)) k ty g nm x b nx ms gs := heap_setCell_same W k 2 _ _ (.int .i64 x) h
theorem Bx.s3 (h : Bx W k ty g nm t b nx ms gs) (x : Int) : Bx (W.setCell ⟨k, 3, none⟩ (.int .i64 x)) k ty g nm t x nx ms gs := heap_setCell_same W k 3 _ _ (.int .i64 x) h
theorem Bx.s4 (h : Bx W k ty g nm t b nx ms gs) (x : Int) : Bx (W.setCell ⟨k, 4, none⟩ (.int .i64 x)) k ty g nm t b x ms gs := heap_setCell_same W k 4 _ _ (.int .i64 x) h
theorem Bx.s5 (h : Bx W k ty g nm t b nx ms gs) (x : Value) : Bx (W.setCell ⟨k, 5, none⟩ x) k ty g nm t b nx x gs := heap_setCell_same W k 5 _ _ x h
theorem Bx.s6 (h : Bx W k ty g nm t b nx ms gs) (x : Value) : Bx (W.setCell ⟨k, 6, none⟩ x) k ty g nm t b nx ms x := heap_setCell_same W k 6 _ _ x h
theorem Bx.grown {r : Option Nat} (h : Bx W k ty g nm t b nx ms gs) (hg : W.grownBy W' r) (hk : some k ≠ r) : Bx W' k ty g nm t b nx ms gs := (hg.block k h.lt hk).trans h
end
/-- Seven stores into one block. -/
def set7 (W : World) (k : Nat) (g : Int) (nm : ByteArray) (t b nx : Int) (ms gs : Value) : World :=
  ((((((W.setCell ⟨k, 0, none⟩ (.int .i64 g)).setCell ⟨k, 1, none⟩ (.string nm)).setCell ⟨k, 2, none⟩ (.int .i64 t)).setCell ⟨k, 3, none⟩ (.int .i64 b)).setCell ⟨k, 4, none⟩ (.int .i64 nx)).setCell ⟨k, 5, none⟩ ms).setCell ⟨k, 6, none⟩ gs
theorem set7_grown (W : World) (k : Nat) (g : Int) (nm : ByteArray) (t b nx : Int) (ms gs : Value) : W.grownBy (set7 W k g nm t b nx ms gs) (some k) := wst (wst (wst (wst (wst (wst (wst (wre _ _) _ _) _ _) _ _) _ _) _ _) _ _) _ _
theorem Bx.set7 {W : World} {k ty : Nat} {g : Int} {nm : ByteArray} {t b nx : Int} {ms gs : Value} (h : Bx W k ty g nm t b nx ms gs) (g' : Int) (nm' : ByteArray) (t' b' nx' : Int) (ms' gs' : Value) : Bx (set7 W k g' nm' t' b' nx' ms' gs') k ty g' nm' t' b' nx' ms' gs' :=
  ((((((h.s0 g').s1 nm').s2 t').s3 b').s4 nx').s5 ms').s6 gs'
theorem OwZ.grown {W W' : World} {B k : Nat} {v : Value} {Z : List Z5} (h : OwZ W B v Z) (hg : W.grownBy W' (some k)) (hk : k < B) : OwZ W' B v Z :=
  h.kept hg.size (fun j hj => hg.block j (h.row.lt j hj).2 (fun e => by have := (h.row.lt j hj).1; simp at e; omega)) (fun z hz j hj => hg.block j ((h.each z hz).lt j hj).2 (fun e => by have := ((h.each z hz).lt j hj).1; simp at e; omega))
theorem OwI.grown {W W' : World} {B k : Nat} {v : Value} {G : List Int} (h : OwI W B v G) (hg : W.grownBy W' (some k)) (hk : k < B) : OwI W' B v G :=
  World.ownsRow.kept h hg (by
    cases hv : v.ownBlock with
    | none => exact Or.inl rfl
    | some j => exact Or.inr (fun e => by have := (h.lt j hv).1; simp at e; omega))
/-- The lists of a box that a call owns: no two rows in one block. -/
def OwB (W : World) (B : Nat) (mv gv : Value) (L : List M4) (G : List Int) : Prop :=
  ∃ Z, Z.map md = L ∧ OwZ W B mv Z ∧ OwI W B gv G ∧ Dj gv mv ∧ ∀ z ∈ Z, Dj gv z.2.2.1
theorem OwB.later {W W' : World} {B : Nat} {mv gv : Value} {L : List M4} {G : List Int} (h : OwB W B mv gv L G) (hb : Below W.heap.size W W') : OwB W' B mv gv L G := by
  obtain ⟨Z, h1, h2, h3, h4⟩ := h
  exact ⟨Z, h1, h2.later hb, own_later h3 hb, h4⟩
theorem OwB.base {W : World} {B B' : Nat} {mv gv : Value} {L : List M4} {G : List Int} (h : OwB W B' mv gv L G) (hB : B ≤ B') : OwB W B mv gv L G := by
  obtain ⟨Z, h1, h2, h3, h4⟩ := h
  exact ⟨Z, h1, h2.base hB, own_base h3 hB, h4⟩
theorem OwB.reads {W : World} {B n c n' c' : Nat} {a a' : Option Addr} {L : List M4} {G : List Int} (h : OwB W B (.slice a n c) (.slice a' n' c') L G) : n = L.length ∧ n' = G.length ∧ Ms B W.heap.size W a L ∧ Is B W.heap.size W a' G := by
  obtain ⟨Z, rfl, h2, h3, _⟩ := h
  exact ⟨by rw [List.length_map]; exact h2.ms.1, (OwI.is h3).1, h2.ms.2, (OwI.is h3).2⟩
/-- Rows of which the later one is made when the former is there. -/
theorem Dj.later {W : World} {B B' e e' size size' n n' : Nat} {v v' : Value} {xs xs' : List Value} {W' : World} (h : W.ownsRow B e size v n xs) (h' : W'.ownsRow B' e' size' v' n' xs') (hB : W.heap.size ≤ B') : Dj v' v :=
  fun j hj hj' => by have h1 := (h.lt j hj').2; have h2 := (h'.lt j hj).1; omega
end Go.Proofs.YtlhofbnnonljaaaGreatDoor
namespace Go.Proofs.YtlhofbnnonljaaaGreatDoor
open Go.RowKit
end Go.Proofs.YtlhofbnnonljaaaGreatDoor
namespace Go.Proofs.YtlhofbnnonljaaaGreatDoor
open Go.RowKit
/-! Ascending numbers. -/
def asc (a : Int) : List Int → Bool
  | [] => true
  | x :: l => (decide (a < x) && gok x) && asc x l
def lst (a : Int) : List Int → Int
  | [] => a
  | x :: l => lst x l
theorem asc_app (a : Int) (l m : List Int) : asc a (l ++ m) = (asc a l && asc (lst a l) m) := by
  induction l generalizing a with
  | nil => simp [asc, lst]
  | cons x l ih => simp only [List.cons_append, asc, lst, ih, Bool.and_assoc]
theorem asc_take {G : List Int} {i : Nat} (h : i < G.length) : asc 0 (G.take (i + 1)) = (asc 0 (G.take i) && (decide (lst 0 (G.take i) < G[i]) && gok G[i])) := by
  rw [List.take_succ_eq_append_getElem h, asc_app]; simp [asc]
theorem lst_take {G : List Int} {i : Nat} (h : i < G.length) : lst 0 (G.take (i + 1)) = G[i] := by
  rw [List.take_succ_eq_append_getElem h]
  generalize G.take i = l
  generalize (0 : Int) = a
  induction l generalizing a with
  | nil => rfl
  | cons x l ih => exact ih x
theorem asc_bad {G : List Int} {i : Nat} (h : i < G.length) (hb : (decide (lst 0 (G.take i) < G[i]) && gok G[i]) = false) : asc 0 G = false := by
  have e : asc 0 G = asc 0 (G.take (i + 1) ++ G.drop (i + 1)) := by rw [List.take_append_drop]
  rw [e, asc_app, asc_take h, hb, Bool.and_false, Bool.false_and]
def gnOk (G : List Int) : Bool := asc 0 G && decide ((G.length : Int) ≤ 40)
theorem gnOk_bad {G : List Int} (h : asc 0 G = false) : gnOk G = false := by rw [gnOk, h]; rfl
theorem gnOk_fin {G : List Int} (h : asc 0 G = true) : gnOk G = decide ((G.length : Int) ≤ 40) := by rw [gnOk, h]; rfl
theorem gok_pos {x : Int} (h : gok x = true) : 0 < x := by simp [gok] at h; omega
set_option maxHeartbeats 800000 in
set_option maxRecDepth 100000 in
theorem goneOk_any (lo hi : Nat) (ao : Option Addr) (n cap : Nat) (G : List Int) (w : World) (hl : G.length = n) (hn : n ≤ 1048576) (hr : Is lo hi w ao G) :
    Calls Tryz.prog 144 #[.slice ao n cap, .int .i64 40] w fun e w' => e = .returned (.bool (gnOk G)) ∧ w' = w := by
  have HR := hid hr
  have HL := hid hl
  clear hr hl
  go_enter Tryz.func144, Tryz.ntmps144
  go_wp2
  go_loopw [5, 10] (fun lv iv wr => ∃ (i : Nat) (q : Int), i ≤ n ∧ lv = .int .i64 q ∧ iv = .int .i64 (i : Int) ∧ Hid (q = lst 0 (G.take i)) ∧ Hid (asc 0 (G.take i) = true) ∧ wr = w) (fun _ iv _ => n - (intOf iv).toNat)
  case atStart => exact ⟨0, 0, Nat.zero_le _, rfl, rfl, rfl, rfl, rfl⟩
  case round =>
    obtain ⟨i, q, hi, rfl, rfl, HQ, HA, hw⟩ := hrel
    subst hw
    by_cases hlt : i < n
    · have hil : i < G.length := by rw [HL.out]; exact hlt
      obtain ⟨k, o, rfl, hk, c⟩ := HR.out.at hil
      have hst := asc_take hil
      have hls := lst_take hil
      have hbad := asc_bad hil
      obtain ⟨x, hx⟩ : ∃ x, G[i] = x := ⟨_, rfl⟩
      rw [hx] at c hst hls hbad
      rw [← HQ.out] at hst hbad
      obtain ⟨p, hp, cp⟩ := gid_l x
      rw [← hp.out] at hst hbad
      have HST := hid hst
      have HLS := hid hls
      have HBD := hid hbad
      have hI : (0 : Int) ≤ (i : Int) ∧ (i : Int) < (n : Int) := by omega
      clear hst hls hbad hx
      by_cases hle : q < x
      · go_wp2_with fail
        refine (cp.out _).mono ?_; rintro e w1 ⟨rfl, h1⟩
        subst h1
        cases p
        · have HE : Hid (gnOk G = false) := gnOk_bad (HBD.out (by simp))
          go_wp2
          go_ret
          exact ⟨by rw [HE.out]; rfl, rfl⟩
        · have HE : Hid (asc 0 (G.take (i + 1)) = true) := by show _ = _; rw [HST.out, HA.out]; simp [hle]
          go_wp2
          go_roundw
          case rel => exact ⟨i + 1, x, by omega, rfl, by go_num, HLS.out.symm, HE, by first | rfl | trivial⟩
          case measure => simp [intOf]; omega
      · have HE : Hid (gnOk G = false) := gnOk_bad (HBD.out (by simp [hle]))
        go_wp2
        go_ret
        exact ⟨by rw [HE.out]; rfl, rfl⟩
    · have HE : Hid (gnOk G = decide ((n : Int) ≤ 40)) := by
        show _ = _
        have := HA.out
        rw [List.take_of_length_le (by rw [HL.out]; omega)] at this
        rw [gnOk_fin this, HL.out]
      go_wp2
      go_ret
      exact ⟨by rw [HE.out]; rfl, rfl⟩
/-! Among them. -/
def idx (x : Int) : List Int → Nat → Int
  | [], _ => -1
  | y :: l, i => if y = x then (i : Int) else idx x l (i + 1)
def inl (x : Int) : List Int → Bool
  | [] => false
  | y :: l => decide (y = x) || inl x l
theorem idx_inl (x : Int) (l : List Int) (i : Nat) : decide (0 ≤ idx x l i) = inl x l := by
  induction l generalizing i with
  | nil => simp [idx, inl]
  | cons y l ih =>
    by_cases h : y = x
    · simp only [idx, inl, h, if_true, decide_true, Bool.true_or]
      simp
    · simp only [idx, inl, h, if_false, decide_false, Bool.false_or]
      exact ih _
theorem idx_here {x : Int} {G : List Int} {i : Nat} (h : i < G.length) (e : G[i] = x) : idx x (G.drop i) i = i := by
  rw [List.drop_eq_getElem_cons h, idx, if_pos e]
theorem idx_on {x : Int} {G : List Int} {i : Nat} (h : i < G.length) (e : ¬ G[i] = x) : idx x (G.drop i) i = idx x (G.drop (i + 1)) (i + 1) := by
  rw [List.drop_eq_getElem_cons h, idx, if_neg e]
set_option maxHeartbeats 800000 in
set_option maxRecDepth 100000 in
theorem index_any (lo hi : Nat) (ao : Option Addr) (n cap : Nat) (G : List Int) (x : Int) (w : World) (hl : G.length = n) (hn : n ≤ 1048576) (hr : Is lo hi w ao G) :
    Calls Tryz.prog 160 #[.slice ao n cap, .int .i64 x] w fun e w' => e = .returned (.int .i64 (idx x G 0)) ∧ w' = w := by
  have HR := hid hr
  have HL := hid hl
  clear hr hl
  go_enter Tryz.func160, Tryz.ntmps160
  go_wp2
  go_loopw [8] (fun iv wr => ∃ (i : Nat), i ≤ n ∧ iv = .int .i64 (i : Int) ∧ Hid (idx x G 0 = idx x (G.drop i) i) ∧ wr = w) (fun iv _ => n - (intOf iv).toNat)
  case atStart => exact ⟨0, Nat.zero_le _, rfl, rfl, rfl⟩
  case round =>
    obtain ⟨i, hi, rfl, HQ, hw⟩ := hrel
    subst hw
    by_cases hlt : i < n
    · have hil : i < G.length := by rw [HL.out]; exact hlt
      obtain ⟨k, o, rfl, hk, c⟩ := HR.out.at hil
      obtain ⟨y, hy⟩ : ∃ y, G[i] = y := ⟨_, rfl⟩
      rw [hy] at c
      have hI : (0 : Int) ≤ (i : Int) ∧ (i : Int) < (n : Int) := by omega
      by_cases hxy : x = y
      · have HE : Hid (idx x G 0 = i) := by show _ = _; rw [HQ.out, idx_here hil (by rw [hy, hxy])]
        subst hxy
        clear hy
        go_wp2
        go_ret
        exact ⟨by rw [HE.out]; rfl, rfl⟩
      · have HE : Hid (idx x G 0 = idx x (G.drop (i + 1)) (i + 1)) := by show _ = _; rw [HQ.out, idx_on hil (by rw [hy]; exact fun e => hxy e.symm)]
        have hxy' : (x == y) = false := by simp [hxy]
        clear hy
        go_wp2
        go_roundw
        case rel => exact ⟨i + 1, by omega, by go_num, HE, by first | rfl | trivial⟩
        case measure => simp [intOf]; omega
    · have HE : Hid (idx x G 0 = -1) := by show _ = _; rw [HQ.out, List.drop_of_length_le (by rw [HL.out]; omega)]; rfl
      go_wp2
      go_ret
      exact ⟨by rw [HE.out]; rfl, rfl⟩
theorem contains_any (lo hi : Nat) (ao : Option Addr) (n cap : Nat) (G : List Int) (x : Int) (w : World) (hl : G.length = n) (hn : n ≤ 1048576) (hr : Is lo hi w ao G) :
    Calls Tryz.prog 119 #[.slice ao n cap, .int .i64 x] w fun e w' => e = .returned (.bool (inl x G)) ∧ w' = w := by
  have HI := hid (idx_inl x G 0)
  have HC := hid (index_any lo hi ao n cap G x w hl hn hr)
  obtain ⟨q, hq⟩ : ∃ q, idx x G 0 = q := ⟨_, rfl⟩
  rw [hq] at HI HC
  clear hq
  go_enter Tryz.func119, Tryz.ntmps119
  go_wp2_with fail
  refine HC.out.mono ?_; rintro e w1 ⟨rfl, h1⟩
  subst h1
  go_wp2
  go_ret
  exact ⟨by rw [← HI.out]; rfl, rfl⟩
set_option maxHeartbeats 800000 in
set_option maxRecDepth 100000 in
theorem l06In_any (lo hi : Nat) (ao : Option Addr) (n cap : Nat) (G : List Int) (x : Int) (w : World) (hl : G.length = n) (hn : n ≤ 1048576) (hr : Is lo hi w ao G) :
    Calls Tryz.prog 113 #[.slice ao n cap, .int .i64 x] w fun e w' => e = .returned (.bool (inl x G)) ∧ w' = w := by
  have HR := hid hr
  have HL := hid hl
  have HI := hid (idx_inl x G 0)
  clear hr hl
  go_enter Tryz.func113, Tryz.ntmps113
  go_wp2
  go_loopw [5] (fun iv wr => ∃ (i : Nat), i ≤ n ∧ iv = .int .i64 (i : Int) ∧ Hid (idx x G 0 = idx x (G.drop i) i) ∧ wr = w) (fun iv _ => n - (intOf iv).toNat)
  case atStart => exact ⟨0, Nat.zero_le _, rfl, rfl, rfl⟩
  case round =>
    obtain ⟨i, hi, rfl, HQ, hw⟩ := hrel
    subst hw
    by_cases hlt : i < n
    · have hil : i < G.length := by rw [HL.out]; exact hlt
      obtain ⟨k, o, rfl, hk, c⟩ := HR.out.at hil
      obtain ⟨y, hy⟩ : ∃ y, G[i] = y := ⟨_, rfl⟩
      rw [hy] at c
      have hI : (0 : Int) ≤ (i : Int) ∧ (i : Int) < (n : Int) := by omega
      by_cases hxy : y = x
      · have HE : Hid (inl x G = true) := by show _ = _; rw [← HI.out, HQ.out, idx_here hil (by rw [hy, hxy])]; simp
        subst hxy
        clear hy
        go_wp2
        go_ret
        exact ⟨by rw [HE.out]; rfl, rfl⟩
      · have HE : Hid (idx x G 0 = idx x (G.drop (i + 1)) (i + 1)) := by show _ = _; rw [HQ.out, idx_on hil (by rw [hy]; exact hxy)]
        have hxy' : (y == x) = false := by simp [hxy]
        clear hy
        go_wp2
        go_roundw
        case rel => exact ⟨i + 1, by omega, by go_num, HE, by first | rfl | trivial⟩
        case measure => simp [intOf]; omega
    · have HE : Hid (inl x G = false) := by show _ = _; rw [← HI.out, HQ.out, List.drop_of_length_le (by rw [HL.out]; omega)]; rfl
      go_wp2
      go_ret
      exact ⟨by rw [HE.out]; rfl, rfl⟩
/-! Where a mail is. -/
def mat (g : Int) : List M4 → Nat → Int
  | [], _ => -1
  | m :: L, i => if m.1 = g then (i : Int) else mat g L (i + 1)
theorem mat_here {g : Int} {L : List M4} {i : Nat} (h : i < L.length) (e : L[i].1 = g) : mat g (L.drop i) i = i := by
  rw [List.drop_eq_getElem_cons h, mat, if_pos e]
theorem mat_on {g : Int} {L : List M4} {i : Nat} (h : i < L.length) (e : ¬ L[i].1 = g) : mat g (L.drop i) i = mat g (L.drop (i + 1)) (i + 1) := by
  rw [List.drop_eq_getElem_cons h, mat, if_neg e]
set_option maxHeartbeats 800000 in
set_option maxRecDepth 100000 in
theorem specMailAt_any (lo hi : Nat) (g : Int) (nm : ByteArray) (t b nx : Int) (ma : Option Addr) (mn mc : Nat) (gv : Value) (L : List M4) (x : Int) (w : World) (hl : L.length = mn) (hn : mn ≤ 1048576) (hm : Ms lo hi w ma L) :
    Calls Tryz.prog 114 #[.agg #[.int .i64 g, .string nm, .int .i64 t, .int .i64 b, .int .i64 nx, .slice ma mn mc, gv], .int .i64 x] w fun e w' => e = .returned (.int .i64 (mat x L 0)) ∧ Below w.heap.size w w' := by
  obtain ⟨W0, hW0⟩ : ∃ W0, w.alloc (.cells #[.int .i64 g, .string nm, .int .i64 t, .int .i64 b, .int .i64 nx, .slice ma mn mc, gv] 77) = W0 := ⟨_, rfl⟩
  have a0 : Bx W0 w.heap.size 77 g nm t b nx (.slice ma mn mc) gv := by subst hW0; exact Bx.new w _ g nm t b nx _ _
  have b0 : Below w.heap.size w W0 := by subst hW0; exact bpush (bre _) _
  have c0 := a0.cells
  have HR := hid (hm.later b0)
  have B0 := hid b0
  have HL := hid hl
  clear a0 b0 hm hl
  go_enter Tryz.func114, Tryz.ntmps114
  go_wp2
  clear hW0
  go_loopw [5] (fun iv wr => ∃ (i : Nat), i ≤ mn ∧ iv = .int .i64 (i : Int) ∧ Hid (mat x L 0 = mat x (L.drop i) i) ∧ wr = W0) (fun iv _ => mn - (intOf iv).toNat)
  case atStart => exact ⟨0, Nat.zero_le _, rfl, rfl, rfl⟩
  case round =>
    obtain ⟨i, hi, rfl, HQ, hw⟩ := hrel
    subst hw
    by_cases hlt : i < mn
    · have hil : i < L.length := by rw [HL.out]; exact hlt
      obtain ⟨k, o, fa, fc, rfl, hk, ⟨c, _, _, _⟩, _⟩ := HR.out.at hil
      obtain ⟨y, hy⟩ : ∃ y, L[i].1 = y := ⟨_, rfl⟩
      rw [hy] at c
      have hI : (0 : Int) ≤ (i : Int) ∧ (i : Int) < (mn : Int) := by omega
      by_cases hxy : y = x
      · have HE : Hid (mat x L 0 = i) := by show _ = _; rw [HQ.out, mat_here hil (by rw [hy, hxy])]
        subst hxy
        clear hy
        go_wp2
        go_ret
        exact ⟨by rw [HE.out]; rfl, B0.out⟩
      · have HE : Hid (mat x L 0 = mat x (L.drop (i + 1)) (i + 1)) := by show _ = _; rw [HQ.out, mat_on hil (by rw [hy]; exact hxy)]
        have hxy' : (y == x) = false := by simp [hxy]
        clear hy
        go_wp2
        go_roundw
        case rel => exact ⟨i + 1, by omega, by go_num, HE, by first | rfl | trivial⟩
        case measure => simp [intOf]; omega
    · have HE : Hid (mat x L 0 = -1) := by show _ = _; rw [HQ.out, List.drop_of_length_le (by rw [HL.out]; omega)]; rfl
      go_wp2
      go_ret
      exact ⟨by rw [HE.out]; rfl, B0.out⟩
end Go.Proofs.YtlhofbnnonljaaaGreatDoor
namespace Go.Proofs.YtlhofbnnonljaaaGreatDoor
open Go.RowKit
end Go.Proofs.YtlhofbnnonljaaaGreatDoor
