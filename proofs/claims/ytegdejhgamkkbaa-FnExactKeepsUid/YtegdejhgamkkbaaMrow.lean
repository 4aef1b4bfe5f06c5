/- Lists of mails as they lie: four cells each, the flags in rows of their own. Lists of numbers. -/
import Derived.Test.YtegdejhgamkkbaaName
namespace Go.Proofs.Ytegdejhgamkkbaa
open Go.RowKit

/-- A mail as it is meant: Gid, Uid, flags, text. -/
abbrev M4 := Int × Int × List R3 × ByteArray
/-- A mail as it lies: Gid, Uid, the value of its flags, what they are, text. -/
abbrev Z5 := Int × Int × Value × List R3 × ByteArray
def md (z : Z5) : M4 := (z.1, z.2.1, z.2.2.2.1, z.2.2.2.2)

/-- The cells of mails. -/
def zc : List Z5 → List Value
  | [] => []
  | z :: Z => .int .i64 z.1 :: .int .i64 z.2.1 :: z.2.2.1 :: .string z.2.2.2.2 :: zc Z

theorem zc_len (Z : List Z5) : (zc Z).length = Z.length * 4 := by
  induction Z with
  | nil => rfl
  | cons z Z ih => simp only [zc, List.length_cons, ih]; omega
theorem zc_app (Z Y : List Z5) : zc (Z ++ Y) = zc Z ++ zc Y := by
  induction Z with
  | nil => rfl
  | cons z Z ih => simp only [List.cons_append, zc, ih]
theorem zc_at (Z : List Z5) (i : Nat) (h : i < Z.length) :
    (zc Z)[i * 4]? = some (.int .i64 Z[i].1) ∧ (zc Z)[i * 4 + 1]? = some (.int .i64 Z[i].2.1) ∧ (zc Z)[i * 4 + 2]? = some Z[i].2.2.1 ∧ (zc Z)[i * 4 + 3]? = some (.string Z[i].2.2.2.2) := by
  induction Z generalizing i with
  | nil => simp at h
  | cons z Z ih =>
    cases i with
    | zero => exact ⟨rfl, rfl, rfl, rfl⟩
    | succ i =>
      have h' : i < Z.length := by simpa using h
      have := ih i h'
      have e : (i + 1) * 4 = i * 4 + 1 + 1 + 1 + 1 := by omega
      rw [e]
      simpa [zc] using this
theorem zc_set (Z : List Z5) (i : Nat) (z : Z5) (h : i < Z.length) :
    ((((zc Z).set (i * 4) (.int .i64 z.1)).set (i * 4 + 1) (.int .i64 z.2.1)).set (i * 4 + 2) z.2.2.1).set (i * 4 + 3) (.string z.2.2.2.2) = zc (Z.set i z) := by
  induction Z generalizing i with
  | nil => simp at h
  | cons y Z ih =>
    cases i with
    | zero => rfl
    | succ i =>
      have h' : i < Z.length := by simpa using h
      have := ih i h'
      have e : (i + 1) * 4 = i * 4 + 1 + 1 + 1 + 1 := by omega
      rw [e]
      simpa [zc] using this

/-- No block of the one is the other's. -/
def Dj (x y : Value) : Prop := ∀ j, x.ownBlock = some j → y.ownBlock ≠ some j
theorem Dj.symm {x y : Value} (h : Dj x y) : Dj y x := fun j hy hx => h j hx hy
theorem Dj.nil (y : Value) : Dj (.slice none 0 0) y := fun j h => by simp [Value.ownBlock] at h

/-- A row of mails that a call owns, with the rows of their flags: no two in one block. -/
structure OwZ (W : World) (B : Nat) (v : Value) (Z : List Z5) : Prop where
  row : W.ownsRow B 57 4 v Z.length (zc Z)
  each : ∀ z ∈ Z, Ow W B z.2.2.1 z.2.2.2.1
  off : ∀ z ∈ Z, Dj v z.2.2.1
  apart : Z.Pairwise fun x y => Dj x.2.2.1 y.2.2.1

theorem OwZ.kept {W W' : World} {B : Nat} {v : Value} {Z : List Z5} (h : OwZ W B v Z) (_hs : W.heap.size ≤ W'.heap.size) (hr : ∀ j, v.ownBlock = some j → W'.heap[j]? = W.heap[j]?) (he : ∀ z ∈ Z, ∀ j, z.2.2.1.ownBlock = some j → W'.heap[j]? = W.heap[j]?) : OwZ W' B v Z := by
  have key : ∀ {e size n : Nat} {x : Value} {xs : List Value}, W.ownsRow B e size x n xs → (∀ j, x.ownBlock = some j → W'.heap[j]? = W.heap[j]?) → W'.ownsRow B e size x n xs := by
    intro e size n x xs ho hk
    refine ⟨ho.1, ho.2.imp id ?_⟩
    rintro ⟨g, cap, cur, h1, h2, h3, h4⟩
    exact ⟨g, cap, cur, h1, h2, (hk g (by rw [h1]; rfl)).trans h3, h4⟩
  exact ⟨key h.row hr, fun z hz => key (h.each z hz) (he z hz), h.off, h.apart⟩
theorem OwZ.later {W W' : World} {B : Nat} {v : Value} {Z : List Z5} (h : OwZ W B v Z) (hb : Below W.heap.size W W') : OwZ W' B v Z :=
  h.kept hb.size (fun j hj => hb.block j (h.row.lt j hj).2) (fun z hz j hj => hb.block j ((h.each z hz).lt j hj).2)
theorem OwZ.base {W : World} {B B' : Nat} {v : Value} {Z : List Z5} (h : OwZ W B' v Z) (hB : B ≤ B') : OwZ W B v Z :=
  ⟨own_base h.row hB, fun z hz => own_base (h.each z hz) hB, h.off, h.apart⟩

/-- Cells of a block that stays. -/
theorem cell_same {W W' : World} {p : Addr} (h : W'.heap[p.block]? = W.heap[p.block]?) : W'.cell? p = W.cell? p := by
  unfold World.cell?
  rw [h]

/-- The slice of address a is the registers of l, in blocks from lo on, below hi. -/
def Rb (lo hi : Nat) (W : World) (a : Option Addr) (l : List R3) : Prop :=
  0 < l.length → ∃ k o, a = some ⟨k, o, none⟩ ∧ lo ≤ k ∧ k < hi ∧ Row W k o l
theorem Rb.rs {lo hi : Nat} {W : World} {a : Option Addr} {l : List R3} (h : Rb lo hi W a l) (hh : hi ≤ W.heap.size) : Rs W a l := by
  intro hn
  obtain ⟨k, o, h1, h2, h3, h4⟩ := h hn
  exact ⟨k, o, h1, by omega, h4⟩
theorem Rb.same {lo hi : Nat} {W W' : World} {a : Option Addr} {l : List R3} (h : Rb lo hi W a l) (hk : ∀ k, lo ≤ k → k < hi → W'.heap[k]? = W.heap[k]?) : Rb lo hi W' a l := by
  intro hn
  obtain ⟨k, o, h1, h2, h3, h4⟩ := h hn
  refine ⟨k, o, h1, h2, h3, fun i hi' => ?_⟩
  have e := h4 i hi'
  exact ⟨(cell_same (p := ⟨k, _, none⟩) (hk k h2 h3)).trans e.1, (cell_same (p := ⟨k, _, none⟩) (hk k h2 h3)).trans e.2.1, (cell_same (p := ⟨k, _, none⟩) (hk k h2 h3)).trans e.2.2⟩
theorem Rb.wide {lo hi lo' hi' : Nat} {W : World} {a : Option Addr} {l : List R3} (h : Rb lo hi W a l) (h1 : lo' ≤ lo) (h2 : hi ≤ hi') : Rb lo' hi' W a l := by
  intro hn
  obtain ⟨k, o, e1, e2, e3, e4⟩ := h hn
  exact ⟨k, o, e1, by omega, by omega, e4⟩

/-- The slice of address a is the mails of L, in blocks from lo on, below hi. -/
def Ms (lo hi : Nat) (W : World) (a : Option Addr) (L : List M4) : Prop :=
  hi ≤ W.heap.size ∧ ∀ i (h : i < L.length), ∃ k o fa fc, a = some ⟨k, o, none⟩ ∧ lo ≤ k ∧ k < hi ∧
    (W.cell? ⟨k, o + i * 4, none⟩ = some (.int .i64 L[i].1) ∧ W.cell? ⟨k, o + i * 4 + 1, none⟩ = some (.int .i64 L[i].2.1) ∧ W.cell? ⟨k, o + i * 4 + 2, none⟩ = some (.slice fa L[i].2.2.1.length fc) ∧ W.cell? ⟨k, o + i * 4 + 3, none⟩ = some (.string L[i].2.2.2)) ∧
    Rb lo hi W fa L[i].2.2.1 ∧ (fa = none → fc = 0)
theorem Ms.same {lo hi : Nat} {W W' : World} {a : Option Addr} {L : List M4} (h : Ms lo hi W a L) (hs : hi ≤ W'.heap.size) (hk : ∀ k, lo ≤ k → k < hi → W'.heap[k]? = W.heap[k]?) : Ms lo hi W' a L := by
  refine ⟨hs, fun i hi' => ?_⟩
  obtain ⟨k, o, fa, fc, h1, h2, h3, ⟨c0, c1, c2, c3⟩, h5, h6⟩ := h.2 i hi'
  have e := hk k h2 h3
  exact ⟨k, o, fa, fc, h1, h2, h3, ⟨(cell_same (p := ⟨k, _, none⟩) e).trans c0, (cell_same (p := ⟨k, _, none⟩) e).trans c1, (cell_same (p := ⟨k, _, none⟩) e).trans c2, (cell_same (p := ⟨k, _, none⟩) e).trans c3⟩, h5.same hk, h6⟩
theorem Ms.later {lo hi : Nat} {W W' : World} {a : Option Addr} {L : List M4} (h : Ms lo hi W a L) (hb : Below W.heap.size W W') : Ms lo hi W' a L :=
  h.same (Nat.le_trans h.1 hb.size) (fun k _ hk => hb.block k (Nat.lt_of_lt_of_le hk h.1))
theorem Ms.wide {lo hi lo' hi' : Nat} {W : World} {a : Option Addr} {L : List M4} (h : Ms lo hi W a L) (h1 : lo' ≤ lo) (h2 : hi ≤ hi') (h3 : hi' ≤ W.heap.size) : Ms lo' hi' W a L := by
  refine ⟨h3, fun i hi' => ?_⟩
  obtain ⟨k, o, fa, fc, e1, e2, e3, e4, e5, e6⟩ := h.2 i hi'
  exact ⟨k, o, fa, fc, e1, by omega, by omega, e4, e5.wide h1 h2, e6⟩
/-- What a reader of the i-th mail wants. -/
theorem Ms.at {lo hi : Nat} {W : World} {a : Option Addr} {L : List M4} (h : Ms lo hi W a L) {i : Nat} (hi' : i < L.length) : ∃ k o fa fc, a = some ⟨k, o, none⟩ ∧ k < W.heap.size ∧
    (W.cell? ⟨k, o + i * 4, none⟩ = some (.int .i64 L[i].1) ∧ W.cell? ⟨k, o + i * 4 + 1, none⟩ = some (.int .i64 L[i].2.1) ∧ W.cell? ⟨k, o + i * 4 + 2, none⟩ = some (.slice fa L[i].2.2.1.length fc) ∧ W.cell? ⟨k, o + i * 4 + 3, none⟩ = some (.string L[i].2.2.2)) ∧
    Rs W fa L[i].2.2.1 ∧ (fa = none → fc = 0) := by
  obtain ⟨k, o, fa, fc, e1, e2, e3, e4, e5, e6⟩ := h.2 i hi'
  exact ⟨k, o, fa, fc, e1, Nat.lt_of_lt_of_le e3 h.1, e4, e5.rs h.1, e6⟩

theorem Ow.rb {W : World} {B : Nat} {v : Value} {l : List R3} (h : Ow W B v l) : ∃ a c, v = .slice a l.length c ∧ Rb B W.heap.size W a l ∧ (a = none → c = 0) := by
  obtain ⟨a, c, rfl, hr⟩ := Ow.shape h
  refine ⟨a, c, rfl, fun hn => ?_, fun hn => ?_⟩
  · obtain ⟨k, o, rfl, h2, h3⟩ := hr hn
    exact ⟨k, o, rfl, (h.lt k rfl).1, h2, h3⟩
  · subst hn
    rcases h.2 with ⟨h1, _⟩ | ⟨g, cap, cur, h1, _⟩
    · simpa using congrArg (fun v => match v with | .slice _ _ c => c | _ => 0) h1
    · simp at h1
theorem OwZ.shape {W : World} {B : Nat} {v : Value} {Z : List Z5} (h : OwZ W B v Z) : ∃ a c, v = .slice a Z.length c := by
  rcases h.row.2 with ⟨h1, h2⟩ | ⟨g, cap, cur, h1, _⟩
  · exact ⟨none, 0, by rw [h1, h2]⟩
  · exact ⟨_, _, h1⟩
theorem OwZ.ms {W : World} {B n c : Nat} {a : Option Addr} {Z : List Z5} (h : OwZ W B (.slice a n c) Z) : n = Z.length ∧ Ms B W.heap.size W a (Z.map md) := by
  have hw := h.row
  rcases h.row.2 with ⟨h1, h2⟩ | ⟨g, cap, cur, h1, h2, h3, h4, h5, h6, h7⟩
  · simp only [Value.slice.injEq] at h1
    refine ⟨by omega, Nat.le_refl _, fun i hi => ?_⟩
    rw [List.length_map] at hi
    omega
  · simp only [Value.slice.injEq] at h1
    obtain ⟨rfl, rfl, rfl⟩ := h1
    refine ⟨rfl, Nat.le_refl _, fun i hi => ?_⟩
    rw [List.length_map] at hi
    have e := zc_at Z i hi
    obtain ⟨fa, fc, hf, hr, h0⟩ := Ow.rb (h.each Z[i] (List.getElem_mem hi))
    rw [hf] at e
    refine ⟨g, 0, fa, fc, rfl, h2, (Array.getElem?_eq_some_iff.1 h3).1, ?_, ?_, h0⟩
    · simp only [Nat.zero_add, List.getElem_map]
      exact ⟨(hw.cellAt _ (by omega)).trans e.1, (hw.cellAt _ (by omega)).trans e.2.1, (hw.cellAt _ (by omega)).trans e.2.2.1, (hw.cellAt _ (by omega)).trans e.2.2.2⟩
    · simpa [md] using hr

theorem mem_set {α : Type} {l : List α} {i : Nat} {a b : α} (h : b ∈ l.set i a) : b ∈ l ∨ b = a := by
  induction l generalizing i with
  | nil => simp at h
  | cons x l ih =>
    cases i with
    | zero =>
      rw [List.set_cons_zero] at h
      rcases List.mem_cons.1 h with h | h
      · exact .inr h
      · exact .inl (List.mem_cons_of_mem _ h)
    | succ i =>
      rw [List.set_cons_succ] at h
      rcases List.mem_cons.1 h with h | h
      · exact .inl (by rw [h]; simp)
      · exact (ih h).imp (List.mem_cons_of_mem _) id
theorem pair_set {α : Type} {R : α → α → Prop} {l : List α} (hp : l.Pairwise R) (i : Nat) (a : α) (h1 : ∀ y ∈ l, R a y) (h2 : ∀ y ∈ l, R y a) : (l.set i a).Pairwise R := by
  induction l generalizing i with
  | nil => simp
  | cons x l ih =>
    cases i with
    | zero =>
      rw [List.set_cons_zero]
      exact List.pairwise_cons.2 ⟨fun y hy => h1 y (List.mem_cons_of_mem _ hy), (List.pairwise_cons.1 hp).2⟩
    | succ i =>
      rw [List.set_cons_succ]
      refine List.pairwise_cons.2 ⟨fun y hy => ?_, ih (List.pairwise_cons.1 hp).2 i (fun y hy => h1 y (List.mem_cons_of_mem _ hy)) (fun y hy => h2 y (List.mem_cons_of_mem _ hy))⟩
      rcases mem_set hy with hy | rfl
      · exact (List.pairwise_cons.1 hp).1 y hy
      · exact h2 x (by simp)

theorem far_of {W : World} {B g n c : Nat} {Z : List Z5} (h : OwZ W B (.slice (some ⟨g, 0, none⟩) n c) Z) {z : Z5} (hz : z ∈ Z) : z.2.2.1.ownBlock ≠ some g := h.off z hz g rfl

/-- A mail stored at place i of an owned row: the four stores. -/
theorem OwZ.stored {W : World} {B g n c : Nat} {Z : List Z5} (h : OwZ W B (.slice (some ⟨g, 0, none⟩) n c) Z) (i : Nat) (hi : i < Z.length) (z : Z5) (ho : Ow W B z.2.2.1 z.2.2.2.1) (hg : z.2.2.1.ownBlock ≠ some g) (hd : ∀ y ∈ Z, Dj z.2.2.1 y.2.2.1) :
    OwZ ((((W.setCell ⟨g, i * 4, none⟩ (.int .i64 z.1)).setCell ⟨g, i * 4 + 1, none⟩ (.int .i64 z.2.1)).setCell ⟨g, i * 4 + 2, none⟩ z.2.2.1).setCell ⟨g, i * 4 + 3, none⟩ (.string z.2.2.2.2)) B (.slice (some ⟨g, 0, none⟩) n c) (Z.set i z) := by
  obtain rfl := h.ms.1
  have hgr : W.grownBy ((((W.setCell ⟨g, i * 4, none⟩ (.int .i64 z.1)).setCell ⟨g, i * 4 + 1, none⟩ (.int .i64 z.2.1)).setCell ⟨g, i * 4 + 2, none⟩ z.2.2.1).setCell ⟨g, i * 4 + 3, none⟩ (.string z.2.2.2.2)) (some g) := wst (wst (wst (wst (wre _ _) _ _) _ _) _ _) _ _
  have h1 := (World.ownsRow.stored h.row (i * 4) (.int .i64 z.1)).1
  have h2 := (World.ownsRow.stored h1 (i * 4 + 1) (.int .i64 z.2.1)).1
  have h3 := (World.ownsRow.stored h2 (i * 4 + 2) z.2.2.1).1
  have h4 := (World.ownsRow.stored h3 (i * 4 + 3) (.string z.2.2.2.2)).1
  rw [zc_set Z i z hi] at h4
  have hk : ∀ {x : Value} {l : List R3}, Ow W B x l → x.ownBlock ≠ some g → Ow ((((W.setCell ⟨g, i * 4, none⟩ (.int .i64 z.1)).setCell ⟨g, i * 4 + 1, none⟩ (.int .i64 z.2.1)).setCell ⟨g, i * 4 + 2, none⟩ z.2.2.1).setCell ⟨g, i * 4 + 3, none⟩ (.string z.2.2.2.2)) B x l :=
    fun hx hne => World.ownsRow.kept hx hgr (Or.inr hne)
  refine ⟨by simpa using h4, fun y hy => ?_, fun y hy => ?_, pair_set h.apart i z hd (fun y hy => (hd y hy).symm)⟩
  · rcases mem_set hy with hy | rfl
    · exact hk (h.each y hy) (far_of h hy)
    · exact hk ho hg
  · rcases mem_set hy with hy | rfl
    · exact h.off y hy
    · exact fun j hj hj' => hg (by rw [hj', ← hj]; rfl)

/-- The four cells of place i, and that they may be stored into. -/
theorem OwZ.spot {W : World} {B g n c : Nat} {Z : List Z5} (h : OwZ W B (.slice (some ⟨g, 0, none⟩) n c) Z) (i : Nat) (hi : i < Z.length) :
    (W.cell? ⟨g, i * 4, none⟩ = some (.int .i64 Z[i].1) ∧ W.cell? ⟨g, i * 4 + 1, none⟩ = some (.int .i64 Z[i].2.1) ∧ W.cell? ⟨g, i * 4 + 2, none⟩ = some Z[i].2.2.1 ∧ W.cell? ⟨g, i * 4 + 3, none⟩ = some (.string Z[i].2.2.2.2)) ∧
    W.frozen? ⟨g, i * 4, none⟩ = false ∧ W.frozen? ⟨g, i * 4 + 1, none⟩ = false ∧ W.frozen? ⟨g, i * 4 + 2, none⟩ = false ∧ W.frozen? ⟨g, i * 4 + 3, none⟩ = false := by
  obtain rfl := h.ms.1
  have hw := h.row
  have e := zc_at Z i hi
  exact ⟨⟨(hw.cellAt _ (by omega)).trans e.1, (hw.cellAt _ (by omega)).trans e.2.1, (hw.cellAt _ (by omega)).trans e.2.2.1, (hw.cellAt _ (by omega)).trans e.2.2.2⟩, hw.frozenAt _, hw.frozenAt _, hw.frozenAt _, hw.frozenAt _⟩

theorem info_ml : (Try.prog.info? 57).map (fun i => (i.zero, i.size, i.bytes)) = some (some (.agg #[.int .i64 0, .int .i64 0, .slice none 0 0, .string ⟨#[]⟩]), 4, 56) := by kernel_rfl

/-! Numbers. -/

/-- The slice of address a is the numbers of G, in blocks from lo on, below hi. -/
def Is (lo hi : Nat) (W : World) (a : Option Addr) (G : List Int) : Prop :=
  hi ≤ W.heap.size ∧ ∀ i (h : i < G.length), ∃ k o, a = some ⟨k, o, none⟩ ∧ lo ≤ k ∧ k < hi ∧ W.cell? ⟨k, o + i, none⟩ = some (.int .i64 G[i])
theorem Is.same {lo hi : Nat} {W W' : World} {a : Option Addr} {G : List Int} (h : Is lo hi W a G) (hs : hi ≤ W'.heap.size) (hk : ∀ k, lo ≤ k → k < hi → W'.heap[k]? = W.heap[k]?) : Is lo hi W' a G := by
  refine ⟨hs, fun i hi' => ?_⟩
  obtain ⟨k, o, h1, h2, h3, c⟩ := h.2 i hi'
  exact ⟨k, o, h1, h2, h3, (cell_same (p := ⟨k, _, none⟩) (hk k h2 h3)).trans c⟩
theorem Is.later {lo hi : Nat} {W W' : World} {a : Option Addr} {G : List Int} (h : Is lo hi W a G) (hb : Below W.heap.size W W') : Is lo hi W' a G :=
  h.same (Nat.le_trans h.1 hb.size) (fun k _ hk => hb.block k (Nat.lt_of_lt_of_le hk h.1))
theorem Is.at {lo hi : Nat} {W : World} {a : Option Addr} {G : List Int} (h : Is lo hi W a G) {i : Nat} (hi' : i < G.length) : ∃ k o, a = some ⟨k, o, none⟩ ∧ k < W.heap.size ∧ W.cell? ⟨k, o + i, none⟩ = some (.int .i64 G[i]) := by
  obtain ⟨k, o, e1, e2, e3, e4⟩ := h.2 i hi'
  exact ⟨k, o, e1, Nat.lt_of_lt_of_le e3 h.1, e4⟩
/-- A row of numbers that a call owns. -/
abbrev OwI (W : World) (B : Nat) (v : Value) (G : List Int) : Prop := W.ownsRow B 3 1 v G.length (G.map (Value.int .i64))
theorem OwI.is {W : World} {B n c : Nat} {a : Option Addr} {G : List Int} (h : OwI W B (.slice a n c) G) : n = G.length ∧ Is B W.heap.size W a G := by
  have hw := h
  rcases h.2 with ⟨h1, h2⟩ | ⟨g, cap, cur, h1, h2, h3, h4, h5, h6, h7⟩
  · simp only [Value.slice.injEq] at h1
    exact ⟨by omega, Nat.le_refl _, fun i hi => by omega⟩
  · simp only [Value.slice.injEq] at h1
    obtain ⟨rfl, rfl, rfl⟩ := h1
    refine ⟨rfl, Nat.le_refl _, fun i hi => ⟨g, 0, rfl, h2, (Array.getElem?_eq_some_iff.1 h3).1, ?_⟩⟩
    simp only [Nat.zero_add]
    rw [hw.cellAt i (by omega), List.getElem?_map, List.getElem?_eq_getElem hi]
    rfl
theorem OwI.shape {W : World} {B : Nat} {v : Value} {G : List Int} (h : OwI W B v G) : ∃ a c, v = .slice a G.length c ∧ (a = none → c = 0) := by
  rcases h.2 with ⟨h1, h2⟩ | ⟨g, cap, cur, h1, _⟩
  · exact ⟨none, 0, by rw [h1, h2], fun _ => rfl⟩
  · exact ⟨_, _, h1, fun h => by simp at h⟩
theorem OwI.stored {W : World} {B g n c : Nat} {G : List Int} (h : OwI W B (.slice (some ⟨g, 0, none⟩) n c) G) (i : Nat) (x : Int) :
    OwI (W.setCell ⟨g, i, none⟩ (.int .i64 x)) B (.slice (some ⟨g, 0, none⟩) n c) (G.set i x) := by
  obtain rfl := (OwI.is h).1
  have h1 := (World.ownsRow.stored h i (.int .i64 x)).1
  rw [← List.map_set] at h1
  simpa [OwI] using h1
end Go.Proofs.Ytegdejhgamkkbaa
