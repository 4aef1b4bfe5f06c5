/- Mg. -/
import Derived.Test.YtckenihadlmlaaaB2
namespace Go.Proofs.Ytckenihadlmlaaa
open Go.RowKit
/-- A mail as it is meant: Gid, Uid, flags, text. -/
abbrev M4 := Int × Int × List R3 × ByteArray
/-- A mail as it lies: Gid, Uid, the value of its flags, what they are, text. -/
abbrev Z5 := Int × Int × Value × List R3 × ByteArray
def md (z : Z5) : M4 := (z.1, z.2.1, z.2.2.2.1, z.2.2.2.2)
/-- The cells of mails. -/
def zc : List Z5 → List Value
  | [] => []
  | z :: Z => .int .i64 z.1 :: .int .i64 z.2.1 :: z.2.2.1 :: .string z.2.2.2.2 :: zc Z
theorem zc_len (Z : List Z5) : (zc Z).length = Z.length * 4 := by
  induction Z with
  | nil => rfl
  | cons z Z ih => simp only [zc, List.length_cons, ih]; omega
theorem zc_app (Z Y : List Z5) : zc (Z ++ Y) = zc Z ++ zc Y := by
  induction Z with
  | nil => rfl
  | cons z Z ih => simp only [List.cons_append, zc, ih]
theorem zc_at (Z : List Z5) (i : Nat) (h : i < Z.length) :
    (zc Z)[i * 4]? = some (.int .i64 Z[i].1) ∧ (zc Z)[i * 4 + 1]? = some (.int .i64 Z[i].2.1) ∧ (zc Z)[i * 4 + 2]? = some Z[i].2.2.1 ∧ (zc Z)[i * 4 + 3]? = some (.string Z[i].2.2.2.2) := by
  induction Z generalizing i with
  | nil => simp at h
  | cons z Z ih =>
    cases i with
    | zero => exact ⟨rfl, rfl, rfl, rfl⟩
    | succ i =>
      have h' : i < Z.length := by simpa using h
      have := ih i h'
      have e : (i + 1) * 4 = i * 4 + 1 + 1 + 1 + 1 := by omega
      rw [e]
      simpa [zc] using this
theorem zc_set (Z : List Z5) (i : Nat) (z : Z5) (h : i < Z.length) :
    ((((zc Z).set (i * 4) (.int .i64 z.1)).set (i * 4 + 1) (.int .i64 z.2.1)).set (i * 4 + 2) z.2.2.1).set (i * 4 + 3) (.string z.2.2.2.2) = zc (Z.set i z) := by
  induction Z generalizing i with
  | nil => simp at h
  | cons y Z ih =>
    cases i with
    | zero => rfl
    | succ i =>
      have h' : i < Z.length := by simpa using h
      have := ih i h'
      have e : (i + 1) * 4 = i * 4 + 1 + 1 + 1 + 1 := by omega
      rw [e]
      simpa [zc] using this
/-- No block of the one is the other's. -/
def Dj (x y : Value) : Prop := ∀ j, x.ownBlock = some j → y.ownBlock ≠ some j
theorem Dj.symm {x y : Value} (h : Dj x y) : Dj y x := fun j hy hx => h j hx hy
theorem Dj.nil (y : Value) : Dj (.slice none 0 0) y := fun j h => by simp [Value.ownBlock] at h
/-- A row of mails that a call owns, with the rows of their flags: no two in one block. -/
structure OwZ (W : World) (B : Nat) (v : Value) (Z : List Z5) : Prop where
  row : W.ownsRow B 115 4 v Z.length (zc Z)
  each : ∀ z ∈ Z, Ow W B z.2.2.1 z.2.2.2.1
  off : ∀ z ∈ Z, Dj v z.2.2.1
  apart : Z.Pairwise fun x y => Dj x.2.2.1 y.2.2.1
theorem OwZ.kept {W W' : World} {B : Nat} {v : Value} {Z : List Z5} (h : OwZ W B v Z) (_hs : W.heap.size ≤ W'.heap.size) (hr : ∀ j, v.ownBlock = some j → W'.heap[j]? = W.heap[j]?) (he : ∀ z ∈ Z, ∀ j, z.2.2.1.ownBlock = some j → W'.heap[j]? = W.heap[j]?) : OwZ W' B v Z := by
  have key : ∀ {e size n : Nat} {x : Value} {xs : List Value}, W.ownsRow B e size x n xs → (∀ j, x.ownBlock = some j → W'.heap[j]? = W.heap[j]?) → W'.ownsRow B e size x n xs := by
    intro e size n x xs ho hk
    refine ⟨ho.1, ho.2.imp id ?_⟩
    rintro ⟨g, cap, cur, h1, h2, h3, h4⟩
    exact ⟨g, cap, cur, h1, h2, (hk g (by rw [h1]; rfl)).trans h3, h4⟩
  exact ⟨key h.row hr, fun z hz => key (h.each z hz) (he z hz), h.off, h.apart⟩
theorem OwZ.later {W W' : World} {B : Nat} {v : Value} {Z : List Z5} (h : OwZ W B v Z) (hb : Below W.heap.size W W') : OwZ W' B v Z :=
  h.kept hb.size (fun j hj => hb.block j (h.row.lt j hj).2) (fun z hz j hj => hb.block j ((h.each z hz).lt j hj).2)
theorem OwZ.base {W : World} {B B' : Nat} {v : Value} {Z : List Z5} (h : OwZ W B' v Z) (hB : B ≤ B') : OwZ W B v Z :=
  ⟨own_base h.row hB, fun z hz => own_base (h.each z hz) hB, h.off, h.apart⟩
/-- Cells of a block that stays. -/
theorem cell_same {W W' : World} {p : Addr} (h : W'.heap[p.block]? = W.heap[p.block]?) : W'.cell? p = W.cell? p := by
  unfold World.cell?
  rw [h]
/-- The slice of address a is the registers of l, in blocks from lo on, below hi. -/
def Rb (lo hi : Nat) (W : World) (a : Option Addr) (l : List R3) : Prop :=
  0 < l.length → ∃ k o, a = some ⟨k, o, none⟩ ∧ lo ≤ k ∧ k < hi ∧ Row W k o l
theorem Rb.rs {lo hi : Nat} {W : World} {a : Option Addr} {l : List R3} (h : Rb lo hi W a l) (hh : hi ≤ W.heap.size) : Rs W a l := by
  intro hn
  obtain ⟨k, o, h1, h2, h3, h4⟩ := h hn
  exact ⟨k, o, h1, by omega, h4⟩
theorem Rb.same {lo hi : Nat} {W W' : World} {a : Option Addr} {l : List R3} (h : Rb lo hi W a l) (hk : ∀ k, lo ≤ k → k < hi → W'.heap[k]? = W.heap[k]?) : Rb lo hi W' a l := by
  intro hn
  obtain ⟨k, o, h1, h2, h3, h4⟩ := h hn
  refine ⟨k, o, h1, h2, h3, fun i hi' => ?_⟩
  have e := h4 i hi'
  exact ⟨(cell_same (p := ⟨k, _, none⟩) (hk k h2 h3)).trans e.1, (cell_same (p := ⟨k, _, none⟩) (hk k h2 h3)).trans e.2.1, (cell_same (p := ⟨k, _, none⟩) (hk k h2 h3)).trans e.2.2⟩
theorem Rb.wide {lo hi lo' hi' : Nat} {W : World} {a : Option Addr} {l : List R3} (h : Rb lo hi W a l) (h1 : lo' ≤ lo) (h2 : hi ≤ hi') : Rb lo' hi' W a l := by
  intro hn
  obtain ⟨k, o, e1, e2, e3, e4⟩ := h hn
  exact ⟨k, o, e1, by omega, by omega, e4⟩
/-- The slice of address a is the mails of L, in blocks from lo on, below hi. -/
def Ms (lo hi : Nat) (W : World) (a : Option Addr) (L : List M4) : Prop :=
  hi ≤ W.heap.size ∧ ∀ i (h : i < L.length), ∃ k o fa fc, a = some ⟨k, o, none⟩ ∧ lo ≤ k ∧ k < hi ∧
    (W.cell? ⟨k, o + i * 4, none⟩ = some (.int .i64 L[i].1) ∧ W.cell? ⟨k, o + i * 4 + 1, none⟩ = some (.int .i64 L[i].2.1) ∧ W.cell? ⟨k, o + i * 4 + 2, none⟩ = some (.slice fa L[i].2.2.1.length fc) ∧ W.cell? ⟨k, o + i * 4 + 3, none⟩ = some (.string L[i].2.2.2)) ∧
    Rb lo hi W fa L[i].2.2.1 ∧ (fa = none → fc = 0)
theorem Ms.same {lo hi : Nat} {W W' : World} {a : Option Addr} {L : List M4} (h : Ms lo hi W a L) (hs : hi ≤ W'.heap.size) (hk : ∀ k, lo ≤ k → k < hi → W'.heap[k]? = W.heap[k]?) : Ms lo hi W' a L := by
  refine ⟨hs, fun i hi' => ?_⟩
  obtain ⟨k, o, fa, fc, h1, h2, h3, ⟨c0, c1, c2, c3⟩, h5, h6⟩ := h.2 i hi'
  have e := hk k h2 h3
  exact ⟨k, o, fa, fc, h1, h2, h3, ⟨(cell_same (p := ⟨k, _, none⟩) e).trans c0, (cell_same (p := ⟨k, _, none⟩) e).trans c1, (cell_same (p := ⟨k, _, none⟩) e).trans c2, (cell_same (p := ⟨k, _, none⟩) e).trans c3⟩, h5.same hk, h6⟩
theorem Ms.later {lo hi : Nat} {W W' : World} {a : Option Addr} {L : List M4} (h : Ms lo hi W a L) (hb : Below W.heap.size W W') : Ms lo hi W' a L :=
  h.same (Nat.le_trans h.1 hb.size) (fun k _ hk => hb.block k (Nat.lt_of_lt_of_le hk h.1))
theorem Ms.wide {lo hi lo' hi' : Nat} {W : World} {a : Option Addr} {L : List M4} (h : Ms lo hi W a L) (h1 : lo' ≤ lo) (h2 : hi ≤ hi') (h3 : hi' ≤ W.heap.size) : Ms lo' hi' W a L := by
  refine ⟨h3, fun i hi' => ?_⟩
  obtain ⟨k, o, fa, fc, e1, e2, e3, e4, e5, e6⟩ := h.2 i hi'
  exact ⟨k, o, fa, fc, e1, by omega, by omega, e4, e5.wide h1 h2, e6⟩
/-- What a reader of the i-th mail wants. -/
theorem Ms.at {lo hi : Nat} {W : World} {a : Option Addr} {L : List M4} (h : Ms lo hi W a L) {i : Nat} (hi' : i < L.length) : ∃ k o fa fc, a = some ⟨k, o, none⟩ ∧ k < W.heap.size ∧
    (W.cell? ⟨k, o + i * 4, none⟩ = some (.int .i64 L[i].1) ∧ W.cell? ⟨k, o + i * 4 + 1, none⟩ = some (.int .i64 L[i].2.1) ∧ W.cell? ⟨k, o + i * 4 + 2, none⟩ = some (.slice fa L[i].2.2.1.length fc) ∧ W.cell? ⟨k, o + i * 4 + 3, none⟩ = some (.string L[i].2.2.2)) ∧
    Rs W fa L[i].2.2.1 ∧ (fa = none → fc = 0) := by
  obtain ⟨k, o, fa, fc, e1, e2, e3, e4, e5, e6⟩ := h.2 i hi'
  exact ⟨k, o, fa, fc, e1, Nat.lt_of_lt_of_le e3 h.1, e4, e5.rs h.1, e6⟩
theorem Ow.rb {W : World} {B : Nat} {v : Value} {l : List R3} (h : Ow W B v l) : ∃ a c, v = .slice a l.length c ∧ Rb B W.heap.size W a l ∧ (a = none → c = 0) := by
  obtain ⟨a, c, rfl, hr⟩ := Ow.shape h
  refine ⟨a, c, rfl, fun hn => ?_, fun hn => ?_⟩
  · obtain ⟨k, o, rfl, h2, h3⟩ := hr hn
    exact ⟨k, o, rfl, (h.lt k rfl).1, h2, h3⟩
  · subst hn
    rcases h.2 with ⟨h1, _⟩ | ⟨g, cap, cur, h1, _⟩
    · simpa using congrArg (fun v => match v with | .slice _ _ c => c | _ => 0) h1
    · simp at h1
theorem OwZ.shape {W : World} {B : Nat} {v : Value} {Z : List Z5} (h : OwZ W B v Z) : ∃ a c, v = .slice a Z.length c := by
  rcases h.row.2 with ⟨h1, h2⟩ | ⟨g, cap, cur, h1, _⟩
  · exact ⟨none, 0, by rw [h1, h2]⟩
  · exact ⟨_, _, h1⟩
theorem OwZ.ms {W : World} {B n c : Nat} {a : Option Addr} {Z : List Z5} (h : OwZ W B (.slice a n c) Z) : n = Z.length ∧ Ms B W.heap.size W a (Z.map md) := by
  have hw := h.row
  rcases h.row.2 with ⟨h1, h2⟩ | ⟨g, cap, cur, h1, h2, h3, h4, h5, h6, h7⟩
  · simp only [Value.slice.injEq] at h1
    refine ⟨by omega, Nat.le_refl _, fun i hi => ?_⟩
    rw [List.length_map] at hi
    omega
  · simp only [Value.slice.injEq] at h1
    obtain ⟨rfl, rfl, rfl⟩ := h1
    refine ⟨rfl, Nat.le_refl _, fun i hi => ?_⟩
    rw [List.length_map] at hi
    have e := zc_at Z i hi
    obtain ⟨fa, fc, hf, hr, h0⟩ := Ow.rb (h.each Z[i] (List.getElem_mem hi))
    rw [hf] at e
    refine ⟨g, 0, fa, fc, rfl, h2, (Array.getElem?_eq_some_iff.1 h3).1, ?_, ?_, h0⟩
    · simp only [Nat.zero_add, List.getElem_map]
      exact ⟨(hw.cellAt _ (by omega)).trans e.1, (hw.cellAt _ (by omega)).trans e.2.1, (hw.cellAt _ (by omega)).trans e.2.2.1, (hw.cellAt _ (by omega)).trans e.2.2.2⟩
    · simpa [md] using hr
theorem mem_set {α : Type} {l : List α} {i : Nat} {a b : α} (h : b ∈ l.set i a) : b ∈ l ∨ b = a := by
  induction l generalizing i with
  | nil => simp at h
  | cons x l ih =>
    cases i with
    | zero =>
      rw [List.set_cons_zero] at h
      rcases List.mem_cons.1 h with h | h
      · exact .inr h
      · exact .inl (List.mem_cons_of_mem _ h)
    | succ i =>
      rw [List.set_cons_succ] at h
      rcases List.mem_cons.1 h with h | h
      · exact .inl (by rw [h]; simp)
      · exact (ih h).imp (List.mem_cons_of_mem _) id
theorem pair_set {α : Type} {R : α → α → Prop} {l : List α} (hp : l.Pairwise R) (i : Nat) (a : α) (h1 : ∀ y ∈ l, R a y) (h2 : ∀ y ∈ l, R y a) : (l.set i a).Pairwise R := by
  induction l generalizing i with
  | nil => simp
  | cons x l ih =>
    cases i with
    | zero =>
      rw [List.set_cons_zero]
      exact List.pairwise_cons.2 ⟨fun y hy => h1 y (List.mem_cons_of_mem _ hy), (List.pairwise_cons.1 hp).2⟩
    | succ i =>
      rw [List.set_cons_succ]
      refine List.pairwise_cons.2 ⟨fun y hy => ?_, ih (List.pairwise_cons.1 hp).2 i (fun y hy => h1 y (List.mem_cons_of_mem _ hy)) (fun y hy => h2 y (List.mem_cons_of_mem _ hy))⟩
      rcases mem_set hy with hy | rfl
      · exact (List.pairwise_cons.1 hp).1 y hy
      · exact h2 x (by simp)
theorem far_of {W : World} {B g n c : Nat} {Z : List Z5} (h : OwZ W B (.slice (some ⟨g, 0, none⟩) n c) Z) {z : Z5} (hz : z ∈ Z) : z.2.2.1.ownBlock ≠ some g := h.off z hz g rfl
/-- A mail stored at place i of an owned row: the four stores. -/
theorem OwZ.stored {W : World} {B g n c : Nat} {Z : List Z5} (h : OwZ W B (.slice (some ⟨g, 0, none⟩) n c) Z) (i : Nat) (hi : i < Z.length) (z : Z5) (ho : Ow W B z.2.2.1 z.2.2.2.1) (hg : z.2.2.1.ownBlock ≠ some g) (hd : ∀ y ∈ Z, Dj z.2.2.1 y.2.2.1) :
    OwZ ((((W.setCell ⟨g, i * 4, none⟩ (.int .i64 z.1)).setCell ⟨g, i * 4 + 1, none⟩ (.int .i64 z.2.1)).setCell ⟨g, i * 4 + 2, none⟩ z.2.2.1).setCell ⟨g, i * 4 + 3, none⟩ (.string z.2.2.2.2)) B (.slice (some ⟨g, 0, none⟩) n c) (Z.set i z) := by
  obtain rfl := h.ms.1
  have hgr : W.grownBy ((((W.setCell ⟨g, i * 4, none⟩ (.int .i64 z.1)).setCell ⟨g, i * 4 + 1, none⟩ (.int .i64 z.2.1)).setCell ⟨g, i * 4 + 2, none⟩ z.2.2.1).setCell ⟨g, i * 4 + 3, none⟩ (.string z.2.2.2.2)) (some g) := wst (wst (wst (wst (wre _ _) _ _) _ _) _ _) _ _
  have h1 := (World.ownsRow.stored h.row (i * 4) (.int .i64 z.1)).1
  have h2 := (World.ownsRow.stored h1 (i * 4 + 1) (.int .i64 z.2.1)).1
  have h3 := (World.ownsRow.stored h2 (i * 4 + 2) z.2.2.1).1
  have h4 := (World.ownsRow.stored h3 (i * 4 + 3) (.string z.2.2.2.2)).1
  rw [zc_set Z i z hi] at h4
  have hk : ∀ {x : Value} {l : List R3}, Ow W B x l → x.ownBlock ≠ some g → Ow ((((W.setCell ⟨g, i * 4, none⟩ (.int .i64 z.1)).setCell ⟨g, i * 4 + 1, none⟩ (.int .i64 z.2.1)).setCell ⟨g, i * 4 + 2, none⟩ z.2.2.1).setCell ⟨g, i * 4 + 3, none⟩ (.string z.2.2.2.2)) B x l :=
    fun hx hne => World.ownsRow.kept hx hgr (Or.inr hne)
  refine ⟨by simpa using h4, fun y hy => ?_, fun y hy => ?_, pair_set h.apart i z hd (fun y hy => (hd y hy).symm)⟩
  · rcases mem_set hy with hy | rfl
    · exact hk (h.each y hy) (far_of h hy)
    · exact hk ho hg
  · rcases mem_set hy with hy | rfl
    · exact h.off y hy
    · exact fun j hj hj' => hg (by rw [hj', ← hj]; rfl)
/-- The four cells of place i, and that they may be stored into. -/
theorem OwZ.spot {W : World} {B g n c : Nat} {Z : List Z5} (h : OwZ W B (.slice (some ⟨g, 0, none⟩) n c) Z) (i : Nat) (hi : i < Z.length) :
    (W.cell? ⟨g, i * 4, none⟩ = some (.int .i64 Z[i].1) ∧ W.cell? ⟨g, i * 4 + 1, none⟩ = some (.int .i64 Z[i].2.1) ∧ W.cell? ⟨g, i * 4 + 2, none⟩ = some Z[i].2.2.1 ∧ W.cell? ⟨g, i * 4 + 3, none⟩ = some (.string Z[i].2.2.2.2)) ∧
    W.frozen? ⟨g, i * 4, none⟩ = false ∧ W.frozen? ⟨g, i * 4 + 1, none⟩ = false ∧ W.frozen? ⟨g, i * 4 + 2, none⟩ = false ∧ W.frozen? ⟨g, i * 4 + 3, none⟩ = false := by
  obtain rfl := h.ms.1
  have hw := h.row
  have e := zc_at Z i hi
  exact ⟨⟨(hw.cellAt _ (by omega)).trans e.1, (hw.cellAt _ (by omega)).trans e.2.1, (hw.cellAt _ (by omega)).trans e.2.2.1, (hw.cellAt _ (by omega)).trans e.2.2.2⟩, hw.frozenAt _, hw.frozenAt _, hw.frozenAt _, hw.frozenAt _⟩
theorem info_ml : (Try.prog.info? 115).map (fun i => (i.zero, i.size, i.bytes)) = some (some (.agg #[.int .i64 0, .int .i64 0, .slice none 0 0, .string ⟨#[]⟩]), 4, 56) := by kernel_rfl
/-! Numbers. -/
/-- The slice of address a is the numbers of G, in blocks from lo on, below hi. -/
def Is (lo hi : Nat) (W : World) (a : Option Addr) (G : List Int) : Prop :=
  hi ≤ W.heap.size ∧ ∀ i (h : i < G.length), ∃ k o, a = some ⟨k, o, none⟩ ∧ lo ≤ k ∧ k < hi ∧ W.cell? ⟨k, o + i, none⟩ = some (.int .i64 G[i])
theorem Is.same {lo hi : Nat} {W W' : World} {a : Option Addr} {G : List Int} (h : Is lo hi W a G) (hs : hi ≤ W'.heap.size) (hk : ∀ k, lo ≤ k → k < hi → W'.heap[k]? = W.heap[k]?) : Is lo hi W' a G := by
  refine ⟨hs, fun i hi' => ?_⟩
  obtain ⟨k, o, h1, h2, h3, c⟩ := h.2 i hi'
  exact ⟨k, o, h1, h2, h3, (cell_same (p := ⟨k, _, none⟩) (hk k h2 h3)).trans c⟩
theorem Is.later {lo hi : Nat} {W W' : World} {a : Option Addr} {G : List Int} (h : Is lo hi W a G) (hb : Below W.heap.size W W') : Is lo hi W' a G :=
  h.same (Nat.le_trans h.1 hb.size) (fun k _ hk => hb.block k (Nat.lt_of_lt_of_le hk h.1))
theorem Is.at {lo hi : Nat} {W : World} {a : Option Addr} {G : List Int} (h : Is lo hi W a G) {i : Nat} (hi' : i < G.length) : ∃ k o, a = some ⟨k, o, none⟩ ∧ k < W.heap.size ∧ W.cell? ⟨k, o + i, none⟩ = some (.int .i64 G[i]) := by
  obtain ⟨k, o, e1, e2, e3, e4⟩ := h.2 i hi'
  exact ⟨k, o, e1, Nat.lt_of_lt_of_le e3 h.1, e4⟩
/-- A row of numbers that a call owns. -/
abbrev OwI (W : World) (B : Nat) (v : Value) (G : List Int) : Prop := W.ownsRow B 3 1 v G.length (G.map (Value.int .i64))
theorem OwI.is {W : World} {B n c : Nat} {a : Option Addr} {G : List Int} (h : OwI W B (.slice a n c) G) : n = G.length ∧ Is B W.heap.size W a G := by
  have hw := h
  rcases h.2 with ⟨h1, h2⟩ | ⟨g, cap, cur, h1, h2, h3, h4, h5, h6, h7⟩
  · simp only [Value.slice.injEq] at h1
    exact ⟨by omega, Nat.le_refl _, fun i hi => by omega⟩
  · simp only [Value.slice.injEq] at h1
    obtain ⟨rfl, rfl, rfl⟩ := h1
    refine ⟨rfl, Nat.le_refl _, fun i hi => ⟨g, 0, rfl, h2, (Array.getElem?_eq_some_iff.1 h3).1, ?_⟩⟩
    simp only [Nat.zero_add]
    rw [hw.cellAt i (by omega), List.getElem?_map, List.getElem?_eq_getElem hi]
    rfl
theorem OwI.shape {W : World} {B : Nat} {v : Value} {G : List Int} (h : OwI W B v G) : ∃ a c, v = .slice a G.length c ∧ (a = none → c = 0) := by
  rcases h.2 with ⟨h1, h2⟩ | ⟨g, cap, cur, h1, _⟩
  · exact ⟨none, 0, by rw [h1, h2], fun _ => rfl⟩
  · exact ⟨_, _, h1, fun h => by simp at h⟩
theorem OwI.stored {W : World} {B g n c : Nat} {G : List Int} (h : OwI W B (.slice (some ⟨g, 0, none⟩) n c) G) (i : Nat) (x : Int) :
    OwI (W.setCell ⟨g, i, none⟩ (.int .i64 x)) B (.slice (some ⟨g, 0, none⟩) n c) (G.set i x) := by
  obtain rfl := (OwI.is h).1
  have h1 := (World.ownsRow.stored h i (.int .i64 x)).1
  rw [← List.map_set] at h1
  simpa [OwI] using h1
end Go.Proofs.Ytckenihadlmlaaa
namespace Go.Proofs.Ytckenihadlmlaaa
open Go.RowKit
def z0 : Z5 := (0, 0, .slice none 0 0, [], ⟨#[]⟩)
theorem zc_rep (n : Nat) : ∀ j, (zc (List.replicate n z0))[j]? = if j < n * 4 then some (match j % 4 with | 0 => .int .i64 0 | 1 => .int .i64 0 | 2 => .slice none 0 0 | _ => .string ⟨#[]⟩) else none := by
  induction n with
  | zero => intro j; simp [zc]
  | succ n ih =>
    intro j
    rw [List.replicate_succ]
    match j with
    | 0 => simp [zc, z0]
    | 1 => simp [zc, z0]; omega
    | 2 => simp [zc, z0]; omega
    | 3 => simp [zc, z0]; omega
    | j + 4 =>
      have e := ih j
      have h1 : (zc (z0 :: List.replicate n z0))[j + 4]? = (zc (List.replicate n z0))[j]? := by simp [zc]
      have h2 : (j + 4 < (n + 1) * 4) ↔ (j < n * 4) := by omega
      rw [h1, e, show (j + 4) % 4 = j % 4 by omega]
      simp only [h2]
theorem made4 (n : Nat) : (madeCells #[.int .i64 0, .int .i64 0, .slice none 0 0, .string ⟨#[]⟩] (n * 4)).toList = zc (List.replicate n z0) := by
  apply List.ext_getElem?
  intro j
  rw [zc_rep]
  by_cases hj : j < n * 4
  · have h4 : j % 4 = 0 ∨ j % 4 = 1 ∨ j % 4 = 2 ∨ j % 4 = 3 := by omega
    rcases h4 with h | h | h | h <;> simp [madeCells, hj, h]
  · simp [madeCells, hj]
/-- A new row of n mails. -/
theorem make_ml (n : Nat) (hn : n ≤ 1048576) : ∃ M : Array Value, Hid (∀ W : World, OwZ (W.alloc (.cells M 115)) W.heap.size (.slice (some ⟨W.heap.size, 0, none⟩) n n) (List.replicate n z0)) ∧
    ∀ W : World, (Instr.makeSlice 97 (.int .i64 (n : Int)) (.int .i64 (n : Int))).run Try.prog W = .ok (.slice (some ⟨W.heap.size, 0, none⟩) n n) (W.alloc (.cells M 115)) := by
  obtain ⟨i0, hi, hz0, hz1, hz2⟩ := info_parts3 info_ml
  refine ⟨madeCells #[.int .i64 0, .int .i64 0, .slice none 0 0, .string ⟨#[]⟩] (n * 4), fun W => ?_, fun W => ?_⟩
  · have h := World.ownsRow_lit (base := W.heap.size) (e := 115) (size := 4) W (madeCells #[.int .i64 0, .int .i64 0, .slice none 0 0, .string ⟨#[]⟩] (n * 4)) n (Nat.le_refl _) (by unfold maxLen; omega) (size_madeCells _ _)
    rw [made4] at h
    refine ⟨by simpa using h, fun z hz => ?_, fun z hz => ?_, ?_⟩
    · obtain rfl := List.eq_of_mem_replicate hz
      exact World.ownsRow_nil _ _ _ _
    · obtain rfl := List.eq_of_mem_replicate hz
      exact (Dj.nil _).symm
    · exact List.pairwise_of_forall_mem_list fun x hx y hy => by
        obtain rfl := List.eq_of_mem_replicate hx
        exact Dj.nil _
  · have h := run_make (P := Try.prog) W 97 115 i0 (.agg #[.int .i64 0, .int .i64 0, .slice none 0 0, .string ⟨#[]⟩]) Try.underlying97 hi hz0 .i64 .i64 (n : Int) (n : Int) (by omega) (by omega) (by rw [hz2]; omega) (by omega)
    rw [hz1, Int.toNat_natCast] at h
    exact h
/-- No mail's flags or text is too long. -/
def Sm (L : List M4) : Prop := ∀ m ∈ L, m.2.2.1.length ≤ 1048576 ∧ m.2.2.2.size ≤ 1048576
set_option maxHeartbeats 800000 in
set_option maxRecDepth 100000 in
theorem toMailS_any (lo hi : Nat) (ao : Option Addr) (n cap : Nat) (L : List M4) (w : World) (hl : L.length = n) (hn : n ≤ 1048576) (hsm : Sm L) (hr : Ms lo hi w ao L) :
    Calls Try.prog 84 #[.slice ao n cap] w fun e w' => e = .returned (.slice (some ⟨w.heap.size, 0, none⟩) n n) ∧ (∃ Z, Z.map md = L ∧ OwZ w' w.heap.size (.slice (some ⟨w.heap.size, 0, none⟩) n n) Z) ∧ Below w.heap.size w w' := by
  obtain ⟨M, hM, hmk⟩ := make_ml n hn
  have HR := hid hr
  have HL := hid hl
  have HS := hid hsm
  clear hr hl hsm
  go_enter Try.func84, Try.ntmps84
  go_wp2
  clear hmk
  go_loopw [4] (fun iv wr => ∃ i : Nat, i ≤ n ∧ iv = .int .i64 (i : Int) ∧ (∃ Z : List Z5, Z.length = n ∧ (Z.take i).map md = L.take i ∧ OwZ wr w.heap.size (.slice (some ⟨w.heap.size, 0, none⟩) n n) Z) ∧ Below w.heap.size w wr) (fun iv _ => n - (intOf iv).toNat)
  case atStart => exact ⟨0, Nat.zero_le _, rfl, ⟨_, List.length_replicate, by simp, hM.out w⟩, bpush (bre _) _⟩
  case round =>
    obtain ⟨i, hi, rfl, ⟨Z, hZn, hZt, hown⟩, hb⟩ := hrel
    have HO := hid hown
    have HZN := hid hZn
    have HZT := hid hZt
    have hsz := hb.size
    clear hown hZn hZt
    by_cases hlt : i < n
    · have hil : i < L.length := by rw [HL.out]; exact hlt
      obtain ⟨k, o, fa, fc, rfl, hk, ⟨c0, c1, c2, c3⟩, hrs, _⟩ := (HR.out.later hb).at hil
      have hmem := HS.out L[i] (List.getElem_mem hil)
      obtain ⟨p, hp⟩ : ∃ p, L[i] = p := ⟨_, rfl⟩
      rw [hp] at c0 c1 c2 c3 hrs hmem
      obtain ⟨g, u, l, t⟩ := p
      have HP := hid hp
      have HRS := hid hrs
      have HMM := hid hmem
      obtain ⟨m, hm⟩ : ∃ m, l.length = m := ⟨_, rfl⟩
      dsimp only at c0 c1 c2 c3
      rw [hm] at c2
      have HM := hid hm
      clear hp hrs hmem hm
      go_wp2_with fail
      refine (toMail_any g u fa m fc l t _ HM.out (by rw [← HM.out]; exact HMM.out.1) HRS.out).mono ?_; rintro e w1 ⟨k', rfl, how, hk', hb1⟩
      have H1 := hid (HO.out.later hb1)
      have hiz : i < Z.length := by rw [HZN.out]; exact hlt
      obtain ⟨hc, hf⟩ := OwZ.spot H1.out i hiz
      have hZi : ∃ a0 a1 a2 a3 a4, Z[i] = (a0, a1, a2, a3, a4) := ⟨_, _, _, _, _, rfl⟩
      obtain ⟨a0, a1, a2, a3, a4, hZi⟩ := hZi
      rw [hZi] at hc
      have hB : w.heap.size ≤ k' := Nat.le_trans hb.size hk'
      have hgk : w.heap.size < wr.heap.size := ((HO.out.row.lt w.heap.size rfl).2)
      have HST := hid (OwZ.stored H1.out i hiz (g, u, .slice (some ⟨k', 0, none⟩) m m, l, t) (own_base how hB)
        (by simp [Value.ownBlock]; omega) (fun y hy j hj hy' => by
          simp [Value.ownBlock] at hj
          have := ((HO.out.each y hy).lt j hy').2
          omega))
      have HB1 : Hid (Below w.heap.size w w1) := btr hb hb1
      clear c0 c1 c2 c3 hb1 hb how hB hgk hk' hZi
      go_wp2
      go_roundw
      case rel =>
        refine ⟨i + 1, by omega, by go_num, ⟨_, ?_, ?_, HST.out⟩, bset (bset (bset (bset HB1.out (Nat.le_refl _) _) (Nat.le_refl _) _) (Nat.le_refl _) _) (Nat.le_refl _) _⟩
        · rw [List.length_set]; exact HZN.out
        · rw [List.take_succ_eq_append_getElem (by rw [List.length_set]; exact hiz), List.take_succ_eq_append_getElem hil, List.map_append, List.take_set_of_le (Nat.le_refl _), HZT.out, List.getElem_set_self, HP.out]; rfl
      case measure => simp [intOf]; omega
    · have HE : Hid (Z.map md = L) := by
        show _ = _
        have := HZT.out
        rwa [List.take_of_length_le (by rw [HZN.out]; omega), List.take_of_length_le (by rw [HL.out]; omega)] at this
      go_wp2
      go_ret
      exact ⟨rfl, ⟨Z, HE.out, HO.out⟩, hb⟩
/-! Sizes. -/
def tot : List M4 → Nat
  | [] => 0
  | m :: L => m.2.2.1.length + m.2.2.2.size + tot L
def szL (L : List M4) : Nat := L.length + tot L
theorem tot_app (L K : List M4) : tot (L ++ K) = tot L + tot K := by
  induction L with
  | nil => simp [tot]
  | cons m L ih => simp only [List.cons_append, tot, ih]; omega
theorem tot_take (L : List M4) (i : Nat) (h : i < L.length) : tot (L.take (i + 1)) = tot (L.take i) + (L[i].2.2.1.length + L[i].2.2.2.size) := by
  rw [List.take_succ_eq_append_getElem h, tot_app]; simp [tot]
theorem tot_le (L : List M4) (i : Nat) : tot (L.take i) ≤ tot L := by
  have := tot_app (L.take i) (L.drop i)
  rw [List.take_append_drop] at this
  omega
def szr (lf : Int) (n : Nat) : Int := if lf < (n : Int) then -1 else lf - n
/-- No list or text is longer than any may be. -/
def Fit (L : List M4) : Prop := ∀ m ∈ L, (m.2.2.1.length : Int) ≤ 9223372036854775807 ∧ (m.2.2.2.size : Int) ≤ 9223372036854775807
set_option maxHeartbeats 800000 in
set_option maxRecDepth 100000 in
theorem szMailS_any (lo hi : Nat) (ao : Option Addr) (n cap : Nat) (L : List M4) (lf : Int) (w : World) (hl : L.length = n) (hn : (n : Int) ≤ 9223372036854775807) (hlf : 0 ≤ lf ∧ lf ≤ 1048576) (hft : Fit L) (hr : Ms lo hi w ao L) :
    Calls Try.prog 81 #[.slice ao n cap, .int .i64 lf] w fun e w' => e = .returned (.int .i64 (szr lf (szL L))) ∧ Below w.heap.size w w' := by
  by_cases h1 : lf < (n : Int)
  · have HE : Hid (szr lf (szL L) = -1) := by show _ = _; rw [szr, if_pos (by unfold szL; omega)]
    have h2 : lf - (n : Int) < 0 := by omega
    clear hft hr hl
    go_enter Try.func81, Try.ntmps81
    go_wp2
    go_ret
    exact ⟨by rw [HE.out]; rfl, bre _⟩
  · have h2 : ¬ lf - (n : Int) < 0 := by omega
    have HR := hid hr
    have HL := hid hl
    have HF := hid hft
    clear hr hl hft
    go_enter Try.func81, Try.ntmps81
    go_wp2
    go_loopw [1, 5] (fun lv iv wr => ∃ (i : Nat) (q : Int), i ≤ n ∧ lv = .int .i64 q ∧ iv = .int .i64 (i : Int) ∧ 0 ≤ q ∧ q ≤ 1048576 ∧ Hid (q = lf - n - (tot (L.take i) : Int)) ∧ Below w.heap.size w wr) (fun _ iv _ => n - (intOf iv).toNat)
    case atStart => exact ⟨0, lf - n, Nat.zero_le _, rfl, rfl, by omega, by omega, by show _ = _; simp [tot], bre _⟩
    case round =>
      obtain ⟨i, q, hi, rfl, rfl, hq0, hq1, HQ, hb⟩ := hrel
      have HB := hid hb
      clear h1 h2
      by_cases hlt : i < n
      · have hil : i < L.length := by rw [HL.out]; exact hlt
        obtain ⟨k, o, fa, fc, rfl, hk, ⟨c0, c1, c2, c3⟩, hrs, _⟩ := (HR.out.later hb).at hil
        have hmem := HF.out L[i] (List.getElem_mem hil)
        have hstep := tot_take L i hil
        obtain ⟨p, hp⟩ : ∃ p, L[i] = p := ⟨_, rfl⟩
        rw [hp] at c0 c1 c2 c3 hmem hstep
        obtain ⟨g, u, l, t⟩ := p
        dsimp only at c0 c1 c2 c3 hmem hstep
        obtain ⟨m, hm⟩ : ∃ m, l.length = m := ⟨_, rfl⟩
        rw [hm] at c2 hmem hstep
        have HST := hid hstep
        have HMM := hid hmem
        clear hp hrs hmem hm hstep hb
        by_cases hov : q < (m : Int) + t.size
        · have HE : Hid (szr lf (szL L) = -1) := by
            show _ = _
            have h1 := HQ.out
            have h2 := HST.out
            have h3 := tot_le L (i + 1)
            have h4 := HL.out
            rw [szr, if_pos (by unfold szL; omega)]
          go_wp2_with fail
          refine (szMail_over g u fa m fc t q _ HMM.out.1 HMM.out.2 ⟨hq0, hq1⟩ hov).mono ?_; rintro e w1 ⟨rfl, hb1⟩
          have HB1 := hid (btr HB.out hb1)
          clear hb1 c0 c1 c2 c3
          go_wp2
          go_ret
          exact ⟨by rw [HE.out]; rfl, HB1.out⟩
        · go_wp2_with fail
          refine (szMail_fits g u fa m fc t q _ HMM.out.1 HMM.out.2 ⟨hq0, hq1⟩ (by omega)).mono ?_; rintro e w1 ⟨rfl, hb1⟩
          have HB1 := hid (btr HB.out hb1)
          obtain ⟨q', hq'⟩ : ∃ q' : Int, q - m - t.size = q' := ⟨_, rfl⟩
          rw [hq']
          have h3 : ¬ q' < 0 := by omega
          have h4 : 0 ≤ q' ∧ q' ≤ 1048576 := by omega
          have HQ2 : Hid (q' = lf - n - (tot (L.take (i + 1)) : Int)) := by show _ = _; have h1 := HQ.out; have h2 := HST.out; omega
          clear hb1 c0 c1 c2 c3 hq' hov
          go_wp2
          go_roundw
          case rel => exact ⟨i + 1, q', by omega, rfl, by go_num, h4.1, h4.2, HQ2, HB1.out⟩
          case measure => simp [intOf]; omega
      · have HE : Hid (szr lf (szL L) = q) := by
          show _ = _
          have h1 := HQ.out
          have h4 := HL.out
          rw [List.take_of_length_le (by omega)] at h1
          rw [szr, if_neg (by unfold szL; omega)]
          unfold szL; omega
        go_wp2
        go_ret
        exact ⟨by rw [HE.out]; rfl, HB.out⟩
theorem szIntS_any (ao : Option Addr) (n cap : Nat) (lf : Int) (w : World) (hn : (n : Int) ≤ 9223372036854775807) (hlf : 0 ≤ lf ∧ lf ≤ 1048576) :
    Calls Try.prog 45 #[.slice ao n cap, .int .i64 lf] w fun e w' => e = .returned (.int .i64 (szr lf n)) ∧ w' = w := by
  by_cases h1 : lf < (n : Int)
  · have HE : Hid (szr lf n = -1) := by show _ = _; rw [szr, if_pos h1]
    have h2 : lf - (n : Int) < 0 := by omega
    go_enter Try.func45, Try.ntmps45
    go_wp2
    go_ret
    exact ⟨by rw [HE.out]; rfl, rfl⟩
  · have HE : Hid (szr lf n = lf - n) := by show _ = _; rw [szr, if_neg h1]
    have h2 : ¬ lf - (n : Int) < 0 := by omega
    go_enter Try.func45, Try.ntmps45
    go_wp2
    go_ret
    exact ⟨by rw [HE.out]; rfl, rfl⟩
theorem int_rep (n : Nat) : (madeCells #[.int .i64 0] (n * 1)).toList = (List.replicate n (0 : Int)).map (Value.int .i64) := by
  apply List.ext_getElem?
  intro j
  by_cases hj : j < n <;> simp [madeCells, hj, Nat.mod_one]
/-- A new row of n numbers. -/
theorem make_int (n : Nat) (hn : n ≤ 1048576) : ∃ M : Array Value, Hid (∀ W : World, OwI (W.alloc (.cells M 3)) W.heap.size (.slice (some ⟨W.heap.size, 0, none⟩) n n) (List.replicate n 0)) ∧
    ∀ W : World, (Instr.makeSlice 23 (.int .i64 (n : Int)) (.int .i64 (n : Int))).run Try.prog W = .ok (.slice (some ⟨W.heap.size, 0, none⟩) n n) (W.alloc (.cells M 3)) := by
  have hinfo : (Try.prog.info? 3).map (fun i => (i.zero, i.size, i.bytes)) = some (some (.int .i64 0), 1, 8) := by kernel_rfl
  obtain ⟨i0, hi, hz0, hz1, hz2⟩ := info_parts3 hinfo
  refine ⟨madeCells #[.int .i64 0] (n * 1), fun W => ?_, fun W => ?_⟩
  · have h := World.ownsRow_lit (base := W.heap.size) (e := 3) (size := 1) W (madeCells #[.int .i64 0] (n * 1)) n (Nat.le_refl _) (by unfold maxLen; omega) (size_madeCells _ _)
    rw [int_rep] at h
    simpa [OwI] using h
  · have h := run_make (P := Try.prog) W 23 3 i0 (.int .i64 0) Try.underlying23 hi hz0 .i64 .i64 (n : Int) (n : Int) (by omega) (by omega) (by rw [hz2]; omega) (by omega)
    rw [hz1, Int.toNat_natCast] at h
    exact h
set_option maxHeartbeats 800000 in
set_option maxRecDepth 100000 in
theorem toIntS_any (lo hi : Nat) (ao : Option Addr) (n cap : Nat) (G : List Int) (w : World) (hl : G.length = n) (hn : n ≤ 1048576) (hr : Is lo hi w ao G) :
    Calls Try.prog 49 #[.slice ao n cap] w fun e w' => e = .returned (.slice (some ⟨w.heap.size, 0, none⟩) n n) ∧ OwI w' w.heap.size (.slice (some ⟨w.heap.size, 0, none⟩) n n) G ∧ Below w.heap.size w w' := by
  obtain ⟨M, hM, hmk⟩ := make_int n hn
  have HR := hid hr
  have HL := hid hl
  clear hr hl
  go_enter Try.func49, Try.ntmps49
  go_wp2
  clear hmk
  go_loopw [4] (fun iv wr => ∃ i : Nat, i ≤ n ∧ iv = .int .i64 (i : Int) ∧ (∃ F : List Int, F.length = n ∧ F.take i = G.take i ∧ OwI wr w.heap.size (.slice (some ⟨w.heap.size, 0, none⟩) n n) F) ∧ Below w.heap.size w wr) (fun iv _ => n - (intOf iv).toNat)
  case atStart => exact ⟨0, Nat.zero_le _, rfl, ⟨_, List.length_replicate, by simp, hM.out w⟩, bpush (bre _) _⟩
  case round =>
    obtain ⟨i, hi, rfl, ⟨F, hFn, hFt, hown⟩, hb⟩ := hrel
    have HO := hid hown
    have HFN := hid hFn
    have HFT := hid hFt
    have hsz := hb.size
    by_cases hlt : i < n
    · have hil : i < G.length := by rw [HL.out]; exact hlt
      obtain ⟨k, o, rfl, hk, c0⟩ := (HR.out.later hb).at hil
      obtain ⟨x, hx⟩ : ∃ x, G[i] = x := ⟨_, rfl⟩
      rw [hx] at c0
      have HX := hid hx
      have hif : i < F.length := by rw [hFn]; exact hlt
      obtain ⟨k', o', e', hk', c1⟩ := (OwI.is hown).2.at hif
      simp only [Option.some.injEq, Addr.mk.injEq, and_true] at e'
      obtain ⟨rfl, rfl⟩ := e'
      simp only [Nat.zero_add] at c1
      subst hFn
      have hfz := World.ownsRow.frozenAt hown i
      have HST := hid (OwI.stored hown i x)
      clear hx hown hFt
      go_wp2
      go_roundw
      case rel =>
        refine ⟨i + 1, by omega, by go_num, ⟨_, by rw [List.length_set], ?_, HST.out⟩, bset hb (Nat.le_refl _) _⟩
        rw [List.take_succ_eq_append_getElem (by rw [List.length_set]; exact hif), List.take_succ_eq_append_getElem hil, List.take_set_of_le (Nat.le_refl _), HFT.out, List.getElem_set_self, HX.out]
      case measure => simp [intOf]; omega
    · have HE : Hid (F = G) := by
        show _ = _
        have := HFT.out
        rwa [List.take_of_length_le (by rw [HFN.out]; omega), List.take_of_length_le (by rw [HL.out]; omega)] at this
      clear hFn hFt hown
      go_wp2
      go_ret
      exact ⟨rfl, HE.out ▸ HO.out, hb⟩
end Go.Proofs.Ytckenihadlmlaaa
namespace Go.Proofs.Ytckenihadlmlaaa
open Go.RowKit
/-- The four cells of a mail. -/
def C4 (W : World) (k o : Nat) (g u : Int) (f : Value) (t : ByteArray) : Prop := W.cell? ⟨k, o, none⟩ = some (.int .i64 g) ∧ W.cell? ⟨k, o + 1, none⟩ = some (.int .i64 u) ∧ W.cell? ⟨k, o + 2, none⟩ = some f ∧ W.cell? ⟨k, o + 3, none⟩ = some (.string t)
theorem C4.later {W W' : World} {k o : Nat} {g u : Int} {f : Value} {t : ByteArray} (h : C4 W k o g u f t) (hk : k < W.heap.size) (hb : Below W.heap.size W W') : C4 W' k o g u f t :=
  ⟨(hb.cell (p := ⟨k, _, none⟩) hk).trans h.1, (hb.cell (p := ⟨k, _, none⟩) hk).trans h.2.1, (hb.cell (p := ⟨k, _, none⟩) hk).trans h.2.2.1, (hb.cell (p := ⟨k, _, none⟩) hk).trans h.2.2.2⟩
set_option maxHeartbeats 800000 in
set_option maxRecDepth 100000 in
/-- Two rows of the same mails are told alike. -/
theorem eqMailS_any (l1 h1 l2 h2 : Nat) (ao bo : Option Addr) (n ca cb : Nat) (L : List M4) (w : World) (hl : L.length = n) (hn : n ≤ 1048576) (hsm : Sm L) (ha : Ms l1 h1 w ao L) (hb : Ms l2 h2 w bo L) :
    Calls Try.prog 78 #[.slice ao n ca, .slice bo n cb] w fun e w' => e = .returned (.bool true) ∧ Below w.heap.size w w' := by
  have hnn : ((n : Int) != (n : Int)) = false := by simp
  have HA := hid ha
  have HB := hid hb
  have HL := hid hl
  have HS := hid hsm
  clear ha hb hl hsm
  go_enter Try.func78, Try.ntmps78
  go_wp2
  clear hnn
  go_loopw [5] (fun iv wr => ∃ i : Nat, i ≤ n ∧ iv = .int .i64 (i : Int) ∧ Below w.heap.size w wr) (fun iv _ => n - (intOf iv).toNat)
  case atStart => exact ⟨0, Nat.zero_le _, rfl, bre _⟩
  case round =>
    obtain ⟨i, hi, rfl, hb⟩ := hrel
    have HBE := hid hb
    clear hb
    by_cases hlt : i < n
    · have hil : i < L.length := by rw [HL.out]; exact hlt
      obtain ⟨k, o, fa, fc, rfl, hk, c, hr1, _⟩ := (HA.out.later HBE.out).at hil
      obtain ⟨k', o', fa', fc', rfl, hk', d, hr2, _⟩ := (HB.out.later HBE.out).at hil
      have hmem := HS.out L[i] (List.getElem_mem hil)
      obtain ⟨p, hp⟩ : ∃ p, L[i] = p := ⟨_, rfl⟩
      rw [hp] at c d hr1 hr2 hmem
      obtain ⟨g, u, l, t⟩ := p
      dsimp only at c d hr1 hr2 hmem
      obtain ⟨m, hm⟩ : ∃ m, l.length = m := ⟨_, rfl⟩
      rw [hm] at c d
      have HM := hid hm
      have HMM := hid hmem
      have HR1 := hid hr1
      have HR2 := hid hr2
      clear hp hm hmem hr1 hr2
      have hI : (0 : Int) ≤ (i : Int) ∧ (i : Int) < (n : Int) := by omega
      have HS : Hid (∀ W, Below wr.heap.size wr W → (W.cell? ⟨k, o + i * 4, none⟩ = some (.int .i64 g) ∧ W.cell? ⟨k, o + i * 4 + 1, none⟩ = some (.int .i64 u) ∧ W.cell? ⟨k, o + i * 4 + 2, none⟩ = some (.slice fa m fc) ∧ W.cell? ⟨k, o + i * 4 + 3, none⟩ = some (.string t)) ∧ (W.cell? ⟨k', o' + i * 4, none⟩ = some (.int .i64 g) ∧ W.cell? ⟨k', o' + i * 4 + 1, none⟩ = some (.int .i64 u) ∧ W.cell? ⟨k', o' + i * 4 + 2, none⟩ = some (.slice fa' m fc') ∧ W.cell? ⟨k', o' + i * 4 + 3, none⟩ = some (.string t))) :=
        fun W h => ⟨C4.later c hk h, C4.later d hk' h⟩
      clear c d
      go_wp2_with fail
      go_region_held3 (fun W => (W.cell? ⟨k, o + i * 4, none⟩ = some (.int .i64 g) ∧ W.cell? ⟨k, o + i * 4 + 1, none⟩ = some (.int .i64 u) ∧ W.cell? ⟨k, o + i * 4 + 2, none⟩ = some (.slice fa m fc) ∧ W.cell? ⟨k, o + i * 4 + 3, none⟩ = some (.string t)) ∧ (W.cell? ⟨k', o' + i * 4, none⟩ = some (.int .i64 g) ∧ W.cell? ⟨k', o' + i * 4 + 1, none⟩ = some (.int .i64 u) ∧ W.cell? ⟨k', o' + i * 4 + 2, none⟩ = some (.slice fa' m fc') ∧ W.cell? ⟨k', o' + i * 4 + 3, none⟩ = some (.string t)))
        ((refine HS.out _ ?_; repeat (first | exact bdr (bre _) | refine btr ?_ (by assumption))))
        ((go_at_call 89; refine (eqMail_same g u fa fa' m fc fc' l t _ HM.out (by rw [← HM.out]; exact HMM.out.1) (HR1.out.later (by repeat (first | exact bdr (bre _) | exact bre _ | refine btr ?_ (by assumption)))) (HR2.out.later (by repeat (first | exact bdr (bre _) | exact bre _ | refine btr ?_ (by assumption))))).mono ?_; rintro e w1 ⟨rfl, hb1⟩))
      have HB1 : Hid (Below w.heap.size w w1) := by show Below _ _ _; refine btr HBE.out ?_; repeat (first | exact bdr (bre _) | refine btr ?_ (by assumption))
      go_wp2
      go_roundw
      case rel => exact ⟨i + 1, by omega, by go_num, HB1.out⟩
      case measure => simp [intOf]; omega
    · go_wp2
      go_ret
      exact ⟨rfl, HBE.out⟩
set_option maxHeartbeats 800000 in
set_option maxRecDepth 100000 in
/-- Two rows of the same numbers are told alike. -/
theorem eqIntS_any (l1 h1 l2 h2 : Nat) (ao bo : Option Addr) (n ca cb : Nat) (G : List Int) (w : World) (hl : G.length = n) (hn : n ≤ 1048576) (ha : Is l1 h1 w ao G) (hb : Is l2 h2 w bo G) :
    Calls Try.prog 39 #[.slice ao n ca, .slice bo n cb] w fun e w' => e = .returned (.bool true) ∧ Below w.heap.size w w' := by
  have hnn : ((n : Int) != (n : Int)) = false := by simp
  have HA := hid ha
  have HB := hid hb
  have HL := hid hl
  clear ha hb hl
  go_enter Try.func39, Try.ntmps39
  go_wp2
  clear hnn
  go_loopw [5] (fun iv wr => ∃ i : Nat, i ≤ n ∧ iv = .int .i64 (i : Int) ∧ Below w.heap.size w wr) (fun iv _ => n - (intOf iv).toNat)
  case atStart => exact ⟨0, Nat.zero_le _, rfl, bre _⟩
  case round =>
    obtain ⟨i, hi, rfl, hb⟩ := hrel
    have HBE := hid hb
    clear hb
    by_cases hlt : i < n
    · have hil : i < G.length := by rw [HL.out]; exact hlt
      obtain ⟨k, o, rfl, hk, c⟩ := (HA.out.later HBE.out).at hil
      obtain ⟨k', o', rfl, hk', d⟩ := (HB.out.later HBE.out).at hil
      obtain ⟨x, hx⟩ : ∃ x, G[i] = x := ⟨_, rfl⟩
      rw [hx] at c d
      clear hx
      have hI : (0 : Int) ≤ (i : Int) ∧ (i : Int) < (n : Int) := by omega
      have hxx : (x != x) = false := by simp
      go_wp2_with fail
      go_quiet (fail)
      go_wp2
      go_roundw
      case rel => exact ⟨i + 1, by omega, by go_num, bdn HBE.out _⟩
      case measure => simp [intOf]; omega
    · go_wp2
      go_ret
      exact ⟨rfl, HBE.out⟩
end Go.Proofs.Ytckenihadlmlaaa
namespace Go.Proofs.Ytckenihadlmlaaa
open Go.RowKit
/-- Block k holds a box. -/
def Bx (W : World) (k ty : Nat) (g : Int) (nm : ByteArray) (t b nx : Int) (ms gs : Value) : Prop := W.heap[k]? = some (.cells #[.int .i64 g, .string nm, .int .i64 t, .int .i64 b, .int .i64 nx, ms, gs] ty (0, 0))
theorem Bx.new (w : World) (ty : Nat) (g : Int) (nm : ByteArray) (t b nx : Int) (ms gs : Value) : Bx (w.alloc (.cells #[.int .i64 g, .string nm, .int .i64 t, .int .i64 b, .int .i64 nx, ms, gs] ty)) w.heap.size ty g nm t b nx ms gs := heap_alloc_new w _
section
variable {W W' : World} {k ty : Nat} {g : Int} {nm : ByteArray} {t b nx : Int} {ms gs : Value}
theorem Bx.later (h : Bx W k ty g nm t b nx ms gs) (hb : Below W.heap.size W W') : Bx W' k ty g nm t b nx ms gs := (hb.block k (Array.getElem?_eq_some_iff.1 h).1).trans h
theorem Bx.lt (h : Bx W k ty g nm t b nx ms gs) : k < W.heap.size := (Array.getElem?_eq_some_iff.1 h).1
theorem Bx.cells (h : Bx W k ty g nm t b nx ms gs) : W.cell? ⟨k, 0, none⟩ = some (.int .i64 g) ∧ W.cell? ⟨k, 1, none⟩ = some (.string nm) ∧ W.cell? ⟨k, 2, none⟩ = some (.int .i64 t) ∧ W.cell? ⟨k, 3, none⟩ = some (.int .i64 b) ∧ W.cell? ⟨k, 4, none⟩ = some (.int .i64 nx) ∧ W.cell? ⟨k, 5, none⟩ = some ms ∧ W.cell? ⟨k, 6, none⟩ = some gs :=
  ⟨cell_of_row W k 0 _ _ _ h, cell_of_row W k 1 _ _ _ h, cell_of_row W k 2 _ _ _ h, cell_of_row W k 3 _ _ _ h, cell_of_row W k 4 _ _ _ h, cell_of_row W k 5 _ _ _ h, cell_of_row W k 6 _ _ _ h⟩
theorem Bx.loose (h : Bx W k ty g nm t b nx ms gs) : W.frozen? ⟨k, 0, none⟩ = false ∧ W.frozen? ⟨k, 1, none⟩ = false ∧ W.frozen? ⟨k, 2, none⟩ = false ∧ W.frozen? ⟨k, 3, none⟩ = false ∧ W.frozen? ⟨k, 4, none⟩ = false ∧ W.frozen? ⟨k, 5, none⟩ = false ∧ W.frozen? ⟨k, 6, none⟩ = false :=
  ⟨frozen_of_row W k 0 _ _ h, frozen_of_row W k 1 _ _ h, frozen_of_row W k 2 _ _ h, frozen_of_row W k 3 _ _ h, frozen_of_row W k 4 _ _ h, frozen_of_row W k 5 _ _ h, frozen_of_row W k 6 _ _ h⟩
theorem Bx.s0 (h : Bx W k ty g nm t b nx ms gs) (x : Int) : Bx (W.setCell ⟨k, 0, none⟩ (.int .i64 x)) k ty x nm t b nx ms gs := heap_setCell_same W k 0 _ _ (.int .i64 x) h
theorem Bx.s1 (h : Bx W k ty g nm t b nx ms gs) (x : ByteArray) : Bx (W.setCell ⟨k, 1, none⟩ (.string x)) k ty g x t b nx ms gs := heap_setCell_same W k 1 _ _ (.string x) h
theorem Bx.s2 (h : Bx W k ty g nm t b nx ms gs) (x : Int) : Bx (W.setCell ⟨k, 2, none⟩ (.int .i64 x)) k ty g nm x b nx ms gs := heap_setCell_same W k 2 _ _ (.int .i64 x) h
theorem Bx.s3 (h : Bx W k ty g nm t b nx ms gs) (x : Int) : Bx (W.setCell ⟨k, 3, none⟩ (.int .i64 x)) k ty g nm t x nx ms gs := heap_setCell_same W k 3 _ _ (.int .i64 x) h
theorem Bx.s4 (h : Bx W k ty g nm t b nx ms gs) (x : Int) : Bx (W.setCell ⟨k, 4, none⟩ (.int .i64 x)) k ty g nm t b x ms gs := heap_setCell_same W k 4 _ _ (.int .i64 x) h
theorem Bx.s5 (h : Bx W k ty g nm t b nx ms gs) (x : Value) : Bx (W.setCell ⟨k, 5, none⟩ x) k ty g nm t b nx x gs := heap_setCell_same W k 5 _ _ x h
theorem Bx.s6 (h : Bx W k ty g nm t b nx ms gs) (x : Value) : Bx (W.setCell ⟨k, 6, none⟩ x) k ty g nm t b nx ms x := heap_setCell_same W k 6 _ _ x h
theorem Bx.grown {r : Option Nat} (h : Bx W k ty g nm t b nx ms gs) (hg : W.grownBy W' r) (hk : some k ≠ r) : Bx W' k ty g nm t b nx ms gs := (hg.block k h.lt hk).trans h
end
/-- Seven stores into one block. -/
def set7 (W : World) (k : Nat) (g : Int) (nm : ByteArray) (t b nx : Int) (ms gs : Value) : World :=
  ((((((W.setCell ⟨k, 0, none⟩ (.int .i64 g)).setCell ⟨k, 1, none⟩ (.string nm)).setCell ⟨k, 2, none⟩ (.int .i64 t)).setCell ⟨k, 3, none⟩ (.int .i64 b)).setCell ⟨k, 4, none⟩ (.int .i64 nx)).setCell ⟨k, 5, none⟩ ms).setCell ⟨k, 6, none⟩ gs
theorem set7_grown (W : World) (k : Nat) (g : Int) (nm : ByteArray) (t b nx : Int) (ms gs : Value) : W.grownBy (set7 W k g nm t b nx ms gs) (some k) := wst (wst (wst (wst (wst (wst (wst (wre _ _) _ _) _ _) _ _) _ _) _ _) _ _) _ _
theorem Bx.set7 {W : World} {k ty : Nat} {g : Int} {nm : ByteArray} {t b nx : Int} {ms gs : Value} (h : Bx W k ty g nm t b nx ms gs) (g' : Int) (nm' : ByteArray) (t' b' nx' : Int) (ms' gs' : Value) : Bx (set7 W k g' nm' t' b' nx' ms' gs') k ty g' nm' t' b' nx' ms' gs' :=
  ((((((h.s0 g').s1 nm').s2 t').s3 b').s4 nx').s5 ms').s6 gs'
theorem OwZ.grown {W W' : World} {B k : Nat} {v : Value} {Z : List Z5} (h : OwZ W B v Z) (hg : W.grownBy W' (some k)) (hk : k < B) : OwZ W' B v Z :=
  h.kept hg.size (fun j hj => hg.block j (h.row.lt j hj).2 (fun e => by have := (h.row.lt j hj).1; simp at e; omega)) (fun z hz j hj => hg.block j ((h.each z hz).lt j hj).2 (fun e => by have := ((h.each z hz).lt j hj).1; simp at e; omega))
theorem OwI.grown {W W' : World} {B k : Nat} {v : Value} {G : List Int} (h : OwI W B v G) (hg : W.grownBy W' (some k)) (hk : k < B) : OwI W' B v G :=
  World.ownsRow.kept h hg (by
    cases hv : v.ownBlock with
    | none => exact Or.inl rfl
    | some j => exact Or.inr (fun e => by have := (h.lt j hv).1; simp at e; omega))
/-- The lists of a box that a call owns: no two rows in one block. -/
def OwB (W : World) (B : Nat) (mv gv : Value) (L : List M4) (G : List Int) : Prop :=
  ∃ Z, Z.map md = L ∧ OwZ W B mv Z ∧ OwI W B gv G ∧ Dj gv mv ∧ ∀ z ∈ Z, Dj gv z.2.2.1
theorem OwB.later {W W' : World} {B : Nat} {mv gv : Value} {L : List M4} {G : List Int} (h : OwB W B mv gv L G) (hb : Below W.heap.size W W') : OwB W' B mv gv L G := by
  obtain ⟨Z, h1, h2, h3, h4⟩ := h
  exact ⟨Z, h1, h2.later hb, own_later h3 hb, h4⟩
theorem OwB.base {W : World} {B B' : Nat} {mv gv : Value} {L : List M4} {G : List Int} (h : OwB W B' mv gv L G) (hB : B ≤ B') : OwB W B mv gv L G := by
  obtain ⟨Z, h1, h2, h3, h4⟩ := h
  exact ⟨Z, h1, h2.base hB, own_base h3 hB, h4⟩
theorem OwB.reads {W : World} {B n c n' c' : Nat} {a a' : Option Addr} {L : List M4} {G : List Int} (h : OwB W B (.slice a n c) (.slice a' n' c') L G) : n = L.length ∧ n' = G.length ∧ Ms B W.heap.size W a L ∧ Is B W.heap.size W a' G := by
  obtain ⟨Z, rfl, h2, h3, _⟩ := h
  exact ⟨by rw [List.length_map]; exact h2.ms.1, (OwI.is h3).1, h2.ms.2, (OwI.is h3).2⟩
/-- Rows of which the later one is made when the former is there. -/
theorem Dj.later {W : World} {B B' e e' size size' n n' : Nat} {v v' : Value} {xs xs' : List Value} {W' : World} (h : W.ownsRow B e size v n xs) (h' : W'.ownsRow B' e' size' v' n' xs') (hB : W.heap.size ≤ B') : Dj v' v :=
  fun j hj hj' => by have h1 := (h.lt j hj').2; have h2 := (h'.lt j hj).1; omega
theorem three_boxes (w : World) (ta tb tc : Nat) (g g1 g2 : Int) (nm nm1 nm2 : ByteArray) (t b nx t1 b1 nx1 t2 b2 nx2 : Int) (ms gs ms1 gs1 ms2 gs2 : Value) (W0 : World)
    (h : (((w.alloc (.cells #[.int .i64 g, .string nm, .int .i64 t, .int .i64 b, .int .i64 nx, ms, gs] ta)).alloc (.cells #[.int .i64 g1, .string nm1, .int .i64 t1, .int .i64 b1, .int .i64 nx1, ms1, gs1] tb)).alloc (.cells #[.int .i64 g2, .string nm2, .int .i64 t2, .int .i64 b2, .int .i64 nx2, ms2, gs2] tc)) = W0) :
    Bx W0 w.heap.size ta g nm t b nx ms gs ∧ Bx W0 (w.heap.size + 1) tb g1 nm1 t1 b1 nx1 ms1 gs1 ∧ Bx W0 (w.heap.size + 1 + 1) tc g2 nm2 t2 b2 nx2 ms2 gs2 ∧ Below w.heap.size w W0 ∧ W0.heap.size = w.heap.size + 1 + 1 + 1 := by
  subst h
  refine ⟨(Bx.new w ta g nm t b nx ms gs).later (bpush (bpush (bre _) _) _), Bx.later ?_ (bpush (bre _) _), ?_, bpush (bpush (bpush (bre _) _) _) _, by simp⟩
  · simpa using Bx.new (w.alloc (.cells #[.int .i64 g, .string nm, .int .i64 t, .int .i64 b, .int .i64 nx, ms, gs] ta)) tb g1 nm1 t1 b1 nx1 ms1 gs1
  · simpa using Bx.new ((w.alloc (.cells #[.int .i64 g, .string nm, .int .i64 t, .int .i64 b, .int .i64 nx, ms, gs] ta)).alloc (.cells #[.int .i64 g1, .string nm1, .int .i64 t1, .int .i64 b1, .int .i64 nx1, ms1, gs1] tb)) tc g2 nm2 t2 b2 nx2 ms2 gs2
set_option maxHeartbeats 1600000 in
set_option maxRecDepth 100000 in
theorem toBox_any (lo hi lo' hi' : Nat) (g : Int) (nm : ByteArray) (t b nx : Int) (ma : Option Addr) (mn mc : Nat) (ga : Option Addr) (gn gc : Nat) (L : List M4) (G : List Int) (w : World) (hl : L.length = mn) (hn : mn ≤ 1048576) (hsm : Sm L) (hm : Ms lo hi w ma L) (hg : G.length = gn) (hgn : gn ≤ 1048576) (hs : Is lo' hi' w ga G) :
    Calls Try.prog 72 #[.agg #[.int .i64 g, .string nm, .int .i64 t, .int .i64 b, .int .i64 nx, .slice ma mn mc, .slice ga gn gc]] w fun e w' => ∃ km kg, e = .returned (.agg #[.int .i64 g, .string nm, .int .i64 t, .int .i64 b, .int .i64 nx, .slice (some ⟨km, 0, none⟩) mn mn, .slice (some ⟨kg, 0, none⟩) gn gn]) ∧
      OwB w' w.heap.size (.slice (some ⟨km, 0, none⟩) mn mn) (.slice (some ⟨kg, 0, none⟩) gn gn) L G ∧ Below w.heap.size w w' := by
  obtain ⟨W0, hW0⟩ : ∃ W0, (((w.alloc (.cells #[.int .i64 g, .string nm, .int .i64 t, .int .i64 b, .int .i64 nx, .slice ma mn mc, .slice ga gn gc] 106)).alloc (.cells #[.int .i64 0, .string ⟨#[]⟩, .int .i64 0, .int .i64 0, .int .i64 0, .slice none 0 0, .slice none 0 0] 99)).alloc (.cells #[.int .i64 0, .string ⟨#[]⟩, .int .i64 0, .int .i64 0, .int .i64 0, .slice none 0 0, .slice none 0 0] 99)) = W0 := ⟨_, rfl⟩
  obtain ⟨a0, a1, a2, b0, s0⟩ := three_boxes w _ _ _ _ _ _ _ _ _ _ _ _ _ _ _ _ _ _ _ _ _ _ _ _ W0 hW0
  have A0 := hid a0
  have A1 := hid a1
  have A2 := hid a2
  have B0 := hid b0
  have S0 := hid s0
  have HM := hid hm
  have HS := hid hs
  have c0 := a0.cells
  have c2 := a2.cells
  have f2 := a2.loose
  clear a0 a1 a2 b0 s0 hm hs
  go_enter Try.func72, Try.ntmps72
  go_wp2_with fail
  clear hW0
  obtain ⟨W1, hW1⟩ : ∃ W1, (W0.setCell ⟨w.heap.size + 1 + 1, 0, none⟩ (.int .i64 g)).setCell ⟨w.heap.size + 1 + 1, 1, none⟩ (.string nm) = W1 := ⟨_, rfl⟩
  rw [hW1]
  have G1 : W0.grownBy W1 (some (w.heap.size + 1 + 1)) := by subst hW1; exact wst (wst (wre _ _) _ _) _ _
  have k2 := (A2.out.s0 g).s1 nm
  rw [hW1] at k2
  have k0 := A0.out.grown G1 (fun e => by simp only [Option.some.injEq] at e; omega)
  have k1 := A1.out.grown G1 (fun e => by simp only [Option.some.injEq] at e; omega)
  have b1 : Below w.heap.size w W1 := B0.out.trans (below_of_grown G1 (by omega) (by have := S0.out; omega))
  have s1 : W1.heap.size = w.heap.size + 1 + 1 + 1 := by subst hW1; simpa [World.setCell] using S0.out
  have K0 := hid k0
  have K1 := hid k1
  have K2 := hid k2
  have B1 := hid b1
  have S1 := hid s1
  clear hW1 c0 c2 f2 k0 k1 k2 b1 s1 G1 A0 A1 A2 B0 S0
  refine (toStamp_b t b _).mono ?_; rintro e w1 ⟨rfl, hb1⟩
  have k0 := K0.out.later hb1
  have k1 := K1.out.later hb1
  have k2 := K2.out.later hb1
  have c0 := k0.cells
  have c2 := k2.cells
  have f2 := k2.loose
  have A0 := hid k0
  have A1 := hid k1
  have A2 := hid k2
  have B0 := hid (btr B1.out hb1)
  have S0 := hid (show w.heap.size + 1 + 1 + 1 ≤ w1.heap.size by have h1 := S1.out; have h2 := hb1.size; omega)
  clear k0 k1 k2 hb1 K0 K1 K2 B1 S1
  go_wp2_with fail
  obtain ⟨W2, hW2⟩ : ∃ W2, ((w1.setCell ⟨w.heap.size + 1 + 1, 2, none⟩ (.int .i64 t)).setCell ⟨w.heap.size + 1 + 1, 3, none⟩ (.int .i64 b)).setCell ⟨w.heap.size + 1 + 1, 4, none⟩ (.int .i64 nx) = W2 := ⟨_, rfl⟩
  rw [hW2]
  have G1 : w1.grownBy W2 (some (w.heap.size + 1 + 1)) := by subst hW2; exact wst (wst (wst (wre _ _) _ _) _ _) _ _
  have k2 := ((A2.out.s2 t).s3 b).s4 nx
  rw [hW2] at k2
  have k0 := A0.out.grown G1 (fun e => by simp only [Option.some.injEq] at e; omega)
  have k1 := A1.out.grown G1 (fun e => by simp only [Option.some.injEq] at e; omega)
  have b1 : Below w.heap.size w W2 := B0.out.trans (below_of_grown G1 (by omega) (by have := S0.out; omega))
  have s1 : w.heap.size + 1 + 1 + 1 ≤ W2.heap.size := Nat.le_trans S0.out G1.size
  have K0 := hid k0
  have K1 := hid k1
  have K2 := hid k2
  have B1 := hid b1
  have S1 := hid s1
  clear hW2 c0 c2 f2 k0 k1 k2 b1 s1 G1 A0 A1 A2 B0 S0
  refine (toMailS_any lo hi ma mn mc L W2 hl hn hsm (HM.out.later B1.out)).mono ?_; rintro e w2 ⟨rfl, ⟨Z, hZ, hown⟩, hb2⟩
  have k0 := K0.out.later hb2
  have k1 := K1.out.later hb2
  have k2 := K2.out.later hb2
  have c0 := k0.cells
  have c2 := k2.cells
  have f2 := k2.loose
  have A0 := hid k0
  have A1 := hid k1
  have A2 := hid k2
  have B0 := hid (btr B1.out hb2)
  have HO := hid hown
  have HZ := hid hZ
  have S0 := hid (show w.heap.size + 1 + 1 + 1 ≤ w2.heap.size from Nat.le_trans S1.out hb2.size)
  obtain ⟨km, hkm⟩ : ∃ km, W2.heap.size = km := ⟨_, rfl⟩
  rw [hkm] at HO ⊢
  have HKM : Hid (w.heap.size + 1 + 1 + 1 ≤ km) := by show _ ≤ _; rw [← hkm]; exact S1.out
  clear k0 k1 k2 hb2 K0 K1 K2 B1 S1 hZ hown hkm
  go_wp2_with fail
  obtain ⟨W3, hW3⟩ : ∃ W3, w2.setCell ⟨w.heap.size + 1 + 1, 5, none⟩ (.slice (some ⟨km, 0, none⟩) mn mn) = W3 := ⟨_, rfl⟩
  rw [hW3]
  have G1 : w2.grownBy W3 (some (w.heap.size + 1 + 1)) := by subst hW3; exact wst (wre _ _) _ _
  have k2 := A2.out.s5 (.slice (some ⟨km, 0, none⟩) mn mn)
  rw [hW3] at k2
  have k0 := A0.out.grown G1 (fun e => by simp only [Option.some.injEq] at e; omega)
  have k1 := A1.out.grown G1 (fun e => by simp only [Option.some.injEq] at e; omega)
  have o1 := HO.out.grown G1 (by have := HKM.out; omega)
  have b1 : Below w.heap.size w W3 := B0.out.trans (below_of_grown G1 (by omega) (by have := S0.out; omega))
  have s1 : w.heap.size + 1 + 1 + 1 ≤ W3.heap.size := Nat.le_trans S0.out G1.size
  have K0 := hid k0
  have K1 := hid k1
  have K2 := hid k2
  have B1 := hid b1
  have S1 := hid s1
  have O1 := hid o1
  clear hW3 c0 c2 f2 k0 k1 k2 b1 s1 o1 G1 A0 A1 A2 B0 S0 HO
  refine (toIntS_any lo' hi' ga gn gc G W3 hg hgn (HS.out.later B1.out)).mono ?_; rintro e w3 ⟨rfl, hown, hb3⟩
  have k1 := K1.out.later hb3
  have k2 := K2.out.later hb3
  have c2 := k2.cells
  have f2 := k2.loose
  have c1 := k1.cells
  have f1 := k1.loose
  have A1 := hid k1
  have A2 := hid k2
  have B0 := hid (btr B1.out hb3)
  have HO := hid (O1.out.later hb3)
  have HI := hid hown
  have HD := hid (Dj.later O1.out.row hown (Nat.le_refl _))
  have HE := hid (fun z hz => Dj.later (O1.out.each z hz) hown (Nat.le_refl _))
  obtain ⟨kg, hkg⟩ : ∃ kg, W3.heap.size = kg := ⟨_, rfl⟩
  rw [hkg] at HI HD HE ⊢
  have HKG : Hid (w.heap.size + 1 + 1 + 1 ≤ kg) := by show _ ≤ _; rw [← hkg]; exact S1.out
  clear k1 k2 hb3 K0 K1 K2 B1 S1 hown O1 hkg
  go_wp2
  have k2 := A2.out.s6 (.slice (some ⟨kg, 0, none⟩) gn gn)
  have e1 : w3.grownBy (w3.setCell ⟨w.heap.size + 1 + 1, 6, none⟩ (.slice (some ⟨kg, 0, none⟩) gn gn)) (some (w.heap.size + 1 + 1)) := wst (wre _ _) _ _
  have k1 := A1.out.grown e1 (fun e => by simp only [Option.some.injEq] at e; omega)
  have e2 := set7_grown (w3.setCell ⟨w.heap.size + 1 + 1, 6, none⟩ (.slice (some ⟨kg, 0, none⟩) gn gn)) (w.heap.size + 1) g nm t b nx (.slice (some ⟨km, 0, none⟩) mn mn) (.slice (some ⟨kg, 0, none⟩) gn gn)
  have d1 := (k1.set7 g nm t b nx (.slice (some ⟨km, 0, none⟩) mn mn) (.slice (some ⟨kg, 0, none⟩) gn gn)).cells
  unfold set7 at d1 e2
  refine bodyPost_ret (v := .agg #[.int .i64 g, .string nm, .int .i64 t, .int .i64 b, .int .i64 nx, .slice (some ⟨km, 0, none⟩) mn mn, .slice (some ⟨kg, 0, none⟩) gn gn]) (by simp [results, Try.results72, go_sem, d1]) rfl ⟨km, kg, rfl, ⟨Z, HZ.out, ?_, ?_, HD.out, HE.out⟩, ?_⟩
  · have h1 := HKM.out
    exact ((HO.out.grown e1 (by omega)).grown e2 (by omega)).base (by omega)
  · have h1 := HKG.out
    exact own_base (OwI.grown (OwI.grown HI.out e1 (by omega)) e2 (by omega)) (by omega)
  · have h1 := B0.out.size
    have h2 := e1.size
    exact B0.out.trans ((below_of_grown e1 (by omega) (by omega)).trans (below_of_grown e2 (by omega) (by omega)))
end Go.Proofs.Ytckenihadlmlaaa
namespace Go.Proofs.Ytckenihadlmlaaa
open Go.RowKit
theorem szr_over {lf : Int} {n : Nat} (h : lf < (n : Int)) : szr lf n = -1 := by rw [szr, if_pos h]
theorem szr_fits {lf : Int} {n : Nat} (h : ¬ lf < (n : Int)) : szr lf n = lf - n := by rw [szr, if_neg h]
theorem two_boxes (w : World) (ta tb : Nat) (g g1 : Int) (nm nm1 : ByteArray) (t b nx t1 b1 nx1 : Int) (ms gs ms1 gs1 : Value) (W0 : World)
    (h : ((w.alloc (.cells #[.int .i64 g, .string nm, .int .i64 t, .int .i64 b, .int .i64 nx, ms, gs] ta)).alloc (.cells #[.int .i64 g1, .string nm1, .int .i64 t1, .int .i64 b1, .int .i64 nx1, ms1, gs1] tb)) = W0) :
    Bx W0 w.heap.size ta g nm t b nx ms gs ∧ Bx W0 (w.heap.size + 1) tb g1 nm1 t1 b1 nx1 ms1 gs1 ∧ Below w.heap.size w W0 ∧ W0.heap.size = w.heap.size + 1 + 1 := by
  subst h
  refine ⟨(Bx.new w ta g nm t b nx ms gs).later (bpush (bre _) _), ?_, bpush (bpush (bre _) _) _, by simp⟩
  simpa using Bx.new (w.alloc (.cells #[.int .i64 g, .string nm, .int .i64 t, .int .i64 b, .int .i64 nx, ms, gs] ta)) tb g1 nm1 t1 b1 nx1 ms1 gs1
set_option maxHeartbeats 800000 in
set_option maxRecDepth 100000 in
theorem eqBox_any (l1 h1 l2 h2 l3 h3 l4 h4 : Nat) (g : Int) (nm : ByteArray) (t b nx : Int) (ma : Option Addr) (mn mc : Nat) (ga : Option Addr) (gn gc : Nat) (ma' : Option Addr) (mc' : Nat) (ga' : Option Addr) (gc' : Nat) (L : List M4) (G : List Int) (w : World) (hl : L.length = mn) (hn : mn ≤ 1048576) (hsm : Sm L) (hm : Ms l1 h1 w ma L) (hm' : Ms l2 h2 w ma' L)
    (hgl : G.length = gn) (hgn : gn ≤ 1048576) (hs : Is l3 h3 w ga G) (hs' : Is l4 h4 w ga' G) :
    Calls Try.prog 66 #[.agg #[.int .i64 g, .string nm, .int .i64 t, .int .i64 b, .int .i64 nx, .slice ma mn mc, .slice ga gn gc], .agg #[.int .i64 g, .string nm, .int .i64 t, .int .i64 b, .int .i64 nx, .slice ma' mn mc', .slice ga' gn gc']] w fun e w' => e = .returned (.bool true) ∧ Below w.heap.size w w' := by
  obtain ⟨W0, hW0⟩ : ∃ W0, ((w.alloc (.cells #[.int .i64 g, .string nm, .int .i64 t, .int .i64 b, .int .i64 nx, .slice ma mn mc, .slice ga gn gc] 99)).alloc (.cells #[.int .i64 g, .string nm, .int .i64 t, .int .i64 b, .int .i64 nx, .slice ma' mn mc', .slice ga' gn gc'] 99)) = W0 := ⟨_, rfl⟩
  obtain ⟨a0, a1, b0, _⟩ := two_boxes w _ _ _ _ _ _ _ _ _ _ _ _ _ _ _ _ W0 hW0
  obtain ⟨p, hp, cp⟩ := eqStamp_letter t b t b
  have hp' : p = true := by rw [hp.out]; simp
  subst hp'
  have A0 := hid a0
  have A1 := hid a1
  have B0 := hid b0
  have c0 := a0.cells
  have c1 := a1.cells
  have HM := hid hm
  have HM' := hid hm'
  have HS := hid hs
  have HS' := hid hs'
  have HX := hid hsm
  have e1 : (g != g) = false := by simp
  have e2 : (nx != nx) = false := by simp
  have e3 : (!nm.toList == nm.toList) = false := by simp
  clear a0 a1 b0 hm hm' hs hs' hsm
  go_enter Try.func66, Try.ntmps66
  go_wp2_with fail
  clear hW0
  refine (cp.out _).mono ?_; rintro e w1 ⟨rfl, hw1⟩
  have hb1 : Below W0.heap.size W0 w1 := by rw [hw1]; exact bpush (bpush (bre _) _) _
  have k0 := A0.out.later hb1
  have k1 := A1.out.later hb1
  have K0 := hid k0
  have K1 := hid k1
  have B1 := hid (btr B0.out hb1)
  have c0 := k0.cells
  have c1 := k1.cells
  clear hw1 hb1 k0 k1 A0 A1 B0
  go_wp2_with fail
  refine (eqMailS_any l1 h1 l2 h2 ma ma' mn mc mc' L _ hl hn HX.out (HM.out.later B1.out) (HM'.out.later B1.out)).mono ?_; rintro e w2 ⟨rfl, hb2⟩
  have k0 := K0.out.later hb2
  have k1 := K1.out.later hb2
  have B2 := hid (btr B1.out hb2)
  have c0 := k0.cells
  have c1 := k1.cells
  clear hb2 k0 k1 K0 K1 B1
  go_wp2_with fail
  refine (eqIntS_any l3 h3 l4 h4 ga ga' gn gc gc' G _ hgl hgn (HS.out.later B2.out) (HS'.out.later B2.out)).mono ?_; rintro e w3 ⟨rfl, hb3⟩
  have B3 := hid (btr B2.out hb3)
  clear hb3 c0 c1
  go_wp2
  go_ret
  exact ⟨rfl, B3.out⟩
end Go.Proofs.Ytckenihadlmlaaa
namespace Go.Proofs.Ytckenihadlmlaaa
open Go.RowKit
/-! Ascending numbers. -/
/-! Among them. -/
def inl (x : Int) : List Int → Bool
  | [] => false
  | y :: l => decide (y = x) || inl x l
/-! Where a mail is. -/
end Go.Proofs.Ytckenihadlmlaaa
namespace Go.Proofs.Ytckenihadlmlaaa
open Go.RowKit
end Go.Proofs.Ytckenihadlmlaaa
