/- Tkz. -/
import Derived.Test.YtjobfolipbfhlanGreatkMk
import Derived.Shelf.Spec.SlicesInsertGrow
import Derived.Shelf.Slices.SearchI
import Derived.Shelf.Slices.Empties
namespace Go.Proofs.YtjobfolipbfhlanGreat
open Go.RowKit Go.ChangeMaps

def pin (x : Int) (G : List Int) : List Int := G.filter (fun y => decide (y < x)) ++ x :: G.filter (fun y => decide (x < y))
theorem asc_low {G : List Int} {a : Int} (h : asc a G = true) : ∀ y ∈ G, a < y := by
  induction G generalizing a with
  | nil => intro y hy; simp at hy
  | cons x G ih =>
    simp only [asc, Bool.and_eq_true, decide_eq_true_eq] at h
    intro y hy
    rcases List.mem_cons.1 hy with rfl | hy
    · exact h.1.1
    · have := ih h.2 y hy
      omega
theorem asc_pair {G : List Int} {a : Int} (h : asc a G = true) : G.Pairwise (· < ·) := by
  induction G generalizing a with
  | nil => exact List.Pairwise.nil
  | cons x G ih =>
    simp only [asc, Bool.and_eq_true, decide_eq_true_eq] at h
    exact List.pairwise_cons.2 ⟨fun y hy => asc_low h.2 y hy, ih h.2⟩
theorem inl_not {x : Int} {G : List Int} (h : inl x G = false) : ∀ y ∈ G, y ≠ x := by
  induction G with
  | nil => intro y hy; simp at hy
  | cons z G ih =>
    simp only [inl, Bool.or_eq_false_iff, decide_eq_false_iff_not] at h
    intro y hy
    rcases List.mem_cons.1 hy with rfl | hy
    · exact h.1
    · exact ih h.2 y hy
theorem pin_len (x : Int) (G : List Int) : (pin x G).length ≤ G.length + G.length + 1 := by
  unfold pin
  rw [List.length_append, List.length_cons]
  have h1 := List.length_filter_le (fun y => decide (y < x)) G
  have h2 := List.length_filter_le (fun y => decide (x < y)) G
  omega

def tkOk (g : Int) (nm : ByteArray) (t b nx : Int) (L : List M4) (G : List Int) (gid : Int) : Bool :=
  bxOk g nm t b nx L G && (L.any (fun m => decide (m.1 = gid)) && decide (G.length < 40))
def tkL (p : Bool) (L : List M4) (gid : Int) : List M4 := if p = true then L.filter (fun m => decide (m.1 ≠ gid)) else L
def tkG (p : Bool) (G : List Int) (gid : Int) : List Int := if p = true then pin gid G else G
theorem tkL_no (L : List M4) (gid : Int) : tkL false L gid = L := by rw [tkL, if_neg (by decide)]
theorem tkG_no (G : List Int) (gid : Int) : tkG false G gid = G := by rw [tkG, if_neg (by decide)]
theorem tkL_split {A C : List M4} {m : M4} {gid : Int} (hm : m.1 = gid) (ha : ∀ x ∈ A, x.1 ≠ gid) (hc : ∀ x ∈ C, x.1 ≠ gid) : tkL true (A ++ m :: C) gid = A ++ C := by
  rw [tkL, if_pos rfl, List.filter_append, List.filter_cons_of_neg (by simpa using hm), List.filter_eq_self.2 (fun x hx => by simpa using ha x hx), List.filter_eq_self.2 (fun x hx => by simpa using hc x hx)]
theorem tk_sub (p : Bool) (L : List M4) (gid : Int) : (tkL p L gid).Sublist L := by
  unfold tkL
  split
  · exact List.filter_sublist
  · exact List.Sublist.refl _
theorem fz_sub {K L : List M4} (h : K.Sublist L) : fz K ≤ fz L := by
  induction h with
  | slnil => exact Nat.le_refl _
  | cons a _ ih => simp only [fz]; omega
  | cons_cons a _ ih => simp only [fz]; omega
theorem sm_sub {K L : List M4} (h : K.Sublist L) (hs : Sm L) : Sm K := fun m hm => hs m (h.subset hm)
theorem upr_sub {K L : List M4} (h : K.Sublist L) (hs : Upr L) : Upr K := List.Pairwise.sublist h hs
theorem mid_sub (A : List M4) (m : M4) (C : List M4) : (A ++ C).Sublist (A ++ m :: C) := (List.Sublist.refl A).append (List.sublist_cons_self ..)
theorem bx_has {g : Int} {nm : ByteArray} {t b nx : Int} {L : List M4} {G : List Int} (h : bxOk g nm t b nx L G = true) {m : M4} (hm : m ∈ L) : inl m.1 G = false := by
  obtain ⟨i, hi, rfl⟩ := List.getElem_of_mem hm
  exact (alr_at (bx_parts h).2.2.1 hi).2.2
theorem tkG_len {g : Int} {nm : ByteArray} {t b nx : Int} {L : List M4} {G : List Int} {gid : Int} (hg : G.length ≤ 1048576) : (tkG (tkOk g nm t b nx L G gid) G gid).length ≤ 1048576 := by
  cases h : tkOk g nm t b nx L G gid with
  | false => rw [tkG_no]; exact hg
  | true =>
    rw [tkG, if_pos rfl]
    simp only [tkOk, Bool.and_eq_true, decide_eq_true_eq] at h
    have h1 := pin_len gid G
    omega

theorem erase_at (A : List MapEntry) (x : MapEntry) (C : List MapEntry) : (A ++ x :: C).eraseIdx A.length = A ++ C := by
  induction A with
  | nil => rfl
  | cons a A ih => simpa using ih
theorem OwMp.drop {W : World} {B b c : Nat} {E1 : List En} {e0 : En} {E2 : List En} (h : OwMp W B b (E1 ++ e0 :: E2) c) : OwMp (setBlock W b (.map ((E1 ++ E2).map ent).toArray c)) B b (E1 ++ E2) c := by
  have hsub : (E1 ++ E2).Sublist (E1 ++ e0 :: E2) := (List.Sublist.refl E1).append (List.sublist_cons_self ..)
  refine ⟨heap_setBlock_same h.lies _, h.base, fun e he => h.old e (hsub.subset he), h.births.sublist (hsub.map _), h.keys.sublist (hsub.map _), fun e he => ?_, List.Pairwise.sublist hsub h.apart⟩
  have ho := h.each e (hsub.subset he)
  exact World.ownsRow.kept ho (setBlock_grown h.lies _) (Or.inr (h.off ho))
end Go.Proofs.YtjobfolipbfhlanGreat

namespace Go.Proofs.YtjobfolipbfhlanGreat
open Go.RowKit Go.ChangeMaps

theorem cell_one_int (w : World) (n : Int) (e : Nat) : ∀ (j : Nat) (u : Value), ([Value.int .i64 n] : List Value)[j]? = some u → (w.alloc (.cells #[.int .i64 n] e)).cell? ((⟨w.heap.size, 0, none⟩ : Addr).add j) = some u := by
  intro j u hj
  match j, hj with
  | 0, hj =>
    simp only [List.getElem?_cons_zero, Option.some.injEq] at hj
    subst hj
    exact cell_of_row _ w.heap.size 0 _ _ _ (heap_alloc_new w _)
  | j + 1, hj => simp at hj

theorem filter_take {G : List Int} {i : Nat} (h : i < G.length) (f : Int → Bool) : (G.take (i + 1)).filter f = (G.take i).filter f ++ (if f G[i] = true then [G[i]] else []) := by
  rw [List.take_succ_eq_append_getElem h, List.filter_append]
  cases hf : f G[i] with
  | true => simp [hf]
  | false => simp [hf]
theorem gfl_len (G : List Int) (f : Int → Bool) (i : Nat) : ((G.take i).filter f).length ≤ G.length :=
  Nat.le_trans (List.length_filter_le _ _) (by rw [List.length_take]; omega)

end Go.Proofs.YtjobfolipbfhlanGreat

namespace Go.Proofs.YtjobfolipbfhlanGreat
open Go.RowKit Go.ChangeMaps

theorem row_shape {W : World} {B e size n : Nat} {v : Value} {xs : List Value} (h : W.ownsRow B e size v n xs) : ∃ a c, v = .slice a n c := by
  rcases h.2 with ⟨h1, h2⟩ | ⟨g, cap, cur, h1, _⟩
  · exact ⟨none, 0, by rw [h1, h2]⟩
  · exact ⟨_, _, h1⟩
/-- The cells of an owned row of mails. -/
theorem OwZ.cell {W : World} {B g n c : Nat} {Z : List Z5} (h : OwZ W B (.slice (some ⟨g, 0, none⟩) n c) Z) (j : Nat) (hj : j < Z.length * 4) : W.cell? ⟨g, j, none⟩ = (zc Z)[j]? := by
  obtain rfl := h.ms.1
  exact h.row.cellAt j hj
theorem zc_take (Z : List Z5) (i : Nat) : zc (Z.take i) = (zc Z).take (i * 4) := by
  induction Z generalizing i with
  | nil => simp [zc]
  | cons z Z ih =>
    cases i with
    | zero => simp [zc]
    | succ i => rw [show (i + 1) * 4 = i * 4 + 1 + 1 + 1 + 1 by omega]; simp [zc, ih]
theorem zc_drop (Z : List Z5) (i : Nat) : zc (Z.drop i) = (zc Z).drop (i * 4) := by
  induction Z generalizing i with
  | nil => simp [zc]
  | cons z Z ih =>
    cases i with
    | zero => simp [zc]
    | succ i => rw [show (i + 1) * 4 = i * 4 + 1 + 1 + 1 + 1 by omega]; simp [zc, ih]
theorem row_front {W : World} {B g n c : Nat} {Z : List Z5} (h : OwZ W B (.slice (some ⟨g, 0, none⟩) n c) Z) (i : Nat) : ∀ j u, (zc (Z.take i))[j]? = some u → W.cell? ((⟨g, 0, none⟩ : Addr).add j) = some u := by
  intro j u hu
  rw [zc_take, List.getElem?_take] at hu
  by_cases hj : j < i * 4
  · rw [if_pos hj] at hu
    have hl : j < Z.length * 4 := by rw [← zc_len]; exact (List.getElem?_eq_some_iff.1 hu).1
    rw [addr_add, Nat.zero_add, h.cell j hl]
    exact hu
  · rw [if_neg hj] at hu
    cases hu
theorem row_back {W : World} {B g n c : Nat} {Z : List Z5} (h : OwZ W B (.slice (some ⟨g, 0, none⟩) n c) Z) (i : Nat) : ∀ j u, (zc (Z.drop i))[j]? = some u → W.cell? ((⟨g, i * 4, none⟩ : Addr).add j) = some u := by
  intro j u hu
  rw [zc_drop, List.getElem?_drop] at hu
  have hl : i * 4 + j < Z.length * 4 := by rw [← zc_len]; exact (List.getElem?_eq_some_iff.1 hu).1
  rw [addr_add, h.cell _ hl]
  exact hu
theorem slice_front (g n c i : Nat) (hi : i ≤ c) (hc : 0 < c) (W : World) : (Instr.slice 45 (.slice (some ⟨g, 0, none⟩) n c) none (some (.int .i64 (i : Int))) none).run Tryz.prog W = .ok (.slice (some ⟨g, 0, none⟩) i c) W := by
  have hz : (Go.sizeOf 71).run Tryz.prog W = .ok 4 W := by kernel_rfl
  have h2 : ¬ c = 0 := by omega
  simp [Instr.slice, Instr.sliceBounds, Instr.sliceBound, run_underlying Tryz.underlying45, hz, Result.andThen, hi, h2, asIntOf, addr_add]
theorem mid_cut (A : List M4) (m : M4) (C : List M4) : (A ++ m :: C).take A.length ++ (A ++ m :: C).drop (A.length + 1) = A ++ C := by
  rw [List.take_left, show A ++ m :: C = (A ++ [m]) ++ C by simp, show A.length + 1 = (A ++ [m]).length by simp, List.drop_left]
/-- A row's mails, or some of them, laid anew: their flags stay where they are. -/
theorem OwZ.moved {W W' : World} {B : Nat} {v v' : Value} {Z X : List Z5} (h : OwZ W B v Z) (hx : X.Sublist Z) (hrow : W'.ownsRow B 71 4 v' X.length (zc X)) (hk : ∀ z ∈ Z, ∀ j, z.2.2.1.ownBlock = some j → W'.heap[j]? = W.heap[j]? ∧ v'.ownBlock ≠ some j) : OwZ W' B v' X :=
  ⟨hrow, fun z hz => ow_same (h.each z (hx.subset hz)) (fun j hj => (hk z (hx.subset hz) j hj).1), fun z hz j hj hj' => (hk z (hx.subset hz) j hj').2 hj, List.Pairwise.sublist hx h.apart⟩
end Go.Proofs.YtjobfolipbfhlanGreat

namespace Go.Proofs.YtjobfolipbfhlanGreat
open Go.RowKit Go.ChangeMaps

theorem heap_setCells (g : Nat) (e : TypeId) : ∀ (vs : List Value) (o : Nat) (W : World) (cur : Array Value), W.heap[g]? = some (.cells cur e (0, 0)) → ∃ cur', (W.setCells g o vs).heap[g]? = some (.cells cur' e (0, 0)) ∧ cur'.size = cur.size
  | [], _, _, cur, h => ⟨cur, h, rfl⟩
  | v :: vs, o, W, cur, h => by
    obtain ⟨c, h1, h2⟩ := heap_setCells g e vs (o + 1) (W.setCell ⟨g, o, none⟩ v) _ (heap_setCell_same W g o cur e v h)
    exact ⟨c, h1, by rw [h2]; simp⟩
theorem below_cells {B g : Nat} (hg : B ≤ g) : ∀ (vs : List Value) (o : Nat) {A W : World}, Below B A W → Below B A (W.setCells g o vs)
  | [], _, _, _, h => h
  | _ :: vs, o, _, _, h => below_cells hg vs (o + 1) (h.setCell (p := ⟨g, o, none⟩) hg _)
theorem own_block {W : World} {B g n cap e : Nat} {xs : List Value} (h : W.ownsRow B e 1 (.slice (some ⟨g, 0, none⟩) n cap) n xs) : ∃ cur, W.heap[g]? = some (.cells cur e (0, 0)) ∧ B ≤ g ∧ n ≤ cap ∧ cap ≤ maxLen ∧ cur.size = cap := by
  rcases h.2 with ⟨h', _⟩ | ⟨g', cap', cur, h', hB, hg, h1, h2, h3, _⟩
  · simp at h'
  · simp only [Value.slice.injEq, Option.some.injEq, Addr.mk.injEq, and_true, true_and] at h'
    obtain ⟨rfl, rfl⟩ := h'
    exact ⟨cur, hg, hB, h1, h2, by rw [h3, Nat.mul_one]⟩
/-- The list with one put in. -/
def pat (i : Nat) (x : Int) (G : List Int) : List Int := G.take i ++ x :: G.drop i
theorem pat_len {i : Nat} {x : Int} {G : List Int} : (pat i x G).length = G.length + 1 := by
  unfold pat
  rw [List.length_append, List.length_cons, List.length_take, List.length_drop]
  omega
theorem pat_lt {i j : Nat} {x : Int} {G : List Int} (hi : i ≤ G.length) (h : j < i) : ((pat i x G).map (Value.int .i64))[j]? = (G.map (Value.int .i64))[j]? := by
  unfold pat
  rw [List.getElem?_map, List.getElem?_map, List.getElem?_append_left (by rw [List.length_take]; omega), List.getElem?_take_of_lt h]
theorem pat_at {i : Nat} {x : Int} {G : List Int} (hi : i ≤ G.length) : ((pat i x G).map (Value.int .i64))[i]? = some (.int .i64 x) := by
  unfold pat
  rw [List.getElem?_map, List.getElem?_append_right (by rw [List.length_take]; omega), List.length_take, Nat.min_eq_left hi, Nat.sub_self]
  rfl
theorem pat_gt {i j : Nat} {x : Int} {G : List Int} (hi : i ≤ G.length) (h : i < j) : ((pat i x G).map (Value.int .i64))[j]? = ((G.drop i).map (Value.int .i64))[j - (i + 1)]? := by
  unfold pat
  rw [List.getElem?_map, List.getElem?_map, List.getElem?_append_right (by rw [List.length_take]; omega), List.length_take, Nat.min_eq_left hi]
  obtain ⟨k, rfl⟩ : ∃ k, j = i + 1 + k := ⟨j - (i + 1), by omega⟩
  rw [show i + 1 + k - i = k + 1 by omega, show i + 1 + k - (i + 1) = k by omega, List.getElem?_cons_succ]
end Go.Proofs.YtjobfolipbfhlanGreat

namespace Go.Proofs.YtjobfolipbfhlanGreat
open Go.RowKit Go.ChangeMaps

theorem one_cell (x : Int) : ∀ v ∈ ([Value.int .i64 x] : List Value), v.oneCell' = true := by intro v hv; simp at hv; subst hv; rfl
theorem all_cell (G : List Int) : ∀ v ∈ G.map (Value.int .i64), v.oneCell' = true := by intro v hv; obtain ⟨x, _, rfl⟩ := List.mem_map.1 hv; rfl
end Go.Proofs.YtjobfolipbfhlanGreat

