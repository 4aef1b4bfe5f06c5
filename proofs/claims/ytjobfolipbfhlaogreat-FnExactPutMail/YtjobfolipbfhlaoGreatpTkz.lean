/- Tkz. -/
import Derived.Test.YtjobfolipbfhlaoGreatpMk
import Derived.Shelf.Spec.SlicesInsertGrow
import Derived.Shelf.Slices.SearchI
import Derived.Shelf.Slices.Empties
namespace Go.Proofs.YtjobfolipbfhlaoGreat
open Go.RowKit Go.ChangeMaps

def pin (x : Int) (G : List Int) : List Int := G.filter (fun y => decide (y < x)) ++ x :: G.filter (fun y => decide (x < y))
theorem asc_low {G : List Int} {a : Int} (h : asc a G = true) : ∀ y ∈ G, a < y := by
  induction G generalizing a with
  | nil => intro y hy; simp at hy
  | cons x G ih =>
    simp only [asc, Bool.and_eq_true, decide_eq_true_eq] at h
    intro y hy
    rcases List.mem_cons.1 hy with rfl | hy
    · exact h.1.1
    · have := ih h.2 y hy
      omega
theorem asc_pair {G : List Int} {a : Int} (h : asc a G = true) : G.Pairwise (· < ·) := by
  induction G generalizing a with
  | nil => exact List.Pairwise.nil
  | cons x G ih =>
    simp only [asc, Bool.and_eq_true, decide_eq_true_eq] at h
    exact List.pairwise_cons.2 ⟨fun y hy => asc_low h.2 y hy, ih h.2⟩
theorem pin_len (x : Int) (G : List Int) : (pin x G).length ≤ G.length + G.length + 1 := by
  unfold pin
  rw [List.length_append, List.length_cons]
  have h1 := List.length_filter_le (fun y => decide (y < x)) G
  have h2 := List.length_filter_le (fun y => decide (x < y)) G
  omega

def tkOk (g : Int) (nm : ByteArray) (t b nx : Int) (L : List M4) (G : List Int) (gid : Int) : Bool :=
  bxOk g nm t b nx L G && (L.any (fun m => decide (m.1 = gid)) && decide (G.length < 40))
def tkL (p : Bool) (L : List M4) (gid : Int) : List M4 := if p = true then L.filter (fun m => decide (m.1 ≠ gid)) else L
def tkG (p : Bool) (G : List Int) (gid : Int) : List Int := if p = true then pin gid G else G
theorem tkL_no (L : List M4) (gid : Int) : tkL false L gid = L := by rw [tkL, if_neg (by decide)]
theorem tkG_no (G : List Int) (gid : Int) : tkG false G gid = G := by rw [tkG, if_neg (by decide)]
theorem tk_sub (p : Bool) (L : List M4) (gid : Int) : (tkL p L gid).Sublist L := by
  unfold tkL
  split
  · exact List.filter_sublist
  · exact List.Sublist.refl _
theorem fz_sub {K L : List M4} (h : K.Sublist L) : fz K ≤ fz L := by
  induction h with
  | slnil => exact Nat.le_refl _
  | cons a _ ih => simp only [fz]; omega
  | cons_cons a _ ih => simp only [fz]; omega
theorem sm_sub {K L : List M4} (h : K.Sublist L) (hs : Sm L) : Sm K := fun m hm => hs m (h.subset hm)
theorem upr_sub {K L : List M4} (h : K.Sublist L) (hs : Upr L) : Upr K := List.Pairwise.sublist h hs
theorem mid_sub (A : List M4) (m : M4) (C : List M4) : (A ++ C).Sublist (A ++ m :: C) := (List.Sublist.refl A).append (List.sublist_cons_self ..)
theorem bx_has {g : Int} {nm : ByteArray} {t b nx : Int} {L : List M4} {G : List Int} (h : bxOk g nm t b nx L G = true) {m : M4} (hm : m ∈ L) : inl m.1 G = false := by
  obtain ⟨i, hi, rfl⟩ := List.getElem_of_mem hm
  exact (alr_at (bx_parts h).2.2.1 hi).2.2
theorem erase_at (A : List MapEntry) (x : MapEntry) (C : List MapEntry) : (A ++ x :: C).eraseIdx A.length = A ++ C := by
  induction A with
  | nil => rfl
  | cons a A ih => simpa using ih
end Go.Proofs.YtjobfolipbfhlaoGreat

namespace Go.Proofs.YtjobfolipbfhlaoGreat
open Go.RowKit Go.ChangeMaps

theorem gfl_len (G : List Int) (f : Int → Bool) (i : Nat) : ((G.take i).filter f).length ≤ G.length :=
  Nat.le_trans (List.length_filter_le _ _) (by rw [List.length_take]; omega)

end Go.Proofs.YtjobfolipbfhlaoGreat

namespace Go.Proofs.YtjobfolipbfhlaoGreat
open Go.RowKit Go.ChangeMaps

theorem row_shape {W : World} {B e size n : Nat} {v : Value} {xs : List Value} (h : W.ownsRow B e size v n xs) : ∃ a c, v = .slice a n c := by
  rcases h.2 with ⟨h1, h2⟩ | ⟨g, cap, cur, h1, _⟩
  · exact ⟨none, 0, by rw [h1, h2]⟩
  · exact ⟨_, _, h1⟩
/-- The cells of an owned row of mails. -/
theorem OwZ.cell {W : World} {B g n c : Nat} {Z : List Z5} (h : OwZ W B (.slice (some ⟨g, 0, none⟩) n c) Z) (j : Nat) (hj : j < Z.length * 4) : W.cell? ⟨g, j, none⟩ = (zc Z)[j]? := by
  obtain rfl := h.ms.1
  exact h.row.cellAt j hj
theorem zc_take (Z : List Z5) (i : Nat) : zc (Z.take i) = (zc Z).take (i * 4) := by
  induction Z generalizing i with
  | nil => simp [zc]
  | cons z Z ih =>
    cases i with
    | zero => simp [zc]
    | succ i => rw [show (i + 1) * 4 = i * 4 + 1 + 1 + 1 + 1 by omega]; simp [zc, ih]
theorem mid_cut (A : List M4) (m : M4) (C : List M4) : (A ++ m :: C).take A.length ++ (A ++ m :: C).drop (A.length + 1) = A ++ C := by
  rw [List.take_left, show A ++ m :: C = (A ++ [m]) ++ C by simp, show A.length + 1 = (A ++ [m]).length by simp, List.drop_left]
end Go.Proofs.YtjobfolipbfhlaoGreat

namespace Go.Proofs.YtjobfolipbfhlaoGreat
open Go.RowKit Go.ChangeMaps

theorem below_cells {B g : Nat} (hg : B ≤ g) : ∀ (vs : List Value) (o : Nat) {A W : World}, Below B A W → Below B A (W.setCells g o vs)
  | [], _, _, _, h => h
  | _ :: vs, o, _, _, h => below_cells hg vs (o + 1) (h.setCell (p := ⟨g, o, none⟩) hg _)
/-- The list with one put in. -/
def pat (i : Nat) (x : Int) (G : List Int) : List Int := G.take i ++ x :: G.drop i
theorem pat_len {i : Nat} {x : Int} {G : List Int} : (pat i x G).length = G.length + 1 := by
  unfold pat
  rw [List.length_append, List.length_cons, List.length_take, List.length_drop]
  omega
theorem pat_at {i : Nat} {x : Int} {G : List Int} (hi : i ≤ G.length) : ((pat i x G).map (Value.int .i64))[i]? = some (.int .i64 x) := by
  unfold pat
  rw [List.getElem?_map, List.getElem?_append_right (by rw [List.length_take]; omega), List.length_take, Nat.min_eq_left hi, Nat.sub_self]
  rfl
end Go.Proofs.YtjobfolipbfhlaoGreat

namespace Go.Proofs.YtjobfolipbfhlaoGreat
open Go.RowKit Go.ChangeMaps

def bsRen : Go.Shelf.Ren := ⟨fun | 25 => 84 | 31 => 116 | 32 => 117 | 37 => 142 | n => n, fun | 22 => 23 | 3 => 3 | 4 => 4 | 40 => 125 | 0 => 0 | n => n, fun | n => n⟩
def inRen : Go.Shelf.Ren := ⟨fun | 21 => 85 | 27 => 118 | 28 => 119 | 35 => 143 | 39 => 161 | n => n, fun | 22 => 23 | 3 => 3 | 4 => 4 | 0 => 0 | n => n, fun | n => n⟩
theorem one_cell (x : Int) : ∀ v ∈ ([Value.int .i64 x] : List Value), v.oneCell' = true := by intro v hv; simp at hv; subst hv; rfl
theorem all_cell (G : List Int) : ∀ v ∈ G.map (Value.int .i64), v.oneCell' = true := by intro v hv; obtain ⟨x, _, rfl⟩ := List.mem_map.1 hv; rfl
end Go.Proofs.YtjobfolipbfhlaoGreat

