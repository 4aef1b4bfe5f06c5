/- Tik, Til, Tim, Tin, Tio, Tip. -/
import Derived.Test.YtjobfolipbfhlaoGreatmTij
import Derived.Lib.AppendZerosOnto
namespace Go.Proofs.YtjobfolipbfhlaoGreat
open Go.RowKit Go.ChangeMaps

theorem size_bx : (Tryz.prog.info? 53).map (·.size) = some 7 := by kernel_rfl

end Go.Proofs.YtjobfolipbfhlaoGreat

namespace Go.Proofs.YtjobfolipbfhlaoGreat
open Go.RowKit Go.ChangeMaps

abbrev zbx : Value := .agg #[.int .i64 0, .string ⟨#[]⟩, .int .i64 0, .int .i64 0, .int .i64 0, .slice none 0 0, .slice none 0 0]
theorem zbx_cells : zbx.cells = #[.int .i64 0, .string ⟨#[]⟩, .int .i64 0, .int .i64 0, .int .i64 0, .slice none 0 0, .slice none 0 0] := by rfl
theorem zbx_size (k : Nat) : (Builtin.zeroCells zbx.cells k).size = k * 7 := by rw [zbx_cells]; simp [Builtin.zeroCells]

end Go.Proofs.YtjobfolipbfhlaoGreat

namespace Go.Proofs.YtjobfolipbfhlaoGreat
open Go.RowKit Go.ChangeMaps

theorem yc_take (Y : List Y9) (i : Nat) (h : i ≤ Y.length) : yc (Y.take i) = (yc Y).take (i * 7) := by
  have e : yc Y = yc (Y.take i) ++ yc (Y.drop i) := by rw [← yc_app, List.take_append_drop]
  have hl : (yc (Y.take i)).length = i * 7 := by rw [yc_len, List.length_take, Nat.min_eq_left h]
  rw [e]
  exact (List.take_left' hl).symm
theorem yc_drop (Y : List Y9) (i : Nat) (h : i ≤ Y.length) : yc (Y.drop i) = (yc Y).drop (i * 7) := by
  have e : yc Y = yc (Y.take i) ++ yc (Y.drop i) := by rw [← yc_app, List.take_append_drop]
  have hl : (yc (Y.take i)).length = i * 7 := by rw [yc_len, List.length_take, Nat.min_eq_left h]
  rw [e]
  exact (List.drop_left' hl).symm
def insY (i : Nat) (y : Y9) (Y : List Y9) : List Y9 := Y.take i ++ y :: Y.drop i
theorem insY_len {i : Nat} {y : Y9} {Y : List Y9} (h : i ≤ Y.length) : (insY i y Y).length = Y.length + 1 := by
  unfold insY
  simp only [List.length_append, List.length_cons, List.length_take, List.length_drop]
  omega
theorem insY_perm (i : Nat) (y : Y9) (Y : List Y9) : (insY i y Y).Perm (Y ++ [y]) := by
  unfold insY
  have h1 : (Y.take i ++ y :: Y.drop i).Perm (y :: (Y.take i ++ Y.drop i)) := List.perm_middle
  rw [List.take_append_drop] at h1
  exact h1.trans (List.perm_append_singleton y Y).symm
theorem yc_ins {i : Nat} {y : Y9} {Y : List Y9} (h : i ≤ Y.length) : yc (insY i y Y) = (yc Y).take (i * 7) ++ (yc [y] ++ (yc Y).drop (i * 7)) := by
  unfold insY
  rw [yc_app, yc_take Y i h]
  congr 1
  rw [← yc_drop Y i h, ← yc_app]
  rfl
theorem ins_lt {cs vs : List Value} {a j : Nat} (ha : a ≤ cs.length) (h : j < a) : (cs.take a ++ (vs ++ cs.drop a))[j]? = cs[j]? := by
  rw [List.getElem?_append_left (by rw [List.length_take]; omega), List.getElem?_take_of_lt h]
theorem ins_mid {cs vs : List Value} {a j : Nat} (ha : a ≤ cs.length) (h : a ≤ j) (h2 : j < a + vs.length) : (cs.take a ++ (vs ++ cs.drop a))[j]? = vs[j - a]? := by
  rw [List.getElem?_append_right (by rw [List.length_take]; omega), List.length_take, Nat.min_eq_left ha, List.getElem?_append_left (by omega)]
theorem ins_gt {cs vs : List Value} {a j : Nat} (ha : a ≤ cs.length) (h : a + vs.length ≤ j) : (cs.take a ++ (vs ++ cs.drop a))[j]? = (cs.drop a)[j - (a + vs.length)]? := by
  rw [List.getElem?_append_right (by rw [List.length_take]; omega), List.length_take, Nat.min_eq_left ha, List.getElem?_append_right (by omega)]
  congr 1
  omega
theorem grown_cells {a w : World} {g : Nat} (h : a.grownBy w (some g)) : ∀ (vs : List Value) (o : Nat), a.grownBy (w.setCells g o vs) (some g)
  | vs, o => by
    induction vs generalizing o w with
    | nil => exact h
    | cons v vs ih => exact ih (wst h o v) (o + 1)
theorem heap_drew (W : World) : W.drew.heap = W.heap := rfl
theorem cell_drew (W : World) (p : Addr) : W.drew.cell? p = W.cell? p := rfl
theorem OwX.one {W : World} {y : Y9} (h : OwX W y.lo y.hi y.mv y.gv y.L y.G) : ∀ u ∈ yc [y], u.oneCell' = true := yc_one h.slices.1 h.slices.2
theorem OwS.ones {W : World} {B : Nat} {v : Value} {Y : List Y9} (h : OwS W B v Y) : ∀ u ∈ yc Y, u.oneCell' = true := by
  have h2 := h.each
  clear h
  induction Y with
  | nil => intro u hu; cases hu
  | cons y Y ih =>
    intro u hu
    have e : yc (y :: Y) = yc [y] ++ yc Y := by rw [← yc_app]; rfl
    rw [e] at hu
    rcases List.mem_append.1 hu with hu | hu
    · exact (h2 y (by simp)).1.one u hu
    · exact ih (fun x hx => h2 x (by simp [hx])) u hu

end Go.Proofs.YtjobfolipbfhlaoGreat

namespace Go.Proofs.YtjobfolipbfhlaoGreat
open Go.RowKit Go.ChangeMaps

abbrev zb7 : List Value := (Builtin.zeroCells zbx.cells 1).toList
theorem zb7_len : zb7.length = 7 := by
  have := zbx_size 1
  simpa [zb7] using this
theorem zb7_one : ∀ v ∈ zb7, v.oneCell' = true := by
  intro v hv
  have e : zb7 = [.int .i64 0, .string ⟨#[]⟩, .int .i64 0, .int .i64 0, .int .i64 0, .slice none 0 0, .slice none 0 0] := by
    show (Builtin.zeroCells zbx.cells 1).toList = _
    rw [zbx_cells]
    kernel_rfl
  rw [e] at hv
  simp only [List.mem_cons, List.not_mem_nil, or_false] at hv
  rcases hv with rfl | rfl | rfl | rfl | rfl | rfl | rfl <;> rfl

def delY (i : Nat) (Y : List Y9) : List Y9 := Y.take i ++ Y.drop (i + 1)
theorem delY_len {i : Nat} {Y : List Y9} (h : i < Y.length) : (delY i Y).length = Y.length - 1 := by
  unfold delY
  simp only [List.length_append, List.length_take, List.length_drop]
  omega
theorem delY_sub (i : Nat) (Y : List Y9) : (delY i Y).Sublist Y := by
  unfold delY
  have h : (Y.take i ++ Y.drop (i + 1)).Sublist (Y.take i ++ Y.drop i) := by
    refine List.Sublist.append (List.Sublist.refl _) ?_
    rw [← List.drop_drop]
    exact List.drop_sublist _ _
  rwa [List.take_append_drop] at h
theorem yc_del {i : Nat} {Y : List Y9} (h : i < Y.length) : yc (delY i Y) = (yc Y).take (i * 7) ++ (yc Y).drop ((i + 1) * 7) := by
  unfold delY
  rw [yc_app, yc_take Y i (by omega), yc_drop Y (i + 1) (by omega)]
theorem LsP.sub {W : World} {B : Nat} {v v' : Value} {Y Y' : List Y9} (h : LsP W B v Y) (hs : Y'.Sublist Y) (hv : v'.ownBlock = v.ownBlock) : LsP W B v' Y' :=
  ⟨fun y hy => h.each y (hs.subset hy), fun y hy j hj => h.off y (hs.subset hy) j (by rw [← hv]; exact hj), h.apart.sublist hs⟩

end Go.Proofs.YtjobfolipbfhlaoGreat

namespace Go.Proofs.YtjobfolipbfhlaoGreat
open Go.RowKit Go.ChangeMaps

end Go.Proofs.YtjobfolipbfhlaoGreat

namespace Go.Proofs.YtjobfolipbfhlaoGreat
open Go.RowKit Go.ChangeMaps

def insX (x : X7) (S : List X7) : List X7 := S.take (S.countP (fun b => decide (b.1 < x.1))) ++ x :: S.drop (S.countP (fun b => decide (b.1 < x.1)))
theorem owx_nils (W : World) : OwX W W.heap.size W.heap.size (.slice none 0 0) (.slice none 0 0) [] [] := by
  refine ⟨⟨[], rfl, ⟨⟨rfl, .inl ⟨rfl, rfl⟩⟩, (fun z hz => by cases hz), (fun z hz => by cases hz), List.Pairwise.nil⟩, ⟨rfl, .inl ⟨rfl, rfl⟩⟩, Dj.nil _, (fun z hz => by cases hz), (fun j hj => by simp [Value.ownBlock] at hj), (fun j hj => by simp [Value.ownBlock] at hj), (fun z hz => by cases hz)⟩, Nat.le_refl _⟩

end Go.Proofs.YtjobfolipbfhlaoGreat

