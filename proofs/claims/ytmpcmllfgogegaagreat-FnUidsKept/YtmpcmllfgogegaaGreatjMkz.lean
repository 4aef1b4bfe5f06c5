/- Mkz. -/
import Derived.Test.YtmpcmllfgogegaaGreatjMj
import Derived.Lib.ItoaNum
namespace Go.Proofs.YtmpcmllfgogegaaGreat
open Go.RowKit Go.ChangeMaps
def mdg (n : Nat) : List UInt8 := Lib.decDigits n
def mdz (n : Nat) : List UInt8 := if n = 0 then [] else mdg n
def mtx6 (k : Nat) : ByteArray := ⟨(109 :: mdg k).toArray⟩
def mki (k n : Nat) : List Int := (List.range n).map fun i => ((k + i : Nat) : Int)
structure Chg (P : Nat → Prop) (W W' : World) : Prop where
 os : W'.os = W.os
 tape : W'.tape = W.tape
 output : W'.output = W.output
 size : W.heap.size ≤ W'.heap.size
 block : ∀ k, k < W.heap.size → ¬ P k → W'.heap[k]? = W.heap[k]?
theorem Chg.of_below {P : Nat → Prop} {A B : World} (h : Below A.heap.size A B) : Chg P A B := ⟨h.os, h.tape, h.output, h.size, fun k hk _ => h.block k hk⟩
theorem Chg.of_grown {P : Nat → Prop} {A B : World} {r : Option Nat} (h : A.grownBy B r) (hr : ∀ j, r = some j → P j) : Chg P A B :=
 ⟨h.os, h.tape, h.output, h.size, fun k hk hl => h.block k hk (fun e => hl (hr k e.symm))⟩
theorem row_chg {P : Nat → Prop} {W W' : World} {B e size n : Nat} {v : Value} {xs : List Value} (h : W.ownsRow B e size v n xs) (hc : Chg P W W') (hp : ∀ j, v.ownBlock = some j → ¬ P j) : W'.ownsRow B e size v n xs := by
 refine ⟨h.1, h.2.imp id ?_⟩
 rintro ⟨g, cap, cur, h1, h2, h3, h4⟩
 have hv : v.ownBlock = some g := by rw [h1]; rfl
 exact ⟨g, cap, cur, h1, h2, (hc.block g (h.lt g hv).2 (hp g hv)).trans h3, h4⟩
def mz1 (k : Nat) (z : Z5) : Z5 := ((k : Int), ((k + 1 : Nat) : Int), z.2.2.1, mks (k + 2) z.2.2.2.1.length, mtx6 (k + 2 + z.2.2.2.1.length * 3))
def kz1 (k : Nat) (z : Z5) : Nat := k + 2 + z.2.2.2.1.length * 3 + 1
def mzs (k : Nat) : List Z5 → List Z5
 | [] => []
 | z :: Z => mz1 k z :: mzs (kz1 k z) Z
def kz (k : Nat) : List Z5 → Nat
 | [] => k
 | z :: Z => kz (kz1 k z) Z
def fz : List M4 → Nat
 | [] => 0
 | m :: L => 1 + m.2.2.1.length + fz L
theorem row_kept {W W' : World} {B e size n : Nat} {v : Value} {xs : List Value} {r : Option Nat} (h : W.ownsRow B e size v n xs) (hg : W.grownBy W' r) (hne : ∀ j, v.ownBlock = some j → r ≠ some j) : W'.ownsRow B e size v n xs :=
 World.ownsRow.kept h hg (by
   cases hv : v.ownBlock with
   | none => exact Or.inl rfl
   | some j => exact Or.inr (fun e => hne j hv e.symm))
end Go.Proofs.YtmpcmllfgogegaaGreat
namespace Go.Proofs.YtmpcmllfgogegaaGreat
open Go.RowKit Go.ChangeMaps
def MkB (W : World) (B : Nat) (mv gv : Value) (L : List M4) (gn : Nat) : Prop :=
 ∃ Z, Z.map md = L ∧ OwZ W B mv (mzs 1 Z) ∧ OwI W B gv (mki (kz 1 Z) gn)
theorem OwZ.chg {P : Nat → Prop} {W W' : World} {B : Nat} {v : Value} {Z : List Z5} (h : OwZ W B v Z) (hc : Chg P W W') (hv : ∀ j, v.ownBlock = some j → ¬ P j) (he : ∀ z ∈ Z, ∀ j, z.2.2.1.ownBlock = some j → ¬ P j) : OwZ W' B v Z :=
 h.kept hc.size (fun j hj => hc.block j (h.row.lt j hj).2 (hv j hj)) (fun z hz j hj => hc.block j ((h.each z hz).lt j hj).2 (he z hz j hj))
def OwH (W : World) (B hi : Nat) (mv gv : Value) (L : List M4) (G : List Int) : Prop :=
 ∃ Z, Z.map md = L ∧ OwZ W B mv Z ∧ OwI W B gv G ∧ Dj gv mv ∧ (∀ z ∈ Z, Dj gv z.2.2.1) ∧ (∀ j, mv.ownBlock = some j → j < hi) ∧ (∀ j, gv.ownBlock = some j → j < hi) ∧ ∀ z ∈ Z, ∀ j, z.2.2.1.ownBlock = some j → j < hi
theorem OwB.h {W : World} {B : Nat} {mv gv : Value} {L : List M4} {G : List Int} (h : OwB W B mv gv L G) : OwH W B W.heap.size mv gv L G := by
 obtain ⟨Z, h1, h2, h3, h4, h5⟩ := h
 exact ⟨Z, h1, h2, h3, h4, h5, fun j hj => (h2.row.lt j hj).2, fun j hj => (h3.lt j hj).2, fun z hz j hj => ((h2.each z hz).lt j hj).2⟩
theorem OwH.b {W : World} {B hi : Nat} {mv gv : Value} {L : List M4} {G : List Int} (h : OwH W B hi mv gv L G) : OwB W B mv gv L G := by
 obtain ⟨Z, h1, h2, h3, h4, h5, _⟩ := h
 exact ⟨Z, h1, h2, h3, h4, h5⟩
theorem OwH.later {W W' : World} {B hi : Nat} {mv gv : Value} {L : List M4} {G : List Int} (h : OwH W B hi mv gv L G) (hb : Below W.heap.size W W') : OwH W' B hi mv gv L G := by
 obtain ⟨Z, h1, h2, h3, h4⟩ := h
 exact ⟨Z, h1, h2.later hb, own_later h3 hb, h4⟩
theorem OwH.chg {P : Nat → Prop} {W W' : World} {B hi : Nat} {mv gv : Value} {L : List M4} {G : List Int} (h : OwH W B hi mv gv L G) (hc : Chg P W W') (hp : ∀ j, B ≤ j → j < hi → ¬ P j) : OwH W' B hi mv gv L G := by
 obtain ⟨Z, h1, h2, h3, h4, h5, h6, h7, h8⟩ := h
 exact ⟨Z, h1, h2.chg hc (fun j hj => hp j (h2.row.lt j hj).1 (h6 j hj)) (fun z hz j hj => hp j ((h2.each z hz).lt j hj).1 (h8 z hz j hj)), row_chg h3 hc (fun j hj => hp j (h3.lt j hj).1 (h7 j hj)), h4, h5, h6, h7, h8⟩
theorem Bx.chg {P : Nat → Prop} {W W' : World} {k ty : Nat} {g : Int} {nm : ByteArray} {t b nx : Int} {ms gs : Value} (h : Bx W k ty g nm t b nx ms gs) (hc : Chg P W W') (hk : ¬ P k) : Bx W' k ty g nm t b nx ms gs := (hc.block k h.lt hk).trans h
structure Ans (wn W : World) (k : Nat) (g : Int) (nm : ByteArray) (t b nx : Int) (mv gv : Value) (L : List M4) (G : List Int) : Prop where
 box : Bx W k 29 g nm t b nx mv gv
 le : wn.heap.size ≤ k
 own : ∃ B hi, OwH W B hi mv gv L G ∧ wn.heap.size ≤ B ∧ hi ≤ W.heap.size ∧ (k < B ∨ hi ≤ k)
 bel : Below wn.heap.size wn W
end Go.Proofs.YtmpcmllfgogegaaGreat
namespace Go.Proofs.YtmpcmllfgogegaaGreat
open Go.RowKit Go.ChangeMaps
end Go.Proofs.YtmpcmllfgogegaaGreat
