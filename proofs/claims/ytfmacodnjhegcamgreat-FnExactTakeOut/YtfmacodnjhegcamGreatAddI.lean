/- A mail added, as the program does it. -/
import Derived.Test.YtfmacodnjhegcamGreatAddS
namespace Go.Proofs.YtfmacodnjhegcamGreat
open Go.RowKit Go.ChangeMaps

/-- What lies there while a box is worked on by its shelf. -/
structure Shs (w W : World) (mb : Nat) (g : Int) (nm : ByteArray) (t b nx : Int) (m0 g0 : Value) (st sb : Int) (E : List En) (c : Nat) : Prop where
  box : Bx W w.heap.size 32 g nm t b nx m0 g0
  stm : Sg W (w.heap.size + 1) 29 st sb
  ans : Bx W (w.heap.size + 1 + 1) 32 0 ⟨#[]⟩ 0 0 0 (.slice none 0 0) (.slice none 0 0)
  mp : OwMp W (w.heap.size + 1 + 1 + 1) mb E c
  bel : Below w.heap.size w W
theorem Shs.later {w W W' : World} {mb : Nat} {g : Int} {nm : ByteArray} {t b nx : Int} {m0 g0 : Value} {st sb : Int} {E : List En} {c : Nat} (h : Shs w W mb g nm t b nx m0 g0 st sb E c) (hb : Below W.heap.size W W') : Shs w W' mb g nm t b nx m0 g0 st sb E c :=
  ⟨h.box.later hb, h.stm.later hb, h.ans.later hb, h.mp.later hb, btr h.bel hb⟩
/-- The map's block alone is turned. -/
theorem Shs.put {w W W' : World} {mb : Nat} {g : Int} {nm : ByteArray} {t b nx : Int} {m0 g0 : Value} {st sb : Int} {E E' : List En} {c c' : Nat} (h : Shs w W mb g nm t b nx m0 g0 st sb E c) (hg : W.grownBy W' (some mb)) (hm : OwMp W' (w.heap.size + 1 + 1 + 1) mb E' c') : Shs w W' mb g nm t b nx m0 g0 st sb E' c' := by
  have hmb := h.mp.base
  have hw := h.bel.size
  refine ⟨h.box.grown hg (fun e => by simp only [Option.some.injEq] at e; omega), (hg.block _ h.stm.lt (fun e => by simp only [Option.some.injEq] at e; omega)).trans h.stm, h.ans.grown hg (fun e => by simp only [Option.some.injEq] at e; omega), hm, h.bel.trans (below_of_grown hg (by omega) hw)⟩
theorem owmp_lt {W : World} {B b c : Nat} {E : List En} (h : OwMp W B b E c) : b < W.heap.size := (Array.getElem?_eq_some_iff.1 h.lies).1

end Go.Proofs.YtfmacodnjhegcamGreat
