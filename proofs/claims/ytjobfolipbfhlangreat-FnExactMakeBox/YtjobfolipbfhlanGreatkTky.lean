/- Tky. -/

import Derived.Test.YtjobfolipbfhlanGreatkTkz
namespace Go.Proofs.YtjobfolipbfhlanGreat
open Go.RowKit Go.ChangeMaps

/-- What lies there while a box is worked on: the box that came in, the answer's place, the new box and its lists. -/
structure Stn (w W : World) (OB : Nat) (g : Int) (nm : ByteArray) (t b nx : Int) (m0 g0 : Value) (mv gv : Value) (Z : List Z5) (G : List Int) : Prop where
  box : Bx W w.heap.size 47 g nm t b nx m0 g0
  ans : Bx W (w.heap.size + 1) 47 0 ⟨#[]⟩ 0 0 0 (.slice none 0 0) (.slice none 0 0)
  out : Bx W OB 47 g nm t b nx mv gv
  ml : OwZ W (w.heap.size + 1 + 1) mv Z
  gl : OwI W (w.heap.size + 1 + 1) gv G
  bel : Below w.heap.size w W
theorem Stn.later {w W W' : World} {OB : Nat} {g : Int} {nm : ByteArray} {t b nx : Int} {m0 g0 : Value} {mv gv : Value} {Z : List Z5} {G : List Int} (h : Stn w W OB g nm t b nx m0 g0 mv gv Z G) (hb : Below W.heap.size W W') : Stn w W' OB g nm t b nx m0 g0 mv gv Z G :=
  ⟨h.box.later hb, h.ans.later hb, h.out.later hb, h.ml.later hb, own_later h.gl hb, btr h.bel hb⟩

end Go.Proofs.YtjobfolipbfhlanGreat

namespace Go.Proofs.YtjobfolipbfhlanGreat
open Go.RowKit Go.ChangeMaps

/-- What lies there while a box is worked on by its shelf. -/
structure Shn (w W : World) (mb : Nat) (g : Int) (nm : ByteArray) (t b nx : Int) (m0 g0 : Value) (E : List En) (c : Nat) : Prop where
  box : Bx W w.heap.size 47 g nm t b nx m0 g0
  ans : Bx W (w.heap.size + 1) 47 0 ⟨#[]⟩ 0 0 0 (.slice none 0 0) (.slice none 0 0)
  mp : OwMp W (w.heap.size + 1 + 1) mb E c
  bel : Below w.heap.size w W
theorem Shn.later {w W W' : World} {mb : Nat} {g : Int} {nm : ByteArray} {t b nx : Int} {m0 g0 : Value} {E : List En} {c : Nat} (h : Shn w W mb g nm t b nx m0 g0 E c) (hb : Below W.heap.size W W') : Shn w W' mb g nm t b nx m0 g0 E c :=
  ⟨h.box.later hb, h.ans.later hb, h.mp.later hb, btr h.bel hb⟩
end Go.Proofs.YtjobfolipbfhlanGreat

namespace Go.Proofs.YtjobfolipbfhlanGreat
open Go.RowKit Go.ChangeMaps

end Go.Proofs.YtjobfolipbfhlanGreat

