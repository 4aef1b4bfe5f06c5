/- A mail added, as the specification does it. -/
import Derived.Test.YtfmacodnjhegcamGreatAddP
namespace Go.Proofs.YtfmacodnjhegcamGreat
open Go.RowKit Go.ChangeMaps

theorem OwB.grown {W W' : World} {B k : Nat} {mv gv : Value} {L : List M4} {G : List Int} (h : OwB W B mv gv L G) (hg : W.grownBy W' (some k)) (hk : k < B) : OwB W' B mv gv L G := by
  obtain ⟨Z, h1, h2, h3, h4⟩ := h
  exact ⟨Z, h1, h2.grown hg hk, OwI.grown h3 hg hk, h4⟩

/-- What lies there while a box is worked on: the box and the stamp that came in, the answer's place, the new box and its lists. -/
structure Stt (w W : World) (OB : Nat) (g : Int) (nm : ByteArray) (t b nx : Int) (m0 g0 : Value) (st sb : Int) (mv gv : Value) (Z : List Z5) (G : List Int) : Prop where
  box : Bx W w.heap.size 32 g nm t b nx m0 g0
  stm : Sg W (w.heap.size + 1) 29 st sb
  ans : Bx W (w.heap.size + 1 + 1) 32 0 ⟨#[]⟩ 0 0 0 (.slice none 0 0) (.slice none 0 0)
  out : Bx W OB 32 g nm t b nx mv gv
  ml : OwZ W (w.heap.size + 1 + 1 + 1) mv Z
  gl : OwI W (w.heap.size + 1 + 1 + 1) gv G
  bel : Below w.heap.size w W
theorem Stt.later {w W W' : World} {OB : Nat} {g : Int} {nm : ByteArray} {t b nx : Int} {m0 g0 : Value} {st sb : Int} {mv gv : Value} {Z : List Z5} {G : List Int} (h : Stt w W OB g nm t b nx m0 g0 st sb mv gv Z G) (hb : Below W.heap.size W W') : Stt w W' OB g nm t b nx m0 g0 st sb mv gv Z G :=
  ⟨h.box.later hb, h.stm.later hb, h.ans.later hb, h.out.later hb, h.ml.later hb, own_later h.gl hb, btr h.bel hb⟩

/-- Three blocks: a box, a stamp, an empty box. -/
theorem box_stamp (w : World) (g : Int) (nm : ByteArray) (t b nx : Int) (m0 g0 : Value) (st sb : Int) (W0 : World)
    (h : ((w.alloc (.cells #[.int .i64 g, .string nm, .int .i64 t, .int .i64 b, .int .i64 nx, m0, g0] 32)).alloc (.cells #[.int .i64 st, .int .i64 sb] 29)).alloc (.cells #[.int .i64 0, .string ⟨#[]⟩, .int .i64 0, .int .i64 0, .int .i64 0, .slice none 0 0, .slice none 0 0] 32) = W0) :
    Bx W0 w.heap.size 32 g nm t b nx m0 g0 ∧ Sg W0 (w.heap.size + 1) 29 st sb ∧ Bx W0 (w.heap.size + 1 + 1) 32 0 ⟨#[]⟩ 0 0 0 (.slice none 0 0) (.slice none 0 0) ∧ Below w.heap.size w W0 ∧ W0.heap.size = w.heap.size + 1 + 1 + 1 := by
  subst h
  refine ⟨(Bx.new w _ g nm t b nx m0 g0).later (bpush (bpush (bre _) _) _), Sg.later ?_ (bpush (bre _) _), ?_, bpush (bpush (bpush (bre _) _) _) _, by simp⟩
  · simpa using Sg.new (w.alloc (.cells #[.int .i64 g, .string nm, .int .i64 t, .int .i64 b, .int .i64 nx, m0, g0] 32)) 29 st sb
  · simpa using Bx.new ((w.alloc (.cells #[.int .i64 g, .string nm, .int .i64 t, .int .i64 b, .int .i64 nx, m0, g0] 32)).alloc (.cells #[.int .i64 st, .int .i64 sb] 29)) 32 0 ⟨#[]⟩ 0 0 0 (.slice none 0 0) (.slice none 0 0)

end Go.Proofs.YtfmacodnjhegcamGreat
