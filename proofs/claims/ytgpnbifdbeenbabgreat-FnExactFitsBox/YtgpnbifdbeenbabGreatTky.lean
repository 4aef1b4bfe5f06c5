/- TakeS, TakeI, TakeT, in one text. -/
import Derived.Test.YtgpnbifdbeenbabGreatTkz
namespace Go.Proofs.YtgpnbifdbeenbabGreat
open Go.RowKit Go.ChangeMaps

/-- What lies there while a box is worked on: the box that came in, the answer's place, the new box and its lists. -/
structure Stn (w W : World) (OB : Nat) (g : Int) (nm : ByteArray) (t b nx : Int) (m0 g0 : Value) (mv gv : Value) (Z : List Z5) (G : List Int) : Prop where
  box : Bx W w.heap.size 33 g nm t b nx m0 g0
  ans : Bx W (w.heap.size + 1) 33 0 ⟨#[]⟩ 0 0 0 (.slice none 0 0) (.slice none 0 0)
  out : Bx W OB 33 g nm t b nx mv gv
  ml : OwZ W (w.heap.size + 1 + 1) mv Z
  gl : OwI W (w.heap.size + 1 + 1) gv G
  bel : Below w.heap.size w W
theorem Stn.later {w W W' : World} {OB : Nat} {g : Int} {nm : ByteArray} {t b nx : Int} {m0 g0 : Value} {mv gv : Value} {Z : List Z5} {G : List Int} (h : Stn w W OB g nm t b nx m0 g0 mv gv Z G) (hb : Below W.heap.size W W') : Stn w W' OB g nm t b nx m0 g0 mv gv Z G :=
  ⟨h.box.later hb, h.ans.later hb, h.out.later hb, h.ml.later hb, own_later h.gl hb, btr h.bel hb⟩

end Go.Proofs.YtgpnbifdbeenbabGreat

namespace Go.Proofs.YtgpnbifdbeenbabGreat
open Go.RowKit Go.ChangeMaps

/-- What lies there while a box is worked on by its shelf. -/
structure Shn (w W : World) (mb : Nat) (g : Int) (nm : ByteArray) (t b nx : Int) (m0 g0 : Value) (E : List En) (c : Nat) : Prop where
  box : Bx W w.heap.size 33 g nm t b nx m0 g0
  ans : Bx W (w.heap.size + 1) 33 0 ⟨#[]⟩ 0 0 0 (.slice none 0 0) (.slice none 0 0)
  mp : OwMp W (w.heap.size + 1 + 1) mb E c
  bel : Below w.heap.size w W
theorem Shn.later {w W W' : World} {mb : Nat} {g : Int} {nm : ByteArray} {t b nx : Int} {m0 g0 : Value} {E : List En} {c : Nat} (h : Shn w W mb g nm t b nx m0 g0 E c) (hb : Below W.heap.size W W') : Shn w W' mb g nm t b nx m0 g0 E c :=
  ⟨h.box.later hb, h.ans.later hb, h.mp.later hb, btr h.bel hb⟩
theorem Shn.put {w W W' : World} {mb : Nat} {g : Int} {nm : ByteArray} {t b nx : Int} {m0 g0 : Value} {E E' : List En} {c c' : Nat} (h : Shn w W mb g nm t b nx m0 g0 E c) (hg : W.grownBy W' (some mb)) (hm : OwMp W' (w.heap.size + 1 + 1) mb E' c') : Shn w W' mb g nm t b nx m0 g0 E' c' := by
  have hmb := h.mp.base
  have hw := h.bel.size
  refine ⟨h.box.grown hg (fun e => by simp only [Option.some.injEq] at e; omega), h.ans.grown hg (fun e => by simp only [Option.some.injEq] at e; omega), hm, h.bel.trans (below_of_grown hg (by omega) hw)⟩
theorem wpList_delete_run {ops : Array Oper} {rest : List Oper} {o : Oper} {a : Act} {w : World} {Q : Exit → Act → World → Prop} (hgd : o.guard = none) (m x : Operand) (t k : TypeId)
    (ho : o.op = .call { callee := .builtin .delete, args := #[m, x], argTypes := #[t, k] }) (v u : Value) (hm : a.eval m = v) (hx : a.eval x = u) {w' : World}
    (hr : (Builtin.delete_ #[t, k] o.type #[v, u]).run Tryz.prog w = .ok (.tuple #[]) w') (h : wpList Tryz.prog ops Q rest (a.put o.dst (.tuple #[])) w') : wpList Tryz.prog ops Q (o :: rest) a w :=
  wpList_plain hgd fun _ hK => by
    unfold Oper.wp execOp
    simp only [ho, resolve, invoke, builtin, Sem.run_bind, Sem.run_pure, Result.andThen_ok, List.map_toArray, List.map_cons, List.map_nil, hm, hx, hr]
    exact hK _ _ h

end Go.Proofs.YtgpnbifdbeenbabGreat

namespace Go.Proofs.YtgpnbifdbeenbabGreat
open Go.RowKit Go.ChangeMaps

end Go.Proofs.YtgpnbifdbeenbabGreat

