/- Djg. -/

import Derived.Test.YtmpcmllfgogegaaGreatmJlz
namespace Go.Proofs.YtmpcmllfgogegaaGreat
open Go.RowKit Go.ChangeMaps
theorem wpList_append_int2 (w : World) {ops : Array Oper} {rest : List Oper} {o : Oper} {a : Act} {Q : Exit → Act → World → Prop} (hgd : o.guard = none) (s x : Operand)
  (ho : o.op = .call { callee := .builtin .append, args := #[s, x], argTypes := #[27, 27] })
  (base : Nat) (v : Value) (bs : List Int) (hs : a.eval s = v) (hown : OwI w base v bs) (n : Int)
  (hx : a.eval x = .slice (some ⟨w.heap.size, 0, none⟩) 1 1) (hlen : bs.length ≤ 2097154) (hbase : base ≤ w.heap.size)
  (h : ∀ v' w', OwI w' base v' (bs ++ [n]) → (w.alloc (.cells #[.int .i64 n] 3)).grownBy w' v.ownBlock → (∀ j, v'.ownBlock = some j → v.ownBlock = some j ∨ w.heap.size ≤ j) → wpList Tryz.prog ops Q rest (a.put o.dst v') w') :
  wpList Tryz.prog ops Q (o :: rest) a (w.alloc (.cells #[.int .i64 n] 3)) := by
 obtain ⟨i0, hi, hz0, hz1, hz2⟩ := info_parts3 info_int
 refine wpList_append_own_at _ hgd s x 27 ho base 3 i0 (.int .i64 0) 1 8 Tryz.underlying27 hi hz0 hz1 hz2 rfl (by decide) v _ _ hs (hown.alloc _) ⟨w.heap.size, 0, none⟩ 1 1 [.int .i64 n] hx rfl (cell_one_int _ _ _) (by intro u hu; simp at hu; subst hu; rfl) (by unfold maxLen; omega) (by omega) (by simp; omega) ?_
 intro v' w' hown' hg _ h5
 refine h v' w' (by simpa [OwI] using hown') hg (fun j hj => ?_)
 rcases h5 with h5 | h5
 ·exact .inl (by rw [← h5]; exact hj)
 ·rw [h5] at hj; simp at hj; exact .inr (by omega)
structure Dj2 (w W : World) (cb : Nat) (ao : Option Addr) (n cap : Nat) (av bv : Value) (GA GB : List Int) : Prop where
 cur : Cur W cb ao n cap
 code : Code W cb ao n
 a : OwI W (cb + 1) av GA
 b : OwI W (cb + 1) bv GB
 apart : Dj av bv
 bel : Below w.heap.size w W
 lo : w.heap.size ≤ cb
theorem Dj2.draw {w W W' : World} {cb n cap : Nat} {ao : Option Addr} {av bv : Value} {GA GB : List Int} (h : Dj2 w W cb ao n cap av bv GA GB) (hc : Cur W' cb ao n cap) (hg : W.grownBy W' (some cb)) : Dj2 w W' cb ao n cap av bv GA GB :=
 ⟨hc, h.code.later hg, OwI.grown h.a hg (Nat.lt_succ_self _), OwI.grown h.b hg (Nat.lt_succ_self _), h.apart, h.bel.trans (below_of_grown hg h.lo h.bel.size), h.lo⟩
theorem Dj2.swap {w W : World} {cb n cap : Nat} {ao : Option Addr} {av bv : Value} {GA GB : List Int} (h : Dj2 w W cb ao n cap av bv GA GB) : Dj2 w W cb ao n cap bv av GB GA := ⟨h.cur, h.code, h.b, h.a, h.apart.symm, h.bel, h.lo⟩
theorem Dj2.app {w W W' : World} {cb n cap : Nat} {ao : Option Addr} {av bv v' : Value} {GA GB : List Int} {x : Int} (h : Dj2 w W cb ao n cap av bv GA GB) (ho : OwI W' (cb + 1) v' (GA ++ [x])) (hg : (W.alloc (.cells #[.int .i64 x] 3)).grownBy W' av.ownBlock) (hl : ∀ j, v'.ownBlock = some j → av.ownBlock = some j ∨ W.heap.size ≤ j) : Dj2 w W' cb ao n cap v' bv (GA ++ [x]) GB := by
 have hne : some cb ≠ av.ownBlock := fun e => by have := (h.a.lt cb e.symm).1; omega
 have hcl := h.cur.lt
 have hG : W.grownBy W' av.ownBlock := grown_push hg
 have hb0 : OwI W' (cb + 1) bv GB := World.ownsRow.kept (h.b.alloc _) hg (by
   cases hc : bv.ownBlock with
   | none => exact Or.inl rfl
   | some j => exact Or.inr (fun e => h.apart j e.symm hc))
 refine ⟨?_, ?_, ho, hb0, fun j h1 h2 => ?_, ?_, h.lo⟩
 ·obtain ⟨i, q, hi, hh⟩ := h.cur
  exact ⟨i, q, hi, (hG.block cb hcl hne).trans hh⟩
 ·intro hn
  obtain ⟨b, off, h1, h2, h3⟩ := h.code hn
  refine ⟨b, off, h1, h2, fun j hj => ?_⟩
  obtain ⟨z, hz, hc⟩ := h3 j hj
  exact ⟨z, hz, (cell_same (p := ⟨b, off + j, none⟩) (hG.block b (by omega) (fun e => by have := (h.a.lt b e.symm).1; omega))).trans hc⟩
 ·rcases hl j h1 with e | e
  ·exact h.apart j e h2
  ·have := (h.b.lt j h2).2; omega
 ·refine h.bel.trans ⟨hG.os, hG.tape, hG.output, hG.size, fun k hk => hG.block k (by have := h.bel.size; omega) (fun e => by have := (h.a.lt k e.symm).1; have := h.lo; omega)⟩
end Go.Proofs.YtmpcmllfgogegaaGreat
