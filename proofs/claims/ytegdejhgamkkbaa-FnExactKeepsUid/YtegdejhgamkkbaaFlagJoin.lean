/- Lists of registers joined place by place. -/
import Derived.Test.YtegdejhgamkkbaaFlagNew
import Derived.Test.YtegdejhgamkkbaaJoin
namespace Go.Proofs.Ytegdejhgamkkbaa
open Go.RowKit

/-- Of two registers the one that counts. -/
def jp (p q : R3) : R3 := if cb q.1 q.2.1 q.2.2 p.1 p.2.1 p.2.2 = true then q else p
def jl (a b : List R3) : List R3 := List.zipWith jp a b
theorem jl_len (a b : List R3) : (jl a b).length = min a.length b.length := by simp [jl]
theorem jl_at (a b : List R3) (i : Nat) (h : i < (jl a b).length) (ha : i < a.length) (hb : i < b.length) : (jl a b)[i] = jp a[i] b[i] := by simp [jl]

theorem jreg_jp (v t b v' t' b' : Int) : jreg v t b v' t' b' = rgv (jp (v, t, b) (v', t', b')).1 (jp (v, t, b) (v', t', b')).2.1 (jp (v, t, b) (v', t', b')).2.2 := by
  unfold jreg jp; split <;> rfl
/-- One register appended, as one step of a region that draws its order. -/
theorem step_append_rg {ops : Array Oper} {o : Oper} {a : Act} {w : World} {K : Act → World → Prop} {Q : Exit → Act → World → Prop} {E : Prop}
    (hg : o.guard = none) (s x : Operand) (hop : o.op = Op.call { callee := Callee.builtin Builtin.append, args := #[s, x], argTypes := #[55, 55] })
    (base : Nat) (v : Value) (l : List R3) (hs : a.eval s = v) (p q r : Int) (hown : Ow w base v l)
    (hx : a.eval x = .slice (some ⟨w.heap.size, 0, none⟩) 1 1) (hlen : l.length ≤ 1048576) (hbase : base ≤ w.heap.size)
    (hK : ∀ v' w', Ow w' base v' (l ++ [(p, q, r)]) → Below base w w' → K (a.put o.dst v') w') :
    if Region.wanted o (yielded ops a.tmps) = true then Oper.wp Try.prog o a (w.alloc (.cells #[.int .i64 p, .int .i64 q, .int .i64 r] 82)) K Q else E := by
  have hw : Region.wanted o (yielded ops a.tmps) = true := by simp [Region.wanted, hg]
  rw [if_pos hw]
  obtain ⟨i0, hi, hz0, hz1, hz2⟩ := info_parts3 info_rg
  refine wp_append_own _ s x 55 hop base 82 i0 _ 3 24 Try.underlying55 hi hz0 hz1 hz2 rfl (by decide) v _ _ hs (hown.alloc _) ⟨w.heap.size, 0, none⟩ 1 1 (fl [(p, q, r)]) hx rfl (cells_new3 w (p, q, r) 82) (fl_one _) (by unfold maxLen; omega) (by omega) (by simp; omega) ?_
  intro v' w' hown' hgr _
  refine hK v' w' ?_ (((Below.refl base w).alloc hbase _).grown hgr (by simp; omega) (fun k hk => (hown.lt k hk).1))
  unfold Ow; rw [fl_app]; simpa using hown'

theorem jl_take (a b : List R3) (i : Nat) (ha : i < a.length) (hb : i < b.length) : (jl a b).take (i + 1) = (jl a b).take i ++ [jp a[i] b[i]] := by
  have h : i < (jl a b).length := by rw [jl_len]; omega
  rw [List.take_succ_eq_append_getElem h, jl_at a b i h ha hb]

end Go.Proofs.Ytegdejhgamkkbaa
