/- New flags. -/
import Derived.Test.YtegdejhgamkkbaaFlagOf
namespace Go.Proofs.Ytegdejhgamkkbaa
open Go.RowKit

def fnew (n t b : Int) : List R3 := [(bit n 0, t, b), (bit n 1, t, b), (bit n 2, t, b)]
theorem fnew_at (n t b : Int) (i : Nat) (h : i < (fnew n t b).length) : (fnew n t b)[i] = (bit n i, t, b) := by
  have h3 : i = 0 ∨ i = 1 ∨ i = 2 := by simp [fnew] at h; omega
  rcases h3 with rfl | rfl | rfl <;> rfl
theorem fnew_take (n t b : Int) (i : Nat) (h : i < 3) : (fnew n t b).take (i + 1) = (fnew n t b).take i ++ [(bit n i, t, b)] := by
  rw [List.take_succ_eq_append_getElem (by simpa [fnew] using h), fnew_at]

theorem cells_new3 (w : World) (p : R3) (e : Nat) : ∀ j u, (fl [p])[j]? = some u → (w.alloc (.cells #[.int .i64 p.1, .int .i64 p.2.1, .int .i64 p.2.2] e)).cell? ((⟨w.heap.size, 0, none⟩ : Addr).add j) = some u := by
  intro j u hu
  have h := heap_alloc_new w (.cells #[.int .i64 p.1, .int .i64 p.2.1, .int .i64 p.2.2] e)
  have hadd : (⟨w.heap.size, 0, none⟩ : Addr).add j = ⟨w.heap.size, j, none⟩ := by unfold Addr.add; split <;> simp_all
  rw [hadd, cell_of_row _ _ _ _ _ _ h]
  simpa [fl] using hu

/-- One register appended to a row of registers that the call owns: the register lies in a block of its own, laid just ahead. -/
theorem wpList_append_rg (w : World) {ops : Array Oper} {rest : List Oper} {o : Oper} {a : Act} {Q : Exit → Act → World → Prop} (hgd : o.guard = none) (s x : Operand)
    (ho : o.op = .call { callee := .builtin .append, args := #[s, x], argTypes := #[55, 55] })
    (base : Nat) (v : Value) (l : List R3) (hs : a.eval s = v) (hown : Ow w base v l) (p q r : Int)
    (hx : a.eval x = .slice (some ⟨w.heap.size, 0, none⟩) 1 1) (hlen : l.length ≤ 1048576) (hbase : base ≤ w.heap.size)
    (h : ∀ v' w', Ow w' base v' (l ++ [(p, q, r)]) → Below base w w' → wpList Try.prog ops Q rest (a.put o.dst v') w') :
    wpList Try.prog ops Q (o :: rest) a (w.alloc (.cells #[.int .i64 p, .int .i64 q, .int .i64 r] 82)) := by
  obtain ⟨i0, hi, hz0, hz1, hz2⟩ := info_parts3 info_rg
  refine wpList_append_own _ hgd s x 55 ho base 82 i0 _ 3 24 Try.underlying55 hi hz0 hz1 hz2 rfl (by decide) v _ _ hs (hown.alloc _) ⟨w.heap.size, 0, none⟩ 1 1 (fl [(p, q, r)]) hx rfl (cells_new3 w (p, q, r) 82) (fl_one _) (by unfold maxLen; omega) (by omega) (by simp; omega) ?_
  intro v' w' hown' hg _
  have h1 : Ow w' base v' (l ++ [(p, q, r)]) := by unfold Ow; rw [fl_app]; simpa using hown'
  exact h v' w' h1 (((Below.refl base w).alloc hbase _).grown hg (by simp; omega) (fun k hk => (hown.lt k hk).1))

theorem own_empty (W : World) (B : Nat) (hB : B ≤ W.heap.size) : Ow (W.alloc (.cells #[] 82)) B (.slice (some ⟨W.heap.size, 0, none⟩) 0 0) [] :=
  World.ownsRow_lit (base := B) (e := 82) (size := 3) W #[] 0 hB (by unfold maxLen; omega) rfl

theorem bit_odd {n : Int} {i : Nat} {m : Int} (hm : n / 2 ^ i = m) (h : m % 2 = 1) : bit n i = 1 := by unfold bit; rw [hm, h]
theorem bit_even {n : Int} {i : Nat} {m : Int} (hm : n / 2 ^ i = m) (h : ¬ m % 2 = 1) : bit n i = 0 := by unfold bit; rw [hm]; omega

end Go.Proofs.Ytegdejhgamkkbaa
