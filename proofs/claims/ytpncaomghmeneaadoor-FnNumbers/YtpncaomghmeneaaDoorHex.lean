/- The walks of the two functions that write figures for bytes, and of the law over them. -/
import Derived.Test.YtpncaomghmeneaaDoorRShort
import Derived.Test.YtpncaomghmeneaaDoorVar
import Derived.Deep.RegionHeld3
namespace Go.Proofs.YtpncaomghmeneaaDoor
open Go.RowKit

/-- The figure of a number below 16. -/
def fig (x : Nat) : UInt8 := if x < 10 then UInt8.ofNat (48 + x) else UInt8.ofNat (87 + x)

theorem fig_lo (x : Nat) (h : x < 10) : ((fig x).toNat : Int) = 48 + (x : Int) := by
  unfold fig; rw [if_pos h, u8_nat _ (by omega)]; simp
theorem fig_hi (x : Nat) (h : ¬ x < 10) (h2 : x < 16) : ((fig x).toNat : Int) = 97 + (x : Int) - 10 := by
  unfold fig; rw [if_neg h, u8_nat _ (by omega)]; omega

/-- Two figures a byte. -/
def hexOf : List UInt8 → List UInt8
  | [] => []
  | c :: l => fig (c.toNat / 16) :: fig (c.toNat % 16) :: hexOf l

theorem hexOf_snoc (l : List UInt8) (c : UInt8) : hexOf (l ++ [c]) = hexOf l ++ [fig (c.toNat / 16), fig (c.toNat % 16)] := by
  induction l with
  | nil => rfl
  | cons b l ih => simp [hexOf, ih]
theorem hexOf_len (l : List UInt8) : (hexOf l).length = 2 * l.length := by
  induction l with
  | nil => rfl
  | cons b l ih => simp [hexOf, ih]; omega

theorem hex_step (s : ByteArray) (k : Nat) (h : k < s.size) : hexOf (s.data.toList.take (k + 1)) = hexOf (s.data.toList.take k) ++ [fig (s[k].toNat / 16), fig (s[k].toNat % 16)] := by
  rw [List.take_succ_eq_append_getElem (by rw [Array.length_toList]; exact h), hexOf_snoc]; rfl

/-- Two bytes appended to a row of bytes that the call owns, as one step of a region that draws its order. -/
theorem step_append_two {P : Program} {ops : Array Oper} {o : Oper} {a : Act} {w : World} {K : Act → World → Prop} {Q : Exit → Act → World → Prop} {E : Prop}
    (hg : o.guard = none) (s x : Operand) (t : TypeId) (hop : o.op = Op.call { callee := Callee.builtin Builtin.append, args := #[s, x], argTypes := #[t, t] })
    (base : Nat) (e : TypeId) (hinfo : (P.info? e).map (fun i => (i.zero, i.size, i.bytes)) = some (some (.int .u8 0), 1, 1)) (ht : P.underlying t = some (.slice e))
    (v : Value) (bs : List UInt8) (hs : a.eval s = v) (hown : w.ownsRow base e 1 v bs.length (bs.map bv)) (ad : Addr) (b1 b2 : UInt8)
    (hx : a.eval x = .slice (some ad) 2 2) (hc : ∀ j u, [bv b1, bv b2][j]? = some u → w.cell? (ad.add j) = some u) (hlen : bs.length ≤ 70368744177664) (hbase : base ≤ w.heap.size)
    (hK : ∀ v' w', w'.ownsRow base e 1 v' (bs ++ [b1, b2]).length ((bs ++ [b1, b2]).map bv) → Below base w w' → K (a.put o.dst v') w') :
    if Region.wanted o (yielded ops a.tmps) = true then Oper.wp P o a w K Q else E := by
  have hw : Region.wanted o (yielded ops a.tmps) = true := by simp [Region.wanted, hg]
  rw [if_pos hw]
  obtain ⟨i0, hi, hz0, hz1, hz2⟩ := info_parts hinfo
  refine wp_append_own w s x t hop base e i0 (.int .u8 0) 1 1 ht hi hz0 hz1 hz2 rfl (by decide) v _ _ hs hown ad 2 2 [bv b1, bv b2] hx rfl hc (by intro u hu; simp at hu; rcases hu with rfl | rfl <;> rfl) (by unfold maxLen; omega) (by omega) hbase ?_
  intro v' w' hown' hgr _
  exact hK v' w' (by simpa using hown') ((Below.refl base w).grown hgr hbase (fun k hk => (hown.lt k hk).1))

end Go.Proofs.YtpncaomghmeneaaDoor
