/- The walks of the two functions that write decimal figures, and of the law over them. -/
import Derived.Test.YtpncaomghmeneaaDoorRDecB
import Derived.Test.YtpncaomghmeneaaDoorProg
import Derived.Test.YtpncaomghmeneaaDoorPure
import Derived.Test.YtpncaomghmeneaaDoorItoa
import Derived.WalkSpells
import Derived.WalkLawsBesides
namespace Go.Proofs.YtpncaomghmeneaaDoor
open Go.RowKit

theorem abs_quo (x : Int) (h : x ≤ 0) : (x.tdiv 10).natAbs = x.natAbs / 10 := by
  obtain ⟨k, rfl⟩ : ∃ k : Nat, x = -(k : Int) := ⟨x.natAbs, by omega⟩
  rw [Int.neg_tdiv, Int.tdiv_eq_ediv_of_nonneg (by omega)]; omega
theorem quo_le (x : Int) (h : x ≤ 0) : x.tdiv 10 ≤ 0 ∧ x ≤ x.tdiv 10 := by
  obtain ⟨k, rfl⟩ : ∃ k : Nat, x = -(k : Int) := ⟨x.natAbs, by omega⟩
  rw [Int.neg_tdiv, Int.tdiv_eq_ediv_of_nonneg (by omega)]; omega
theorem rem_of (x : Int) (h : x ≤ 0) : x.tmod 10 = -((x.natAbs % 10 : Nat) : Int) := by
  obtain ⟨k, rfl⟩ : ∃ k : Nat, x = -(k : Int) := ⟨x.natAbs, by omega⟩
  rw [Int.neg_tmod, Int.tmod_eq_emod_of_nonneg (by omega)]; omega

theorem itoa_pos (n : Nat) : Lib.itoa (n : Int) = dg n := by unfold Lib.itoa dg; rw [if_neg (by omega)]; rfl
theorem itoa_neg (n : Int) (h : n < 0) : Lib.itoa n = 45 :: dg n.natAbs := by unfold Lib.itoa dg; rw [if_pos h]

theorem below_grow (w : World) (k : Nat) (os : Array Obj) : Below w.heap.size w (Sort.grow (w.drewN k) os) :=
  ⟨rfl, rfl, rfl, by show w.heap.size ≤ (w.heap ++ os).size; simp, fun i hi => by show (w.heap ++ os)[i]? = w.heap[i]?; rw [Array.getElem?_append_left hi]⟩

theorem implDecimal_any (n : Int) (w : World) (h0 : -9223372036854775808 ≤ n) (h1 : n ≤ 9223372036854775807) (htab : Lib.TabIs Tryd.prog w "internal/strconv.uint64pow10" .u64 Lib.pow10Tab) :
    Calls Tryd.prog 9 #[.int .i64 n] w fun e w' => e = .returned (.string ⟨(Lib.itoa n).toArray⟩) ∧ Below w.heap.size w w' := by
  have HT := hide htab
  clear htab
  go_enter Tryd.func9, Tryd.ntmps9
  go_wp2_with fail
  refine (Tryd.strconv_Itoa n h0 h1 _ (unhide HT)).mono ?_; rintro e w1 ⟨rfl, k, os, rfl⟩
  go_wp2
  go_ret
  exact ⟨rfl, below_grow _ _ _⟩

theorem gPow : Tryd.prog.globalNamed "internal/strconv.uint64pow10" = some 0 := by kernel_rfl

theorem tab_later {w w1 : World} (hb : Below w.heap.size w w1) (htab : Lib.TabIs Tryd.prog w "internal/strconv.uint64pow10" .u64 Lib.pow10Tab) : Lib.TabIs Tryd.prog w1 "internal/strconv.uint64pow10" .u64 Lib.pow10Tab := by
  have hc := htab.cell gPow 0 (by decide)
  exact var?_below hb gPow (World.block_lt_of_cell? _ _ hc) htab

end Go.Proofs.YtpncaomghmeneaaDoor
