/- Ma, Mb, Mc, Md, Me, Za, Zb, Zd, Zpa, Zpb, Ze, Zf, Zg, Zh, Zi0. -/
import Derived.Test.YtkbiebacbebdnaaProg
import Derived.WalkKit
import Derived.Laws.IdiomStrings
import Derived.WalkSpells
import Derived.WalkLawsBesides
import Derived.Lib.Strings
import Derived.Lib.BufferWrite
import Derived.Lib.UnsafeStr
import Derived.Laws.MakeOwn
import Derived.Below
import Derived.BigQuiet
import Derived.Deep.QuietTactic
import Derived.Deep.RegionHeld3
import Derived.Deep.Cut
import Derived.Laws.Bits128
import Derived.Laws.ShiftsVarLaws
import Derived.Lib.BufferMore
import Derived.ProofKit
import Derived.OpenShut
import Derived.Lib.SmallJoins
import Derived.Deep.Slices
import Derived.Carry
namespace Go.Proofs.Ytkbiebacbebdnaa
open Go.RowKit
end Go.Proofs.Ytkbiebacbebdnaa
namespace Go.Proofs.Ytkbiebacbebdnaa
open Go.RowKit
end Go.Proofs.Ytkbiebacbebdnaa
namespace Go.Proofs.Ytkbiebacbebdnaa
open Go.RowKit
end Go.Proofs.Ytkbiebacbebdnaa
namespace Go.Proofs.Ytkbiebacbebdnaa
open Go.RowKit
/-- Which of two stamps is later. -/
def later (t b t' b' : Int) : Bool := if t = t' then decide (b' < b) else decide (t' < t)
theorem bpush {a w : World} (h : Below a.heap.size a w) (o : Obj) : Below a.heap.size a (w.alloc o) := h.alloc h.size o
theorem btr {a b c : World} (h : Below a.heap.size a b) (k : Below b.heap.size b c) : Below a.heap.size a c := h.trans (k.mono h.size)
theorem bre (a : World) : Below a.heap.size a a := Below.refl _ _
theorem bdr {a w : World} (h : Below a.heap.size a w) : Below a.heap.size a w.drew := h.drew
theorem bset {a w : World} (h : Below a.heap.size a w) {p : Addr} (hp : a.heap.size ≤ p.block) (u : Value) : Below a.heap.size a (w.setCell p u) := h.setCell hp u
end Go.Proofs.Ytkbiebacbebdnaa
namespace Go.Proofs.Ytkbiebacbebdnaa
open Go.RowKit
end Go.Proofs.Ytkbiebacbebdnaa
namespace Go.Proofs.Ytkbiebacbebdnaa
open Go.RowKit
end Go.Proofs.Ytkbiebacbebdnaa
namespace Go.Proofs.Ytkbiebacbebdnaa
open Go.RowKit
end Go.Proofs.Ytkbiebacbebdnaa
namespace Go.Proofs.Ytkbiebacbebdnaa
open Go.RowKit
end Go.Proofs.Ytkbiebacbebdnaa
namespace Go.Proofs.Ytkbiebacbebdnaa
open Go.RowKit
end Go.Proofs.Ytkbiebacbebdnaa
namespace Go.Proofs.Ytkbiebacbebdnaa
open Go.RowKit
/-- A number as an int's cell. -/
def ic (z : Nat) : Value := .int .i64 (z : Int)
theorem wpList_append_nat {P : Program} (w : World) {ops : Array Oper} {rest : List Oper} {o : Oper} {a : Act} {Q : Exit → Act → World → Prop} (hgd : o.guard = none) (s x : Operand) (t : TypeId)
    (ho : o.op = .call { callee := .builtin .append, args := #[s, x], argTypes := #[t, t] })
    (base : Nat) (e : TypeId) (hinfo : (P.info? e).map (fun i => (i.zero, i.size, i.bytes)) = some (some (.int .i64 0), 1, 8)) (ht : P.underlying t = some (.slice e))
    (v : Value) (bs : List Nat) (hs : a.eval s = v) (hown : w.ownsRow base e 1 v bs.length (bs.map ic)) (n : Int) (b : Nat) (hb : n = (b : Int))
    (hx : a.eval x = .slice (some ⟨w.heap.size, 0, none⟩) 1 1) (hlen : bs.length ≤ 1000000) (hbase : base ≤ w.heap.size)
    (h : ∀ v' w', w'.ownsRow base e 1 v' (bs ++ [b]).length ((bs ++ [b]).map ic) → Below base w w' → wpList P ops Q rest (a.put o.dst v') w') :
    wpList P ops Q (o :: rest) a (w.alloc (.cells #[.int .i64 n] e)) := by
  obtain ⟨i0, hi, hz0, hz1, hz2⟩ := info_parts hinfo
  subst hb
  refine wpList_append_own _ hgd s x t ho base e i0 (.int .i64 0) 1 8 ht hi hz0 hz1 hz2 rfl (by decide) v _ _ hs (hown.alloc _) ⟨w.heap.size, 0, none⟩ 1 1 [ic b] hx rfl (cell_one_new _ _ _) (by intro u hu; simp at hu; subst hu; rfl) (by unfold maxLen; omega) (by omega) (by simp; omega) ?_
  intro v' w' hown' hg _
  refine h v' w' (by simpa using hown') (((Below.refl base w).alloc hbase _).grown hg (by simp; omega) (fun k hk => (hown.lt k hk).1))
end Go.Proofs.Ytkbiebacbebdnaa
namespace Go.Proofs.Ytkbiebacbebdnaa
open Go.RowKit
theorem hid {p : Prop} (h : p) : Hid p := h
theorem own_later {w w' : World} {B e size n : Nat} {v : Value} {xs : List Value} (h : w.ownsRow B e size v n xs) (hb : Below w.heap.size w w') : w'.ownsRow B e size v n xs :=
  h.kept (row := none) ⟨hb.os, hb.tape, hb.output, hb.size, fun k hk _ => hb.block k hk⟩ (by cases v.ownBlock <;> simp)
end Go.Proofs.Ytkbiebacbebdnaa
namespace Go.Proofs.Ytkbiebacbebdnaa
open Go.RowKit
end Go.Proofs.Ytkbiebacbebdnaa
namespace Go.Proofs.Ytkbiebacbebdnaa
open Go.RowKit
theorem wtr {a b c : World} {r : Option Nat} (h : a.grownBy b r) (k : b.grownBy c r) : a.grownBy c r :=
  ⟨k.os.trans h.os, k.tape.trans h.tape, k.output.trans h.output, Nat.le_trans h.size k.size, fun i hi hr => (k.block i (Nat.lt_of_lt_of_le hi h.size) hr).trans (h.block i hi hr)⟩
theorem wre (a : World) (r : Option Nat) : a.grownBy a r := ⟨rfl, rfl, rfl, Nat.le_refl _, fun _ _ _ => rfl⟩
theorem wst {a w : World} {g : Nat} (h : a.grownBy w (some g)) (i : Nat) (u : Value) : a.grownBy (w.setCell ⟨g, i, none⟩ u) (some g) :=
  wtr h ⟨rfl, rfl, rfl, by simp [World.setCell], fun k _ hk => Below.heap_setCell _ _ _ _ (fun e => hk (by simpa using e))⟩
end Go.Proofs.Ytkbiebacbebdnaa
namespace Go.Proofs.Ytkbiebacbebdnaa
open Go.RowKit
end Go.Proofs.Ytkbiebacbebdnaa
namespace Go.Proofs.Ytkbiebacbebdnaa
open Go.RowKit
end Go.Proofs.Ytkbiebacbebdnaa
namespace Go.Proofs.Ytkbiebacbebdnaa
open Go.RowKit
end Go.Proofs.Ytkbiebacbebdnaa
namespace Go.Proofs.Ytkbiebacbebdnaa
open Go.RowKit
theorem addr_add (k o j : Nat) : (⟨k, o, none⟩ : Addr).add j = ⟨k, o + j, none⟩ := by unfold Addr.add; split <;> simp_all
end Go.Proofs.Ytkbiebacbebdnaa
namespace Go.Proofs.Ytkbiebacbebdnaa
open Go.RowKit
end Go.Proofs.Ytkbiebacbebdnaa
namespace Go.Proofs.Ytkbiebacbebdnaa
open Go.RowKit
end Go.Proofs.Ytkbiebacbebdnaa
namespace Go.Proofs.Ytkbiebacbebdnaa
open Go.RowKit
end Go.Proofs.Ytkbiebacbebdnaa
namespace Go.Proofs.Ytkbiebacbebdnaa
open Go.RowKit
theorem bdn {B : Nat} {w w1 : World} (h : Below B w w1) (k : Nat) : Below B w (w1.drewN k) := ⟨h.os, h.tape, h.output, h.size, h.block⟩
end Go.Proofs.Ytkbiebacbebdnaa
namespace Go.Proofs.Ytkbiebacbebdnaa
open Go.RowKit
end Go.Proofs.Ytkbiebacbebdnaa
namespace Go.Proofs.Ytkbiebacbebdnaa
open Go.RowKit
end Go.Proofs.Ytkbiebacbebdnaa
namespace Go.Proofs.Ytkbiebacbebdnaa
open Go.RowKit
end Go.Proofs.Ytkbiebacbebdnaa
namespace Go.Proofs.Ytkbiebacbebdnaa
open Go.RowKit
end Go.Proofs.Ytkbiebacbebdnaa
namespace Go.Proofs.Ytkbiebacbebdnaa
open Go.RowKit
end Go.Proofs.Ytkbiebacbebdnaa
namespace Go.Proofs.Ytkbiebacbebdnaa
open Go.RowKit
theorem below_grownR {B : Nat} {a w : World} {r : Option Nat} (h : a.grownBy w r) (hB : ∀ j, r = some j → B ≤ j) (hs : B ≤ a.heap.size) : Below B a w :=
  ⟨h.os, h.tape, h.output, h.size, fun k hk => h.block k (by omega) (fun e => by have := hB k e.symm; omega)⟩
end Go.Proofs.Ytkbiebacbebdnaa
namespace Go.Proofs.Ytkbiebacbebdnaa
open Go.RowKit
/-- A range: from, to. -/
abbrev G2 := Int × Int
def gcs : List G2 → List Value
  | [] => []
  | p :: l => .int .i64 p.1 :: .int .i64 p.2 :: gcs l
/-- A list of ranges, as it reads. -/
def Rr (W : World) (a : Option Addr) (l : List G2) : Prop :=
  0 < l.length → ∃ k o, a = some ⟨k, o, none⟩ ∧ k < W.heap.size ∧ ∀ i (h : i < l.length), W.cell? ⟨k, o + i * 2, none⟩ = some (.int .i64 l[i].1) ∧ W.cell? ⟨k, o + i * 2 + 1, none⟩ = some (.int .i64 l[i].2)
theorem Rr.later {W W' : World} {a : Option Addr} {l : List G2} (h : Rr W a l) (hb : Below W.heap.size W W') : Rr W' a l := by
  intro hn
  obtain ⟨k, o, h1, h2, h3⟩ := h hn
  exact ⟨k, o, h1, Nat.lt_of_lt_of_le h2 hb.size, fun i hi => ⟨(hb.cell (p := ⟨k, o + i * 2, none⟩) h2).trans (h3 i hi).1, (hb.cell (p := ⟨k, o + i * 2 + 1, none⟩) h2).trans (h3 i hi).2⟩⟩
/-- A number that stands for the last one when it is 0. -/
def lst14 (last x : Int) : Int := if x = 0 then last else x
def inr (n last : Int) (p : G2) : Bool := decide (min (lst14 last p.1) (lst14 last p.2) ≤ n) && decide (n ≤ max (lst14 last p.1) (lst14 last p.2))
def ins (l : List G2) (n last : Int) : Bool := decide (1 ≤ n) && l.any (inr n last)
theorem any_take {α : Type} (f : α → Bool) (l : List α) (i : Nat) (h : i < l.length) (ha : (l.take i).any f = false) (hf : f l[i] = false) : (l.take (i + 1)).any f = false := by
  rw [List.take_succ_eq_append_getElem h, List.any_append, ha, Bool.false_or]
  simp [hf]
theorem any_hit {α : Type} (f : α → Bool) (l : List α) (i : Nat) (h : i < l.length) (hf : f l[i] = true) : l.any f = true := List.any_eq_true.2 ⟨l[i], List.getElem_mem h, hf⟩
/-- How a number stands to two bounds, whichever is the greater. -/
theorem inr_ways (p q n : Int) : (q < p ∧ q ≤ n ∧ n ≤ p ∧ (decide (min p q ≤ n) && decide (n ≤ max p q)) = true) ∨ (¬ q < p ∧ p ≤ n ∧ n ≤ q ∧ (decide (min p q ≤ n) && decide (n ≤ max p q)) = true) ∨
    (q < p ∧ ¬ q ≤ n ∧ True ∧ (decide (min p q ≤ n) && decide (n ≤ max p q)) = false) ∨ (q < p ∧ q ≤ n ∧ ¬ n ≤ p ∧ (decide (min p q ≤ n) && decide (n ≤ max p q)) = false) ∨
    (¬ q < p ∧ ¬ p ≤ n ∧ True ∧ (decide (min p q ≤ n) && decide (n ≤ max p q)) = false) ∨ (¬ q < p ∧ p ≤ n ∧ ¬ n ≤ q ∧ (decide (min p q ≤ n) && decide (n ≤ max p q)) = false) := by
  by_cases h1 : q < p
  · have e1 : min p q = q := by omega
    have e2 : max p q = p := by omega
    rw [e1, e2]
    by_cases h2 : q ≤ n
    · by_cases h3 : n ≤ p
      · exact Or.inl ⟨h1, h2, h3, by simp [h2, h3]⟩
      · exact Or.inr (Or.inr (Or.inr (Or.inl ⟨h1, h2, h3, by simp [h3]⟩)))
    · exact Or.inr (Or.inr (Or.inl ⟨h1, h2, trivial, by simp [h2]⟩))
  · have e1 : min p q = p := by omega
    have e2 : max p q = q := by omega
    rw [e1, e2]
    by_cases h2 : p ≤ n
    · by_cases h3 : n ≤ q
      · exact Or.inr (Or.inl ⟨h1, h2, h3, by simp [h2, h3]⟩)
      · exact Or.inr (Or.inr (Or.inr (Or.inr (Or.inr ⟨h1, h2, h3, by simp [h3]⟩))))
    · exact Or.inr (Or.inr (Or.inr (Or.inr (Or.inl ⟨h1, h2, trivial, by simp [h2]⟩))))
set_option maxHeartbeats 3200000 in
set_option maxRecDepth 100000 in
theorem specInSet_any (a : Option Addr) (m cap : Nat) (l : List G2) (n last : Int) (w : World) (hl : l.length = m) (hm : m ≤ 1048576) (hr : Rr w a l) :
    Calls Try.prog 6 #[.slice a m cap, .int .i64 n, .int .i64 last] w fun e w' => e = .returned (.bool (ins l n last)) ∧ w' = w := by
  by_cases h1 : n < 1
  · have HX : Hid (ins l n last = false) := by show _ = _; rw [ins, decide_eq_false (by omega), Bool.false_and]
    go_enter Try.func6, Try.ntmps6
    go_wp2
    go_ret
    exact ⟨by rw [HX.out]; rfl, rfl⟩
  · have HR := hid hr
    have HL := hid hl
    have HI : Hid (ins l n last = l.any (inr n last)) := by show _ = _; rw [ins, decide_eq_true (by omega), Bool.true_and]
    clear hr hl
    go_enter Try.func6, Try.ntmps6
    go_wp2
    go_loopw [7] (fun iv wr => ∃ i : Nat, i ≤ m ∧ iv = .int .i64 (i : Int) ∧ Hid ((l.take i).any (inr n last) = false) ∧ wr = w) (fun iv _ => m - (intOf iv).toNat)
    case atStart => exact ⟨0, Nat.zero_le _, rfl, rfl, rfl⟩
    case round =>
      obtain ⟨i, hi, rfl, HA, hw⟩ := hrel
      subst hw
      by_cases hlt : i < m
      · have hil : i < l.length := by rw [HL.out]; exact hlt
        obtain ⟨k, o, rfl, hk, hcs⟩ := HR.out (by omega)
        obtain ⟨c1, c2⟩ := hcs i hil
        obtain ⟨⟨x, y⟩, hxy⟩ : ∃ p, l[i] = p := ⟨_, rfl⟩
        rw [hxy] at c1 c2
        dsimp only at c1 c2
        have HIN : Hid (inr n last l[i] = (decide (min (lst14 last x) (lst14 last y) ≤ n) && decide (n ≤ max (lst14 last x) (lst14 last y)))) := by show _ = _; rw [hxy]; rfl
        clear hcs hxy
        have hx : (x == 0) = true ∧ lst14 last x = last ∨ (x == 0) = false ∧ lst14 last x = x := by
          by_cases h : x = 0
          · exact Or.inl ⟨by rw [h]; rfl, if_pos h⟩
          · exact Or.inr ⟨by rw [beq_eq_false_iff_ne]; exact h, if_neg h⟩
        have hy : (y == 0) = true ∧ lst14 last y = last ∨ (y == 0) = false ∧ lst14 last y = y := by
          by_cases h : y = 0
          · exact Or.inl ⟨by rw [h]; rfl, if_pos h⟩
          · exact Or.inr ⟨by rw [beq_eq_false_iff_ne]; exact h, if_neg h⟩
        rcases hx with ⟨hx1, hx2⟩ | ⟨hx1, hx2⟩
        · rcases hy with ⟨hy1, hy2⟩ | ⟨hy1, hy2⟩
          · rw [hx2, hy2] at HIN
            clear hx2 hy2
            rcases inr_ways last last n with ⟨g1, g2, g3, g4⟩ | ⟨g1, g2, g3, g4⟩ | ⟨g1, g2, g3, g4⟩ | ⟨g1, g2, g3, g4⟩ | ⟨g1, g2, g3, g4⟩ | ⟨g1, g2, g3, g4⟩
            · exact absurd g1 (Int.lt_irrefl _)
            · have HX : Hid (ins l n last = true) := by show _ = _; rw [HI.out]; exact any_hit _ l i hil (HIN.out.trans g4)
              clear g4
              go_wp2
              go_ret
              exact ⟨by rw [HX.out]; rfl, rfl⟩
            · exact absurd g1 (Int.lt_irrefl _)
            · exact absurd g1 (Int.lt_irrefl _)
            · have HX := hid (any_take _ l i hil HA.out (HIN.out.trans g4))
              clear g4 g3
              go_wp2
              go_roundw
              case rel => exact ⟨i + 1, by omega, by go_num, HX.out, trivial⟩
              case measure => simp [intOf]; omega
            · have HX := hid (any_take _ l i hil HA.out (HIN.out.trans g4))
              clear g4 
              go_wp2
              go_roundw
              case rel => exact ⟨i + 1, by omega, by go_num, HX.out, trivial⟩
              case measure => simp [intOf]; omega
          · rw [hx2, hy2] at HIN
            clear hx2 hy2
            rcases inr_ways last y n with ⟨g1, g2, g3, g4⟩ | ⟨g1, g2, g3, g4⟩ | ⟨g1, g2, g3, g4⟩ | ⟨g1, g2, g3, g4⟩ | ⟨g1, g2, g3, g4⟩ | ⟨g1, g2, g3, g4⟩
            · have HX : Hid (ins l n last = true) := by show _ = _; rw [HI.out]; exact any_hit _ l i hil (HIN.out.trans g4)
              clear g4
              go_wp2
              go_ret
              exact ⟨by rw [HX.out]; rfl, rfl⟩
            · have HX : Hid (ins l n last = true) := by show _ = _; rw [HI.out]; exact any_hit _ l i hil (HIN.out.trans g4)
              clear g4
              go_wp2
              go_ret
              exact ⟨by rw [HX.out]; rfl, rfl⟩
            · have HX := hid (any_take _ l i hil HA.out (HIN.out.trans g4))
              clear g4 g3
              go_wp2
              go_roundw
              case rel => exact ⟨i + 1, by omega, by go_num, HX.out, trivial⟩
              case measure => simp [intOf]; omega
            · have HX := hid (any_take _ l i hil HA.out (HIN.out.trans g4))
              clear g4 
              go_wp2
              go_roundw
              case rel => exact ⟨i + 1, by omega, by go_num, HX.out, trivial⟩
              case measure => simp [intOf]; omega
            · have HX := hid (any_take _ l i hil HA.out (HIN.out.trans g4))
              clear g4 g3
              go_wp2
              go_roundw
              case rel => exact ⟨i + 1, by omega, by go_num, HX.out, trivial⟩
              case measure => simp [intOf]; omega
            · have HX := hid (any_take _ l i hil HA.out (HIN.out.trans g4))
              clear g4 
              go_wp2
              go_roundw
              case rel => exact ⟨i + 1, by omega, by go_num, HX.out, trivial⟩
              case measure => simp [intOf]; omega
        · rcases hy with ⟨hy1, hy2⟩ | ⟨hy1, hy2⟩
          · rw [hx2, hy2] at HIN
            clear hx2 hy2
            rcases inr_ways x last n with ⟨g1, g2, g3, g4⟩ | ⟨g1, g2, g3, g4⟩ | ⟨g1, g2, g3, g4⟩ | ⟨g1, g2, g3, g4⟩ | ⟨g1, g2, g3, g4⟩ | ⟨g1, g2, g3, g4⟩
            · have HX : Hid (ins l n last = true) := by show _ = _; rw [HI.out]; exact any_hit _ l i hil (HIN.out.trans g4)
              clear g4
              go_wp2
              go_ret
              exact ⟨by rw [HX.out]; rfl, rfl⟩
            · have HX : Hid (ins l n last = true) := by show _ = _; rw [HI.out]; exact any_hit _ l i hil (HIN.out.trans g4)
              clear g4
              go_wp2
              go_ret
              exact ⟨by rw [HX.out]; rfl, rfl⟩
            · have HX := hid (any_take _ l i hil HA.out (HIN.out.trans g4))
              clear g4 g3
              go_wp2
              go_roundw
              case rel => exact ⟨i + 1, by omega, by go_num, HX.out, trivial⟩
              case measure => simp [intOf]; omega
            · have HX := hid (any_take _ l i hil HA.out (HIN.out.trans g4))
              clear g4 
              go_wp2
              go_roundw
              case rel => exact ⟨i + 1, by omega, by go_num, HX.out, trivial⟩
              case measure => simp [intOf]; omega
            · have HX := hid (any_take _ l i hil HA.out (HIN.out.trans g4))
              clear g4 g3
              go_wp2
              go_roundw
              case rel => exact ⟨i + 1, by omega, by go_num, HX.out, trivial⟩
              case measure => simp [intOf]; omega
            · have HX := hid (any_take _ l i hil HA.out (HIN.out.trans g4))
              clear g4 
              go_wp2
              go_roundw
              case rel => exact ⟨i + 1, by omega, by go_num, HX.out, trivial⟩
              case measure => simp [intOf]; omega
          · rw [hx2, hy2] at HIN
            clear hx2 hy2
            rcases inr_ways x y n with ⟨g1, g2, g3, g4⟩ | ⟨g1, g2, g3, g4⟩ | ⟨g1, g2, g3, g4⟩ | ⟨g1, g2, g3, g4⟩ | ⟨g1, g2, g3, g4⟩ | ⟨g1, g2, g3, g4⟩
            · have HX : Hid (ins l n last = true) := by show _ = _; rw [HI.out]; exact any_hit _ l i hil (HIN.out.trans g4)
              clear g4
              go_wp2
              go_ret
              exact ⟨by rw [HX.out]; rfl, rfl⟩
            · have HX : Hid (ins l n last = true) := by show _ = _; rw [HI.out]; exact any_hit _ l i hil (HIN.out.trans g4)
              clear g4
              go_wp2
              go_ret
              exact ⟨by rw [HX.out]; rfl, rfl⟩
            · have HX := hid (any_take _ l i hil HA.out (HIN.out.trans g4))
              clear g4 g3
              go_wp2
              go_roundw
              case rel => exact ⟨i + 1, by omega, by go_num, HX.out, trivial⟩
              case measure => simp [intOf]; omega
            · have HX := hid (any_take _ l i hil HA.out (HIN.out.trans g4))
              clear g4 
              go_wp2
              go_roundw
              case rel => exact ⟨i + 1, by omega, by go_num, HX.out, trivial⟩
              case measure => simp [intOf]; omega
            · have HX := hid (any_take _ l i hil HA.out (HIN.out.trans g4))
              clear g4 g3
              go_wp2
              go_roundw
              case rel => exact ⟨i + 1, by omega, by go_num, HX.out, trivial⟩
              case measure => simp [intOf]; omega
            · have HX := hid (any_take _ l i hil HA.out (HIN.out.trans g4))
              clear g4 
              go_wp2
              go_roundw
              case rel => exact ⟨i + 1, by omega, by go_num, HX.out, trivial⟩
              case measure => simp [intOf]; omega
      · have HX : Hid (ins l n last = false) := by
          show _ = _
          rw [HI.out]
          have := HA.out
          rwa [List.take_of_length_le (by rw [HL.out]; omega)] at this
        go_wp2
        go_ret
        exact ⟨by rw [HX.out]; rfl, rfl⟩
/-- The numbers of 1 .. j that are in a set. -/
def pkd (l : List G2) (n : Int) : Nat → List Nat
  | 0 => []
  | j + 1 => if ins l ((j : Int) + 1) n = true then pkd l n j ++ [j + 1] else pkd l n j
theorem pkd_len (l : List G2) (n : Int) (j : Nat) : (pkd l n j).length ≤ j := by
  induction j with
  | zero => exact Nat.le_refl _
  | succ j ih =>
    rw [pkd]
    split
    · rw [List.length_append]; simp; omega
    · omega
def pks (l : List G2) (n : Int) : List Nat := pkd l n (min 100 n.toNat)
theorem info_int14 : (Try.prog.info? 3).map (fun i => (i.zero, i.size, i.bytes)) = some (some (.int .i64 0), 1, 8) := by kernel_rfl
set_option maxHeartbeats 1600000 in
set_option maxRecDepth 100000 in
theorem specPicked_any (a : Option Addr) (m cap : Nat) (l : List G2) (n : Int) (w : World) (hl : l.length = m) (hm : m ≤ 1048576) (hr : Rr w a l) (hn : n ≤ 9223372036854775807) :
    Calls Try.prog 10 #[.slice a m cap, .int .i64 n] w fun e w' => ∃ v, e = .returned v ∧ w'.ownsRow w.heap.size 3 1 v (pks l n).length ((pks l n).map ic) ∧ Below w.heap.size w w' := by
  have HR := hid hr
  have HL := hid hl
  have HM := hid hm
  clear hr hl
  go_enter Try.func10, Try.ntmps10
  go_wp2
  go_loopw [5, 6] (fun ov iv wr => ∃ j : Nat, j ≤ 100 ∧ ((j : Int) ≤ n ∨ j = 0) ∧ iv = .int .i64 ((j : Int) + 1) ∧ wr.ownsRow w.heap.size 3 1 ov (pkd l n j).length ((pkd l n j).map ic) ∧ Below w.heap.size w wr) (fun _ iv _ => 102 - (intOf iv).toNat)
  case atStart => exact ⟨0, by omega, Or.inr rfl, rfl, World.ownsRow_made w #[] 0 (Nat.le_refl _) (by decide) rfl, bpush (bre _) _⟩
  case round =>
    obtain ⟨j, hj, hjn, rfl, ho, hb⟩ := hrel
    have HO := hid ho
    have HB := hid hb
    clear ho hb
    by_cases h1 : (j : Int) + 1 ≤ n
    · by_cases h2 : (j : Int) + 1 ≤ 100
      · have HS := hid (specInSet_any a m cap l ((j : Int) + 1) n wr HL.out HM.out (HR.out.later HB.out))
        cases hin : ins l ((j : Int) + 1) n with
        | true =>
          rw [hin] at HS
          have HP : Hid (pkd l n (j + 1) = pkd l n j ++ [j + 1]) := by show _ = _; rw [pkd, if_pos hin]
          have HLN : Hid ((pkd l n j).length ≤ 1000000) := by have := pkd_len l n j; show _ ≤ _; omega
          have HSZ := hid HB.out.size
          clear hin hjn
          go_wp2_with fail
          refine HS.out.mono ?_; rintro e w1 ⟨rfl, h⟩
          subst h
          go_wp2_with (at_builtin; refine wpList_append_nat w1 rfl (.tmp 21) (.tmp 23) 29 rfl w.heap.size 3 info_int14 Try.underlying29 _ _ (by rfl) HO.out _ (j + 1) (by omega) rfl HLN.out HSZ.out ?_; rotate_right; intro v2 w2 ho2 hb2; have HO2 := hid ho2; have HB2 := hid hb2; clear ho2 hb2)
          go_roundw
          case rel => exact ⟨j + 1, by omega, Or.inl (by omega), by go_num, HP.out ▸ HO2.out, HB.out.trans HB2.out⟩
          case measure => simp [intOf]; omega
        | false =>
          rw [hin] at HS
          have HP : Hid (pkd l n (j + 1) = pkd l n j) := by show _ = _; rw [pkd, if_neg (by rw [hin]; decide)]
          clear hin hjn
          go_wp2_with fail
          refine HS.out.mono ?_; rintro e w1 ⟨rfl, h⟩
          subst h
          go_wp2
          go_roundw
          case rel => exact ⟨j + 1, by omega, Or.inl (by omega), by go_num, HP.out ▸ HO.out, HB.out⟩
          case measure => simp [intOf]; omega
      · have HE : Hid (pks l n = pkd l n j) := by show _ = _; rw [pks, show min 100 n.toNat = j by omega]
        go_wp2
        go_ret
        exact ⟨_, rfl, HE.out ▸ HO.out, HB.out⟩
    · have HE : Hid (pks l n = pkd l n j) := by show _ = _; rw [pks, show min 100 n.toNat = j by omega]
      go_wp2
      go_ret
      exact ⟨_, rfl, HE.out ▸ HO.out, HB.out⟩
theorem gcs_len (l : List G2) : (gcs l).length = l.length * 2 := by
  induction l with
  | nil => rfl
  | cons p l ih => simp only [gcs, List.length_cons, ih]; omega
/-- A list of ranges that a call owns. -/
def OwG (w : World) (B : Nat) (v : Value) (l : List G2) : Prop := w.ownsRow B 36 2 v l.length (gcs l)
theorem info_gr : (Try.prog.info? 36).map (fun i => (i.zero, i.size, i.bytes)) = some (some (.agg #[.int .i64 0, .int .i64 0]), 2, 16) := by kernel_rfl
theorem OwG.shape {W : World} {B : Nat} {v : Value} {l : List G2} (h : OwG W B v l) : ∃ a c, v = .slice a l.length c := by
  rcases h.2 with ⟨h1, h2⟩ | ⟨g, cap, cur, h1, _⟩
  · exact ⟨none, 0, by rw [h1, h2]⟩
  · exact ⟨_, cap, h1⟩
section
variable {w W W' : World}
end
theorem endOf_any (x last : Int) (w : World) : Calls Try.prog 19 #[.int .i64 x, .int .i64 last] w fun e w' => e = .returned (.int .i64 (lst14 last x)) ∧ w' = w := by
  by_cases h : x = 0
  · have hx : (x == 0) = true := by rw [h]; rfl
    have HE : Hid (lst14 last x = last) := if_pos h
    clear h
    go_enter Try.func19, Try.ntmps19
    go_wp2
    go_ret
    exact ⟨by rw [HE.out]; rfl, rfl⟩
  · have hx : (x == 0) = false := by rw [beq_eq_false_iff_ne]; exact h
    have HE : Hid (lst14 last x = x) := if_neg h
    clear h
    go_enter Try.func19, Try.ntmps19
    go_wp2
    go_ret
    exact ⟨by rw [HE.out]; rfl, rfl⟩
set_option maxHeartbeats 1600000 in
set_option maxRecDepth 100000 in
theorem inSet1_any (x y last n : Int) (kl kn : Nat) (w : World) (hkl : kl < w.heap.size) (hl : w.cell? ⟨kl, 0, none⟩ = some (.int .i64 last)) (hkn : kn < w.heap.size) (hn : w.cell? ⟨kn, 0, none⟩ = some (.int .i64 n)) :
    Calls Try.prog 18 #[.agg #[.int .i64 x, .int .i64 y], .pointer (some ⟨kl, 0, none⟩), .pointer (some ⟨kn, 0, none⟩)] w fun e w' => e = .returned (.bool (inr n last (x, y))) ∧ Below w.heap.size w w' := by
  obtain ⟨W0, hW0⟩ : ∃ W0, w.alloc (.cells #[.int .i64 x, .int .i64 y] 36) = W0 := ⟨_, rfl⟩
  have B0 : Below w.heap.size w W0 := by subst hW0; exact bpush (bre _) _
  have c0 : W0.cell? ⟨w.heap.size, 0, none⟩ = some (.int .i64 x) := by subst hW0; exact cell_of_row _ _ 0 _ _ _ (heap_alloc_new w _)
  have c1 : W0.cell? ⟨w.heap.size, 1, none⟩ = some (.int .i64 y) := by subst hW0; exact cell_of_row _ _ 1 _ _ _ (heap_alloc_new w _)
  have c2 := (B0.cell (p := ⟨kl, 0, none⟩) hkl).trans hl
  have c3 := (B0.cell (p := ⟨kn, 0, none⟩) hkn).trans hn
  have HB0 := hid B0
  obtain ⟨p, hp⟩ : ∃ p, lst14 last x = p := ⟨_, rfl⟩
  obtain ⟨q, hq⟩ : ∃ q, lst14 last y = q := ⟨_, rfl⟩
  have HI : Hid (inr n last (x, y) = (decide (min p q ≤ n) && decide (n ≤ max p q))) := by show _ = _; rw [← hp, ← hq]; rfl
  have E1 := hid (hp ▸ endOf_any x last)
  have E2 := hid (hq ▸ endOf_any y last)
  clear hl hn B0 hp hq
  go_enter Try.func18, Try.ntmps18
  go_wp2_with fail
  clear hW0
  go_region_held3 (fun W => W.cell? ⟨w.heap.size, 0, none⟩ = some (.int .i64 x) ∧ W.cell? ⟨w.heap.size, 1, none⟩ = some (.int .i64 y) ∧ W.cell? ⟨kl, 0, none⟩ = some (.int .i64 last))
    (exact ⟨c0, c1, c2⟩)
    ((go_at_call 19; (first | (with_reducible refine (E1.out _).mono ?_) | (with_reducible refine (E2.out _).mono ?_)); rintro e w2 ⟨rfl, rfl⟩))
  have HW := hid (bdr HB0.out)
  go_wp2
  all_goals
    go_ret
    refine ⟨?_, HW.out⟩
    rw [HI.out]
    refine congrArg (fun b => Ending.returned (.bool b)) ?_
    show (_ : Bool) = _
    rw [Bool.eq_iff_iff, Bool.and_eq_true]
    first
      | (show decide _ = true ↔ _; simp only [decide_eq_true_eq]; omega)
      | (show false = true ↔ _; simp only [Bool.false_eq_true, decide_eq_true_eq, false_iff]; omega)
set_option maxHeartbeats 800000 in
set_option maxRecDepth 100000 in
theorem idxFuncG_any (a : Option Addr) (m cap : Nat) (l : List G2) (n last : Int) (kl kn : Nat) (w : World) (hl : l.length = m) (hm : m ≤ 1048576) (hr : Rr w a l) (hkl : kl < w.heap.size) (hcl : w.cell? ⟨kl, 0, none⟩ = some (.int .i64 last)) (hkn : kn < w.heap.size) (hcn : w.cell? ⟨kn, 0, none⟩ = some (.int .i64 n)) :
    Calls Try.prog 21 #[.slice a m cap, .func (.func 18) #[] #[.pointer (some ⟨kl, 0, none⟩), .pointer (some ⟨kn, 0, none⟩)]] w fun e w' => ∃ i : Int, e = .returned (.int .i64 i) ∧ (decide (0 ≤ i) = l.any (inr n last)) ∧ Below w.heap.size w w' := by
  have HR := hid hr
  have HL := hid hl
  have HC := hid (And.intro hkl (And.intro hcl (And.intro hkn hcn)))
  clear hr hl hkl hcl hkn hcn
  go_enter Try.func21, Try.ntmps21
  go_wp2
  go_loopw [8] (fun iv wr => ∃ (i : Nat), i ≤ m ∧ iv = .int .i64 (i : Int) ∧ Hid ((l.take i).any (inr n last) = false) ∧ Below w.heap.size w wr) (fun iv _ => m - (intOf iv).toNat)
  case atStart => exact ⟨0, Nat.zero_le _, rfl, rfl, bre _⟩
  case round =>
    obtain ⟨i, hi, rfl, HA, hb⟩ := hrel
    have HB := hid hb
    clear hb
    by_cases hlt : i < m
    · have hil : i < l.length := by rw [HL.out]; exact hlt
      obtain ⟨k, o, rfl, hk, hcs⟩ := (HR.out.later HB.out) (by omega)
      obtain ⟨c1, c2⟩ := hcs i hil
      obtain ⟨⟨x, y⟩, hxy⟩ : ∃ p, l[i] = p := ⟨_, rfl⟩
      rw [hxy] at c1 c2
      dsimp only at c1 c2
      have HXY := hid hxy
      have HN := hid (inSet1_any x y last n kl kn wr (Nat.lt_of_lt_of_le HC.out.1 HB.out.size) ((HB.out.cell (p := ⟨kl, 0, none⟩) HC.out.1).trans HC.out.2.1) (Nat.lt_of_lt_of_le HC.out.2.2.1 HB.out.size) ((HB.out.cell (p := ⟨kn, 0, none⟩) HC.out.2.2.1).trans HC.out.2.2.2))
      obtain ⟨r, hrr⟩ : ∃ r, inr n last (x, y) = r := ⟨_, rfl⟩
      rw [hrr] at HN
      have HRR := hid hrr
      have hI : (0 : Int) ≤ (i : Int) ∧ (i : Int) < (m : Int) := by omega
      clear hcs hxy hrr
      go_wp2_with fail
      refine HN.out.mono ?_; rintro e w1 ⟨rfl, hb1⟩
      have HB1 := hid (btr HB.out hb1)
      clear hb1 c1 c2
      cases r
      · have HE := hid (any_take _ l i hil HA.out (by rw [HXY.out]; exact HRR.out))
        go_wp2
        go_roundw
        case rel => exact ⟨i + 1, by omega, by go_num, HE.out, HB1.out⟩
        case measure => simp [intOf]; omega
      · have HE := hid (any_hit (inr n last) l i hil (by rw [HXY.out]; exact HRR.out))
        go_wp2
        go_ret
        exact ⟨(i : Int), rfl, by rw [HE.out, decide_eq_true (by omega)], HB1.out⟩
    · have HE : Hid (l.any (inr n last) = false) := by
        show _ = _
        have := HA.out
        rwa [List.take_of_length_le (by rw [HL.out]; omega)] at this
      go_wp2
      go_ret
      exact ⟨-1, rfl, by rw [HE.out]; rfl, HB.out⟩
set_option maxHeartbeats 800000 in
set_option maxRecDepth 100000 in
theorem hasFuncG_any (a : Option Addr) (m cap : Nat) (l : List G2) (n last : Int) (kl kn : Nat) (w : World) (hl : l.length = m) (hm : m ≤ 1048576) (hr : Rr w a l) (hkl : kl < w.heap.size) (hcl : w.cell? ⟨kl, 0, none⟩ = some (.int .i64 last)) (hkn : kn < w.heap.size) (hcn : w.cell? ⟨kn, 0, none⟩ = some (.int .i64 n)) :
    Calls Try.prog 17 #[.slice a m cap, .func (.func 18) #[] #[.pointer (some ⟨kl, 0, none⟩), .pointer (some ⟨kn, 0, none⟩)]] w fun e w' => e = .returned (.bool (l.any (inr n last))) ∧ Below w.heap.size w w' := by
  have HN := hid (idxFuncG_any a m cap l n last kl kn w hl hm hr hkl hcl hkn hcn)
  clear hr hl hkl hcl hkn hcn
  go_enter Try.func17, Try.ntmps17
  go_wp2_with fail
  refine HN.out.mono ?_; rintro e w1 ⟨i, rfl, hi, hb⟩
  have HI := hid hi
  have HB := hid hb
  clear hi hb
  go_wp2
  go_ret
  exact ⟨by rw [← HI.out]; rfl, HB.out⟩
set_option maxHeartbeats 800000 in
set_option maxRecDepth 100000 in
theorem implInSet_any (a : Option Addr) (m cap : Nat) (l : List G2) (n last : Int) (w : World) (hl : l.length = m) (hm : m ≤ 1048576) (hr : Rr w a l) :
    Calls Try.prog 8 #[.slice a m cap, .int .i64 n, .int .i64 last] w fun e w' => e = .returned (.bool (ins l n last)) ∧ Below w.heap.size w w' := by
  obtain ⟨W0, hW0⟩ : ∃ W0, (w.alloc (.cells #[.int .i64 n] 3)).alloc (.cells #[.int .i64 last] 3) = W0 := ⟨_, rfl⟩
  have B0 : Below w.heap.size w W0 := by subst hW0; exact bpush (bpush (bre _) _) _
  have hs : W0.heap.size = w.heap.size + 1 + 1 := by subst hW0; simp
  have cn : W0.cell? ⟨w.heap.size, 0, none⟩ = some (.int .i64 n) := by
    subst hW0
    exact cell_of_row _ _ 0 _ _ _ ((Below.heap_alloc _ _ _ (by simp)).trans (heap_alloc_new w _))
  have cl : W0.cell? ⟨w.heap.size + 1, 0, none⟩ = some (.int .i64 last) := by
    subst hW0
    have h := heap_alloc_new (w.alloc (.cells #[.int .i64 n] 3)) (.cells #[.int .i64 last] 3)
    rw [show (w.alloc (.cells #[.int .i64 n] 3)).heap.size = w.heap.size + 1 by simp] at h
    exact cell_of_row _ _ 0 _ _ _ h
  have HF := hid (hasFuncG_any a m cap l n last (w.heap.size + 1) w.heap.size W0 hl hm (hr.later B0) (by omega) cl (by omega) cn)
  have HB := hid B0
  clear hl hr B0 hs cl
  by_cases h1 : 0 < n
  · have HI : Hid (ins l n last = l.any (inr n last)) := by show _ = _; rw [ins, decide_eq_true (by omega), Bool.true_and]
    go_enter Try.func8, Try.ntmps8
    go_wp2_with fail
    refine HF.out.mono ?_; rintro e w1 ⟨rfl, hb⟩
    have HB1 := hid (btr HB.out hb)
    clear hb cn
    go_wp2
    go_ret
    exact ⟨by rw [HI.out]; rfl, HB1.out⟩
  · have HI : Hid (ins l n last = false) := by show _ = _; rw [ins, decide_eq_false (by omega), Bool.false_and]
    go_enter Try.func8, Try.ntmps8
    go_wp2
    go_ret
    exact ⟨by rw [HI.out]; rfl, HB.out⟩
set_option maxHeartbeats 1600000 in
set_option maxRecDepth 100000 in
theorem implPicked_any (a : Option Addr) (m cap : Nat) (l : List G2) (n : Int) (w : World) (hl : l.length = m) (hm : m ≤ 1048576) (hr : Rr w a l) (hn : n ≤ 9223372036854775807) :
    Calls Try.prog 11 #[.slice a m cap, .int .i64 n] w fun e w' => ∃ v, e = .returned v ∧ w'.ownsRow w.heap.size 3 1 v (pks l n).length ((pks l n).map ic) ∧ Below w.heap.size w w' := by
  have HR := hid hr
  have HL := hid hl
  have HM := hid hm
  clear hr hl
  go_enter Try.func11, Try.ntmps11
  go_wp2
  go_loopw [5, 6] (fun ov iv wr => ∃ j : Nat, j ≤ 100 ∧ ((j : Int) ≤ n ∨ j = 0) ∧ iv = .int .i64 ((j : Int) + 1) ∧ wr.ownsRow w.heap.size 3 1 ov (pkd l n j).length ((pkd l n j).map ic) ∧ Below w.heap.size w wr) (fun _ iv _ => 102 - (intOf iv).toNat)
  case atStart => exact ⟨0, by omega, Or.inr rfl, rfl, ⟨by simp [pkd], Or.inl ⟨rfl, rfl⟩⟩, bre _⟩
  case round =>
    obtain ⟨j, hj, hjn, rfl, ho, hb⟩ := hrel
    have HO := hid ho
    have HB := hid hb
    clear ho hb
    by_cases h1 : (j : Int) + 1 ≤ n
    · by_cases h2 : (j : Int) + 1 ≤ 100
      · have HS := hid (implInSet_any a m cap l ((j : Int) + 1) n wr HL.out HM.out (HR.out.later HB.out))
        cases hin : ins l ((j : Int) + 1) n with
        | true =>
          rw [hin] at HS
          have HP : Hid (pkd l n (j + 1) = pkd l n j ++ [j + 1]) := by show _ = _; rw [pkd, if_pos hin]
          have HLN : Hid ((pkd l n j).length ≤ 1000000) := by have := pkd_len l n j; show _ ≤ _; omega
          have HSZ := hid HB.out.size
          clear hin hjn
          by_cases h3 : 100 < n
          all_goals
            go_wp2_with fail
            refine HS.out.mono ?_; rintro e w1 ⟨rfl, hb1⟩
            have HB1 := hid (btr HB.out hb1)
            have HO1 := hid (own_later HO.out hb1)
            have HSZ1 := hid HB1.out.size
            clear hb1
            go_wp2_with (at_builtin; refine wpList_append_nat w1 rfl (.tmp 17) (.tmp 19) 29 rfl w.heap.size 3 info_int14 Try.underlying29 _ _ (by rfl) HO1.out _ (j + 1) (by omega) rfl HLN.out HSZ1.out ?_; rotate_right; intro v2 w2 ho2 hb2; have HO2 := hid ho2; have HB2 := hid hb2; clear ho2 hb2)
            go_roundw
            case rel => exact ⟨j + 1, by omega, Or.inl (by omega), by go_num, HP.out ▸ HO2.out, HB1.out.trans HB2.out⟩
            case measure => simp [intOf]; omega
        | false =>
          rw [hin] at HS
          have HP : Hid (pkd l n (j + 1) = pkd l n j) := by show _ = _; rw [pkd, if_neg (by rw [hin]; decide)]
          clear hin hjn
          by_cases h3 : 100 < n
          all_goals
            go_wp2_with fail
            refine HS.out.mono ?_; rintro e w1 ⟨rfl, hb1⟩
            have HB1 := hid (btr HB.out hb1)
            have HO1 := hid (own_later HO.out hb1)
            clear hb1
            go_wp2
            go_roundw
            case rel => exact ⟨j + 1, by omega, Or.inl (by omega), by go_num, HP.out ▸ HO1.out, HB1.out⟩
            case measure => simp [intOf]; omega
      · have HE : Hid (pks l n = pkd l n j) := by show _ = _; rw [pks, show min 100 n.toNat = j by omega]
        go_wp2
        go_ret
        exact ⟨_, rfl, HE.out ▸ HO.out, HB.out⟩
    · have HE : Hid (pks l n = pkd l n j) := by show _ = _; rw [pks, show min 100 n.toNat = j by omega]
      go_wp2
      go_ret
      exact ⟨_, rfl, HE.out ▸ HO.out, HB.out⟩
theorem gcs_at (l : List G2) (i : Nat) (h : i < l.length) : (gcs l)[i * 2]? = some (.int .i64 l[i].1) ∧ (gcs l)[i * 2 + 1]? = some (.int .i64 l[i].2) := by
  induction l generalizing i with
  | nil => simp at h
  | cons p l ih =>
    cases i with
    | zero => exact ⟨rfl, rfl⟩
    | succ i =>
      have h' : i < l.length := by simpa using h
      have := ih i h'
      have e : (i + 1) * 2 = i * 2 + 1 + 1 := by omega
      rw [e]
      simpa [gcs] using this
theorem gcs_set (l : List G2) (i : Nat) (p : G2) (h : i < l.length) : ((gcs l).set (i * 2) (.int .i64 p.1)).set (i * 2 + 1) (.int .i64 p.2) = gcs (l.set i p) := by
  induction l generalizing i with
  | nil => simp at h
  | cons q l ih =>
    cases i with
    | zero => rfl
    | succ i =>
      have h' : i < l.length := by simpa using h
      have := ih i h'
      have e : (i + 1) * 2 = i * 2 + 1 + 1 := by omega
      rw [e]
      simpa [gcs] using this
section
variable {W W' : World} {B g n c : Nat} {l : List G2}
theorem OwG.len {a : Option Addr} (h : OwG W B (.slice a n c) l) : l.length = n := by
  obtain ⟨a', c', e⟩ := h.shape
  simp only [Value.slice.injEq] at e
  exact e.2.1.symm
theorem OwG.spot (h : OwG W B (.slice (some ⟨g, 0, none⟩) n c) l) (i : Nat) (hi : i < l.length) :
    (W.cell? ⟨g, i * 2, none⟩ = some (.int .i64 l[i].1) ∧ W.cell? ⟨g, i * 2 + 1, none⟩ = some (.int .i64 l[i].2)) ∧ W.frozen? ⟨g, i * 2, none⟩ = false ∧ W.frozen? ⟨g, i * 2 + 1, none⟩ = false := by
  obtain rfl := h.len
  exact ⟨⟨(World.ownsRow.cellAt h _ (by omega)).trans (gcs_at l i hi).1, (World.ownsRow.cellAt h _ (by omega)).trans (gcs_at l i hi).2⟩, World.ownsRow.frozenAt h _, World.ownsRow.frozenAt h _⟩
theorem OwG.put1 (h : OwG W B (.slice (some ⟨g, 0, none⟩) n c) l) (i : Nat) (hi : i < l.length) (x : Int) : OwG (W.setCell ⟨g, i * 2, none⟩ (.int .i64 x)) B (.slice (some ⟨g, 0, none⟩) n c) (l.set i (x, l[i].2)) := by
  obtain rfl := h.len
  have h1 := (World.ownsRow.stored h (i * 2) (.int .i64 x)).1
  have e : (gcs l).set (i * 2) (.int .i64 x) = gcs (l.set i (x, l[i].2)) := by
    rw [← gcs_set l i (x, l[i].2) hi]
    refine (List.ext_getElem? fun j => ?_)
    by_cases hj : i * 2 + 1 = j
    · subst hj
      rw [List.getElem?_set_self (by rw [List.length_set, gcs_len]; omega), List.getElem?_set_ne (by omega), (gcs_at l i hi).2]
    · rw [List.getElem?_set_ne hj]
  rw [e] at h1
  unfold OwG
  rw [List.length_set]
  exact h1
theorem OwG.put2 (h : OwG W B (.slice (some ⟨g, 0, none⟩) n c) l) (i : Nat) (hi : i < l.length) (t : Int) : OwG (W.setCell ⟨g, i * 2 + 1, none⟩ (.int .i64 t)) B (.slice (some ⟨g, 0, none⟩) n c) (l.set i (l[i].1, t)) := by
  obtain rfl := h.len
  have h1 := (World.ownsRow.stored h (i * 2 + 1) (.int .i64 t)).1
  have e : (gcs l).set (i * 2 + 1) (.int .i64 t) = gcs (l.set i (l[i].1, t)) := by
    rw [← gcs_set l i (l[i].1, t) hi]
    have e2 : (gcs l).set (i * 2) (.int .i64 l[i].1) = gcs l := by
      refine (List.ext_getElem? fun j => ?_)
      by_cases hj : i * 2 = j
      · subst hj
        rw [List.getElem?_set_self (by rw [gcs_len]; omega), (gcs_at l i hi).1]
      · rw [List.getElem?_set_ne hj]
    rw [e2]
  rw [e] at h1
  unfold OwG
  rw [List.length_set]
  exact h1
theorem OwG.some {a : Option Addr} (h : OwG W B (.slice a n c) l) (hn : 0 < n) : ∃ g, a = some ⟨g, 0, none⟩ := by
  rcases h.2 with ⟨h1, h2⟩ | ⟨g, cap, cur, h1, _⟩
  · have := h.len; omega
  · simp only [Value.slice.injEq] at h1
    exact ⟨g, h1.1⟩
end
/-- Marks of n tokens from k on. -/
def mgr (k : Nat) : Nat → List G2
  | 0 => []
  | n + 1 => mgr k n ++ [(((k + n * 2 : Nat) : Int), ((k + n * 2 + 1 : Nat) : Int))]
theorem mgr_len (k n : Nat) : (mgr k n).length = n := by
  induction n with
  | zero => rfl
  | succ n ih => simp [mgr, ih]
/-- The first i are marked. -/
def mdr (k : Nat) (l : List G2) (i : Nat) : List G2 := mgr k i ++ l.drop i
theorem mdr_len (k : Nat) (l : List G2) (i : Nat) (h : i ≤ l.length) : (mdr k l i).length = l.length := by simp [mdr, mgr_len]; omega
theorem mdr_set (k : Nat) (l : List G2) (i : Nat) (h : i < l.length) : (mdr k l i).set i (((k + i * 2 : Nat) : Int), ((k + i * 2 + 1 : Nat) : Int)) = mdr k l (i + 1) := by
  unfold mdr
  rw [List.drop_eq_getElem_cons h, List.set_append_right _ _ (by rw [mgr_len]; exact Nat.le_refl _), mgr_len, Nat.sub_self, List.set_cons_zero]
  simp [mgr]
/-- Block k holds a range. -/
def Gk (W : World) (k ty : Nat) (p q : Int) : Prop := W.heap[k]? = some (.cells #[.int .i64 p, .int .i64 q] ty)
theorem Gk.new (w : World) (ty : Nat) (p q : Int) : Gk (w.alloc (.cells #[.int .i64 p, .int .i64 q] ty)) w.heap.size ty p q := heap_alloc_new w _
theorem Gk.lt {W : World} {k ty : Nat} {p q : Int} (h : Gk W k ty p q) : k < W.heap.size := (Array.getElem?_eq_some_iff.1 h).1
theorem Gk.later {W W' : World} {k ty : Nat} {p q : Int} (h : Gk W k ty p q) (hb : Below W.heap.size W W') : Gk W' k ty p q := (hb.block k h.lt).trans h
theorem Gk.cells {W : World} {k ty : Nat} {p q : Int} (h : Gk W k ty p q) : W.cell? ⟨k, 0, none⟩ = some (.int .i64 p) ∧ W.cell? ⟨k, 1, none⟩ = some (.int .i64 q) := ⟨cell_of_row W k 0 _ _ _ h, cell_of_row W k 1 _ _ _ h⟩
set_option maxHeartbeats 800000 in
set_option maxRecDepth 100000 in
theorem eqRange_same (kd t : Int) (w : World) : Calls Try.prog 20 #[.agg #[.int .i64 kd, .int .i64 t], .agg #[.int .i64 kd, .int .i64 t]] w fun e w' => e = .returned (.bool true) ∧ Below w.heap.size w w' := by
  obtain ⟨W0, hW0⟩ : ∃ W0, (w.alloc (.cells #[.int .i64 kd, .int .i64 t] 36)).alloc (.cells #[.int .i64 kd, .int .i64 t] 36) = W0 := ⟨_, rfl⟩
  have k0 : Gk W0 w.heap.size 36 kd t := by subst hW0; exact (Gk.new w _ kd t).later (bpush (bre _) _)
  have k1 : Gk W0 (w.heap.size + 1) 36 kd t := by
    subst hW0
    have h := Gk.new (w.alloc (.cells #[.int .i64 kd, .int .i64 t] 36)) 36 kd t
    rw [show (w.alloc (.cells #[.int .i64 kd, .int .i64 t] 36)).heap.size = w.heap.size + 1 by simp] at h
    exact h
  have B0 : Hid (Below w.heap.size w W0) := by subst hW0; exact bpush (bpush (bre _) _) _
  have c0 := k0.cells
  have c1 := k1.cells
  clear k0 k1
  have e1 : (kd != kd) = false := by simp
  have e2 : (t != t) = false := by simp
  go_enter Try.func20, Try.ntmps20
  go_wp2
  go_ret
  exact ⟨rfl, B0.out⟩
set_option maxHeartbeats 1600000 in
set_option maxRecDepth 100000 in
theorem eqRangeS_any (B B' : Nat) (a a' : Option Addr) (n c c' : Nat) (l : List G2) (w : World) (hn : n ≤ 1048576) (h1 : OwG w B (.slice a n c) l) (h2 : OwG w B' (.slice a' n c') l) :
    Calls Try.prog 9 #[.slice a n c, .slice a' n c'] w fun e w' => e = .returned (.bool true) ∧ Below w.heap.size w w' := by
  have H1 := hid h1
  have H2 := hid h2
  clear h1 h2
  have e0 : ((n : Int) != (n : Int)) = false := by simp
  go_enter Try.func9, Try.ntmps9
  go_wp2
  clear e0
  go_loopw [5] (fun iv wr => ∃ i : Nat, i ≤ n ∧ iv = .int .i64 (i : Int) ∧ Below w.heap.size w wr) (fun iv _ => n - (intOf iv).toNat)
  case atStart => exact ⟨0, Nat.zero_le _, rfl, bre _⟩
  case round =>
    obtain ⟨i, hi, rfl, hb⟩ := hrel
    have HB := hid hb
    clear hb
    by_cases hlt : i < n
    · obtain ⟨g, rfl⟩ := H1.out.some (by omega)
      obtain ⟨g', rfl⟩ := H2.out.some (by omega)
      have hil : i < l.length := by rw [H1.out.len]; exact hlt
      obtain ⟨⟨kd, t⟩, hx⟩ : ∃ x, l[i] = x := ⟨_, rfl⟩
      have HS : Hid (∀ W, Below wr.heap.size wr W → (W.cell? ⟨g, i * 2, none⟩ = some (.int .i64 kd) ∧ W.cell? ⟨g, i * 2 + 1, none⟩ = some (.int .i64 t)) ∧ (W.cell? ⟨g', i * 2, none⟩ = some (.int .i64 kd) ∧ W.cell? ⟨g', i * 2 + 1, none⟩ = some (.int .i64 t))) := fun W hW => by
        have q1 := (OwG.spot (own_later H1.out (btr HB.out hW)) i hil).1
        have q2 := (OwG.spot (own_later H2.out (btr HB.out hW)) i hil).1
        rw [hx] at q1 q2
        exact ⟨q1, q2⟩
      clear hx
      go_wp2_with fail
      go_region_held3 (fun W => (W.cell? ⟨g, i * 2, none⟩ = some (.int .i64 kd) ∧ W.cell? ⟨g, i * 2 + 1, none⟩ = some (.int .i64 t)) ∧ (W.cell? ⟨g', i * 2, none⟩ = some (.int .i64 kd) ∧ W.cell? ⟨g', i * 2 + 1, none⟩ = some (.int .i64 t)))
        ((refine HS.out _ ?_; repeat (first | exact bdr (bre _) | exact P2.out | refine btr ?_ (by assumption))))
        ((go_at_call 20; refine (eqRange_same kd t _).mono ?_; rintro e w2 ⟨rfl, hb2⟩; have P2 : Hid (Below wr.heap.size wr w2) := btr (bdr (bre _)) hb2))
      go_wp2
      go_roundw
      case rel => exact ⟨i + 1, by omega, by go_num, btr HB.out P2.out⟩
      case measure => simp [intOf]; omega
    · go_wp2
      go_ret
      exact ⟨rfl, HB.out⟩
set_option maxHeartbeats 1600000 in
set_option maxRecDepth 100000 in
theorem markRangeS_any (B g n cap k : Nat) (l : List G2) (w : World) (hn : n ≤ 1048576) (hk : k ≤ 4194304) (ho : OwG w B (.slice (some ⟨g, 0, none⟩) n cap) l) :
    Calls Try.prog 13 #[.slice (some ⟨g, 0, none⟩) n cap, .int .i64 (k : Int)] w fun e w' => e = .returned (.int .i64 ((k + n * 2 : Nat) : Int)) ∧ OwG w' B (.slice (some ⟨g, 0, none⟩) n cap) (mgr k n) ∧ w.grownBy w' (some g) := by
  have HO := hid ho
  have HL := hid ho.len
  clear ho
  go_enter Try.func13, Try.ntmps13
  go_wp2
  go_loopw [1, 5] (fun kv iv wr => ∃ i : Nat, i ≤ n ∧ kv = .int .i64 ((k + i * 2 : Nat) : Int) ∧ iv = .int .i64 (i : Int) ∧ OwG wr B (.slice (some ⟨g, 0, none⟩) n cap) (mdr k l i) ∧ w.grownBy wr (some g)) (fun _ iv _ => n - (intOf iv).toNat)
  case atStart => exact ⟨0, Nat.zero_le _, by simp, rfl, by simpa [mdr, mgr] using HO.out, wre _ _⟩
  case round =>
    obtain ⟨i, hi, rfl, rfl, hown, hg⟩ := hrel
    have HOW := hid hown
    have HG := hid hg
    clear hown hg
    by_cases hlt : i < n
    · have hil : i < l.length := by rw [HL.out]; exact hlt
      have hil' : i < (mdr k l i).length := by rw [mdr_len _ _ _ (by omega)]; exact hil
      obtain ⟨⟨c1, c2⟩, f1, f2⟩ := HOW.out.spot i hil'
      obtain ⟨q, hq⟩ : ∃ q : Nat, k + i * 2 = q := ⟨_, rfl⟩
      have HQ := hid hq
      have hqb : q ≤ 8000000 := by omega
      rw [hq]
      have h1 := HOW.out.put1 i hil' (q : Int)
      have hil2 : i < ((mdr k l i).set i ((q : Int), (mdr k l i)[i].2)).length := by rw [List.length_set]; exact hil'
      have HW3 : Hid (OwG ((wr.setCell ⟨g, i * 2, none⟩ (.int .i64 (q : Int))).setCell ⟨g, i * 2 + 1, none⟩ (.int .i64 ((q : Int) + 1))) B (.slice (some ⟨g, 0, none⟩) n cap) (mdr k l (i + 1))) := by
        have h2 := h1.put2 i hil2 ((q : Int) + 1)
        rw [List.getElem_set_self, List.set_set] at h2
        rw [← mdr_set k l i hil, hq, show ((q + 1 : Nat) : Int) = (q : Int) + 1 by omega]
        exact h2
      obtain ⟨p0, hp0⟩ : ∃ p, (mdr k l i)[i] = p := ⟨_, rfl⟩
      rw [hp0] at c1 c2
      obtain ⟨x0, y0⟩ := p0
      clear h1 hq hp0
      go_wp2
      go_roundw
      case rel => exact ⟨i + 1, by omega, by rw [show ((k + (i + 1) * 2 : Nat) : Int) = (q : Int) + 1 + 1 by have := HQ.out; omega], by go_num, HW3.out, wst (wst HG.out _ _) _ _⟩
      case measure => simp [intOf]; omega
    · have HE : Hid (i = n) := by show _ = _; omega
      go_wp2
      go_ret
      refine ⟨by rw [HE.out]; rfl, ?_, HG.out⟩
      have h1 := HOW.out
      rw [HE.out, mdr, List.drop_of_length_le (by rw [HL.out]; exact Nat.le_refl _), List.append_nil] at h1
      exact h1
theorem markRangeS_zero (a : Option Addr) (cap k : Nat) (w : World) : Calls Try.prog 13 #[.slice a 0 cap, .int .i64 (k : Int)] w fun e w' => e = .returned (.int .i64 (k : Int)) ∧ w' = w := by
  go_enter Try.func13, Try.ntmps13
  go_wp2
  go_loopw [1, 5] (fun kv iv wr => kv = .int .i64 (k : Int) ∧ iv = .int .i64 0 ∧ wr = w) (fun _ _ _ => 0)
  case atStart => exact ⟨rfl, rfl, rfl⟩
  case round =>
    obtain ⟨rfl, rfl, hw⟩ := hrel
    subst hw
    go_wp2
    go_ret
    exact ⟨rfl, rfl⟩
theorem markRangeS_gen (B n cap k : Nat) (a : Option Addr) (l : List G2) (w : World) (hn : n ≤ 1048576) (hk : k ≤ 4194304) (ho : OwG w B (.slice a n cap) l) :
    Calls Try.prog 13 #[.slice a n cap, .int .i64 (k : Int)] w fun e w' => e = .returned (.int .i64 ((k + n * 2 : Nat) : Int)) ∧ OwG w' B (.slice a n cap) (mgr k n) ∧ w.grownBy w' (Value.ownBlock (.slice a n cap)) := by
  by_cases h0 : 0 < n
  · obtain ⟨g, rfl⟩ := ho.some h0
    exact markRangeS_any B g n cap k l w hn hk ho
  · obtain rfl : n = 0 := by omega
    refine (markRangeS_zero a cap k w).mono ?_
    rintro e w' ⟨rfl, rfl⟩
    have hl : l = [] := List.eq_nil_of_length_eq_zero ho.len
    subst hl
    exact ⟨by simp, ho, wre _ _⟩
theorem gcs_rep (n : Nat) : gcs (List.replicate n (0, 0)) = List.replicate (n * 2) (.int .i64 0) := by
  induction n with
  | zero => rfl
  | succ n ih => rw [List.replicate_succ, show (n + 1) * 2 = n * 2 + 1 + 1 by omega]; simp only [gcs, ih, List.replicate_succ]
theorem made2 (n : Nat) : (madeCells #[.int .i64 0, .int .i64 0] (n * 2)).toList = gcs (List.replicate n (0, 0)) := by
  rw [gcs_rep]
  apply List.ext_getElem?
  intro j
  by_cases hj : j < n * 2
  · have h3 : j % 2 = 0 ∨ j % 2 = 1 := by omega
    rcases h3 with h | h <;> simp [madeCells, hj, h]
  · simp [madeCells, hj]
theorem info_partsG {P : Program} {e : Nat} {z : Value} {s b : Nat} (h : (P.info? e).map (fun i => (i.zero, i.size, i.bytes)) = some (some z, s, b)) : ∃ i, P.info? e = some i ∧ i.zero = some z ∧ i.size = s ∧ i.bytes = b := by
  cases hi : P.info? e with
  | none => rw [hi] at h; cases h
  | some i =>
    rw [hi] at h
    simp only [Option.map_some, Option.some.injEq, Prod.mk.injEq] at h
    exact ⟨i, rfl, h.1, h.2.1, h.2.2⟩
/-- A new row of n ranges. -/
theorem make_gr (n : Nat) (hn : n ≤ 1048576) : ∃ M : Array Value, Hid (∀ W : World, OwG (W.alloc (.cells M 36)) W.heap.size (.slice (some ⟨W.heap.size, 0, none⟩) n n) (List.replicate n (0, 0))) ∧
    ∀ W : World, (Instr.makeSlice 25 (.int .i64 (n : Int)) (.int .i64 (n : Int))).run Try.prog W = .ok (.slice (some ⟨W.heap.size, 0, none⟩) n n) (W.alloc (.cells M 36)) := by
  obtain ⟨i0, hi, hz0, hz1, hz2⟩ := info_partsG info_gr
  refine ⟨madeCells #[.int .i64 0, .int .i64 0] (n * 2), fun W => ?_, fun W => ?_⟩
  · have h := World.ownsRow_lit (base := W.heap.size) (e := 36) (size := 2) W (madeCells #[.int .i64 0, .int .i64 0] (n * 2)) n (Nat.le_refl _) (by unfold maxLen; omega) (size_madeCells _ _)
    rw [made2] at h
    simpa [OwG] using h
  · have h := run_make (P := Try.prog) W 25 36 i0 (.agg #[.int .i64 0, .int .i64 0]) Try.underlying25 hi hz0 .i64 .i64 (n : Int) (n : Int) (by omega) (by omega) (by rw [hz2]; omega) (by omega)
    rw [hz1, Int.toNat_natCast] at h
    exact h
theorem szR_over (ao : Option Addr) (n cap : Nat) (lf : Int) (w : World) (_hn : (n : Int) ≤ 9223372036854775807) (_hl : 0 ≤ lf ∧ lf ≤ 1048576) (h : lf < (n : Int)) :
    Calls Try.prog 5 #[.slice ao n cap, .int .i64 lf] w fun e w' => e = .returned (.int .i64 (-1)) ∧ w' = w := by
  have h1 : lf - (n : Int) < 0 := by omega
  go_enter Try.func5, Try.ntmps5
  go_wp2
  go_ret
  exact ⟨rfl, rfl⟩
theorem szR_fits (ao : Option Addr) (n cap : Nat) (lf : Int) (w : World) (_hn : (n : Int) ≤ 9223372036854775807) (_hl : 0 ≤ lf ∧ lf ≤ 1048576) (h : ¬ lf < (n : Int)) :
    Calls Try.prog 5 #[.slice ao n cap, .int .i64 lf] w fun e w' => e = .returned (.int .i64 (lf - n)) ∧ w' = w := by
  have h1 : ¬ lf - (n : Int) < 0 := by omega
  go_enter Try.func5, Try.ntmps5
  go_wp2
  go_ret
  exact ⟨rfl, rfl⟩
/-- A row that is filled from the front: the first i places are l's. -/
def gil (l : List G2) (i : Nat) : List G2 := l.take i ++ List.replicate (l.length - i) (0, 0)
theorem gil_len (l : List G2) (i : Nat) (h : i ≤ l.length) : (gil l i).length = l.length := by simp [gil]; omega
theorem gil_zero (l : List G2) : gil l 0 = List.replicate l.length (0, 0) := by simp [gil]
theorem gil_all (l : List G2) : gil l l.length = l := by simp [gil]
theorem gil_set (l : List G2) (i : Nat) (h : i < l.length) : (gil l i).set i l[i] = gil l (i + 1) := by
  unfold gil
  rw [List.set_append_right _ _ (by simp; omega)]
  have e : i - (l.take i).length = 0 := by simp; omega
  rw [e]
  obtain ⟨m, hm⟩ : ∃ m, l.length - i = m + 1 := ⟨l.length - i - 1, by omega⟩
  rw [hm, show l.length - (i + 1) = m by omega, List.replicate_succ, List.set_cons_zero, List.take_succ_eq_append_getElem h, List.append_assoc]
  rfl
theorem toRange_any (p q : Int) (w : World) :
    Calls Try.prog 16 #[.agg #[.int .i64 p, .int .i64 q]] w fun e w' => e = .returned (.agg #[.int .i64 p, .int .i64 q]) ∧ Below w.heap.size w w' := by
  go_enter Try.func16, Try.ntmps16
  go_wp2
  exact bodyPost_ret (v := .agg #[.int .i64 p, .int .i64 q]) (by simp [results, Try.results16, go_sem]) rfl ⟨rfl, by repeat (first | exact bre _ | refine bpush ?_ _)⟩
set_option maxHeartbeats 800000 in
set_option maxRecDepth 100000 in
theorem toRangeS_any (ao : Option Addr) (n cap : Nat) (l : List G2) (w : World) (hl : l.length = n) (hn : n ≤ 1048576) (hr : Rr w ao l) :
    Calls Try.prog 7 #[.slice ao n cap] w fun e w' => e = .returned (.slice (some ⟨w.heap.size, 0, none⟩) n n) ∧ OwG w' w.heap.size (.slice (some ⟨w.heap.size, 0, none⟩) n n) l ∧ Below w.heap.size w w' := by
  obtain ⟨M, hM, hmk⟩ := make_gr n hn
  have HR := hid hr
  have HL := hid hl
  clear hr hl
  go_enter Try.func7, Try.ntmps7
  go_wp2
  clear hmk
  go_loopw [4] (fun iv wr => ∃ i : Nat, i ≤ n ∧ iv = .int .i64 (i : Int) ∧ OwG wr w.heap.size (.slice (some ⟨w.heap.size, 0, none⟩) n n) (gil l i) ∧ Below w.heap.size w wr) (fun iv _ => n - (intOf iv).toNat)
  case atStart => exact ⟨0, Nat.zero_le _, rfl, by rw [gil_zero, HL.out]; exact hM.out w, bpush (bre _) _⟩
  case round =>
    obtain ⟨i, hi, rfl, hown, hb⟩ := hrel
    have HO := hid hown
    have hsz := hb.size
    clear hown
    by_cases hlt : i < n
    · have hil : i < l.length := by rw [HL.out]; exact hlt
      obtain ⟨k, o, rfl, hk, hc⟩ := (HR.out.later hb) (by omega)
      obtain ⟨c1, c2⟩ := hc i hil
      clear hc
      obtain ⟨p, hp⟩ : ∃ p, l[i] = p := ⟨_, rfl⟩
      rw [hp] at c1 c2
      obtain ⟨x, y⟩ := p
      have HP := hid hp
      clear hp
      go_wp2_with fail
      refine (toRange_any x y _).mono ?_; rintro e w1 ⟨rfl, hb1⟩
      have H1 : Hid (OwG w1 w.heap.size (.slice (some ⟨w.heap.size, 0, none⟩) n n) (gil l i)) := own_later HO.out hb1
      have hig : i < (gil l i).length := by rw [gil_len _ _ (by omega)]; exact hil
      obtain ⟨⟨d1, d2⟩, f1, f2⟩ := H1.out.spot i hig
      obtain ⟨z, hz⟩ : ∃ z, (gil l i)[i] = z := ⟨_, rfl⟩
      have HST : Hid (OwG ((w1.setCell ⟨w.heap.size, i * 2, none⟩ (.int .i64 x)).setCell ⟨w.heap.size, i * 2 + 1, none⟩ (.int .i64 y)) w.heap.size (.slice (some ⟨w.heap.size, 0, none⟩) n n) (gil l (i + 1))) := by
        have h1 := H1.out.put1 i hig x
        have h2 := h1.put2 i (by rw [List.length_set]; exact hig) y
        rw [List.getElem_set_self, List.set_set] at h2
        rw [← gil_set l i hil, HP.out]
        exact h2
      rw [hz] at d1 d2
      obtain ⟨z1, z2⟩ := z
      have HB1 : Hid (Below w.heap.size w w1) := btr hb hb1
      clear c1 c2 hb1 hb hz
      go_wp2
      go_roundw
      case rel => exact ⟨i + 1, by omega, by go_num, HST.out, bset (bset HB1.out (Nat.le_refl _) _) (Nat.le_refl _) _⟩
      case measure => simp [intOf]; omega
    · have HE : Hid (i = l.length) := by show _ = _; rw [HL.out]; omega
      go_wp2
      go_ret
      refine ⟨rfl, ?_, hb⟩
      have h1 := HO.out
      rw [HE.out, gil_all] at h1
      exact h1
theorem OwG.reads {W : World} {B n c : Nat} {a : Option Addr} {l : List G2} (h : OwG W B (.slice a n c) l) : Rr W a l := by
  intro hl
  obtain ⟨g, rfl⟩ := h.some (by have := h.len; omega)
  have hlt : g < W.heap.size := (World.ownsRow.lt h g rfl).2
  refine ⟨g, 0, rfl, hlt, fun i hi => ?_⟩
  have := (h.spot i hi).1
  simpa using this
set_option maxHeartbeats 3200000 in
set_option maxRecDepth 100000 in
theorem lawInSet_any (ao : Option Addr) (n cap : Nat) (l : List G2) (aN aL : Int) (w : World) (hl : l.length = n) (hn : (n : Int) ≤ 9223372036854775807) (hr : Rr w ao l) :
    Calls Try.prog 3 #[.slice ao n cap, .int .i64 aN, .int .i64 aL] w fun e w' => e = .returned (.bool true) ∧ Below w.heap.size w w' := by
  have HR := hid hr
  have HL := hid hl
  clear hr hl
  by_cases hbt : (1048576 : Int) < (n : Int)
  · go_enter Try.func3, Try.ntmps3
    go_wp2_with fail
    refine (szR_over ao n cap 1048576 _ hn (by omega) hbt).mono ?_; rintro e w1 ⟨rfl, rfl⟩
    go_wp2
    go_ret
    exact ⟨rfl, bre _⟩
  have hn2 : n ≤ 1048576 := by omega
  have hlf : ¬ (1048576 - (n : Int)) < 0 := by omega
  obtain ⟨p, hp⟩ : ∃ p, ins l aN aL = p := ⟨_, rfl⟩
  have CSP : Hid (∀ a c w, Rr w a l → Calls Try.prog 6 #[.slice a n c, .int .i64 aN, .int .i64 aL] w fun e w' => e = .returned (.bool p) ∧ w' = w) := fun a c w h => by rw [← hp]; exact specInSet_any a n c l aN aL w HL.out hn2 h
  have CIM : Hid (∀ a c w, Rr w a l → Calls Try.prog 8 #[.slice a n c, .int .i64 aN, .int .i64 aL] w fun e w' => e = .returned (.bool p) ∧ Below w.heap.size w w') := fun a c w h => by rw [← hp]; exact implInSet_any a n c l aN aL w HL.out hn2 h
  have x1 : (p != p) = false := by simp
  clear hp
  go_enter Try.func3, Try.ntmps3
  go_wp2_with fail
  refine (szR_fits ao n cap 1048576 _ hn (by omega) (by omega)).mono ?_; rintro e w1 ⟨rfl, rfl⟩
  go_wp2_with fail
  refine (toRangeS_any ao n cap l _ HL.out hn2 HR.out).mono ?_; rintro e w2 ⟨rfl, ho, hb⟩
  have V2 := hid (OwG.reads ho)
  have B2 := hid hb
  clear ho hb
  go_wp2_with fail
  refine (CSP.out _ _ _ V2.out).mono ?_; rintro e w3 ⟨rfl, rfl⟩
  go_wp2_with fail
  refine (toRangeS_any ao n cap l _ HL.out hn2 (HR.out.later B2.out)).mono ?_; rintro e w4 ⟨rfl, ho, hb⟩
  have V4 := hid ho
  have B4 := hid (btr B2.out hb)
  clear ho hb V2
  go_wp2_with fail
  refine (CIM.out _ _ _ (OwG.reads V4.out)).mono ?_; rintro e w5 ⟨rfl, hb⟩
  have V5 := hid (own_later V4.out hb)
  have B5 := hid (btr B4.out hb)
  clear hb V4
  go_wp2_with fail
  refine (toRangeS_any ao n cap l _ HL.out hn2 (HR.out.later B5.out)).mono ?_; rintro e w6 ⟨rfl, ho, hb⟩
  have V6 := hid (own_later V5.out hb)
  have T6 := hid ho
  have B6 := hid (btr B5.out hb)
  clear ho hb V5
  go_wp2_with fail
  refine (eqRangeS_any _ _ _ _ n _ _ l _ hn2 V6.out T6.out).mono ?_; rintro e w7 ⟨rfl, hb⟩
  go_wp2
  go_ret
  exact ⟨rfl, btr B6.out hb⟩
/-- A row of numbers, owned. -/
def OwJ (W : World) (B : Nat) (v : Value) (G : List Nat) : Prop := W.ownsRow B 3 1 v G.length (G.map ic)
section
variable {W W' : World} {B g n c : Nat} {l : List Nat}
theorem OwJ.shape {v : Value} (h : OwJ W B v l) : ∃ a c, v = .slice a l.length c := by
  rcases h.2 with ⟨h1, h2⟩ | ⟨g, cap, cur, h1, _⟩
  · exact ⟨none, 0, by rw [h1, h2]⟩
  · exact ⟨_, _, h1⟩
theorem OwJ.len {a : Option Addr} (h : OwJ W B (.slice a n c) l) : l.length = n := by
  obtain ⟨a', c', e⟩ := h.shape
  simp only [Value.slice.injEq] at e
  exact e.2.1.symm
theorem OwJ.spot (h : OwJ W B (.slice (some ⟨g, 0, none⟩) n c) l) (i : Nat) (hi : i < l.length) :
    W.cell? ⟨g, i, none⟩ = some (.int .i64 (l[i] : Nat)) ∧ W.frozen? ⟨g, i, none⟩ = false := by
  obtain rfl := h.len
  exact ⟨(World.ownsRow.cellAt h _ (by omega)).trans (by rw [List.getElem?_map, List.getElem?_eq_getElem hi]; rfl), World.ownsRow.frozenAt h _⟩
theorem OwJ.put (h : OwJ W B (.slice (some ⟨g, 0, none⟩) n c) l) (i x : Nat) : OwJ (W.setCell ⟨g, i, none⟩ (.int .i64 (x : Int))) B (.slice (some ⟨g, 0, none⟩) n c) (l.set i x) := by
  obtain rfl := h.len
  have h1 := (World.ownsRow.stored h i (.int .i64 (x : Int))).1
  have e : (l.map ic).set i (.int .i64 (x : Int)) = (l.set i x).map ic := by rw [List.map_set]; rfl
  rw [e] at h1
  unfold OwJ
  rw [List.length_set]
  exact h1
theorem OwJ.some {a : Option Addr} (h : OwJ W B (.slice a n c) l) (hn : 0 < n) : ∃ g, a = some ⟨g, 0, none⟩ := by
  rcases h.2 with ⟨h1, h2⟩ | ⟨g, cap, cur, h1, _⟩
  · have := h.len; omega
  · simp only [Value.slice.injEq] at h1
    exact ⟨g, h1.1⟩
end
end Go.Proofs.Ytkbiebacbebdnaa
