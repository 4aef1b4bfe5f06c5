/- Ma, Mb, Mc, Md, Me, Mf, Mg, Itz, Mj, Mkz, Tkz, Tky, Ml, Kpu, Str, Sia, Gma, Hma, Hfb. -/
import Derived.Test.YtmpcmllfgogegaaGreatjHfb
import Derived.WalkKit
import Derived.Laws.IdiomStrings
import Derived.WalkSpells
import Derived.WalkLawsBesides
import Derived.Lib.Strings
import Derived.Lib.BufferWrite
import Derived.Lib.UnsafeStr
import Derived.Laws.MakeOwn
import Derived.Below
import Derived.BigQuiet
import Derived.Deep.QuietTactic
import Derived.Deep.RegionHeld3
import Derived.Deep.Cut
import Derived.Laws.Bits128
import Derived.Laws.ShiftsVarLaws
import Derived.Lib.BufferMore
import Derived.Lib.ConvBytes
import Derived.RangeFuncNested
import Derived.RangeFuncBound
import Derived.RangeFuncCalls
import Derived.RangeFuncLeaves
import Derived.RangeFuncBox
import Derived.Shelf.Abstract
import Derived.OwnWalkIn
import Derived.TacticsInMore
import Derived.LoopNIn
import Derived.LoopIn
import Derived.Maps.AppendAt
import Derived.Lib.ItoaNum
import Derived.Shelf.Spec.SlicesInsertGrow
import Derived.Shelf.Slices.SearchI
import Derived.Shelf.Slices.Empties
import Derived.Maps.RangeWalk
namespace Go.Proofs.YtmpcmllfgogegaaGreat
open Go.RowKit
end Go.Proofs.YtmpcmllfgogegaaGreat
namespace Go.Proofs.YtmpcmllfgogegaaGreat
open Go.RowKit
end Go.Proofs.YtmpcmllfgogegaaGreat
namespace Go.Proofs.YtmpcmllfgogegaaGreat
open Go.RowKit
end Go.Proofs.YtmpcmllfgogegaaGreat
namespace Go.Proofs.YtmpcmllfgogegaaGreat
open Go.RowKit
theorem toStamp_any (t b : Int) (w : World) :
  Calls Tryz.prog 64 #[.agg #[.int .i64 t, .int .i64 b]] w fun e w' => e = .returned (.agg #[.int .i64 t, .int .i64 b]) ∧ w' = ((w.alloc (.cells #[.int .i64 t, .int .i64 b] 49)).alloc (.cells #[.int .i64 t, .int .i64 b] 25)).alloc (.cells #[.int .i64 t, .int .i64 b] 25) := by
 go_enter Tryz.func64, Tryz.ntmps64
 go_wp2
 exact bodyPost_ret (v := .agg #[.int .i64 t, .int .i64 b]) (by simp [results, Tryz.results64, go_sem]) rfl ⟨rfl, rfl⟩
theorem eqStamp_any (t b t' b' : Int) (w : World) :
  Calls Tryz.prog 68 #[.agg #[.int .i64 t, .int .i64 b], .agg #[.int .i64 t', .int .i64 b']] w fun e w' => e = .returned (.bool (decide (t = t' ∧ b = b'))) ∧ w' = (w.alloc (.cells #[.int .i64 t, .int .i64 b] 25)).alloc (.cells #[.int .i64 t', .int .i64 b'] 25) := by
 by_cases h : t = t'
 ·by_cases k : b = b'
  ·subst h k
   go_enter Tryz.func68, Tryz.ntmps68
   go_wp2
   go_ret
   exact ⟨ret_bool (by simp), rfl⟩
  ·subst h
   go_enter Tryz.func68, Tryz.ntmps68
   go_wp2
   go_ret
   exact ⟨ret_bool (by simp [k]), rfl⟩
 ·go_enter Tryz.func68, Tryz.ntmps68
  go_wp2
  go_ret
  exact ⟨ret_bool (by simp [h]), rfl⟩
end Go.Proofs.YtmpcmllfgogegaaGreat
namespace Go.Proofs.YtmpcmllfgogegaaGreat
open Go.RowKit
theorem Rg.lt {W : World} {k ty : Nat} {v t b : Int} (h : Rg W k ty v t b) : k < W.heap.size := (Array.getElem?_eq_some_iff.1 h).1
theorem Rg.set' {W : World} {k ty : Nat} {v t b v' t' b' : Int} (h : Rg W k ty v t b) : Rg (((W.setCell ⟨k, 0, none⟩ (.int .i64 v')).setCell ⟨k, 1, none⟩ (.int .i64 t')).setCell ⟨k, 2, none⟩ (.int .i64 b')) k ty v' t' b' := h.set
theorem Sg.set {W : World} {k ty : Nat} {t b t' b' : Int} (h : Sg W k ty t b) : Sg (set2 W k t' b') k ty t' b' := by
 have h1 := heap_setCell_same W k 0 _ _ (.int .i64 t') h
 have h2 := heap_setCell_same _ k 1 _ _ (.int .i64 b') h1
 exact h2
end Go.Proofs.YtmpcmllfgogegaaGreat
namespace Go.Proofs.YtmpcmllfgogegaaGreat
open Go.RowKit
theorem eqStamp_letter (t b t' b' : Int) : ∃ p : Bool, Hid (p = decide (t = t' ∧ b = b')) ∧ Hid (∀ w, Calls Tryz.prog 68 #[.agg #[.int .i64 t, .int .i64 b], .agg #[.int .i64 t', .int .i64 b']] w fun e w' => e = .returned (.bool p) ∧ w' = (w.alloc (.cells #[.int .i64 t, .int .i64 b] 25)).alloc (.cells #[.int .i64 t', .int .i64 b'] 25)) := ⟨_, rfl, eqStamp_any t b t' b'⟩
theorem toReg_any (v t b : Int) (w : World) :
  Calls Tryz.prog 160 #[.agg #[.int .i64 v, .int .i64 t, .int .i64 b]] w fun e w' => e = .returned (.agg #[.int .i64 v, .int .i64 t, .int .i64 b]) ∧ Below w.heap.size w w' := by
 go_enter Tryz.func160, Tryz.ntmps160
 go_wp2_with fail
 refine (toStamp_any t b _).mono ?_; rintro e w1 ⟨rfl, rfl⟩
 go_wp2_with fail
 exact bodyPost_ret (v := rgv v t b) (by simp [results, Tryz.results160, go_sem]) rfl ⟨rfl, by repeat (first | exact bre _ | refine bpush ?_ _)⟩
theorem eqReg_same (v t b : Int) (w : World) :
  Calls Tryz.prog 141 #[.agg #[.int .i64 v, .int .i64 t, .int .i64 b], .agg #[.int .i64 v, .int .i64 t, .int .i64 b]] w fun e w' => e = .returned (.bool true) ∧ Below w.heap.size w w' := by
 obtain ⟨p, hp, cp⟩ := eqStamp_letter t b t b
 have hp1 : p = true := by rw [hp.out]; simp
 subst hp1
 go_enter Tryz.func141, Tryz.ntmps141
 go_wp2_with fail
 refine (cp.out _).mono ?_; rintro e w1 ⟨rfl, rfl⟩
 go_wp2_with fail
 go_ret
 exact ⟨rfl, by repeat (first | exact bre _ | refine bpush ?_ _)⟩
end Go.Proofs.YtmpcmllfgogegaaGreat
namespace Go.Proofs.YtmpcmllfgogegaaGreat
open Go.RowKit
theorem toStamp_b (t b : Int) (w : World) :
  Calls Tryz.prog 64 #[.agg #[.int .i64 t, .int .i64 b]] w fun e w' => e = .returned (.agg #[.int .i64 t, .int .i64 b]) ∧ Below w.heap.size w w' :=
 (toStamp_any t b w).mono fun _ _ h => ⟨h.1, h.2 ▸ bpush (bpush (bpush (bre _) _) _) _⟩
end Go.Proofs.YtmpcmllfgogegaaGreat
namespace Go.Proofs.YtmpcmllfgogegaaGreat
open Go.RowKit
end Go.Proofs.YtmpcmllfgogegaaGreat
namespace Go.Proofs.YtmpcmllfgogegaaGreat
open Go.RowKit
end Go.Proofs.YtmpcmllfgogegaaGreat
namespace Go.Proofs.YtmpcmllfgogegaaGreat
open Go.RowKit
end Go.Proofs.YtmpcmllfgogegaaGreat
namespace Go.Proofs.YtmpcmllfgogegaaGreat
open Go.RowKit
end Go.Proofs.YtmpcmllfgogegaaGreat
namespace Go.Proofs.YtmpcmllfgogegaaGreat
open Go.RowKit
theorem Rg.kept {W W' : World} {k ty cb : Nat} {v t b : Int} (h : Rg W k ty v t b) (hg : W.grownBy W' (some cb)) (hk : k ≠ cb) : Rg W' k ty v t b := (hg.block k h.lt (by simpa using hk)).trans h
theorem Sg.other {W : World} {k ty g o : Nat} {t b : Int} {u : Value} (h : Sg W k ty t b) (hk : k ≠ g) : Sg (W.setCell ⟨g, o, none⟩ u) k ty t b := (heap_setCell_other W ⟨g, o, none⟩ k u hk).trans h
theorem Rg.other {W : World} {k ty g o : Nat} {v t b : Int} {u : Value} (h : Rg W k ty v t b) (hk : k ≠ g) : Rg (W.setCell ⟨g, o, none⟩ u) k ty v t b := (heap_setCell_other W ⟨g, o, none⟩ k u hk).trans h
end Go.Proofs.YtmpcmllfgogegaaGreat
namespace Go.Proofs.YtmpcmllfgogegaaGreat
open Go.RowKit
theorem Rs.empty (W : World) (a : Option Addr) : Rs W a [] := fun h => absurd h (by simp)
end Go.Proofs.YtmpcmllfgogegaaGreat
namespace Go.Proofs.YtmpcmllfgogegaaGreat
open Go.RowKit
theorem sz_over (ao : Option Addr) (n cap : Nat) (lf : Int) (w : World) (_hn : (n : Int) ≤ 9223372036854775807) (_hl : 0 ≤ lf ∧ lf ≤ 1048576) (h : lf < (n : Int)) :
  Calls Tryz.prog 139 #[.slice ao n cap, .int .i64 lf] w fun e w' => e = .returned (.int .i64 (-1)) ∧ w' = w := by
 have h1 : lf - (n : Int) < 0 := by omega
 go_enter Tryz.func139, Tryz.ntmps139
 go_wp2
 go_ret
 exact ⟨rfl, rfl⟩
theorem sz_fits (ao : Option Addr) (n cap : Nat) (lf : Int) (w : World) (_hn : (n : Int) ≤ 9223372036854775807) (_hl : 0 ≤ lf ∧ lf ≤ 1048576) (h : ¬ lf < (n : Int)) :
  Calls Tryz.prog 139 #[.slice ao n cap, .int .i64 lf] w fun e w' => e = .returned (.int .i64 (lf - n)) ∧ w' = w := by
 have h1 : ¬ lf - (n : Int) < 0 := by omega
 go_enter Tryz.func139, Tryz.ntmps139
 go_wp2
 go_ret
 exact ⟨rfl, rfl⟩
set_option maxHeartbeats 400000 in
set_option maxRecDepth 100000 in
theorem toS_any (ao : Option Addr) (n cap : Nat) (l : List R3) (w : World) (hl : l.length = n) (hn : n ≤ 1048576) (hr : Rs w ao l) :
  Calls Tryz.prog 140 #[.slice ao n cap] w fun e w' => e = .returned (.slice (some ⟨w.heap.size, 0, none⟩) n n) ∧ Ow w' w.heap.size (.slice (some ⟨w.heap.size, 0, none⟩) n n) l ∧ Below w.heap.size w w' := by
 obtain ⟨M, hM, hmk⟩ := make_rg n hn
 have HR := hid hr
 have HL := hid hl
 clear hr hl
 go_enter Tryz.func140, Tryz.ntmps140
 go_wp2
 clear hmk
 go_loopw [4] (fun iv wr => ∃ i : Nat, i ≤ n ∧ iv = .int .i64 (i : Int) ∧ Ow wr w.heap.size (.slice (some ⟨w.heap.size, 0, none⟩) n n) (fil l i) ∧ Below w.heap.size w wr) (fun iv _ => n - (intOf iv).toNat)
 case atStart => exact ⟨0, Nat.zero_le _, rfl, by rw [fil_zero, HL.out]; exact hM.out w, bpush (bre _) _⟩
 case round =>
  obtain ⟨i, hi, rfl, hown, hb⟩ := hrel
  have HO := hid hown
  have hsz := hb.size
  clear hown
  by_cases hlt : i < n
  ·have hil : i < l.length := by rw [HL.out]; exact hlt
   obtain ⟨k, o, rfl, hk, c1, c2, c3⟩ := (HR.out.later hb).at hil
   obtain ⟨p, hp⟩ : ∃ p, l[i] = p := ⟨_, rfl⟩
   rw [hp] at c1 c2 c3
   obtain ⟨v, t, b⟩ := p
   have HP := hid hp
   clear hp
   go_wp2_with fail
   refine (toReg_any v t b _).mono ?_; rintro e w1 ⟨rfl, hb1⟩
   have H1 := hid (own_later HO.out hb1)
   obtain ⟨x, y, z, hc, hf⟩ := Ow.spot H1.out i (by rw [fil_len _ _ (by omega)]; exact hil)
   have HST := hid (Ow.stored H1.out i (by rw [fil_len _ _ (by omega)]; exact hil) (v, t, b))
   have HB1 : Hid (Below w.heap.size w w1) := btr hb hb1
   clear c1 c2 c3 hb1 hb
   go_wp2
   go_roundw
   case rel => exact ⟨i + 1, by omega, by go_num, HST.out.cast (by rw [← HP.out]; exact fil_set l i hil), bset (bset (bset HB1.out (Nat.le_refl _) _) (Nat.le_refl _) _) (Nat.le_refl _) _⟩
   case measure => simp [intOf]; omega
  ·have HE : Hid (i = l.length) := by show _ = _; rw [HL.out]; omega
   go_wp2
   go_ret
   exact ⟨rfl, HO.out.cast (by rw [HE.out, fil_all]), hb⟩
end Go.Proofs.YtmpcmllfgogegaaGreat
namespace Go.Proofs.YtmpcmllfgogegaaGreat
open Go.RowKit
set_option maxHeartbeats 400000 in
set_option maxRecDepth 100000 in
theorem eqRS_any (ao bo : Option Addr) (n ca cb : Nat) (l : List R3) (w : World) (hl : l.length = n) (hn : n ≤ 1048576) (ha : Rs w ao l) (hb : Rs w bo l) :
  Calls Tryz.prog 113 #[.slice ao n ca, .slice bo n cb] w fun e w' => e = .returned (.bool true) ∧ Below w.heap.size w w' := by
 have hnn : ((n : Int) != (n : Int)) = false := by simp
 have HA := hid ha
 have HB := hid hb
 have HL := hid hl
 clear ha hb hl
 go_enter Tryz.func113, Tryz.ntmps113
 go_wp2
 clear hnn
 go_loopw [5] (fun iv wr => ∃ i : Nat, i ≤ n ∧ iv = .int .i64 (i : Int) ∧ Below w.heap.size w wr) (fun iv _ => n - (intOf iv).toNat)
 case atStart => exact ⟨0, Nat.zero_le _, rfl, bre _⟩
 case round =>
  obtain ⟨i, hi, rfl, hb⟩ := hrel
  have HBE := hid hb
  clear hb
  by_cases hlt : i < n
  ·have hil : i < l.length := by rw [HL.out]; exact hlt
   obtain ⟨k, o, rfl, hk, c⟩ := (HA.out.later HBE.out).at hil
   obtain ⟨k', o', rfl, hk', d⟩ := (HB.out.later HBE.out).at hil
   obtain ⟨p, hp⟩ : ∃ p, l[i] = p := ⟨_, rfl⟩
   rw [hp] at c d
   obtain ⟨v, t, b⟩ := p
   clear hp
   have hI : (0 : Int) ≤ (i : Int) ∧ (i : Int) < (n : Int) := by omega
   have HS : Hid (∀ W, Below wr.heap.size wr W → (W.cell? ⟨k, o + i * 3, none⟩ = some (.int .i64 v) ∧ W.cell? ⟨k, o + i * 3 + 1, none⟩ = some (.int .i64 t) ∧ W.cell? ⟨k, o + i * 3 + 2, none⟩ = some (.int .i64 b)) ∧ (W.cell? ⟨k', o' + i * 3, none⟩ = some (.int .i64 v) ∧ W.cell? ⟨k', o' + i * 3 + 1, none⟩ = some (.int .i64 t) ∧ W.cell? ⟨k', o' + i * 3 + 2, none⟩ = some (.int .i64 b))) :=
    fun W h => ⟨⟨(h.cell (p := ⟨k, _, none⟩) hk).trans c.1, (h.cell (p := ⟨k, _, none⟩) hk).trans c.2.1, (h.cell (p := ⟨k, _, none⟩) hk).trans c.2.2⟩, ⟨(h.cell (p := ⟨k', _, none⟩) hk').trans d.1, (h.cell (p := ⟨k', _, none⟩) hk').trans d.2.1, (h.cell (p := ⟨k', _, none⟩) hk').trans d.2.2⟩⟩
   clear c d
   go_wp2_with fail
   go_region_held3 (fun W => (W.cell? ⟨k, o + i * 3, none⟩ = some (.int .i64 v) ∧ W.cell? ⟨k, o + i * 3 + 1, none⟩ = some (.int .i64 t) ∧ W.cell? ⟨k, o + i * 3 + 2, none⟩ = some (.int .i64 b)) ∧ (W.cell? ⟨k', o' + i * 3, none⟩ = some (.int .i64 v) ∧ W.cell? ⟨k', o' + i * 3 + 1, none⟩ = some (.int .i64 t) ∧ W.cell? ⟨k', o' + i * 3 + 2, none⟩ = some (.int .i64 b)))
    ((refine HS.out _ ?_; repeat (first | exact bdr (bre _) | refine btr ?_ (by assumption))))
    ((go_at_call 141; refine (eqReg_same v t b _).mono ?_; rintro e w1 ⟨rfl, hb1⟩))
   have HB1 : Hid (Below w.heap.size w w1) := by show Below _ _ _; refine btr HBE.out ?_; repeat (first | exact bdr (bre _) | refine btr ?_ (by assumption))
   go_wp2
   go_roundw
   case rel => exact ⟨i + 1, by omega, by go_num, HB1.out⟩
   case measure => simp [intOf]; omega
  ·go_wp2
   go_ret
   exact ⟨rfl, HBE.out⟩
theorem Rs.grown {W W' : World} {a : Option Addr} {l : List R3} {g : Nat} (h : Rs W a l) (hg : W.grownBy W' (some g)) (ha : ∀ x, a = some x → x.block ≠ g) : Rs W' a l := by
 intro hn
 obtain ⟨k, o, h1, h2, h3⟩ := h hn
 have hk : k ≠ g := ha _ h1
 refine ⟨k, o, h1, Nat.lt_of_lt_of_le h2 hg.size, fun i hi => ?_⟩
 obtain ⟨c1, c2, c3⟩ := h3 i hi
 exact ⟨hg.cell (a := ⟨k, _, none⟩) c1 (by simpa using hk), hg.cell (a := ⟨k, _, none⟩) c2 (by simpa using hk), hg.cell (a := ⟨k, _, none⟩) c3 (by simpa using hk)⟩
end Go.Proofs.YtmpcmllfgogegaaGreat
namespace Go.Proofs.YtmpcmllfgogegaaGreat
open Go.RowKit
end Go.Proofs.YtmpcmllfgogegaaGreat
namespace Go.Proofs.YtmpcmllfgogegaaGreat
open Go.RowKit
end Go.Proofs.YtmpcmllfgogegaaGreat
namespace Go.Proofs.YtmpcmllfgogegaaGreat
open Go.RowKit
end Go.Proofs.YtmpcmllfgogegaaGreat
namespace Go.Proofs.YtmpcmllfgogegaaGreat
open Go.RowKit
end Go.Proofs.YtmpcmllfgogegaaGreat
namespace Go.Proofs.YtmpcmllfgogegaaGreat
open Go.RowKit
end Go.Proofs.YtmpcmllfgogegaaGreat
namespace Go.Proofs.YtmpcmllfgogegaaGreat
open Go.RowKit
end Go.Proofs.YtmpcmllfgogegaaGreat
namespace Go.Proofs.YtmpcmllfgogegaaGreat
open Go.RowKit
theorem Sg.same {W W' : World} {k ty : Nat} {t b : Int} (h : Sg W k ty t b) (e : W'.heap[k]? = W.heap[k]?) : Sg W' k ty t b := e.trans h
end Go.Proofs.YtmpcmllfgogegaaGreat
namespace Go.Proofs.YtmpcmllfgogegaaGreat
open Go.RowKit
theorem Ow.solid' {W : World} {B : Nat} {v : Value} {l : List R3} (h : Ow W B v l) (hl : 0 < l.length) : ∃ g c, v = .slice (some ⟨g, 0, none⟩) l.length c ∧ B ≤ g ∧ l.length ≤ c ∧ (c : Int) ≤ 9223372036854775807 := by
 rcases h.2 with ⟨h1, h2⟩ | ⟨g, cap, cur, h1, h2, h3, h4, h5, _⟩
 ·omega
 ·exact ⟨g, cap, h1, h2, h4, by unfold maxLen at h5; omega⟩
theorem Dl.of {W : World} {B B' : Nat} {v : Value} {l : List R3} (h : Ow W B v l) (h0 : 0 < l.length) (h4 : l.length ≤ 4) (hB : B' ≤ B) : Dl W B' v l := by
 obtain ⟨g, c, rfl, hg, hc, _⟩ := h.solid' h0
 exact ⟨_, c, rfl, h4, hc, (by intro e; cases e), (Ow.rs h).2, by intro x e; simp at e; subst e; exact Nat.le_trans hB hg⟩
theorem Dl.later {W W' : World} {B : Nat} {v : Value} {l : List R3} (h : Dl W B v l) (hb : Below W.heap.size W W') : Dl W' B v l := by
 obtain ⟨a, c, h1, h2, h3, h4, h5, h6⟩ := h
 exact ⟨a, c, h1, h2, h3, h4, h5.later hb, h6⟩
theorem Dl.set {W : World} {B k o : Nat} {u v : Value} {l : List R3} (h : Dl W B v l) (hk : k < B) : Dl (W.setCell ⟨k, o, none⟩ u) B v l := by
 obtain ⟨a, c, h1, h2, h3, h4, h5, h6⟩ := h
 exact ⟨a, c, h1, h2, h3, h4, h5.grown (only_set (cb := k)) (fun x e => by have := h6 x e; omega), h6⟩
end Go.Proofs.YtmpcmllfgogegaaGreat
namespace Go.Proofs.YtmpcmllfgogegaaGreat
open Go.RowKit
end Go.Proofs.YtmpcmllfgogegaaGreat
namespace Go.Proofs.YtmpcmllfgogegaaGreat
open Go.RowKit
theorem Ow.other {W W' : World} {B g n c k : Nat} {l : List R3} (h : Ow W B (.slice (some ⟨g, 0, none⟩) n c) l) (hg : W.grownBy W' (some k)) (hk : g ≠ k) : Ow W' B (.slice (some ⟨g, 0, none⟩) n c) l :=
 World.ownsRow.kept h hg (Or.inr (by simpa [Value.ownBlock] using hk))
theorem Ow.far {W : World} {B g n c j : Nat} {l : List R3} (h : Ow W B (.slice (some ⟨g, 0, none⟩) n c) l) (hk : g ≠ j) (i : Nat) (x : Value) : Ow (W.setCell ⟨j, i, none⟩ x) B (.slice (some ⟨g, 0, none⟩) n c) l :=
 h.other (wst (wre W (some j)) i x) hk
end Go.Proofs.YtmpcmllfgogegaaGreat
namespace Go.Proofs.YtmpcmllfgogegaaGreat
open Go.RowKit
set_option maxHeartbeats 400000 in
set_option maxRecDepth 100000 in
theorem toMail_any (g u : Int) (ao : Option Addr) (n cap : Nat) (l : List R3) (t : ByteArray) (w : World) (hl : l.length = n) (hn : n ≤ 1048576) (hr : Rs w ao l) :
  Calls Tryz.prog 112 #[.agg #[.int .i64 g, .int .i64 u, .slice ao n cap, .string t]] w fun e w' => ∃ k, e = .returned (.agg #[.int .i64 g, .int .i64 u, .slice (some ⟨k, 0, none⟩) n n, .string t]) ∧ Ow w' k (.slice (some ⟨k, 0, none⟩) n n) l ∧ w.heap.size ≤ k ∧ Below w.heap.size w w' := by
 obtain ⟨W0, hW0⟩ : ∃ W0, (((w.alloc (.cells #[.int .i64 g, .int .i64 u, .slice ao n cap, .string t] 126)).alloc (.cells #[.int .i64 0, .int .i64 0, .slice none 0 0, .string ⟨#[]⟩] 37)).alloc (.cells #[.int .i64 0, .int .i64 0, .slice none 0 0, .string ⟨#[]⟩] 37)) = W0 := ⟨_, rfl⟩
 obtain ⟨a0, a1, a2, b0⟩ := three_mails w _ _ _ _ _ _ _ _ _ _ _ _ _ _ _ W0 hW0
 have A0 := hid a0
 have A1 := hid a1
 have A2 := hid a2
 have B0 := hid b0
 have HR := hid hr
 have HL := hid hl
 have HN := hid hn
 have c0 := a0.cells
 have c2 := a2.cells
 have f2 := a2.loose
 have hsz : W0.heap.size = w.heap.size + 1 + 1 + 1 := by rw [← hW0]; simp
 have HSZ := hid hsz
 clear a0 a1 a2 b0 hr hl hn hsz
 go_enter Tryz.func112, Tryz.ntmps112
 go_wp2_with fail
 clear hW0
 obtain ⟨W1, hW1⟩ : ∃ W1, (W0.setCell ⟨w.heap.size + 1 + 1, 0, none⟩ (.int .i64 g)).setCell ⟨w.heap.size + 1 + 1, 1, none⟩ (.int .i64 u) = W1 := ⟨_, rfl⟩
 rw [hW1]
 have M2 : Hid (Mg W1 (w.heap.size + 1 + 1) 37 g u (.slice none 0 0) ⟨#[]⟩) := by subst hW1; exact (A2.out.s0 g).s1 u
 have M1 : Hid (Mg W1 (w.heap.size + 1) 37 0 0 (.slice none 0 0) ⟨#[]⟩) := by subst hW1; exact (A1.out.far _ (by omega)).far _ (by omega)
 have M0 : Hid (Mg W1 w.heap.size 126 g u (.slice ao n cap) t) := by subst hW1; exact (A0.out.far _ (by omega)).far _ (by omega)
 have B1 : Hid (Below w.heap.size w W1) := by subst hW1; exact bsk (bsk B0.out (by omega) _ _) (by omega) _ _
 clear hW1 c0 c2 f2 A1 A2 B0
 refine (toS_any ao n cap l W1 HL.out HN.out (HR.out.later B1.out)).mono ?_; rintro e w1 ⟨rfl, hown, hb⟩
 have m1 := M1.out.later hb
 have m2 := M2.out.later hb
 have c0 := (M0.out.later hb).cells
 have c1 := m1.cells
 have f1 := m1.loose
 have c2 := m2.cells
 have f2 := m2.loose
 have E1 := hid m1
 have E2 := hid m2
 have HO := hid hown
 have HB := hid (btr B1.out hb)
 have HS := hid B1.out.size
 have L2 := hid M2.out.lt
 clear m1 m2 hown hb
 go_wp2
 have k2 := (E2.out.s2 (.slice (some ⟨W1.heap.size, 0, none⟩) n n)).s3 t
 have k1 := ((((E1.out.far (.slice (some ⟨W1.heap.size, 0, none⟩) n n) (j := w.heap.size + 1 + 1) (i := 2) (by omega)).far (.string t) (j := w.heap.size + 1 + 1) (i := 3) (by omega)).s0 g).s1 u).s2 (.slice (some ⟨W1.heap.size, 0, none⟩) n n) |>.s3 t
 have d1 := k1.cells
 refine bodyPost_ret (v := .agg #[.int .i64 g, .int .i64 u, .slice (some ⟨W1.heap.size, 0, none⟩) n n, .string t]) (by simp [results, Tryz.results112, go_sem, d1]) rfl ⟨_, rfl, ?_, HS.out, ?_⟩
 ·have h2 := L2.out
  exact (((((HO.out.far (by omega) 2 _).far (by omega) 3 _).far (by omega) 0 _).far (by omega) 1 _).far (by omega) 2 _).far (by omega) 3 _
 ·exact bsk (bsk (bsk (bsk (bsk (bsk HB.out (by omega) _ _) (by omega) _ _) (by omega) _ _) (by omega) _ _) (by omega) _ _) (by omega) _ _
theorem szMail_over (g u : Int) (ao : Option Addr) (n cap : Nat) (t : ByteArray) (lf : Int) (w : World) (hn : (n : Int) ≤ 9223372036854775807) (ht : (t.size : Int) ≤ 9223372036854775807) (hl : 0 ≤ lf ∧ lf ≤ 1048576) (h : lf < (n : Int) + t.size) :
  Calls Tryz.prog 111 #[.agg #[.int .i64 g, .int .i64 u, .slice ao n cap, .string t], .int .i64 lf] w fun e w' => e = .returned (.int .i64 (-1)) ∧ Below w.heap.size w w' := by
 have A0 := (Mg.new w 126 g u (.slice ao n cap) t).cells
 by_cases h1 : lf < (n : Int)
 ·go_enter Tryz.func111, Tryz.ntmps111
  go_wp2_with fail
  refine (sz_over ao n cap lf _ hn hl h1).mono ?_; rintro e w1 ⟨rfl, h1⟩
  subst h1
  go_wp2
  go_ret
  exact ⟨rfl, bpush (bre _) _⟩
 ·have H1 := hid h1
  go_enter Tryz.func111, Tryz.ntmps111
  go_wp2_with fail
  refine (sz_fits ao n cap lf _ hn hl (by have := H1.out; omega)).mono ?_; rintro e w1 ⟨rfl, h2⟩
  subst h2
  obtain ⟨m, hm⟩ : ∃ m : Int, lf - n = m := ⟨_, rfl⟩
  rw [hm]
  have h1 := H1.out
  have h3 : ¬ m < 0 := by omega
  have h4 : m - (t.size : Int) < 0 := by omega
  have h5 : m ≤ 1048576 := by omega
  clear hm h h1
  go_wp2
  go_ret
  exact ⟨rfl, bpush (bre _) _⟩
theorem szMail_fits (g u : Int) (ao : Option Addr) (n cap : Nat) (t : ByteArray) (lf : Int) (w : World) (hn : (n : Int) ≤ 9223372036854775807) (ht : (t.size : Int) ≤ 9223372036854775807) (hl : 0 ≤ lf ∧ lf ≤ 1048576) (h : ¬ lf < (n : Int) + t.size) :
  Calls Tryz.prog 111 #[.agg #[.int .i64 g, .int .i64 u, .slice ao n cap, .string t], .int .i64 lf] w fun e w' => e = .returned (.int .i64 (lf - n - t.size)) ∧ Below w.heap.size w w' := by
 have A0 := (Mg.new w 126 g u (.slice ao n cap) t).cells
 have H1 : Hid (¬ lf < (n : Int)) := by show ¬ _; omega
 go_enter Tryz.func111, Tryz.ntmps111
 go_wp2_with fail
 refine (sz_fits ao n cap lf _ hn hl (by have := H1.out; omega)).mono ?_; rintro e w1 ⟨rfl, h2⟩
 subst h2
 obtain ⟨m, hm⟩ : ∃ m : Int, lf - n = m := ⟨_, rfl⟩
 rw [hm]
 have h1 := H1.out
 have h3 : ¬ m < 0 := by omega
 have h4 : ¬ m - (t.size : Int) < 0 := by omega
 have h5 : m ≤ 1048576 := by omega
 have HM := hid hm
 clear hm h h1
 go_wp2
 go_ret
 exact ⟨by rw [HM.out]; rfl, bpush (bre _) _⟩
set_option maxRecDepth 100000 in
theorem eqMail_same (g u : Int) (ao bo : Option Addr) (n ca cb : Nat) (l : List R3) (t : ByteArray) (w : World) (hl : l.length = n) (hn : n ≤ 1048576) (ha : Rs w ao l) (hb : Rs w bo l) :
  Calls Tryz.prog 67 #[.agg #[.int .i64 g, .int .i64 u, .slice ao n ca, .string t], .agg #[.int .i64 g, .int .i64 u, .slice bo n cb, .string t]] w fun e w' => e = .returned (.bool true) ∧ Below w.heap.size w w' := by
 obtain ⟨W0, hW0⟩ : ∃ W0, ((w.alloc (.cells #[.int .i64 g, .int .i64 u, .slice ao n ca, .string t] 37)).alloc (.cells #[.int .i64 g, .int .i64 u, .slice bo n cb, .string t] 37)) = W0 := ⟨_, rfl⟩
 obtain ⟨a0, a1, b0⟩ := two_mails w _ _ _ _ _ _ _ _ _ _ W0 hW0
 have A0 := hid a0
 have A1 := hid a1
 have B0 := hid b0
 have HA := hid ha
 have HB := hid hb
 have HL := hid hl
 have HN := hid hn
 have c0 := a0.cells
 have c1 := a1.cells
 have e1 : (g != g) = false := by simp
 have e2 : (u != u) = false := by simp
 clear a0 a1 b0 ha hb hl hn
 go_enter Tryz.func67, Tryz.ntmps67
 go_wp2_with fail
 clear hW0
 refine (eqRS_any ao bo n ca cb l _ HL.out HN.out (HA.out.later B0.out) (HB.out.later B0.out)).mono ?_; rintro e w1 ⟨rfl, hb⟩
 have d0 := (A0.out.later hb).cells
 have d1 := (A1.out.later hb).cells
 have HB1 := hid (btr B0.out hb)
 clear c0 c1 hb
 go_wp2
 go_ret
 exact ⟨rfl, HB1.out⟩
end Go.Proofs.YtmpcmllfgogegaaGreat
namespace Go.Proofs.YtmpcmllfgogegaaGreat
open Go.RowKit
end Go.Proofs.YtmpcmllfgogegaaGreat
namespace Go.Proofs.YtmpcmllfgogegaaGreat
open Go.RowKit
end Go.Proofs.YtmpcmllfgogegaaGreat
namespace Go.Proofs.YtmpcmllfgogegaaGreat
open Go.RowKit
end Go.Proofs.YtmpcmllfgogegaaGreat
namespace Go.Proofs.YtmpcmllfgogegaaGreat
open Go.RowKit
end Go.Proofs.YtmpcmllfgogegaaGreat
namespace Go.Proofs.YtmpcmllfgogegaaGreat
open Go.RowKit
end Go.Proofs.YtmpcmllfgogegaaGreat
namespace Go.Proofs.YtmpcmllfgogegaaGreat
open Go.RowKit
end Go.Proofs.YtmpcmllfgogegaaGreat
namespace Go.Proofs.YtmpcmllfgogegaaGreat
open Go.RowKit
end Go.Proofs.YtmpcmllfgogegaaGreat
namespace Go.Proofs.YtmpcmllfgogegaaGreat
open Go.RowKit
theorem Dl.far {W : World} {B k o n c : Nat} {u : Value} {a : Option Addr} {l : List R3} (h : Dl W B (.slice a n c) l) (hk : ∀ y, a = some y → y.block ≠ k) : Dl (W.setCell ⟨k, o, none⟩ u) B (.slice a n c) l := by
 obtain ⟨a', c', h1, h2, h3, h4, h5, h6⟩ := h
 simp only [Value.slice.injEq] at h1
 obtain ⟨rfl, rfl, rfl⟩ := h1
 exact ⟨a, c, rfl, h2, h3, h4, h5.grown (only_set (cb := k)) hk, h6⟩
end Go.Proofs.YtmpcmllfgogegaaGreat
namespace Go.Proofs.YtmpcmllfgogegaaGreat
open Go.RowKit
end Go.Proofs.YtmpcmllfgogegaaGreat
namespace Go.Proofs.YtmpcmllfgogegaaGreat
open Go.RowKit
theorem Rb.wide {lo hi lo' hi' : Nat} {W : World} {a : Option Addr} {l : List R3} (h : Rb lo hi W a l) (h1 : lo' ≤ lo) (h2 : hi ≤ hi') : Rb lo' hi' W a l := by
 intro hn
 obtain ⟨k, o, e1, e2, e3, e4⟩ := h hn
 exact ⟨k, o, e1, by omega, by omega, e4⟩
theorem Ms.wide {lo hi lo' hi' : Nat} {W : World} {a : Option Addr} {L : List M4} (h : Ms lo hi W a L) (h1 : lo' ≤ lo) (h2 : hi ≤ hi') (h3 : hi' ≤ W.heap.size) : Ms lo' hi' W a L := by
 refine ⟨h3, fun i hi' => ?_⟩
 obtain ⟨k, o, fa, fc, e1, e2, e3, e4, e5, e6⟩ := h.2 i hi'
 exact ⟨k, o, fa, fc, e1, by omega, by omega, e4, e5.wide h1 h2, e6⟩
theorem OwZ.stored {W : World} {B g n c : Nat} {Z : List Z5} (h : OwZ W B (.slice (some ⟨g, 0, none⟩) n c) Z) (i : Nat) (hi : i < Z.length) (z : Z5) (ho : Ow W B z.2.2.1 z.2.2.2.1) (hg : z.2.2.1.ownBlock ≠ some g) (hd : ∀ y ∈ Z, Dj z.2.2.1 y.2.2.1) :
  OwZ ((((W.setCell ⟨g, i * 4, none⟩ (.int .i64 z.1)).setCell ⟨g, i * 4 + 1, none⟩ (.int .i64 z.2.1)).setCell ⟨g, i * 4 + 2, none⟩ z.2.2.1).setCell ⟨g, i * 4 + 3, none⟩ (.string z.2.2.2.2)) B (.slice (some ⟨g, 0, none⟩) n c) (Z.set i z) := by
 obtain rfl := h.ms.1
 have hgr : W.grownBy ((((W.setCell ⟨g, i * 4, none⟩ (.int .i64 z.1)).setCell ⟨g, i * 4 + 1, none⟩ (.int .i64 z.2.1)).setCell ⟨g, i * 4 + 2, none⟩ z.2.2.1).setCell ⟨g, i * 4 + 3, none⟩ (.string z.2.2.2.2)) (some g) := wst (wst (wst (wst (wre _ _) _ _) _ _) _ _) _ _
 have h1 := (World.ownsRow.stored h.row (i * 4) (.int .i64 z.1)).1
 have h2 := (World.ownsRow.stored h1 (i * 4 + 1) (.int .i64 z.2.1)).1
 have h3 := (World.ownsRow.stored h2 (i * 4 + 2) z.2.2.1).1
 have h4 := (World.ownsRow.stored h3 (i * 4 + 3) (.string z.2.2.2.2)).1
 rw [zc_set Z i z hi] at h4
 have hk : ∀ {x : Value} {l : List R3}, Ow W B x l → x.ownBlock ≠ some g → Ow ((((W.setCell ⟨g, i * 4, none⟩ (.int .i64 z.1)).setCell ⟨g, i * 4 + 1, none⟩ (.int .i64 z.2.1)).setCell ⟨g, i * 4 + 2, none⟩ z.2.2.1).setCell ⟨g, i * 4 + 3, none⟩ (.string z.2.2.2.2)) B x l :=
  fun hx hne => World.ownsRow.kept hx hgr (Or.inr hne)
 refine ⟨by simpa using h4, fun y hy => ?_, fun y hy => ?_, pair_set h.apart i z hd (fun y hy => (hd y hy).symm)⟩
 ·rcases mem_set hy with hy | rfl
  ·exact hk (h.each y hy) (far_of h hy)
  ·exact hk ho hg
 ·rcases mem_set hy with hy | rfl
  ·exact h.off y hy
  ·exact fun j hj hj' => hg (by rw [hj', ← hj]; rfl)
theorem OwI.stored {W : World} {B g n c : Nat} {G : List Int} (h : OwI W B (.slice (some ⟨g, 0, none⟩) n c) G) (i : Nat) (x : Int) :
  OwI (W.setCell ⟨g, i, none⟩ (.int .i64 x)) B (.slice (some ⟨g, 0, none⟩) n c) (G.set i x) := by
 obtain rfl := (OwI.is h).1
 have h1 := (World.ownsRow.stored h i (.int .i64 x)).1
 rw [← List.map_set] at h1
 simpa [OwI] using h1
end Go.Proofs.YtmpcmllfgogegaaGreat
namespace Go.Proofs.YtmpcmllfgogegaaGreat
open Go.RowKit
theorem zc_rep (n : Nat) : ∀ j, (zc (List.replicate n z0))[j]? = if j < n * 4 then some (match j % 4 with | 0 => .int .i64 0 | 1 => .int .i64 0 | 2 => .slice none 0 0 | _ => .string ⟨#[]⟩) else none := by
 induction n with
 | zero => intro j; simp [zc]
 | succ n ih =>
  intro j
  rw [List.replicate_succ]
  match j with
  | 0 => simp [zc, z0]
  | 1 => simp [zc, z0]; omega
  | 2 => simp [zc, z0]; omega
  | 3 => simp [zc, z0]; omega
  | j + 4 =>
   have e := ih j
   have h1 : (zc (z0 :: List.replicate n z0))[j + 4]? = (zc (List.replicate n z0))[j]? := by simp [zc]
   have h2 : (j + 4 < (n + 1) * 4) ↔ (j < n * 4) := by omega
   rw [h1, e, show (j + 4) % 4 = j % 4 by omega]
   simp only [h2]
theorem made4 (n : Nat) : (madeCells #[.int .i64 0, .int .i64 0, .slice none 0 0, .string ⟨#[]⟩] (n * 4)).toList = zc (List.replicate n z0) := by
 apply List.ext_getElem?
 intro j
 rw [zc_rep]
 by_cases hj : j < n * 4
 ·have h4 : j % 4 = 0 ∨ j % 4 = 1 ∨ j % 4 = 2 ∨ j % 4 = 3 := by omega
  rcases h4 with h | h | h | h <;> simp [madeCells, hj, h]
 ·simp [madeCells, hj]
theorem make_ml (n : Nat) (hn : n ≤ 1048576) : ∃ M : Array Value, Hid (∀ W : World, OwZ (W.alloc (.cells M 37)) W.heap.size (.slice (some ⟨W.heap.size, 0, none⟩) n n) (List.replicate n z0)) ∧
  ∀ W : World, (Instr.makeSlice 26 (.int .i64 (n : Int)) (.int .i64 (n : Int))).run Tryz.prog W = .ok (.slice (some ⟨W.heap.size, 0, none⟩) n n) (W.alloc (.cells M 37)) := by
 obtain ⟨i0, hi, hz0, hz1, hz2⟩ := info_parts3 info_ml
 refine ⟨madeCells #[.int .i64 0, .int .i64 0, .slice none 0 0, .string ⟨#[]⟩] (n * 4), fun W => ?_, fun W => ?_⟩
 ·have h := World.ownsRow_lit (base := W.heap.size) (e := 37) (size := 4) W (madeCells #[.int .i64 0, .int .i64 0, .slice none 0 0, .string ⟨#[]⟩] (n * 4)) n (Nat.le_refl _) (by unfold maxLen; omega) (size_madeCells _ _)
  rw [made4] at h
  refine ⟨by simpa using h, fun z hz => ?_, fun z hz => ?_, ?_⟩
  ·obtain rfl := List.eq_of_mem_replicate hz
   exact World.ownsRow_nil _ _ _ _
  ·obtain rfl := List.eq_of_mem_replicate hz
   exact (Dj.nil _).symm
  ·exact List.pairwise_of_forall_mem_list fun x hx y hy => by
    obtain rfl := List.eq_of_mem_replicate hx
    exact Dj.nil _
 ·have h := run_make (P := Tryz.prog) W 26 37 i0 (.agg #[.int .i64 0, .int .i64 0, .slice none 0 0, .string ⟨#[]⟩]) Tryz.underlying26 hi hz0 .i64 .i64 (n : Int) (n : Int) (by omega) (by omega) (by rw [hz2]; omega) (by omega)
  rw [hz1, Int.toNat_natCast] at h
  exact h
set_option maxHeartbeats 800000 in
set_option maxRecDepth 100000 in
theorem toMailS_any (lo hi : Nat) (ao : Option Addr) (n cap : Nat) (L : List M4) (w : World) (hl : L.length = n) (hn : n ≤ 1048576) (hsm : Sm L) (hr : Ms lo hi w ao L) :
  Calls Tryz.prog 65 #[.slice ao n cap] w fun e w' => e = .returned (.slice (some ⟨w.heap.size, 0, none⟩) n n) ∧ (∃ Z, Z.map md = L ∧ OwZ w' w.heap.size (.slice (some ⟨w.heap.size, 0, none⟩) n n) Z) ∧ Below w.heap.size w w' := by
 obtain ⟨M, hM, hmk⟩ := make_ml n hn
 have HR := hid hr
 have HL := hid hl
 have HS := hid hsm
 clear hr hl hsm
 go_enter Tryz.func65, Tryz.ntmps65
 go_wp2
 clear hmk
 go_loopw [4] (fun iv wr => ∃ i : Nat, i ≤ n ∧ iv = .int .i64 (i : Int) ∧ (∃ Z : List Z5, Z.length = n ∧ (Z.take i).map md = L.take i ∧ OwZ wr w.heap.size (.slice (some ⟨w.heap.size, 0, none⟩) n n) Z) ∧ Below w.heap.size w wr) (fun iv _ => n - (intOf iv).toNat)
 case atStart => exact ⟨0, Nat.zero_le _, rfl, ⟨_, List.length_replicate, by simp, hM.out w⟩, bpush (bre _) _⟩
 case round =>
  obtain ⟨i, hi, rfl, ⟨Z, hZn, hZt, hown⟩, hb⟩ := hrel
  have HO := hid hown
  have HZN := hid hZn
  have HZT := hid hZt
  have hsz := hb.size
  clear hown hZn hZt
  by_cases hlt : i < n
  ·have hil : i < L.length := by rw [HL.out]; exact hlt
   obtain ⟨k, o, fa, fc, rfl, hk, ⟨c0, c1, c2, c3⟩, hrs, _⟩ := (HR.out.later hb).at hil
   have hmem := HS.out L[i] (List.getElem_mem hil)
   obtain ⟨p, hp⟩ : ∃ p, L[i] = p := ⟨_, rfl⟩
   rw [hp] at c0 c1 c2 c3 hrs hmem
   obtain ⟨g, u, l, t⟩ := p
   have HP := hid hp
   have HRS := hid hrs
   have HMM := hid hmem
   obtain ⟨m, hm⟩ : ∃ m, l.length = m := ⟨_, rfl⟩
   dsimp only at c0 c1 c2 c3
   rw [hm] at c2
   have HM := hid hm
   clear hp hrs hmem hm
   go_wp2_with fail
   refine (toMail_any g u fa m fc l t _ HM.out (by rw [← HM.out]; exact HMM.out.1) HRS.out).mono ?_; rintro e w1 ⟨k', rfl, how, hk', hb1⟩
   have H1 := hid (HO.out.later hb1)
   have hiz : i < Z.length := by rw [HZN.out]; exact hlt
   obtain ⟨hc, hf⟩ := OwZ.spot H1.out i hiz
   have hZi : ∃ a0 a1 a2 a3 a4, Z[i] = (a0, a1, a2, a3, a4) := ⟨_, _, _, _, _, rfl⟩
   obtain ⟨a0, a1, a2, a3, a4, hZi⟩ := hZi
   rw [hZi] at hc
   have hB : w.heap.size ≤ k' := Nat.le_trans hb.size hk'
   have hgk : w.heap.size < wr.heap.size := ((HO.out.row.lt w.heap.size rfl).2)
   have HST := hid (OwZ.stored H1.out i hiz (g, u, .slice (some ⟨k', 0, none⟩) m m, l, t) (own_base how hB)
     (by simp [Value.ownBlock]; omega) (fun y hy j hj hy' => by
       simp [Value.ownBlock] at hj
       have := ((HO.out.each y hy).lt j hy').2
       omega))
   have HB1 : Hid (Below w.heap.size w w1) := btr hb hb1
   clear c0 c1 c2 c3 hb1 hb how hB hgk hk' hZi
   go_wp2
   go_roundw
   case rel =>
    refine ⟨i + 1, by omega, by go_num, ⟨_, ?_, ?_, HST.out⟩, bset (bset (bset (bset HB1.out (Nat.le_refl _) _) (Nat.le_refl _) _) (Nat.le_refl _) _) (Nat.le_refl _) _⟩
    ·rw [List.length_set]; exact HZN.out
    ·rw [List.take_succ_eq_append_getElem (by rw [List.length_set]; exact hiz), List.take_succ_eq_append_getElem hil, List.map_append, List.take_set_of_le (Nat.le_refl _), HZT.out, List.getElem_set_self, HP.out]; rfl
   case measure => simp [intOf]; omega
  ·have HE : Hid (Z.map md = L) := by
    show _ = _
    have := HZT.out
    rwa [List.take_of_length_le (by rw [HZN.out]; omega), List.take_of_length_le (by rw [HL.out]; omega)] at this
   go_wp2
   go_ret
   exact ⟨rfl, ⟨Z, HE.out, HO.out⟩, hb⟩
theorem tot_app (L K : List M4) : tot (L ++ K) = tot L + tot K := by
 induction L with
 | nil => simp [tot]
 | cons m L ih => simp only [List.cons_append, tot, ih]; omega
theorem tot_take (L : List M4) (i : Nat) (h : i < L.length) : tot (L.take (i + 1)) = tot (L.take i) + (L[i].2.2.1.length + L[i].2.2.2.size) := by
 rw [List.take_succ_eq_append_getElem h, tot_app]; simp [tot]
theorem tot_le (L : List M4) (i : Nat) : tot (L.take i) ≤ tot L := by
 have := tot_app (L.take i) (L.drop i)
 rw [List.take_append_drop] at this
 omega
theorem tot_mem {L : List M4} {m : M4} (h : m ∈ L) : m.2.2.1.length + m.2.2.2.size ≤ tot L := by
 induction L with
 | nil => cases h
 | cons x L ih =>
  rcases List.mem_cons.1 h with rfl | h
  ·simp only [tot]; omega
  ·have := ih h; simp only [tot]; omega
theorem sm_of {L : List M4} (h : tot L ≤ 1048576) : Sm L := fun m hm => by have := tot_mem hm; omega
set_option maxHeartbeats 800000 in
set_option maxRecDepth 100000 in
theorem szMailS_any (lo hi : Nat) (ao : Option Addr) (n cap : Nat) (L : List M4) (lf : Int) (w : World) (hl : L.length = n) (hn : (n : Int) ≤ 9223372036854775807) (hlf : 0 ≤ lf ∧ lf ≤ 1048576) (hft : Fit L) (hr : Ms lo hi w ao L) :
  Calls Tryz.prog 62 #[.slice ao n cap, .int .i64 lf] w fun e w' => e = .returned (.int .i64 (szr lf (szL L))) ∧ Below w.heap.size w w' := by
 by_cases h1 : lf < (n : Int)
 ·have HE : Hid (szr lf (szL L) = -1) := by show _ = _; rw [szr, if_pos (by unfold szL; omega)]
  have h2 : lf - (n : Int) < 0 := by omega
  clear hft hr hl
  go_enter Tryz.func62, Tryz.ntmps62
  go_wp2
  go_ret
  exact ⟨by rw [HE.out]; rfl, bre _⟩
 ·have h2 : ¬ lf - (n : Int) < 0 := by omega
  have HR := hid hr
  have HL := hid hl
  have HF := hid hft
  clear hr hl hft
  go_enter Tryz.func62, Tryz.ntmps62
  go_wp2
  go_loopw [1, 5] (fun lv iv wr => ∃ (i : Nat) (q : Int), i ≤ n ∧ lv = .int .i64 q ∧ iv = .int .i64 (i : Int) ∧ 0 ≤ q ∧ q ≤ 1048576 ∧ Hid (q = lf - n - (tot (L.take i) : Int)) ∧ Below w.heap.size w wr) (fun _ iv _ => n - (intOf iv).toNat)
  case atStart => exact ⟨0, lf - n, Nat.zero_le _, rfl, rfl, by omega, by omega, by show _ = _; simp [tot], bre _⟩
  case round =>
   obtain ⟨i, q, hi, rfl, rfl, hq0, hq1, HQ, hb⟩ := hrel
   have HB := hid hb
   clear h1 h2
   by_cases hlt : i < n
   ·have hil : i < L.length := by rw [HL.out]; exact hlt
    obtain ⟨k, o, fa, fc, rfl, hk, ⟨c0, c1, c2, c3⟩, hrs, _⟩ := (HR.out.later hb).at hil
    have hmem := HF.out L[i] (List.getElem_mem hil)
    have hstep := tot_take L i hil
    obtain ⟨p, hp⟩ : ∃ p, L[i] = p := ⟨_, rfl⟩
    rw [hp] at c0 c1 c2 c3 hmem hstep
    obtain ⟨g, u, l, t⟩ := p
    dsimp only at c0 c1 c2 c3 hmem hstep
    obtain ⟨m, hm⟩ : ∃ m, l.length = m := ⟨_, rfl⟩
    rw [hm] at c2 hmem hstep
    have HST := hid hstep
    have HMM := hid hmem
    clear hp hrs hmem hm hstep hb
    by_cases hov : q < (m : Int) + t.size
    ·have HE : Hid (szr lf (szL L) = -1) := by
      show _ = _
      have h1 := HQ.out
      have h2 := HST.out
      have h3 := tot_le L (i + 1)
      have h4 := HL.out
      rw [szr, if_pos (by unfold szL; omega)]
     go_wp2_with fail
     refine (szMail_over g u fa m fc t q _ HMM.out.1 HMM.out.2 ⟨hq0, hq1⟩ hov).mono ?_; rintro e w1 ⟨rfl, hb1⟩
     have HB1 := hid (btr HB.out hb1)
     clear hb1 c0 c1 c2 c3
     go_wp2
     go_ret
     exact ⟨by rw [HE.out]; rfl, HB1.out⟩
    ·go_wp2_with fail
     refine (szMail_fits g u fa m fc t q _ HMM.out.1 HMM.out.2 ⟨hq0, hq1⟩ (by omega)).mono ?_; rintro e w1 ⟨rfl, hb1⟩
     have HB1 := hid (btr HB.out hb1)
     obtain ⟨q', hq'⟩ : ∃ q' : Int, q - m - t.size = q' := ⟨_, rfl⟩
     rw [hq']
     have h3 : ¬ q' < 0 := by omega
     have h4 : 0 ≤ q' ∧ q' ≤ 1048576 := by omega
     have HQ2 : Hid (q' = lf - n - (tot (L.take (i + 1)) : Int)) := by show _ = _; have h1 := HQ.out; have h2 := HST.out; omega
     clear hb1 c0 c1 c2 c3 hq' hov
     go_wp2
     go_roundw
     case rel => exact ⟨i + 1, q', by omega, rfl, by go_num, h4.1, h4.2, HQ2, HB1.out⟩
     case measure => simp [intOf]; omega
   ·have HE : Hid (szr lf (szL L) = q) := by
     show _ = _
     have h1 := HQ.out
     have h4 := HL.out
     rw [List.take_of_length_le (by omega)] at h1
     rw [szr, if_neg (by unfold szL; omega)]
     unfold szL; omega
    go_wp2
    go_ret
    exact ⟨by rw [HE.out]; rfl, HB.out⟩
theorem szIntS_any (ao : Option Addr) (n cap : Nat) (lf : Int) (w : World) (hn : (n : Int) ≤ 9223372036854775807) (hlf : 0 ≤ lf ∧ lf ≤ 1048576) :
  Calls Tryz.prog 63 #[.slice ao n cap, .int .i64 lf] w fun e w' => e = .returned (.int .i64 (szr lf n)) ∧ w' = w := by
 by_cases h1 : lf < (n : Int)
 ·have HE : Hid (szr lf n = -1) := by show _ = _; rw [szr, if_pos h1]
  have h2 : lf - (n : Int) < 0 := by omega
  go_enter Tryz.func63, Tryz.ntmps63
  go_wp2
  go_ret
  exact ⟨by rw [HE.out]; rfl, rfl⟩
 ·have HE : Hid (szr lf n = lf - n) := by show _ = _; rw [szr, if_neg h1]
  have h2 : ¬ lf - (n : Int) < 0 := by omega
  go_enter Tryz.func63, Tryz.ntmps63
  go_wp2
  go_ret
  exact ⟨by rw [HE.out]; rfl, rfl⟩
theorem int_rep (n : Nat) : (madeCells #[.int .i64 0] (n * 1)).toList = (List.replicate n (0 : Int)).map (Value.int .i64) := by
 apply List.ext_getElem?
 intro j
 by_cases hj : j < n <;> simp [madeCells, hj, Nat.mod_one]
theorem make_int (n : Nat) (hn : n ≤ 1048576) : ∃ M : Array Value, Hid (∀ W : World, OwI (W.alloc (.cells M 3)) W.heap.size (.slice (some ⟨W.heap.size, 0, none⟩) n n) (List.replicate n 0)) ∧
  ∀ W : World, (Instr.makeSlice 27 (.int .i64 (n : Int)) (.int .i64 (n : Int))).run Tryz.prog W = .ok (.slice (some ⟨W.heap.size, 0, none⟩) n n) (W.alloc (.cells M 3)) := by
 have hinfo : (Tryz.prog.info? 3).map (fun i => (i.zero, i.size, i.bytes)) = some (some (.int .i64 0), 1, 8) := by kernel_rfl
 obtain ⟨i0, hi, hz0, hz1, hz2⟩ := info_parts3 hinfo
 refine ⟨madeCells #[.int .i64 0] (n * 1), fun W => ?_, fun W => ?_⟩
 ·have h := World.ownsRow_lit (base := W.heap.size) (e := 3) (size := 1) W (madeCells #[.int .i64 0] (n * 1)) n (Nat.le_refl _) (by unfold maxLen; omega) (size_madeCells _ _)
  rw [int_rep] at h
  simpa [OwI] using h
 ·have h := run_make (P := Tryz.prog) W 27 3 i0 (.int .i64 0) Tryz.underlying27 hi hz0 .i64 .i64 (n : Int) (n : Int) (by omega) (by omega) (by rw [hz2]; omega) (by omega)
  rw [hz1, Int.toNat_natCast] at h
  exact h
set_option maxHeartbeats 800000 in
set_option maxRecDepth 100000 in
theorem toIntS_any (lo hi : Nat) (ao : Option Addr) (n cap : Nat) (G : List Int) (w : World) (hl : G.length = n) (hn : n ≤ 1048576) (hr : Is lo hi w ao G) :
  Calls Tryz.prog 66 #[.slice ao n cap] w fun e w' => e = .returned (.slice (some ⟨w.heap.size, 0, none⟩) n n) ∧ OwI w' w.heap.size (.slice (some ⟨w.heap.size, 0, none⟩) n n) G ∧ Below w.heap.size w w' := by
 obtain ⟨M, hM, hmk⟩ := make_int n hn
 have HR := hid hr
 have HL := hid hl
 clear hr hl
 go_enter Tryz.func66, Tryz.ntmps66
 go_wp2
 clear hmk
 go_loopw [4] (fun iv wr => ∃ i : Nat, i ≤ n ∧ iv = .int .i64 (i : Int) ∧ (∃ F : List Int, F.length = n ∧ F.take i = G.take i ∧ OwI wr w.heap.size (.slice (some ⟨w.heap.size, 0, none⟩) n n) F) ∧ Below w.heap.size w wr) (fun iv _ => n - (intOf iv).toNat)
 case atStart => exact ⟨0, Nat.zero_le _, rfl, ⟨_, List.length_replicate, by simp, hM.out w⟩, bpush (bre _) _⟩
 case round =>
  obtain ⟨i, hi, rfl, ⟨F, hFn, hFt, hown⟩, hb⟩ := hrel
  have HO := hid hown
  have HFN := hid hFn
  have HFT := hid hFt
  have hsz := hb.size
  by_cases hlt : i < n
  ·have hil : i < G.length := by rw [HL.out]; exact hlt
   obtain ⟨k, o, rfl, hk, c0⟩ := (HR.out.later hb).at hil
   obtain ⟨x, hx⟩ : ∃ x, G[i] = x := ⟨_, rfl⟩
   rw [hx] at c0
   have HX := hid hx
   have hif : i < F.length := by rw [hFn]; exact hlt
   obtain ⟨k', o', e', hk', c1⟩ := (OwI.is hown).2.at hif
   simp only [Option.some.injEq, Addr.mk.injEq, and_true] at e'
   obtain ⟨rfl, rfl⟩ := e'
   simp only [Nat.zero_add] at c1
   subst hFn
   have hfz := World.ownsRow.frozenAt hown i
   have HST := hid (OwI.stored hown i x)
   clear hx hown hFt
   go_wp2
   go_roundw
   case rel =>
    refine ⟨i + 1, by omega, by go_num, ⟨_, by rw [List.length_set], ?_, HST.out⟩, bset hb (Nat.le_refl _) _⟩
    rw [List.take_succ_eq_append_getElem (by rw [List.length_set]; exact hif), List.take_succ_eq_append_getElem hil, List.take_set_of_le (Nat.le_refl _), HFT.out, List.getElem_set_self, HX.out]
   case measure => simp [intOf]; omega
  ·have HE : Hid (F = G) := by
    show _ = _
    have := HFT.out
    rwa [List.take_of_length_le (by rw [HFN.out]; omega), List.take_of_length_le (by rw [HL.out]; omega)] at this
   clear hFn hFt hown
   go_wp2
   go_ret
   exact ⟨rfl, HE.out ▸ HO.out, hb⟩
end Go.Proofs.YtmpcmllfgogegaaGreat
namespace Go.Proofs.YtmpcmllfgogegaaGreat
open Go.RowKit
set_option maxHeartbeats 800000 in
set_option maxRecDepth 100000 in
theorem eqMailS_any (l1 h1 l2 h2 : Nat) (ao bo : Option Addr) (n ca cb : Nat) (L : List M4) (w : World) (hl : L.length = n) (hn : n ≤ 1048576) (hsm : Sm L) (ha : Ms l1 h1 w ao L) (hb : Ms l2 h2 w bo L) :
  Calls Tryz.prog 31 #[.slice ao n ca, .slice bo n cb] w fun e w' => e = .returned (.bool true) ∧ Below w.heap.size w w' := by
 have hnn : ((n : Int) != (n : Int)) = false := by simp
 have HA := hid ha
 have HB := hid hb
 have HL := hid hl
 have HS := hid hsm
 clear ha hb hl hsm
 go_enter Tryz.func31, Tryz.ntmps31
 go_wp2
 clear hnn
 go_loopw [5] (fun iv wr => ∃ i : Nat, i ≤ n ∧ iv = .int .i64 (i : Int) ∧ Below w.heap.size w wr) (fun iv _ => n - (intOf iv).toNat)
 case atStart => exact ⟨0, Nat.zero_le _, rfl, bre _⟩
 case round =>
  obtain ⟨i, hi, rfl, hb⟩ := hrel
  have HBE := hid hb
  clear hb
  by_cases hlt : i < n
  ·have hil : i < L.length := by rw [HL.out]; exact hlt
   obtain ⟨k, o, fa, fc, rfl, hk, c, hr1, _⟩ := (HA.out.later HBE.out).at hil
   obtain ⟨k', o', fa', fc', rfl, hk', d, hr2, _⟩ := (HB.out.later HBE.out).at hil
   have hmem := HS.out L[i] (List.getElem_mem hil)
   obtain ⟨p, hp⟩ : ∃ p, L[i] = p := ⟨_, rfl⟩
   rw [hp] at c d hr1 hr2 hmem
   obtain ⟨g, u, l, t⟩ := p
   dsimp only at c d hr1 hr2 hmem
   obtain ⟨m, hm⟩ : ∃ m, l.length = m := ⟨_, rfl⟩
   rw [hm] at c d
   have HM := hid hm
   have HMM := hid hmem
   have HR1 := hid hr1
   have HR2 := hid hr2
   clear hp hm hmem hr1 hr2
   have hI : (0 : Int) ≤ (i : Int) ∧ (i : Int) < (n : Int) := by omega
   have HS : Hid (∀ W, Below wr.heap.size wr W → (W.cell? ⟨k, o + i * 4, none⟩ = some (.int .i64 g) ∧ W.cell? ⟨k, o + i * 4 + 1, none⟩ = some (.int .i64 u) ∧ W.cell? ⟨k, o + i * 4 + 2, none⟩ = some (.slice fa m fc) ∧ W.cell? ⟨k, o + i * 4 + 3, none⟩ = some (.string t)) ∧ (W.cell? ⟨k', o' + i * 4, none⟩ = some (.int .i64 g) ∧ W.cell? ⟨k', o' + i * 4 + 1, none⟩ = some (.int .i64 u) ∧ W.cell? ⟨k', o' + i * 4 + 2, none⟩ = some (.slice fa' m fc') ∧ W.cell? ⟨k', o' + i * 4 + 3, none⟩ = some (.string t))) :=
    fun W h => ⟨C4.later c hk h, C4.later d hk' h⟩
   clear c d
   go_wp2_with fail
   go_region_held3 (fun W => (W.cell? ⟨k, o + i * 4, none⟩ = some (.int .i64 g) ∧ W.cell? ⟨k, o + i * 4 + 1, none⟩ = some (.int .i64 u) ∧ W.cell? ⟨k, o + i * 4 + 2, none⟩ = some (.slice fa m fc) ∧ W.cell? ⟨k, o + i * 4 + 3, none⟩ = some (.string t)) ∧ (W.cell? ⟨k', o' + i * 4, none⟩ = some (.int .i64 g) ∧ W.cell? ⟨k', o' + i * 4 + 1, none⟩ = some (.int .i64 u) ∧ W.cell? ⟨k', o' + i * 4 + 2, none⟩ = some (.slice fa' m fc') ∧ W.cell? ⟨k', o' + i * 4 + 3, none⟩ = some (.string t)))
    ((refine HS.out _ ?_; repeat (first | exact bdr (bre _) | refine btr ?_ (by assumption))))
    ((go_at_call 67; refine (eqMail_same g u fa fa' m fc fc' l t _ HM.out (by rw [← HM.out]; exact HMM.out.1) (HR1.out.later (by repeat (first | exact bdr (bre _) | exact bre _ | refine btr ?_ (by assumption)))) (HR2.out.later (by repeat (first | exact bdr (bre _) | exact bre _ | refine btr ?_ (by assumption))))).mono ?_; rintro e w1 ⟨rfl, hb1⟩))
   have HB1 : Hid (Below w.heap.size w w1) := by show Below _ _ _; refine btr HBE.out ?_; repeat (first | exact bdr (bre _) | refine btr ?_ (by assumption))
   go_wp2
   go_roundw
   case rel => exact ⟨i + 1, by omega, by go_num, HB1.out⟩
   case measure => simp [intOf]; omega
  ·go_wp2
   go_ret
   exact ⟨rfl, HBE.out⟩
set_option maxHeartbeats 800000 in
set_option maxRecDepth 100000 in
theorem eqIntS_any (l1 h1 l2 h2 : Nat) (ao bo : Option Addr) (n ca cb : Nat) (G : List Int) (w : World) (hl : G.length = n) (hn : n ≤ 1048576) (ha : Is l1 h1 w ao G) (hb : Is l2 h2 w bo G) :
  Calls Tryz.prog 69 #[.slice ao n ca, .slice bo n cb] w fun e w' => e = .returned (.bool true) ∧ Below w.heap.size w w' := by
 have hnn : ((n : Int) != (n : Int)) = false := by simp
 have HA := hid ha
 have HB := hid hb
 have HL := hid hl
 clear ha hb hl
 go_enter Tryz.func69, Tryz.ntmps69
 go_wp2
 clear hnn
 go_loopw [5] (fun iv wr => ∃ i : Nat, i ≤ n ∧ iv = .int .i64 (i : Int) ∧ Below w.heap.size w wr) (fun iv _ => n - (intOf iv).toNat)
 case atStart => exact ⟨0, Nat.zero_le _, rfl, bre _⟩
 case round =>
  obtain ⟨i, hi, rfl, hb⟩ := hrel
  have HBE := hid hb
  clear hb
  by_cases hlt : i < n
  ·have hil : i < G.length := by rw [HL.out]; exact hlt
   obtain ⟨k, o, rfl, hk, c⟩ := (HA.out.later HBE.out).at hil
   obtain ⟨k', o', rfl, hk', d⟩ := (HB.out.later HBE.out).at hil
   obtain ⟨x, hx⟩ : ∃ x, G[i] = x := ⟨_, rfl⟩
   rw [hx] at c d
   clear hx
   have hI : (0 : Int) ≤ (i : Int) ∧ (i : Int) < (n : Int) := by omega
   have hxx : (x != x) = false := by simp
   go_wp2_with fail
   go_quiet (fail)
   go_wp2
   go_roundw
   case rel => exact ⟨i + 1, by omega, by go_num, bdn HBE.out _⟩
   case measure => simp [intOf]; omega
  ·go_wp2
   go_ret
   exact ⟨rfl, HBE.out⟩
end Go.Proofs.YtmpcmllfgogegaaGreat
namespace Go.Proofs.YtmpcmllfgogegaaGreat
open Go.RowKit
section
variable {W W' : World} {k ty : Nat} {g : Int} {nm : ByteArray} {t b nx : Int} {ms gs : Value}
end
theorem OwB.later {W W' : World} {B : Nat} {mv gv : Value} {L : List M4} {G : List Int} (h : OwB W B mv gv L G) (hb : Below W.heap.size W W') : OwB W' B mv gv L G := by
 obtain ⟨Z, h1, h2, h3, h4⟩ := h
 exact ⟨Z, h1, h2.later hb, own_later h3 hb, h4⟩
set_option maxHeartbeats 1600000 in
set_option maxRecDepth 100000 in
theorem toBox_any (lo hi lo' hi' : Nat) (g : Int) (nm : ByteArray) (t b nx : Int) (ma : Option Addr) (mn mc : Nat) (ga : Option Addr) (gn gc : Nat) (L : List M4) (G : List Int) (w : World) (hl : L.length = mn) (hn : mn ≤ 1048576) (hsm : Sm L) (hm : Ms lo hi w ma L) (hg : G.length = gn) (hgn : gn ≤ 1048576) (hs : Is lo' hi' w ga G) :
  Calls Tryz.prog 30 #[.agg #[.int .i64 g, .string nm, .int .i64 t, .int .i64 b, .int .i64 nx, .slice ma mn mc, .slice ga gn gc]] w fun e w' => ∃ km kg, e = .returned (.agg #[.int .i64 g, .string nm, .int .i64 t, .int .i64 b, .int .i64 nx, .slice (some ⟨km, 0, none⟩) mn mn, .slice (some ⟨kg, 0, none⟩) gn gn]) ∧
   OwB w' w.heap.size (.slice (some ⟨km, 0, none⟩) mn mn) (.slice (some ⟨kg, 0, none⟩) gn gn) L G ∧ Below w.heap.size w w' := by
 obtain ⟨W0, hW0⟩ : ∃ W0, (((w.alloc (.cells #[.int .i64 g, .string nm, .int .i64 t, .int .i64 b, .int .i64 nx, .slice ma mn mc, .slice ga gn gc] 52)).alloc (.cells #[.int .i64 0, .string ⟨#[]⟩, .int .i64 0, .int .i64 0, .int .i64 0, .slice none 0 0, .slice none 0 0] 29)).alloc (.cells #[.int .i64 0, .string ⟨#[]⟩, .int .i64 0, .int .i64 0, .int .i64 0, .slice none 0 0, .slice none 0 0] 29)) = W0 := ⟨_, rfl⟩
 obtain ⟨a0, a1, a2, b0, s0⟩ := three_boxes w _ _ _ _ _ _ _ _ _ _ _ _ _ _ _ _ _ _ _ _ _ _ _ _ W0 hW0
 have A0 := hid a0
 have A1 := hid a1
 have A2 := hid a2
 have B0 := hid b0
 have S0 := hid s0
 have HM := hid hm
 have HS := hid hs
 have c0 := a0.cells
 have c2 := a2.cells
 have f2 := a2.loose
 clear a0 a1 a2 b0 s0 hm hs
 go_enter Tryz.func30, Tryz.ntmps30
 go_wp2_with fail
 clear hW0
 obtain ⟨W1, hW1⟩ : ∃ W1, (W0.setCell ⟨w.heap.size + 1 + 1, 0, none⟩ (.int .i64 g)).setCell ⟨w.heap.size + 1 + 1, 1, none⟩ (.string nm) = W1 := ⟨_, rfl⟩
 rw [hW1]
 have G1 : W0.grownBy W1 (some (w.heap.size + 1 + 1)) := by subst hW1; exact wst (wst (wre _ _) _ _) _ _
 have k2 := (A2.out.s0 g).s1 nm
 rw [hW1] at k2
 have k0 := A0.out.grown G1 (fun e => by simp only [Option.some.injEq] at e; omega)
 have k1 := A1.out.grown G1 (fun e => by simp only [Option.some.injEq] at e; omega)
 have b1 : Below w.heap.size w W1 := B0.out.trans (below_of_grown G1 (by omega) (by have := S0.out; omega))
 have s1 : W1.heap.size = w.heap.size + 1 + 1 + 1 := by subst hW1; simpa [World.setCell] using S0.out
 have K0 := hid k0
 have K1 := hid k1
 have K2 := hid k2
 have B1 := hid b1
 have S1 := hid s1
 clear hW1 c0 c2 f2 k0 k1 k2 b1 s1 G1 A0 A1 A2 B0 S0
 refine (toStamp_b t b _).mono ?_; rintro e w1 ⟨rfl, hb1⟩
 have k0 := K0.out.later hb1
 have k1 := K1.out.later hb1
 have k2 := K2.out.later hb1
 have c0 := k0.cells
 have c2 := k2.cells
 have f2 := k2.loose
 have A0 := hid k0
 have A1 := hid k1
 have A2 := hid k2
 have B0 := hid (btr B1.out hb1)
 have S0 := hid (show w.heap.size + 1 + 1 + 1 ≤ w1.heap.size by have h1 := S1.out; have h2 := hb1.size; omega)
 clear k0 k1 k2 hb1 K0 K1 K2 B1 S1
 go_wp2_with fail
 obtain ⟨W2, hW2⟩ : ∃ W2, ((w1.setCell ⟨w.heap.size + 1 + 1, 2, none⟩ (.int .i64 t)).setCell ⟨w.heap.size + 1 + 1, 3, none⟩ (.int .i64 b)).setCell ⟨w.heap.size + 1 + 1, 4, none⟩ (.int .i64 nx) = W2 := ⟨_, rfl⟩
 rw [hW2]
 have G1 : w1.grownBy W2 (some (w.heap.size + 1 + 1)) := by subst hW2; exact wst (wst (wst (wre _ _) _ _) _ _) _ _
 have k2 := ((A2.out.s2 t).s3 b).s4 nx
 rw [hW2] at k2
 have k0 := A0.out.grown G1 (fun e => by simp only [Option.some.injEq] at e; omega)
 have k1 := A1.out.grown G1 (fun e => by simp only [Option.some.injEq] at e; omega)
 have b1 : Below w.heap.size w W2 := B0.out.trans (below_of_grown G1 (by omega) (by have := S0.out; omega))
 have s1 : w.heap.size + 1 + 1 + 1 ≤ W2.heap.size := Nat.le_trans S0.out G1.size
 have K0 := hid k0
 have K1 := hid k1
 have K2 := hid k2
 have B1 := hid b1
 have S1 := hid s1
 clear hW2 c0 c2 f2 k0 k1 k2 b1 s1 G1 A0 A1 A2 B0 S0
 refine (toMailS_any lo hi ma mn mc L W2 hl hn hsm (HM.out.later B1.out)).mono ?_; rintro e w2 ⟨rfl, ⟨Z, hZ, hown⟩, hb2⟩
 have k0 := K0.out.later hb2
 have k1 := K1.out.later hb2
 have k2 := K2.out.later hb2
 have c0 := k0.cells
 have c2 := k2.cells
 have f2 := k2.loose
 have A0 := hid k0
 have A1 := hid k1
 have A2 := hid k2
 have B0 := hid (btr B1.out hb2)
 have HO := hid hown
 have HZ := hid hZ
 have S0 := hid (show w.heap.size + 1 + 1 + 1 ≤ w2.heap.size from Nat.le_trans S1.out hb2.size)
 obtain ⟨km, hkm⟩ : ∃ km, W2.heap.size = km := ⟨_, rfl⟩
 rw [hkm] at HO ⊢
 have HKM : Hid (w.heap.size + 1 + 1 + 1 ≤ km) := by show _ ≤ _; rw [← hkm]; exact S1.out
 clear k0 k1 k2 hb2 K0 K1 K2 B1 S1 hZ hown hkm
 go_wp2_with fail
 obtain ⟨W3, hW3⟩ : ∃ W3, w2.setCell ⟨w.heap.size + 1 + 1, 5, none⟩ (.slice (some ⟨km, 0, none⟩) mn mn) = W3 := ⟨_, rfl⟩
 rw [hW3]
 have G1 : w2.grownBy W3 (some (w.heap.size + 1 + 1)) := by subst hW3; exact wst (wre _ _) _ _
 have k2 := A2.out.s5 (.slice (some ⟨km, 0, none⟩) mn mn)
 rw [hW3] at k2
 have k0 := A0.out.grown G1 (fun e => by simp only [Option.some.injEq] at e; omega)
 have k1 := A1.out.grown G1 (fun e => by simp only [Option.some.injEq] at e; omega)
 have o1 := HO.out.grown G1 (by have := HKM.out; omega)
 have b1 : Below w.heap.size w W3 := B0.out.trans (below_of_grown G1 (by omega) (by have := S0.out; omega))
 have s1 : w.heap.size + 1 + 1 + 1 ≤ W3.heap.size := Nat.le_trans S0.out G1.size
 have K0 := hid k0
 have K1 := hid k1
 have K2 := hid k2
 have B1 := hid b1
 have S1 := hid s1
 have O1 := hid o1
 clear hW3 c0 c2 f2 k0 k1 k2 b1 s1 o1 G1 A0 A1 A2 B0 S0 HO
 refine (toIntS_any lo' hi' ga gn gc G W3 hg hgn (HS.out.later B1.out)).mono ?_; rintro e w3 ⟨rfl, hown, hb3⟩
 have k1 := K1.out.later hb3
 have k2 := K2.out.later hb3
 have c2 := k2.cells
 have f2 := k2.loose
 have c1 := k1.cells
 have f1 := k1.loose
 have A1 := hid k1
 have A2 := hid k2
 have B0 := hid (btr B1.out hb3)
 have HO := hid (O1.out.later hb3)
 have HI := hid hown
 have HD := hid (Dj.later O1.out.row hown (Nat.le_refl _))
 have HE := hid (fun z hz => Dj.later (O1.out.each z hz) hown (Nat.le_refl _))
 obtain ⟨kg, hkg⟩ : ∃ kg, W3.heap.size = kg := ⟨_, rfl⟩
 rw [hkg] at HI HD HE ⊢
 have HKG : Hid (w.heap.size + 1 + 1 + 1 ≤ kg) := by show _ ≤ _; rw [← hkg]; exact S1.out
 clear k1 k2 hb3 K0 K1 K2 B1 S1 hown O1 hkg
 go_wp2
 have k2 := A2.out.s6 (.slice (some ⟨kg, 0, none⟩) gn gn)
 have e1 : w3.grownBy (w3.setCell ⟨w.heap.size + 1 + 1, 6, none⟩ (.slice (some ⟨kg, 0, none⟩) gn gn)) (some (w.heap.size + 1 + 1)) := wst (wre _ _) _ _
 have k1 := A1.out.grown e1 (fun e => by simp only [Option.some.injEq] at e; omega)
 have e2 := set7_grown (w3.setCell ⟨w.heap.size + 1 + 1, 6, none⟩ (.slice (some ⟨kg, 0, none⟩) gn gn)) (w.heap.size + 1) g nm t b nx (.slice (some ⟨km, 0, none⟩) mn mn) (.slice (some ⟨kg, 0, none⟩) gn gn)
 have d1 := (k1.set7 g nm t b nx (.slice (some ⟨km, 0, none⟩) mn mn) (.slice (some ⟨kg, 0, none⟩) gn gn)).cells
 unfold set7 at d1 e2
 refine bodyPost_ret (v := .agg #[.int .i64 g, .string nm, .int .i64 t, .int .i64 b, .int .i64 nx, .slice (some ⟨km, 0, none⟩) mn mn, .slice (some ⟨kg, 0, none⟩) gn gn]) (by simp [results, Tryz.results30, go_sem, d1]) rfl ⟨km, kg, rfl, ⟨Z, HZ.out, ?_, ?_, HD.out, HE.out⟩, ?_⟩
 ·have h1 := HKM.out
  exact ((HO.out.grown e1 (by omega)).grown e2 (by omega)).base (by omega)
 ·have h1 := HKG.out
  exact own_base (OwI.grown (OwI.grown HI.out e1 (by omega)) e2 (by omega)) (by omega)
 ·have h1 := B0.out.size
  have h2 := e1.size
  exact B0.out.trans ((below_of_grown e1 (by omega) (by omega)).trans (below_of_grown e2 (by omega) (by omega)))
end Go.Proofs.YtmpcmllfgogegaaGreat
namespace Go.Proofs.YtmpcmllfgogegaaGreat
open Go.RowKit
theorem szr_over {lf : Int} {n : Nat} (h : lf < (n : Int)) : szr lf n = -1 := by rw [szr, if_pos h]
theorem szr_fits {lf : Int} {n : Nat} (h : ¬ lf < (n : Int)) : szr lf n = lf - n := by rw [szr, if_neg h]
set_option maxHeartbeats 800000 in
set_option maxRecDepth 100000 in
theorem szBox_any (lo hi : Nat) (g : Int) (nm : ByteArray) (t b nx : Int) (ma : Option Addr) (mn mc : Nat) (ga : Option Addr) (gn gc : Nat) (L : List M4) (w : World) (hnm : (nm.size : Int) ≤ 9223372036854775807) (hl : L.length = mn) (hn : (mn : Int) ≤ 9223372036854775807) (hft : Fit L) (hm : Ms lo hi w ma L) (hgn : (gn : Int) ≤ 9223372036854775807) :
  Calls Tryz.prog 28 #[.agg #[.int .i64 g, .string nm, .int .i64 t, .int .i64 b, .int .i64 nx, .slice ma mn mc, .slice ga gn gc], .int .i64 1048576] w fun e w' => e = .returned (.int .i64 (szr 1048576 (nm.size + szL L + gn))) ∧ Below w.heap.size w w' := by
 obtain ⟨W0, hW0⟩ : ∃ W0, w.alloc (.cells #[.int .i64 g, .string nm, .int .i64 t, .int .i64 b, .int .i64 nx, .slice ma mn mc, .slice ga gn gc] 52) = W0 := ⟨_, rfl⟩
 have a0 : Bx W0 w.heap.size 52 g nm t b nx (.slice ma mn mc) (.slice ga gn gc) := by subst hW0; exact Bx.new w _ g nm t b nx _ _
 have b0 : Below w.heap.size w W0 := by subst hW0; exact bpush (bre _) _
 have c0 := a0.cells
 have A0 := hid a0
 have B0 := hid b0
 have HM := hid hm
 have HL := hid hl
 have HF := hid hft
 have HN := hid hn
 clear a0 b0 hm hl hft hn
 by_cases h1 : (1048576 : Int) < nm.size
 ·have HE := hid (szr_over (lf := 1048576) (n := nm.size + szL L + gn) (by omega))
  have h2 : (1048576 : Int) - nm.size < 0 := by omega
  go_enter Tryz.func28, Tryz.ntmps28
  go_wp2
  go_ret
  exact ⟨by rw [HE.out]; rfl, B0.out⟩
 ·obtain ⟨q, hq⟩ : ∃ q : Int, (1048576 : Int) - nm.size = q := ⟨_, rfl⟩
  have h2 : ¬ q < 0 := by omega
  have h3 : 0 ≤ q ∧ q ≤ 1048576 := by omega
  have HQ := hid hq
  by_cases h4 : q < (szL L : Int)
  ·have HE := hid (szr_over (lf := 1048576) (n := nm.size + szL L + gn) (by omega))
   have HE1 := hid (szr_over h4)
   clear h1
   go_enter Tryz.func28, Tryz.ntmps28
   go_wp2_with fail
   clear hW0
   refine (szMailS_any lo hi ma mn mc L q _ HL.out HN.out h3 HF.out (HM.out.later B0.out)).mono ?_; rintro e w1 ⟨rfl, hb1⟩
   rw [HE1.out]
   have HB1 := hid (btr B0.out hb1)
   clear hb1 c0 hq h2 h3 h4
   go_wp2
   go_ret
   exact ⟨by rw [HE.out]; rfl, HB1.out⟩
  ·obtain ⟨r, hr⟩ : ∃ r : Int, q - (szL L : Int) = r := ⟨_, rfl⟩
   have HE1 : Hid (szr q (szL L) = r) := by show _ = _; rw [szr_fits h4, hr]
   have h5 : ¬ r < 0 := by omega
   have h6 : 0 ≤ r ∧ r ≤ 1048576 := by omega
   have HR := hid hr
   by_cases h7 : r < (gn : Int)
   ·have HE := hid (szr_over (lf := 1048576) (n := nm.size + szL L + gn) (by omega))
    have HE2 := hid (szr_over h7)
    clear h1 h4 hr
    go_enter Tryz.func28, Tryz.ntmps28
    go_wp2_with fail
    clear hW0
    refine (szMailS_any lo hi ma mn mc L q _ HL.out HN.out h3 HF.out (HM.out.later B0.out)).mono ?_; rintro e w1 ⟨rfl, hb1⟩
    rw [HE1.out]
    have c0 := (A0.out.later hb1).cells
    have HB1 := hid (btr B0.out hb1)
    clear hb1 hq h2 h3
    go_wp2_with fail
    refine (szIntS_any ga gn gc r _ hgn h6).mono ?_; rintro e w2 ⟨rfl, h8⟩
    subst h8
    rw [HE2.out]
    clear c0 h5 h6 h7
    go_wp2
    go_ret
    exact ⟨by rw [HE.out]; rfl, HB1.out⟩
   ·have HE : Hid (szr 1048576 (nm.size + szL L + gn) = r - gn) := by show _ = _; rw [szr_fits (by omega)]; omega
    have HE2 := hid (szr_fits h7)
    obtain ⟨x, hx⟩ : ∃ x : Int, r - gn = x := ⟨_, rfl⟩
    have h9 : ¬ x < 0 := by omega
    rw [hx] at HE HE2
    clear h1 h4 hr hx
    go_enter Tryz.func28, Tryz.ntmps28
    go_wp2_with fail
    clear hW0
    refine (szMailS_any lo hi ma mn mc L q _ HL.out HN.out h3 HF.out (HM.out.later B0.out)).mono ?_; rintro e w1 ⟨rfl, hb1⟩
    rw [HE1.out]
    have c0 := (A0.out.later hb1).cells
    have HB1 := hid (btr B0.out hb1)
    clear hb1 hq h2 h3
    go_wp2_with fail
    refine (szIntS_any ga gn gc r _ hgn h6).mono ?_; rintro e w2 ⟨rfl, h8⟩
    subst h8
    rw [HE2.out]
    clear c0 h5 h6 h7
    go_wp2
    go_ret
    exact ⟨by rw [HE.out]; rfl, HB1.out⟩
set_option maxHeartbeats 800000 in
set_option maxRecDepth 100000 in
theorem eqBox_any (l1 h1 l2 h2 l3 h3 l4 h4 : Nat) (g : Int) (nm : ByteArray) (t b nx : Int) (ma : Option Addr) (mn mc : Nat) (ga : Option Addr) (gn gc : Nat) (ma' : Option Addr) (mc' : Nat) (ga' : Option Addr) (gc' : Nat) (L : List M4) (G : List Int) (w : World) (hl : L.length = mn) (hn : mn ≤ 1048576) (hsm : Sm L) (hm : Ms l1 h1 w ma L) (hm' : Ms l2 h2 w ma' L)
  (hgl : G.length = gn) (hgn : gn ≤ 1048576) (hs : Is l3 h3 w ga G) (hs' : Is l4 h4 w ga' G) :
  Calls Tryz.prog 32 #[.agg #[.int .i64 g, .string nm, .int .i64 t, .int .i64 b, .int .i64 nx, .slice ma mn mc, .slice ga gn gc], .agg #[.int .i64 g, .string nm, .int .i64 t, .int .i64 b, .int .i64 nx, .slice ma' mn mc', .slice ga' gn gc']] w fun e w' => e = .returned (.bool true) ∧ Below w.heap.size w w' := by
 obtain ⟨W0, hW0⟩ : ∃ W0, ((w.alloc (.cells #[.int .i64 g, .string nm, .int .i64 t, .int .i64 b, .int .i64 nx, .slice ma mn mc, .slice ga gn gc] 29)).alloc (.cells #[.int .i64 g, .string nm, .int .i64 t, .int .i64 b, .int .i64 nx, .slice ma' mn mc', .slice ga' gn gc'] 29)) = W0 := ⟨_, rfl⟩
 obtain ⟨a0, a1, b0, _⟩ := two_boxes w _ _ _ _ _ _ _ _ _ _ _ _ _ _ _ _ W0 hW0
 obtain ⟨p, hp, cp⟩ := eqStamp_letter t b t b
 have hp' : p = true := by rw [hp.out]; simp
 subst hp'
 have A0 := hid a0
 have A1 := hid a1
 have B0 := hid b0
 have c0 := a0.cells
 have c1 := a1.cells
 have HM := hid hm
 have HM' := hid hm'
 have HS := hid hs
 have HS' := hid hs'
 have HX := hid hsm
 have e1 : (g != g) = false := by simp
 have e2 : (nx != nx) = false := by simp
 have e3 : (!nm.toList == nm.toList) = false := by simp
 clear a0 a1 b0 hm hm' hs hs' hsm
 go_enter Tryz.func32, Tryz.ntmps32
 go_wp2_with fail
 clear hW0
 refine (cp.out _).mono ?_; rintro e w1 ⟨rfl, hw1⟩
 have hb1 : Below W0.heap.size W0 w1 := by rw [hw1]; exact bpush (bpush (bre _) _) _
 have k0 := A0.out.later hb1
 have k1 := A1.out.later hb1
 have K0 := hid k0
 have K1 := hid k1
 have B1 := hid (btr B0.out hb1)
 have c0 := k0.cells
 have c1 := k1.cells
 clear hw1 hb1 k0 k1 A0 A1 B0
 go_wp2_with fail
 refine (eqMailS_any l1 h1 l2 h2 ma ma' mn mc mc' L _ hl hn HX.out (HM.out.later B1.out) (HM'.out.later B1.out)).mono ?_; rintro e w2 ⟨rfl, hb2⟩
 have k0 := K0.out.later hb2
 have k1 := K1.out.later hb2
 have B2 := hid (btr B1.out hb2)
 have c0 := k0.cells
 have c1 := k1.cells
 clear hb2 k0 k1 K0 K1 B1
 go_wp2_with fail
 refine (eqIntS_any l3 h3 l4 h4 ga ga' gn gc gc' G _ hgl hgn (HS.out.later B2.out) (HS'.out.later B2.out)).mono ?_; rintro e w3 ⟨rfl, hb3⟩
 have B3 := hid (btr B2.out hb3)
 clear hb3 c0 c1
 go_wp2
 go_ret
 exact ⟨rfl, B3.out⟩
end Go.Proofs.YtmpcmllfgogegaaGreat
namespace Go.Proofs.YtmpcmllfgogegaaGreat
open Go.RowKit
end Go.Proofs.YtmpcmllfgogegaaGreat
namespace Go.Proofs.YtmpcmllfgogegaaGreat
open Go.RowKit
end Go.Proofs.YtmpcmllfgogegaaGreat
namespace Go.Proofs.YtmpcmllfgogegaaGreat
open Go.RowKit Go.Shelf Go.ChangeMaps
attribute [local go_sem] Oper.semAt_some
end Go.Proofs.YtmpcmllfgogegaaGreat
namespace Go.Proofs.YtmpcmllfgogegaaGreat
open Go.RowKit Go.Shelf Go.ChangeMaps
attribute [local go_sem] Oper.semAt_some
end Go.Proofs.YtmpcmllfgogegaaGreat
namespace Go.Proofs.YtmpcmllfgogegaaGreat
open Go.RowKit Go.ChangeMaps
end Go.Proofs.YtmpcmllfgogegaaGreat
namespace Go.Proofs.YtmpcmllfgogegaaGreat
open Go.RowKit Go.ChangeMaps
theorem sw_uz {Z : List Z5} {q : Nat} (h : q + 1 < Z.length) (k : Nat) : uz (sw Z q Z[q] Z[q + 1]) k = if k = q then uz Z (q + 1) else if k = q + 1 then uz Z q else uz Z k := by
 unfold uz sw
 by_cases h1 : k = q
 ·subst h1
  rw [if_pos rfl, List.getElem?_set_self (by simp; omega), List.getElem?_eq_getElem h]
 ·rw [if_neg h1, List.getElem?_set_ne (Ne.symm h1)]
  by_cases h2 : k = q + 1
  ·subst h2
   rw [if_pos rfl, List.getElem?_set_self h, List.getElem?_eq_getElem (by omega)]
  ·rw [if_neg h2, List.getElem?_set_ne (Ne.symm h2)]
theorem Ins.start {Z : List Z5} {i : Nat} (h : Srt Z i) : Ins Z i i := ⟨fun a b h1 h2 _ h4 => h a b h1 (by omega), fun b h1 h2 => by omega⟩
theorem Ins.fin0 {Z : List Z5} {i : Nat} (h : Ins Z i 0) : Srt Z (i + 1) := by
 intro a b h1 h2
 by_cases ha : a = 0
 ·subst ha; exact h.2 b h1 (by omega)
 ·exact h.1 a b h1 (by omega) ha (by omega)
theorem Ins.fin {Z : List Z5} {i q : Nat} (h : Ins Z i (q + 1)) (hu : uz Z q ≤ uz Z (q + 1)) : Srt Z (i + 1) := by
 intro a b h1 h2
 by_cases ha : a = q + 1
 ·subst ha; exact h.2 b h1 (by omega)
 ·by_cases hb : b = q + 1
  ·subst hb
   by_cases haq : a = q
   ·subst haq; exact hu
   ·exact Int.le_trans (h.1 a q (by omega) (by omega) ha (by omega)) hu
  ·exact h.1 a b h1 (by omega) ha hb
theorem Ins.step {Z : List Z5} {i q : Nat} (hl : q + 1 < Z.length) (h : Ins Z i (q + 1)) (hu : uz Z (q + 1) < uz Z q) : Ins (sw Z q Z[q] Z[q + 1]) i q := by
 refine ⟨fun a b h1 h2 h3 h4 => ?_, fun b h1 h2 => ?_⟩
 ·rw [sw_uz hl, sw_uz hl, if_neg h3, if_neg h4]
  by_cases ha : a = q + 1
  ·rw [if_pos ha, if_neg (by omega)]
   exact h.1 q b (by omega) h2 (by omega) (by omega)
  ·rw [if_neg ha]
   by_cases hb : b = q + 1
   ·rw [if_pos hb]
    exact h.1 a q (by omega) (by omega) ha (by omega)
   ·rw [if_neg hb]
    exact h.1 a b h1 h2 ha hb
 ·rw [sw_uz hl, sw_uz hl, if_pos rfl, if_neg (by omega)]
  by_cases hb : b = q + 1
  ·rw [if_pos hb]; omega
  ·rw [if_neg hb]
   exact h.2 b (by omega) h2
end Go.Proofs.YtmpcmllfgogegaaGreat
namespace Go.Proofs.YtmpcmllfgogegaaGreat
open Go.RowKit Go.ChangeMaps
end Go.Proofs.YtmpcmllfgogegaaGreat
namespace Go.Proofs.YtmpcmllfgogegaaGreat
open Go.RowKit Go.ChangeMaps
end Go.Proofs.YtmpcmllfgogegaaGreat
namespace Go.Proofs.YtmpcmllfgogegaaGreat
open Go.RowKit Go.ChangeMaps
end Go.Proofs.YtmpcmllfgogegaaGreat
namespace Go.Proofs.YtmpcmllfgogegaaGreat
open Go.RowKit Go.ChangeMaps
end Go.Proofs.YtmpcmllfgogegaaGreat
namespace Go.Proofs.YtmpcmllfgogegaaGreat
open Go.RowKit Go.ChangeMaps
theorem Shs.later {w W W' : World} {mb : Nat} {g : Int} {nm : ByteArray} {t b nx : Int} {m0 g0 : Value} {st sb : Int} {E : List En} {c : Nat} (h : Shs w W mb g nm t b nx m0 g0 st sb E c) (hb : Below W.heap.size W W') : Shs w W' mb g nm t b nx m0 g0 st sb E c :=
 ⟨h.box.later hb, h.stm.later hb, h.ans.later hb, h.mp.later hb, btr h.bel hb⟩
theorem Shs.put {w W W' : World} {mb : Nat} {g : Int} {nm : ByteArray} {t b nx : Int} {m0 g0 : Value} {st sb : Int} {E E' : List En} {c c' : Nat} (h : Shs w W mb g nm t b nx m0 g0 st sb E c) (hg : W.grownBy W' (some mb)) (hm : OwMp W' (w.heap.size + 1 + 1 + 1) mb E' c') : Shs w W' mb g nm t b nx m0 g0 st sb E' c' := by
 have hmb := h.mp.base
 have hw := h.bel.size
 refine ⟨h.box.grown hg (fun e => by simp only [Option.some.injEq] at e; omega), (hg.block _ h.stm.lt (fun e => by simp only [Option.some.injEq] at e; omega)).trans h.stm, h.ans.grown hg (fun e => by simp only [Option.some.injEq] at e; omega), hm, h.bel.trans (below_of_grown hg (by omega) hw)⟩
end Go.Proofs.YtmpcmllfgogegaaGreat
namespace Go.Proofs.YtmpcmllfgogegaaGreat
open Go.RowKit Go.ChangeMaps
end Go.Proofs.YtmpcmllfgogegaaGreat
namespace Go.Proofs.YtmpcmllfgogegaaGreat
open Go.RowKit Go.ChangeMaps
theorem Chg.refl (P : Nat → Prop) (W : World) : Chg P W W := ⟨rfl, rfl, rfl, Nat.le_refl _, fun _ _ _ => rfl⟩
theorem Chg.trans {P : Nat → Prop} {A B C : World} (h : Chg P A B) (k : Chg P B C) : Chg P A C :=
 ⟨k.os.trans h.os, k.tape.trans h.tape, k.output.trans h.output, Nat.le_trans h.size k.size, fun i hi' hr => (k.block i (Nat.lt_of_lt_of_le hi' h.size) hr).trans (h.block i hi' hr)⟩
theorem Chg.mono {P Q : Nat → Prop} {A B : World} (h : Chg P A B) (hq : ∀ j, P j → Q j) : Chg Q A B := ⟨h.os, h.tape, h.output, h.size, fun k hk hl => h.block k hk (fun e => hl (hq k e))⟩
theorem Chg.below {P : Nat → Prop} {lo : Nat} {A B : World} (h : Chg P A B) (hl : lo ≤ A.heap.size) (hp : ∀ j, P j → lo ≤ j) : Below lo A B := ⟨h.os, h.tape, h.output, h.size, fun k hk => h.block k (by omega) (fun e => by have := hp k e; omega)⟩
end Go.Proofs.YtmpcmllfgogegaaGreat
namespace Go.Proofs.YtmpcmllfgogegaaGreat
open Go.RowKit Go.ChangeMaps
theorem MkB.later {W W' : World} {B gn : Nat} {mv gv : Value} {L : List M4} (h : MkB W B mv gv L gn) (hb : Below W.heap.size W W') : MkB W' B mv gv L gn := by
 obtain ⟨Z, h1, h2, h3⟩ := h
 exact ⟨Z, h1, h2.later hb, own_later h3 hb⟩
theorem OwH.base {W : World} {B B' hi : Nat} {mv gv : Value} {L : List M4} {G : List Int} (h : OwH W B' hi mv gv L G) (hB : B ≤ B') : OwH W B hi mv gv L G := by
 obtain ⟨Z, h1, h2, h3, h4⟩ := h
 exact ⟨Z, h1, h2.base hB, own_base h3 hB, h4⟩
end Go.Proofs.YtmpcmllfgogegaaGreat
namespace Go.Proofs.YtmpcmllfgogegaaGreat
open Go.RowKit Go.ChangeMaps
end Go.Proofs.YtmpcmllfgogegaaGreat
namespace Go.Proofs.YtmpcmllfgogegaaGreat
open Go.RowKit Go.ChangeMaps
end Go.Proofs.YtmpcmllfgogegaaGreat
namespace Go.Proofs.YtmpcmllfgogegaaGreat
open Go.RowKit Go.ChangeMaps
theorem OwMp.drop {W : World} {B b c : Nat} {E1 : List En} {e0 : En} {E2 : List En} (h : OwMp W B b (E1 ++ e0 :: E2) c) : OwMp (setBlock W b (.map ((E1 ++ E2).map ent).toArray c)) B b (E1 ++ E2) c := by
 have hsub : (E1 ++ E2).Sublist (E1 ++ e0 :: E2) := (List.Sublist.refl E1).append (List.sublist_cons_self ..)
 refine ⟨heap_setBlock_same h.lies _, h.base, fun e he => h.old e (hsub.subset he), h.births.sublist (hsub.map _), h.keys.sublist (hsub.map _), fun e he => ?_, List.Pairwise.sublist hsub h.apart⟩
 have ho := h.each e (hsub.subset he)
 exact World.ownsRow.kept ho (setBlock_grown h.lies _) (Or.inr (h.off ho))
end Go.Proofs.YtmpcmllfgogegaaGreat
namespace Go.Proofs.YtmpcmllfgogegaaGreat
open Go.RowKit Go.ChangeMaps
end Go.Proofs.YtmpcmllfgogegaaGreat
namespace Go.Proofs.YtmpcmllfgogegaaGreat
open Go.RowKit Go.ChangeMaps
end Go.Proofs.YtmpcmllfgogegaaGreat
namespace Go.Proofs.YtmpcmllfgogegaaGreat
open Go.RowKit Go.ChangeMaps
end Go.Proofs.YtmpcmllfgogegaaGreat
namespace Go.Proofs.YtmpcmllfgogegaaGreat
open Go.RowKit Go.ChangeMaps
end Go.Proofs.YtmpcmllfgogegaaGreat
namespace Go.Proofs.YtmpcmllfgogegaaGreat
open Go.RowKit Go.ChangeMaps
end Go.Proofs.YtmpcmllfgogegaaGreat
namespace Go.Proofs.YtmpcmllfgogegaaGreat
open Go.RowKit Go.ChangeMaps
theorem Shn.later {w W W' : World} {mb : Nat} {g : Int} {nm : ByteArray} {t b nx : Int} {m0 g0 : Value} {E : List En} {c : Nat} (h : Shn w W mb g nm t b nx m0 g0 E c) (hb : Below W.heap.size W W') : Shn w W' mb g nm t b nx m0 g0 E c :=
 ⟨h.box.later hb, h.ans.later hb, h.mp.later hb, btr h.bel hb⟩
theorem Shn.put {w W W' : World} {mb : Nat} {g : Int} {nm : ByteArray} {t b nx : Int} {m0 g0 : Value} {E E' : List En} {c c' : Nat} (h : Shn w W mb g nm t b nx m0 g0 E c) (hg : W.grownBy W' (some mb)) (hm : OwMp W' (w.heap.size + 1 + 1) mb E' c') : Shn w W' mb g nm t b nx m0 g0 E' c' := by
 have hmb := h.mp.base
 have hw := h.bel.size
 refine ⟨h.box.grown hg (fun e => by simp only [Option.some.injEq] at e; omega), h.ans.grown hg (fun e => by simp only [Option.some.injEq] at e; omega), hm, h.bel.trans (below_of_grown hg (by omega) hw)⟩
end Go.Proofs.YtmpcmllfgogegaaGreat
namespace Go.Proofs.YtmpcmllfgogegaaGreat
open Go.RowKit Go.ChangeMaps
end Go.Proofs.YtmpcmllfgogegaaGreat
namespace Go.Proofs.YtmpcmllfgogegaaGreat
open Go.RowKit Go.ChangeMaps
end Go.Proofs.YtmpcmllfgogegaaGreat
namespace Go.Proofs.YtmpcmllfgogegaaGreat
open Go.RowKit
end Go.Proofs.YtmpcmllfgogegaaGreat
namespace Go.Proofs.YtmpcmllfgogegaaGreat
open Go.RowKit Go.ChangeMaps
section
variable {k : Nat} {g : Int} {nm : ByteArray} {t b nx : Int} {L : List M4} {G : List Int}
theorem Dbx.mono {k' : Nat} (h : Dbx k g nm t b nx L G) (hk : k ≤ k') : Dbx k' g nm t b nx L G :=
 ⟨h.right, by have := h.next; omega, Nat.le_trans h.gone hk, h.each, h.out⟩
theorem gd_fnew {fl st sb : Int} (hs : 0 ≤ st ∧ st < 12 ∧ 1 ≤ sb ∧ sb ≤ 2) : ∀ p ∈ fnew fl st sb, gd p := by
 intro p hp
 simp only [fnew, List.mem_cons, List.not_mem_nil, or_false] at hp
 have h0 := bit_le fl 0
 have h1 := bit_le fl 1
 have h2 := bit_le fl 2
 rcases hp with rfl | rfl | rfl
 ·exact ⟨⟨h0.1, by omega⟩, hs⟩
 ·exact ⟨⟨h1.1, by omega⟩, hs⟩
 ·exact ⟨⟨h2.1, by omega⟩, hs⟩
theorem Dbx.add {gid fl : Int} {tx : ByteArray} {st sb : Int} (h : Dbx k g nm t b nx L G) (hg : 10 ≤ gid ∧ gid ≤ 18) (hs : 0 ≤ st ∧ st < 12 ∧ 1 ≤ sb ∧ sb ≤ 2) :
  Dbx (k + 1) g nm t b (amN (amOk g nm t b nx L G gid fl tx st sb) nx) (amL (amOk g nm t b nx L G gid fl tx st sb) L (nwm gid nx fl tx st sb)) G := by
 refine ⟨am_right h.right, ?_, Nat.le_succ_of_le h.gone, fun m hm => ?_, h.out⟩
 ·have := h.next
  unfold amN
  split <;> omega
 ·unfold amL at hm
  split at hm
  ·rcases List.mem_append.1 hm with hm | hm
   ·exact h.each m hm
   ·simp only [List.mem_cons, List.not_mem_nil, or_false] at hm
    subst hm
    exact ⟨hg, gd_fnew hs⟩
  ·exact h.each m hm
theorem Dbx.take {gid : Int} (h : Dbx k g nm t b nx L G) (hg : 10 ≤ gid ∧ gid ≤ 18) :
  Dbx (k + 1) g nm t b nx (tkL (tkOk g nm t b nx L G gid) L gid) (tkG (tkOk g nm t b nx L G gid) G gid) := by
 refine ⟨tk_right h.right, by have := h.next; omega, ?_, fun m hm => h.each m ((tk_sub _ L gid).subset hm), fun x hx => ?_⟩
 ·unfold tkG
  split
  ·next hk =>
   simp only [tkOk, Bool.and_eq_true, decide_eq_true_eq] at hk
   obtain ⟨h1, h2, h3, h4, h5, h6, h7, h8, h9⟩ := bx_iff.1 h.right
   obtain ⟨A, m, C, hL, hm, hA, hC⟩ := any_split h9 hk.2.1
   have hmm := h7 m (by rw [hL]; simp)
   have hgk : gok gid = true := by
    have := hmm.1
    simp only [mlOk, Bool.and_eq_true] at this
    rw [← hm]
    exact this.1
   have hni : ∀ y ∈ G, y ≠ gid := by rw [← hm]; exact inl_not hmm.2.2
   rw [(pin_gn h6 hgk hni hk.2.2).2]
   have := h.gone
   omega
  ·exact Nat.le_succ_of_le h.gone
 ·unfold tkG at hx
  split at hx
  ·unfold pin at hx
   rcases List.mem_append.1 hx with hx | hx
   ·exact h.out x (List.mem_filter.1 hx).1
   ·rcases List.mem_cons.1 hx with rfl | hx
    ·exact hg
    ·exact h.out x (List.mem_filter.1 hx).1
  ·exact h.out x hx
end
end Go.Proofs.YtmpcmllfgogegaaGreat
namespace Go.Proofs.YtmpcmllfgogegaaGreat
open Go.RowKit Go.ChangeMaps
section
variable {k : Nat} {g : Int} {nm : ByteArray} {t b nx : Int} {L : List M4} {G : List Int}
end
end Go.Proofs.YtmpcmllfgogegaaGreat
namespace Go.Proofs.YtmpcmllfgogegaaGreat
open Go.RowKit Go.ChangeMaps
section
variable {w W W' : World} {cb : Nat} {ao : Option Addr} {n cap kS : Nat} {t b : Int}
theorem Pb.drew (h : Pb w W cb ao n cap kS t b) : Pb w W.drew cb ao n cap kS t b := ⟨h.res, h.sg, h.cur, gdr h.gr, h.lo, h.hi⟩
theorem Pb.alloc (h : Pb w W cb ao n cap kS t b) (o : Obj) : Pb w (W.alloc o) cb ao n cap kS t b :=
 ⟨h.res.later (bpush (bre _) _), h.sg.later (bpush (bre _) _), h.cur.alloc _, gal h.gr _, h.lo, h.hi⟩
theorem Pb.size (h : Pb w W cb ao n cap kS t b) : w.heap.size < W.heap.size := h.res.lt
end
theorem Bx.far {W W' : World} {k ty cb : Nat} {g : Int} {nm : ByteArray} {t b nx : Int} {ms gs : Value} (h : Bx W k ty g nm t b nx ms gs) (hg : W.grownBy W' (some cb)) (hk : k ≠ cb) : Bx W' k ty g nm t b nx ms gs := h.grown hg (fun e => by simp only [Option.some.injEq] at e; omega)
section
variable {w W W' : World} {cb : Nat} {ao : Option Addr} {n cap kb k : Nat} {nm : ByteArray} {t b nx : Int} {ma : Option Addr} {mn mc : Nat} {ga : Option Addr} {gn gc : Nat} {L : List M4} {G : List Int}
theorem Lb.drew (h : Lb w W cb ao n cap kb k nm t b nx ma mn mc ga gn gc L G) : Lb w W.drew cb ao n cap kb k nm t b nx ma mn mc ga gn gc L G :=
 ⟨h.res, h.box, h.own.later (bdr (bre _)), h.dbx, h.cur, gdr h.gr, h.lo, h.hi⟩
theorem Lb.later (h : Lb w W cb ao n cap kb k nm t b nx ma mn mc ga gn gc L G) (hb : Below W.heap.size W W') : Lb w W' cb ao n cap kb k nm t b nx ma mn mc ga gn gc L G :=
 ⟨h.res.later hb, h.box.later hb, h.own.later hb, h.dbx, h.cur.later hb h.cur.lt, only_add h.gr (hb.mono h.gr.size), h.lo, h.hi⟩
theorem Lb.reads (h : Lb w W cb ao n cap kb k nm t b nx ma mn mc ga gn gc L G) : mn = L.length ∧ gn = G.length ∧ Ms (kb + 1) W.heap.size W ma L ∧ Is (kb + 1) W.heap.size W ga G := h.own.reads
theorem Lb.put {k' : Nat} {nx' : Int} {a : Option Addr} {N c : Nat} {a' : Option Addr} {M c' : Nat} {K : List M4} {H : List Int} {wv : World} (h : Lb w W cb ao n cap kb k nm t b nx ma mn mc ga gn gc L G) (hb : Below W.heap.size W wv) (ho : OwB wv W.heap.size (.slice a N c) (.slice a' M c') K H) (hd : Dbx k' 7 nm t b nx' K H) :
  Lb w (((((((wv.setCell ⟨kb, 0, none⟩ (.int .i64 7)).setCell ⟨kb, 1, none⟩ (.string nm)).setCell ⟨kb, 2, none⟩ (.int .i64 t)).setCell ⟨kb, 3, none⟩ (.int .i64 b)).setCell ⟨kb, 4, none⟩ (.int .i64 nx')).setCell ⟨kb, 5, none⟩ (.slice a N c)).setCell ⟨kb, 6, none⟩ (.slice a' M c')) cb ao n cap kb k' nm t b nx' a N c a' M c' K H := by
 have h1 := h.lo
 have h2 := h.hi
 have h3 := h.box.lt
 have hl := h.later hb
 have hg := set7_grown wv kb 7 nm t b nx' (.slice a N c) (.slice a' M c')
 have hx := hl.box.set7 7 nm t b nx' (.slice a N c) (.slice a' M c')
 unfold set7 at hg hx
 refine ⟨hl.res.far hg (by omega), hx, ?_, hd, ?_, ?_, h1, h2⟩
 ·exact (ho.base (B := kb + 1) (by omega)).grown hg (by omega)
 ·exact ((((((hl.cur.set (by omega)).set (by omega)).set (by omega)).set (by omega)).set (by omega)).set (by omega)).set (by omega)
 ·exact gset (gset (gset (gset (gset (gset (gset hl.gr (by omega) _ _) (by omega) _ _) (by omega) _ _) (by omega) _ _) (by omega) _ _) (by omega) _ _) (by omega) _ _
end
theorem Lb.first {w W : World} {cb : Nat} {ao : Option Addr} {n cap kS k : Nat} {nm : ByteArray} {t b nx : Int} (h : Pb w W cb ao n cap kS t b) (hx : Bx W k 29 0 ⟨#[]⟩ 0 0 0 (.slice none 0 0) (.slice none 0 0)) (hk : w.heap.size < k) (hs : kS ≠ k) (hd : Dbx 0 7 nm t b nx [] []) :
  Lb w (((((((W.setCell ⟨k, 0, none⟩ (.int .i64 7)).setCell ⟨k, 1, none⟩ (.string nm)).setCell ⟨k, 2, none⟩ (.int .i64 t)).setCell ⟨k, 3, none⟩ (.int .i64 b)).setCell ⟨k, 4, none⟩ (.int .i64 nx)).setCell ⟨k, 5, none⟩ (.slice none 0 0)).setCell ⟨k, 6, none⟩ (.slice none 0 0)) cb ao n cap k 0 nm t b nx none 0 0 none 0 0 [] [] ∧
  Sg (((((((W.setCell ⟨k, 0, none⟩ (.int .i64 7)).setCell ⟨k, 1, none⟩ (.string nm)).setCell ⟨k, 2, none⟩ (.int .i64 t)).setCell ⟨k, 3, none⟩ (.int .i64 b)).setCell ⟨k, 4, none⟩ (.int .i64 nx)).setCell ⟨k, 5, none⟩ (.slice none 0 0)).setCell ⟨k, 6, none⟩ (.slice none 0 0)) kS 25 t b := by
 have h2 := h.hi
 have hg := set7_grown W k 7 nm t b nx (.slice none 0 0) (.slice none 0 0)
 have hy := hx.set7 7 nm t b nx (.slice none 0 0) (.slice none 0 0)
 unfold set7 at hg hy
 refine ⟨⟨h.res.far hg (by omega), hy, OwB.nil _ _, hd, ?_, ?_, hk, h2⟩, h.sg.kept hg hs⟩
 ·exact ((((((h.cur.set (by omega)).set (by omega)).set (by omega)).set (by omega)).set (by omega)).set (by omega)).set (by omega)
 ·exact gset (gset (gset (gset (gset (gset (gset h.gr (by omega) _ _) (by omega) _ _) (by omega) _ _) (by omega) _ _) (by omega) _ _) (by omega) _ _) (by omega) _ _
end Go.Proofs.YtmpcmllfgogegaaGreat
namespace Go.Proofs.YtmpcmllfgogegaaGreat
open Go.RowKit
end Go.Proofs.YtmpcmllfgogegaaGreat
namespace Go.Proofs.YtmpcmllfgogegaaGreat
open Go.RowKit
section
variable {α : Type} {key : α → Int} {tie : α → α → Prop}
theorem Cr8.past {Z : List α} {a m b c : Nat} (h : Cr8 key tie Z a m b) (hb : Z.length ≤ b) : Cr8 key tie Z a m c := by
 intro i j i1 i2 i3 _ x y hx hy
 have hj : j < Z.length := by
  rcases Nat.lt_or_ge j Z.length with h' | h'
  ·exact h'
  ·rw [List.getElem?_eq_none h'] at hy; simp at hy
 exact h i j i1 i2 i3 (by omega) x y hx hy
end
end Go.Proofs.YtmpcmllfgogegaaGreat
namespace Go.Proofs.YtmpcmllfgogegaaGreat
open Go.RowKit Go.ChangeMaps
theorem Ri.len {W : World} {B g n cap : Nat} {Z : List Int} (h : Ri W B g n cap Z) : Z.length = n := by have := h.1; rw [List.length_map] at this; omega
theorem Ri.set {W : World} {B g n cap : Nat} {Z : List Int} (h : Ri W B g n cap Z) (i : Nat) (x : Int) : Ri (W.setCell ⟨g, i, none⟩ (.int .i64 x)) B g n cap (Z.set i x) := by
 have h1 := (World.ownsRow.stored h i (.int .i64 x)).1
 rw [← List.map_set] at h1
 exact h1
theorem Ri.spot {W : World} {B g n cap : Nat} {Z : List Int} (h : Ri W B g n cap Z) (i : Nat) (hi : i < Z.length) : W.cell? ⟨g, i, none⟩ = some (.int .i64 Z[i]) ∧ W.frozen? ⟨g, i, none⟩ = false := by
 have hl := h.len
 refine ⟨(h.cellAt i (by omega)).trans ?_, h.frozenAt i⟩
 rw [List.getElem?_map, List.getElem?_eq_getElem hi]
 rfl
end Go.Proofs.YtmpcmllfgogegaaGreat
namespace Go.Proofs.YtmpcmllfgogegaaGreat
open Go.RowKit Go.ChangeMaps
theorem OwGm.made (W : World) : OwGm (W.alloc (.map #[] 0)) W.heap.size W.heap.size [] 0 :=
 ⟨heap_alloc_new W _, Nat.le_refl _, by simp, by simp, by simp⟩
end Go.Proofs.YtmpcmllfgogegaaGreat
namespace Go.Proofs.YtmpcmllfgogegaaGreat
open Go.RowKit Go.ChangeMaps
theorem Mp.made (W : World) : Mp (W.alloc (.map #[] 0)) W.heap.size W.heap.size [] 0 :=
 ⟨heap_alloc_new W _, Nat.le_refl _, by simp, by simp, by simp⟩
end Go.Proofs.YtmpcmllfgogegaaGreat
namespace Go.Proofs.YtmpcmllfgogegaaGreat
open Go.RowKit Go.Shelf Go.ChangeMaps
theorem jms_next (K mx : Int) (hK : K ≤ 2097152) (hmx0 : mx = 9223372036854775807) (A B : List M4) (GA GB : List Int) (na nb : Int) : ∀ (gs : List Int) (s : List M4 × Int), -mx - 1 ≤ s.2 → s.2 ≤ mx → (gs.length : Int) ≤ K →
  (s.2 ≤ (gs.foldl (jst A B GA GB na nb) s).2 ∧ (gs.foldl (jst A B GA GB na nb) s).2 ≤ mx) ∨ ((gs.foldl (jst A B GA GB na nb) s).2 < 0 ∧ mx < s.2 + gs.length)
 | [], s, h1, h2, _ => Or.inl ⟨Int.le_refl _, h2⟩
 | g :: gs, s, h1, h2, h3 => by
  rw [List.foldl_cons]
  rw [List.length_cons] at h3
  have key : jst A B GA GB na nb s g = s ∨ ((jst A B GA GB na nb s g).2 = s.2 ∨ (jst A B GA GB na nb s g).2 = w64 (s.2 + 1)) := by
   unfold jst
   split
   ·exact Or.inl rfl
   ·split
    ·exact Or.inr (Or.inl rfl)
    ·exact Or.inr (Or.inr rfl)
  have hs : (jst A B GA GB na nb s g).2 = s.2 ∨ (jst A B GA GB na nb s g).2 = w64 (s.2 + 1) := by
   rcases key with e | e
   ·left; rw [e]
   ·exact e
  rcases hs with e | e
  ·have r := jms_next K mx hK hmx0 A B GA GB na nb gs (jst A B GA GB na nb s g) (by rw [e]; exact h1) (by rw [e]; exact h2) (by omega)
   rw [e] at r
   rcases r with r | r
   ·exact Or.inl r
   ·exact Or.inr ⟨r.1, by rw [List.length_cons]; omega⟩
  ·by_cases ho : s.2 + 1 ≤ mx
   ·have e1 : w64 (s.2 + 1) = s.2 + 1 := w64_id (by omega) (by omega)
    rw [e1] at e
    have r := jms_next K mx hK hmx0 A B GA GB na nb gs (jst A B GA GB na nb s g) (by rw [e]; omega) (by rw [e]; exact ho) (by omega)
    rw [e] at r
    rcases r with r | r
    ·exact Or.inl ⟨by omega, r.2⟩
    ·exact Or.inr ⟨r.1, by rw [List.length_cons]; omega⟩
   ·have hmx : s.2 = 9223372036854775807 := by omega
    have e1 : w64 (s.2 + 1) = -9223372036854775808 := by rw [hmx]; show wrap64 _ = _; unfold wrap64; omega
    rw [e1] at e
    have r := (jms_up A B GA GB na nb gs (jst A B GA GB na nb s g) (-9223372036854775808) (by rw [e]; exact Int.le_refl _) (by rw [e]; omega)).1
    rw [e] at r
    exact Or.inr ⟨by omega, by rw [List.length_cons]; omega⟩
theorem fits_same (g : Int) (nm : ByteArray) (t b nx : Int) (L : List M4) (G : List Int) (g' : Int) (nm' : ByteArray) (t' b' nx' : Int) (L' : List M4) (G' : List Int) (h1 : -9223372036854775808 ≤ nx ∧ nx ≤ 9223372036854775807) (h2 : -9223372036854775808 ≤ nx' ∧ nx' ≤ 9223372036854775807) (hl : L.length + L'.length ≤ 1048576) :
  bxOk g (jbN g nm t b g' nm' t' b') (jbT g nm t b g' nm' t' b') (jbB g nm t b g' nm' t' b') (jbY g nx L G g' nx' L' G') (jbL g nx L G g' nx' L' G') (jbG g G g' G') = bxOk g (jbN g nm t b g' nm' t' b') (jbT g nm t b g' nm' t' b') (jbB g nm t b g' nm' t' b') (jbX g nx L G g' nx' L' G') (jbL g nx L G g' nx' L' G') (jbG g G g' G') := by
 by_cases e : g = g'
 ·have eY : jbY g nx L G g' nx' L' G' = nxt8 L L' G G' nx nx' := by unfold jbY; rw [if_pos e]
  have eX : jbX g nx L G g' nx' L' G' = (jms L L' G G' nx nx' (asl (L.map (·.1) ++ L'.map (·.1)))).2 := by unfold jbX; rw [if_pos e]
  rw [eY, eX]
  have hlen := asl_len (L.map (·.1) ++ L'.map (·.1))
  rw [List.length_append, List.length_map, List.length_map] at hlen
  have hm : mx8 nx nx' = max nx nx' := by unfold mx8; rw [Int.max_def]; split <;> split <;> omega
  have hb : -9223372036854775808 ≤ mx8 nx nx' ∧ mx8 nx nx' ≤ 9223372036854775807 := by unfold mx8; split <;> omega
  have hge : nx ≤ mx8 nx nx' ∧ nx' ≤ mx8 nx nx' := by unfold mx8; split <;> omega
  have r := jms_next 2097152 9223372036854775807 (Int.le_refl _) rfl L L' G G' nx nx' (asl (L.map (·.1) ++ L'.map (·.1))) ([], mx8 nx nx') (by have := hb.1; show _ ≤ mx8 nx nx'; omega) hb.2 (by omega)
  have ej : (jms L L' G G' nx nx' (asl (L.map (·.1) ++ L'.map (·.1)))).2 = ((asl (L.map (·.1) ++ L'.map (·.1))).foldl (jst L L' G G' nx nx') ([], mx8 nx nx')).2 := rfl
  rw [← ej] at r
  rcases r with r | r
  ·have r1 : mx8 nx nx' ≤ (jms L L' G G' nx nx' (asl (L.map (·.1) ++ L'.map (·.1)))).2 := r.1
   have : nxt8 L L' G G' nx nx' = (jms L L' G G' nx nx' (asl (L.map (·.1) ++ L'.map (·.1)))).2 := by
    unfold nxt8
    rw [Int.max_def, Int.max_def]
    split <;> split <;> omega
   rw [this]
  ·have r1 : 9223372036854775807 < mx8 nx nx' + ((asl (L.map (·.1) ++ L'.map (·.1))).length : Int) := r.2
   have hbig : ¬ nxt8 L L' G G' nx nx' ≤ 10000 := by
    unfold nxt8
    rw [Int.max_def, Int.max_def]
    have hmx : mx8 nx nx' = nx ∨ mx8 nx nx' = nx' := by unfold mx8; split <;> simp
    split <;> split <;> omega
   have hneg : ¬ 1 ≤ (jms L L' G G' nx nx' (asl (L.map (·.1) ++ L'.map (·.1)))).2 := by omega
   unfold bxOk
   simp [hbig, hneg]
 ·have eY : jbY g nx L G g' nx' L' G' = nx := by unfold jbY; rw [if_neg e]
  have eX : jbX g nx L G g' nx' L' G' = nx := by unfold jbX; rw [if_neg e]
  rw [eY, eX]
end Go.Proofs.YtmpcmllfgogegaaGreat
