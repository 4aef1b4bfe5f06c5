/- Djh. -/

import Derived.Test.YtmpcmllfgogegaaGreatmDjg
namespace Go.Proofs.YtmpcmllfgogegaaGreat
open Go.RowKit Go.ChangeMaps
set_option maxHeartbeats 4000000 in
set_option maxRecDepth 100000 in
theorem drawJoinGone_any (ao : Option Addr) (n cap : Nat) (w : World) (hn : n ≤ 1048576) (hcode : Code w w.heap.size ao n) :
  Calls Tryz.prog 23 #[.slice ao n cap] w fun e w' => ∃ va ca vb cb' GA GB, e = .returned (.tuple #[.slice va GA.length ca, .slice vb GB.length cb']) ∧ OwI w' w.heap.size (.slice va GA.length ca) GA ∧ OwI w' w.heap.size (.slice vb GB.length cb') GB ∧ GA.length ≤ 6 ∧ GB.length ≤ 6 ∧ Below w.heap.size w w' := by
 have HCD := hid hcode
 clear hcode
 go_enter Tryz.func23, Tryz.ntmps23
 go_wp2_with fail
 refine (new_any ao n cap w hn HCD.out).mono ?_; rintro e w1 ⟨rfl, hc1, hd1, hb1⟩
 have hlt := hc1.lt
 have D0 : Hid (Dj2 w ((w1.alloc (.cells #[] 3)).alloc (.cells #[] 3)) w.heap.size ao n cap (.slice (some ⟨w1.heap.size, 0, none⟩) 0 0) (.slice (some ⟨w1.heap.size + 1, 0, none⟩) 0 0) [] []) := by
  have o1 := ownI_empty w1 (w.heap.size + 1) hlt
  have o2 := ownI_empty (w1.alloc (.cells #[] 3)) (w.heap.size + 1) (by simp; omega)
  rw [show (w1.alloc (.cells #[] 3)).heap.size = w1.heap.size + 1 by simp] at o2
  refine ⟨(hc1.alloc _).alloc _, (hd1.later (World.grownBy_alloc _ _ _)).later (World.grownBy_alloc _ _ _), o1.alloc _, o2, fun j h1 h2 => ?_, bpush (bpush hb1 _) _, Nat.le_refl _⟩
  simp [Value.ownBlock] at h1 h2
  omega
 clear hc1 hd1 hb1 hlt
 go_wp2
 go_loopw [5, 6, 7] (fun av bv iv wr => ∃ (i : Nat) (GA GB : List Int), i ≤ 6 ∧ iv = .int .i64 (i : Int) ∧ Dj2 w wr w.heap.size ao n cap av bv GA GB ∧ GA.length ≤ i ∧ GB.length ≤ i) (fun _ _ iv _ => 6 - (intOf iv).toNat)
 case atStart => exact ⟨0, [], [], Nat.zero_le _, rfl, D0.out, Nat.le_refl _, Nat.le_refl _⟩
 case round =>
  obtain ⟨i, GA, GB, hi, rfl, hd, hla, hlb⟩ := hrel
  have D1 := hid hd
  have HLA := hid hla
  have HLB := hid hlb
  clear hd hla hlb
  go_wp2_with fail
  refine (below4 w.heap.size ao n cap _ hn D1.out.cur D1.out.code 6 (by decide) (by decide)).mono ?_; rintro e w2 ⟨x, hx, rfl, hc2, hg2⟩
  have D2 := hid (D1.out.draw hc2 hg2)
  clear hc2 hg2 D1
  by_cases hlt : i < x
  ·have hlt' : (i : Int) < (x : Int) := by omega
   go_wp2_with (first
     | (go_at_call 56; refine (below4 w.heap.size ao n cap _ hn D2.out.cur D2.out.code 9 (by decide) (by decide)).mono ?_; rintro e w3 ⟨y, hy, rfl, hc3, hg3⟩; have D3 := hid (D2.out.draw hc3 hg3); clear hc3 hg3)
     | (at_builtin; refine wpList_append_int2 w3 rfl (.tmp 18) (.tmp 21) rfl (w.heap.size + 1) _ _ (by rfl) D3.out.a (y : Int) rfl (by have := HLA.out; omega) D3.out.cur.lt ?_; intro v4 w4 ho4 hg4 hl4; have D4 := hid (D3.out.app ho4 hg4 hl4); clear ho4 hg4 hl4))
   go_wp2_with (first
     | (go_at_call 56; refine (below4 w.heap.size ao n cap _ hn D4.out.cur D4.out.code 9 (by decide) (by decide)).mono ?_; rintro e w5 ⟨z, hz, rfl, hc5, hg5⟩; have D5 := hid (D4.out.draw hc5 hg5); clear hc5 hg5)
     | (at_builtin; refine wpList_append_int2 w5 rfl (.tmp 23) (.tmp 26) rfl (w.heap.size + 1) _ _ (by rfl) D5.out.b (z : Int) rfl (by have := HLB.out; omega) D5.out.cur.lt ?_; intro v6 w6 ho6 hg6 hl6; have D6 := hid (D5.out.swap.app ho6 hg6 hl6).swap; clear ho6 hg6 hl6))
   have HXY : Hid (x ≤ 5) := by show _ ≤ _; omega
   go_roundw
   case rel => exact ⟨i + 1, GA ++ [(y : Int)], GB ++ [(z : Int)], by have := HXY.out; omega, by go_num, D6.out, by rw [List.length_append]; have := HLA.out; simp; omega, by rw [List.length_append]; have := HLB.out; simp; omega⟩
   case measure => simp [intOf]; have := HXY.out; omega
  ·have hlt' : ¬ (i : Int) < (x : Int) := by omega
   obtain ⟨va, ca, rfl, _⟩ := OwI.shape D2.out.a
   obtain ⟨vb, cb', rfl, _⟩ := OwI.shape D2.out.b
   go_wp2
   go_ret2
   exact ⟨va, ca, vb, cb', GA, GB, rfl, own_base D2.out.a (Nat.le_succ _), own_base D2.out.b (Nat.le_succ _), Nat.le_trans HLA.out hi, Nat.le_trans HLB.out hi, D2.out.bel⟩
end Go.Proofs.YtmpcmllfgogegaaGreat
