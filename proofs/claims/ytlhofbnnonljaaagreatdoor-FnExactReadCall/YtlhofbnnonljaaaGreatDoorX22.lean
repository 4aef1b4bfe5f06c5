/- Wg, Ca, Cb, Cc. -/
import Derived.Test.YtlhofbnnonljaaaGreatDoorX21
namespace Go.Proofs.YtlhofbnnonljaaaGreatDoor
open Go.RowKit Go.ChangeMaps
theorem Nib.on {w w' : World} (h : Nib w) (hb : Below w.heap.size w w') : Nib w' := h.later hb (World.block_lt_of_cell? _ _ (h 0 (by omega)))
theorem implUnsealed_any (s : ByteArray) (w : World) (hm : s.size ≤ 1048576) (hn : Nib w) :
    Calls Tryz.prog 98 #[.string s] w fun e w' => e = .returned (.tuple #[.string (uns s).1, .bool (uns s).2]) ∧ Below w.heap.size w w' := by
  by_cases h : 4 ≤ s.size ∧ s.size ≤ 20004
  · by_cases h2 : tail4 (s.extract 0 (s.size - 4)) = s.extract (s.size - 4) s.size
    · have e : uns s = (s.extract 0 (s.size - 4), true) := by unfold uns; rw [if_pos ⟨h.1, h.2, h2⟩]
      rw [e]
      exact implUnsealed_yes s (s.size - 4) w (by omega) (by omega) hn h2
    · have e : uns s = (⟨#[]⟩, false) := by unfold uns; rw [if_neg (fun x => h2 x.2.2)]
      rw [e]
      exact implUnsealed_no s (s.size - 4) w (by omega) (by omega) hn h2
  · have e : uns s = (⟨#[]⟩, false) := by unfold uns; rw [if_neg (fun x => h ⟨x.1, x.2.1⟩)]
    rw [e]
    exact (implUnsealed_size s w hm (by omega)).mono fun _ _ h => ⟨h.1, h.2 ▸ bre _⟩
theorem irs_no {s : ByteArray} (h : (uns s).2 = false) : irs s = none := by unfold irs; rw [h]; rfl
theorem irs_none {s u : ByteArray} (h : uns s = (u, true)) (hi : ist u 0 = none) : irs s = none := by unfold irs; rw [h]; simp only [if_true]; rw [hi]; rfl
theorem irs_some {s u : ByteArray} {y tm : Int} {S : List X7} {G : List Int} {c : Int} (h : uns s = (u, true)) (hi : ist u 0 = some ((y, tm, S, G), c)) : irs s = if c = (u.size : Int) then some (y, tm, S, G) else none := by unfold irs; rw [h]; simp only [if_true]; rw [hi]; rfl
/-- What was read to the end. -/
def wh {α : Type} (o : Option (α × Int)) (n : Nat) : Option α := match o with
  | none => none
  | some p => if p.2 = (n : Int) then some p.1 else none
theorem wh_none {α : Type} {o : Option (α × Int)} (n : Nat) (h : o = none) : wh o n = none := by rw [h]; rfl
theorem wh_yes {α : Type} {o : Option (α × Int)} {n : Nat} {x : α} {c : Int} (h : o = some (x, c)) (hc : c = (n : Int)) : wh o n = some x := by rw [h]; exact if_pos hc
theorem wh_no {α : Type} {o : Option (α × Int)} {n : Nat} {x : α} {c : Int} (h : o = some (x, c)) (hc : ¬ c = (n : Int)) : wh o n = none := by rw [h]; exact if_neg hc
def RallStore (s : ByteArray) (w : World) (e : Ending) (w' : World) : Prop :=
  (∃ y tm S G ba bc ga gc, wh (ist s 0) s.size = some (y, tm, S, G) ∧ e = .returned (.tuple #[.agg #[.int .i64 y, .int .i64 tm, .slice ba S.length bc, .slice ga G.length gc], .bool true]) ∧ OwT w' w.heap.size (.slice ba S.length bc) (.slice ga G.length gc) S G ∧ Below w.heap.size w w') ∨
  (wh (ist s 0) s.size = none ∧ e = .returned (.tuple #[.agg #[.int .i64 0, .int .i64 0, .slice none 0 0, .slice none 0 0], .bool false]) ∧ Below w.heap.size w w')
set_option maxHeartbeats 4000000 in
set_option maxRecDepth 100000 in
theorem readAllStore_any (s : ByteArray) (w : World) (hs : s.size ≤ 1048576) :
    Calls Tryz.prog 99 #[.string s, .func (.func 100) #[] #[]] w fun e w' => RallStore s w e w' := by
  have HSZ := hid hs
  have Z0 := hid (Sx.new w 57 0 0 (.slice none 0 0) (.slice none 0 0))
  have LZ : Hid (w.heap.size < (w.alloc (.cells #[.int .i64 0, .int .i64 0, .slice none 0 0, .slice none 0 0] 57)).heap.size) := Z0.out.lt
  have B0 := hid (bpush (bre w) (.cells #[.int .i64 0, .int .i64 0, .slice none 0 0, .slice none 0 0] 57))
  clear hs
  go_enter Tryz.func99, Tryz.ntmps99
  go_wp2_with fail
  refine (readAtStore_any s 0 _ HSZ.out).mono ?_; rintro e w2 (⟨y, tm, S, G, c, ba, bc, ga, gc, hr, rfl, ho, hb2⟩ | ⟨hr, rfl, hb2⟩)
  · have H := hid hr
    have hb3 := bpush hb2 (.cells #[.int .i64 y, .int .i64 tm, .slice ba S.length bc, .slice ga G.length gc] 57)
    have N3 := hid (Sx.new w2 57 y tm (.slice ba S.length bc) (.slice ga G.length gc))
    have Z3 := hid (Z0.out.later hb3)
    have B3 := hid (btr B0.out hb3)
    have O3 := hid (ho.later (bpush (bre w2) (.cells #[.int .i64 y, .int .i64 tm, .slice ba S.length bc, .slice ga G.length gc] 57)))
    have LW := LZ.out
    obtain ⟨bn, hbn⟩ : ∃ n, S.length = n := ⟨_, rfl⟩
    obtain ⟨gn, hgn⟩ : ∃ n, G.length = n := ⟨_, rfl⟩
    rw [hbn, hgn] at N3 Z3 B3 O3
    rw [hbn, hgn]
    have HL : Hid (S.length = bn ∧ G.length = gn) := hid ⟨hbn, hgn⟩
    have d5 := Z3.out.cells
    have f5 := Z3.out.loose
    have dn := N3.out.cells
    clear hr ho hb2 hb3 Z0 B0 hbn hgn LW
    by_cases hc : c = (s.size : Int)
    · have HC := hid (wh_yes (H.out) hc)
      go_wp2
      have hX := Sx.put4 Z3.out y tm (.slice ba bn bc) (.slice ga gn gc)
      unfold put4 at hX
      have d := hX.cells
      have hg7 := (wst (wst (wst (wst (wre (w2.alloc (.cells #[.int .i64 y, .int .i64 tm, .slice ba bn bc, .slice ga gn gc] 57)) (some w.heap.size)) 0 (.int .i64 y)) 1 (.int .i64 tm)) 2 (.slice ba bn bc)) 3 (.slice ga gn gc))
      have l1 := LZ.out
      refine bodyPost_ret (v := .tuple #[.agg #[.int .i64 y, .int .i64 tm, .slice ba bn bc, .slice ga gn gc], .bool true]) (by simp [results, Tryz.results99, go_sem, d]) rfl (Or.inl ⟨y, tm, S, G, ba, bc, ga, gc, HC.out, by rw [HL.out.1, HL.out.2], ?_, ?_⟩)
      · rw [HL.out.1, HL.out.2]; exact (O3.out.grown hg7 (by omega)).base (by omega)
      · exact B3.out.trans (below_grownR hg7 (by intro j hj; simp at hj; omega) B3.out.size)
    · have HC := hid (wh_no (H.out) hc)
      have d6 := (Z3.out.later (bpush (bre (w2.alloc (.cells #[.int .i64 y, .int .i64 tm, .slice ba bn bc, .slice ga gn gc] 57))) (.cells #[.int .i64 0, .int .i64 0, .slice none 0 0, .slice none 0 0] 57))).cells
      have f6 := (Z3.out.later (bpush (bre (w2.alloc (.cells #[.int .i64 y, .int .i64 tm, .slice ba bn bc, .slice ga gn gc] 57))) (.cells #[.int .i64 0, .int .i64 0, .slice none 0 0, .slice none 0 0] 57))).loose
      clear d5 f5
      go_wp2
      have hX := Sx.put4 (Z3.out.later (bpush (bre (w2.alloc (.cells #[.int .i64 y, .int .i64 tm, .slice ba bn bc, .slice ga gn gc] 57))) (.cells #[.int .i64 0, .int .i64 0, .slice none 0 0, .slice none 0 0] 57))) 0 0 (.slice none 0 0) (.slice none 0 0)
      unfold put4 at hX
      have d := hX.cells
      have hg7 := (wst (wst (wst (wst (wre ((w2.alloc (.cells #[.int .i64 y, .int .i64 tm, .slice ba bn bc, .slice ga gn gc] 57)).alloc (.cells #[.int .i64 0, .int .i64 0, .slice none 0 0, .slice none 0 0] 57)) (some w.heap.size)) 0 (.int .i64 0)) 1 (.int .i64 0)) 2 (.slice none 0 0)) 3 (.slice none 0 0))
      have B4 := btr B3.out (bpush (bre (w2.alloc (.cells #[.int .i64 y, .int .i64 tm, .slice ba bn bc, .slice ga gn gc] 57))) (.cells #[.int .i64 0, .int .i64 0, .slice none 0 0, .slice none 0 0] 57))
      refine bodyPost_ret (v := .tuple #[.agg #[.int .i64 0, .int .i64 0, .slice none 0 0, .slice none 0 0], .bool false]) (by simp [results, Tryz.results99, go_sem, d]) rfl (Or.inr ⟨HC.out, rfl, ?_⟩)
      exact B4.trans (below_grownR hg7 (by intro j hj; simp at hj; omega) B4.size)
  · have HC := hid (wh_none s.size hr)
    have hb3 := bpush hb2 (.cells #[.int .i64 0, .int .i64 0, .slice none 0 0, .slice none 0 0] 57)
    have Z3 := hid (Z0.out.later hb3)
    have B3 := hid (btr B0.out hb3)
    have d6 := (Z3.out.later (bpush (bre (w2.alloc (.cells #[.int .i64 0, .int .i64 0, .slice none 0 0, .slice none 0 0] 57))) (.cells #[.int .i64 0, .int .i64 0, .slice none 0 0, .slice none 0 0] 57))).cells
    have f6 := (Z3.out.later (bpush (bre (w2.alloc (.cells #[.int .i64 0, .int .i64 0, .slice none 0 0, .slice none 0 0] 57))) (.cells #[.int .i64 0, .int .i64 0, .slice none 0 0, .slice none 0 0] 57))).loose
    clear hr hb2 hb3 Z0 B0
    go_wp2
    have hX := Sx.put4 (Z3.out.later (bpush (bre (w2.alloc (.cells #[.int .i64 0, .int .i64 0, .slice none 0 0, .slice none 0 0] 57))) (.cells #[.int .i64 0, .int .i64 0, .slice none 0 0, .slice none 0 0] 57))) 0 0 (.slice none 0 0) (.slice none 0 0)
    unfold put4 at hX
    have d := hX.cells
    have hg7 := (wst (wst (wst (wst (wre ((w2.alloc (.cells #[.int .i64 0, .int .i64 0, .slice none 0 0, .slice none 0 0] 57)).alloc (.cells #[.int .i64 0, .int .i64 0, .slice none 0 0, .slice none 0 0] 57)) (some w.heap.size)) 0 (.int .i64 0)) 1 (.int .i64 0)) 2 (.slice none 0 0)) 3 (.slice none 0 0))
    have B4 := btr B3.out (bpush (bre (w2.alloc (.cells #[.int .i64 0, .int .i64 0, .slice none 0 0, .slice none 0 0] 57))) (.cells #[.int .i64 0, .int .i64 0, .slice none 0 0, .slice none 0 0] 57))
    refine bodyPost_ret (v := .tuple #[.agg #[.int .i64 0, .int .i64 0, .slice none 0 0, .slice none 0 0], .bool false]) (by simp [results, Tryz.results99, go_sem, d]) rfl (Or.inr ⟨HC.out, rfl, ?_⟩)
    exact B4.trans (below_grownR hg7 (by intro j hj; simp at hj; omega) B4.size)
theorem irs_wh {s u : ByteArray} (h : uns s = (u, true)) : irs s = wh (ist u 0) u.size := by
  cases hi : ist u 0 with
  | none => rw [irs_none h hi]; rfl
  | some p =>
    obtain ⟨⟨y, tm, S, G⟩, c⟩ := p
    rw [irs_some h hi]
    by_cases hc : c = (u.size : Int)
    · rw [if_pos hc, wh_yes rfl hc]
    · rw [if_neg hc, wh_no rfl hc]
set_option maxHeartbeats 4000000 in
set_option maxRecDepth 100000 in
theorem implReadStore_any (s : ByteArray) (w : World) (hs : s.size ≤ 1048576) (hn : Nib w) :
    Calls Tryz.prog 60 #[.string s] w fun e w' => RsPost s w e w' := by
  have hmf : ∀ (fn : Fn) (first cap : Array Value) (w : World), (Instr.makeFunc fn first cap).run Tryz.prog w = .ok (.func fn first cap) w := fun _ _ _ _ => rfl
  have HSZ := hid hs
  have Z0 := hid (Sx.new w 57 0 0 (.slice none 0 0) (.slice none 0 0))
  have LZ : Hid (w.heap.size < (w.alloc (.cells #[.int .i64 0, .int .i64 0, .slice none 0 0, .slice none 0 0] 57)).heap.size) := Z0.out.lt
  have B0 := hid (bpush (bre w) (.cells #[.int .i64 0, .int .i64 0, .slice none 0 0, .slice none 0 0] 57))
  have CU := hid (implUnsealed_any s (w.alloc (.cells #[.int .i64 0, .int .i64 0, .slice none 0 0, .slice none 0 0] 57)) hs (hn.on B0.out))
  cases hu : uns s with
  | mk u ok =>
  have hus := uns_size s
  rw [hu] at CU hus
  dsimp only at CU hus
  have HU := hid hu
  clear hs hn hu
  go_enter Tryz.func60, Tryz.ntmps60
  go_wp2_with fail
  refine CU.out.mono ?_; rintro e w1 ⟨rfl, hb1⟩
  have Z1 := hid (Z0.out.later hb1)
  have B1 := hid (btr B0.out hb1)
  have d4 := Z1.out.cells
  have f4 := Z1.out.loose
  have l1 := Z1.out.lt
  have LW := hid l1
  clear hb1 Z0 B0 CU l1
  cases ok
  · have HNO : Hid (rst s = none) := hid (by rw [← irs_rst]; exact irs_no (by rw [HU.out]))
    go_wp2
    have hX := Sx.put4 Z1.out 0 0 (.slice none 0 0) (.slice none 0 0)
    unfold put4 at hX
    have d := hX.cells
    exact bodyPost_ret (v := .tuple #[.agg #[.int .i64 0, .int .i64 0, .slice none 0 0, .slice none 0 0], .bool false]) (by simp [results, Tryz.results60, go_sem, d]) rfl (Or.inl ⟨HNO.out, rfl, by have h9 := below_put4 B1.out 0 0 (.slice none 0 0) (.slice none 0 0); unfold put4 at h9; exact h9⟩)
  · have HW : Hid (irs s = wh (ist u 0) u.size) := hid (irs_wh HU.out)
    have HSU := hid (show u.size ≤ 1048576 by omega)
    go_wp2_with fail
    refine (readAllStore_any u _ HSU.out).mono ?_; rintro e w2 (⟨y, tm, S, G, ba, bc, ga, gc, hr, rfl, ho, hb2⟩ | ⟨hr, rfl, hb2⟩)
    · have HY : Hid (rst s = some (y, tm, S, G)) := hid (by rw [← irs_rst, HW.out, hr])
      have HK : Hid (sOk y tm S G = true) := hid (by
        cases hi : ist u 0 with
        | none => rw [hi] at hr; cases hr
        | some p =>
          obtain ⟨⟨y', tm', S', G'⟩, c⟩ := p
          rw [hi] at hr
          by_cases hc : c = (u.size : Int)
          · rw [wh_yes rfl hc] at hr
            injection hr with hr
            injection hr with e1 e2
            injection e2 with e2 e3
            injection e3 with e3 e4
            subst e1; subst e2; subst e3; subst e4
            exact (ist_end hi).1
          · rw [wh_no rfl hc] at hr; cases hr)
      obtain ⟨bn, hbn⟩ : ∃ n, S.length = n := ⟨_, rfl⟩
      obtain ⟨gn, hgn⟩ : ∃ n, G.length = n := ⟨_, rfl⟩
      have Z3 := hid (Z1.out.later hb2)
      have B3 := hid (btr B1.out hb2)
      have O3 := hid ho
      rw [hbn, hgn] at O3
      rw [hbn, hgn]
      have HL : Hid (S.length = bn ∧ G.length = gn) := hid ⟨hbn, hgn⟩
      have d5 := Z3.out.cells
      have f5 := Z3.out.loose
      clear hr ho hb2 hbn hgn Z1 B1 d4 f4
      go_wp2
      have hX := Sx.put4 Z3.out y tm (.slice ba bn bc) (.slice ga gn gc)
      unfold put4 at hX
      have d := hX.cells
      have hg7 := (wst (wst (wst (wst (wre w2 (some w.heap.size)) 0 (.int .i64 y)) 1 (.int .i64 tm)) 2 (.slice ba bn bc)) 3 (.slice ga gn gc))
      have l1 := LW.out
      refine bodyPost_ret (v := .tuple #[.agg #[.int .i64 y, .int .i64 tm, .slice ba bn bc, .slice ga gn gc], .bool true]) (by simp [results, Tryz.results60, go_sem, d]) rfl (Or.inr ⟨y, tm, S, G, _, _, HY.out, HK.out, rfl, ?_, by have h9 := below_put4 B3.out y tm (.slice ba bn bc) (.slice ga gn gc); unfold put4 at h9; exact h9⟩)
      exact (O3.out.grown hg7 (by omega)).base (by omega)
    · have HNO : Hid (rst s = none) := hid (by rw [← irs_rst, HW.out, hr])
      have Z3 := hid (Z1.out.later hb2)
      have B3 := hid (btr B1.out hb2)
      have d5 := Z3.out.cells
      have f5 := Z3.out.loose
      clear hr hb2 Z1 B1 d4 f4
      go_wp2
      have hX := Sx.put4 Z3.out 0 0 (.slice none 0 0) (.slice none 0 0)
      unfold put4 at hX
      have d := hX.cells
      exact bodyPost_ret (v := .tuple #[.agg #[.int .i64 0, .int .i64 0, .slice none 0 0, .slice none 0 0], .bool false]) (by simp [results, Tryz.results60, go_sem, d]) rfl (Or.inl ⟨HNO.out, rfl, by have h9 := below_put4 B3.out 0 0 (.slice none 0 0) (.slice none 0 0); unfold put4 at h9; exact h9⟩)
/-- Block k holds a call. -/
def Cx (W : World) (k ty : Nat) (kd bx gd fl : Int) (tx : ByteArray) : Prop := W.heap[k]? = some (.cells #[.int .i64 kd, .int .i64 bx, .int .i64 gd, .int .i64 fl, .string tx] ty (0, 0))
section
variable {W W' : World} {k ty : Nat} {kd bx gd fl : Int} {tx : ByteArray}
theorem Cx.new (w : World) (ty : Nat) (kd bx gd fl : Int) (tx : ByteArray) : Cx (w.alloc (.cells #[.int .i64 kd, .int .i64 bx, .int .i64 gd, .int .i64 fl, .string tx] ty)) w.heap.size ty kd bx gd fl tx := heap_alloc_new w _
theorem Cx.lt (h : Cx W k ty kd bx gd fl tx) : k < W.heap.size := (Array.getElem?_eq_some_iff.1 h).1
theorem Cx.later (h : Cx W k ty kd bx gd fl tx) (hb : Below W.heap.size W W') : Cx W' k ty kd bx gd fl tx := (hb.block k h.lt).trans h
theorem Cx.grown {r : Option Nat} (h : Cx W k ty kd bx gd fl tx) (hg : W.grownBy W' r) (hk : some k ≠ r) : Cx W' k ty kd bx gd fl tx := (hg.block k h.lt hk).trans h
theorem Cx.cells (h : Cx W k ty kd bx gd fl tx) : W.cell? ⟨k, 0, none⟩ = some (.int .i64 kd) ∧ W.cell? ⟨k, 1, none⟩ = some (.int .i64 bx) ∧ W.cell? ⟨k, 2, none⟩ = some (.int .i64 gd) ∧ W.cell? ⟨k, 3, none⟩ = some (.int .i64 fl) ∧ W.cell? ⟨k, 4, none⟩ = some (.string tx) :=
  ⟨cell_of_row W k 0 _ _ _ h, cell_of_row W k 1 _ _ _ h, cell_of_row W k 2 _ _ _ h, cell_of_row W k 3 _ _ _ h, cell_of_row W k 4 _ _ _ h⟩
theorem Cx.loose (h : Cx W k ty kd bx gd fl tx) : W.frozen? ⟨k, 0, none⟩ = false ∧ W.frozen? ⟨k, 1, none⟩ = false ∧ W.frozen? ⟨k, 2, none⟩ = false ∧ W.frozen? ⟨k, 3, none⟩ = false ∧ W.frozen? ⟨k, 4, none⟩ = false :=
  ⟨frozen_of_row W k 0 _ _ h, frozen_of_row W k 1 _ _ h, frozen_of_row W k 2 _ _ h, frozen_of_row W k 3 _ _ h, frozen_of_row W k 4 _ _ h⟩
theorem Cx.s2 (h : Cx W k ty kd bx gd fl tx) (x : Int) : Cx (W.setCell ⟨k, 2, none⟩ (.int .i64 x)) k ty kd bx x fl tx := heap_setCell_same W k 2 _ _ (.int .i64 x) h
theorem Cx.s3 (h : Cx W k ty kd bx gd fl tx) (x : Int) : Cx (W.setCell ⟨k, 3, none⟩ (.int .i64 x)) k ty kd bx gd x tx := heap_setCell_same W k 3 _ _ (.int .i64 x) h
theorem Cx.s4 (h : Cx W k ty kd bx gd fl tx) (x : ByteArray) : Cx (W.setCell ⟨k, 4, none⟩ (.string x)) k ty kd bx gd fl x := heap_setCell_same W k 4 _ _ (.string x) h
theorem Cx.set5 (h : Cx W k ty kd bx gd fl tx) (kd' bx' gd' fl' : Int) (tx' : ByteArray) : Cx (((((W.setCell ⟨k, 0, none⟩ (.int .i64 kd')).setCell ⟨k, 1, none⟩ (.int .i64 bx')).setCell ⟨k, 2, none⟩ (.int .i64 gd')).setCell ⟨k, 3, none⟩ (.int .i64 fl')).setCell ⟨k, 4, none⟩ (.string tx')) k ty kd' bx' gd' fl' tx' :=
  heap_setCell_same _ k 4 _ _ _ (heap_setCell_same _ k 3 _ _ _ (heap_setCell_same _ k 2 _ _ _ (heap_setCell_same _ k 1 _ _ _ (heap_setCell_same W k 0 _ _ _ h))))
end
/-- A call's text, its numbers. -/
def txOk (kd : Int) (tx : ByteArray) : Bool := if kd = 1 ∨ kd = 2 then nmOk tx else if kd = 4 then decide (tx.size ≤ 60) else if kd = 7 then (rst tx).isSome else decide (tx = ⟨#[]⟩)
def bxIn (kd bx : Int) : Bool := if kd = 7 then decide (bx = 0) else gok bx
def gdIn (kd gd : Int) : Bool := if kd = 4 ∨ kd = 5 ∨ kd = 6 then gok gd else decide (gd = 0)
def flIn (kd fl : Int) : Bool := if kd = 4 ∨ kd = 5 then decide (0 ≤ fl ∧ fl ≤ 7) else decide (fl = 0)
def cok (kd bx gd fl : Int) (tx : ByteArray) : Bool := decide (1 ≤ kd ∧ kd ≤ 7) && (bxIn kd bx && (gdIn kd gd && (flIn kd fl && txOk kd tx)))
theorem read_l (s : ByteArray) (hs : s.size ≤ 1048576) : ∃ p : Bool, Hid (p = (rst s).isSome) ∧ Hid (∀ w, Calls Tryz.prog 26 #[.string s] w fun e w' => ∃ y tm a n c a' n' c', e = .returned (.tuple #[.agg #[.int .i64 y, .int .i64 tm, .slice a n c, .slice a' n' c'], .bool p]) ∧ Below w.heap.size w w') := by
  refine ⟨(rst s).isSome, rfl, fun w => (specReadStore_any s w hs).mono ?_⟩
  rintro e w' (⟨h, rfl, hb⟩ | ⟨y, tm, S, G, bv, gv, h, -, rfl, ho, hb⟩)
  · exact ⟨0, 0, none, 0, 0, none, 0, 0, by rw [h]; rfl, hb⟩
  · obtain ⟨a, c, a', c', rfl, rfl⟩ := ho.shape
    exact ⟨y, tm, a, _, c, a', _, c', by rw [h]; rfl, hb⟩
set_option maxHeartbeats 1600000 in
set_option maxRecDepth 100000 in
theorem specText11_any (kd bx gd fl : Int) (tx : ByteArray) (w : World) (ht : tx.size ≤ 1048576) :
    Calls Tryz.prog 16 #[.agg #[.int .i64 kd, .int .i64 bx, .int .i64 gd, .int .i64 fl, .string tx]] w fun e w' => e = .returned (.bool (txOk kd tx)) ∧ Below w.heap.size w w' := by
  have c0 := (Cx.new w 26 kd bx gd fl tx).cells
  have B0 := hid (bpush (bre w) (.cells #[.int .i64 kd, .int .i64 bx, .int .i64 gd, .int .i64 fl, .string tx] 26))
  obtain ⟨p, hp, C1, -⟩ := name_l tx ht
  obtain ⟨q, hq, C2⟩ := read_l tx ht
  by_cases h1 : kd = 1
  · have HE : Hid (txOk kd tx = p) := hid (by rw [hp.out]; unfold txOk; rw [if_pos (Or.inl h1)])
    rw [HE.out]
    subst h1
    go_enter Tryz.func16, Tryz.ntmps16
    go_wp2_with fail
    refine (C1.out _).mono ?_; rintro e w1 ⟨rfl, hb1⟩
    have B1 := hid (btr B0.out hb1)
    clear hb1 c0
    go_wp2
    go_ret
    exact ⟨rfl, B1.out⟩
  by_cases h2 : kd = 2
  · have HE : Hid (txOk kd tx = p) := hid (by rw [hp.out]; unfold txOk; rw [if_pos (Or.inr h2)])
    rw [HE.out]
    subst h2
    go_enter Tryz.func16, Tryz.ntmps16
    go_wp2_with fail
    refine (C1.out _).mono ?_; rintro e w1 ⟨rfl, hb1⟩
    have B1 := hid (btr B0.out hb1)
    clear hb1 c0
    go_wp2
    go_ret
    exact ⟨rfl, B1.out⟩
  by_cases h4 : kd = 4
  · have HE : Hid (txOk kd tx = decide (tx.size ≤ 60)) := hid (by unfold txOk; rw [if_neg (by omega), if_pos h4])
    rw [HE.out]
    subst h4
    by_cases hz : tx.size ≤ 60
    · have hz2 : (tx.size : Int) ≤ 60 := by omega
      rw [show decide (tx.size ≤ 60) = true from by simpa using hz]
      go_enter Tryz.func16, Tryz.ntmps16
      go_wp2
      go_ret
      exact ⟨rfl, B0.out⟩
    · have hz2 : ¬ (tx.size : Int) ≤ 60 := by omega
      rw [show decide (tx.size ≤ 60) = false from by simpa using hz]
      go_enter Tryz.func16, Tryz.ntmps16
      go_wp2
      go_ret
      exact ⟨rfl, B0.out⟩
  by_cases h7 : kd = 7
  · have HE : Hid (txOk kd tx = q) := hid (by rw [hq.out]; unfold txOk; rw [if_neg (by omega), if_neg h4, if_pos h7])
    rw [HE.out]
    subst h7
    go_enter Tryz.func16, Tryz.ntmps16
    go_wp2_with fail
    refine (C2.out _).mono ?_; rintro e w1 ⟨y, tm, a, n, c, a', n', c', rfl, hb1⟩
    have B1 := hid (bpush (btr B0.out hb1) (.cells #[.int .i64 y, .int .i64 tm, .slice a n c, .slice a' n' c'] 57))
    clear hb1 c0
    go_wp2
    go_ret
    exact ⟨rfl, B1.out⟩
  have HE : Hid (txOk kd tx = decide (tx = ⟨#[]⟩)) := hid (by unfold txOk; rw [if_neg (by omega), if_neg h4, if_neg h7])
  rw [HE.out]
  by_cases hz : tx = ⟨#[]⟩
  · subst hz
    go_enter Tryz.func16, Tryz.ntmps16
    go_wp2
    go_ret
    exact ⟨rfl, B0.out⟩
  · rw [show decide (tx = ⟨#[]⟩) = false from by simpa using hz]
    go_enter Tryz.func16, Tryz.ntmps16
    go_wp2
    go_ret
    exact ⟨by simp; exact fun h => hz (bytes_eq (by rw [h]; simp)), B0.out⟩
theorem rin_l (x a b : Int) : ∃ p : Bool, p = decide (a ≤ x ∧ x ≤ b) ∧ Hid (∀ w, Calls Tryz.prog 15 #[.int .i64 x, .int .i64 a, .int .i64 b] w fun e w' => e = .returned (.bool p) ∧ w = w') := by
  by_cases h : a ≤ x ∧ x ≤ b
  · exact ⟨true, by simpa using h, fun w => l01In_yes x a b w h.1 h.2⟩
  · exact ⟨false, by simpa using h, fun w => l01In_no x a b w (by omega)⟩
set_option maxHeartbeats 1600000 in
set_option maxRecDepth 100000 in
theorem specCall1_any (bx gd fl : Int) (tx : ByteArray) (w : World) (ht : tx.size ≤ 1048576) :
    Calls Tryz.prog 7 #[.agg #[.int .i64 1, .int .i64 bx, .int .i64 gd, .int .i64 fl, .string tx]] w fun e w' => e = .returned (.bool (cok 1 bx gd fl tx)) ∧ Below w.heap.size w w' := by
  have X0 := hid (Cx.new w 26 1 bx gd fl tx)
  have c0 := X0.out.cells
  have B0 := hid (bpush (bre w) (.cells #[.int .i64 1, .int .i64 bx, .int .i64 gd, .int .i64 fl, .string tx] 26))
  have C9 := hid (fun (W : World) => specText11_any 1 bx gd fl tx W ht)
  obtain ⟨q, hq⟩ : ∃ q, txOk 1 tx = q := ⟨_, rfl⟩
  rw [hq] at C9
  have HQ := hid hq
  obtain ⟨p0, hp0, C0⟩ := rin_l 1 1 7
  obtain rfl : p0 = true := hp0.trans (by decide)
  clear hp0 hq
  obtain ⟨pb, hpb, CB⟩ := rin_l bx 1 9999
  have HE : Hid (cok 1 bx gd fl tx = (pb && (decide (gd = 0) && (decide (fl = 0) && q)))) := hid (by rw [← HQ.out]; rw [hpb]; simp [cok, bxIn, gdIn, flIn, gok])
  rw [HE.out]
  clear HE HQ hpb
  cases pb
  · go_enter Tryz.func7, Tryz.ntmps7
    go_wp2_with fail
    refine (C0.out _).mono ?_; rintro e w1 ⟨rfl, rfl⟩
    go_wp2_with fail
    refine (CB.out _).mono ?_; rintro e w1 ⟨rfl, rfl⟩
    go_wp2
    go_ret
    exact ⟨ret_bool (by simp), B0.out⟩
  by_cases hgd : gd = 0
  · subst hgd
    by_cases hfl : fl = 0
    · subst hfl
      go_enter Tryz.func7, Tryz.ntmps7
      go_wp2_with fail
      refine (C0.out _).mono ?_; rintro e w1 ⟨rfl, rfl⟩
      go_wp2_with fail
      refine (CB.out _).mono ?_; rintro e w1 ⟨rfl, rfl⟩
      go_wp2_with fail
      refine (C9.out _).mono ?_; rintro e w1 ⟨rfl, hb⟩
      have B1 := hid (btr B0.out hb)
      clear hb c0
      go_wp2
      go_ret
      exact ⟨ret_bool (by simp), B1.out⟩
    · go_enter Tryz.func7, Tryz.ntmps7
      go_wp2_with fail
      refine (C0.out _).mono ?_; rintro e w1 ⟨rfl, rfl⟩
      go_wp2_with fail
      refine (CB.out _).mono ?_; rintro e w1 ⟨rfl, rfl⟩
      go_wp2
      go_ret
      exact ⟨ret_bool (by simp [hfl]), B0.out⟩
  · go_enter Tryz.func7, Tryz.ntmps7
    go_wp2_with fail
    refine (C0.out _).mono ?_; rintro e w1 ⟨rfl, rfl⟩
    go_wp2_with fail
    refine (CB.out _).mono ?_; rintro e w1 ⟨rfl, rfl⟩
    go_wp2
    go_ret
    exact ⟨ret_bool (by simp [hgd]), B0.out⟩
set_option maxHeartbeats 1600000 in
set_option maxRecDepth 100000 in
theorem specCall2_any (bx gd fl : Int) (tx : ByteArray) (w : World) (ht : tx.size ≤ 1048576) :
    Calls Tryz.prog 7 #[.agg #[.int .i64 2, .int .i64 bx, .int .i64 gd, .int .i64 fl, .string tx]] w fun e w' => e = .returned (.bool (cok 2 bx gd fl tx)) ∧ Below w.heap.size w w' := by
  have X0 := hid (Cx.new w 26 2 bx gd fl tx)
  have c0 := X0.out.cells
  have B0 := hid (bpush (bre w) (.cells #[.int .i64 2, .int .i64 bx, .int .i64 gd, .int .i64 fl, .string tx] 26))
  have C9 := hid (fun (W : World) => specText11_any 2 bx gd fl tx W ht)
  obtain ⟨q, hq⟩ : ∃ q, txOk 2 tx = q := ⟨_, rfl⟩
  rw [hq] at C9
  have HQ := hid hq
  obtain ⟨p0, hp0, C0⟩ := rin_l 2 1 7
  obtain rfl : p0 = true := hp0.trans (by decide)
  clear hp0 hq
  obtain ⟨pb, hpb, CB⟩ := rin_l bx 1 9999
  have HE : Hid (cok 2 bx gd fl tx = (pb && (decide (gd = 0) && (decide (fl = 0) && q)))) := hid (by rw [← HQ.out]; rw [hpb]; simp [cok, bxIn, gdIn, flIn, gok])
  rw [HE.out]
  clear HE HQ hpb
  cases pb
  · go_enter Tryz.func7, Tryz.ntmps7
    go_wp2_with fail
    refine (C0.out _).mono ?_; rintro e w1 ⟨rfl, rfl⟩
    go_wp2_with fail
    refine (CB.out _).mono ?_; rintro e w1 ⟨rfl, rfl⟩
    go_wp2
    go_ret
    exact ⟨ret_bool (by simp), B0.out⟩
  by_cases hgd : gd = 0
  · subst hgd
    by_cases hfl : fl = 0
    · subst hfl
      go_enter Tryz.func7, Tryz.ntmps7
      go_wp2_with fail
      refine (C0.out _).mono ?_; rintro e w1 ⟨rfl, rfl⟩
      go_wp2_with fail
      refine (CB.out _).mono ?_; rintro e w1 ⟨rfl, rfl⟩
      go_wp2_with fail
      refine (C9.out _).mono ?_; rintro e w1 ⟨rfl, hb⟩
      have B1 := hid (btr B0.out hb)
      clear hb c0
      go_wp2
      go_ret
      exact ⟨ret_bool (by simp), B1.out⟩
    · go_enter Tryz.func7, Tryz.ntmps7
      go_wp2_with fail
      refine (C0.out _).mono ?_; rintro e w1 ⟨rfl, rfl⟩
      go_wp2_with fail
      refine (CB.out _).mono ?_; rintro e w1 ⟨rfl, rfl⟩
      go_wp2
      go_ret
      exact ⟨ret_bool (by simp [hfl]), B0.out⟩
  · go_enter Tryz.func7, Tryz.ntmps7
    go_wp2_with fail
    refine (C0.out _).mono ?_; rintro e w1 ⟨rfl, rfl⟩
    go_wp2_with fail
    refine (CB.out _).mono ?_; rintro e w1 ⟨rfl, rfl⟩
    go_wp2
    go_ret
    exact ⟨ret_bool (by simp [hgd]), B0.out⟩
set_option maxHeartbeats 1600000 in
set_option maxRecDepth 100000 in
theorem specCall3_any (bx gd fl : Int) (tx : ByteArray) (w : World) (ht : tx.size ≤ 1048576) :
    Calls Tryz.prog 7 #[.agg #[.int .i64 3, .int .i64 bx, .int .i64 gd, .int .i64 fl, .string tx]] w fun e w' => e = .returned (.bool (cok 3 bx gd fl tx)) ∧ Below w.heap.size w w' := by
  have X0 := hid (Cx.new w 26 3 bx gd fl tx)
  have c0 := X0.out.cells
  have B0 := hid (bpush (bre w) (.cells #[.int .i64 3, .int .i64 bx, .int .i64 gd, .int .i64 fl, .string tx] 26))
  have C9 := hid (fun (W : World) => specText11_any 3 bx gd fl tx W ht)
  obtain ⟨q, hq⟩ : ∃ q, txOk 3 tx = q := ⟨_, rfl⟩
  rw [hq] at C9
  have HQ := hid hq
  obtain ⟨p0, hp0, C0⟩ := rin_l 3 1 7
  obtain rfl : p0 = true := hp0.trans (by decide)
  clear hp0 hq
  obtain ⟨pb, hpb, CB⟩ := rin_l bx 1 9999
  have HE : Hid (cok 3 bx gd fl tx = (pb && (decide (gd = 0) && (decide (fl = 0) && q)))) := hid (by rw [← HQ.out]; rw [hpb]; simp [cok, bxIn, gdIn, flIn, gok])
  rw [HE.out]
  clear HE HQ hpb
  cases pb
  · go_enter Tryz.func7, Tryz.ntmps7
    go_wp2_with fail
    refine (C0.out _).mono ?_; rintro e w1 ⟨rfl, rfl⟩
    go_wp2_with fail
    refine (CB.out _).mono ?_; rintro e w1 ⟨rfl, rfl⟩
    go_wp2
    go_ret
    exact ⟨ret_bool (by simp), B0.out⟩
  by_cases hgd : gd = 0
  · subst hgd
    by_cases hfl : fl = 0
    · subst hfl
      go_enter Tryz.func7, Tryz.ntmps7
      go_wp2_with fail
      refine (C0.out _).mono ?_; rintro e w1 ⟨rfl, rfl⟩
      go_wp2_with fail
      refine (CB.out _).mono ?_; rintro e w1 ⟨rfl, rfl⟩
      go_wp2_with fail
      refine (C9.out _).mono ?_; rintro e w1 ⟨rfl, hb⟩
      have B1 := hid (btr B0.out hb)
      clear hb c0
      go_wp2
      go_ret
      exact ⟨ret_bool (by simp), B1.out⟩
    · go_enter Tryz.func7, Tryz.ntmps7
      go_wp2_with fail
      refine (C0.out _).mono ?_; rintro e w1 ⟨rfl, rfl⟩
      go_wp2_with fail
      refine (CB.out _).mono ?_; rintro e w1 ⟨rfl, rfl⟩
      go_wp2
      go_ret
      exact ⟨ret_bool (by simp [hfl]), B0.out⟩
  · go_enter Tryz.func7, Tryz.ntmps7
    go_wp2_with fail
    refine (C0.out _).mono ?_; rintro e w1 ⟨rfl, rfl⟩
    go_wp2_with fail
    refine (CB.out _).mono ?_; rintro e w1 ⟨rfl, rfl⟩
    go_wp2
    go_ret
    exact ⟨ret_bool (by simp [hgd]), B0.out⟩
set_option maxHeartbeats 1600000 in
set_option maxRecDepth 100000 in
theorem specCall4_any (bx gd fl : Int) (tx : ByteArray) (w : World) (ht : tx.size ≤ 1048576) :
    Calls Tryz.prog 7 #[.agg #[.int .i64 4, .int .i64 bx, .int .i64 gd, .int .i64 fl, .string tx]] w fun e w' => e = .returned (.bool (cok 4 bx gd fl tx)) ∧ Below w.heap.size w w' := by
  have X0 := hid (Cx.new w 26 4 bx gd fl tx)
  have c0 := X0.out.cells
  have B0 := hid (bpush (bre w) (.cells #[.int .i64 4, .int .i64 bx, .int .i64 gd, .int .i64 fl, .string tx] 26))
  have C9 := hid (fun (W : World) => specText11_any 4 bx gd fl tx W ht)
  obtain ⟨q, hq⟩ : ∃ q, txOk 4 tx = q := ⟨_, rfl⟩
  rw [hq] at C9
  have HQ := hid hq
  obtain ⟨p0, hp0, C0⟩ := rin_l 4 1 7
  obtain rfl : p0 = true := hp0.trans (by decide)
  clear hp0 hq
  obtain ⟨pb, hpb, CB⟩ := rin_l bx 1 9999
  obtain ⟨pg, hpg, CG⟩ := rin_l gd 1 9999
  obtain ⟨pf, hpf, CF⟩ := rin_l fl 0 7
  have HE : Hid (cok 4 bx gd fl tx = (pb && (pg && (pf && q)))) := hid (by rw [← HQ.out]; rw [hpb]; rw [hpg]; rw [hpf]; simp [cok, bxIn, gdIn, flIn, gok])
  rw [HE.out]
  clear HE HQ hpb hpg hpf
  cases pb
  · go_enter Tryz.func7, Tryz.ntmps7
    go_wp2_with fail
    refine (C0.out _).mono ?_; rintro e w1 ⟨rfl, rfl⟩
    go_wp2_with fail
    refine (CB.out _).mono ?_; rintro e w1 ⟨rfl, rfl⟩
    go_wp2
    go_ret
    exact ⟨ret_bool (by simp), B0.out⟩
  cases pg
  · go_enter Tryz.func7, Tryz.ntmps7
    go_wp2_with fail
    refine (C0.out _).mono ?_; rintro e w1 ⟨rfl, rfl⟩
    go_wp2_with fail
    refine (CB.out _).mono ?_; rintro e w1 ⟨rfl, rfl⟩
    go_wp2_with fail
    refine (CG.out _).mono ?_; rintro e w1 ⟨rfl, rfl⟩
    go_wp2
    go_ret
    exact ⟨ret_bool (by simp), B0.out⟩
  cases pf
  · go_enter Tryz.func7, Tryz.ntmps7
    go_wp2_with fail
    refine (C0.out _).mono ?_; rintro e w1 ⟨rfl, rfl⟩
    go_wp2_with fail
    refine (CB.out _).mono ?_; rintro e w1 ⟨rfl, rfl⟩
    go_wp2_with fail
    refine (CG.out _).mono ?_; rintro e w1 ⟨rfl, rfl⟩
    go_wp2_with fail
    refine (CF.out _).mono ?_; rintro e w1 ⟨rfl, rfl⟩
    go_wp2
    go_ret
    exact ⟨ret_bool (by simp), B0.out⟩
  go_enter Tryz.func7, Tryz.ntmps7
  go_wp2_with fail
  refine (C0.out _).mono ?_; rintro e w1 ⟨rfl, rfl⟩
  go_wp2_with fail
  refine (CB.out _).mono ?_; rintro e w1 ⟨rfl, rfl⟩
  go_wp2_with fail
  refine (CG.out _).mono ?_; rintro e w1 ⟨rfl, rfl⟩
  go_wp2_with fail
  refine (CF.out _).mono ?_; rintro e w1 ⟨rfl, rfl⟩
  go_wp2_with fail
  refine (C9.out _).mono ?_; rintro e w1 ⟨rfl, hb⟩
  have B1 := hid (btr B0.out hb)
  clear hb c0
  go_wp2
  go_ret
  exact ⟨ret_bool (by simp), B1.out⟩
set_option maxHeartbeats 1600000 in
set_option maxRecDepth 100000 in
theorem specCall5_any (bx gd fl : Int) (tx : ByteArray) (w : World) (ht : tx.size ≤ 1048576) :
    Calls Tryz.prog 7 #[.agg #[.int .i64 5, .int .i64 bx, .int .i64 gd, .int .i64 fl, .string tx]] w fun e w' => e = .returned (.bool (cok 5 bx gd fl tx)) ∧ Below w.heap.size w w' := by
  have X0 := hid (Cx.new w 26 5 bx gd fl tx)
  have c0 := X0.out.cells
  have B0 := hid (bpush (bre w) (.cells #[.int .i64 5, .int .i64 bx, .int .i64 gd, .int .i64 fl, .string tx] 26))
  have C9 := hid (fun (W : World) => specText11_any 5 bx gd fl tx W ht)
  obtain ⟨q, hq⟩ : ∃ q, txOk 5 tx = q := ⟨_, rfl⟩
  rw [hq] at C9
  have HQ := hid hq
  obtain ⟨p0, hp0, C0⟩ := rin_l 5 1 7
  obtain rfl : p0 = true := hp0.trans (by decide)
  clear hp0 hq
  obtain ⟨pb, hpb, CB⟩ := rin_l bx 1 9999
  obtain ⟨pg, hpg, CG⟩ := rin_l gd 1 9999
  obtain ⟨pf, hpf, CF⟩ := rin_l fl 0 7
  have HE : Hid (cok 5 bx gd fl tx = (pb && (pg && (pf && q)))) := hid (by rw [← HQ.out]; rw [hpb]; rw [hpg]; rw [hpf]; simp [cok, bxIn, gdIn, flIn, gok])
  rw [HE.out]
  clear HE HQ hpb hpg hpf
  cases pb
  · go_enter Tryz.func7, Tryz.ntmps7
    go_wp2_with fail
    refine (C0.out _).mono ?_; rintro e w1 ⟨rfl, rfl⟩
    go_wp2_with fail
    refine (CB.out _).mono ?_; rintro e w1 ⟨rfl, rfl⟩
    go_wp2
    go_ret
    exact ⟨ret_bool (by simp), B0.out⟩
  cases pg
  · go_enter Tryz.func7, Tryz.ntmps7
    go_wp2_with fail
    refine (C0.out _).mono ?_; rintro e w1 ⟨rfl, rfl⟩
    go_wp2_with fail
    refine (CB.out _).mono ?_; rintro e w1 ⟨rfl, rfl⟩
    go_wp2_with fail
    refine (CG.out _).mono ?_; rintro e w1 ⟨rfl, rfl⟩
    go_wp2
    go_ret
    exact ⟨ret_bool (by simp), B0.out⟩
  cases pf
  · go_enter Tryz.func7, Tryz.ntmps7
    go_wp2_with fail
    refine (C0.out _).mono ?_; rintro e w1 ⟨rfl, rfl⟩
    go_wp2_with fail
    refine (CB.out _).mono ?_; rintro e w1 ⟨rfl, rfl⟩
    go_wp2_with fail
    refine (CG.out _).mono ?_; rintro e w1 ⟨rfl, rfl⟩
    go_wp2_with fail
    refine (CF.out _).mono ?_; rintro e w1 ⟨rfl, rfl⟩
    go_wp2
    go_ret
    exact ⟨ret_bool (by simp), B0.out⟩
  go_enter Tryz.func7, Tryz.ntmps7
  go_wp2_with fail
  refine (C0.out _).mono ?_; rintro e w1 ⟨rfl, rfl⟩
  go_wp2_with fail
  refine (CB.out _).mono ?_; rintro e w1 ⟨rfl, rfl⟩
  go_wp2_with fail
  refine (CG.out _).mono ?_; rintro e w1 ⟨rfl, rfl⟩
  go_wp2_with fail
  refine (CF.out _).mono ?_; rintro e w1 ⟨rfl, rfl⟩
  go_wp2_with fail
  refine (C9.out _).mono ?_; rintro e w1 ⟨rfl, hb⟩
  have B1 := hid (btr B0.out hb)
  clear hb c0
  go_wp2
  go_ret
  exact ⟨ret_bool (by simp), B1.out⟩
set_option maxHeartbeats 1600000 in
set_option maxRecDepth 100000 in
theorem specCall6_any (bx gd fl : Int) (tx : ByteArray) (w : World) (ht : tx.size ≤ 1048576) :
    Calls Tryz.prog 7 #[.agg #[.int .i64 6, .int .i64 bx, .int .i64 gd, .int .i64 fl, .string tx]] w fun e w' => e = .returned (.bool (cok 6 bx gd fl tx)) ∧ Below w.heap.size w w' := by
  have X0 := hid (Cx.new w 26 6 bx gd fl tx)
  have c0 := X0.out.cells
  have B0 := hid (bpush (bre w) (.cells #[.int .i64 6, .int .i64 bx, .int .i64 gd, .int .i64 fl, .string tx] 26))
  have C9 := hid (fun (W : World) => specText11_any 6 bx gd fl tx W ht)
  obtain ⟨q, hq⟩ : ∃ q, txOk 6 tx = q := ⟨_, rfl⟩
  rw [hq] at C9
  have HQ := hid hq
  obtain ⟨p0, hp0, C0⟩ := rin_l 6 1 7
  obtain rfl : p0 = true := hp0.trans (by decide)
  clear hp0 hq
  obtain ⟨pb, hpb, CB⟩ := rin_l bx 1 9999
  obtain ⟨pg, hpg, CG⟩ := rin_l gd 1 9999
  have HE : Hid (cok 6 bx gd fl tx = (pb && (pg && (decide (fl = 0) && q)))) := hid (by rw [← HQ.out]; rw [hpb]; rw [hpg]; simp [cok, bxIn, gdIn, flIn, gok])
  rw [HE.out]
  clear HE HQ hpb hpg
  cases pb
  · go_enter Tryz.func7, Tryz.ntmps7
    go_wp2_with fail
    refine (C0.out _).mono ?_; rintro e w1 ⟨rfl, rfl⟩
    go_wp2_with fail
    refine (CB.out _).mono ?_; rintro e w1 ⟨rfl, rfl⟩
    go_wp2
    go_ret
    exact ⟨ret_bool (by simp), B0.out⟩
  cases pg
  · go_enter Tryz.func7, Tryz.ntmps7
    go_wp2_with fail
    refine (C0.out _).mono ?_; rintro e w1 ⟨rfl, rfl⟩
    go_wp2_with fail
    refine (CB.out _).mono ?_; rintro e w1 ⟨rfl, rfl⟩
    go_wp2_with fail
    refine (CG.out _).mono ?_; rintro e w1 ⟨rfl, rfl⟩
    go_wp2
    go_ret
    exact ⟨ret_bool (by simp), B0.out⟩
  by_cases hfl : fl = 0
  · subst hfl
    go_enter Tryz.func7, Tryz.ntmps7
    go_wp2_with fail
    refine (C0.out _).mono ?_; rintro e w1 ⟨rfl, rfl⟩
    go_wp2_with fail
    refine (CB.out _).mono ?_; rintro e w1 ⟨rfl, rfl⟩
    go_wp2_with fail
    refine (CG.out _).mono ?_; rintro e w1 ⟨rfl, rfl⟩
    go_wp2_with fail
    refine (C9.out _).mono ?_; rintro e w1 ⟨rfl, hb⟩
    have B1 := hid (btr B0.out hb)
    clear hb c0
    go_wp2
    go_ret
    exact ⟨ret_bool (by simp), B1.out⟩
  · go_enter Tryz.func7, Tryz.ntmps7
    go_wp2_with fail
    refine (C0.out _).mono ?_; rintro e w1 ⟨rfl, rfl⟩
    go_wp2_with fail
    refine (CB.out _).mono ?_; rintro e w1 ⟨rfl, rfl⟩
    go_wp2_with fail
    refine (CG.out _).mono ?_; rintro e w1 ⟨rfl, rfl⟩
    go_wp2
    go_ret
    exact ⟨ret_bool (by simp [hfl]), B0.out⟩
set_option maxHeartbeats 1600000 in
set_option maxRecDepth 100000 in
theorem specCall7_any (bx gd fl : Int) (tx : ByteArray) (w : World) (ht : tx.size ≤ 1048576) :
    Calls Tryz.prog 7 #[.agg #[.int .i64 7, .int .i64 bx, .int .i64 gd, .int .i64 fl, .string tx]] w fun e w' => e = .returned (.bool (cok 7 bx gd fl tx)) ∧ Below w.heap.size w w' := by
  have X0 := hid (Cx.new w 26 7 bx gd fl tx)
  have c0 := X0.out.cells
  have B0 := hid (bpush (bre w) (.cells #[.int .i64 7, .int .i64 bx, .int .i64 gd, .int .i64 fl, .string tx] 26))
  have C9 := hid (fun (W : World) => specText11_any 7 bx gd fl tx W ht)
  obtain ⟨q, hq⟩ : ∃ q, txOk 7 tx = q := ⟨_, rfl⟩
  rw [hq] at C9
  have HQ := hid hq
  obtain ⟨p0, hp0, C0⟩ := rin_l 7 1 7
  obtain rfl : p0 = true := hp0.trans (by decide)
  clear hp0 hq
  have HE : Hid (cok 7 bx gd fl tx = (decide (bx = 0) && (decide (gd = 0) && (decide (fl = 0) && q)))) := hid (by rw [← HQ.out]; simp [cok, bxIn, gdIn, flIn])
  rw [HE.out]
  clear HE HQ
  by_cases hbx : bx = 0
  · subst hbx
    by_cases hgd : gd = 0
    · subst hgd
      by_cases hfl : fl = 0
      · subst hfl
        go_enter Tryz.func7, Tryz.ntmps7
        go_wp2_with fail
        refine (C0.out _).mono ?_; rintro e w1 ⟨rfl, rfl⟩
        go_wp2_with fail
        refine (C9.out _).mono ?_; rintro e w1 ⟨rfl, hb⟩
        have B1 := hid (btr B0.out hb)
        clear hb c0
        go_wp2
        go_ret
        exact ⟨ret_bool (by simp), B1.out⟩
      · go_enter Tryz.func7, Tryz.ntmps7
        go_wp2_with fail
        refine (C0.out _).mono ?_; rintro e w1 ⟨rfl, rfl⟩
        go_wp2
        go_ret
        exact ⟨ret_bool (by simp [hfl]), B0.out⟩
    · go_enter Tryz.func7, Tryz.ntmps7
      go_wp2_with fail
      refine (C0.out _).mono ?_; rintro e w1 ⟨rfl, rfl⟩
      go_wp2
      go_ret
      exact ⟨ret_bool (by simp [hgd]), B0.out⟩
  · go_enter Tryz.func7, Tryz.ntmps7
    go_wp2_with fail
    refine (C0.out _).mono ?_; rintro e w1 ⟨rfl, rfl⟩
    go_wp2
    go_ret
    exact ⟨ret_bool (by simp [hbx]), B0.out⟩
set_option maxHeartbeats 1600000 in
set_option maxRecDepth 100000 in
theorem specCallOk_any (kd bx gd fl : Int) (tx : ByteArray) (w : World) (ht : tx.size ≤ 1048576) :
    Calls Tryz.prog 7 #[.agg #[.int .i64 kd, .int .i64 bx, .int .i64 gd, .int .i64 fl, .string tx]] w fun e w' => e = .returned (.bool (cok kd bx gd fl tx)) ∧ Below w.heap.size w w' := by
  by_cases hk : 1 ≤ kd ∧ kd ≤ 7
  · rcases (by omega : kd = 1 ∨ kd = 2 ∨ kd = 3 ∨ kd = 4 ∨ kd = 5 ∨ kd = 6 ∨ kd = 7) with rfl | rfl | rfl | rfl | rfl | rfl | rfl
    · exact specCall1_any bx gd fl tx w ht
    · exact specCall2_any bx gd fl tx w ht
    · exact specCall3_any bx gd fl tx w ht
    · exact specCall4_any bx gd fl tx w ht
    · exact specCall5_any bx gd fl tx w ht
    · exact specCall6_any bx gd fl tx w ht
    · exact specCall7_any bx gd fl tx w ht
  · have X0 := hid (Cx.new w 26 kd bx gd fl tx)
    have c0 := X0.out.cells
    have B0 := hid (bpush (bre w) (.cells #[.int .i64 kd, .int .i64 bx, .int .i64 gd, .int .i64 fl, .string tx] 26))
    obtain ⟨p0, hp0, C0⟩ := rin_l kd 1 7
    obtain rfl : p0 = false := hp0.trans (by simpa using hk)
    have HE : cok kd bx gd fl tx = false := by unfold cok; rw [← hp0]; simp
    rw [HE]
    clear hp0 hk HE
    go_enter Tryz.func7, Tryz.ntmps7
    go_wp2_with fail
    refine (C0.out _).mono ?_; rintro e w1 ⟨rfl, rfl⟩
    go_wp2
    go_ret
    exact ⟨rfl, B0.out⟩
set_option maxHeartbeats 1600000 in
set_option maxRecDepth 100000 in
theorem wayOf_1 (w : World) : Calls Tryz.prog 17 #[.int .i64 1] w fun e w' => e = .returned (.tuple #[.agg #[.func (.func 27) #[] #[], .func (.func 28) #[] #[]], .bool true]) ∧ Below w.heap.size w w' := by
  have hmf : ∀ (fn : Fn) (first cap : Array Value) (w : World), (Instr.makeFunc fn first cap).run Tryz.prog w = .ok (.func fn first cap) w := fun _ _ _ _ => rfl
  go_enter Tryz.func17, Tryz.ntmps17
  go_wp2
  exact bodyPost_ret (v := .tuple #[.agg #[.func (.func 27) #[] #[], .func (.func 28) #[] #[]], .bool true]) (by simp [results, Tryz.results17, go_sem]) rfl ⟨rfl, bpush (bpush (bre _) _) _⟩
set_option maxHeartbeats 1600000 in
set_option maxRecDepth 100000 in
theorem wayOf_2 (w : World) : Calls Tryz.prog 17 #[.int .i64 2] w fun e w' => e = .returned (.tuple #[.agg #[.func (.func 27) #[] #[], .func (.func 29) #[] #[]], .bool true]) ∧ Below w.heap.size w w' := by
  have hmf : ∀ (fn : Fn) (first cap : Array Value) (w : World), (Instr.makeFunc fn first cap).run Tryz.prog w = .ok (.func fn first cap) w := fun _ _ _ _ => rfl
  go_enter Tryz.func17, Tryz.ntmps17
  go_wp2
  exact bodyPost_ret (v := .tuple #[.agg #[.func (.func 27) #[] #[], .func (.func 29) #[] #[]], .bool true]) (by simp [results, Tryz.results17, go_sem]) rfl ⟨rfl, bpush (bpush (bre _) _) _⟩
set_option maxHeartbeats 1600000 in
set_option maxRecDepth 100000 in
theorem wayOf_3 (w : World) : Calls Tryz.prog 17 #[.int .i64 3] w fun e w' => e = .returned (.tuple #[.agg #[.func (.func 30) #[] #[], .func (.func 31) #[] #[]], .bool true]) ∧ Below w.heap.size w w' := by
  have hmf : ∀ (fn : Fn) (first cap : Array Value) (w : World), (Instr.makeFunc fn first cap).run Tryz.prog w = .ok (.func fn first cap) w := fun _ _ _ _ => rfl
  go_enter Tryz.func17, Tryz.ntmps17
  go_wp2
  exact bodyPost_ret (v := .tuple #[.agg #[.func (.func 30) #[] #[], .func (.func 31) #[] #[]], .bool true]) (by simp [results, Tryz.results17, go_sem]) rfl ⟨rfl, bpush (bpush (bre _) _) _⟩
set_option maxHeartbeats 1600000 in
set_option maxRecDepth 100000 in
theorem wayOf_4 (w : World) : Calls Tryz.prog 17 #[.int .i64 4] w fun e w' => e = .returned (.tuple #[.agg #[.func (.func 32) #[] #[], .func (.func 33) #[] #[]], .bool true]) ∧ Below w.heap.size w w' := by
  have hmf : ∀ (fn : Fn) (first cap : Array Value) (w : World), (Instr.makeFunc fn first cap).run Tryz.prog w = .ok (.func fn first cap) w := fun _ _ _ _ => rfl
  go_enter Tryz.func17, Tryz.ntmps17
  go_wp2
  exact bodyPost_ret (v := .tuple #[.agg #[.func (.func 32) #[] #[], .func (.func 33) #[] #[]], .bool true]) (by simp [results, Tryz.results17, go_sem]) rfl ⟨rfl, bpush (bpush (bre _) _) _⟩
set_option maxHeartbeats 1600000 in
set_option maxRecDepth 100000 in
theorem wayOf_5 (w : World) : Calls Tryz.prog 17 #[.int .i64 5] w fun e w' => e = .returned (.tuple #[.agg #[.func (.func 34) #[] #[], .func (.func 35) #[] #[]], .bool true]) ∧ Below w.heap.size w w' := by
  have hmf : ∀ (fn : Fn) (first cap : Array Value) (w : World), (Instr.makeFunc fn first cap).run Tryz.prog w = .ok (.func fn first cap) w := fun _ _ _ _ => rfl
  go_enter Tryz.func17, Tryz.ntmps17
  go_wp2
  exact bodyPost_ret (v := .tuple #[.agg #[.func (.func 34) #[] #[], .func (.func 35) #[] #[]], .bool true]) (by simp [results, Tryz.results17, go_sem]) rfl ⟨rfl, bpush (bpush (bre _) _) _⟩
set_option maxHeartbeats 1600000 in
set_option maxRecDepth 100000 in
theorem wayOf_6 (w : World) : Calls Tryz.prog 17 #[.int .i64 6] w fun e w' => e = .returned (.tuple #[.agg #[.func (.func 36) #[] #[], .func (.func 37) #[] #[]], .bool true]) ∧ Below w.heap.size w w' := by
  have hmf : ∀ (fn : Fn) (first cap : Array Value) (w : World), (Instr.makeFunc fn first cap).run Tryz.prog w = .ok (.func fn first cap) w := fun _ _ _ _ => rfl
  go_enter Tryz.func17, Tryz.ntmps17
  go_wp2
  exact bodyPost_ret (v := .tuple #[.agg #[.func (.func 36) #[] #[], .func (.func 37) #[] #[]], .bool true]) (by simp [results, Tryz.results17, go_sem]) rfl ⟨rfl, bpush (bpush (bre _) _) _⟩
set_option maxHeartbeats 1600000 in
set_option maxRecDepth 100000 in
theorem wayOf_7 (w : World) : Calls Tryz.prog 17 #[.int .i64 7] w fun e w' => e = .returned (.tuple #[.agg #[.func (.func 38) #[] #[], .func (.func 39) #[] #[]], .bool true]) ∧ Below w.heap.size w w' := by
  have hmf : ∀ (fn : Fn) (first cap : Array Value) (w : World), (Instr.makeFunc fn first cap).run Tryz.prog w = .ok (.func fn first cap) w := fun _ _ _ _ => rfl
  go_enter Tryz.func17, Tryz.ntmps17
  go_wp2
  exact bodyPost_ret (v := .tuple #[.agg #[.func (.func 38) #[] #[], .func (.func 39) #[] #[]], .bool true]) (by simp [results, Tryz.results17, go_sem]) rfl ⟨rfl, bpush (bpush (bre _) _) _⟩
set_option maxHeartbeats 1600000 in
set_option maxRecDepth 100000 in
theorem wayOf_no (k : Int) (w : World) (h : k < 1 ∨ 8 ≤ k) : Calls Tryz.prog 17 #[.int .i64 k] w fun e w' => e = .returned (.tuple #[.agg #[.nilFunc, .nilFunc], .bool false]) ∧ Below w.heap.size w w' := by
  have hmf : ∀ (fn : Fn) (first cap : Array Value) (w : World), (Instr.makeFunc fn first cap).run Tryz.prog w = .ok (.func fn first cap) w := fun _ _ _ _ => rfl
  have H := hid h
  clear h
  go_enter Tryz.func17, Tryz.ntmps17
  by_cases h1 : k < 1
  · go_wp2
    exact bodyPost_ret (v := .tuple #[.agg #[.nilFunc, .nilFunc], .bool false]) (by simp [results, Tryz.results17, go_sem]) rfl ⟨rfl, bpush (bpush (bre _) _) _⟩
  · have h8 : 8 ≤ k := by have := H.out; omega
    go_wp2
    exact bodyPost_ret (v := .tuple #[.agg #[.nilFunc, .nilFunc], .bool false]) (by simp [results, Tryz.results17, go_sem]) rfl ⟨rfl, bpush (bpush (bre _) _) _⟩
end Go.Proofs.YtlhofbnnonljaaaGreatDoor
