/- Wk, K7p, K7n, K7o, K7q, K8a, K8b, K8c. -/
import Derived.Test.YtlopdmledeglbaaDoorV2
namespace Go.Proofs.YtlopdmledeglbaaDoor
open Go.RowKit
/-- All that was there is as it was, but two blocks. -/
structure Kept2 (w w' : World) (kr km : Nat) : Prop where
  os : w'.os = w.os
  tape : w'.tape = w.tape
  output : w'.output = w.output
  size : w.heap.size ≤ w'.heap.size
  block : ∀ j, j < w.heap.size → j ≠ kr → j ≠ km → w'.heap[j]? = w.heap[j]?
theorem Kept2.of_grown {w w' : World} {kr km : Nat} (h : w.grownBy w' (some kr)) : Kept2 w w' kr km := ⟨h.os, h.tape, h.output, h.size, fun j hj h1 _ => h.block j hj (by simpa using h1)⟩
theorem Kept2.set {w w' : World} {kr km : Nat} (h : Kept2 w w' kr km) (i : Nat) (x : Value) : Kept2 w (w'.setCell ⟨km, i, none⟩ x) kr km :=
  ⟨h.os, h.tape, h.output, by simpa [World.setCell] using h.size, fun j hj h1 h2 => (Below.heap_setCell w' ⟨km, i, none⟩ x j h2).trans (h.block j hj h1 h2)⟩
theorem Kept2.new {w w' : World} {kr km : Nat} (h : Kept2 w w' kr km) {j : Nat} (hj : w.heap.size ≤ j) (i : Nat) (x : Value) : Kept2 w (w'.setCell ⟨j, i, none⟩ x) kr km :=
  ⟨h.os, h.tape, h.output, by simpa [World.setCell] using h.size, fun k hk h1 h2 => (Below.heap_setCell w' ⟨j, i, none⟩ x k (by show k ≠ j; omega)).trans (h.block k hk h1 h2)⟩
theorem Kept2.later {w w' w'' : World} {kr km : Nat} (h : Kept2 w w' kr km) (hb : Below w'.heap.size w' w'') : Kept2 w w'' kr km :=
  ⟨hb.os.trans h.os, hb.tape.trans h.tape, hb.output.trans h.output, Nat.le_trans h.size hb.size, fun k hk h1 h2 => (hb.block k (Nat.lt_of_lt_of_le hk h.size)).trans (h.block k hk h1 h2)⟩
theorem Kept2.push {w w' : World} {o : Obj} {kr km : Nat} (h : Kept2 (w.alloc o) w' kr km) : Kept2 w w' kr km := by
  have hb := bpush (bre w) o
  exact ⟨h.os.trans hb.os, h.tape.trans hb.tape, h.output.trans hb.output, Nat.le_trans hb.size h.size, fun k hk h1 h2 => (h.block k (Nat.lt_of_lt_of_le hk hb.size) h1 h2).trans (hb.block k hk)⟩
theorem Kept2.below {w w' : World} {B kr km : Nat} (h : Kept2 w w' kr km) (hr : B ≤ kr) (hm : B ≤ km) (hB : B ≤ w.heap.size) : Below B w w' :=
  ⟨h.os, h.tape, h.output, h.size, fun j hj => h.block j (by omega) (by omega) (by omega)⟩
theorem alloc_size (w : World) (o : Obj) : (w.alloc o).heap.size = w.heap.size + 1 := by simp
/-- Block k holds a function. -/
def Fg (W : World) (k ty f : Nat) : Prop := W.heap[k]? = some (.cells #[.func (.func f) #[] #[]] ty (0, 0))
theorem Fg.lt {W : World} {k ty f : Nat} (h : Fg W k ty f) : k < W.heap.size := (Array.getElem?_eq_some_iff.1 h).1
theorem Fg.later {W W' : World} {k ty f : Nat} (h : Fg W k ty f) (hb : Below W.heap.size W W') : Fg W' k ty f := (hb.block k h.lt).trans h
theorem Fg.cell {W : World} {k ty f : Nat} (h : Fg W k ty f) : W.cell? ⟨k, 0, none⟩ = some (.func (.func f) #[] #[]) := cell_of_row W k 0 _ _ _ h
end Go.Proofs.YtlopdmledeglbaaDoor
namespace Go.Proofs.YtlopdmledeglbaaDoor
open Go.RowKit Go.ChangeMaps
abbrev pkv (e s a : Int) (t : ByteArray) : Value := .agg #[.int .i64 e, .int .i64 s, .int .i64 a, .string t]
/-- Block k holds a packet. -/
def Pk (W : World) (k ty : Nat) (e s a : Int) (t : ByteArray) : Prop := W.heap[k]? = some (.cells #[.int .i64 e, .int .i64 s, .int .i64 a, .string t] ty (0, 0))
section
variable {W W' : World} {k ty : Nat} {e s a : Int} {t : ByteArray}
theorem Pk.new (w : World) (ty : Nat) (e s a : Int) (t : ByteArray) : Pk (w.alloc (.cells #[.int .i64 e, .int .i64 s, .int .i64 a, .string t] ty)) w.heap.size ty e s a t := heap_alloc_new w _
theorem Pk.lt (h : Pk W k ty e s a t) : k < W.heap.size := (Array.getElem?_eq_some_iff.1 h).1
theorem Pk.later (h : Pk W k ty e s a t) (hb : Below W.heap.size W W') : Pk W' k ty e s a t := (hb.block k h.lt).trans h
theorem Pk.grown {r : Option Nat} (h : Pk W k ty e s a t) (hg : W.grownBy W' r) (hk : some k ≠ r) : Pk W' k ty e s a t := (hg.block k h.lt hk).trans h
theorem Pk.cells (h : Pk W k ty e s a t) : W.cell? ⟨k, 0, none⟩ = some (.int .i64 e) ∧ W.cell? ⟨k, 1, none⟩ = some (.int .i64 s) ∧ W.cell? ⟨k, 2, none⟩ = some (.int .i64 a) ∧ W.cell? ⟨k, 3, none⟩ = some (.string t) :=
  ⟨cell_of_row W k 0 _ _ _ h, cell_of_row W k 1 _ _ _ h, cell_of_row W k 2 _ _ _ h, cell_of_row W k 3 _ _ _ h⟩
theorem Pk.loose (h : Pk W k ty e s a t) : W.frozen? ⟨k, 0, none⟩ = false ∧ W.frozen? ⟨k, 1, none⟩ = false ∧ W.frozen? ⟨k, 2, none⟩ = false ∧ W.frozen? ⟨k, 3, none⟩ = false :=
  ⟨frozen_of_row W k 0 _ _ h, frozen_of_row W k 1 _ _ h, frozen_of_row W k 2 _ _ h, frozen_of_row W k 3 _ _ h⟩
theorem Pk.s0 (h : Pk W k ty e s a t) (x : Int) : Pk (W.setCell ⟨k, 0, none⟩ (.int .i64 x)) k ty x s a t := heap_setCell_same W k 0 _ _ _ h
theorem Pk.s1 (h : Pk W k ty e s a t) (x : Int) : Pk (W.setCell ⟨k, 1, none⟩ (.int .i64 x)) k ty e x a t := heap_setCell_same W k 1 _ _ _ h
theorem Pk.s2 (h : Pk W k ty e s a t) (x : Int) : Pk (W.setCell ⟨k, 2, none⟩ (.int .i64 x)) k ty e s x t := heap_setCell_same W k 2 _ _ _ h
theorem Pk.s3 (h : Pk W k ty e s a t) (x : ByteArray) : Pk (W.setCell ⟨k, 3, none⟩ (.string x)) k ty e s a x := heap_setCell_same W k 3 _ _ _ h
end
def putP (W : World) (k : Nat) (e s a : Int) (t : ByteArray) : World := (((W.setCell ⟨k, 0, none⟩ (.int .i64 e)).setCell ⟨k, 1, none⟩ (.int .i64 s)).setCell ⟨k, 2, none⟩ (.int .i64 a)).setCell ⟨k, 3, none⟩ (.string t)
theorem Pk.put {W : World} {k ty : Nat} {e0 s0 a0 : Int} {t0 : ByteArray} (h : Pk W k ty e0 s0 a0 t0) (e s a : Int) (t : ByteArray) : Pk (putP W k e s a t) k ty e s a t := (((h.s0 e).s1 s).s2 a).s3 t
theorem putP_grown (W : World) (k : Nat) (e s a : Int) (t : ByteArray) : W.grownBy (putP W k e s a t) (some k) := wst (wst (wst (wst (wre W (some k)) 0 _) 1 _) 2 _) 3 _
abbrev pk0 : Array Value := #[.int .i64 0, .int .i64 0, .int .i64 0, .string ⟨#[]⟩]
set_option maxHeartbeats 800000 in
theorem eqPk_any (e s a : Int) (t : ByteArray) (w : World) : Calls Tryd.prog 11 #[pkv e s a t, pkv e s a t] w fun x w' => x = .returned (.bool true) ∧ Below w.heap.size w w' := by
  obtain ⟨W0, hW0⟩ : ∃ W0, (w.alloc (.cells #[.int .i64 e, .int .i64 s, .int .i64 a, .string t] 27)).alloc (.cells #[.int .i64 e, .int .i64 s, .int .i64 a, .string t] 27) = W0 := ⟨_, rfl⟩
  have b0 : Below w.heap.size w W0 := by subst hW0; exact bpush (bpush (bre _) _) _
  have x0 : Pk W0 w.heap.size 27 e s a t := by subst hW0; exact (Pk.new w _ _ _ _ _).later (bpush (bre _) _)
  have x1 : Pk W0 (w.heap.size + 1) 27 e s a t := by
    subst hW0
    have h := Pk.new (w.alloc (.cells #[.int .i64 e, .int .i64 s, .int .i64 a, .string t] 27)) 27 e s a t
    simpa using h
  have B0 := hid b0
  have c0 := x0.cells
  have c1 := x1.cells
  clear x0 x1 b0
  have e1 : (e != e) = false := by simp
  have e2 : (s != s) = false := by simp
  have e3 : (a != a) = false := by simp
  have e4 : (!t.toList == t.toList) = false := by simp
  go_enter Tryd.func11, Tryd.ntmps11
  go_wp2
  go_ret
  exact ⟨rfl, B0.out⟩
theorem toPk_any (e s a : Int) (t : ByteArray) (w : World) : Calls Tryd.prog 7 #[pkv e s a t] w fun x w' => x = .returned (pkv e s a t) ∧ Below w.heap.size w w' := by
  obtain ⟨W0, hW0⟩ : ∃ W0, ((w.alloc (.cells #[.int .i64 e, .int .i64 s, .int .i64 a, .string t] 23)).alloc (.cells pk0 27)).alloc (.cells pk0 27) = W0 := ⟨_, rfl⟩
  have b0 : Below w.heap.size w W0 := by subst hW0; exact bpush (bpush (bpush (bre _) _) _) _
  have x0 : Pk W0 w.heap.size 23 e s a t := by subst hW0; exact ((Pk.new w _ _ _ _ _).later (bpush (bre _) _)).later (bpush (bre _) _)
  have x1 : Pk W0 (w.heap.size + 1) 27 0 0 0 ⟨#[]⟩ := by
    subst hW0
    have h := Pk.new (w.alloc (.cells #[.int .i64 e, .int .i64 s, .int .i64 a, .string t] 23)) 27 0 0 0 ⟨#[]⟩
    simp at h
    exact h.later (bpush (bre _) _)
  have x2 : Pk W0 (w.heap.size + 1 + 1) 27 0 0 0 ⟨#[]⟩ := by
    subst hW0
    have h := Pk.new ((w.alloc (.cells #[.int .i64 e, .int .i64 s, .int .i64 a, .string t] 23)).alloc (.cells pk0 27)) 27 0 0 0 ⟨#[]⟩
    simpa using h
  have A1 := hid x1
  have A2 := hid x2
  have B0 := hid b0
  have HW := hid hW0
  have c0 := x0.cells
  have c1 := x1.cells
  have f1 := x1.loose
  have c2 := x2.cells
  have f2 := x2.loose
  clear x0 x1 x2 b0 hW0
  go_enter Tryd.func7, Tryd.ntmps7
  go_upto_region 2 with fail
  rw [HW.out]
  clear HW
  go_wp2
  have g2 := putP_grown W0 (w.heap.size + 1 + 1) e s a t
  have g3 := putP_grown (putP W0 (w.heap.size + 1 + 1) e s a t) (w.heap.size + 1) e s a t
  have d := ((A1.out.grown g2 (by simp)).put e s a t).cells
  unfold putP at g2 g3 d
  exact bodyPost_ret (v := pkv e s a t) (by simp [results, Tryd.results7, go_sem, d]) rfl ⟨rfl, B0.out.trans ((below_of_grown g2 (by omega) B0.out.size).trans (below_of_grown g3 (by omega) (Nat.le_trans B0.out.size g2.size)))⟩
theorem szPk_any (e s a : Int) (t : ByteArray) (lf : Int) (w : World) (ht : (t.size : Int) ≤ 9223372036854775807) (h0 : 0 ≤ lf) (h1 : lf ≤ 1048576) :
    Calls Tryd.prog 5 #[pkv e s a t, .int .i64 lf] w fun x w' => ∃ q, x = .returned (.int .i64 q) ∧ (¬ q < 0 → t.size ≤ 1048576) ∧ Below w.heap.size w w' := by
  obtain ⟨W0, hW0⟩ : ∃ W0, w.alloc (.cells #[.int .i64 e, .int .i64 s, .int .i64 a, .string t] 23) = W0 := ⟨_, rfl⟩
  have b0 : Below w.heap.size w W0 := by subst hW0; exact bpush (bre _) _
  have x0 : Pk W0 w.heap.size 23 e s a t := by subst hW0; exact Pk.new w _ _ _ _ _
  have B0 := hid b0
  have c0 := x0.cells
  clear x0 b0
  have hw : wrap64 (lf - (t.size : Int)) = lf - (t.size : Int) := by unfold wrap64; omega
  by_cases h2 : lf - (t.size : Int) < 0
  · clear h0 h1 ht
    go_enter Tryd.func5, Tryd.ntmps5
    go_wp2
    go_ret
    exact ⟨-1, rfl, fun h => absurd h (by decide), B0.out⟩
  · have HF : Hid (t.size ≤ 1048576) := hid (by omega)
    clear h0 h1 ht
    go_enter Tryd.func5, Tryd.ntmps5
    go_wp2
    go_ret
    exact ⟨_, rfl, fun _ => HF.out, B0.out⟩
/-- A packet's bytes, without the seal; whether it has a text. -/
def pkt (e s a : Int) (t : ByteArray) : ByteArray := vi e ++ vi s ++ vi a ++ vi t.size ++ t
def pkOk (e s a : Int) (t : ByteArray) : Bool := decide (0 ≤ e ∧ e ≤ 1000000000) && (decide (0 ≤ s ∧ s ≤ 1000000000) && (decide (0 ≤ a ∧ a ≤ 1000000000) && decide (t.size ≤ 400)))
def pkS (e s a : Int) (t : ByteArray) : ByteArray := pkt e s a t ++ tail4 (pkt e s a t)
def pkR (e s a : Int) (t : ByteArray) : Value := if pkOk e s a t = true then .tuple #[.string (pkS e s a t), .bool true] else .tuple #[.string ⟨#[]⟩, .bool false]
theorem vi_5 (n : Int) (h : n ≤ 1000000000) : (vi n).size ≤ 5 := by
  have h1 := vbs_len_le 4 n.toNat (by omega)
  show (vbs n.toNat).toArray.size ≤ _
  simpa using h1
theorem pkt_size {e s a : Int} {t : ByteArray} (h : pkOk e s a t = true) : (pkt e s a t).size ≤ 420 := by
  simp only [pkOk, Bool.and_eq_true, decide_eq_true_eq] at h
  obtain ⟨⟨_, h1⟩, ⟨_, h2⟩, ⟨_, h3⟩, h4⟩ := h
  unfold pkt
  simp only [ByteArray.size_append]
  have a1 := vi_5 e h1
  have a2 := vi_5 s h2
  have a3 := vi_5 a h3
  have a4 := vi_5 t.size (by omega)
  omega
set_option maxHeartbeats 1600000 in
set_option maxRecDepth 100000 in
theorem specPacketText_any (e s a : Int) (t : ByteArray) (w : World) (ht : t.size ≤ 1048576) :
    Calls Tryd.prog 6 #[pkv e s a t] w fun x w' => x = .returned (pkR e s a t) ∧ Below w.heap.size w w' := by
  obtain ⟨W0, hW0⟩ : ∃ W0, w.alloc (.cells #[.int .i64 e, .int .i64 s, .int .i64 a, .string t] 27) = W0 := ⟨_, rfl⟩
  have b0 : Below w.heap.size w W0 := by subst hW0; exact bpush (bre _) _
  have x0 : Pk W0 w.heap.size 27 e s a t := by subst hW0; exact Pk.new _ _ _ _ _ _
  have X0 := hid x0
  have B0 := hid b0
  have c0 := x0.cells
  have HW := hid hW0
  have HT := hid ht
  clear x0 b0 ht hW0
  by_cases he : 0 ≤ e ∧ e ≤ 1000000000
  rotate_left
  · have hr : pkR e s a t = .tuple #[.string ⟨#[]⟩, .bool false] := by unfold pkR pkOk; rw [if_neg (by simp only [Bool.and_eq_true, decide_eq_true_eq]; exact fun q => he q.1)]
    rw [hr]
    clear hr
    go_enter Tryd.func6, Tryd.ntmps6
    go_wp2_with fail
    rw [HW.out]
    refine (l01In_no e 0 1000000000 _ (by omega)).mono ?_; rintro y w1 ⟨rfl, hw1⟩
    rw [← hw1]
    clear hw1 w1
    go_wp2
    refine bodyPost_ret (v := .tuple #[.string ⟨#[]⟩, .bool false]) (by simp [results, Tryd.results6, go_sem]) rfl ⟨rfl, B0.out⟩
  by_cases hs : 0 ≤ s ∧ s ≤ 1000000000
  rotate_left
  · have hr : pkR e s a t = .tuple #[.string ⟨#[]⟩, .bool false] := by unfold pkR pkOk; rw [if_neg (by simp only [Bool.and_eq_true, decide_eq_true_eq]; exact fun q => hs q.2.1)]
    rw [hr]
    clear hr
    go_enter Tryd.func6, Tryd.ntmps6
    go_wp2_with fail
    rw [HW.out]
    refine (l01In_yes e 0 1000000000 _ he.1 he.2).mono ?_; rintro y w1 ⟨rfl, hw1⟩
    rw [← hw1]
    clear hw1 w1
    go_wp2_with fail
    refine (l01In_no s 0 1000000000 _ (by omega)).mono ?_; rintro y w1 ⟨rfl, hw1⟩
    rw [← hw1]
    clear hw1 w1
    go_wp2
    refine bodyPost_ret (v := .tuple #[.string ⟨#[]⟩, .bool false]) (by simp [results, Tryd.results6, go_sem]) rfl ⟨rfl, B0.out⟩
  by_cases ha : 0 ≤ a ∧ a ≤ 1000000000
  rotate_left
  · have hr : pkR e s a t = .tuple #[.string ⟨#[]⟩, .bool false] := by unfold pkR pkOk; rw [if_neg (by simp only [Bool.and_eq_true, decide_eq_true_eq]; exact fun q => ha q.2.2.1)]
    rw [hr]
    clear hr
    go_enter Tryd.func6, Tryd.ntmps6
    go_wp2_with fail
    rw [HW.out]
    refine (l01In_yes e 0 1000000000 _ he.1 he.2).mono ?_; rintro y w1 ⟨rfl, hw1⟩
    rw [← hw1]
    clear hw1 w1
    go_wp2_with fail
    refine (l01In_yes s 0 1000000000 _ hs.1 hs.2).mono ?_; rintro y w1 ⟨rfl, hw1⟩
    rw [← hw1]
    clear hw1 w1
    go_wp2_with fail
    refine (l01In_no a 0 1000000000 _ (by omega)).mono ?_; rintro y w1 ⟨rfl, hw1⟩
    rw [← hw1]
    clear hw1 w1
    go_wp2
    refine bodyPost_ret (v := .tuple #[.string ⟨#[]⟩, .bool false]) (by simp [results, Tryd.results6, go_sem]) rfl ⟨rfl, B0.out⟩
  by_cases hl : t.size ≤ 400
  rotate_left
  · have hr : pkR e s a t = .tuple #[.string ⟨#[]⟩, .bool false] := by unfold pkR pkOk; rw [if_neg (by simp only [Bool.and_eq_true, decide_eq_true_eq]; exact fun q => hl q.2.2.2)]
    rw [hr]
    clear hr
    have h4 : (400 : Int) < (t.size : Int) := by omega
    go_enter Tryd.func6, Tryd.ntmps6
    go_wp2_with fail
    rw [HW.out]
    refine (l01In_yes e 0 1000000000 _ he.1 he.2).mono ?_; rintro y w1 ⟨rfl, hw1⟩
    rw [← hw1]
    clear hw1 w1
    go_wp2_with fail
    refine (l01In_yes s 0 1000000000 _ hs.1 hs.2).mono ?_; rintro y w1 ⟨rfl, hw1⟩
    rw [← hw1]
    clear hw1 w1
    go_wp2_with fail
    refine (l01In_yes a 0 1000000000 _ ha.1 ha.2).mono ?_; rintro y w1 ⟨rfl, hw1⟩
    rw [← hw1]
    clear hw1 w1
    go_wp2
    refine bodyPost_ret (v := .tuple #[.string ⟨#[]⟩, .bool false]) (by simp [results, Tryd.results6, go_sem]) rfl ⟨rfl, B0.out⟩
  have hok : pkOk e s a t = true := by unfold pkOk; simp only [Bool.and_eq_true, decide_eq_true_eq]; exact ⟨he, hs, ha, hl⟩
  have hr : pkR e s a t = .tuple #[.string (pkS e s a t), .bool true] := by unfold pkR; rw [if_pos hok]
  have hsz := pkt_size hok
  rw [hr]
  clear hr hok
  have h4 : ¬ (400 : Int) < (t.size : Int) := by omega
  obtain ⟨P, hP⟩ : ∃ P, pkS e s a t = P := ⟨_, rfl⟩
  rw [hP]
  obtain ⟨xe, qe, ze, ve⟩ := var_s e he.1 he.2
  obtain ⟨xs, qs, zs, vs⟩ := var_s s hs.1 hs.2
  obtain ⟨xa, qa, za, va⟩ := var_s a ha.1 ha.2
  obtain ⟨xt, qt, zt, vt⟩ := var_s (t.size : Int) (by omega) (by omega)
  have HP : Hid ((xe ++ xs ++ xa ++ xt ++ t) ++ tail4 (xe ++ xs ++ xa ++ xt ++ t) = P ∧ (xe ++ xs ++ xa ++ xt ++ t).size ≤ 20000) := hid (by
    rw [qe.out, qs.out, qa.out, qt.out]
    exact ⟨hP, Nat.le_trans hsz (by decide)⟩)
  clear hP hsz qe qs qa qt
  have m1 : ¬ 9223372036854775807 < xe.size + xs.size := by omega
  have m2 : ¬ 9223372036854775807 < xe.size + xs.size + xa.size := by omega
  have m3 : ¬ 9223372036854775807 < xe.size + xs.size + xa.size + xt.size := by omega
  have m4 : ¬ 9223372036854775807 < xe.size + xs.size + xa.size + xt.size + t.size := by omega
  clear ze zs za zt
  go_enter Tryd.func6, Tryd.ntmps6
  go_wp2_with fail
  rw [HW.out]
  refine (l01In_yes e 0 1000000000 _ he.1 he.2).mono ?_; rintro y w1 ⟨rfl, hw1⟩
  rw [← hw1]
  clear hw1 w1
  go_wp2_with fail
  refine (l01In_yes s 0 1000000000 _ hs.1 hs.2).mono ?_; rintro y w1 ⟨rfl, hw1⟩
  rw [← hw1]
  clear hw1 w1
  go_wp2_with fail
  refine (l01In_yes a 0 1000000000 _ ha.1 ha.2).mono ?_; rintro y w1 ⟨rfl, hw1⟩
  rw [← hw1]
  clear hw1 w1
  go_upto_region 3 with fail
  clear c0 he hs ha
  refine wp_region_noPanic ?_
  refine wp_region_held_drew (S := (fun W => W.cell? ⟨w.heap.size, 0, none⟩ = some (.int .i64 e) ∧ W.cell? ⟨w.heap.size, 1, none⟩ = some (.int .i64 s) ∧ W.cell? ⟨w.heap.size, 2, none⟩ = some (.int .i64 a) ∧ W.cell? ⟨w.heap.size, 3, none⟩ = some (.string t))) (by kernel_rfl) X0.out.cells (fun hHeld => ?_)
  obtain ⟨v0, hv0⟩ : ∃ x, W0.drew = x := ⟨_, rfl⟩
  replace X0 := hid (X0.out.later (bdr (bre _)))
  replace B0 := hid (btr B0.out (bdr (bre _)))
  rw [hv0] at X0 B0 hHeld
  rw [hv0]
  clear hv0
  refine tk 0 ?_
  refine tk 1 ?_
  refine tk 3 ?_
  refine tk 4 ?_
  refine tk 7 ?_
  refine tk 8 ?_
  refine tk 11 ?_
  refine tk 12 ?_
  refine tk 13 ?_
  refine tk 16 ?_
  refine tk 17 ?_
  clear hHeld
  refine ry 2 (fun K hK => ?_)
  go_simp
  refine (ve.out _).mono ?_; rintro y v1 ⟨rfl, hb⟩
  replace X0 := hid (X0.out.later hb)
  replace B0 := hid (btr B0.out hb)
  clear hb
  go_wp2_with fail
  refine hK.out _ _ X0.out.cells (fun hHeld => ?_)
  clear hK K
  try simp only [Act.put, List.setIfInBounds_toArray, List.set_cons_zero, List.set_cons_succ]
  clear hHeld
  refine ry 5 (fun K hK => ?_)
  go_simp
  refine (vs.out _).mono ?_; rintro y v2 ⟨rfl, hb⟩
  replace X0 := hid (X0.out.later hb)
  replace B0 := hid (btr B0.out hb)
  clear hb
  go_wp2_with fail
  refine hK.out _ _ X0.out.cells (fun hHeld => ?_)
  clear hK K
  try simp only [Act.put, List.setIfInBounds_toArray, List.set_cons_zero, List.set_cons_succ]
  refine tk 6 ?_
  clear hHeld
  refine ry 9 (fun K hK => ?_)
  go_simp
  refine (va.out _).mono ?_; rintro y v3 ⟨rfl, hb⟩
  replace X0 := hid (X0.out.later hb)
  replace B0 := hid (btr B0.out hb)
  clear hb
  go_wp2_with fail
  refine hK.out _ _ X0.out.cells (fun hHeld => ?_)
  clear hK K
  try simp only [Act.put, List.setIfInBounds_toArray, List.set_cons_zero, List.set_cons_succ]
  refine tk 10 ?_
  clear hHeld
  refine ry 14 (fun K hK => ?_)
  go_simp
  refine (vt.out _).mono ?_; rintro y v4 ⟨rfl, hb⟩
  replace X0 := hid (X0.out.later hb)
  replace B0 := hid (btr B0.out hb)
  clear hb
  go_wp2_with fail
  refine hK.out _ _ X0.out.cells (fun hHeld => ?_)
  clear hK K
  try simp only [Act.put, List.setIfInBounds_toArray, List.set_cons_zero, List.set_cons_succ]
  refine tk 15 ?_
  refine tk 18 ?_
  clear hHeld
  refine ry 19 (fun K hK => ?_)
  go_simp
  refine (specSealed_yes _ _ HP.out.2).mono ?_; rintro y v5 ⟨rfl, hb⟩
  replace X0 := hid (X0.out.later hb)
  replace B0 := hid (btr B0.out hb)
  clear hb
  go_wp2_with fail
  refine hK.out _ _ X0.out.cells (fun hHeld => ?_)
  clear hK K
  try simp only [Act.put, List.setIfInBounds_toArray, List.set_cons_zero, List.set_cons_succ]
  refine tk 20 ?_
  refine tk 21 ?_
  refine tk 22 ?_
  refine tk 23 ?_
  clear hHeld
  refine wpAnyH_done (by kernel_rfl) ?_ _
  refine NoPanic.normal ?_
  go_wp2
  refine bodyPost_ret (v := .tuple #[.string ((xe ++ xs ++ xa ++ xt ++ t) ++ tail4 (xe ++ xs ++ xa ++ xt ++ t)), .bool true]) (by simp [results, Tryd.results6, go_sem]) rfl ⟨by rw [HP.out.1], B0.out⟩
/-- What is sealed in a text, and whether it is. -/
def unsK (s : ByteArray) : ByteArray × Bool := if 4 ≤ s.size ∧ s.size ≤ 20004 ∧ tail4 (s.extract 0 (s.size - 4)) = s.extract (s.size - 4) s.size then (s.extract 0 (s.size - 4), true) else (⟨#[]⟩, false)
theorem unsK_size (s : ByteArray) : (unsK s).1.size ≤ 20000 := by
  unfold unsK
  split
  · rw [ByteArray.size_extract]; omega
  · decide
theorem specUnsealedK_any (s : ByteArray) (w : World) (hm : s.size ≤ 1048576) :
    Calls Tryd.prog 19 #[.string s] w fun e w' => e = .returned (.tuple #[.string (unsK s).1, .bool (unsK s).2]) ∧ Below w.heap.size w w' := by
  by_cases h : 4 ≤ s.size ∧ s.size ≤ 20004
  · by_cases h2 : tail4 (s.extract 0 (s.size - 4)) = s.extract (s.size - 4) s.size
    · have e : unsK s = (s.extract 0 (s.size - 4), true) := by unfold unsK; rw [if_pos ⟨h.1, h.2, h2⟩]
      rw [e]
      exact specUnsealed_yes s (s.size - 4) w (by omega) (by omega) h2
    · have e : unsK s = (⟨#[]⟩, false) := by unfold unsK; rw [if_neg (fun x => h2 x.2.2)]
      rw [e]
      exact specUnsealed_no s (s.size - 4) w (by omega) (by omega) h2
  · have e : unsK s = (⟨#[]⟩, false) := by unfold unsK; rw [if_neg (fun x => h ⟨x.1, x.2.1⟩)]
    rw [e]
    exact specUnsealed_size s w hm (by omega)
/-- These bytes stand there. -/
def AtK (s : ByteArray) (a : Int) (X : List UInt8) : Prop := 0 ≤ a ∧ a ≤ s.size ∧ ∃ R, (bl s).drop a.toNat = X ++ R
section
variable {s : ByteArray} {a : Int} {X Y : List UInt8}
theorem AtK.here (h : AtK s a (X ++ Y)) : AtK s a X := by
  obtain ⟨h1, h2, R, h3⟩ := h
  exact ⟨h1, h2, Y ++ R, by rw [h3, List.append_assoc]⟩
theorem AtK.next (h : AtK s a (X ++ Y)) : AtK s (a + X.length) Y := by
  obtain ⟨h1, h2, R, h3⟩ := h
  have hl : X.length ≤ s.size - a.toNat := by
    have h4 := congrArg List.length h3
    rw [List.length_drop, bl_len, List.length_append, List.length_append] at h4
    omega
  refine ⟨by omega, by omega, R, ?_⟩
  rw [show (a + (X.length : Int)).toNat = a.toNat + X.length by omega, ← List.drop_drop, h3, List.append_assoc, List.drop_left]
theorem AtK.var {n : Int} (h : AtK s a (bl (vi n))) (hn : 0 ≤ n ∧ n ≤ 1000000000) : rd s a = some (n, a + (vi n).size) := by
  obtain ⟨h1, h2, R, h3⟩ := h
  rw [bl_vi] at h3
  rw [rd_here h1 h2 hn h3, ← bl_len, bl_vi]
theorem AtK.short {t : ByteArray} (h : AtK s a (bl (vi t.size) ++ bl t)) (ht : t.size ≤ 20000) : rsh s a = some (t, a + ((vi t.size).size + t.size : Nat)) := by
  obtain ⟨h1, h2, R, h3⟩ := h
  rw [bl_vi] at h3
  rw [rsh_here h1 h2 ht h3]
  have e : (vi (t.size : Int)).size = (vbs t.size).length := by rw [← bl_len, bl_vi]; rfl
  rw [e]
  simp only [Option.some.injEq, Prod.mk.injEq, true_and]
  omega
end
theorem unsK_sealed (u : ByteArray) (hu : u.size ≤ 20000) : unsK (u ++ tail4 u) = (u, true) := by
  have hz := tail4_size u
  have e1 : (u ++ tail4 u).size - 4 = u.size := by rw [ByteArray.size_append, hz]; omega
  have e2 : (u ++ tail4 u).extract 0 u.size = u := by
    apply bl_inj
    have h : bl ((u ++ tail4 u).extract 0 u.size) = (bl (u ++ tail4 u)).take u.size := by simp only [bl, ByteArray.data_extract, Array.toList_extract, List.extract, List.drop_zero, Nat.sub_zero]
    rw [h, bl_app, ← bl_len u, List.take_left]
  have e3 : (u ++ tail4 u).extract u.size (u ++ tail4 u).size = tail4 u := by
    apply bl_inj
    have h : bl ((u ++ tail4 u).extract u.size (u ++ tail4 u).size) = ((bl (u ++ tail4 u)).drop u.size).take ((u ++ tail4 u).size - u.size) := by simp only [bl, ByteArray.data_extract, Array.toList_extract, List.extract]
    rw [h, bl_app, ← bl_len u, List.drop_left, ByteArray.size_append, bl_len, List.take_of_length_le (by rw [bl_len]; omega)]
  unfold unsK
  rw [e1, e2, e3, if_pos ⟨by rw [ByteArray.size_append, hz]; omega, by rw [ByteArray.size_append, hz]; omega, rfl⟩]
theorem nxt_sure {s : ByteArray} {b : Int} {n b' m c : Int} {bad bad' : Bool} (h : nxt s b bad n b' bad') (hb : bad = false) (hr : rd s b = some (m, c)) : n = m ∧ b' = c ∧ bad' = false := by
  rcases h with ⟨_, h2, h3⟩ | ⟨_, _, _, h4 | h4⟩
  · rw [hr] at h3; simp only [Option.some.injEq, Prod.mk.injEq] at h3; exact ⟨h3.1.symm, h3.2.symm, h2⟩
  · rw [hb] at h4; cases h4
  · rw [hr] at h4; cases h4
theorem nxtS_sure {s : ByteArray} {b : Int} {t u : ByteArray} {b' c : Int} {bad bad' : Bool} (h : nxtS s b bad t b' bad') (hb : bad = false) (hr : rsh s b = some (u, c)) : t = u ∧ b' = c ∧ bad' = false := by
  rcases h with ⟨_, h2, h3⟩ | ⟨_, _, _, h4 | h4⟩
  · rw [hr] at h3; simp only [Option.some.injEq, Prod.mk.injEq] at h3; exact ⟨h3.1.symm, h3.2.symm, h2⟩
  · rw [hb] at h4; cases h4
  · rw [hr] at h4; cases h4
theorem nxtS_size {s : ByteArray} {b : Int} {t : ByteArray} {b' : Int} {bad bad' : Bool} (h : nxtS s b bad t b' bad') : t.size ≤ s.size := by
  rcases h with ⟨_, _, h3⟩ | ⟨_, rfl, _⟩
  · have h4 := congrArg List.length (rsh_stood h3).1
    rw [List.length_drop, bl_len, List.length_append, List.length_append, bl_len] at h4
    omega
  · exact Nat.zero_le _
/-- A packet's text reads as that packet. -/
theorem pkt_read {t : ByteArray} {n1 n2 n3 b1 b2 b3 b4 : Int} {u : ByteArray} {d1 d2 d3 d4 : Bool} (h1 : nxt (unsK t).1 0 (!(unsK t).2) n1 b1 d1) (h2 : nxt (unsK t).1 b1 d1 n2 b2 d2) (h3 : nxt (unsK t).1 b2 d2 n3 b3 d3) (h4 : nxtS (unsK t).1 b3 d3 u b4 d4)
    {e s a : Int} {v : ByteArray} (hok : pkOk e s a v = true) (ht : pkS e s a v = t) : n1 = e ∧ n2 = s ∧ n3 = a ∧ u = v ∧ d4 = false := by
  have hz := pkt_size hok
  have hu : unsK t = (pkt e s a v, true) := by rw [← ht]; exact unsK_sealed _ (by omega)
  rw [hu] at h1 h2 h3 h4
  simp only [pkOk, Bool.and_eq_true, decide_eq_true_eq] at hok
  obtain ⟨r1, r2, r3, r4⟩ := hok
  have a0 : AtK (pkt e s a v) 0 (bl (vi e) ++ (bl (vi s) ++ (bl (vi a) ++ (bl (vi v.size) ++ bl v)))) := by
    refine ⟨by decide, by omega, [], ?_⟩
    unfold pkt
    simp only [bl_app, List.append_assoc, List.append_nil]
    rfl
  obtain ⟨e1, e2, e3⟩ := nxt_sure h1 rfl (AtK.var a0.here r1)
  have a1 := a0.next
  rw [bl_len] at a1
  rw [e2] at h2
  obtain ⟨f1, f2, f3⟩ := nxt_sure h2 e3 (AtK.var a1.here r2)
  have a2 := a1.next
  rw [bl_len] at a2
  rw [f2] at h3
  obtain ⟨g1, g2, g3⟩ := nxt_sure h3 f3 (AtK.var a2.here r3)
  have a3 := a2.next
  rw [bl_len] at a3
  rw [g2] at h4
  obtain ⟨k1, _, k3⟩ := nxtS_sure h4 g3 (AtK.short a3 (by omega))
  exact ⟨e1, f1, g1, k1, k3⟩
/-- What reading a packet answers. -/
def RpPost (t : ByteArray) (x : Ending) : Prop :=
  (∃ e s a u, pkOk e s a u = true ∧ pkS e s a u = t ∧ x = .returned (.tuple #[pkv e s a u, .bool true])) ∨ ((∀ e s a u, pkOk e s a u = true → pkS e s a u ≠ t) ∧ x = .returned (.tuple #[pkv 0 0 0 ⟨#[]⟩, .bool false]))
set_option maxHeartbeats 3200000 in
set_option maxRecDepth 100000 in
theorem specReadPacket_any (t : ByteArray) (w : World) (ht : t.size ≤ 1048576) :
    Calls Tryd.prog 9 #[.string t] w fun x w' => RpPost t x ∧ Below w.heap.size w w' := by
  obtain ⟨W0, hW0⟩ : ∃ W0, w.alloc (.cells pk0 27) = W0 := ⟨_, rfl⟩
  have b0 : Below w.heap.size w W0 := by subst hW0; exact bpush (bre _) _
  have x0 : Pk W0 w.heap.size 27 0 0 0 ⟨#[]⟩ := by subst hW0; exact Pk.new _ _ _ _ _ _
  have A0 := hid x0
  have B0 := hid b0
  have HW := hid hW0
  obtain ⟨s, hs⟩ : ∃ s, (unsK t).1 = s := ⟨_, rfl⟩
  obtain ⟨ok, hok⟩ : ∃ ok, (unsK t).2 = ok := ⟨_, rfl⟩
  have HZ : Hid (s.size ≤ 20000) := hid (by rw [← hs]; exact unsK_size t)
  have CU := hid (fun (W : World) => specUnsealedK_any t W ht)
  rw [hs, hok] at CU
  have HT := hid ht
  have HS := hid hs
  have HO := hid hok
  clear x0 b0 hW0 hs hok ht
  go_enter Tryd.func9, Tryd.ntmps9
  go_wp2_with fail
  rw [HW.out]
  clear HW
  refine (CU.out _).mono ?_; rintro x w1 ⟨rfl, hb⟩
  have A0 := hid (A0.out.later hb)
  have B0 := hid (btr B0.out hb)
  clear hb CU
  obtain ⟨w2, hw2⟩ : ∃ W, w1.alloc (.cells #[.string s, .int .i64 0, .bool (!ok)] 41) = W := ⟨_, rfl⟩
  have b2 : Below w1.heap.size w1 w2 := by subst hw2; exact bpush (bre _) _
  have KC := hid (show Cg w2 w1.heap.size s 0 (!ok) by subst hw2; exact heap_alloc_new w1 _)
  have L1 : Hid (w.heap.size < w1.heap.size) := hid A0.out.lt
  have A0 := hid (A0.out.later b2)
  have B0 := hid (btr B0.out b2)
  clear b2
  go_wp2_with fail
  clear hw2
  refine (l05Var_any w1.heap.size s 0 (!ok) _ (by have := HZ.out; omega) KC.out).mono ?_; rintro x w3 ⟨n1, b1, d1, rfl, hc, h1, hg⟩
  have N1 := hid h1
  have KC := hid hc
  have l1 := L1.out
  have A0 := hid (A0.out.grown hg (by simp; omega))
  have B0 := hid (B0.out.trans (below_of_grown hg (by omega) B0.out.size))
  obtain ⟨w4, hw4⟩ : ∃ W, w3.alloc (.cells #[.int .i64 n1, .int .i64 0, .int .i64 0, .string ⟨#[]⟩] 27) = W := ⟨_, rfl⟩
  have b4 : Below w3.heap.size w3 w4 := by subst hw4; exact bpush (bre _) _
  have PB := hid (show Pk w4 w3.heap.size 27 n1 0 0 ⟨#[]⟩ by subst hw4; exact Pk.new _ _ _ _ _ _)
  have L3 : Hid (w1.heap.size < w3.heap.size) := hid KC.out.lt
  have KC := hid (KC.out.later b4)
  have A0 := hid (A0.out.later b4)
  have B0 := hid (btr B0.out b4)
  have HW4 := hid hw4
  clear hc h1 hg b4 l1 hw4
  go_upto_region 4 with fail
  rw [HW4.out]
  clear HW4
  go_wp2_with fail
  refine (l05Var_any w1.heap.size s b1 d1 _ (by have := HZ.out; omega) KC.out).mono ?_; rintro x w5 ⟨n2, b2, d2, rfl, hc, h1, hg⟩
  have N2 := hid h1
  have KC := hid hc
  have l1 := L1.out; have l3 := L3.out
  have A0 := hid (A0.out.grown hg (by simp; omega))
  have PB := hid (PB.out.grown hg (by simp; omega))
  have B0 := hid (B0.out.trans (below_of_grown hg (by omega) B0.out.size))
  clear hc h1 hg l1 l3
  have c1 := PB.out.cells
  have f1 := PB.out.loose
  go_upto_region 5 with fail
  obtain ⟨y2, hy2⟩ : ∃ W, w5.setCell ⟨w3.heap.size, 1, none⟩ (.int .i64 n2) = W := ⟨_, rfl⟩
  have gg := wst (wre w5 (some w3.heap.size)) 1 (.int .i64 n2)
  have l1 := L1.out; have l3 := L3.out
  have hc := KC.out
  have hk : y2.heap[w1.heap.size]? = w5.heap[w1.heap.size]? := by rw [← hy2]; exact gg.block _ hc.lt (by simp; omega)
  have KC : Hid (Cg y2 w1.heap.size s _ _) := hid (hk.trans hc)
  have A0 := hid (A0.out.grown gg (by simp; omega))
  have PB := hid (PB.out.s1 n2)
  have B0 := hid (B0.out.trans (below_of_grown gg (by omega) B0.out.size))
  rw [hy2] at A0 PB B0 ⊢
  clear hy2 gg l1 l3 hc hk c1 f1
  go_wp2_with fail
  refine (l05Var_any w1.heap.size s b2 d2 _ (by have := HZ.out; omega) KC.out).mono ?_; rintro x w7 ⟨n3, b3, d3, rfl, hc, h1, hg⟩
  have N3 := hid h1
  have KC := hid hc
  have l1 := L1.out; have l3 := L3.out
  have A0 := hid (A0.out.grown hg (by simp; omega))
  have PB := hid (PB.out.grown hg (by simp; omega))
  have B0 := hid (B0.out.trans (below_of_grown hg (by omega) B0.out.size))
  clear hc h1 hg l1 l3
  have c1 := PB.out.cells
  have f1 := PB.out.loose
  go_upto_region 6 with fail
  obtain ⟨y3, hy3⟩ : ∃ W, w7.setCell ⟨w3.heap.size, 2, none⟩ (.int .i64 n3) = W := ⟨_, rfl⟩
  have gg := wst (wre w7 (some w3.heap.size)) 2 (.int .i64 n3)
  have l1 := L1.out; have l3 := L3.out
  have hc := KC.out
  have hk : y3.heap[w1.heap.size]? = w7.heap[w1.heap.size]? := by rw [← hy3]; exact gg.block _ hc.lt (by simp; omega)
  have KC : Hid (Cg y3 w1.heap.size s _ _) := hid (hk.trans hc)
  have A0 := hid (A0.out.grown gg (by simp; omega))
  have PB := hid (PB.out.s2 n3)
  have B0 := hid (B0.out.trans (below_of_grown gg (by omega) B0.out.size))
  rw [hy3] at A0 PB B0 ⊢
  clear hy3 gg l1 l3 hc hk c1 f1
  go_wp2_with fail
  refine (l05Short_any w1.heap.size s b3 d3 _ (by have := HZ.out; omega) KC.out).mono ?_; rintro x w9 ⟨u, b4, d4, rfl, hc, h1, hg⟩
  have N4 := hid h1
  have KC := hid hc
  have l1 := L1.out; have l3 := L3.out
  have A0 := hid (A0.out.grown hg (by simp; omega))
  have PB := hid (PB.out.grown hg (by simp; omega))
  have B0 := hid (B0.out.trans (below_of_grown hg (by omega) B0.out.size))
  clear hc h1 hg l1 l3
  have c1 := PB.out.cells
  have f1 := PB.out.loose
  go_upto_region 7 with fail
  obtain ⟨y4, hy4⟩ : ∃ W, w9.setCell ⟨w3.heap.size, 3, none⟩ (.string u) = W := ⟨_, rfl⟩
  have gg := wst (wre w9 (some w3.heap.size)) 3 (.string u)
  have l1 := L1.out; have l3 := L3.out
  have hc := KC.out
  have hk : y4.heap[w1.heap.size]? = w9.heap[w1.heap.size]? := by rw [← hy4]; exact gg.block _ hc.lt (by simp; omega)
  have KC : Hid (Cg y4 w1.heap.size s _ _) := hid (hk.trans hc)
  have A0 := hid (A0.out.grown gg (by simp; omega))
  have PB := hid (PB.out.s3 u)
  have B0 := hid (B0.out.trans (below_of_grown gg (by omega) B0.out.size))
  rw [hy4] at A0 PB B0 ⊢
  clear hy4 gg l1 l3 hc hk c1 f1
  have HU : Hid (u.size ≤ 1048576) := hid (by have h1 := nxtS_size N4.out; have h2 := HZ.out; omega)
  have HR : Hid (∀ e z a v, pkOk e z a v = true → pkS e z a v = t → n1 = e ∧ n2 = z ∧ n3 = a ∧ u = v ∧ d4 = false) := hid (by
    intro e z a v q1 q2
    have m1 := N1.out; have m2 := N2.out; have m3 := N3.out; have m4 := N4.out
    rw [← HS.out] at m1 m2 m3 m4
    rw [← HO.out] at m1
    exact pkt_read m1 m2 m3 m4 q1 q2)
  clear N1 N2 N3 N4
  have c1 := PB.out.cells
  go_wp2_with fail
  clear c1
  refine (specPacketText_any n1 n2 n3 u _ HU.out).mono ?_; rintro x w10 ⟨rfl, hb⟩
  have KC := hid (KC.out.later hb)
  have A0 := hid (A0.out.later hb)
  have PB := hid (PB.out.later hb)
  have B0 := hid (btr B0.out hb)
  clear hb
  have k0 := KC.out.cells
  have c0 := A0.out.cells
  have f0 := A0.out.loose
  have c1 := PB.out.cells
  by_cases hk : pkOk n1 n2 n3 u = true
  rotate_left
  · have HN : Hid (∀ e z a v, pkOk e z a v = true → pkS e z a v ≠ t) := hid (fun e z a v q1 q2 => by
      obtain ⟨rfl, rfl, rfl, rfl, _⟩ := HR.out e z a v q1 q2
      exact hk q1)
    rw [show pkR n1 n2 n3 u = .tuple #[.string ⟨#[]⟩, .bool false] from if_neg hk]
    clear hk
    cases d4 <;>
    · go_wp2
      have g3 := putP_grown w10 w.heap.size 0 0 0 ⟨#[]⟩
      have d := (A0.out.put 0 0 0 ⟨#[]⟩).cells
      unfold putP at g3 d
      exact bodyPost_ret (v := .tuple #[pkv 0 0 0 ⟨#[]⟩, .bool false]) (by simp [results, Tryd.results9, go_sem, d]) rfl ⟨Or.inr ⟨HN.out, rfl⟩, B0.out.trans (below_of_grown g3 (Nat.le_refl _) B0.out.size)⟩
  rw [show pkR n1 n2 n3 u = .tuple #[.string (pkS n1 n2 n3 u), .bool true] from if_pos hk]
  obtain ⟨P, hP⟩ : ∃ P, pkS n1 n2 n3 u = P := ⟨_, rfl⟩
  rw [hP]
  have HK := hid hk
  have HP := hid hP
  clear hk hP
  cases d4 with
  | true =>
    have HN : Hid (∀ e z a v, pkOk e z a v = true → pkS e z a v ≠ t) := hid (fun e z a v q1 q2 => by
      obtain ⟨_, _, _, _, h⟩ := HR.out e z a v q1 q2
      cases h)
    go_wp2
    have g3 := putP_grown w10 w.heap.size 0 0 0 ⟨#[]⟩
    have d := (A0.out.put 0 0 0 ⟨#[]⟩).cells
    unfold putP at g3 d
    exact bodyPost_ret (v := .tuple #[pkv 0 0 0 ⟨#[]⟩, .bool false]) (by simp [results, Tryd.results9, go_sem, d]) rfl ⟨Or.inr ⟨HN.out, rfl⟩, B0.out.trans (below_of_grown g3 (Nat.le_refl _) B0.out.size)⟩
  | false =>
    by_cases he : P = t
    · subst he
      have e4 : (!P.toList == P.toList) = false := by simp
      go_wp2
      have g3 := putP_grown w10 w.heap.size n1 n2 n3 u
      have d := (A0.out.put n1 n2 n3 u).cells
      unfold putP at g3 d
      exact bodyPost_ret (v := .tuple #[pkv n1 n2 n3 u, .bool true]) (by simp [results, Tryd.results9, go_sem, d]) rfl ⟨Or.inl ⟨n1, n2, n3, u, HK.out, HP.out, rfl⟩, B0.out.trans (below_of_grown g3 (Nat.le_refl _) B0.out.size)⟩
    · have HN : Hid (∀ e z a v, pkOk e z a v = true → pkS e z a v ≠ t) := hid (fun e z a v q1 q2 => by
        obtain ⟨rfl, rfl, rfl, rfl, _⟩ := HR.out e z a v q1 q2
        exact he (HP.out.symm.trans q2))
      have e4 : (!P.toList == t.toList) = true := by
        have h : ¬ P.toList = t.toList := fun h => he (bl_inj (by unfold bl; rw [← ByteArray.toList_eq, ← ByteArray.toList_eq]; exact h))
        simpa using h
      clear he
      go_wp2
      have g3 := putP_grown w10 w.heap.size 0 0 0 ⟨#[]⟩
      have d := (A0.out.put 0 0 0 ⟨#[]⟩).cells
      unfold putP at g3 d
      exact bodyPost_ret (v := .tuple #[pkv 0 0 0 ⟨#[]⟩, .bool false]) (by simp [results, Tryd.results9, go_sem, d]) rfl ⟨Or.inr ⟨HN.out, rfl⟩, B0.out.trans (below_of_grown g3 (Nat.le_refl _) B0.out.size)⟩
theorem pkt_at (e s a : Int) (v : ByteArray) : AtK (pkt e s a v) 0 (bl (vi e) ++ (bl (vi s) ++ (bl (vi a) ++ (bl (vi v.size) ++ bl v)))) := by
  refine ⟨by decide, by omega, [], ?_⟩
  unfold pkt
  simp only [bl_app, List.append_assoc, List.append_nil]
  rfl
theorem some_pair {α β : Type} {a a' : α} {b b' : β} (h : (some (a, b) : Option (α × β)) = some (a', b')) : a = a' ∧ b = b' := by
  simp only [Option.some.injEq, Prod.mk.injEq] at h; exact h
/-- Two packets of one text are one. -/
theorem pkS_inj {e s a : Int} {t : ByteArray} {e' s' a' : Int} {t' : ByteArray} (h : pkOk e s a t = true) (h' : pkOk e' s' a' t' = true) (hS : pkS e s a t = pkS e' s' a' t') : e = e' ∧ s = s' ∧ a = a' ∧ t = t' := by
  have z := pkt_size h
  have z' := pkt_size h'
  have u1 : unsK (pkS e s a t) = (pkt e s a t, true) := unsK_sealed _ (by omega)
  have u2 : unsK (pkS e' s' a' t') = (pkt e' s' a' t', true) := unsK_sealed _ (by omega)
  rw [hS, u2] at u1
  have hp : pkt e' s' a' t' = pkt e s a t := congrArg Prod.fst u1
  have a0 := pkt_at e s a t
  have b0 := pkt_at e' s' a' t'
  rw [hp] at b0
  simp only [pkOk, Bool.and_eq_true, decide_eq_true_eq] at h h'
  obtain ⟨r1, r2, r3, r4⟩ := h
  obtain ⟨q1, q2, q3, q4⟩ := h'
  obtain ⟨x1, y1⟩ := some_pair ((AtK.var a0.here r1).symm.trans (AtK.var b0.here q1))
  have a1 := a0.next
  have b1 := b0.next
  rw [bl_len] at a1 b1
  rw [← y1] at b1
  obtain ⟨x2, y2⟩ := some_pair ((AtK.var a1.here r2).symm.trans (AtK.var b1.here q2))
  have a2 := a1.next
  have b2 := b1.next
  rw [bl_len] at a2 b2
  rw [← y2] at b2
  obtain ⟨x3, y3⟩ := some_pair ((AtK.var a2.here r3).symm.trans (AtK.var b2.here q3))
  have a3 := a2.next
  have b3 := b2.next
  rw [bl_len] at a3 b3
  rw [← y3] at b3
  exact ⟨x1, x2, x3, (some_pair ((AtK.short a3 (by omega)).symm.trans (AtK.short b3 (by omega)))).1⟩
/-- The answer, in letters. -/
theorem rp_pair (t : ByteArray) : ∃ (e s a : Int) (u : ByteArray) (k : Bool), ∀ x, RpPost t x → x = .returned (.tuple #[pkv e s a u, .bool k]) := by
  by_cases h : ∃ e s a u, pkOk e s a u = true ∧ pkS e s a u = t
  · obtain ⟨e, s, a, u, h1, h2⟩ := h
    refine ⟨e, s, a, u, true, ?_⟩
    rintro x (⟨e', s', a', u', g1, g2, rfl⟩ | ⟨g, _⟩)
    · obtain ⟨rfl, rfl, rfl, rfl⟩ := pkS_inj g1 h1 (g2.trans h2.symm)
      rfl
    · exact absurd h2 (g _ _ _ _ h1)
  · refine ⟨0, 0, 0, ⟨#[]⟩, false, ?_⟩
    rintro x (⟨e', s', a', u', g1, g2, rfl⟩ | ⟨_, rfl⟩)
    · exact absurd ⟨e', s', a', u', g1, g2⟩ h
    · rfl
theorem pkR_pair (e s a : Int) (t : ByteArray) : ∃ (X : ByteArray) (k : Bool), pkR e s a t = .tuple #[.string X, .bool k] := by
  unfold pkR
  split
  · exact ⟨_, _, rfl⟩
  · exact ⟨_, _, rfl⟩
set_option maxHeartbeats 3200000 in
set_option maxRecDepth 100000 in
theorem lawPacketText_any (e s a : Int) (t : ByteArray) (w : World) (ht : (t.size : Int) ≤ 9223372036854775807)
    (hI : t.size ≤ 1048576 → ∀ W, Below w.heap.size w W → Calls Tryd.prog 8 #[pkv e s a t] W fun x w' => x = .returned (pkR e s a t) ∧ Below W.heap.size W w') :
    Calls Tryd.prog 3 #[pkv e s a t] w fun x w' => x = .returned (.bool true) ∧ Below w.heap.size w w' := by
  obtain ⟨W0, hW0⟩ : ∃ W0, w.alloc (.cells #[.int .i64 e, .int .i64 s, .int .i64 a, .string t] 23) = W0 := ⟨_, rfl⟩
  have b0 : Below w.heap.size w W0 := by subst hW0; exact bpush (bre _) _
  have x0 : Pk W0 w.heap.size 23 e s a t := by subst hW0; exact Pk.new _ _ _ _ _ _
  have A0 := hid x0
  have BE := hid b0
  have HI := hid hI
  have c0 := x0.cells
  clear x0 b0 hI
  go_enter Tryd.func3, Tryd.ntmps3
  go_wp2_with fail
  clear hW0
  refine (szPk_any e s a t 1048576 _ ht (by decide) (by decide)).mono ?_; rintro x w1 ⟨q, rfl, hz, hb⟩
  have A0 := hid (A0.out.later hb)
  have BE := hid (btr BE.out hb)
  clear hb c0
  by_cases h0 : q < 0
  · go_wp2
    go_ret
    exact ⟨rfl, BE.out⟩
  have HT := hid (hz h0)
  have CS := hid (fun (W : World) => specPacketText_any e s a t W HT.out)
  have CI := hid (fun (W : World) (hb : Below w.heap.size w W) => HI.out HT.out W hb)
  obtain ⟨X, k, hX⟩ := pkR_pair e s a t
  rw [hX] at CS CI
  clear hX hz ht
  have c0 := A0.out.cells
  go_wp2_with fail
  clear c0 h0
  refine (toPk_any e s a t _).mono ?_; rintro x w2 ⟨rfl, hb⟩
  have A0 := hid (A0.out.later hb)
  have BE := hid (btr BE.out hb)
  clear hb
  go_wp2_with fail
  refine (CS.out _).mono ?_; rintro x w3 ⟨rfl, hb⟩
  have A0 := hid (A0.out.later hb)
  have BE := hid (btr BE.out hb)
  clear hb
  have c0 := A0.out.cells
  go_wp2_with fail
  clear c0
  refine (toPk_any e s a t _).mono ?_; rintro x w4 ⟨rfl, hb⟩
  have BE := hid (btr BE.out hb)
  clear hb
  go_wp2_with fail
  refine (CI.out _ BE.out).mono ?_; rintro x w5 ⟨rfl, hb⟩
  have BE := hid (btr BE.out hb)
  clear hb
  have e1 : (!X.toList == X.toList) = false := by simp
  have e2 : (k != k) = false := by simp
  go_wp2
  go_ret
  exact ⟨rfl, BE.out⟩
set_option maxHeartbeats 3200000 in
set_option maxRecDepth 100000 in
theorem lawReadPacket_any (t : ByteArray) (w : World)
    (hI : t.size ≤ 1048576 → ∀ W, Below w.heap.size w W → Calls Tryd.prog 10 #[.string t] W fun x w' => RpPost t x ∧ Below W.heap.size W w') :
    Calls Tryd.prog 4 #[.string t] w fun x w' => x = .returned (.bool true) ∧ Below w.heap.size w w' := by
  by_cases ht : t.size ≤ 1048576
  rotate_left
  · have h2 : (1048576 : Int) < (t.size : Int) := by omega
    go_enter Tryd.func4, Tryd.ntmps4
    go_wp2
    go_ret
    exact ⟨rfl, bre _⟩
  have h2 : ¬ (1048576 : Int) < (t.size : Int) := by omega
  obtain ⟨e, s, a, u, k, hx⟩ := rp_pair t
  have CS : Hid (∀ W : World, Calls Tryd.prog 9 #[.string t] W fun x w' => x = .returned (.tuple #[pkv e s a u, .bool k]) ∧ Below W.heap.size W w') := hid (fun W => (specReadPacket_any t W ht).mono fun x w' h => ⟨hx x h.1, h.2⟩)
  have CI : Hid (∀ W : World, Below w.heap.size w W → Calls Tryd.prog 10 #[.string t] W fun x w' => x = .returned (.tuple #[pkv e s a u, .bool k]) ∧ Below W.heap.size W w') := hid (fun W hb => (hI ht W hb).mono fun x w' h => ⟨hx x h.1, h.2⟩)
  have BE := hid (bre w)
  clear hx hI ht
  go_enter Tryd.func4, Tryd.ntmps4
  go_wp2_with fail
  clear h2
  refine (CS.out _).mono ?_; rintro x w1 ⟨rfl, hb⟩
  obtain ⟨w2, hw2⟩ : ∃ W, w1.alloc (.cells #[.int .i64 e, .int .i64 s, .int .i64 a, .string u] 27) = W := ⟨_, rfl⟩
  have b2 : Below w1.heap.size w1 w2 := by subst hw2; exact bpush (bre _) _
  have S2 := hid (show Pk w2 w1.heap.size 27 e s a u by subst hw2; exact Pk.new _ _ _ _ _ _)
  have BE := hid (btr (btr BE.out hb) b2)
  clear hb b2
  go_wp2_with fail
  clear hw2
  refine (CI.out _ BE.out).mono ?_; rintro x w3 ⟨rfl, hb⟩
  obtain ⟨w4, hw4⟩ : ∃ W, w3.alloc (.cells #[.int .i64 e, .int .i64 s, .int .i64 a, .string u] 27) = W := ⟨_, rfl⟩
  have b4 : Below w3.heap.size w3 w4 := by subst hw4; exact bpush (bre _) _
  have G4 := hid (show Pk w4 w3.heap.size 27 e s a u by subst hw4; exact Pk.new _ _ _ _ _ _)
  have S4 := hid ((S2.out.later hb).later b4)
  have BE := hid (btr (btr BE.out hb) b4)
  clear hb b4
  have q0 := G4.out.cells
  have q1 := S4.out.cells
  go_wp2_with fail
  clear q0 q1 hw4
  refine (eqPk_any e s a u _).mono ?_; rintro x w5 ⟨rfl, hb⟩
  have BE := hid (btr BE.out hb)
  clear hb
  have e2 : (k != k) = false := by simp
  go_wp2
  go_ret
  exact ⟨rfl, BE.out⟩
def pn (x : Int) : Prop := 0 ≤ x ∧ x ≤ 1000000000
set_option maxHeartbeats 1600000 in
set_option maxRecDepth 100000 in
theorem packetOk_any (e s a : Int) (t : ByteArray) (w : World) :
    Calls Tryd.prog 15 #[pkv e s a t] w fun x w' => x = .returned (.bool (pkOk e s a t)) ∧ Below w.heap.size w w' := by
  obtain ⟨W0, hW0⟩ : ∃ W0, w.alloc (.cells #[.int .i64 e, .int .i64 s, .int .i64 a, .string t] 27) = W0 := ⟨_, rfl⟩
  have b0 : Below w.heap.size w W0 := by subst hW0; exact bpush (bre _) _
  have x0 : Pk W0 w.heap.size 27 e s a t := by subst hW0; exact Pk.new _ _ _ _ _ _
  have X0 := hid x0
  have c0 := x0.cells
  have B0 := hid b0
  obtain ⟨W1, hW1⟩ : ∃ W1, W0.alloc (.cells #[.int .i64 e, .int .i64 s, .int .i64 a] 3) = W1 := ⟨_, rfl⟩
  have b1 : Below W0.heap.size W0 W1 := by subst hW1; exact bpush (bre _) _
  have HC : Hid (∀ i (h : i < [e, s, a].length), W1.cell? ⟨W0.heap.size, i, none⟩ = some (.int .i64 [e, s, a][i])) := hid (by subst hW1; exact three_ints W0 e s a 3)
  have HK : Hid (W0.heap.size < W1.heap.size) := hid (by subst hW1; simp)
  have B1 := hid (btr b0 b1)
  have X1 := hid (x0.later b1)
  have HW1 := hid hW1
  have HW0 := hid hW0
  obtain ⟨k, hk⟩ : ∃ k, pkOk e s a t = k := ⟨_, rfl⟩
  rw [hk]
  have HP := hid hk
  clear x0 b0 b1 hW0 hW1 hk
  go_enter Tryd.func15, Tryd.ntmps15
  go_upto_region 1 with fail
  rw [HW0.out]
  go_wp2
  rw [HW1.out]
  clear HW0 HW1 c0
  go_loopw [13] (fun iv wr => ∃ i : Nat, i ≤ 3 ∧ iv = .int .i64 (i : Int) ∧ Hid (∀ j (h : j < [e, s, a].length), j < i → pn [e, s, a][j]) ∧ Below W1.heap.size W1 wr) (fun iv _ => 3 - (intOf iv).toNat)
  case atStart => exact ⟨0, by omega, rfl, hid (fun j h h0 => by omega), bre _⟩
  case round =>
    obtain ⟨i, hi, rfl, HA, hb⟩ := hrel
    have HB := hid hb
    clear hb
    by_cases hlt : i < 3
    · have hil : i < [e, s, a].length := hlt
      have hc : wr.cell? ⟨W0.heap.size, i, none⟩ = some (.int .i64 [e, s, a][i]) := (HB.out.cell (p := ⟨W0.heap.size, i, none⟩) HK.out).trans (HC.out i hil)
      obtain ⟨x, hx⟩ : ∃ x, [e, s, a][i] = x := ⟨_, rfl⟩
      have HX := hid hx
      rw [hx] at hc
      clear hx
      by_cases hp : pn x
      · have hp1 : ¬ x < 0 := by have := hp.1; omega
        have hp2 : ¬ 1000000000 < x := by have := hp.2; omega
        have HA2 : Hid (∀ j (h : j < [e, s, a].length), j < i + 1 → pn [e, s, a][j]) := hid (fun j h hj => by
          rcases Nat.lt_or_eq_of_le (Nat.le_of_lt_succ hj) with h1 | h1
          · exact HA.out j h h1
          · subst h1
            rw [HX.out]
            exact hp)
        go_wp2
        go_roundw
        case rel => exact ⟨i + 1, by omega, by go_num, HA2, HB.out⟩
        case measure => simp [intOf]; omega
      · have HN : Hid (k = false) := hid (by
          rw [← HP.out]
          cases hq : pkOk e s a t with
          | false => rfl
          | true =>
            simp only [pkOk, Bool.and_eq_true, decide_eq_true_eq] at hq
            refine absurd ?_ hp
            rw [← HX.out]
            have h3 : i = 0 ∨ i = 1 ∨ i = 2 := by omega
            rcases h3 with rfl | rfl | rfl
            · exact hq.1
            · exact hq.2.1
            · exact hq.2.2.1)
        by_cases hp1 : x < 0
        · go_wp2
          go_ret
          exact ⟨by rw [HN.out]; rfl, B1.out.trans (HB.out.mono B1.out.size)⟩
        · have hp2 : 1000000000 < x := by unfold pn at hp; omega
          go_wp2
          go_ret
          exact ⟨by rw [HN.out]; rfl, B1.out.trans (HB.out.mono B1.out.size)⟩
    · have HA3 : Hid (k = decide (t.size ≤ 400)) := hid (by
        rw [← HP.out]
        have h0 := HA.out 0 (by simp) (by omega)
        have h1 := HA.out 1 (by simp) (by omega)
        have h2 := HA.out 2 (by simp) (by omega)
        unfold pn at h0 h1 h2
        simp only [List.getElem_cons_zero, List.getElem_cons_succ] at h0 h1 h2
        unfold pkOk
        simp [h0, h1, h2])
      have c1 := (X1.out.later HB.out).cells
      go_wp2
      go_ret
      refine ⟨?_, B1.out.trans (HB.out.mono B1.out.size)⟩
      rw [HA3.out]
      congr 2
      simp
      omega
theorem short_i17 (t : ByteArray) (ht : t.size ≤ 400) : ∃ s : ByteArray, Hid (s = vi t.size ++ t) ∧ s.size ≤ 500 ∧ Hid (∀ w, Calls Tryd.prog 16 #[.string t] w fun e w' => e = .returned (.tuple #[.string s, .bool true]) ∧ Below w.heap.size w w') := by
  refine ⟨vi t.size ++ t, rfl, ?_, fun w => implShort_yes t w (by omega)⟩
  have := vi_5 t.size (by omega)
  rw [ByteArray.size_append]
  omega
theorem Nib.on17 {w w' : World} (h : Nib w) (hb : Below w.heap.size w w') : Nib w' := h.later hb (World.block_lt_of_cell? _ _ (h 0 (by omega)))
set_option maxHeartbeats 1600000 in
set_option maxRecDepth 100000 in
theorem implPacketText_any (e s a : Int) (t : ByteArray) (w : World) (hn : Nib w) :
    Calls Tryd.prog 8 #[pkv e s a t] w fun x w' => x = .returned (pkR e s a t) ∧ Below w.heap.size w w' := by
  obtain ⟨W0, hW0⟩ : ∃ W0, w.alloc (.cells #[.int .i64 e, .int .i64 s, .int .i64 a, .string t] 27) = W0 := ⟨_, rfl⟩
  have b0 : Below w.heap.size w W0 := by subst hW0; exact bpush (bre _) _
  have x0 : Pk W0 w.heap.size 27 e s a t := by subst hW0; exact Pk.new _ _ _ _ _ _
  have X0 := hid x0
  have c0 := x0.cells
  have B0 := hid b0
  have HN := hid hn
  have HW0 := hid hW0
  have HOK := hid (packetOk_any e s a t W0)
  clear x0 b0 hW0 hn
  cases hk : pkOk e s a t with
  | false =>
    have hr : pkR e s a t = .tuple #[.string ⟨#[]⟩, .bool false] := by unfold pkR; rw [hk]; rfl
    rw [hk] at HOK
    rw [hr]
    clear hr hk
    go_enter Tryd.func8, Tryd.ntmps8
    go_wp2_with fail
    rw [HW0.out]
    refine HOK.out.mono ?_; rintro y w1 ⟨rfl, hb1⟩
    go_wp2
    go_ret2
    exact ⟨rfl, btr B0.out hb1⟩
  | true =>
    have hr : pkR e s a t = .tuple #[.string (pkS e s a t), .bool true] := by unfold pkR; rw [if_pos hk]
    have hsz := pkt_size hk
    rw [hk] at HOK
    rw [hr]
    clear hr
    simp only [pkOk, Bool.and_eq_true, decide_eq_true_eq] at hk
    obtain ⟨⟨he, he2⟩, ⟨hs, hs2⟩, ⟨ha, ha2⟩, h4⟩ := hk
    obtain ⟨u, hu, zu, cu⟩ := short_i17 t h4
    obtain ⟨v, hv, zv, cv⟩ := texts3 e s a ⟨he, he2⟩ ⟨hs, hs2⟩ ⟨ha, ha2⟩
    obtain ⟨P, hP⟩ : ∃ P, pkS e s a t = P := ⟨_, rfl⟩
    have HP : Hid ((v ++ u) ++ tail4 (v ++ u) = P ∧ (v ++ u).size ≤ 20000) := hid (by
      have h1 : v ++ u = pkt e s a t := by rw [hu.out, hv.out]; simp only [rt, pkt, ByteArray.append_assoc]
      rw [h1]
      exact ⟨hP, Nat.le_trans hsz (by decide)⟩)
    rw [hP]
    have m1 : ¬ 9223372036854775807 < v.size + u.size := by omega
    clear hP hsz he he2 hs hs2 ha ha2 h4 hu hv zu zv
    go_enter Tryd.func8, Tryd.ntmps8
    go_wp2_with fail
    rw [HW0.out]
    refine HOK.out.mono ?_; rintro y w1 ⟨rfl, hb1⟩
    have X1 := hid (X0.out.later hb1)
    have B1 := hid (btr B0.out hb1)
    clear hb1 c0 X0 B0 HOK
    have c0 := X1.out.cells
    go_wp2_with fail
    refine (cu.out _).mono ?_; rintro y w2 ⟨rfl, hb2⟩
    have X2 := hid (X1.out.later hb2)
    have B2 := hid (btr B1.out hb2)
    clear hb2 c0 X1 B1
    have c0 := X2.out.cells
    go_wp2_with fail
    refine (cv.out _ _ rfl).mono ?_; rintro y w3 ⟨rfl, hb3⟩
    have B3 := hid (btr B2.out hb3)
    clear hb3 c0 X2 B2
    have N3 := hid (HN.out.on17 B3.out)
    have CS := hid (implSealed_yes (v ++ u) w3 HP.out.2 N3.out)
    go_wp2_with fail
    refine CS.out.mono ?_; rintro y w4 ⟨rfl, hb4⟩
    have B4 := hid (btr B3.out hb4)
    clear hb4
    rw [HP.out.1]
    go_wp2
    go_ret2
    exact ⟨rfl, B4.out⟩
/-- The packet that is read at a place, as the program reads it. -/
def ipk (s : ByteArray) (a : Int) : Option ((Int × Int × Int × ByteArray) × Int) :=
  (rd s a).bind fun p => (rd s p.2).bind fun q => (rd s q.2).bind fun r => (rsh s r.2).bind fun t =>
    if pkOk p.1 q.1 r.1 t.1 = true then some ((p.1, q.1, r.1, t.1), t.2) else none
section
variable {s : ByteArray} {a e c1 x c2 y c3 : Int} {t : ByteArray} {c4 : Int}
theorem ipk_n1 (h1 : rd s a = none) : ipk s a = none := by unfold ipk; rw [h1]; rfl
theorem ipk_n2 (h1 : rd s a = some (e, c1)) (h2 : rd s c1 = none) : ipk s a = none := by unfold ipk; rw [h1]; simp only [Option.bind_some]; rw [h2]; rfl
theorem ipk_n3 (h1 : rd s a = some (e, c1)) (h2 : rd s c1 = some (x, c2)) (h3 : rd s c2 = none) : ipk s a = none := by unfold ipk; rw [h1]; simp only [Option.bind_some]; rw [h2]; simp only [Option.bind_some]; rw [h3]; rfl
theorem ipk_n4 (h1 : rd s a = some (e, c1)) (h2 : rd s c1 = some (x, c2)) (h3 : rd s c2 = some (y, c3)) (h4 : rsh s c3 = none) : ipk s a = none := by unfold ipk; rw [h1]; simp only [Option.bind_some]; rw [h2]; simp only [Option.bind_some]; rw [h3]; simp only [Option.bind_some]; rw [h4]; rfl
theorem ipk_y (h1 : rd s a = some (e, c1)) (h2 : rd s c1 = some (x, c2)) (h3 : rd s c2 = some (y, c3)) (h4 : rsh s c3 = some (t, c4)) : ipk s a = if pkOk e x y t = true then some ((e, x, y, t), c4) else none := by unfold ipk; rw [h1]; simp only [Option.bind_some]; rw [h2]; simp only [Option.bind_some]; rw [h3]; simp only [Option.bind_some]; rw [h4]; rfl
end
/-- The memory of a call that reads a packet. -/
structure Rpk (w W : World) (k : Nat) (s : ByteArray) (e x y : Int) (t : ByteArray) (c : Int) : Prop where
  zero : Pk W w.heap.size 27 0 0 0 ⟨#[]⟩
  box : Pk W (w.heap.size + 1) 27 e x y t
  cur : Dg W k s c
  far : k < w.heap.size
  gr : w.grownBy W (some k)
section
variable {w W W' : World} {k : Nat} {s : ByteArray} {e x y : Int} {t : ByteArray} {c : Int}
theorem Rpk.later (h : Rpk w W k s e x y t c) (hb : Below W.heap.size W W') : Rpk w W' k s e x y t c :=
  ⟨h.zero.later hb, h.box.later hb, h.cur.later hb, h.far, wtr h.gr (grown_below hb _)⟩
theorem Rpk.read {c' : Int} (h : Rpk w W k s e x y t c) (hg : W.grownBy W' (some k)) (hc : Dg W' k s c') : Rpk w W' k s e x y t c' :=
  have hf := h.far
  ⟨h.zero.grown hg (by simp; omega), h.box.grown hg (by simp; omega), hc, h.far, wtr h.gr hg⟩
theorem Rpk.put {i : Nat} {v : Value} {e' x' y' : Int} {t' : ByteArray} (h : Rpk w W k s e x y t c) (hx : Pk (W.setCell ⟨w.heap.size + 1, i, none⟩ v) (w.heap.size + 1) 27 e' x' y' t') : Rpk w (W.setCell ⟨w.heap.size + 1, i, none⟩ v) k s e' x' y' t' c :=
  have hf := h.far
  ⟨heap_setCell_far v h.zero (by omega), hx, h.cur.far v (by omega), h.far, wst_new h.gr (by omega) i v⟩
end
def Pal1 (w : World) (k : Nat) (s : ByteArray) (a : Int) (z : Ending) (w' : World) : Prop :=
  (∃ e x y t c, ipk s a = some ((e, x, y, t), c) ∧ z = .returned (.agg #[.int .i64 e, .int .i64 x, .int .i64 y, .string t]) ∧ Dg w' k s c ∧ True ∧ w.grownBy w' (some k)) ∨ (ipk s a = none ∧ z = .panicked notHere ∧ w.grownBy w' (some k))
theorem Pal1.no {w : World} {k : Nat} {s : ByteArray} {a : Int} {w' : World} (h : ipk s a = none) (hg : w.grownBy w' (some k)) : Pal1 w k s a (.panicked notHere) w' := Or.inr ⟨h, rfl, hg⟩
set_option maxHeartbeats 8000000 in
set_option maxRecDepth 100000 in
theorem rpacket_any (k : Nat) (s : ByteArray) (a : Int) (w : World) (hs : s.size ≤ 1048576) (hc : Dg w k s a) :
    Calls Tryd.prog 24 #[.pointer (some ⟨k, 0, none⟩)] w fun z w' => Pal1 w k s a z w' := by
  have HSZ := hid hs
  have R0 : Hid (Rpk w ((w.alloc (.cells #[.int .i64 0, .int .i64 0, .int .i64 0, .string ⟨#[]⟩] 27)).alloc (.cells #[.int .i64 0, .int .i64 0, .int .i64 0, .string ⟨#[]⟩] 27)) k s 0 0 0 ⟨#[]⟩ a) := hid (by
    have h2 := Pk.new (w.alloc (.cells #[.int .i64 0, .int .i64 0, .int .i64 0, .string ⟨#[]⟩] 27)) 27 0 0 0 ⟨#[]⟩
    rw [show (w.alloc (.cells #[.int .i64 0, .int .i64 0, .int .i64 0, .string ⟨#[]⟩] 27)).heap.size = w.heap.size + 1 by simp] at h2
    exact ⟨(Pk.new w _ _ _ _ _).later (bpush (bre _) _), h2, hc.later (bpush (bpush (bre _) _) _), hc.lt, grown_below (bpush (bpush (bre _) _) _) _⟩)
  obtain ⟨W0, hW0⟩ : ∃ W, ((w.alloc (.cells #[.int .i64 0, .int .i64 0, .int .i64 0, .string ⟨#[]⟩] 27)).alloc (.cells #[.int .i64 0, .int .i64 0, .int .i64 0, .string ⟨#[]⟩] 27)) = W := ⟨_, rfl⟩
  rw [hW0] at R0
  have HW0 := hid hW0
  clear hs hc hW0
  go_enter Tryd.func24, Tryd.ntmps24
  go_wp2_with fail
  rw [HW0.out]
  clear HW0
  refine (numr_any k s a _ HSZ.out R0.out.cur).mono ?_; rintro z w1 (⟨e, c1, hr, rfl, hd, hg⟩ | ⟨hr, rfl, hg⟩)
  case inr =>
    have P := hid (Pal1.no (ipk_n1  hr) (wtr R0.out.gr hg))
    clear hr hg
    go_wp2_with fail
    exact ⟨rfl, P.out⟩
  have H1 := hid hr
  have R1 := hid (R0.out.read hg hd)
  have d8 := R1.out.box.cells
  have f8 := R1.out.box.loose
  have Q1 := hid (R1.out.put (R1.out.box.s0 e))
  clear hr hd hg R0
  go_wp2_with fail
  clear d8 f8 R1
  refine (numr_any k s c1 _ HSZ.out Q1.out.cur).mono ?_; rintro z w2 (⟨x, c2, hr, rfl, hd, hg⟩ | ⟨hr, rfl, hg⟩)
  case inr =>
    have P := hid (Pal1.no (ipk_n2  H1.out hr) (wtr Q1.out.gr hg))
    clear hr hg
    go_wp2_with fail
    exact ⟨rfl, P.out⟩
  have H2 := hid hr
  have R2 := hid (Q1.out.read hg hd)
  have d8 := R2.out.box.cells
  have f8 := R2.out.box.loose
  have Q2 := hid (R2.out.put (R2.out.box.s1 x))
  clear hr hd hg Q1
  go_wp2_with fail
  clear d8 f8 R2
  refine (numr_any k s c2 _ HSZ.out Q2.out.cur).mono ?_; rintro z w3 (⟨y, c3, hr, rfl, hd, hg⟩ | ⟨hr, rfl, hg⟩)
  case inr =>
    have P := hid (Pal1.no (ipk_n3  H1.out H2.out hr) (wtr Q2.out.gr hg))
    clear hr hg
    go_wp2_with fail
    exact ⟨rfl, P.out⟩
  have H3 := hid hr
  have R3 := hid (Q2.out.read hg hd)
  have d8 := R3.out.box.cells
  have f8 := R3.out.box.loose
  have Q3 := hid (R3.out.put (R3.out.box.s2 y))
  clear hr hd hg Q2
  go_wp2_with fail
  clear d8 f8 R3
  refine (short_any k s c3 _ HSZ.out Q3.out.cur).mono ?_; rintro z w4 (⟨t, c4, hr, rfl, hd, hg⟩ | ⟨hr, rfl, hg⟩)
  case inr =>
    have P := hid (Pal1.no (ipk_n4 H1.out H2.out H3.out hr) (wtr Q3.out.gr hg))
    clear hr hg
    go_wp2_with fail
    exact ⟨rfl, P.out⟩
  have H4 := hid hr
  have R4 := hid (Q3.out.read hg hd)
  have d8 := R4.out.box.cells
  have f8 := R4.out.box.loose
  have Q4 := hid (R4.out.put (R4.out.box.s3 t))
  clear hr hd hg Q3
  go_upto_region 6 with fail
  clear d8 f8 R4
  obtain ⟨W5, hW5⟩ : ∃ W, w4.setCell ⟨w.heap.size + 1, 3, none⟩ (.string t) = W := ⟨_, rfl⟩
  rw [hW5] at Q4
  rw [hW5]
  clear hW5
  have d8 := Q4.out.box.cells
  have CB := packetOk_any e x y t W5
  obtain ⟨q, hq⟩ : ∃ q, pkOk e x y t = q := ⟨_, rfl⟩
  rw [hq] at CB
  have HRB : Hid (ipk s a = if q = true then some ((e, x, y, t), c4) else none) := hid (by rw [ipk_y H1.out H2.out H3.out H4.out, hq])
  clear hq
  go_wp2_with fail
  refine CB.mono ?_; rintro z w6 ⟨rfl, hb6⟩
  have R6 := hid (Q4.out.later hb6)
  clear hb6 CB d8 Q4
  have d8 := R6.out.box.cells
  have d4 := R6.out.zero.cells
  have f4 := R6.out.zero.loose
  cases q
  · have P := hid (Pal1.no (by rw [HRB.out]; rfl) R6.out.gr)
    go_wp2_with fail
    refine (must_no _).mono ?_; rintro z w8 ⟨rfl, rfl⟩
    go_wp2_with fail
    exact ⟨rfl, P.out⟩
  · go_wp2_with fail
    refine (must_yes _).mono ?_; rintro z w8 ⟨rfl, rfl⟩
    go_wp2
    have hX := Pk.put R6.out.zero e x y t
    have hg7 := putP_grown w8 w.heap.size e x y t
    have hgr := wst_new (wst_new (wst_new (wst_new R6.out.gr (Nat.le_refl _) 0 (.int .i64 e)) (Nat.le_refl _) 1 (.int .i64 x)) (Nat.le_refl _) 2 (.int .i64 y)) (Nat.le_refl _) 3 (.string t)
    unfold putP at hX hg7
    have d := hX.cells
    refine bodyPost_ret (v := .agg #[.int .i64 e, .int .i64 x, .int .i64 y, .string t]) (by simp [results, Tryd.results24, go_sem, d]) rfl ?_
    have l1 := R6.out.far
    refine Or.inl ⟨e, x, y, t, c4, by rw [HRB.out]; rfl, rfl, ?_, trivial, hgr⟩
    exact (hg7.block k (by have := R6.out.gr.size; omega) (by simp; omega)).trans R6.out.cur
end Go.Proofs.YtlopdmledeglbaaDoor
