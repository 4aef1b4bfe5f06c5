/- Zpj, Zpk, Zpr, Ze. -/
import Derived.Test.YtkbiebacbebdnaaDoorQ2
namespace Go.Proofs.YtkbiebacbebdnaaDoor
open Go.RowKit Go.Shelf
/-- What the iterator changes outside the rounds: the box of the text that is left, and new blocks. -/
structure ChB (b : Nat) (A B : World) : Prop where
  grown : A.grownBy B (some b)
  was : ∃ v, Boxed A b 9 v
  got : ∃ v, Boxed B b 9 v
/-- What a round keeps of the iterator's own: boxes of texts and numbers from n on. -/
def KpT (n : Nat) (A B : World) : Prop := A.heap.size ≤ B.heap.size ∧ ∀ k v t, n ≤ k → (t = 9 ∨ t = 3) → Boxed A k t v → Boxed B k t v
def szAt (w : World) (b : Nat) : Nat := match w.cell? ⟨b, 0, none⟩ with | some (.string t) => t.size | _ => 0
theorem szAt_of {w : World} {b : Nat} {t : ByteArray} {ty : Nat} (h : Boxed w b ty (.string t)) : szAt w b = t.size := by unfold szAt; rw [h.cell]
theorem roomAny14 {F : Fence} (hd : F.depth = none) (k : Nat) : F.room k := fun d h => by rw [hd] at h; cases h
theorem RoundIn.any14 {F : Fence} (hd : F.depth = none) {m m' : Nat} {P : Program} {l : Nat} {f : FuncId} {tmps : Array Value} {assign body : Go.Code} {w : World} {R : Ending → World → Prop}
    (h : RoundIn F m P l f tmps assign body w R) : RoundIn F m' P l f tmps assign body w R := ⟨h.1, fun c cs _ => h.2 c cs (roomAny14 hd _)⟩
theorem pref_of {α : Type} {P pre rest : List α} {x : α} (h : P = pre ++ x :: rest) : pre ++ [x] <+: P := ⟨rest, by rw [h]; simp⟩
set_option maxRecDepth 100000 in
set_option maxHeartbeats 4000000 in
theorem split1_x (n l Bsep Bs Bsave n0 : Nat) (s0 : ByteArray) (hL : s0.size ≤ 1048576) (W : World) (b1 : Boxed W Bsep 9 (.string ⟨#[44]⟩)) (b2 : Boxed W Bs 9 (.string s0)) (b3 : Boxed W Bsave 3 (.int .i64 0))
    (hn1 : n0 ≤ Bsep) (hn2 : n0 ≤ Bs) (hn3 : n0 ≤ Bsave) (hne1 : Bsep ≠ Bs) (hne3 : Bsave ≠ Bs) (P : List (List UInt8)) (hP : P = plc 44 s0.size s0.data.toList) :
    SeqX Fence.wide n Tryd.prog 60 #[.pointer (some ⟨Bsep, 0, none⟩), .pointer (some ⟨Bs, 0, none⟩), .pointer (some ⟨Bsave, 0, none⟩)] (fun p : List UInt8 => #[.string (ba p)]) (KpT n0) (ChB Bs) (fun xs => xs = P) (fun pre => pre <+: P) l W := by
  intro J Jx hJ hJx hY h0
  refine callsIn_of_wp Tryd.func60 rfl trivial ?_ rfl
  have c1 := b1.cell
  have HB := hid (And.intro b1 (And.intro b2 b3))
  have HY := hid hY
  have HJ := hid hJ
  have HP := hid hP
  clear hY hJ hP b2 b3
  simp only [Tryd.ntmps60, List.size_toArray, List.length_cons, List.length_nil, Nat.reduceAdd, Nat.reduceSub, Array.replicate_succ, Array.replicate_zero, List.push_toArray, List.append_toArray, List.nil_append, List.cons_append]
  gi_wp2
  clear b1 c1
  gi_loopw [7] (fun _ wr => ∃ (pre : List (List UInt8)) (t : ByteArray) (f : Nat), P = pre ++ plc 44 f t.data.toList ∧ t.size ≤ f ∧ t.size ≤ 1048576 ∧ Boxed wr Bsep 9 (.string ⟨#[44]⟩) ∧ Boxed wr Bs 9 (.string t) ∧ Boxed wr Bsave 3 (.int .i64 0) ∧ J pre wr) (fun _ wr => szAt wr Bs)
  case atStart => exact ⟨[], s0, s0.size, HP.out, Nat.le_refl _, hL, HB.out.1, HB.out.2.1, HB.out.2.2, h0⟩
  case round =>
    obtain ⟨pre, t, f, hp, htf, htm, b1, b2, b3, hj⟩ := hrel
    have c1 := b1.cell
    have c2 := b2.cell
    have c3 := b3.cell
    have f2 := b2.frozen
    have HB1 := hid b1
    have HB2 := hid b2
    have HB3 := hid b3
    have HPP := hid hp
    have HTF := hid htf
    have HJ1 := hid hj
    clear b1 b2 b3 hp htf hj
    by_cases hlt : tw14 44 t.data.toList < t.size
    · obtain ⟨i, hi⟩ : ∃ i, tw14 44 t.data.toList = i := ⟨_, rfl⟩
      have hz : fi14 44 t = (i : Int) := by unfold fi14; rw [if_pos hlt, hi]
      rw [hi] at hlt
      have HI := hid (fun w => index_44 t w)
      rw [hz] at HI
      obtain ⟨g, hg⟩ : ∃ g, f = g + 1 := ⟨f - 1, by have := HTF.out; omega⟩
      have hpl : P = pre ++ t.data.toList.take i :: plc 44 g (t.data.toList.drop (i + 1)) := by
        rw [HPP.out, hg, plc, if_pos (by rw [hi, dtl]; exact hlt), hi]
      have e1 : t.extract 0 i = ba (t.data.toList.take i) := by rw [← ext_take14]
      have e2 : (t.extract (i + 1) t.size).data.toList = t.data.toList.drop (i + 1) := ext_drop14 t (i + 1)
      obtain ⟨fn, tmps, assign, body, hy, hR⟩ := HY.out pre (t.data.toList.take i) wr HJ1.out (pref_of hpl)
      rw [← e1] at hy
      have HPL := hid hpl
      have HE2 := hid e2
      have HR := hid hR
      have HG := hid hg
      have k1 : (0 : Int) ≤ (i : Int) ∧ (i : Int) ≤ (t.size : Int) := by omega
      have k2 : (0 : Int) ≤ (i : Int) + 1 ∧ (i : Int) + 1 ≤ (t.size : Int) := by omega
      clear hz hpl e1 e2 hR hg hi
      gi_wp2
      refine ⟨trivial, (fun h => by cases h), (callsIn_wide.2 (HI.out _)).mono ?_⟩
      rintro e w1 ⟨rfl, rfl⟩
      gi_wp2
      refine ⟨(fun h => by cases h), HR.out.mono ?_⟩
      rintro e W3 (⟨rfl, hj3, hk3⟩ | ⟨rfl, hx3, _⟩)
      · have d1 := hk3.2 Bsep _ 9 hn1 (.inl rfl) HB1.out
        have d2 := hk3.2 Bs _ 9 hn2 (.inl rfl) HB2.out
        have d3 := hk3.2 Bsave _ 3 hn3 (.inr rfl) HB3.out
        have g1 := d1.cell
        have g2 := d2.cell
        have g3 := d2.frozen
        have HD1 := hid d1
        have HD2 := hid d2
        have HD3 := hid d3
        have HJ3 := hid hj3
        have h64 : (i : Int) + 1 ≤ 1048576 := by omega
        clear d1 d2 d3 hj3 hk3 c1 c2 c3 f2
        gi_wp2
        have hz2 : (t.extract (i + 1) t.size).size = t.size - (i + 1) := by rw [ByteArray.size_extract]; omega
        refine ⟨⟨pre ++ [t.data.toList.take i], t.extract (i + 1) t.size, g, ?_, ?_, ?_, HD1.out.other hne1 _, HD2.out.set _, HD3.out.other hne3 _, HJ.out _ _ _ HJ3.out ⟨grownBy_setCell' W3 Bs _, ⟨_, HD2.out⟩, ⟨_, HD2.out.set _⟩⟩⟩, ?_⟩
        · rw [HPL.out, HE2.out]; simp
        · have h1 := HTF.out
          have h2 := HG.out
          rw [hz2]; omega
        · rw [hz2]; omega
        · rw [szAt_of (HD2.out.set _), szAt_of HB2.out, hz2]; omega
      · gi_wp2
        refine bodyPost_ret (results_none rfl _ _ _) rfl ?_
        exact ⟨⟨_, rfl⟩, .inr ⟨_, pref_of HPL.out, hx3⟩⟩
    · have hz : fi14 44 t = -1 := by unfold fi14; rw [if_neg hlt]
      have HI := hid (fun w => index_44 t w)
      rw [hz] at HI
      have hpl : P = pre ++ t.data.toList :: [] := by rw [HPP.out, plc_last (by rw [dtl]; exact hlt)]
      have e1 : t = ba t.data.toList := rfl
      obtain ⟨fn, tmps, assign, body, hy, hR⟩ := HY.out pre t.data.toList wr HJ1.out (pref_of hpl)
      rw [← e1] at hy
      have HPL := hid hpl
      have HR := hid hR
      clear hz hpl e1 hR hlt
      gi_wp2
      refine ⟨trivial, (fun h => by cases h), (callsIn_wide.2 (HI.out _)).mono ?_⟩
      rintro e w2 ⟨rfl, rfl⟩
      gi_wp2
      refine ⟨(fun h => by cases h), HR.out.mono ?_⟩
      rintro e W3 (⟨rfl, hj3, hk3⟩ | ⟨rfl, hx3, _⟩)
      · gi_wp2
        go_end0
        exact ⟨⟨_, rfl⟩, .inl ⟨_, HPL.out.symm, hj3⟩⟩
      · gi_wp2
        go_end0
        exact ⟨⟨_, rfl⟩, .inr ⟨_, pref_of HPL.out, hx3⟩⟩
/-- A block that a reader of ranges writes: a list of ranges, a range, a flag. -/
def mine14 (o : Obj) : Prop := ∃ c e f, o = .cells c e f ∧ (e = 24 ∨ e = 4 ∨ e = 47)
theorem mine14_box {v : Value} {t : Nat} (h1 : t ≠ 24) (h2 : t ≠ 4) (h3 : t ≠ 47) : ¬ mine14 (.cells #[v] t (0, 0)) := by
  rintro ⟨c, e, f, h, he⟩
  injection h with _ h _
  subst h
  rcases he with h | h | h
  · exact h1 h
  · exact h2 h
  · exact h3 h
theorem mine14_other {o : Obj} (h : o.isCells = false) : ¬ mine14 o := by
  rintro ⟨c, e, f, rfl, _⟩
  cases h
structure KpO (n : Nat) (A B : World) : Prop where
  len : A.heap.size ≤ B.heap.size
  same : ∀ (k : Nat) (o : Obj), n ≤ k → A.heap[k]? = some o → ¬ mine14 o → B.heap[k]? = some o
structure ChO (n : Nat) (A B : World) : Prop where
  bel : Below n A B
  same : ∀ (k : Nat) (o : Obj), A.heap[k]? = some o → mine14 o → B.heap[k]? = some o
theorem KpO.trans {n : Nat} {A B C : World} (h : KpO n A B) (k : KpO n B C) : KpO n A C := ⟨Nat.le_trans h.len k.len, fun i o hi ho hm => k.same i o hi (h.same i o hi ho hm) hm⟩
theorem ChO.trans {n : Nat} {A B C : World} (h : ChO n A B) (k : ChO n B C) : ChO n A C := ⟨h.bel.trans k.bel, fun i o hi hm => k.same i o (h.same i o hi hm) hm⟩
theorem KpO.of_below {n : Nat} {A B : World} (h : Below A.heap.size A B) : KpO n A B := ⟨h.size, fun k _ _ ho _ => (h.block k (Array.getElem?_eq_some_iff.1 ho).1).trans ho⟩
theorem ChO.of_below {n : Nat} {A B : World} (h : Below A.heap.size A B) (hn : n ≤ A.heap.size) : ChO n A B := ⟨h.mono hn, fun k _ ho _ => (h.block k (Array.getElem?_eq_some_iff.1 ho).1).trans ho⟩
theorem ChO.of_grown {n : Nat} {A B : World} {row : Option Nat} (h : A.grownBy B row) (hn : n ≤ A.heap.size) (hr : ∀ (r : Nat), row = some r → n ≤ r ∧ ∃ o, A.heap[r]? = some o ∧ ¬ mine14 o) : ChO n A B := by
  refine ⟨⟨h.os, h.tape, h.output, h.size, fun k hk => ?_⟩, fun k o ho hm => ?_⟩
  · exact h.block k (Nat.lt_of_lt_of_le hk hn) (fun e => by have := (hr k e.symm).1; omega)
  · refine (h.block k (Array.getElem?_eq_some_iff.1 ho).1 (fun e => ?_)).trans ho
    obtain ⟨_, o', h2, h3⟩ := hr k e.symm
    rw [ho] at h2
    cases h2
    exact h3 hm
theorem KpO.text {n : Nat} {A B : World} (h : KpO n A B) : KpT n A B := ⟨h.len, fun k v t hk ht hb => h.same k _ hk hb (mine14_box (by rcases ht with rfl | rfl <;> decide) (by rcases ht with rfl | rfl <;> decide) (by rcases ht with rfl | rfl <;> decide))⟩
theorem ChO.of_box {n b : Nat} {A B : World} (h : ChB b A B) (hn : n ≤ A.heap.size) (hb : n ≤ b) : ChO n A B := by
  obtain ⟨v, hv⟩ := h.was
  exact ChO.of_grown h.grown hn (fun r e => by cases e; exact ⟨hb, _, hv, mine14_box (by decide) (by decide) (by decide)⟩)
set_option maxHeartbeats 1600000 in
set_option maxRecDepth 100000 in
theorem splitSeq_any (s : ByteArray) (w : World) :
    Calls Tryd.prog 46 #[.string s, .string ⟨#[44]⟩] w fun e w' => e = .returned (.func (.func 60) #[] #[.pointer (some ⟨w.heap.size + 1, 0, none⟩), .pointer (some ⟨w.heap.size, 0, none⟩), .pointer (some ⟨w.heap.size + 1 + 1, 0, none⟩)]) ∧ w' = ((w.alloc (.cells #[.string s] 9)).alloc (.cells #[.string ⟨#[44]⟩] 9)).alloc (.cells #[.int .i64 0] 3) := by
  have HL := hid (show ∀ W : World, Calls Tryd.prog 53 #[.string s, .string ⟨#[44]⟩, .int .i64 0] W fun e w' => e = .returned (.func (.func 60) #[] #[.pointer (some ⟨W.heap.size + 1, 0, none⟩), .pointer (some ⟨W.heap.size, 0, none⟩), .pointer (some ⟨W.heap.size + 1 + 1, 0, none⟩)]) ∧ w' = ((W.alloc (.cells #[.string s] 9)).alloc (.cells #[.string ⟨#[44]⟩] 9)).alloc (.cells #[.int .i64 0] 3) from fun W => by
    go_enter Tryd.func53, Tryd.ntmps53
    go_wp2
    go_ret
    exact ⟨rfl, rfl⟩)
  go_enter Tryd.func46, Tryd.ntmps46
  go_wp2_with fail
  refine (HL.out _).mono ?_; rintro e w1 ⟨rfl, rfl⟩
  go_wp2
  go_ret
  exact ⟨rfl, rfl⟩
theorem boxed_below14 {A B : World} {k t : Nat} {v : Value} (h : Boxed A k t v) (hb : Below A.heap.size A B) : Boxed B k t v := (hb.block k h.lt).trans h
theorem KpT.trans {n : Nat} {A B C : World} (h : KpT n A B) (k : KpT n B C) : KpT n A C := ⟨Nat.le_trans h.1 k.1, fun i v t hi ht hb => k.2 i v t hi ht (h.2 i v t hi ht hb)⟩
theorem KpT.put {n : Nat} (W : World) (l : Nat) {o : Obj} (o' : Obj) (h : W.heap[l]? = some o) (hc : o.isCells = false) : KpT n W (W.putObj l o') := by
  refine ⟨by simp, fun k v t _ _ hb => ?_⟩
  have hne : k ≠ l := by
    intro e
    subst e
    rw [show W.heap[k]? = _ from hb] at h
    cases h
    cases hc
  exact (World.putObj_heap_other hne).trans hb
theorem plc_len (c : UInt8) : ∀ (f : Nat) (L : List UInt8), ∀ x ∈ plc c f L, x.length ≤ L.length
  | 0, L, x, hx => by rw [plc, List.mem_singleton] at hx; rw [hx]; exact Nat.le_refl _
  | f + 1, L, x, hx => by
    rw [plc] at hx
    split at hx
    · rcases List.mem_cons.1 hx with rfl | hx
      · rw [List.length_take]; omega
      · have := plc_len c f _ x hx
        rw [List.length_drop] at this
        omega
    · rw [List.mem_singleton] at hx; rw [hx]; exact Nat.le_refl _
theorem KpO.keepsFrom {n m : Nat} {A B : World} (h : KpO n A B) (hn : n ≤ m) : KeepsFrom m A B := ⟨h.len, fun k o hk ho hc => h.same k o (by omega) ho (mine14_other hc)⟩
theorem roundIn_inR14 {F : Fence} {m : Nat} {P : Program} {l : Nat} {f : FuncId} {tmps : Array Value} {assign body : Go.Code} {w : World} {R : Ending → World → Prop} (l2 : Nat) (h : RoundIn F m P l f tmps assign body w R) : RoundIn (F.inRound l2) m P l f tmps assign body w R := h
def enG (x : G2 × Bool) : Array Value := #[.agg #[.int .i64 x.1.1, .int .i64 x.1.2], .bool x.2]
set_option maxRecDepth 100000 in
set_option maxHeartbeats 4000000 in
theorem ranges1_x (n l B5 : Nat) (h1 : 8 ≤ n) (s0 : ByteArray) (hL : s0.size ≤ 1048576) (W : World) (hB5 : B5 < W.heap.size) (c5 : W.cell? ⟨B5, 0, none⟩ = some (.string s0)) (P : List (List UInt8)) (hP : P = plc 44 s0.size s0.data.toList) :
    SeqX Fence.wide n Tryd.prog 45 #[.pointer (some ⟨B5, 0, none⟩)] enG (KpO W.heap.size) (ChO W.heap.size) (fun xs => xs = P.map rgv14) (fun pre => pre <+: P.map rgv14) l W := by
  intro J Jx hJ hJx hY h0
  refine callsIn_of_wp_marks Tryd.func45 rfl trivial ?_ rfl
  obtain ⟨Wa, hWa⟩ : ∃ Wa, W.alloc (.cells #[.func (.yield l) #[] #[]] 77) = Wa := ⟨_, rfl⟩
  have c5a : Wa.cell? ⟨B5, 0, none⟩ = some (.string s0) := by rw [← hWa]; exact ((bpush (bre W) _).cell (p := ⟨B5, 0, none⟩) hB5).trans c5
  have HY := hid hY
  have HJ := hid hJ
  have HJX := hid hJx
  have HP := hid hP
  have HN := hid h1
  clear h1 hY hJ hJx hP
  simp only [Tryd.ntmps45, List.size_toArray, List.length_cons, List.length_nil, Nat.reduceAdd, Nat.reduceSub, Array.replicate_succ, Array.replicate_zero, List.push_toArray, List.append_toArray, List.nil_append, List.cons_append]
  have yb0 : Boxed Wa W.heap.size 77 (.func (.yield l) #[] #[]) := by rw [← hWa]; exact Boxed.new W _ _
  have hsa : Wa.heap.size = W.heap.size + 1 := by rw [← hWa]; simp
  have BA : Below W.heap.size W Wa := by rw [← hWa]; exact bpush (bre W) _
  have HYB := hid yb0
  have HSA := hid hsa
  have HBA := hid BA
  clear yb0 hsa BA c5
  gi_wp2
  refine ⟨trivial, (fun h => by cases h), (callsIn_wide.2 (splitSeq_any s0 Wa)).mono ?_⟩
  rintro e w1 ⟨rfl, hw1⟩
  clear hWa c5a
  obtain ⟨k, hk⟩ : ∃ k, Wa.heap.size = k := ⟨_, rfl⟩
  have hk2 : k = W.heap.size + 1 := by rw [← hk]; exact HSA.out
  have hs1 : w1.heap.size = k + 3 := by rw [hw1]; simp; omega
  have bs : Boxed w1 k 9 (.string s0) := by rw [hw1, ← hk]; exact ((Boxed.new Wa 9 (.string s0)).alloc _).alloc _
  have bp : Boxed w1 (k + 1) 9 (.string ⟨#[44]⟩) := by
    have h := (Boxed.new (Wa.alloc (.cells #[.string s0] 9)) 9 (.string ⟨#[44]⟩)).alloc (.cells #[.int .i64 0] 3)
    rw [World.size_alloc, hk] at h
    rw [hw1]; exact h
  have bv : Boxed w1 (k + 1 + 1) 3 (.int .i64 0) := by
    have h := Boxed.new ((Wa.alloc (.cells #[.string s0] 9)).alloc (.cells #[.string ⟨#[44]⟩] 9)) 3 (.int .i64 0)
    rw [World.size_alloc, World.size_alloc, hk] at h
    rw [hw1]; exact h
  have yb : Boxed w1 W.heap.size 77 (.func (.yield l) #[] #[]) := by rw [hw1]; exact ((HYB.out.alloc _).alloc _).alloc _
  have BW : Below W.heap.size W w1 := by
    rw [hw1]
    exact HBA.out.trans ((bpush (bpush (bpush (bre Wa) _) _) _).mono HBA.out.size)
  have hJ1 := HJ.out [] W w1 h0 (ChO.of_below BW (Nat.le_refl _))
  rw [hk]
  subst hk2
  have HBS := hid (And.intro bs (And.intro bp bv))
  have HYB1 := hid yb
  have HBW := hid BW
  have HS1 := hid hs1
  clear hw1 bs bp bv yb BW hs1 hk
  gi_wp2
  refine wpIn_rangeFunc_x rfl (Nat.le_trans (by decide) HN.out) (gf := 60) (lb := #[.pointer (some ⟨W.heap.size + 1 + 1, 0, none⟩), .pointer (some ⟨W.heap.size + 1, 0, none⟩), .pointer (some ⟨W.heap.size + 1 + 1 + 1, 0, none⟩)]) rfl trivial (enters_of Tryd.func60 (by kernel_rfl) rfl)
    (encs := fun p : List UInt8 => #[.string (ba p)]) (Kp := KpT W.heap.size) (Ch := ChB (W.heap.size + 1)) (S := fun xs => xs = P) (Sp := fun pre => pre <+: P)
    (fun W1 hb hsz => split1_x (n - 1) (w1.heap.size + 1) (W.heap.size + 1 + 1) (W.heap.size + 1) (W.heap.size + 1 + 1 + 1) W.heap.size s0 hL W1 (boxed_below14 HBS.out.2.1 hb) (boxed_below14 HBS.out.1 hb) (boxed_below14 HBS.out.2.2 hb) (by omega) (by omega) (by omega) (by omega) (by omega) P HP.out)
    (fun h k => h.trans k) (fun W2 o o' ho hc _ => KpT.put W2 _ o' ho hc)
    (fun A B k o hc hk ho _ => (hc.grown.block k (Array.getElem?_eq_some_iff.1 ho).1 (fun e => by injection e with e; have := HS1.out; omega)).trans ho)
    (fun _ => rfl)
    (fun pre W2 => J (pre.map rgv14) W2 ∧ W.heap.size + 4 ≤ W2.heap.size ∧ Boxed W2 W.heap.size 77 (.func (.yield l) #[] #[]))
    (fun c pre W2 => c = .ret ∧ Jx (pre.map rgv14) W2 ∧ W.heap.size + 4 ≤ W2.heap.size)
    ?hI ?hIx ?hIc ?hIxc ⟨hJ1, by rw [HS1.out]; omega, HYB1.out⟩
    (fun p a' _ => a' = { tmps := #[.func (.yield l) #[] #[], .pointer (some ⟨B5, 0, none⟩), .pointer (some ⟨W.heap.size, 0, none⟩), .string (ba p), .string s0, .func (.func 60) #[] #[.pointer (some ⟨W.heap.size + 1 + 1, 0, none⟩), .pointer (some ⟨W.heap.size + 1, 0, none⟩), .pointer (some ⟨W.heap.size + 1 + 1 + 1, 0, none⟩)], .string (ba p), undef, undef, undef, undef, undef, undef, undef], defers := [] })
    (fun _ _ _ _ _ _ hs _ _ => hs) ?assign ?body ?done ?stop
  case hI =>
    rintro pre A B row ⟨hj, hsz, hy⟩ hg hr
    refine ⟨HJ.out _ A B hj (ChO.of_grown hg (by omega) (fun r e => ?_)), Nat.le_trans hsz hg.size, boxed_own _ _ (fun (_ : Unit) => _) () A B row hy hg (fun r e => (hr r e).2)⟩
    obtain ⟨q1, o, q2, q3⟩ := hr r e
    exact ⟨by have := HS1.out; omega, o, q2, mine14_other q3⟩
  case hIx =>
    rintro c pre A B row ⟨hc, hj, hsz⟩ hg hr
    refine ⟨hc, HJX.out _ A B hj (ChO.of_grown hg (by omega) (fun r e => ?_)), Nat.le_trans hsz hg.size⟩
    obtain ⟨q1, o, q2, q3⟩ := hr r e
    exact ⟨by have := HS1.out; omega, o, q2, mine14_other q3⟩
  case hIc =>
    rintro pre A B ⟨hj, hsz, hy⟩ hc
    exact ⟨HJ.out _ A B hj (ChO.of_box hc (by omega) (by omega)), Nat.le_trans hsz hc.grown.size, hy.kept hc.grown (fun e => by injection e with e; omega)⟩
  case hIxc =>
    rintro c pre A B ⟨hcc, hj, hsz⟩ hc
    exact ⟨hcc, HJX.out _ A B hj (ChO.of_box hc (by omega) (by omega)), Nat.le_trans hsz hc.grown.size⟩
  case assign =>
    intro l2 pre x W2 K hi hK
    have hsem := @Oper.semAt_some
    gi_wp2
    exact hK _ _ (KeepsFrom.refl _ _) ⟨Nat.le_refl _, fun _ _ _ _ _ h => h⟩ hi rfl
  case body =>
    rintro l2 pre x a' W2 hl2 _ ⟨hj, hsz, hy⟩ rfl hpre
    have hxm : (ba x).size ≤ 1048576 := by
      have h1 : x ∈ P := hpre.subset (by simp)
      rw [HP.out] at h1
      have h2 := plc_len 44 _ _ x h1
      rw [dtl] at h2
      show x.toArray.size ≤ _
      rw [List.size_toArray]
      omega
    have HRS := hid (fun w => rangeSaid_any (ba x) w hxm)
    obtain ⟨⟨⟨p, q⟩, ok⟩, hr⟩ : ∃ r, rgv14 x = r := ⟨_, rfl⟩
    rw [show (ba x).data.toList = x from rfl, hr] at HRS
    have HPR := hid hpre
    have HRR := hid hr
    have cy := hy.cell
    have HYB2 := hid hy
    have HJ2 := hid hj
    have HYY : Hid (∀ w3, Below W2.heap.size W2 w3 → YieldAt Fence.wide (n - 1) Tryd.prog l #[.agg #[.int .i64 p, .int .i64 q], .bool ok] w3 fun e W3 => ∃ b, e = .returned (.bool b) ∧ ((b = true ∧ J ((pre ++ [x]).map rgv14) W3 ∧ KpO W.heap.size W2 W3) ∨ (b = false ∧ Jx ((pre ++ [x]).map rgv14) W3 ∧ KpO W.heap.size W2 W3))) := hid (fun w3 hb => by
      obtain ⟨fn, tmps, assign, body, hyy, hR⟩ := HY.out (pre.map rgv14) (rgv14 x) w3 (HJ.out _ _ _ HJ2.out (ChO.of_below hb (by omega))) (by have := HPR.out.map rgv14; simpa using this)
      refine ⟨fn, tmps, assign, body, by rw [HRR.out] at hyy; exact hyy, hR.mono ?_⟩
      rintro e W3 (⟨h1, h2, h3⟩ | ⟨h1, h2, h3⟩)
      · exact ⟨true, h1, Or.inl ⟨rfl, by simpa using h2, (KpO.of_below hb).trans h3⟩⟩
      · exact ⟨false, h1, Or.inr ⟨rfl, by simpa using h2, (KpO.of_below hb).trans h3⟩⟩)
    have hsem := @Oper.semAt_some
    have hmx : Tryd.prog.follows .mixedOrders = true := by kernel_rfl
    have hd : 1 ≤ n - 1 - 1 := by have := HN.out; omega
    clear hr hpre hy hj hxm
    gi_wp2
    gi_region_with_o (first
      | (refine ⟨trivial, ?_⟩; gi_at_call 47; refine (CallsIn.inRound l2 (callsIn_wide.2 (HRS.out _))).mono ?_; rintro e w3 ⟨rfl, hb3⟩; have HB3 := hid (btr (bdr (bre W2)) hb3); have cy3 := (boxed_below14 HYB2.out HB3.out).cell; obtain ⟨fn, tmps, assign, body, hyy, hR⟩ := HYY.out w3 HB3.out; have HR := hid hR; clear hR hb3)
      | (refine (roundIn_inR14 l2 (RoundIn.any14 rfl HR.out)).mono ?_; rintro e W3 ⟨b, rfl, hb⟩; have HB4 := hid hb; clear hb))
    all_goals
      rcases HB4.out with ⟨rfl, h2, h3⟩ | ⟨rfl, h2, h3⟩
      · have H2 := hid h2
        have H3 := hid h3
        clear h2 h3
        gi_wp2
        exact ⟨H3.out.keepsFrom (by have := HS1.out; omega), H3.out.text, H2.out, Nat.le_trans hsz H3.out.len, H3.out.same _ _ (Nat.le_refl _) HYB2.out (mine14_box (by decide) (by decide) (by decide))⟩
      · have H2 := hid h2
        have H3 := hid h3
        clear h2 h3
        gi_wp2
        exact ⟨H3.out.keepsFrom (by have := HS1.out; omega), H3.out.text, rfl, H2.out, Nat.le_trans hsz H3.out.len⟩
  case done =>
    rintro D xs W2 hD rfl ⟨hj, hsz, hy⟩ hK
    have HJ2 := hid hj
    clear hj hy
    gi_wp2
    refine ⟨by simp, .inl ⟨_, _, rfl, run_takeDeferred hK, ?_⟩⟩
    have hch : ChO W.heap.size W2 (W2.putObj D (.deferred none)) := ChO.of_grown (grownBy_putObj' W2 D _) (by omega) (fun r e => by injection e with e; subst e; exact ⟨by have := HS1.out; omega, _, hK, mine14_other rfl⟩)
    exact ⟨_, results_none rfl _ _ _, ⟨_, rfl⟩, .inl ⟨_, rfl, HJ.out _ _ _ HJ2.out hch⟩⟩
  case stop =>
    rintro D c pre W2 hD hpre ⟨rfl, hj, hsz⟩ hK
    have HJ2 := hid hj
    clear hj
    gi_wp2
    refine ⟨by simp, .inl ⟨_, _, rfl, run_takeDeferred hK, ?_⟩⟩
    have hch : ChO W.heap.size W2 (W2.putObj D (.deferred none)) := ChO.of_grown (grownBy_putObj' W2 D _) (by omega) (fun r e => by injection e with e; subst e; exact ⟨by have := HS1.out; omega, _, hK, mine14_other rfl⟩)
    exact ⟨_, results_none rfl _ _ _, ⟨_, rfl⟩, .inr ⟨_, hpre.map rgv14, HJX.out _ _ _ HJ2.out hch⟩⟩
theorem OwG.of_same {A C : World} {B : Nat} {v : Value} {l : List G2} (h : OwG A B v l) (hs : ∀ (g : Nat) (o : Obj), A.heap[g]? = some o → mine14 o → C.heap[g]? = some o) : OwG C B v l := by
  refine ⟨h.1, ?_⟩
  rcases h.2 with h2 | ⟨g, cap, cur, h1, h2, h3, h4⟩
  · exact .inl h2
  · exact .inr ⟨g, cap, cur, h1, h2, hs g _ h3 ⟨cur, 47, (0, 0), rfl, .inr (.inr rfl)⟩, h4⟩
theorem OwG.mine {A : World} {B : Nat} {v : Value} {l : List G2} (h : OwG A B v l) {r : Nat} (hr : v.ownBlock = some r) : ∃ o, A.heap[r]? = some o ∧ mine14 o := by
  rcases h.2 with ⟨rfl, _⟩ | ⟨g, cap, cur, rfl, h2, h3, h4⟩
  · simp [Value.ownBlock] at hr
  · obtain rfl : g = r := by simpa [Value.ownBlock] using hr
    exact ⟨_, h3, cur, 47, (0, 0), rfl, .inr (.inr rfl)⟩
theorem OwG.nil14 (A : World) (B : Nat) : OwG A B (.slice none 0 0) [] := ⟨by simp [gcs], .inl ⟨rfl, rfl⟩⟩
theorem KpO.of_grown {n : Nat} {A B : World} {row : Option Nat} (h : A.grownBy B row) (hr : ∀ (r : Nat), row = some r → r < n ∨ ∃ o, A.heap[r]? = some o ∧ mine14 o) : KpO n A B := by
  refine ⟨h.size, fun k o hk ho hm => (h.block k (Array.getElem?_eq_some_iff.1 ho).1 (fun e => ?_)).trans ho⟩
  rcases hr k e.symm with h1 | ⟨o', h1, h2⟩
  · omega
  · rw [ho] at h1
    cases h1
    exact hm h2
/-- What ReadSet's own blocks hold between two rounds. -/
structure RdI (k : Nat) (w : World) (pre : List (G2 × Bool)) (W : World) : Prop where
  ok : ∀ x ∈ pre, x.2 = true
  few : pre.length ≤ 8
  list : ∃ v, Boxed W (k + 1 + 1) 24 v ∧ OwG W k v (pre.map (fun x => x.1))
  res : Boxed W k 24 (.slice none 0 0)
  flag : Boxed W (k + 1) 4 (.bool false)
  bel : Below k w W
  len : k + 4 ≤ W.heap.size
structure RdX (k : Nat) (w : World) (pre : List (G2 × Bool)) (W : World) : Prop where
  bad : (∃ x ∈ pre, x.2 = false) ∨ 8 < pre.length
  res : Boxed W k 24 (.slice none 0 0)
  flag : Boxed W (k + 1) 4 (.bool false)
  bel : Below k w W
  len : k + 4 ≤ W.heap.size
theorem RdI.same {k : Nat} {w A B : World} {pre : List (G2 × Bool)} (h : RdI k w pre A) (hb : Below k A B) (hs : ∀ (g : Nat) (o : Obj), A.heap[g]? = some o → mine14 o → B.heap[g]? = some o) : RdI k w pre B := by
  obtain ⟨v, h1, h2⟩ := h.list
  exact ⟨h.ok, h.few, ⟨v, hs _ _ h1 ⟨_, _, _, rfl, .inl rfl⟩, h2.of_same hs⟩, hs _ _ h.res ⟨_, _, _, rfl, .inl rfl⟩, hs _ _ h.flag ⟨_, _, _, rfl, .inr (.inl rfl)⟩, h.bel.trans hb, Nat.le_trans h.len hb.size⟩
theorem RdX.same {k : Nat} {w A B : World} {pre : List (G2 × Bool)} (h : RdX k w pre A) (hb : Below k A B) (hs : ∀ (g : Nat) (o : Obj), A.heap[g]? = some o → mine14 o → B.heap[g]? = some o) : RdX k w pre B :=
  ⟨h.bad, hs _ _ h.res ⟨_, _, _, rfl, .inl rfl⟩, hs _ _ h.flag ⟨_, _, _, rfl, .inr (.inl rfl)⟩, h.bel.trans hb, Nat.le_trans h.len hb.size⟩
/-- A turn of a block that is no cells, from B on. -/
theorem grown_same {A B : World} {n k : Nat} {row : Option Nat} (hg : A.grownBy B row) (hr : ∀ (r : Nat), row = some r → n ≤ r ∧ ∃ o : Obj, A.heap[r]? = some o ∧ o.isCells = false) (hk : k ≤ n) (hA : k ≤ A.heap.size) :
    Below k A B ∧ ∀ (g : Nat) (o : Obj), A.heap[g]? = some o → mine14 o → B.heap[g]? = some o := by
  have h : ChO k A B := ChO.of_grown hg hA (fun r e => by obtain ⟨q1, o, q2, q3⟩ := hr r e; exact ⟨by omega, o, q2, mine14_other q3⟩)
  exact ⟨h.bel, h.same⟩
theorem RdI.later {k : Nat} {w A B : World} {pre : List (G2 × Bool)} (h : RdI k w pre A) (hb : Below A.heap.size A B) : RdI k w pre B :=
  h.same (hb.mono (by have := h.len; omega)) (fun g o ho _ => (hb.block g (Array.getElem?_eq_some_iff.1 ho).1).trans ho)
theorem wpListIn_append_gr {F : Fence} {n : Nat} (w : World) {ops : Array Oper} {rest : List Oper} {o : Oper} {a : Act} {Q : Exit → Act → World → Prop} (hgd : o.guard = none) (s x : Operand)
    (ho : o.op = .call { callee := .builtin .append, args := #[s, x], argTypes := #[24, 24] })
    (base : Nat) (v : Value) (l : List G2) (hs : a.eval s = v) (hown : OwG w base v l) (p q : Int)
    (hx : a.eval x = .slice (some ⟨w.heap.size, 0, none⟩) 1 1) (hlen : l.length ≤ 1048576) (hbase : base ≤ w.heap.size)
    (h : ∀ v' w', OwG w' base v' (l ++ [(p, q)]) → (w.alloc (.cells #[.int .i64 p, .int .i64 q] 47)).grownBy w' v.ownBlock → wpListIn F n Tryd.prog ops Q rest (a.put o.dst v') w') :
    wpListIn F n Tryd.prog ops Q (o :: rest) a (w.alloc (.cells #[.int .i64 p, .int .i64 q] 47)) := by
  obtain ⟨i0, hi, hz0, hz1, hz2⟩ := info_parts3 info_gr
  refine wpListIn_append_own _ hgd s x 24 ho base 47 i0 _ 2 16 Tryd.underlying24 hi hz0 hz1 hz2 rfl (by decide) v _ _ hs (hown.alloc _) ⟨w.heap.size, 0, none⟩ 1 1 (gcs [(p, q)]) hx rfl (cells_new14 w (p, q) 47) (gcs_one _) (by unfold maxLen; omega) (by omega) (by simp; omega) ?_
  intro v' w' hown' hg _
  have h1 : OwG w' base v' (l ++ [(p, q)]) := by unfold OwG; rw [gcs_app]; simpa using hown'
  exact h v' w' h1 hg
set_option maxRecDepth 100000 in
theorem rangesSaid_any (s : ByteArray) (w : World) :
    Calls Tryd.prog 29 #[.string s] w fun e w' => e = .returned (.func (.func 45) #[] #[.pointer (some ⟨w.heap.size, 0, none⟩)]) ∧ w' = w.alloc (.cells #[.string s] 9) := by
  go_enter Tryd.func29, Tryd.ntmps29
  go_wp2
  go_ret
  exact ⟨rfl, rfl⟩
set_option maxRecDepth 100000 in
set_option maxHeartbeats 4000000 in
theorem implReadSet_any (s : ByteArray) (w : World) (hs : s.size ≤ 1048576) :
    Calls Tryd.prog 8 #[.string s] w fun e w' => Rs14 s w e w' := by
  refine (callsIn_wide (n := 20)).1 ?_
  refine callsIn_of_wp_marks Tryd.func8 rfl trivial ?_ rfl
  obtain ⟨P, hP⟩ : ∃ P, plc 44 s.size s.data.toList = P := ⟨_, rfl⟩
  have HRS : Hid (rset s = rdl [] (P.map rgv14)) := hid (by rw [rset_parts, dtl, hP])
  obtain ⟨Wa, hWa⟩ : ∃ Wa, ((w.alloc (.cells #[.slice none 0 0] 24)).alloc (.cells #[.bool false] 4)).alloc (.cells #[.slice none 0 0] 24) = Wa := ⟨_, rfl⟩
  have HP := hid hP
  clear hP
  simp only [Tryd.ntmps8, List.size_toArray, List.length_cons, List.length_nil, Nat.reduceAdd, Nat.reduceSub, Array.replicate_succ, Array.replicate_zero, List.push_toArray, List.append_toArray, List.nil_append, List.cons_append]
  gi_wp2
  refine ⟨trivial, (callsIn_wide.2 (rangesSaid_any s _)).mono ?_⟩
  rintro e w1 ⟨rfl, hw1⟩
  have hsa : Wa.heap.size = w.heap.size + 3 := by rw [← hWa]; simp
  have BA : Below w.heap.size w Wa := by rw [← hWa]; exact bpush (bpush (bpush (bre w) _) _) _
  have r0 : Boxed Wa w.heap.size 24 (.slice none 0 0) := by rw [← hWa]; exact ((Boxed.new w _ _).alloc _).alloc _
  have f0 : Boxed Wa (w.heap.size + 1) 4 (.bool false) := by
    have h := (Boxed.new (w.alloc (.cells #[.slice none 0 0] 24)) 4 (.bool false)).alloc (.cells #[.slice none 0 0] 24)
    rw [World.size_alloc] at h
    rw [← hWa]; exact h
  have l0 : Boxed Wa (w.heap.size + 1 + 1) 24 (.slice none 0 0) := by
    have h := Boxed.new ((w.alloc (.cells #[.slice none 0 0] 24)).alloc (.cells #[.bool false] 4)) 24 (.slice none 0 0)
    rw [World.size_alloc, World.size_alloc] at h
    rw [← hWa]; exact h
  have s0 : Boxed w1 (w.heap.size + 3) 9 (.string s) := by rw [hw1, ← hsa]; exact Boxed.new Wa 9 _
  have hs1 : w1.heap.size = w.heap.size + 4 := by rw [hw1]; simp; omega
  have B1 : Below w.heap.size w w1 := by rw [hw1]; exact bpush BA _
  have I0 : RdI w.heap.size w [] w1 := by
    refine ⟨(fun x hx => absurd hx (by simp)), (by simp), ⟨_, ?_, OwG.nil14 _ _⟩, ?_, ?_, B1, (by omega)⟩
    · rw [hw1]; exact l0.alloc _
    · rw [hw1]; exact r0.alloc _
    · rw [hw1]; exact f0.alloc _
  rw [hsa]
  have HI0 := hid I0
  have HS0 := hid s0
  have HS1 := hid hs1
  clear hw1 hWa hsa BA r0 f0 l0 s0 B1 I0 hs1
  gi_wp2
  refine wpIn_rangeFunc_x rfl (by decide) (gf := 45) (lb := #[.pointer (some ⟨w.heap.size + 3, 0, none⟩)]) rfl trivial (enters_of Tryd.func45 (by kernel_rfl) rfl)
    (encs := enG) (Kp := KpO (w.heap.size + 6)) (Ch := ChO (w.heap.size + 6)) (S := fun xs => xs = P.map rgv14) (Sp := fun pre => pre <+: P.map rgv14)
    (fun W1 hb hsz => by
      have e6 : W1.heap.size = w.heap.size + 6 := by rw [hsz, HS1.out]
      have h := ranges1_x 19 (w1.heap.size + 1) (w.heap.size + 3) (by decide) s hs W1 (by omega) ((hb.cell (p := ⟨w.heap.size + 3, 0, none⟩) HS0.out.lt).trans HS0.out.cell) P HP.out.symm
      rw [e6] at h
      exact h)
    (fun h k => h.trans k)
    (fun W2 o o' ho hc _ => KpO.of_grown (grownBy_putObj' W2 _ o') (fun r e => .inl (by injection e with e; have := HS1.out; omega)))
    (fun A B k o hc hk ho _ => (hc.bel.block k (by have := HS1.out; omega)).trans ho)
    (fun _ => rfl)
    (RdI w.heap.size w) (fun c pre W2 => c = .ret ∧ RdX w.heap.size w pre W2)
    ?hI ?hIx ?hIc ?hIxc HI0.out
    (fun x a' W2 => ∃ Bx, w.heap.size + 4 ≤ Bx ∧ Gq W2 Bx 47 x.1.1 x.1.2 ∧ a' = { tmps := #[.string s, undef, .pointer (some ⟨w.heap.size, 0, none⟩), .pointer (some ⟨w.heap.size + 1, 0, none⟩), .pointer (some ⟨w.heap.size + 1 + 1, 0, none⟩), .pointer (some ⟨Bx, 0, none⟩), .bool x.2, .string s, .func (.func 45) #[] #[.pointer (some ⟨w.heap.size + 3, 0, none⟩)], .agg #[.int .i64 x.1.1, .int .i64 x.1.2], .bool x.2, undef, undef, undef, undef, undef, undef, undef, undef, undef, undef, undef, undef], defers := [] })
    ?hAx ?assign ?body ?done ?stop
  case hI =>
    intro pre A B row hi hg hr
    have h := grown_same hg hr (show w.heap.size ≤ w1.heap.size by have := HS1.out; omega) (by have := hi.len; omega)
    exact hi.same h.1 h.2
  case hIx =>
    intro c pre A B row hi hg hr
    have h := grown_same hg hr (show w.heap.size ≤ w1.heap.size by have := HS1.out; omega) (by have := hi.2.len; omega)
    exact ⟨hi.1, hi.2.same h.1 h.2⟩
  case hIc =>
    intro pre A B hi hc
    exact hi.same (hc.bel.mono (by omega)) hc.same
  case hIxc =>
    intro c pre A B hi hc
    exact ⟨hi.1, hi.2.same (hc.bel.mono (by omega)) hc.same⟩
  case hAx =>
    rintro x a' _ A B row ⟨Bx, q1, q2, q3⟩ hg hr
    refine ⟨Bx, q1, (hg.block Bx q2.lt (fun e => ?_)).trans q2, q3⟩
    obtain ⟨_, o, h1, h2⟩ := hr Bx e.symm
    rw [show A.heap[Bx]? = _ from q2] at h1
    cases h1
    cases h2
  case assign =>
    rintro l2 pre ⟨⟨p, q⟩, ok⟩ W2 K hi hK
    have hsem := @Oper.semAt_some
    unfold enG
    dsimp only
    gi_wp2
    exact hK _ _ ((KeepsOthers.alloc _ _).from _) (KpO.of_below (bpush (bre W2) _)) (hi.later (bpush (bre W2) _)) ⟨W2.heap.size, hi.len, Gq.new W2 _ p q, rfl⟩
  case body =>
    rintro l2 pre ⟨⟨p, q⟩, ok⟩ a' W2 hl2 _ hi ⟨Bx, hBx, hG, rfl⟩ hpre
    have hsem := @Oper.semAt_some
    have HI := hid hi
    have HG := hid hG
    have cR := hi.res.cell
    have fR := hi.res.frozen
    have cF := hi.flag.cell
    have fF := hi.flag.frozen
    have HX : Hid (∀ Y, ((∃ x ∈ pre ++ [((p, q), ok)], x.2 = false) ∨ 8 < (pre ++ [((p, q), ok)]).length) → Y = (W2.setCell ⟨w.heap.size, 0, none⟩ (.slice none 0 0)).setCell ⟨w.heap.size + 1, 0, none⟩ (.bool false) → KeepsFrom w1.heap.size W2 Y ∧ KpO (w.heap.size + 6) W2 Y ∧ Go.Code.ret = Go.Code.ret ∧ RdX w.heap.size w (pre ++ [((p, q), ok)]) Y) := hid (by
      rintro Y hbad rfl
      have g1 := grownBy_setCell' W2 w.heap.size (.slice none 0 0)
      have g2 := grownBy_setCell' (W2.setCell ⟨w.heap.size, 0, none⟩ (.slice none 0 0)) (w.heap.size + 1) (.bool false)
      refine ⟨((KeepsOthers.setCell _ _ _).trans (KeepsOthers.setCell _ _ _)).from _, (KpO.of_grown g1 (fun r e => .inl (by injection e with e; omega))).trans (KpO.of_grown g2 (fun r e => .inl (by injection e with e; omega))), rfl, hbad, ?_, ?_, ?_, ?_⟩
      · exact (HI.out.res.set _).other (by omega) _
      · exact (HI.out.flag.other (by omega) _).set _
      · exact bsk (bsk HI.out.bel (Nat.le_refl _) 0 _) (by omega) 0 _
      · exact Nat.le_trans HI.out.len (Nat.le_trans g1.size g2.size))
    cases ok
    · clear hG hi
      gi_wp2
      obtain ⟨x1, x2, _, x4⟩ := HX.out _ (.inl ⟨((p, q), false), by simp, rfl⟩) rfl
      exact ⟨x1, x2, rfl, x4⟩
    · obtain ⟨v, hv, ho⟩ := hi.list
      obtain ⟨a, c, hv2⟩ := ho.shape
      rw [List.length_map] at hv2
      subst hv2
      have cL := hv.cell
      have fL := hv.frozen
      have HV := hid hv
      have HO := hid ho
      clear hv ho
      by_cases h8 : pre.length = 8
      · have e8 : ((pre.length : Int) == 8) = true := by rw [h8]; rfl
        clear hG hi
        gi_wp2
        obtain ⟨x1, x2, _, x4⟩ := HX.out _ (.inr (by simp [h8])) rfl
        exact ⟨x1, x2, rfl, x4⟩
      · have e8 : ((pre.length : Int) == 8) = false := by rw [beq_eq_false_iff_ne]; omega
        have cx := hG.cells
        clear hG hi
        have h5 : (pre.map (fun x : G2 × Bool => x.1)).length = pre.length := List.length_map ..
        have hle8 : (pre.map (fun x : G2 × Bool => x.1)).length ≤ 1048576 := by rw [h5]; have := HI.out.few; omega
        have hkl : w.heap.size ≤ W2.heap.size := by have := HI.out.len; omega
        have HLE := hid (And.intro hle8 (And.intro hkl h5))
        clear h5 hle8 hkl
        gi_wp2_with (gi_at_builtin; refine wpListIn_append_gr W2 rfl (.tmp 18) (.tmp 20) rfl w.heap.size _ _ (by rfl) HO.out p q rfl HLE.out.1 HLE.out.2.1 ?_; intro v2 w2 ho2 hg2; (obtain ⟨a2, c2, hv3⟩ := OwG.shape ho2); subst hv3; have HO2 := hid ho2; have HG2 := hid hg2; have bx2 := hid ((HV.out.alloc (.cells #[.int .i64 p, .int .i64 q] 47)).kept hg2 (HV.out.not_row (by decide) HO.out)); have cL2 := bx2.out.cell; have fL2 := bx2.out.frozen; clear ho2 hg2)
        obtain ⟨e1, e2, e3, e4, e5⟩ := HV.out.appended (by decide) HO.out HLE.out.2.1 (by omega) HO2.out HG2.out
        have hl9 : (pre ++ [((p, q), true)]).map (fun x : G2 × Bool => x.1) = pre.map (fun x => x.1) ++ [(p, q)] := by simp
        have hll : (pre.map (fun x : G2 × Bool => x.1) ++ [(p, q)]).length = pre.length + 1 := by simp
        rw [hll] at e2 e3 e4 e5 HO2
        have hbx2 := HG2.out
        have g3 := grownBy_setCell' w2 (w.heap.size + 1 + 1) (.slice a2 (pre.length + 1) c2)
        have oA : OwG (W2.alloc (.cells #[.int .i64 p, .int .i64 q] 47)) w.heap.size (.slice a pre.length c) (pre.map (fun x => x.1)) := HO.out.alloc _
        refine ⟨e4.from _, ((KpO.of_below (bpush (bre W2) _)).trans (KpO.of_grown HG2.out (fun r e => .inr (oA.mine e)))).trans (KpO.of_grown g3 (fun r e => .inl (by injection e with e; omega))), ⟨?_, ?_, ⟨_, e2, ?_⟩, ?_, ?_, HI.out.bel.trans e5, Nat.le_trans HI.out.len e5.size⟩⟩
        · intro y hy
          rcases List.mem_append.1 hy with hy | hy
          · exact HI.out.ok y hy
          · rw [List.mem_singleton] at hy; rw [hy]
        · rw [List.length_append, List.length_singleton]; have := HI.out.few; omega
        · unfold OwG
          rw [hl9, hll]
          exact e3
        · exact ((HI.out.res.alloc _).kept HG2.out (HI.out.res.not_row (by decide) HO.out)).other (by omega) _
        · exact ((HI.out.flag.alloc _).kept HG2.out (HI.out.flag.not_row (by decide) HO.out)).other (by omega) _
  case done =>
    rintro D xs W2 hD rfl hi hK
    obtain ⟨v, hv, ho⟩ := hi.list
    obtain ⟨a, c, hv2⟩ := ho.shape
    subst hv2
    have cL := hv.cell
    have cR := hi.res.cell
    have fR := hi.res.frozen
    have cF := hi.flag.cell
    have fF := hi.flag.frozen
    have HI := hid hi
    have HO := hid ho
    have HV := hid hv
    clear hi ho hv
    gi_wp2
    obtain ⟨Y, hY⟩ : ∃ Y, (W2.setCell ⟨w.heap.size, 0, none⟩ (.slice a (List.map (fun x : G2 × Bool => x.1) (P.map rgv14)).length c)).setCell ⟨w.heap.size + 1, 0, none⟩ (.bool true) = Y := ⟨_, rfl⟩
    have g1 := grownBy_setCell' W2 w.heap.size (.slice a (List.map (fun x : G2 × Bool => x.1) (P.map rgv14)).length c)
    have g2 := grownBy_setCell' (W2.setCell ⟨w.heap.size, 0, none⟩ (.slice a (List.map (fun x : G2 × Bool => x.1) (P.map rgv14)).length c)) (w.heap.size + 1) (.bool true)
    have hK' : Y.heap[D]? = some (.deferred (some [])) := by rw [← hY]; exact ((KeepsOthers.setCell _ _ _).trans (KeepsOthers.setCell _ _ _)).same D _ hK rfl
    have y1 : Boxed Y w.heap.size 24 (.slice a (List.map (fun x : G2 × Bool => x.1) (P.map rgv14)).length c) := by rw [← hY]; exact (HI.out.res.set _).other (by omega) _
    have y2 : Boxed Y (w.heap.size + 1) 4 (.bool true) := by rw [← hY]; exact (HI.out.flag.other (by omega) _).set _
    have y3 : OwG Y w.heap.size (.slice a (List.map (fun x : G2 × Bool => x.1) (P.map rgv14)).length c) (List.map (fun x => x.1) (P.map rgv14)) := by
      rw [← hY]
      have o1 := HO.out.kept g1 (.inr (HI.out.res.not_row (by decide) HO.out).symm)
      exact o1.kept g2 (.inr ((HI.out.flag.other (by omega) _).not_row (by decide) o1).symm)
    have y4 : Below w.heap.size w Y := by rw [← hY]; exact bsk (bsk HI.out.bel (Nat.le_refl _) 0 _) (by omega) 0 _
    have hll : (List.map (fun x : G2 × Bool => x.1) (P.map rgv14)).length = P.length := by simp
    have gD := grownBy_putObj' Y D (.deferred none)
    have hrD : ∀ (r : Nat), some D = some r → w1.heap.size ≤ r ∧ ∃ o : Obj, Y.heap[r]? = some o ∧ o.isCells = false := fun r e => by injection e with e; subst e; exact ⟨hD, _, hK', rfl⟩
    have hsY : w.heap.size ≤ Y.heap.size := y4.size
    have hsm := grown_same gD hrD (show w.heap.size ≤ w1.heap.size by have := HS1.out; omega) hsY
    have z1 := Boxed.cell (hsm.2 _ _ y1 ⟨_, _, _, rfl, .inl rfl⟩)
    have z2 := Boxed.cell (hsm.2 _ _ y2 ⟨_, _, _, rfl, .inr (.inl rfl)⟩)
    rw [hll] at hY z1
    rw [hY]
    refine ⟨by simp, .inl ⟨_, _, rfl, run_takeDeferred hK', ?_⟩⟩
    have HR2 : rset s = some (List.map (fun x => x.1) (P.map rgv14)) := by
      rw [HRS.out]
      unfold rdl
      rw [if_pos ⟨List.all_eq_true.2 HI.out.ok, by have := HI.out.few; simpa using this⟩, List.nil_append]
    refine ⟨.tuple #[.slice a P.length c, .bool true], ?_, ⟨.slice a P.length c, ?_, ?_, y4.trans hsm.1⟩⟩
    · simp [results, Tryd.f8, go_sem, z1, z2]
    · rw [HR2]
      rw [hll] at y3
      exact y3.of_same hsm.2
    · rw [HR2]; rfl
  case stop =>
    rintro D c pre W2 hD hpre ⟨rfl, hx⟩ hK
    have cR := hx.res.cell
    have cF := hx.flag.cell
    have HX := hid hx
    clear hx
    gi_wp2
    have gD := grownBy_putObj' W2 D (.deferred none)
    have hrD : ∀ (r : Nat), some D = some r → w1.heap.size ≤ r ∧ ∃ o : Obj, W2.heap[r]? = some o ∧ o.isCells = false := fun r e => by injection e with e; subst e; exact ⟨hD, _, hK, rfl⟩
    have hsm := grown_same gD hrD (show w.heap.size ≤ w1.heap.size by have := HS1.out; omega) (show w.heap.size ≤ W2.heap.size by have := HX.out.len; omega)
    have z1 := Boxed.cell (hsm.2 _ _ HX.out.res ⟨_, _, _, rfl, .inl rfl⟩)
    have z2 := Boxed.cell (hsm.2 _ _ HX.out.flag ⟨_, _, _, rfl, .inr (.inl rfl)⟩)
    refine ⟨by simp, .inl ⟨_, _, rfl, run_takeDeferred hK, ?_⟩⟩
    have HR2 : rset s = none := by
      rw [HRS.out]
      rcases HX.out.bad with ⟨y, hy, hb⟩ | h8
      · exact rdl_bad (hpre.subset hy) hb
      · unfold rdl
        rw [if_neg]
        rintro ⟨_, h⟩
        have := hpre.length_le
        simp only [List.length_nil, Nat.zero_add] at h
        omega
    refine ⟨.tuple #[.slice none 0 0, .bool false], ?_, ⟨.slice none 0 0, ?_, ?_, HX.out.bel.trans hsm.1⟩⟩
    · simp [results, Tryd.f8, go_sem, z1, z2]
    · rw [HR2]
      exact OwG.nil14 _ _
    · rw [HR2]; rfl
end Go.Proofs.YtkbiebacbebdnaaDoor
namespace Go.Proofs.YtkbiebacbebdnaaDoor
open Go.RowKit
theorem gcs_at (l : List G2) (i : Nat) (h : i < l.length) : (gcs l)[i * 2]? = some (.int .i64 l[i].1) ∧ (gcs l)[i * 2 + 1]? = some (.int .i64 l[i].2) := by
  induction l generalizing i with
  | nil => simp at h
  | cons p l ih =>
    cases i with
    | zero => exact ⟨rfl, rfl⟩
    | succ i =>
      have h' : i < l.length := by simpa using h
      have := ih i h'
      have e : (i + 1) * 2 = i * 2 + 1 + 1 := by omega
      rw [e]
      simpa [gcs] using this
theorem gcs_set (l : List G2) (i : Nat) (p : G2) (h : i < l.length) : ((gcs l).set (i * 2) (.int .i64 p.1)).set (i * 2 + 1) (.int .i64 p.2) = gcs (l.set i p) := by
  induction l generalizing i with
  | nil => simp at h
  | cons q l ih =>
    cases i with
    | zero => rfl
    | succ i =>
      have h' : i < l.length := by simpa using h
      have := ih i h'
      have e : (i + 1) * 2 = i * 2 + 1 + 1 := by omega
      rw [e]
      simpa [gcs] using this
section
variable {W W' : World} {B g n c : Nat} {l : List G2}
theorem OwG.len {a : Option Addr} (h : OwG W B (.slice a n c) l) : l.length = n := by
  obtain ⟨a', c', e⟩ := h.shape
  simp only [Value.slice.injEq] at e
  exact e.2.1.symm
theorem OwG.spot (h : OwG W B (.slice (some ⟨g, 0, none⟩) n c) l) (i : Nat) (hi : i < l.length) :
    (W.cell? ⟨g, i * 2, none⟩ = some (.int .i64 l[i].1) ∧ W.cell? ⟨g, i * 2 + 1, none⟩ = some (.int .i64 l[i].2)) ∧ W.frozen? ⟨g, i * 2, none⟩ = false ∧ W.frozen? ⟨g, i * 2 + 1, none⟩ = false := by
  obtain rfl := h.len
  exact ⟨⟨(World.ownsRow.cellAt h _ (by omega)).trans (gcs_at l i hi).1, (World.ownsRow.cellAt h _ (by omega)).trans (gcs_at l i hi).2⟩, World.ownsRow.frozenAt h _, World.ownsRow.frozenAt h _⟩
theorem OwG.put1 (h : OwG W B (.slice (some ⟨g, 0, none⟩) n c) l) (i : Nat) (hi : i < l.length) (x : Int) : OwG (W.setCell ⟨g, i * 2, none⟩ (.int .i64 x)) B (.slice (some ⟨g, 0, none⟩) n c) (l.set i (x, l[i].2)) := by
  obtain rfl := h.len
  have h1 := (World.ownsRow.stored h (i * 2) (.int .i64 x)).1
  have e : (gcs l).set (i * 2) (.int .i64 x) = gcs (l.set i (x, l[i].2)) := by
    rw [← gcs_set l i (x, l[i].2) hi]
    refine (List.ext_getElem? fun j => ?_)
    by_cases hj : i * 2 + 1 = j
    · subst hj
      rw [List.getElem?_set_self (by rw [List.length_set, gcs_len]; omega), List.getElem?_set_ne (by omega), (gcs_at l i hi).2]
    · rw [List.getElem?_set_ne hj]
  rw [e] at h1
  unfold OwG
  rw [List.length_set]
  exact h1
theorem OwG.put2 (h : OwG W B (.slice (some ⟨g, 0, none⟩) n c) l) (i : Nat) (hi : i < l.length) (t : Int) : OwG (W.setCell ⟨g, i * 2 + 1, none⟩ (.int .i64 t)) B (.slice (some ⟨g, 0, none⟩) n c) (l.set i (l[i].1, t)) := by
  obtain rfl := h.len
  have h1 := (World.ownsRow.stored h (i * 2 + 1) (.int .i64 t)).1
  have e : (gcs l).set (i * 2 + 1) (.int .i64 t) = gcs (l.set i (l[i].1, t)) := by
    rw [← gcs_set l i (l[i].1, t) hi]
    have e2 : (gcs l).set (i * 2) (.int .i64 l[i].1) = gcs l := by
      refine (List.ext_getElem? fun j => ?_)
      by_cases hj : i * 2 = j
      · subst hj
        rw [List.getElem?_set_self (by rw [gcs_len]; omega), (gcs_at l i hi).1]
      · rw [List.getElem?_set_ne hj]
    rw [e2]
  rw [e] at h1
  unfold OwG
  rw [List.length_set]
  exact h1
theorem OwG.some {a : Option Addr} (h : OwG W B (.slice a n c) l) (hn : 0 < n) : ∃ g, a = some ⟨g, 0, none⟩ := by
  rcases h.2 with ⟨h1, h2⟩ | ⟨g, cap, cur, h1, _⟩
  · have := h.len; omega
  · simp only [Value.slice.injEq] at h1
    exact ⟨g, h1.1⟩
end
/-- Marks of n tokens from k on. -/
def mgr (k : Nat) : Nat → List G2
  | 0 => []
  | n + 1 => mgr k n ++ [(((k + n * 2 : Nat) : Int), ((k + n * 2 + 1 : Nat) : Int))]
theorem mgr_len (k n : Nat) : (mgr k n).length = n := by
  induction n with
  | zero => rfl
  | succ n ih => simp [mgr, ih]
theorem mgr_at (k : Nat) : ∀ (n i : Nat) (h : i < (mgr k n).length), (mgr k n)[i] = (((k + i * 2 : Nat) : Int), ((k + i * 2 + 1 : Nat) : Int))
  | 0, i, h => by simp [mgr] at h
  | n + 1, i, h => by
    have hi : i < n + 1 := by rw [mgr_len] at h; exact h
    by_cases e : i = n
    · subst e
      simp only [mgr]
      rw [List.getElem_append_right (by rw [mgr_len]; exact Nat.le_refl _)]
      simp [mgr_len]
    · simp only [mgr]
      rw [List.getElem_append_left (by rw [mgr_len]; omega)]
      exact mgr_at k n i _
/-- The first i are marked. -/
def mdr (k : Nat) (l : List G2) (i : Nat) : List G2 := mgr k i ++ l.drop i
theorem mdr_len (k : Nat) (l : List G2) (i : Nat) (h : i ≤ l.length) : (mdr k l i).length = l.length := by simp [mdr, mgr_len]; omega
theorem mdr_set (k : Nat) (l : List G2) (i : Nat) (h : i < l.length) : (mdr k l i).set i (((k + i * 2 : Nat) : Int), ((k + i * 2 + 1 : Nat) : Int)) = mdr k l (i + 1) := by
  unfold mdr
  rw [List.drop_eq_getElem_cons h, List.set_append_right _ _ (by rw [mgr_len]; exact Nat.le_refl _), mgr_len, Nat.sub_self, List.set_cons_zero]
  simp [mgr]
/-- Block k holds a range. -/
def Gk (W : World) (k ty : Nat) (p q : Int) : Prop := W.heap[k]? = some (.cells #[.int .i64 p, .int .i64 q] ty)
theorem Gk.new (w : World) (ty : Nat) (p q : Int) : Gk (w.alloc (.cells #[.int .i64 p, .int .i64 q] ty)) w.heap.size ty p q := heap_alloc_new w _
theorem Gk.lt {W : World} {k ty : Nat} {p q : Int} (h : Gk W k ty p q) : k < W.heap.size := (Array.getElem?_eq_some_iff.1 h).1
theorem Gk.later {W W' : World} {k ty : Nat} {p q : Int} (h : Gk W k ty p q) (hb : Below W.heap.size W W') : Gk W' k ty p q := (hb.block k h.lt).trans h
theorem Gk.cells {W : World} {k ty : Nat} {p q : Int} (h : Gk W k ty p q) : W.cell? ⟨k, 0, none⟩ = some (.int .i64 p) ∧ W.cell? ⟨k, 1, none⟩ = some (.int .i64 q) := ⟨cell_of_row W k 0 _ _ _ h, cell_of_row W k 1 _ _ _ h⟩
set_option maxHeartbeats 800000 in
set_option maxRecDepth 100000 in
theorem eqRange_same (kd t : Int) (w : World) : Calls Tryd.prog 40 #[.agg #[.int .i64 kd, .int .i64 t], .agg #[.int .i64 kd, .int .i64 t]] w fun e w' => e = .returned (.bool true) ∧ Below w.heap.size w w' := by
  obtain ⟨W0, hW0⟩ : ∃ W0, (w.alloc (.cells #[.int .i64 kd, .int .i64 t] 47)).alloc (.cells #[.int .i64 kd, .int .i64 t] 47) = W0 := ⟨_, rfl⟩
  have k0 : Gk W0 w.heap.size 47 kd t := by subst hW0; exact (Gk.new w _ kd t).later (bpush (bre _) _)
  have k1 : Gk W0 (w.heap.size + 1) 47 kd t := by
    subst hW0
    have h := Gk.new (w.alloc (.cells #[.int .i64 kd, .int .i64 t] 47)) 47 kd t
    rw [show (w.alloc (.cells #[.int .i64 kd, .int .i64 t] 47)).heap.size = w.heap.size + 1 by simp] at h
    exact h
  have B0 : Hid (Below w.heap.size w W0) := by subst hW0; exact bpush (bpush (bre _) _) _
  have c0 := k0.cells
  have c1 := k1.cells
  clear k0 k1
  have e1 : (kd != kd) = false := by simp
  have e2 : (t != t) = false := by simp
  go_enter Tryd.func40, Tryd.ntmps40
  go_wp2
  go_ret
  exact ⟨rfl, B0.out⟩
set_option maxHeartbeats 1600000 in
set_option maxRecDepth 100000 in
theorem eqRangeS_any (B B' : Nat) (a a' : Option Addr) (n c c' : Nat) (l : List G2) (w : World) (hn : n ≤ 1048576) (h1 : OwG w B (.slice a n c) l) (h2 : OwG w B' (.slice a' n c') l) :
    Calls Tryd.prog 21 #[.slice a n c, .slice a' n c'] w fun e w' => e = .returned (.bool true) ∧ Below w.heap.size w w' := by
  have H1 := hid h1
  have H2 := hid h2
  clear h1 h2
  have e0 : ((n : Int) != (n : Int)) = false := by simp
  go_enter Tryd.func21, Tryd.ntmps21
  go_wp2
  clear e0
  go_loopw [5] (fun iv wr => ∃ i : Nat, i ≤ n ∧ iv = .int .i64 (i : Int) ∧ Below w.heap.size w wr) (fun iv _ => n - (intOf iv).toNat)
  case atStart => exact ⟨0, Nat.zero_le _, rfl, bre _⟩
  case round =>
    obtain ⟨i, hi, rfl, hb⟩ := hrel
    have HB := hid hb
    clear hb
    by_cases hlt : i < n
    · obtain ⟨g, rfl⟩ := H1.out.some (by omega)
      obtain ⟨g', rfl⟩ := H2.out.some (by omega)
      have hil : i < l.length := by rw [H1.out.len]; exact hlt
      obtain ⟨⟨kd, t⟩, hx⟩ : ∃ x, l[i] = x := ⟨_, rfl⟩
      have HS : Hid (∀ W, Below wr.heap.size wr W → (W.cell? ⟨g, i * 2, none⟩ = some (.int .i64 kd) ∧ W.cell? ⟨g, i * 2 + 1, none⟩ = some (.int .i64 t)) ∧ (W.cell? ⟨g', i * 2, none⟩ = some (.int .i64 kd) ∧ W.cell? ⟨g', i * 2 + 1, none⟩ = some (.int .i64 t))) := fun W hW => by
        have q1 := (OwG.spot (own_later H1.out (btr HB.out hW)) i hil).1
        have q2 := (OwG.spot (own_later H2.out (btr HB.out hW)) i hil).1
        rw [hx] at q1 q2
        exact ⟨q1, q2⟩
      clear hx
      go_wp2_with fail
      go_region_held3 (fun W => (W.cell? ⟨g, i * 2, none⟩ = some (.int .i64 kd) ∧ W.cell? ⟨g, i * 2 + 1, none⟩ = some (.int .i64 t)) ∧ (W.cell? ⟨g', i * 2, none⟩ = some (.int .i64 kd) ∧ W.cell? ⟨g', i * 2 + 1, none⟩ = some (.int .i64 t)))
        ((refine HS.out _ ?_; repeat (first | exact bdr (bre _) | exact P2.out | refine btr ?_ (by assumption))))
        ((go_at_call 40; refine (eqRange_same kd t _).mono ?_; rintro e w2 ⟨rfl, hb2⟩; have P2 : Hid (Below wr.heap.size wr w2) := btr (bdr (bre _)) hb2))
      go_wp2
      go_roundw
      case rel => exact ⟨i + 1, by omega, by go_num, btr HB.out P2.out⟩
      case measure => simp [intOf]; omega
    · go_wp2
      go_ret
      exact ⟨rfl, HB.out⟩
end Go.Proofs.YtkbiebacbebdnaaDoor
