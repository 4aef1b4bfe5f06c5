/- Hma, Hmb, Hbk, Hfi. -/

import Derived.Test.YtmpcmllfgogegaaGreatjGb
namespace Go.Proofs.YtmpcmllfgogegaaGreat
open Go.RowKit Go.ChangeMaps
theorem run_put_new9 {W : World} {b c : Nat} {E : List En} (hb : W.heap[b]? = some (.map (E.map ent).toArray c)) (z : Z5) (h : ∀ e ∈ E, e.1.1 ≠ z.1) :
  (Instr.mapUpdate 114 (.map (some b)) (.int .i64 z.1) (zv z)).run Tryz.prog W = .ok () (setBlock W b (.map ((E ++ [(z, c)]).map ent).toArray (c + 1))) := by
 have hf := run_find W (find_no z.1 E 0 h)
 simp [Instr.mapUpdate, run_underlying Tryz.underlying114, MapKept.run_getObj_map hb, run_check, hf, MapKept.run_setObj_map _ hb, Result.andThen, setBlock]
 rfl
theorem run_put_old9 {W : World} {b c : Nat} {E1 : List En} {e : En} {E2 : List En} (hb : W.heap[b]? = some (.map ((E1 ++ e :: E2).map ent).toArray c)) (z : Z5) (h : ∀ x ∈ E1, x.1.1 ≠ z.1) (he : e.1.1 = z.1) :
  (Instr.mapUpdate 114 (.map (some b)) (.int .i64 z.1) (zv z)).run Tryz.prog W = .ok () (setBlock W b (.map ((E1 ++ (z, e.2) :: E2).map ent).toArray c)) := by
 have hf := run_find W (find_yes z.1 E1 e E2 0 h he)
 rw [Nat.zero_add] at hf
 have hi : ((E1 ++ e :: E2).map ent).toArray[E1.length]? = some (ent e) := by simp
 have hm : ((E1 ++ e :: E2).map ent).toArray.modify E1.length (fun e' => { e' with key := .int .i64 z.1, val := zv z }) = ((E1 ++ (z, e.2) :: E2).map ent).toArray := by
  apply Array.ext'
  rw [Array.toList_modify]
  simp only [List.map_append, List.map_cons]
  have := modify_at (E1.map ent) (ent e) (E2.map ent) (fun e' => { e' with key := .int .i64 z.1, val := zv z })
  rw [List.length_map] at this
  rw [this]
  rfl
 have hk : ∀ W, (Instr.keyThatStays (.int .i64 e.1.1) (.int .i64 z.1)).run Tryz.prog W = .ok (.int .i64 z.1) W := fun W => by
  simp [Instr.keyThatStays, Instr.sameBits, he]
 have hi' : (((((E1 ++ e :: E2).map ent).toArray[E1.length]?).map (·.key)).getD (.int .i64 z.1)) = .int .i64 e.1.1 := by rw [hi]; rfl
 simp only [Instr.mapUpdate, run_underlying Tryz.underlying114, MapKept.run_getObj_map hb, run_check, hf, Result.andThen, Sem.run_bind, hi', hk, hm]
 rw [MapKept.run_setObj_map _ hb]
 rfl
structure Mp (W : World) (B b : Nat) (E : List En) (c : Nat) : Prop where
 lies : W.heap[b]? = some (.map (E.map ent).toArray c)
 base : B ≤ b
 old : ∀ e ∈ E, e.2 < c
 births : (E.map (·.2)).Nodup
 keys : (E.map (fun e => e.1.1)).Nodup
theorem Mp.lt {W : World} {B b c : Nat} {E : List En} (h : Mp W B b E c) : b < W.heap.size := (Array.getElem?_eq_some_iff.1 h.lies).1
theorem Mp.same {W W' : World} {B b c : Nat} {E : List En} (h : Mp W B b E c) (hb : W'.heap[b]? = W.heap[b]?) : Mp W' B b E c :=
 ⟨hb.trans h.lies, h.base, h.old, h.births, h.keys⟩
theorem Mp.later {W W' : World} {B b c : Nat} {E : List En} (h : Mp W B b E c) (hb : Below W.heap.size W W') : Mp W' B b E c := h.same (hb.block b h.lt)
theorem Mp.put {W : World} {B b c : Nat} {E : List En} (h : Mp W B b E c) (z : Z5) :
  ∃ W' E' c', (Instr.mapUpdate 114 (.map (some b)) (.int .i64 z.1) (zv z)).run Tryz.prog W = .ok () W' ∧ Mp W' B b E' c' ∧ (∀ y, y ∈ E'.map (·.1) ↔ y = z ∨ (y ∈ E.map (·.1) ∧ y.1 ≠ z.1)) ∧ E'.length ≤ E.length + 1 ∧ W.grownBy W' (some b) := by
 by_cases hn : ∀ e ∈ E, e.1.1 ≠ z.1
 ·refine ⟨_, E ++ [(z, c)], c + 1, run_put_new9 h.lies z hn, ⟨heap_setBlock_same h.lies _, h.base, ?_, ?_, ?_⟩, ?_, by simp, setBlock_grown h.lies _⟩
  ·intro e he
   rcases List.mem_append.1 he with he | he
   ·have := h.old e he; omega
   ·simp at he; subst he; simp
  ·rw [List.map_append, List.nodup_append]
   refine ⟨h.births, by simp, ?_⟩
   intro x hx y hy
   simp at hy
   subst hy
   obtain ⟨e, he, rfl⟩ := List.mem_map.1 hx
   have := h.old e he
   omega
  ·rw [List.map_append, List.nodup_append]
   refine ⟨h.keys, by simp, ?_⟩
   intro x hx y hy
   simp at hy
   subst hy
   obtain ⟨e, he, rfl⟩ := List.mem_map.1 hx
   exact hn e he
  ·intro y
   rw [List.map_append, List.mem_append]
   simp only [List.map_cons, List.map_nil, List.mem_singleton]
   constructor
   ·rintro (hy | hy)
    ·obtain ⟨e, he, rfl⟩ := List.mem_map.1 hy
     exact Or.inr ⟨hy, hn e he⟩
    ·exact Or.inl hy
   ·rintro (hy | hy)
    ·exact Or.inr hy
    ·exact Or.inl hy.1
 ·obtain ⟨E1, e0, E2, rfl, h1, h2⟩ := split_key hn
  have hk := h.keys
  rw [List.map_append, List.map_cons, List.nodup_append] at hk
  have h3 : ∀ x ∈ E2, x.1.1 ≠ z.1 := fun x hx ex => by
   have := (List.nodup_cons.1 hk.2.1).1
   exact this (by rw [h2, ← ex]; exact List.mem_map.2 ⟨x, hx, rfl⟩)
  refine ⟨_, E1 ++ (z, e0.2) :: E2, c, run_put_old9 h.lies z h1 h2, ⟨heap_setBlock_same h.lies _, h.base, ?_, ?_, ?_⟩, ?_, by simp, setBlock_grown h.lies _⟩
  ·intro e he
   rcases List.mem_append.1 he with he | he
   ·exact h.old e (by simp [he])
   ·rcases List.mem_cons.1 he with rfl | he
    ·exact h.old e0 (by simp)
    ·exact h.old e (by simp [he])
  ·have := h.births
   simpa using this
  ·have := h.keys
   rw [List.map_append, List.map_cons] at this ⊢
   rwa [h2] at this
  ·intro y
   simp only [List.map_append, List.map_cons, List.mem_append, List.mem_cons]
   constructor
   ·rintro (hy | rfl | hy)
    ·obtain ⟨e, he, rfl⟩ := List.mem_map.1 hy
     exact Or.inr ⟨Or.inl hy, h1 e he⟩
    ·exact Or.inl rfl
    ·obtain ⟨e, he, rfl⟩ := List.mem_map.1 hy
     exact Or.inr ⟨Or.inr (Or.inr hy), h3 e he⟩
   ·rintro (rfl | ⟨hy | rfl | hy, hne⟩)
    ·exact Or.inr (Or.inl rfl)
    ·exact Or.inl hy
    ·exact absurd h2 hne
    ·exact Or.inr (Or.inr hy)
theorem Mp.ask {W : World} {B b c : Nat} {E : List En} (h : Mp W B b E c) (x : Int) :
  ((∀ e ∈ E, e.1.1 ≠ x) ∧ (Instr.lookup 114 (.map (some b)) (.int .i64 x) true).run Tryz.prog W = .ok (.tuple #[.agg #[.int .i64 0, .int .i64 0, .slice none 0 0, .string ⟨#[]⟩], .bool false]) W) ∨ ∃ z ∈ E.map (·.1), z.1 = x ∧ (Instr.lookup 114 (.map (some b)) (.int .i64 x) true).run Tryz.prog W = .ok (.tuple #[zv z, .bool true]) W := by
 by_cases hn : ∀ e ∈ E, e.1.1 ≠ x
 ·refine Or.inl ⟨hn, ?_⟩
  have hf := run_find W (find_no x E 0 hn)
  have hz := Tryz.zeroValue37 W
  simp only [Instr.lookup, Sem.run_bind, run_underlying Tryz.underlying114, Result.andThen, MapKept.run_getObj_map h.lies, Sem.run_pure, run_check, hf, hz]
  rfl
 ·obtain ⟨E1, e0, E2, rfl, h1, h2⟩ := split_key hn
  refine Or.inr ⟨e0.1, List.mem_map.2 ⟨e0, by simp, rfl⟩, h2, ?_⟩
  have hf := run_find W (find_yes x E1 e0 E2 0 h1 h2)
  simp only [Instr.lookup, Sem.run_bind, run_underlying Tryz.underlying114, Result.andThen, MapKept.run_getObj_map h.lies, Sem.run_pure, run_check, hf]
  rfl
theorem make_mp (n : Nat) (W : World) : (Instr.makeMap 114 (some (.int .i64 (n : Int)))).run Tryz.prog W = .ok (.map (some W.heap.size)) (W.alloc (.map #[] 0)) := by
 simp only [Instr.makeMap, Sem.run_bind, run_underlying Tryz.underlying114, Result.andThen]
 rfl
theorem run_range_mp {W : World} {b c : Nat} {es : Array MapEntry} (hb : W.heap[b]? = some (.map es c)) : (Instr.range 114 (.map (some b))).run Tryz.prog W = .ok (.pointer (some ⟨W.heap.size, 0, none⟩)) (W.alloc (.mapIter (some b) c #[] c)) := by
 simp only [Instr.range, Sem.run_bind, run_underlying Tryz.underlying114, Result.andThen, MapKept.run_getObj_map hb]
 rfl
def fdz (x : Int) : List Z5 → Option Z5
 | [] => none
 | z :: Z => if z.1 = x then some z else fdz x Z
theorem fdz_md (x : Int) (Z : List Z5) : fnd x (Z.map md) = (fdz x Z).map md := by
 induction Z with
 | nil => rfl
 | cons z Z ih =>
  rw [List.map_cons, fnd, fdz]
  by_cases h : z.1 = x
  ·rw [if_pos (show (md z).1 = x from h), if_pos h]; rfl
  ·rw [if_neg (show ¬ (md z).1 = x from h), if_neg h, ih]
theorem fdz_mem {x : Int} {Z : List Z5} {z : Z5} (h : fdz x Z = some z) : z ∈ Z ∧ z.1 = x := by
 induction Z with
 | nil => cases h
 | cons y Z ih =>
  rw [fdz] at h
  by_cases e : y.1 = x
  ·rw [if_pos e] at h; obtain rfl := Option.some.inj h; exact ⟨by simp, e⟩
  ·rw [if_neg e] at h; exact ⟨by simp [(ih h).1], (ih h).2⟩
end Go.Proofs.YtmpcmllfgogegaaGreat
namespace Go.Proofs.YtmpcmllfgogegaaGreat
open Go.RowKit Go.Shelf Go.ChangeMaps
attribute [local go_sem] Oper.semAt_some
set_option maxRecDepth 100000 in
set_option maxHeartbeats 4000000 in
theorem values9_in (F : Fence) (n : Nat) (h7 : F.fn 166) (hro : F.round = none) (hn : 1 ≤ n) (l Bm b c : Nat) (E : List En) (J Jx : List { e : En // e ∈ E } → World → Prop)
  (hY : ∀ pre x W, J pre W → pre.length < E.length → YieldAt F (n - 1) Tryz.prog l #[zv x.1.1] W fun e W' =>
    (e = .returned (.bool true) ∧ J (pre ++ [x]) W' ∧ KeepsWalks W W') ∨ (e = .returned (.bool false) ∧ Jx (pre ++ [x]) W'))
  (W : World) (hJ : AbidesFrom W.heap.size J) (hm : W.cell? ⟨Bm, 0, none⟩ = some (.map (some b))) (hlies : W.heap[b]? = some (.map (E.map ent).toArray c)) (hold : ∀ e ∈ E, e.2 < c) (hbir : (E.map (·.2)).Nodup) (hsl : ∀ e ∈ E, ∃ a k c, e.1.2.2.1 = .slice a k c) (h0 : J [] W) :
  CallsIn F n Tryz.prog 166 #[.func (.yield l) #[] #[], .pointer (some ⟨Bm, 0, none⟩)] W fun e W' => (∃ v, e = .returned v) ∧
   ((∃ xs, ((xs.map (·.1)).Perm E) ∧ J xs W') ∨ (∃ pre, True ∧ Jx pre W')) := by
 have hrg := run_range_mp hlies
 have hblt : b < W.heap.size := (Array.getElem?_eq_some_iff.1 hlies).1
 have HLI := hid hlies
 have HY := hid hY
 have HJ := hid hJ
 have H0 := hid h0
 have HBL := hid hblt
 have HOL : Hid (∀ x ∈ ((E.map ent).toArray).toList, x.born < c) := by
  intro x hx
  rw [List.toList_toArray] at hx
  obtain ⟨e, he, rfl⟩ := List.mem_map.1 hx
  exact hold e he
 have HBN : Hid ((((E.map ent).toArray).toList.map (·.born)).Nodup) := by
  show List.Nodup _
  rw [List.toList_toArray, List.map_map]
  exact hbir
 have HBI := hid hbir
 have HSL := hid hsl
 clear hlies hY hJ h0 hblt hold hbir hsl
 refine callsIn_of_wp Tryz.func166 rfl h7 ?_ hro
 simp only [Tryz.ntmps166, List.size_toArray, List.length_cons, List.length_nil, Nat.reduceAdd, Nat.reduceSub, Array.replicate_succ, Array.replicate_zero, List.push_toArray, List.append_toArray, List.nil_append, List.cons_append]
 gi_wp2
 clear hrg hm
 gi_loopw [7] (fun _ wr => ∃ (seen : Array Nat) (ps : List { e : En // e ∈ E }), wr.heap[W.heap.size]? = some (.mapIter (some b) c seen c) ∧ wr.heap[b]? = some (.map (E.map ent).toArray c) ∧ (ps.map (·.1) ++ lfE E seen).Perm E ∧ J ps wr)
  (fun _ wr => lft b W.heap.size wr)
 case atStart =>
  refine ⟨#[], [], heap_alloc_new W _, (Below.heap_alloc _ _ b HBL.out).trans HLI.out, ?_, HJ.out [] W _ none H0.out (World.grownBy_alloc W _ none) (fun r e => by cases e)⟩
  have : lfE E #[] = E := by unfold lfE; rw [List.filter_eq_self.2]; simp
  rw [this]; exact List.Perm.refl _
 case round =>
  obtain ⟨seen, ps, hr, hb, hP, hJs⟩ := hrel
  have HR := hid hr
  have HB := hid hb
  have HP := hid hP
  have HJS := hid hJs
  have hnx := run_next_at (P := Tryz.prog) wr 0 W.heap.size b c c seen (E.map ent).toArray c hr hb HOL.out (Nat.le_refl _)
  rw [lf_of] at hnx
  clear hr hb hP hJs
  rcases hnx with ⟨hz, hrun⟩ | ⟨e, he, w1, hw1, hrun⟩
  ·have HZ : Hid (lfE E seen = []) := by
    show _ = _
    rw [List.size_toArray, List.length_map] at hz
    exact List.eq_nil_of_length_eq_zero hz
   clear hz
   gi_wp2
   go_end0
   refine ⟨⟨_, rfl⟩, .inl ⟨ps, ?_, HJS.out⟩⟩
   have := HP.out
   rwa [HZ.out, List.append_nil] at this
  ·rw [List.toList_toArray] at he
   obtain ⟨x, hx, rfl⟩ := List.mem_map.1 he
   have hxE : x ∈ E := (List.mem_filter.1 hx).1
   have HXL := hid hx
   have hwh : w1.heap = wr.heap := by rcases hw1 with rfl | rfl <;> rfl
   have hr1 : w1.heap[W.heap.size]? = some (.mapIter (some b) c seen c) := by rw [hwh]; exact HR.out
   obtain ⟨W2, hW2⟩ : ∃ W2, setBlock w1 W.heap.size (.mapIter (some b) c (seen.push x.2) c) = W2 := ⟨_, rfl⟩
   have hg2 : wr.grownBy W2 (some W.heap.size) := by
    subst hW2
    have hlt := (Array.getElem?_eq_some_iff.1 hr1).1
    refine ⟨?_, ?_, ?_, ?_, ?_⟩
    ·rcases hw1 with rfl | rfl <;> rfl
    ·rcases hw1 with rfl | rfl <;> rfl
    ·rcases hw1 with rfl | rfl <;> rfl
    ·simp [setBlock, hwh]
    ·intro k hk hne
     simp only [setBlock, hwh]
     exact Array.getElem?_setIfInBounds_ne (fun e => hne (by rw [e]))
   have hr2 : W2.heap[W.heap.size]? = some (.mapIter (some b) c (seen.push x.2) c) := by
    subst hW2
    simp only [setBlock]
    rw [Array.getElem?_setIfInBounds_self_of_lt (Array.getElem?_eq_some_iff.1 hr1).1]
   have hb2 : W2.heap[b]? = some (.map (E.map ent).toArray c) := (hg2.block b (Array.getElem?_eq_some_iff.1 HB.out).1 (fun e => by have := HBL.out; simp at e; omega)).trans HB.out
   have hen := run_entry_at (P := Tryz.prog) W2 W.heap.size b c seen (E.map ent).toArray c (ent x) hr2 hb2 (by rw [List.toList_toArray]; exact List.mem_map.2 ⟨x, hxE, rfl⟩) HBN.out
   have hJ2 : J ps W2 := HJ.out ps wr W2 (some W.heap.size) HJS.out hg2 (fun r e => by cases e; exact ⟨Nat.le_refl _, _, HR.out, rfl⟩)
   have hrun' : (Instr.next (.pointer (some ⟨W.heap.size, 0, none⟩)) false 0).run Tryz.prog wr = .ok (.tuple #[.bool true, .int .i64 x.1.1, zv x.1]) W2 := by rw [← hW2]; exact hrun
   have hen' : (Instr.entry (.pointer (some ⟨W.heap.size, 0, none⟩))).run Tryz.prog W2 = .ok (.tuple #[.int .i64 x.1.1, zv x.1]) W2 := hen
   have HR2 := hid hr2
   have HB2 := hid hb2
   have HJ2 := hid hJ2
   have HXE := hid hxE
   clear hrun hen hr2 hb2 hJ2 hg2 hW2 hr1 hwh hw1 hx he w1
   obtain ⟨⟨g, u, f, fl, t⟩, bo⟩ := x
   obtain ⟨fa, fn', fc, hf⟩ := HSL.out _ HXE.out
   dsimp only at hf
   subst hf
   obtain ⟨W3, hW3⟩ : ∃ W3, W2.alloc (.cells #[.int .i64 g, .int .i64 u, .slice fa fn' fc, .string t] 37) = W3 := ⟨_, rfl⟩
   have A3 : Mg W3 W2.heap.size 37 g u (.slice fa fn' fc) t := by subst hW3; exact Mg.new _ _ _ _ _ _
   have b3 : Below W2.heap.size W2 W3 := by subst hW3; exact bpush (bre _) _
   have hJ3 : J ps W3 := by subst hW3; exact HJ.out ps W2 _ none HJ2.out (World.grownBy_alloc W2 _ none) (fun r e => by cases e)
   have hlen : ps.length < E.length := by
    have h1 := HP.out.length_eq
    have h2 : 0 < (lfE E seen).length := List.length_pos_of_mem HXL.out
    rw [List.length_append, List.length_map] at h1
    omega
   obtain ⟨fn, tmps, assign, body, hy, hR⟩ := HY.out ps ⟨((g, u, .slice fa fn' fc, fl, t), bo), HXE.out⟩ W3 hJ3 hlen
   have c3 := A3.cells
   have hy' := hy
   dsimp only [zv] at hy hrun' hen'
   have HR3 := hid ((b3.block W.heap.size (Array.getElem?_eq_some_iff.1 HR2.out).1).trans HR2.out)
   have HB3 := hid ((b3.block b (Array.getElem?_eq_some_iff.1 HB2.out).1).trans HB2.out)
   have HRR := hid hR
   clear A3 b3 hJ3 hlen hy' hR
   gi_wp2
   refine HRR.out.mono ?_
   rintro e W4 (⟨rfl, hJ4, hk4⟩ | ⟨rfl, hJx4⟩)
   ·have hr4 := hk4.same _ _ HR3.out rfl
    have hb4 := hk4.same _ _ HB3.out rfl
    have hP4 : ((ps ++ [(⟨((g, u, .slice fa fn' fc, fl, t), bo), HXE.out⟩ : { e : En // e ∈ E })]).map (fun e => e.1) ++ lfE E (seen.push bo)).Perm E := by
     rw [lf_push, List.map_append, List.append_assoc]
     refine List.Perm.trans (List.Perm.append_left _ ?_) HP.out
     exact perm_out _ _ HXL.out (lf_nodup HBI.out seen)
    have HM : Hid (lft b W.heap.size W4 < lft b W.heap.size wr) := by
     show _ < _
     unfold lft
     rw [hr4, hb4, HR.out, HB.out]
     dsimp only
     rw [lf_of, lf_of, List.size_toArray, List.size_toArray, List.length_map, List.length_map, lf_push]
     have := (perm_out _ _ HXL.out (lf_nodup HBI.out seen)).length_eq
     rw [List.length_cons] at this
     exact Nat.lt_of_succ_le (Nat.le_of_eq this)
    have HR4 := hid hr4
    have HB4 := hid hb4
    have HP4 := hid hP4
    have HJ4 := hid hJ4
    clear hr4 hb4 hP4 hk4 hJ4 c3 hrun' hen' hy
    gi_wp2
    go_roundw
    case rel => exact ⟨_, _, HR4.out, HB4.out, HP4.out, HJ4.out⟩
    case measure => exact HM.out
   ·have HX4 := hid hJx4
    clear hJx4 c3 hrun' hen' hy
    gi_wp2
    refine bodyPost_ret (results_none rfl _ _ _) rfl ?_
    exact ⟨⟨_, rfl⟩, .inr ⟨_, trivial, HX4.out⟩⟩
theorem values9_stops (F : Fence) (n : Nat) (h7 : F.fn 166) (hro : F.round = none) (hn : 1 ≤ n) (Bm b c B : Nat) (E : List En) (w : World) (hBm : Bm < w.heap.size) (hm : w.cell? ⟨Bm, 0, none⟩ = some (.map (some b))) (hmp : Mp w B b E c) (hsl : ∀ e ∈ E, ∃ a k c, e.1.2.2.1 = .slice a k c) :
  SeqStopsK F n Tryz.prog 166 #[.pointer (some ⟨Bm, 0, none⟩)] (fun x : { e : En // e ∈ E } => #[zv x.1.1]) KeepsWalks (fun xs => (xs.map (·.1)).Perm E) (fun _ => True) E.length w := fun l J Jx W hW hJ _ hY h0 => by
 exact values9_in F n h7 hro hn l Bm b c E J Jx hY W hJ ((hW.cell (p := ⟨Bm, 0, none⟩) hBm).trans hm) (hmp.later hW).lies hmp.old hmp.births hsl h0
set_option maxRecDepth 100000 in
set_option maxHeartbeats 4000000 in
theorem appendSeq9_any (Bm b c B : Nat) (E : List En) (w : World) (hN : E.length ≤ 4194304) (hBm : Bm < w.heap.size) (hm : w.cell? ⟨Bm, 0, none⟩ = some (.map (some b))) (hmp : Mp w B b E c) (hsl : ∀ e ∈ E, ∃ a k c, e.1.2.2.1 = .slice a k c) :
  Calls Tryz.prog 174 #[.slice none 0 0, .func (.func 166) #[] #[.pointer (some ⟨Bm, 0, none⟩)]] w fun e w' =>
   ∃ v xs, e = .returned v ∧ (xs.map (fun x : { e : En // e ∈ E } => x.1)).Perm E ∧ w'.ownsRow w.heap.size 37 4 v (got xs).length (zc (got xs)) ∧ Below w.heap.size w w' := by
 have HSL := hid hsl
 have HMP := hid hmp
 have HM := hid hm
 have HBM := hid hBm
 clear hsl hmp hm hBm
 refine (callsIn_wide (n := 3)).1 ?_
 refine callsIn_of_wp_marks Tryz.func174 rfl trivial ?_ rfl
 simp only [Tryz.ntmps174, List.size_toArray, List.length_cons, List.length_nil, Nat.reduceAdd, Nat.reduceSub, Array.replicate_succ, Array.replicate_zero, List.push_toArray, List.append_toArray, List.nil_append, List.cons_append]
 gi_wp2
 obtain ⟨W0, hW0⟩ : ∃ W0, w.alloc (.cells #[.slice none 0 0] 26) = W0 := ⟨_, rfl⟩
 rw [hW0]
 have hbox : Boxed W0 w.heap.size 26 (.slice none 0 0) := by subst hW0; exact Boxed.new w _ _
 have b0 : Below w.heap.size w W0 := by subst hW0; exact bpush (bre _) _
 have s0 : W0.heap.size = w.heap.size + 1 := by subst hW0; simp
 obtain ⟨i0, hi, hz0, hz1, hz2⟩ := info_parts3 info_ml
 refine wpIn_rangeFunc_ownH (F := Fence.wide) (n := 3) rfl (by decide) (gf := 166) (lb := #[.pointer (some ⟨Bm, 0, none⟩)]) rfl trivial (enters_of Tryz.func166 (by kernel_rfl) rfl)
  (values9_stops Fence.wide (3 - 1) trivial rfl (by decide) Bm b c B E W0 (Nat.lt_of_lt_of_le HBM.out b0.size) ((b0.cell (p := ⟨Bm, 0, none⟩) HBM.out).trans HM.out) (HMP.out.later b0) HSL.out) walksK_t walksK_b (Below.refl _ _) (fun _ => rfl)
  (fun pre W => (∃ v, Boxed W w.heap.size 26 v ∧ W.ownsRow w.heap.size 37 4 v (got pre).length (zc (got pre)) ∧ True) ∧ Below w.heap.size w W) (fun _ _ _ => False)
  (OwnFrom.and (Own.from (holdsRow_own w.heap.size w.heap.size 26 37 4 (fun pre => (got pre).length) (fun pre => zc (got pre)) (fun _ _ => True)) _) (ownFrom_below (Nat.le_refl _) (by omega)))
  (fun _ _ _ _ _ hs _ _ => hs)
  ⟨⟨_, hbox, World.ownsRow_nil _ _ _ _, trivial⟩, b0⟩
  (fun x a' W => ∃ Bx, w.heap.size < Bx ∧ Mg W Bx 37 x.1.1.1 x.1.1.2.1 x.1.1.2.2.1 x.1.1.2.2.2.2 ∧ a' = { tmps := #[.slice none 0 0, .func (.func 166) #[] #[.pointer (some ⟨Bm, 0, none⟩)], .pointer (some ⟨w.heap.size, 0, none⟩), undef, .slice none 0 0, .pointer (some ⟨Bx, 0, none⟩), .func (.func 166) #[] #[.pointer (some ⟨Bm, 0, none⟩)], zv x.1.1, undef, undef, undef, undef, undef], defers := [] })
  ?hax ?assign ?body ?done ?stop
 case hax =>
  rintro x a' _ X Y row ⟨Bx, h1, h2, h3⟩ hg hr
  refine ⟨Bx, h1, (hg.block Bx h2.lt (fun e => ?_)).trans h2, h3⟩
  obtain ⟨_, o, ho, hc⟩ := hr Bx e.symm
  have h2' : X.heap[Bx]? = _ := h2
  rw [h2'] at ho
  cases ho
  cases hc
 case assign =>
  rintro l pre ⟨⟨⟨g, u, f, fl, t⟩, bo⟩, hx⟩ W K ⟨⟨v, hv, hrow, _⟩, hB⟩ hK
  obtain ⟨fa, fn', fc, hf⟩ := HSL.out _ hx
  dsimp only at hf
  subst hf
  have hlt := hv.lt
  have HV := hid hv
  have HRW := hid hrow
  have HB := hid hB
  clear hv hrow hB
  dsimp only [zv]
  gi_wp2
  exact hK _ _ ((KeepsOthers.alloc _ _).from _) (KeepsWalks.alloc _ _) ⟨⟨v, HV.out.alloc _, HRW.out.alloc _, trivial⟩, HB.out.alloc HB.out.size _⟩ ⟨W.heap.size, hlt, Mg.new _ _ _ _ _ _, rfl⟩
 case body =>
  rintro l pre ⟨⟨⟨g, u, f, fl, t⟩, bo⟩, hx⟩ a' W hl ⟨r, hr⟩ ⟨⟨v, hv, hrow, _⟩, hB⟩ ⟨Bx, hBx, bX, rfl⟩ hlt
  obtain ⟨fa, fn', fc, hf⟩ := HSL.out _ hx
  dsimp only at hf
  subst hf
  have HV := hid hv
  have HRW := hid hrow
  have HB := hid hB
  have c1 := hv.cell
  have c2 := bX.cells
  have HLT := hid hlt
  clear hrow hB hr hl bX hlt hv
  dsimp only [zv] at c2 ⊢
  gi_wp2_with (gi_at_builtin; refine wpListIn_append_own _ rfl _ _ 26 rfl w.heap.size 37 i0 (.agg #[.int .i64 0, .int .i64 0, .slice none 0 0, .string ⟨#[]⟩]) 4 56 Tryz.underlying26 hi hz0 hz1 hz2 rfl (by decide) _ _ _ rfl (HRW.out.alloc _) ⟨W.heap.size, 0, none⟩ 1 1 (zc [(g, u, .slice fa fn' fc, fl, t)]) rfl rfl (cells_new4 W (g, u, .slice fa fn' fc, fl, t) 37) (zc_one (fun z hz => by simp at hz; subst hz; exact ⟨_, _, _, rfl⟩)) (by have := HLT.out; rw [got_len]; unfold maxLen; omega) (by have := HLT.out; rw [got_len]; omega) (by have := HB.out.size; simp; omega) ?_; intro v' w1 hown' hgrow _; obtain ⟨g', cap', rfl⟩ := ownsRow_succ hown'; obtain ⟨hv1, hv2, hr2, hk2, hb2⟩ := HV.out.appended (by decide) HRW.out HB.out.size (Nat.le_refl _) hown' hgrow; have hc1 := hv1.cell; have hf1 := hv1.frozen; have HR2 := hid hr2; have HK2 := hid hk2; have HB2 := hid hb2; have HV2 := hid hv2; clear hr2 hk2 hb2 hv2 hv1 hgrow hown')
  refine ⟨HK2.out.from _, ⟨HK2.out.size, fun k o h hw => HK2.out.same k o h (by cases o <;> first | rfl | cases hw)⟩, ⟨⟨_, HV2.out, ?_, trivial⟩, HB.out.trans HB2.out⟩⟩
  have := HR2.out
  rw [got_snoc, zc_app]
  simpa using this
 case done =>
  rintro D xs W hD hS ⟨⟨v, hv, hrow, _⟩, hB⟩ hK
  have c1 := hv.cell
  have HS := hid hS
  have HRW := hid hrow
  have HB := hid hB
  have HK := hid hK
  clear hS hrow hB hv
  gi_wp2
  refine ⟨by simp, .inl ⟨_, _, rfl, run_takeDeferred HK.out, ?_⟩⟩
  refine ⟨_, results_tmp rfl _ _ _, v, xs, rfl, HS.out, ownsRow_putObj HRW.out _ HK.out rfl, HB.out.trans (belowK_b (w := w) (Nat.le_refl _) W D _ _ (by omega) HK.out rfl rfl)⟩
 case stop =>
  rintro D c' pre W _ _ h _
  exact h.elim
theorem collect9_any (Bm b c B : Nat) (E : List En) (w : World) (hN : E.length ≤ 4194304) (hBm : Bm < w.heap.size) (hm : w.cell? ⟨Bm, 0, none⟩ = some (.map (some b))) (hmp : Mp w B b E c) (hsl : ∀ e ∈ E, ∃ a k c, e.1.2.2.1 = .slice a k c) :
  Calls Tryz.prog 164 #[.func (.func 166) #[] #[.pointer (some ⟨Bm, 0, none⟩)]] w fun e w' =>
   ∃ v xs, e = .returned v ∧ (xs.map (fun x : { e : En // e ∈ E } => x.1)).Perm E ∧ w'.ownsRow w.heap.size 37 4 v (got xs).length (zc (got xs)) ∧ Below w.heap.size w w' := by
 have HC := hid (appendSeq9_any Bm b c B E w hN hBm hm hmp hsl)
 clear hBm hm hmp hsl
 go_enter Tryz.func164, Tryz.ntmps164
 go_wp2_with fail
 refine HC.out.mono ?_; rintro e w1 ⟨v, xs, rfl, h1, h2, h3⟩
 have H1 := hid h1
 have H2 := hid h2
 have H3 := hid h3
 clear h1 h2 h3
 go_wp2
 go_ret
 exact ⟨v, xs, rfl, H1.out, H2.out, H3.out⟩
theorem values9_any (b : Nat) (w : World) :
  Calls Tryz.prog 146 #[.map (some b)] w fun e w' => e = .returned (.func (.func 166) #[] #[.pointer (some ⟨w.heap.size, 0, none⟩)]) ∧ w' = w.alloc (.cells #[.map (some b)] 114) := by
 go_enter Tryz.func146, Tryz.ntmps146
 go_wp2
 go_ret
 exact ⟨rfl, rfl⟩
attribute [local go_sem] Oper.semAt_some
abbrev Zs := { z : Z5 // ∃ a k c, z.2.2.1 = Value.slice a k c }
def Zr (lo hh : Nat) (W : World) (a : Option Addr) (Z : List Z5) : Prop :=
 hh ≤ W.heap.size ∧ ∀ i (h : i < Z.length), ∃ k o, a = some ⟨k, o, none⟩ ∧ lo ≤ k ∧ k < hh ∧ W.cell? ⟨k, o + i * 4, none⟩ = some (.int .i64 Z[i].1) ∧ W.cell? ⟨k, o + i * 4 + 1, none⟩ = some (.int .i64 Z[i].2.1) ∧ W.cell? ⟨k, o + i * 4 + 2, none⟩ = some Z[i].2.2.1 ∧ W.cell? ⟨k, o + i * 4 + 3, none⟩ = some (.string Z[i].2.2.2.2)
theorem Zr.same {lo hh : Nat} {W W' : World} {a : Option Addr} {Z : List Z5} (h : Zr lo hh W a Z) (hs : hh ≤ W'.heap.size) (hk : ∀ k, lo ≤ k → k < hh → W'.heap[k]? = W.heap[k]?) : Zr lo hh W' a Z := by
 refine ⟨hs, fun i hi' => ?_⟩
 obtain ⟨k, o, h1, h2, h3, c0, c1, c2, c3⟩ := h.2 i hi'
 have key : ∀ q, W'.cell? ⟨k, q, none⟩ = W.cell? ⟨k, q, none⟩ := fun q => cell_same (p := ⟨k, q, none⟩) (hk k h2 h3)
 exact ⟨k, o, h1, h2, h3, (key _).trans c0, (key _).trans c1, (key _).trans c2, (key _).trans c3⟩
theorem Zr.later {lo hh : Nat} {W W' : World} {a : Option Addr} {Z : List Z5} (h : Zr lo hh W a Z) (hb : Below W.heap.size W W') : Zr lo hh W' a Z :=
 h.same (Nat.le_trans h.1 hb.size) (fun k _ hk => hb.block k (Nat.lt_of_lt_of_le hk h.1))
theorem OwZ.zr {W : World} {B n c : Nat} {a : Option Addr} {Z : List Z5} (h : OwZ W B (.slice a n c) Z) : Zr B W.heap.size W a Z := by
 refine ⟨Nat.le_refl _, fun i hi => ?_⟩
 obtain ⟨k, rfl, hk, c0, c1, c2, c3⟩ := h.at hi
 refine ⟨k, 0, rfl, (h.row.lt k rfl).1, hk, ?_, ?_, ?_, ?_⟩ <;> rw [Nat.zero_add] <;> assumption
theorem OwZ.sl {W : World} {B : Nat} {v : Value} {Z : List Z5} (h : OwZ W B v Z) : ∀ z ∈ Z, ∃ a k c, z.2.2.1 = Value.slice a k c := fun z hz => by
 obtain ⟨a, c, e, _⟩ := Ow.shape (h.each z hz)
 exact ⟨a, _, c, e⟩
set_option maxRecDepth 100000 in
set_option maxHeartbeats 4000000 in
theorem back9_in (F : Fence) (n : Nat) (h7 : F.fn 163) (hro : F.round = none) (hn : 1 ≤ n) (l Bm N m : Nat) (a : Option Addr) (c k : Nat) (lo hh : Nat) (Z : List Z5) (hsl : ∀ z ∈ Z, ∃ a k c, z.2.2.1 = .slice a k c) (hk : Z.length = k) (hk2 : k ≤ 1048576) (J Jx : List (Int × Zs) → World → Prop)
  (hY : ∀ pre x W, J pre W → pre.length < k → YieldAt F (n - 1) Tryz.prog l #[.int .i64 x.1, zv x.2.1] W fun e W' =>
    (e = .returned (.bool true) ∧ J (pre ++ [x]) W' ∧ Kb N m W W') ∨ (e = .returned (.bool false) ∧ Jx (pre ++ [x]) W'))
  (W : World) (hN : N ≤ W.heap.size) (hBm : Bm < N) (hBm2 : Bm ≠ m) (hhm : hh ≤ m) (hhN : hh ≤ N) (hm : W.cell? ⟨Bm, 0, none⟩ = some (.slice a k c)) (his : Zr lo hh W a Z) (h0 : J [] W) :
  CallsIn F n Tryz.prog 163 #[.func (.yield l) #[] #[], .pointer (some ⟨Bm, 0, none⟩)] W fun e W' => (∃ v, e = .returned v) ∧
   ((∃ xs, (xs.map (·.2.1) = Z.reverse) ∧ J xs W') ∨ (∃ pre, True ∧ Jx pre W')) := by
 have HY := hid hY
 have H0 := hid h0
 have HI := hid his
 have HSL := hid hsl
 have HM := hid hm
 have HBM := hid hBm
 have HBM2 := hid hBm2
 have HHM := hid hhm
 have HHN := hid hhN
 have HN := hid hN
 have HK := hid hk
 clear hY h0 his hsl hBm hBm2 hhm hhN hN hk
 refine callsIn_of_wp Tryz.func163 rfl h7 ?_ hro
 simp only [Tryz.ntmps163, List.size_toArray, List.length_cons, List.length_nil, Nat.reduceAdd, Nat.reduceSub, Array.replicate_succ, Array.replicate_zero, List.push_toArray, List.append_toArray, List.nil_append, List.cons_append]
 gi_wp2
 clear hm
 gi_loopw [3] (fun iv wr => ∃ (j : Nat) (ps : List (Int × Zs)), j ≤ k ∧ iv = .int .i64 ((j : Int) - 1) ∧ ps.map (·.2.1) = (Z.drop j).reverse ∧ J ps wr ∧ Kb N m W wr) (fun iv _ => (intOf iv + 1).toNat)
 case atStart =>
  refine ⟨k, [], Nat.le_refl _, by go_num, ?_, H0.out, Kb.refl _ _ _⟩
  rw [← HK.out, List.drop_length]; rfl
 case round =>
  obtain ⟨j, ps, hj, rfl, hP, hJs, hkb⟩ := hrel
  have HP := hid hP
  have HJS := hid hJs
  have HKB := hid hkb
  clear hP hJs hkb
  by_cases hz : j = 0
  ·subst hz
   have HZ : Hid (ps.map (·.2.1) = Z.reverse) := by
    show _ = _
    rw [HP.out, List.drop_zero]
   clear hj
   gi_wp2
   go_end0
   exact ⟨⟨_, rfl⟩, .inl ⟨ps, HZ.out, HJS.out⟩⟩
  ·obtain ⟨i, rfl⟩ : ∃ i, j = i + 1 := ⟨j - 1, by omega⟩
   clear hz
   have hil : i < Z.length := by rw [HK.out]; omega
   obtain ⟨kb, o, rfl, hlo, hkh, cc⟩ := HI.out.2 i hil
   have key : ∀ q, wr.cell? ⟨kb, q, none⟩ = W.cell? ⟨kb, q, none⟩ := fun q => cell_same (p := ⟨kb, q, none⟩) (HKB.out.same kb (by have := HHN.out; omega) (by have := HHM.out; omega))
   rw [← key, ← key, ← key, ← key] at cc
   clear key
   have c2 : wr.cell? ⟨Bm, 0, none⟩ = some (.slice (some ⟨kb, o, none⟩) k c) := (cell_same (p := ⟨Bm, 0, none⟩) (HKB.out.same Bm HBM.out HBM2.out)).trans HM.out
   have hlen : ps.length < k := by
    have h1 := congrArg List.length HP.out
    rw [List.length_map, List.length_reverse, List.length_drop, HK.out] at h1
    omega
   obtain ⟨⟨g, u, f, fl, t⟩, hx⟩ : ∃ x, Z[i] = x := ⟨_, rfl⟩
   have hfs := HSL.out Z[i] (List.getElem_mem hil)
   rw [hx] at cc hfs
   obtain ⟨fa, fn', fc, hf⟩ := hfs
   dsimp only at hf cc
   subst hf
   obtain ⟨fn, tmps, assign, body, hy, hR⟩ := HY.out ps ((i : Int), ⟨(g, u, .slice fa fn' fc, fl, t), _, _, _, rfl⟩) wr HJS.out hlen
   have HRR := hid hR
   have HX := hid hx
   have hI : (0 : Int) ≤ (i : Int) ∧ (i : Int) < (k : Int) := by omega
   have e1 : ((i + 1 : Nat) : Int) - 1 = (i : Int) := by omega
   rw [e1]
   clear hR hx hlen
   dsimp only [zv] at hy
   gi_wp2
   refine HRR.out.mono ?_
   rintro e W4 (⟨rfl, hJ4, hk4⟩ | ⟨rfl, hJx4⟩)
   ·have HP4 : Hid ((ps ++ [((i : Int), (⟨(g, u, .slice fa fn' fc, fl, t), _, _, _, rfl⟩ : Zs))]).map (·.2.1) = (Z.drop i).reverse) := by
     show _ = _
     rw [List.map_append, HP.out, List.drop_eq_getElem_cons hil, List.reverse_cons, HX.out]
     rfl
    have HJ4 := hid hJ4
    have HK4 := hid (HKB.out.trans hk4)
    clear hJ4 hk4 cc c2 hy
    gi_wp2
    go_roundw
    case rel => exact ⟨i, _, by omega, by go_num, HP4.out, HJ4.out, HK4.out⟩
    case measure => simp [intOf]
   ·have HX4 := hid hJx4
    clear hJx4 cc c2 hy
    gi_wp2
    refine bodyPost_ret (results_none rfl _ _ _) rfl ?_
    exact ⟨⟨_, rfl⟩, .inr ⟨_, trivial, HX4.out⟩⟩
theorem back9_stops (F : Fence) (n : Nat) (h7 : F.fn 163) (hro : F.round = none) (hn : 1 ≤ n) (Bm m : Nat) (a : Option Addr) (c k : Nat) (lo hh : Nat) (Z : List Z5) (hsl : ∀ z ∈ Z, ∃ a k c, z.2.2.1 = .slice a k c) (hk : Z.length = k) (hk2 : k ≤ 1048576) (w : World) (hBm : Bm < w.heap.size) (hBm2 : Bm ≠ m) (hhm : hh ≤ m) (hm : w.cell? ⟨Bm, 0, none⟩ = some (.slice a k c)) (his : Zr lo hh w a Z) :
  SeqStopsK F n Tryz.prog 163 #[.pointer (some ⟨Bm, 0, none⟩)] (fun x : Int × Zs => #[.int .i64 x.1, zv x.2.1]) (Kb w.heap.size m) (fun xs => xs.map (·.2.1) = Z.reverse) (fun _ => True) k w := fun l J Jx W hW _ _ hY h0 =>
 back9_in F n h7 hro hn l Bm w.heap.size m a c k lo hh Z hsl hk hk2 J Jx hY W hW.size hBm hBm2 hhm his.1 ((hW.cell (p := ⟨Bm, 0, none⟩) hBm).trans hm) (his.later hW) h0
theorem back9_any (a : Option Addr) (k c : Nat) (w : World) :
  Calls Tryz.prog 144 #[.slice a k c] w fun e w' => e = .returned (.func (.func 163) #[] #[.pointer (some ⟨w.heap.size, 0, none⟩)]) ∧ w' = w.alloc (.cells #[.slice a k c] 26) := by
 go_enter Tryz.func144, Tryz.ntmps144
 go_wp2
 go_ret
 exact ⟨rfl, rfl⟩
attribute [local go_sem] Oper.semAt_some
theorem nm9_any (g u : Int) (f : Value) (t : ByteArray) (w : World) :
  Calls Tryz.prog 85 #[.agg #[.int .i64 g, .int .i64 u, f, .string t]] w fun e w' => e = .returned (.int .i64 g) ∧ w' = w.alloc (.cells #[.int .i64 g, .int .i64 u, f, .string t] 37) := by
 have c0 := (Mg.new w 37 g u f t).cells
 go_enter Tryz.func85, Tryz.ntmps85
 go_wp2
 go_ret
 exact ⟨rfl, rfl⟩
set_option maxRecDepth 100000 in
set_option maxHeartbeats 4000000 in
theorem firsts9_any (lo hh : Nat) (a : Option Addr) (n c : Nat) (Z : List Z5) (w : World) (hl : Z.length = n) (hn : n ≤ 1048576) (his : Zr lo hh w a Z) (hsl : ∀ z ∈ Z, ∃ a k c, z.2.2.1 = .slice a k c) :
  Calls Tryz.prog 121 #[.agg #[.func (.func 85) #[] #[], .func (.func 86) #[] #[]], .slice a n c] w fun e w' =>
   ∃ b E c', e = .returned (.map (some b)) ∧ Mp w' w.heap.size b E c' ∧ (∀ y, y ∈ E.map (·.1) ↔ fdz y.1 Z = some y) ∧ E.length ≤ n ∧ Below w.heap.size w w' := by
 have eg : ∀ args w, (callFunc 85 args).run Tryz.prog w = .ok (.enter 85 args) w := enters_of Tryz.func85 (by kernel_rfl) rfl
 have mixed : Tryz.prog.follows .mixedOrders = true := by kernel_rfl
 have HIS := hid his
 have HL := hid hl
 clear his hl
 have hmk := make_mp n
 refine (callsIn_wide (n := 3)).1 ?_
 refine callsIn_of_wp_marks Tryz.func121 rfl trivial ?_ rfl
 simp only [Tryz.ntmps121, List.size_toArray, List.length_cons, List.length_nil, Nat.reduceAdd, Nat.reduceSub, Array.replicate_succ, Array.replicate_zero, List.push_toArray, List.append_toArray, List.nil_append, List.cons_append]
 gi_wp2
 refine ⟨trivial, (callsIn_wide.2 (back9_any a n c _)).mono ?_⟩; rintro e w1 ⟨rfl, h1⟩
 subst h1
 gi_wp2
 obtain ⟨W0, hW0⟩ : ∃ W0, (((w.alloc (.cells #[.func (.func 85) #[] #[], .func (.func 86) #[] #[]] 102)).alloc (.map #[] 0)).alloc (.cells #[.map (some (w.heap.size + 1))] 114)).alloc (.cells #[.slice a n c] 26) = W0 := ⟨_, rfl⟩
 have s0 : W0.heap.size = w.heap.size + 4 := by subst hW0; simp
 have b0 : Below w.heap.size w W0 := by subst hW0; exact bpush (bpush (bpush (bpush (bre _) _) _) _) _
 have k0 : Kd W0 w.heap.size 102 85 86 := by
  subst hW0
  show _ = _
  rw [Below.heap_alloc _ _ _ (by simp; omega), Below.heap_alloc _ _ _ (by simp; omega), Below.heap_alloc _ _ _ (by simp)]
  exact heap_alloc_new w _
 have m0 : W0.heap[w.heap.size + 1]? = some (.map #[] 0) := by
  subst hW0
  rw [Below.heap_alloc _ _ _ (by simp), Below.heap_alloc _ _ _ (by simp)]
  have h := heap_alloc_new (w.alloc (.cells #[.func (.func 85) #[] #[], .func (.func 86) #[] #[]] 102)) (.map #[] 0)
  simpa using h
 have t0 : W0.heap[w.heap.size + 2]? = some (.cells #[.map (some (w.heap.size + 1))] 114) := by
  subst hW0
  rw [Below.heap_alloc _ _ _ (by simp)]
  have h := heap_alloc_new ((w.alloc (.cells #[.func (.func 85) #[] #[], .func (.func 86) #[] #[]] 102)).alloc (.map #[] 0)) (.cells #[.map (some (w.heap.size + 1))] 114)
  simpa using h
 have x0 : W0.heap[w.heap.size + 3]? = some (.cells #[.slice a n c] 26) := by
  subst hW0
  have h := heap_alloc_new (((w.alloc (.cells #[.func (.func 85) #[] #[], .func (.func 86) #[] #[]] 102)).alloc (.map #[] 0)).alloc (.cells #[.map (some (w.heap.size + 1))] 114)) (.cells #[.slice a n c] 26)
  simpa using h
 rw [hW0]
 obtain ⟨xb, hxb⟩ : ∃ xb, w.heap.size + 1 + 1 + 1 = xb := ⟨_, rfl⟩
 obtain ⟨tb, htb⟩ : ∃ tb, w.heap.size + 1 + 1 = tb := ⟨_, rfl⟩
 obtain ⟨mb, hmb⟩ : ∃ mb, w.heap.size + 1 = mb := ⟨_, rfl⟩
 rw [hxb, htb, hmb]
 rw [hmb] at m0 t0
 rw [show w.heap.size + 2 = tb by omega] at t0
 rw [show w.heap.size + 3 = xb by omega] at x0
 have hH : hh ≤ w.heap.size := HIS.out.1
 have K0 := hid k0
 have M0 := hid m0
 have T0 := hid t0
 have B0 := hid b0
 have S0 := hid s0
 have X0 := hid (cell_of_rowb x0)
 have HX := hid hxb
 have HT := hid htb
 have HMB := hid hmb
 clear hW0 k0 m0 t0 b0 x0 hmk
 have OWN : Hid (OwnFrom W0.heap.size (fun (pre : List (Int × Zs)) W => (∃ E c', Mp W w.heap.size mb E c' ∧ (∀ y, y ∈ E.map (·.1) ↔ fdz y.1 ((pre.map (·.2.1)).reverse) = some y) ∧ E.length ≤ pre.length) ∧ Kd W w.heap.size 102 85 86 ∧ W.heap[tb]? = some (.cells #[.map (some mb)] 114) ∧ Below w.heap.size w W ∧ W0.heap.size ≤ W.heap.size)) := by
  rintro pre W W' row ⟨⟨E, c', h1, h2, h3⟩, h4, h5, h6, h7⟩ hg hr
  have key : ∀ k, k < W0.heap.size → W'.heap[k]? = W.heap[k]? := fun k hk => hg.block k (by omega) (fun e => by have := (hr k e.symm).1; omega)
  have z0 := S0.out
  have z1 := HT.out
  have z2 := HMB.out
  exact ⟨⟨E, c', h1.same (key mb (by omega)), h2, h3⟩, (key _ (by omega)).trans h4, (key _ (by omega)).trans h5, h6.trans ⟨hg.os, hg.tape, hg.output, hg.size, fun k hk => key k (by omega)⟩, Nat.le_trans h7 hg.size⟩
 refine wpIn_rangeFunc_ownH (F := Fence.wide) (n := 3) rfl (by decide) (gf := 163) (lb := #[.pointer (some ⟨xb, 0, none⟩)]) rfl trivial (enters_of Tryz.func163 (by kernel_rfl) rfl)
  (back9_stops Fence.wide (3 - 1) trivial rfl (by decide) xb mb a c n lo hh Z hsl HL.out hn W0 (by omega) (by omega) (by omega) X0.out (HIS.out.later B0.out)) (fun h k => h.trans k) (kbK_b (Nat.le_refl _)) (Below.refl _ _) (fun _ => rfl)
  (fun pre W => (∃ E c', Mp W w.heap.size mb E c' ∧ (∀ y, y ∈ E.map (·.1) ↔ fdz y.1 ((pre.map (·.2.1)).reverse) = some y) ∧ E.length ≤ pre.length) ∧ Kd W w.heap.size 102 85 86 ∧ W.heap[tb]? = some (.cells #[.map (some mb)] 114) ∧ Below w.heap.size w W ∧ W0.heap.size ≤ W.heap.size) (fun _ _ _ => False)
  ?own (fun _ _ _ _ _ hs _ _ => hs)
  ⟨⟨[], 0, ⟨M0.out, by have := HMB.out; omega, by simp, by simp, by simp⟩, by intro y; simp [fdz], by simp⟩, K0.out, T0.out, B0.out, Nat.le_refl _⟩
  (fun x a' W => ∃ Bx, W0.heap.size ≤ Bx ∧ Mg W Bx 37 x.2.1.1 x.2.1.2.1 x.2.1.2.2.1 x.2.1.2.2.2.2 ∧ a' = { tmps := #[.agg #[.func (.func 85) #[] #[], .func (.func 86) #[] #[]], .slice a n c, .pointer (some ⟨w.heap.size, 0, none⟩), undef, .map none, .pointer (some ⟨tb, 0, none⟩), undef, .pointer (some ⟨Bx, 0, none⟩), .slice a n c, .int .i64 n, .map (some mb), .slice a n c, .func (.func 163) #[] #[.pointer (some ⟨xb, 0, none⟩)], .int .i64 x.1, zv x.2.1, undef, undef, undef, undef, undef, undef, undef], defers := [] })
  ?hax ?assign ?body ?done ?stop
 case own => exact OWN.out
 case hax =>
  rintro x a' _ X Y row ⟨Bx, h1, h2, h3⟩ hg hr
  refine ⟨Bx, h1, (hg.block Bx h2.lt (fun e => ?_)).trans h2, h3⟩
  obtain ⟨_, o, ho, hc⟩ := hr Bx e.symm
  have h2' : X.heap[Bx]? = _ := h2
  rw [h2'] at ho
  cases ho
  cases hc
 case assign =>
  rintro l pre ⟨i, ⟨⟨g, u, f, fl, t⟩, hx⟩⟩ W K hI hK
  obtain ⟨fa, fn', fc, hf⟩ := hx
  dsimp only at hf
  subst hf
  have HI := hid hI
  have hW : W0.heap.size ≤ W.heap.size := hI.2.2.2.2
  clear hI
  dsimp only [zv]
  gi_wp2
  refine hK _ _ ((KeepsOthers.alloc _ _).from _) (Kb.of_below (Below.alloc (Below.refl _ _) hW _)) (OWN.out pre W _ none HI.out (World.grownBy_alloc W _ none) (fun r e => by cases e)) ⟨W.heap.size, hW, Mg.new _ _ _ _ _ _, rfl⟩
 case body =>
  rintro l pre ⟨i, ⟨⟨g, u, f, fl, t⟩, hx⟩⟩ a' W hl ⟨r, hr⟩ ⟨⟨E, c', h1, h2, h3⟩, h4, h5, h6, h7⟩ ⟨Bx, hBx, bX, rfl⟩ hlt
  obtain ⟨fa, fn', fc, hf⟩ := hx
  dsimp only at hf
  subst hf
  dsimp only at bX
  have c1 := h4.cells.1
  have c2 := cell_of_rowb h5
  have c3 := bX.cells
  have H1 := hid h1
  have H2 := hid h2
  have H3 := hid h3
  have H4 := hid h4
  have H5 := hid h5
  have H6 := hid h6
  have H7 := hid h7
  have HBX := hid bX
  clear h1 h2 h3 h4 h5 h6 h7 hr bX hxb htb hmb s0
  dsimp only [zv]
  gi_wp2
  refine region_round (S := fun W => (W.cell? ⟨w.heap.size, 0, none⟩ = some (.func (.func 85) #[] #[]) ∧ W.cell? ⟨tb, 0, none⟩ = some (.map (some mb))) ∧ W.cell? ⟨Bx, 0, none⟩ = some (.int .i64 g) ∧ W.cell? ⟨Bx, 1, none⟩ = some (.int .i64 u) ∧ W.cell? ⟨Bx, 2, none⟩ = some (.slice fa fn' fc) ∧ W.cell? ⟨Bx, 3, none⟩ = some (.string t)) mixed (by kernel_rfl) (by rintro ⟨a, w, h⟩; exact h) ⟨⟨c1, c2⟩, c3⟩ (fun hHeld => ?_)
  refine tk 0 ?_
  refine tk 1 ?_
  refine tk 2 ?_
  refine tk 3 ?_
  refine tk 5 ?_
  refine ry 4 (fun K hK => ?_)
  go_simp
  refine (nm9_any _ _ _ _ _).mono ?_
  rintro e w1 ⟨rfl, h⟩
  have b1 : Below W.heap.size W w1 := by subst h; exact bpush (bdr (bre _)) _
  have z0 := S0.out
  have z1 := HT.out
  have z2 := HMB.out
  have z7 := H7.out
  have k1 : Kd w1 w.heap.size 102 85 86 := H4.out.later b1
  have t1 : w1.heap[tb]? = some (.cells #[.map (some mb)] 114) := (b1.block tb (Array.getElem?_eq_some_iff.1 H5.out).1).trans H5.out
  have x1 := HBX.out.later b1
  obtain ⟨W3, E3, c3', hrun, g1, g2, g3, g4⟩ := (H1.out.later b1).put (g, u, .slice fa fn' fc, fl, t)
  have K3 : Hid (Kd W3 w.heap.size 102 85 86) := (g4.block w.heap.size k1.lt (fun e => by cases e; omega)).trans k1
  have T3 : Hid (W3.heap[tb]? = some (.cells #[.map (some mb)] 114)) := (g4.block tb (Array.getElem?_eq_some_iff.1 t1).1 (fun e => by cases e; omega)).trans t1
  have X3 : Hid (Mg W3 Bx 37 g u (.slice fa fn' fc) t) := (g4.block Bx x1.lt (fun e => by cases e; omega)).trans x1
  have S3 := hid (show (W3.cell? ⟨w.heap.size, 0, none⟩ = some (.func (.func 85) #[] #[]) ∧ W3.cell? ⟨tb, 0, none⟩ = some (.map (some mb))) ∧ W3.cell? ⟨Bx, 0, none⟩ = some (.int .i64 g) ∧ W3.cell? ⟨Bx, 1, none⟩ = some (.int .i64 u) ∧ W3.cell? ⟨Bx, 2, none⟩ = some (.slice fa fn' fc) ∧ W3.cell? ⟨Bx, 3, none⟩ = some (.string t) from ⟨⟨K3.out.cells.1, cell_of_rowb T3.out⟩, X3.out.cells⟩)
  have S1 := hid (show (w1.cell? ⟨w.heap.size, 0, none⟩ = some (.func (.func 85) #[] #[]) ∧ w1.cell? ⟨tb, 0, none⟩ = some (.map (some mb))) ∧ w1.cell? ⟨Bx, 0, none⟩ = some (.int .i64 g) ∧ w1.cell? ⟨Bx, 1, none⟩ = some (.int .i64 u) ∧ w1.cell? ⟨Bx, 2, none⟩ = some (.slice fa fn' fc) ∧ w1.cell? ⟨Bx, 3, none⟩ = some (.string t) from ⟨⟨k1.cells.1, cell_of_rowb t1⟩, x1.cells⟩)
  have hrun' : (Instr.mapUpdate 114 (.map (some mb)) (.int .i64 g) (.agg #[.int .i64 g, .int .i64 u, .slice fa fn' fc, .string t])).run Tryz.prog w1 = .ok () W3 := hrun
  have HG1 := hid g1
  have HG2 := hid g2
  have HG3 := hid g3
  have HD4 : Hid (W.grownBy W3 (some mb)) := ⟨g4.os.trans b1.os, g4.tape.trans b1.tape, g4.output.trans b1.output, Nat.le_trans b1.size g4.size, fun k hk hne => (g4.block k (Nat.lt_of_lt_of_le hk b1.size) hne).trans (b1.block k hk)⟩
  clear h b1 z0 z1 z2 z7 k1 t1 x1 g1 g2 g3 g4 hrun
  go_wp2_with fail
  refine hK.out _ _ S1.out (fun hHeld => ?_)
  clear hK K
  refine ry 6 (fun K hK => ?_)
  go_simp
  refine hK.out _ _ S3.out (fun hHeld => ?_)
  refine wpAnyH_done (by kernel_rfl) ?_ _
  have hd4 := HD4.out
  refine ⟨⟨hd4.size, fun k o hB hk _ => (hd4.block k (Array.getElem?_eq_some_iff.1 hk).1 (fun e => by have h1 := S0.out; have h2 := HMB.out; cases e; omega)).trans hk⟩, ⟨hd4.size, fun k hk hm => hd4.block k (Nat.lt_of_lt_of_le hk H7.out) (fun e => hm (by cases e; rfl))⟩, ⟨E3, c3', HG1.out, fun y => ?_, ?_⟩, K3.out, T3.out, ?_, Nat.le_trans H7.out hd4.size⟩
  ·rw [HG2.out, H2.out, List.map_append, List.reverse_append]
   show _ ↔ fdz y.1 ((g, u, .slice fa fn' fc, fl, t) :: _) = some y
   rw [fdz]
   by_cases hy : g = y.1
   ·rw [if_pos hy]
    constructor
    ·rintro (rfl | ⟨_, h⟩)
     ·rfl
     ·exact absurd hy.symm h
    ·intro h
     exact Or.inl (Option.some.inj h).symm
   ·rw [if_neg hy]
    constructor
    ·rintro (rfl | ⟨h, _⟩)
     ·exact absurd rfl hy
     ·exact h
    ·intro h
     exact Or.inr ⟨h, fun e => hy e.symm⟩
  ·have h1 := HG3.out
   have h2 := H3.out
   rw [List.length_append]
   simp only [List.length_cons, List.length_nil]
   omega
  ·refine H6.out.trans ⟨hd4.os, hd4.tape, hd4.output, hd4.size, fun k hk => hd4.block k (Nat.lt_of_lt_of_le hk H6.out.size) (fun e => by have h2 := HMB.out; cases e; omega)⟩
 case done =>
  rintro D xs W hD hS ⟨⟨E, c', h1, h2, h3⟩, h4, h5, h6, h7⟩ hK
  have c1 := cell_of_rowb h5
  have H1 := hid h1
  have HLX : Hid (E.length ≤ n) := by
   have hh := congrArg List.length hS
   rw [List.length_map, List.length_reverse, HL.out] at hh
   show _ ≤ _
   omega
  have H2 : Hid (∀ y, y ∈ E.map (·.1) ↔ fdz y.1 Z = some y) := fun y => by rw [h2 y, hS, List.reverse_reverse]
  have H6 := hid h6
  have H7 := hid h7
  have HK := hid hK
  have HD := hid hD
  clear h1 h2 h3 h4 h5 h6 h7 hS hD
  gi_wp2
  refine ⟨by simp, .inl ⟨_, _, rfl, run_takeDeferred HK.out, ?_⟩⟩
  refine ⟨_, results_tmp rfl _ _ _, mb, E, c', rfl, H1.out.same ?_, H2.out, HLX.out, H6.out.trans (belowK_b (w := W0) (by have := B0.out.size; omega) W D _ _ HD.out HK.out rfl rfl)⟩
  have hne : D ≠ mb := by have h1 := HD.out; have h2 := S0.out; have h3 := HMB.out; omega
  exact (grownBy_putObj' W D _).block mb H1.out.lt (fun e => hne (by cases e; rfl))
 case stop =>
  rintro D c' pre W _ _ h _
  exact h.elim
end Go.Proofs.YtmpcmllfgogegaaGreat
