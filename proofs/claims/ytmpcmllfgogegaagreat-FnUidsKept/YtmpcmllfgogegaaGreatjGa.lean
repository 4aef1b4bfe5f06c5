/- Gma, Gmb, Gmc, Slf, Gsi, Gbk, Rnd. -/
import Derived.Test.YtmpcmllfgogegaaGreatjRb8
import Derived.Shelf.SlLaysF
import Derived.Shelf.SlLaysF0
import Derived.Sort.OwnSortedInts
import Derived.Shelf.RegionOpen
namespace Go.Proofs.YtmpcmllfgogegaaGreat
open Go.RowKit Go.ChangeMaps
abbrev Ei := Int × Nat
def enti (e : Ei) : MapEntry := { key := .int .i64 e.1, val := .int .i64 e.1, born := e.2 }
theorem find_noi (g : Int) (E : List Ei) (n : Nat) (h : ∀ e ∈ E, e.1 ≠ g) : Instr.findNow (.int .i64) (.int .i64 g) (E.map enti) n = some none := by
 induction E generalizing n with
 | nil => rfl
 | cons e E ih =>
  have h1 : (g == e.1) = false := by
   rw [beq_eq_false_iff_ne]; exact fun x => h e (by simp) x.symm
  simp only [List.map_cons, Instr.findNow, enti, Instr.sameNow, if_true, h1]
  exact ih (n + 1) (fun x hx => h x (by simp [hx]))
theorem find_yesi (g : Int) (E1 : List Ei) (e : Ei) (E2 : List Ei) (n : Nat) (h : ∀ x ∈ E1, x.1 ≠ g) (he : e.1 = g) : Instr.findNow (.int .i64) (.int .i64 g) ((E1 ++ e :: E2).map enti) n = some (some (n + E1.length, .int .i64 e.1)) := by
 induction E1 generalizing n with
 | nil =>
  have h1 : (g == e.1) = true := by rw [beq_iff_eq]; exact he.symm
  simp only [List.nil_append, List.map_cons, Instr.findNow, enti, Instr.sameNow, if_true, h1, List.length_nil, Nat.add_zero]
 | cons x E1 ih =>
  have h1 : (g == x.1) = false := by
   rw [beq_eq_false_iff_ne]; exact fun y => h x (by simp) y.symm
  simp only [List.cons_append, List.map_cons, Instr.findNow, enti, Instr.sameNow, if_true, h1]
  have := ih (n + 1) (fun y hy => h y (by simp [hy]))
  simp only [List.map_append, List.map_cons] at this ⊢
  rw [show n + (x :: E1).length = n + 1 + E1.length by simp only [List.length_cons]; omega]
  exact this
theorem run_checki (g : Int) (em : Bool) (W : World) : (Instr.checkKey em 10000 3 (.int .i64 g)).run Tryz.prog W = .ok () W := by
 exact MapKept.run_checkKey Tryz.underlying3 (by first | exact ⟨_, rfl⟩ | trivial | constructor | simp [MapKept.IsKey]) em 9999
theorem run_findi {g : Int} {es : List MapEntry} {r : Option (Nat × Value)} (W : World) (h : Instr.findNow (.int .i64) (.int .i64 g) es 0 = some r) : (Instr.findKey 3 (.int .i64 g) es).run Tryz.prog W = .ok r W := by
 simp [Instr.findKey, run_underlying Tryz.underlying3, Result.andThen, h]
theorem modify_ati (A : List MapEntry) (x : MapEntry) (C : List MapEntry) (f : MapEntry → MapEntry) : (A ++ x :: C).modify A.length f = A ++ f x :: C := by
 induction A with
 | nil => rfl
 | cons a A ih => simpa using ih
theorem run_put_newi {W : World} {b c : Nat} {E : List Ei} (hb : W.heap[b]? = some (.map (E.map enti).toArray c)) (x : Int) (h : ∀ e ∈ E, e.1 ≠ x) :
  (Instr.mapUpdate 119 (.map (some b)) (.int .i64 x) (.int .i64 x)).run Tryz.prog W = .ok () (setBlock W b (.map ((E ++ [(x, c)]).map enti).toArray (c + 1))) := by
 have hf := run_findi W (find_noi x E 0 h)
 simp [Instr.mapUpdate, run_underlying Tryz.underlying119, MapKept.run_getObj_map hb, run_checki, hf, MapKept.run_setObj_map _ hb, Result.andThen, setBlock]
 rfl
theorem run_put_oldi {W : World} {b c : Nat} {E1 : List Ei} {e : Ei} {E2 : List Ei} (hb : W.heap[b]? = some (.map ((E1 ++ e :: E2).map enti).toArray c)) (x : Int) (h : ∀ y ∈ E1, y.1 ≠ x) (he : e.1 = x) :
  (Instr.mapUpdate 119 (.map (some b)) (.int .i64 x) (.int .i64 x)).run Tryz.prog W = .ok () (setBlock W b (.map ((E1 ++ e :: E2).map enti).toArray c)) := by
 have hf := run_findi W (find_yesi x E1 e E2 0 h he)
 rw [Nat.zero_add] at hf
 have hi : ((E1 ++ e :: E2).map enti).toArray[E1.length]? = some (enti e) := by simp
 have hm : ((E1 ++ e :: E2).map enti).toArray.modify E1.length (fun e' => { e' with key := .int .i64 x, val := .int .i64 x }) = ((E1 ++ e :: E2).map enti).toArray := by
  apply Array.ext'
  rw [Array.toList_modify]
  simp only [List.map_append, List.map_cons]
  have := modify_ati (E1.map enti) (enti e) (E2.map enti) (fun e' => { e' with key := .int .i64 x, val := .int .i64 x })
  rw [List.length_map] at this
  rw [this]
  obtain ⟨e1, e2⟩ := e
  dsimp only at he
  subst he
  rfl
 have hk : ∀ W, (Instr.keyThatStays (.int .i64 e.1) (.int .i64 x)).run Tryz.prog W = .ok (.int .i64 x) W := fun W => by
  simp [Instr.keyThatStays, Instr.sameBits, he]
 have hi' : (((((E1 ++ e :: E2).map enti).toArray[E1.length]?).map (·.key)).getD (.int .i64 x)) = .int .i64 e.1 := by rw [hi]; rfl
 simp only [Instr.mapUpdate, run_underlying Tryz.underlying119, MapKept.run_getObj_map hb, run_checki, hf, Result.andThen, Sem.run_bind, hi', hk, hm]
 rw [MapKept.run_setObj_map _ hb]
 rfl
structure OwGm (W : World) (B b : Nat) (E : List Ei) (c : Nat) : Prop where
 lies : W.heap[b]? = some (.map (E.map enti).toArray c)
 base : B ≤ b
 old : ∀ e ∈ E, e.2 < c
 births : (E.map (·.2)).Nodup
 keys : (E.map (·.1)).Nodup
theorem OwGm.later {W W' : World} {B b c : Nat} {E : List Ei} (h : OwGm W B b E c) (hb : Below W.heap.size W W') : OwGm W' B b E c :=
 ⟨(hb.block b (Array.getElem?_eq_some_iff.1 h.lies).1).trans h.lies, h.base, h.old, h.births, h.keys⟩
theorem OwGm.lt {W : World} {B b c : Nat} {E : List Ei} (h : OwGm W B b E c) : b < W.heap.size := (Array.getElem?_eq_some_iff.1 h.lies).1
theorem OwGm.same {W W' : World} {B b c : Nat} {E : List Ei} (h : OwGm W B b E c) (hb : W'.heap[b]? = W.heap[b]?) : OwGm W' B b E c :=
 ⟨hb.trans h.lies, h.base, h.old, h.births, h.keys⟩
theorem setBlock_growni {W : World} {b : Nat} {es : Array MapEntry} {c : Nat} (hb : W.heap[b]? = some (.map es c)) (o : Obj) : W.grownBy (setBlock W b o) (some b) :=
 ⟨rfl, rfl, rfl, by simp [setBlock], fun i _ hi => heap_setBlock_other hb _ (fun e => hi (by rw [e]))⟩
theorem split_keyi {E : List Ei} {g : Int} (h : ¬ ∀ e ∈ E, e.1 ≠ g) : ∃ E1 e E2, E = E1 ++ e :: E2 ∧ (∀ x ∈ E1, x.1 ≠ g) ∧ e.1 = g := by
 induction E with
 | nil => exact absurd (fun e he => by cases he) h
 | cons x E ih =>
  by_cases hx : x.1 = g
  ·exact ⟨[], x, E, rfl, (fun y hy => by cases hy), hx⟩
  ·obtain ⟨E1, e, E2, h1, h2, h3⟩ := ih (fun hh => h (fun e he => by
     rcases List.mem_cons.1 he with rfl | he
     · exact hx
     · exact hh e he))
   refine ⟨x :: E1, e, E2, by rw [h1]; rfl, fun y hy => ?_, h3⟩
   rcases List.mem_cons.1 hy with rfl | hy
   ·exact hx
   ·exact h2 y hy
theorem OwGm.put {W : World} {B b c : Nat} {E : List Ei} (h : OwGm W B b E c) (x : Int) :
  ∃ W' E' c', (Instr.mapUpdate 119 (.map (some b)) (.int .i64 x) (.int .i64 x)).run Tryz.prog W = .ok () W' ∧ OwGm W' B b E' c' ∧ (∀ y, y ∈ E'.map (·.1) ↔ y = x ∨ y ∈ E.map (·.1)) ∧ E'.length ≤ E.length + 1 ∧ W.grownBy W' (some b) := by
 by_cases hn : ∀ e ∈ E, e.1 ≠ x
 ·refine ⟨_, E ++ [(x, c)], c + 1, run_put_newi h.lies x hn, ⟨heap_setBlock_same h.lies _, h.base, ?_, ?_, ?_⟩, ?_, by simp, setBlock_growni h.lies _⟩
  ·intro e he
   rcases List.mem_append.1 he with he | he
   ·have := h.old e he; omega
   ·simp at he; subst he; simp
  ·rw [List.map_append, List.nodup_append]
   refine ⟨h.births, by simp, ?_⟩
   intro x hx y hy
   simp at hy
   subst hy
   obtain ⟨e, he, rfl⟩ := List.mem_map.1 hx
   have := h.old e he
   omega
  ·rw [List.map_append, List.nodup_append]
   refine ⟨h.keys, by simp, ?_⟩
   intro x hx y hy
   simp at hy
   subst hy
   obtain ⟨e, he, rfl⟩ := List.mem_map.1 hx
   exact hn e he
  ·intro y
   rw [List.map_append, List.mem_append, Or.comm]
   simp
 ·obtain ⟨E1, e0, E2, rfl, h1, h2⟩ := split_keyi hn
  refine ⟨_, E1 ++ e0 :: E2, c, run_put_oldi h.lies x h1 h2, ⟨heap_setBlock_same h.lies _, h.base, h.old, h.births, h.keys⟩, ?_, by omega, setBlock_growni h.lies _⟩
  intro y
  constructor
  ·exact Or.inr
  ·rintro (rfl | hy)
   ·exact List.mem_map.2 ⟨e0, by simp, h2⟩
   ·exact hy
theorem OwGm.ask {W : World} {B b c : Nat} {E : List Ei} (h : OwGm W B b E c) (x : Int) :
  ((∀ e ∈ E, e.1 ≠ x) ∧ (Instr.lookup 119 (.map (some b)) (.int .i64 x) true).run Tryz.prog W = .ok (.tuple #[.int .i64 0, .bool false]) W) ∨ (x ∈ E.map (·.1) ∧ (Instr.lookup 119 (.map (some b)) (.int .i64 x) true).run Tryz.prog W = .ok (.tuple #[.int .i64 x, .bool true]) W) := by
 by_cases hn : ∀ e ∈ E, e.1 ≠ x
 ·refine Or.inl ⟨hn, ?_⟩
  have hf := run_findi W (find_noi x E 0 hn)
  have hz := Tryz.zeroValue3 W
  simp only [Instr.lookup, Sem.run_bind, run_underlying Tryz.underlying119, Result.andThen, MapKept.run_getObj_map h.lies, Sem.run_pure, run_checki, hf, hz]
  rfl
 ·obtain ⟨E1, e0, E2, rfl, h1, h2⟩ := split_keyi hn
  refine Or.inr ⟨List.mem_map.2 ⟨e0, by simp, h2⟩, ?_⟩
  have hf := run_findi W (find_yesi x E1 e0 E2 0 h1 h2)
  rw [h2] at hf
  simp only [Instr.lookup, Sem.run_bind, run_underlying Tryz.underlying119, Result.andThen, MapKept.run_getObj_map h.lies, Sem.run_pure, run_checki, hf]
  rfl
theorem make_gm (n : Nat) (W : World) : (Instr.makeMap 119 (some (.int .i64 (n : Int)))).run Tryz.prog W = .ok (.map (some W.heap.size)) (W.alloc (.map #[] 0)) := by
 simp only [Instr.makeMap, Sem.run_bind, run_underlying Tryz.underlying119, Result.andThen]
 rfl
theorem run_range_gm {W : World} {b c : Nat} {es : Array MapEntry} (hb : W.heap[b]? = some (.map es c)) : (Instr.range 119 (.map (some b))).run Tryz.prog W = .ok (.pointer (some ⟨W.heap.size, 0, none⟩)) (W.alloc (.mapIter (some b) c #[] c)) := by
 simp only [Instr.range, Sem.run_bind, run_underlying Tryz.underlying119, Result.andThen, MapKept.run_getObj_map hb]
 rfl
end Go.Proofs.YtmpcmllfgogegaaGreat
namespace Go.Proofs.YtmpcmllfgogegaaGreat
open Go.RowKit Go.Shelf Go.ChangeMaps
attribute [local go_sem] Oper.semAt_some
def lfI (E : List Ei) (seen : Array Nat) : List Ei := E.filter (fun e => !seen.contains e.2)
theorem lfi_of (E : List Ei) (seen : Array Nat) : leftOf (E.map enti).toArray seen = ((lfI E seen).map enti).toArray := by
 unfold leftOf lfI
 apply Array.ext'
 simp only [Array.toList_filter, List.filter_map]
 rfl
theorem lfi_push (E : List Ei) (seen : Array Nat) (b : Nat) : lfI E (seen.push b) = (lfI E seen).filter (fun e => !(e.2 == b)) := by
 unfold lfI
 rw [List.filter_filter]
 apply List.filter_congr
 intro e _
 simp only [Array.contains_push, Bool.not_or]
 rw [Bool.and_comm]
theorem permi_out (R : List Ei) (e : Ei) (he : e ∈ R) (hn : (R.map (·.2)).Nodup) : (e :: R.filter (fun x => !(x.2 == e.2))).Perm R := by
 induction R with
 | nil => cases he
 | cons x R ih =>
  rw [List.map_cons, List.nodup_cons] at hn
  rcases List.mem_cons.1 he with rfl | he
  ·have hf : (e :: R).filter (fun x => !(x.2 == e.2)) = R := by
    rw [List.filter_cons_of_neg (by simp), List.filter_eq_self.2]
    intro y hy
    have : y.2 ≠ e.2 := fun h => hn.1 (h ▸ List.mem_map.2 ⟨y, hy, rfl⟩)
    simpa using this
   rw [hf]
  ·have hx : x.2 ≠ e.2 := fun h => hn.1 (h ▸ List.mem_map.2 ⟨e, he, rfl⟩)
   rw [List.filter_cons_of_pos (by simpa using hx)]
   exact (List.Perm.swap x e _).trans ((ih he hn.2).cons x)
theorem lfi_nodup {E : List Ei} (h : (E.map (·.2)).Nodup) (seen : Array Nat) : ((lfI E seen).map (·.2)).Nodup :=
 List.Nodup.sublist (List.Sublist.map _ List.filter_sublist) h
def lfti (b r : Nat) (W : World) : Nat :=
 match W.heap[r]?, W.heap[b]? with
 | some (.mapIter _ _ seen _), some (.map es _) => (leftOf es seen).size
 | _, _ => 0
set_option maxRecDepth 100000 in
set_option maxHeartbeats 4000000 in
theorem values1i_in (F : Fence) (n : Nat) (h7 : F.fn 159) (hro : F.round = none) (hn : 1 ≤ n) (l Bm b c : Nat) (E : List Ei) (J Jx : List { e : Ei // e ∈ E } → World → Prop)
  (hY : ∀ pre x W, J pre W → pre.length < E.length → YieldAt F (n - 1) Tryz.prog l #[.int .i64 x.1.1] W fun e W' =>
    (e = .returned (.bool true) ∧ J (pre ++ [x]) W' ∧ KeepsWalks W W') ∨ (e = .returned (.bool false) ∧ Jx (pre ++ [x]) W'))
  (W : World) (hJ : AbidesFrom W.heap.size J) (hm : W.cell? ⟨Bm, 0, none⟩ = some (.map (some b))) (hlies : W.heap[b]? = some (.map (E.map enti).toArray c)) (hold : ∀ e ∈ E, e.2 < c) (hbir : (E.map (·.2)).Nodup) (h0 : J [] W) :
  CallsIn F n Tryz.prog 159 #[.func (.yield l) #[] #[], .pointer (some ⟨Bm, 0, none⟩)] W fun e W' => (∃ v, e = .returned v) ∧
   ((∃ xs, ((xs.map (·.1)).Perm E) ∧ J xs W') ∨ (∃ pre, True ∧ Jx pre W')) := by
 have hrg := run_range_gm hlies
 have hblt : b < W.heap.size := (Array.getElem?_eq_some_iff.1 hlies).1
 have HLI := hid hlies
 have HY := hid hY
 have HJ := hid hJ
 have H0 := hid h0
 have HBL := hid hblt
 have HOL : Hid (∀ x ∈ ((E.map enti).toArray).toList, x.born < c) := by
  intro x hx
  rw [List.toList_toArray] at hx
  obtain ⟨e, he, rfl⟩ := List.mem_map.1 hx
  exact hold e he
 have HBN : Hid ((((E.map enti).toArray).toList.map (·.born)).Nodup) := by
  show List.Nodup _
  rw [List.toList_toArray, List.map_map]
  exact hbir
 have HBI := hid hbir
 clear hlies hY hJ h0 hblt hold hbir
 refine callsIn_of_wp Tryz.func159 rfl h7 ?_ hro
 simp only [Tryz.ntmps159, List.size_toArray, List.length_cons, List.length_nil, Nat.reduceAdd, Nat.reduceSub, Array.replicate_succ, Array.replicate_zero, List.push_toArray, List.append_toArray, List.nil_append, List.cons_append]
 gi_wp2
 clear hrg hm
 gi_loopw [7] (fun _ wr => ∃ (seen : Array Nat) (ps : List { e : Ei // e ∈ E }), wr.heap[W.heap.size]? = some (.mapIter (some b) c seen c) ∧ wr.heap[b]? = some (.map (E.map enti).toArray c) ∧ (ps.map (·.1) ++ lfI E seen).Perm E ∧ J ps wr)
  (fun _ wr => lfti b W.heap.size wr)
 case atStart =>
  refine ⟨#[], [], heap_alloc_new W _, (Below.heap_alloc _ _ b HBL.out).trans HLI.out, ?_, HJ.out [] W _ none H0.out (World.grownBy_alloc W _ none) (fun r e => by cases e)⟩
  have : lfI E #[] = E := by unfold lfI; rw [List.filter_eq_self.2]; simp
  rw [this]; exact List.Perm.refl _
 case round =>
  obtain ⟨seen, ps, hr, hb, hP, hJs⟩ := hrel
  have HR := hid hr
  have HB := hid hb
  have HP := hid hP
  have HJS := hid hJs
  have hnx := run_next_at (P := Tryz.prog) wr 0 W.heap.size b c c seen (E.map enti).toArray c hr hb HOL.out (Nat.le_refl _)
  rw [lfi_of] at hnx
  clear hr hb hP hJs
  rcases hnx with ⟨hz, hrun⟩ | ⟨e, he, w1, hw1, hrun⟩
  ·have HZ : Hid (lfI E seen = []) := by
    show _ = _
    rw [List.size_toArray, List.length_map] at hz
    exact List.eq_nil_of_length_eq_zero hz
   clear hz
   gi_wp2
   go_end0
   refine ⟨⟨_, rfl⟩, .inl ⟨ps, ?_, HJS.out⟩⟩
   have := HP.out
   rwa [HZ.out, List.append_nil] at this
  ·rw [List.toList_toArray] at he
   obtain ⟨x, hx, rfl⟩ := List.mem_map.1 he
   have hxE : x ∈ E := (List.mem_filter.1 hx).1
   have HXL := hid hx
   have hwh : w1.heap = wr.heap := by rcases hw1 with rfl | rfl <;> rfl
   have hr1 : w1.heap[W.heap.size]? = some (.mapIter (some b) c seen c) := by rw [hwh]; exact HR.out
   obtain ⟨W2, hW2⟩ : ∃ W2, setBlock w1 W.heap.size (.mapIter (some b) c (seen.push x.2) c) = W2 := ⟨_, rfl⟩
   have hg2 : wr.grownBy W2 (some W.heap.size) := by
    subst hW2
    have hlt := (Array.getElem?_eq_some_iff.1 hr1).1
    refine ⟨?_, ?_, ?_, ?_, ?_⟩
    ·rcases hw1 with rfl | rfl <;> rfl
    ·rcases hw1 with rfl | rfl <;> rfl
    ·rcases hw1 with rfl | rfl <;> rfl
    ·simp [setBlock, hwh]
    ·intro k hk hne
     simp only [setBlock, hwh]
     exact Array.getElem?_setIfInBounds_ne (fun e => hne (by rw [e]))
   have hr2 : W2.heap[W.heap.size]? = some (.mapIter (some b) c (seen.push x.2) c) := by
    subst hW2
    simp only [setBlock]
    rw [Array.getElem?_setIfInBounds_self_of_lt (Array.getElem?_eq_some_iff.1 hr1).1]
   have hb2 : W2.heap[b]? = some (.map (E.map enti).toArray c) := (hg2.block b (Array.getElem?_eq_some_iff.1 HB.out).1 (fun e => by have := HBL.out; simp at e; omega)).trans HB.out
   have hen := run_entry_at (P := Tryz.prog) W2 W.heap.size b c seen (E.map enti).toArray c (enti x) hr2 hb2 (by rw [List.toList_toArray]; exact List.mem_map.2 ⟨x, hxE, rfl⟩) HBN.out
   have hJ2 : J ps W2 := HJ.out ps wr W2 (some W.heap.size) HJS.out hg2 (fun r e => by cases e; exact ⟨Nat.le_refl _, _, HR.out, rfl⟩)
   have hrun' : (Instr.next (.pointer (some ⟨W.heap.size, 0, none⟩)) false 0).run Tryz.prog wr = .ok (.tuple #[.bool true, .int .i64 x.1, .int .i64 x.1]) W2 := by rw [← hW2]; exact hrun
   have hen' : (Instr.entry (.pointer (some ⟨W.heap.size, 0, none⟩))).run Tryz.prog W2 = .ok (.tuple #[.int .i64 x.1, .int .i64 x.1]) W2 := hen
   have HR2 := hid hr2
   have HB2 := hid hb2
   have HJ2 := hid hJ2
   have HXE := hid hxE
   clear hrun hen hr2 hb2 hJ2 hg2 hW2 hr1 hwh hw1 hx he w1
   obtain ⟨g, bo⟩ := x
   have hlen : ps.length < E.length := by
    have h1 := HP.out.length_eq
    have h2 : 0 < (lfI E seen).length := List.length_pos_of_mem HXL.out
    rw [List.length_append, List.length_map] at h1
    omega
   obtain ⟨fn, tmps, assign, body, hy, hR⟩ := HY.out ps ⟨(g, bo), HXE.out⟩ W2 HJ2.out hlen
   dsimp only at hy hrun' hen'
   have HRR := hid hR
   clear hlen hR
   gi_wp2
   refine HRR.out.mono ?_
   rintro e W4 (⟨rfl, hJ4, hk4⟩ | ⟨rfl, hJx4⟩)
   ·have hr4 := hk4.same _ _ HR2.out rfl
    have hb4 := hk4.same _ _ HB2.out rfl
    have hP4 : ((ps ++ [(⟨(g, bo), HXE.out⟩ : { e : Ei // e ∈ E })]).map (fun e => e.1) ++ lfI E (seen.push bo)).Perm E := by
     rw [lfi_push, List.map_append, List.append_assoc]
     refine List.Perm.trans (List.Perm.append_left _ ?_) HP.out
     exact permi_out _ _ HXL.out (lfi_nodup HBI.out seen)
    have HM : Hid (lfti b W.heap.size W4 < lfti b W.heap.size wr) := by
     show _ < _
     unfold lfti
     rw [hr4, hb4, HR.out, HB.out]
     dsimp only
     rw [lfi_of, lfi_of, List.size_toArray, List.size_toArray, List.length_map, List.length_map, lfi_push]
     have := (permi_out _ _ HXL.out (lfi_nodup HBI.out seen)).length_eq
     rw [List.length_cons] at this
     exact Nat.lt_of_succ_le (Nat.le_of_eq this)
    have HR4 := hid hr4
    have HB4 := hid hb4
    have HP4 := hid hP4
    have HJ4 := hid hJ4
    clear hr4 hb4 hP4 hk4 hJ4 hrun' hen' hy
    gi_wp2
    go_roundw
    case rel => exact ⟨_, _, HR4.out, HB4.out, HP4.out, HJ4.out⟩
    case measure => exact HM.out
   ·have HX4 := hid hJx4
    clear hJx4 hrun' hen' hy
    gi_wp2
    refine bodyPost_ret (results_none rfl _ _ _) rfl ?_
    exact ⟨⟨_, rfl⟩, .inr ⟨_, trivial, HX4.out⟩⟩
attribute [local go_sem] Oper.semAt_some
theorem valuesi_stops (F : Fence) (n : Nat) (h7 : F.fn 159) (hro : F.round = none) (hn : 1 ≤ n) (Bm b c B : Nat) (E : List Ei) (w : World) (hBm : Bm < w.heap.size) (hm : w.cell? ⟨Bm, 0, none⟩ = some (.map (some b))) (hmp : OwGm w B b E c) :
  SeqStopsK F n Tryz.prog 159 #[.pointer (some ⟨Bm, 0, none⟩)] (fun x : { e : Ei // e ∈ E } => #[.int .i64 x.1.1]) KeepsWalks (fun xs => (xs.map (·.1)).Perm E) (fun _ => True) E.length w := fun l J Jx W hW hJ _ hY h0 =>
 values1i_in F n h7 hro hn l Bm b c E J Jx hY W hJ ((hW.cell (p := ⟨Bm, 0, none⟩) hBm).trans hm) (hmp.later hW).lies hmp.old hmp.births h0
theorem int_onei (G : List Int) : ∀ u ∈ G.map (Value.int .i64), u.oneCell' = true := by
 intro u hu
 obtain ⟨x, _, rfl⟩ := List.mem_map.1 hu
 rfl
theorem cells_new1 (w : World) (x : Int) (e : Nat) : ∀ j u, ([x].map (Value.int .i64))[j]? = some u → (w.alloc (.cells #[.int .i64 x] e)).cell? ((⟨w.heap.size, 0, none⟩ : Addr).add j) = some u := by
 intro j u hu
 have h := heap_alloc_new w (.cells #[.int .i64 x] e)
 rw [addr_add, Nat.zero_add, cell_of_row _ _ _ _ _ _ h]
 simpa using hu
theorem info_inti : (Tryz.prog.info? 3).map (fun i => (i.zero, i.size, i.bytes)) = some (some (.int .i64 0), 1, 8) := by kernel_rfl
def goti {E : List Ei} (pre : List { e : Ei // e ∈ E }) : List Int := pre.map (fun x => x.1.1)
theorem goti_snoc {E : List Ei} (pre : List { e : Ei // e ∈ E }) (x : { e : Ei // e ∈ E }) : goti (pre ++ [x]) = goti pre ++ [x.1.1] := by simp [goti]
theorem goti_len {E : List Ei} (pre : List { e : Ei // e ∈ E }) : (goti pre).length = pre.length := by simp [goti]
set_option maxRecDepth 100000 in
set_option maxHeartbeats 4000000 in
theorem appendSeqi_any (Bm b c B : Nat) (E : List Ei) (w : World) (hN : E.length ≤ 4194304) (hBm : Bm < w.heap.size) (hm : w.cell? ⟨Bm, 0, none⟩ = some (.map (some b))) (hmp : OwGm w B b E c) :
  Calls Tryz.prog 171 #[.slice none 0 0, .func (.func 159) #[] #[.pointer (some ⟨Bm, 0, none⟩)]] w fun e w' =>
   ∃ v xs, e = .returned v ∧ (xs.map (fun x : { e : Ei // e ∈ E } => x.1)).Perm E ∧ w'.ownsRow w.heap.size 3 1 v (goti xs).length ((goti xs).map (Value.int .i64)) ∧ Below w.heap.size w w' := by
 have HMP := hid hmp
 have HM := hid hm
 have HBM := hid hBm
 clear hmp hm hBm
 refine (callsIn_wide (n := 3)).1 ?_
 refine callsIn_of_wp_marks Tryz.func171 rfl trivial ?_ rfl
 simp only [Tryz.ntmps171, List.size_toArray, List.length_cons, List.length_nil, Nat.reduceAdd, Nat.reduceSub, Array.replicate_succ, Array.replicate_zero, List.push_toArray, List.append_toArray, List.nil_append, List.cons_append]
 gi_wp2
 obtain ⟨W0, hW0⟩ : ∃ W0, w.alloc (.cells #[.slice none 0 0] 27) = W0 := ⟨_, rfl⟩
 rw [hW0]
 have hbox : Boxed W0 w.heap.size 27 (.slice none 0 0) := by subst hW0; exact Boxed.new w _ _
 have b0 : Below w.heap.size w W0 := by subst hW0; exact bpush (bre _) _
 have s0 : W0.heap.size = w.heap.size + 1 := by subst hW0; simp
 obtain ⟨i0, hi, hz0, hz1, hz2⟩ := info_parts3 info_inti
 refine wpIn_rangeFunc_ownH (F := Fence.wide) (n := 3) rfl (by decide) (gf := 159) (lb := #[.pointer (some ⟨Bm, 0, none⟩)]) rfl trivial (enters_of Tryz.func159 (by kernel_rfl) rfl)
  (valuesi_stops Fence.wide (3 - 1) trivial rfl (by decide) Bm b c B E W0 (Nat.lt_of_lt_of_le HBM.out b0.size) ((b0.cell (p := ⟨Bm, 0, none⟩) HBM.out).trans HM.out) (HMP.out.later b0)) walksK_t walksK_b (Below.refl _ _) (fun _ => rfl)
  (fun pre W => (∃ v, Boxed W w.heap.size 27 v ∧ W.ownsRow w.heap.size 3 1 v (goti pre).length ((goti pre).map (Value.int .i64)) ∧ True) ∧ Below w.heap.size w W) (fun _ _ _ => False)
  (OwnFrom.and (Own.from (holdsRow_own w.heap.size w.heap.size 27 3 1 (fun pre => (goti pre).length) (fun pre => (goti pre).map (Value.int .i64)) (fun _ _ => True)) _) (ownFrom_below (Nat.le_refl _) (by omega)))
  (fun _ _ _ _ _ hs _ _ => hs)
  ⟨⟨_, hbox, World.ownsRow_nil _ _ _ _, trivial⟩, b0⟩
  (fun x a' W => a' = { tmps := #[.slice none 0 0, .func (.func 159) #[] #[.pointer (some ⟨Bm, 0, none⟩)], .pointer (some ⟨w.heap.size, 0, none⟩), undef, .slice none 0 0, .int .i64 x.1.1, .func (.func 159) #[] #[.pointer (some ⟨Bm, 0, none⟩)], .int .i64 x.1.1, undef, undef, undef, undef, undef], defers := [] })
  ?hax ?assign ?body ?done ?stop
 case hax =>
  rintro x a' _ X Y row h3 hg hr
  exact h3
 case assign =>
  rintro l pre ⟨⟨g, bo⟩, hx⟩ W K ⟨⟨v, hv, hrow, _⟩, hB⟩ hK
  have HV := hid hv
  have HRW := hid hrow
  have HB := hid hB
  clear hv hrow hB
  gi_wp2
  exact hK _ _ ((KeepsOthers.refl _).from _) (KeepsWalks.refl _) ⟨⟨v, HV.out, HRW.out, trivial⟩, HB.out⟩ rfl
 case body =>
  rintro l pre ⟨⟨g, bo⟩, hx⟩ a' W hl ⟨r, hr⟩ ⟨⟨v, hv, hrow, _⟩, hB⟩ rfl hlt
  have HV := hid hv
  have HRW := hid hrow
  have HB := hid hB
  have c1 := hv.cell
  have HLT := hid hlt
  clear hrow hB hr hl hlt hv
  gi_wp2_with (gi_at_builtin; refine wpListIn_append_own _ rfl _ _ 27 rfl w.heap.size 3 i0 (.int .i64 0) 1 8 Tryz.underlying27 hi hz0 hz1 hz2 rfl (by decide) _ _ _ rfl (HRW.out.alloc _) ⟨W.heap.size, 0, none⟩ 1 1 ([g].map (Value.int .i64)) rfl rfl (cells_new1 W g 3) (int_onei [g]) (by have := HLT.out; rw [goti_len]; unfold maxLen; omega) (by have := HLT.out; rw [goti_len]; omega) (by have := HB.out.size; simp; omega) ?_; intro v' w1 hown' hgrow _; obtain ⟨g', cap', rfl⟩ := ownsRow_succ hown'; obtain ⟨hv1, hv2, hr2, hk2, hb2⟩ := HV.out.appended (by decide) HRW.out HB.out.size (Nat.le_refl _) hown' hgrow; have hc1 := hv1.cell; have hf1 := hv1.frozen; have HR2 := hid hr2; have HK2 := hid hk2; have HB2 := hid hb2; have HV2 := hid hv2; clear hr2 hk2 hb2 hv2 hv1 hgrow hown')
  refine ⟨HK2.out.from _, ⟨HK2.out.size, fun k o h hw => HK2.out.same k o h (by cases o <;> first | rfl | cases hw)⟩, ⟨⟨_, HV2.out, ?_⟩, HB.out.trans HB2.out⟩⟩
  first
  | (refine ⟨?_, trivial⟩; have := HR2.out; rw [goti_snoc, List.map_append]; simpa using this)
  | (have := HR2.out; rw [goti_snoc, List.map_append]; simpa using this)
 case done =>
  rintro D xs W hD hS ⟨⟨v, hv, hrow, _⟩, hB⟩ hK
  have c1 := hv.cell
  have HS := hid hS
  have HRW := hid hrow
  have HB := hid hB
  have HK := hid hK
  clear hS hrow hB hv
  gi_wp2
  refine ⟨by simp, .inl ⟨_, _, rfl, run_takeDeferred HK.out, ?_⟩⟩
  refine ⟨_, results_tmp rfl _ _ _, v, xs, rfl, HS.out, ownsRow_putObj HRW.out _ HK.out rfl, HB.out.trans (belowK_b (w := w) (Nat.le_refl _) W D _ _ (by omega) HK.out rfl rfl)⟩
 case stop =>
  rintro D c' pre W _ _ h _
  exact h.elim
theorem collecti_any (Bm b c B : Nat) (E : List Ei) (w : World) (hN : E.length ≤ 4194304) (hBm : Bm < w.heap.size) (hm : w.cell? ⟨Bm, 0, none⟩ = some (.map (some b))) (hmp : OwGm w B b E c) :
  Calls Tryz.prog 157 #[.func (.func 159) #[] #[.pointer (some ⟨Bm, 0, none⟩)]] w fun e w' =>
   ∃ v G, e = .returned v ∧ G.Perm (E.map (fun e => e.1)) ∧ OwI w' w.heap.size v G ∧ Below w.heap.size w w' := by
 have HC := hid (appendSeqi_any Bm b c B E w hN hBm hm hmp)
 clear hBm hm hmp
 go_enter Tryz.func157, Tryz.ntmps157
 go_wp2_with fail
 refine HC.out.mono ?_; rintro e w1 ⟨v, xs, rfl, h1, h2, h3⟩
 have H1 : Hid ((goti xs).Perm (E.map (fun e => e.1))) := by
  have := h1.map (fun e : Ei => e.1)
  rwa [List.map_map] at this
 have H2 := hid h2
 have H3 := hid h3
 clear h1 h2 h3
 go_wp2
 go_ret
 exact ⟨v, _, rfl, H1.out, H2.out, H3.out⟩
theorem valuesi_any (b : Nat) (w : World) :
  Calls Tryz.prog 137 #[.map (some b)] w fun e w' => e = .returned (.func (.func 159) #[] #[.pointer (some ⟨w.heap.size, 0, none⟩)]) ∧ w' = w.alloc (.cells #[.map (some b)] 119) := by
 go_enter Tryz.func137, Tryz.ntmps137
 go_wp2
 go_ret
 exact ⟨rfl, rfl⟩
end Go.Proofs.YtmpcmllfgogegaaGreat
namespace Go.Proofs.YtmpcmllfgogegaaGreat
open Go.Shelf
def sortI_ren : Go.Shelf.Ren := ⟨fun x => match x with | 6 => 158 | 15 => 173 | 14 => 172 | 28 => 185 | 29 => 186 | 20 => 177 | 21 => 178 | 22 => 179 | 23 => 180 | 24 => 181 | 25 => 182 | 26 => 183 | 27 => 184 | 46 => 194 | 47 => 195 | 48 => 196 | 49 => 197 | 50 => 198 | 57 => 202 | n => n, fun x => match x with | 22 => 27 | 24 => 3 | 25 => 76 | 3 => 3 | 39 => 142 | 0 => 0 | 53 => 193 | 55 => 195 | 4 => 4 | 46 => 187 | 45 => 186 | 50 => 121 | 5 => 5 | 9 => 9 | 66 => 200 | 70 => 204 | 76 => 208 | 77 => 209 | n => n, fun n => n⟩
theorem sortI : SlLaysF.n6 Tryz.prog sortI_ren := {
  mixed := by kernel_rfl
  f6 := ⟨Tryz.f158.name, by decide, Tryz.func158.trans (congrArg some (by kernel_rfl))⟩
  f14 := ⟨Tryz.f172.name, by decide, Tryz.func172.trans (congrArg some (by kernel_rfl))⟩
  f15 := Tryz.func173.trans (congrArg some (by kernel_rfl))
  f20 := ⟨Tryz.f177.name, by decide, Tryz.func177.trans (congrArg some (by kernel_rfl))⟩
  f21 := ⟨Tryz.f178.name, by decide, Tryz.func178.trans (congrArg some (by kernel_rfl))⟩
  f22 := ⟨Tryz.f179.name, by decide, Tryz.func179.trans (congrArg some (by kernel_rfl))⟩
  f23 := ⟨Tryz.f180.name, by decide, Tryz.func180.trans (congrArg some (by kernel_rfl))⟩
  f24 := ⟨Tryz.f181.name, by decide, Tryz.func181.trans (congrArg some (by kernel_rfl))⟩
  f25 := ⟨Tryz.f182.name, by decide, Tryz.func182.trans (congrArg some (by kernel_rfl))⟩
  f26 := ⟨Tryz.f183.name, by decide, Tryz.func183.trans (congrArg some (by kernel_rfl))⟩
  f27 := ⟨Tryz.f184.name, by decide, Tryz.func184.trans (congrArg some (by kernel_rfl))⟩
  f28 := Tryz.func185.trans (congrArg some (by kernel_rfl))
  f29 := Tryz.func186.trans (congrArg some (by kernel_rfl))
  f46 := ⟨Tryz.f194.name, by decide, Tryz.func194.trans (congrArg some (by kernel_rfl))⟩
  f47 := Tryz.func195.trans (congrArg some (by kernel_rfl))
  f48 := Tryz.func196.trans (congrArg some (by kernel_rfl))
  f49 := ⟨Tryz.f197.name, by decide, Tryz.func197.trans (congrArg some (by kernel_rfl))⟩
  f50 := ⟨Tryz.f198.name, by decide, Tryz.func198.trans (congrArg some (by kernel_rfl))⟩
  f57 := ⟨Tryz.f202.name, by decide, Tryz.func202.trans (congrArg some (by kernel_rfl))⟩
  t0 := Tryz.underlying0
  a0 := Tryz.isAgg0
  z0 := Tryz.sizeOf0
  v0 := Tryz.zeroValue0
  t3 := Tryz.underlying3
  a3 := Tryz.isAgg3
  z3 := Tryz.sizeOf3
  v3 := Tryz.zeroValue3
  t4 := Tryz.underlying4
  a4 := Tryz.isAgg4
  z4 := Tryz.sizeOf4
  v4 := Tryz.zeroValue4
  t5 := Tryz.underlying5
  a5 := Tryz.isAgg5
  z5 := Tryz.sizeOf5
  v5 := Tryz.zeroValue5
  t9 := Tryz.underlying9
  a9 := Tryz.isAgg9
  z9 := Tryz.sizeOf9
  v9 := Tryz.zeroValue9
  t22 := Tryz.underlying27
  a22 := Tryz.isAgg27
  z22 := Tryz.sizeOf27
  v22 := Tryz.zeroValue27
  a24 := Tryz.isAgg3
  z24 := Tryz.sizeOf3
  t25 := Tryz.underlying76
  a25 := Tryz.isAgg76
  z25 := Tryz.sizeOf76
  v25 := Tryz.zeroValue76
  t39 := Tryz.underlying142
  a39 := Tryz.isAgg142
  z39 := Tryz.sizeOf142
  v39 := Tryz.zeroValue142
  t45 := Tryz.underlying186
  a45 := Tryz.isAgg186
  z45 := Tryz.sizeOf186
  v45 := Tryz.zeroValue186
  t46 := Tryz.underlying187
  a46 := Tryz.isAgg187
  z46 := Tryz.sizeOf187
  v46 := Tryz.zeroValue187
  t50 := Tryz.underlying121
  a50 := Tryz.isAgg121
  z50 := Tryz.sizeOf121
  v50 := Tryz.zeroValue121
  t53 := Tryz.underlying193
  a53 := Tryz.isAgg193
  z53 := Tryz.sizeOf193
  v53 := Tryz.zeroValue193
  t55 := Tryz.underlying195
  a55 := Tryz.isAgg195
  z55 := Tryz.sizeOf195
  v55 := Tryz.zeroValue195
  t66 := Tryz.underlying200
  a66 := Tryz.isAgg200
  z66 := Tryz.sizeOf200
  v66 := Tryz.zeroValue200
  t70 := Tryz.underlying204
  a70 := Tryz.isAgg204
  z70 := Tryz.sizeOf204
  v70 := Tryz.zeroValue204
  t76 := Tryz.underlying208
  a76 := Tryz.isAgg208
  z76 := Tryz.sizeOf208
  v76 := Tryz.zeroValue208
  t77 := Tryz.underlying209
  a77 := Tryz.isAgg209
  z77 := Tryz.sizeOf209
  v77 := Tryz.zeroValue209 }
def sortM_ren : Go.Shelf.Ren := ⟨fun x => match x with | 6 => 165 | 15 => 173 | 14 => 175 | 28 => 185 | 29 => 186 | 20 => 148 | 21 => 187 | 22 => 188 | 23 => 189 | 24 => 190 | 25 => 191 | 26 => 192 | 27 => 193 | 46 => 199 | 47 => 195 | 48 => 196 | 49 => 200 | 50 => 201 | 57 => 203 | n => n, fun x => match x with | 22 => 26 | 24 => 37 | 25 => 106 | 3 => 3 | 39 => 142 | 0 => 0 | 53 => 193 | 55 => 195 | 4 => 4 | 46 => 187 | 45 => 186 | 50 => 121 | 5 => 5 | 9 => 9 | 66 => 200 | 70 => 204 | 76 => 208 | 77 => 209 | n => n, fun n => n⟩
theorem sortM : SlLaysF0.n6 Tryz.prog sortM_ren := {
  mixed := by kernel_rfl
  f6 := ⟨Tryz.f165.name, by decide, Tryz.func165.trans (congrArg some (by kernel_rfl))⟩
  f14 := ⟨Tryz.f175.name, by decide, Tryz.func175.trans (congrArg some (by kernel_rfl))⟩
  f15 := Tryz.func173.trans (congrArg some (by kernel_rfl))
  f20 := ⟨Tryz.f148.name, by decide, Tryz.func148.trans (congrArg some (by kernel_rfl))⟩
  f21 := ⟨Tryz.f187.name, by decide, Tryz.func187.trans (congrArg some (by kernel_rfl))⟩
  f22 := ⟨Tryz.f188.name, by decide, Tryz.func188.trans (congrArg some (by kernel_rfl))⟩
  f23 := ⟨Tryz.f189.name, by decide, Tryz.func189.trans (congrArg some (by kernel_rfl))⟩
  f24 := ⟨Tryz.f190.name, by decide, Tryz.func190.trans (congrArg some (by kernel_rfl))⟩
  f25 := ⟨Tryz.f191.name, by decide, Tryz.func191.trans (congrArg some (by kernel_rfl))⟩
  f26 := ⟨Tryz.f192.name, by decide, Tryz.func192.trans (congrArg some (by kernel_rfl))⟩
  f27 := ⟨Tryz.f193.name, by decide, Tryz.func193.trans (congrArg some (by kernel_rfl))⟩
  f28 := Tryz.func185.trans (congrArg some (by kernel_rfl))
  f29 := Tryz.func186.trans (congrArg some (by kernel_rfl))
  f46 := ⟨Tryz.f199.name, by decide, Tryz.func199.trans (congrArg some (by kernel_rfl))⟩
  f47 := Tryz.func195.trans (congrArg some (by kernel_rfl))
  f48 := Tryz.func196.trans (congrArg some (by kernel_rfl))
  f49 := ⟨Tryz.f200.name, by decide, Tryz.func200.trans (congrArg some (by kernel_rfl))⟩
  f50 := ⟨Tryz.f201.name, by decide, Tryz.func201.trans (congrArg some (by kernel_rfl))⟩
  f57 := ⟨Tryz.f203.name, by decide, Tryz.func203.trans (congrArg some (by kernel_rfl))⟩
  t0 := Tryz.underlying0
  a0 := Tryz.isAgg0
  z0 := Tryz.sizeOf0
  v0 := Tryz.zeroValue0
  t3 := Tryz.underlying3
  a3 := Tryz.isAgg3
  z3 := Tryz.sizeOf3
  v3 := Tryz.zeroValue3
  t4 := Tryz.underlying4
  a4 := Tryz.isAgg4
  z4 := Tryz.sizeOf4
  v4 := Tryz.zeroValue4
  t5 := Tryz.underlying5
  a5 := Tryz.isAgg5
  z5 := Tryz.sizeOf5
  v5 := Tryz.zeroValue5
  t9 := Tryz.underlying9
  a9 := Tryz.isAgg9
  z9 := Tryz.sizeOf9
  v9 := Tryz.zeroValue9
  t22 := Tryz.underlying26
  a22 := Tryz.isAgg26
  z22 := Tryz.sizeOf26
  v22 := Tryz.zeroValue26
  t25 := Tryz.underlying106
  a25 := Tryz.isAgg106
  z25 := Tryz.sizeOf106
  v25 := Tryz.zeroValue106
  t39 := Tryz.underlying142
  a39 := Tryz.isAgg142
  z39 := Tryz.sizeOf142
  v39 := Tryz.zeroValue142
  t45 := Tryz.underlying186
  a45 := Tryz.isAgg186
  z45 := Tryz.sizeOf186
  v45 := Tryz.zeroValue186
  t46 := Tryz.underlying187
  a46 := Tryz.isAgg187
  z46 := Tryz.sizeOf187
  v46 := Tryz.zeroValue187
  t50 := Tryz.underlying121
  a50 := Tryz.isAgg121
  z50 := Tryz.sizeOf121
  v50 := Tryz.zeroValue121
  t53 := Tryz.underlying193
  a53 := Tryz.isAgg193
  z53 := Tryz.sizeOf193
  v53 := Tryz.zeroValue193
  t55 := Tryz.underlying195
  a55 := Tryz.isAgg195
  z55 := Tryz.sizeOf195
  v55 := Tryz.zeroValue195
  t66 := Tryz.underlying200
  a66 := Tryz.isAgg200
  z66 := Tryz.sizeOf200
  v66 := Tryz.zeroValue200
  t70 := Tryz.underlying204
  a70 := Tryz.isAgg204
  z70 := Tryz.sizeOf204
  v70 := Tryz.zeroValue204
  t76 := Tryz.underlying208
  a76 := Tryz.isAgg208
  z76 := Tryz.sizeOf208
  v76 := Tryz.zeroValue208
  t77 := Tryz.underlying209
  a77 := Tryz.isAgg209
  z77 := Tryz.sizeOf209
  v77 := Tryz.zeroValue209 }
end Go.Proofs.YtmpcmllfgogegaaGreat
namespace Go.Proofs.YtmpcmllfgogegaaGreat
open Go.RowKit Go.Shelf Go.ChangeMaps
abbrev Kd (W : World) (k ty f g : Nat) : Prop := W.heap[k]? = some (.cells #[.func (.func f) #[] #[], .func (.func g) #[] #[]] ty)
theorem Kd.cells {W : World} {k ty f g : Nat} (h : Kd W k ty f g) : W.cell? ⟨k, 0, none⟩ = some (.func (.func f) #[] #[]) ∧ W.cell? ⟨k, 1, none⟩ = some (.func (.func g) #[] #[]) :=
 ⟨cell_of_row _ _ 0 _ _ _ h, cell_of_row _ _ 1 _ _ _ h⟩
theorem Kd.lt {W : World} {k ty f g : Nat} (h : Kd W k ty f g) : k < W.heap.size := (Array.getElem?_eq_some_iff.1 h).1
theorem Kd.later {W W' : World} {k ty f g : Nat} (h : Kd W k ty f g) (hb : Below W.heap.size W W') : Kd W' k ty f g := (hb.block k h.lt).trans h
theorem nmi_any (x : Int) (w : World) : Calls Tryz.prog 57 #[.int .i64 x] w fun e w' => e = .returned (.int .i64 x) ∧ w' = w := by
 go_enter Tryz.func57, Tryz.ntmps57
 go_wp2
 go_ret
 exact ⟨rfl, rfl⟩
theorem jni_any (x y : Int) (w : World) : Calls Tryz.prog 58 #[.int .i64 x, .int .i64 y] w fun e w' => e = .returned (.int .i64 x) ∧ w' = w := by
 go_enter Tryz.func58, Tryz.ntmps58
 go_wp2
 go_ret
 exact ⟨rfl, rfl⟩
set_option maxRecDepth 100000 in
theorem cmpi_any (kb : Nat) (x y : Int) (w : World) (hk : Kd w kb 78 57 58) :
  Calls Tryz.prog 138 #[.int .i64 x, .int .i64 y, .pointer (some ⟨kb, 0, none⟩)] w fun e w' => e = .returned (.int .i64 (cpr x y)) ∧ ∃ q, w' = w.drewN q := by
 have eg : ∀ args w, (callFunc 57 args).run Tryz.prog w = .ok (.enter 57 args) w := enters_of Tryz.func57 (by kernel_rfl) rfl
 have c0 := hk.cells.1
 obtain ⟨q, hq⟩ : ∃ q, cpr x y = q := ⟨_, rfl⟩
 have HQ := hid hq
 rw [hq]
 clear hq hk
 go_enter Tryz.func138, Tryz.ntmps138
 go_wp2_with fail
 go_region_held3 (fun W => W.cell? ⟨kb, 0, none⟩ = some (.func (.func 57) #[] #[]))
  (exact c0)
  (first
    | (go_at_call 57; refine (nmi_any _ _).mono ?_; rintro e w1 ⟨rfl, h⟩; subst h)
    | (go_at_call 92; refine (compare_any _ _ _).mono ?_; rintro e w1 ⟨rfl, h⟩; subst h; rw [HQ.out]))
 all_goals
  go_wp2
  go_ret
  exact ⟨rfl, _, rfl⟩
attribute [local go_sem] Oper.semAt_some
structure Kb (N m : Nat) (W W' : World) : Prop where
 size : W.heap.size ≤ W'.heap.size
 same : ∀ k, k < N → k ≠ m → W'.heap[k]? = W.heap[k]?
theorem Kb.refl (N m : Nat) (W : World) : Kb N m W W := ⟨Nat.le_refl _, fun _ _ _ => rfl⟩
theorem Kb.trans {N m : Nat} {A B C : World} (h : Kb N m A B) (k : Kb N m B C) : Kb N m A C := ⟨Nat.le_trans h.size k.size, fun i h1 h2 => (k.same i h1 h2).trans (h.same i h1 h2)⟩
theorem kbK_b {N m : Nat} {w : World} (hn : N ≤ w.heap.size) (W : World) (l : Nat) (o o' : Obj) (hl : w.heap.size ≤ l) (h : W.heap[l]? = some o) (_ : o.isCells = false) (_ : o.isWalk = false) : Kb N m W (W.putObj l o') := by
 have hg := grownBy_putObj' W l o'
 have hlt := (Array.getElem?_eq_some_iff.1 h).1
 exact ⟨hg.size, fun k h1 _ => hg.block k (by omega) (fun e => by cases e; omega)⟩
theorem Kb.of_below {N m : Nat} {W W' : World} (h : Below N W W') : Kb N m W W' := ⟨h.size, fun k hk _ => h.block k hk⟩
set_option maxRecDepth 100000 in
set_option maxHeartbeats 4000000 in
theorem back1i_in (F : Fence) (n : Nat) (h7 : F.fn 156) (hro : F.round = none) (hn : 1 ≤ n) (l Bm N m : Nat) (a : Option Addr) (c k : Nat) (lo hh : Nat) (G : List Int) (hk : G.length = k) (hk2 : k ≤ 1048576) (J Jx : List (Int × Int) → World → Prop)
  (hY : ∀ pre x W, J pre W → pre.length < k → YieldAt F (n - 1) Tryz.prog l #[.int .i64 x.1, .int .i64 x.2] W fun e W' =>
    (e = .returned (.bool true) ∧ J (pre ++ [x]) W' ∧ Kb N m W W') ∨ (e = .returned (.bool false) ∧ Jx (pre ++ [x]) W'))
  (W : World) (hN : N ≤ W.heap.size) (hBm : Bm < N) (hBm2 : Bm ≠ m) (hhm : hh ≤ m) (hhN : hh ≤ N) (hm : W.cell? ⟨Bm, 0, none⟩ = some (.slice a k c)) (his : Is lo hh W a G) (h0 : J [] W) :
  CallsIn F n Tryz.prog 156 #[.func (.yield l) #[] #[], .pointer (some ⟨Bm, 0, none⟩)] W fun e W' => (∃ v, e = .returned v) ∧
   ((∃ xs, (xs.map (·.2) = G.reverse) ∧ J xs W') ∨ (∃ pre, True ∧ Jx pre W')) := by
 have HY := hid hY
 have H0 := hid h0
 have HI := hid his
 have HM := hid hm
 have HBM := hid hBm
 have HBM2 := hid hBm2
 have HHM := hid hhm
 have HHN := hid hhN
 have HN := hid hN
 have HK := hid hk
 clear hY h0 his hBm hBm2 hhm hhN hN hk
 refine callsIn_of_wp Tryz.func156 rfl h7 ?_ hro
 simp only [Tryz.ntmps156, List.size_toArray, List.length_cons, List.length_nil, Nat.reduceAdd, Nat.reduceSub, Array.replicate_succ, Array.replicate_zero, List.push_toArray, List.append_toArray, List.nil_append, List.cons_append]
 gi_wp2
 clear hm
 gi_loopw [3] (fun iv wr => ∃ (j : Nat) (ps : List (Int × Int)), j ≤ k ∧ iv = .int .i64 ((j : Int) - 1) ∧ ps.map (·.2) = (G.drop j).reverse ∧ J ps wr ∧ Kb N m W wr) (fun iv _ => (intOf iv + 1).toNat)
 case atStart =>
  refine ⟨k, [], Nat.le_refl _, by go_num, ?_, H0.out, Kb.refl _ _ _⟩
  rw [← HK.out, List.drop_length]; rfl
 case round =>
  obtain ⟨j, ps, hj, rfl, hP, hJs, hkb⟩ := hrel
  have HP := hid hP
  have HJS := hid hJs
  have HKB := hid hkb
  clear hP hJs hkb
  by_cases hz : j = 0
  ·subst hz
   have HZ : Hid (ps.map (·.2) = G.reverse) := by
    show _ = _
    rw [HP.out, List.drop_zero]
   clear hj
   gi_wp2
   go_end0
   exact ⟨⟨_, rfl⟩, .inl ⟨ps, HZ.out, HJS.out⟩⟩
  ·obtain ⟨i, rfl⟩ : ∃ i, j = i + 1 := ⟨j - 1, by omega⟩
   clear hz
   have hil : i < G.length := by rw [HK.out]; omega
   obtain ⟨kb, o, rfl, hlo, hkh, cc⟩ := HI.out.2 i hil
   have c1 : wr.cell? ⟨kb, o + i, none⟩ = some (.int .i64 G[i]) := (cell_same (p := ⟨kb, _, none⟩) (HKB.out.same kb (by have := HHN.out; omega) (by have := HHM.out; omega))).trans cc
   have c2 : wr.cell? ⟨Bm, 0, none⟩ = some (.slice (some ⟨kb, o, none⟩) k c) := (cell_same (p := ⟨Bm, 0, none⟩) (HKB.out.same Bm HBM.out HBM2.out)).trans HM.out
   have hlen : ps.length < k := by
    have h1 := congrArg List.length HP.out
    rw [List.length_map, List.length_reverse, List.length_drop, HK.out] at h1
    omega
   obtain ⟨x, hx⟩ : ∃ x, G[i] = x := ⟨_, rfl⟩
   rw [hx] at c1
   obtain ⟨fn, tmps, assign, body, hy, hR⟩ := HY.out ps ((i : Int), x) wr HJS.out hlen
   have HRR := hid hR
   have HX := hid hx
   have hI : (0 : Int) ≤ (i : Int) ∧ (i : Int) < (k : Int) := by omega
   have e1 : ((i + 1 : Nat) : Int) - 1 = (i : Int) := by omega
   rw [e1]
   clear hR hx hlen cc
   dsimp only at hy
   gi_wp2
   refine HRR.out.mono ?_
   rintro e W4 (⟨rfl, hJ4, hk4⟩ | ⟨rfl, hJx4⟩)
   ·have HP4 : Hid ((ps ++ [((i : Int), x)]).map (·.2) = (G.drop i).reverse) := by
     show _ = _
     rw [List.map_append, HP.out, List.drop_eq_getElem_cons hil, List.reverse_cons, HX.out]
     rfl
    have HJ4 := hid hJ4
    have HK4 := hid (HKB.out.trans hk4)
    clear hJ4 hk4 c1 c2 hy
    gi_wp2
    go_roundw
    case rel => exact ⟨i, _, by omega, by go_num, HP4.out, HJ4.out, HK4.out⟩
    case measure => simp [intOf]
   ·have HX4 := hid hJx4
    clear hJx4 c1 c2 hy
    gi_wp2
    refine bodyPost_ret (results_none rfl _ _ _) rfl ?_
    exact ⟨⟨_, rfl⟩, .inr ⟨_, trivial, HX4.out⟩⟩
theorem backi_stops (F : Fence) (n : Nat) (h7 : F.fn 156) (hro : F.round = none) (hn : 1 ≤ n) (Bm m : Nat) (a : Option Addr) (c k : Nat) (lo hh : Nat) (G : List Int) (hk : G.length = k) (hk2 : k ≤ 1048576) (w : World) (hBm : Bm < w.heap.size) (hBm2 : Bm ≠ m) (hhm : hh ≤ m) (hm : w.cell? ⟨Bm, 0, none⟩ = some (.slice a k c)) (his : Is lo hh w a G) :
  SeqStopsK F n Tryz.prog 156 #[.pointer (some ⟨Bm, 0, none⟩)] (fun x : Int × Int => #[.int .i64 x.1, .int .i64 x.2]) (Kb w.heap.size m) (fun xs => xs.map (·.2) = G.reverse) (fun _ => True) k w := fun l J Jx W hW _ _ hY h0 =>
 back1i_in F n h7 hro hn l Bm w.heap.size m a c k lo hh G hk hk2 J Jx hY W hW.size hBm hBm2 hhm his.1 ((hW.cell (p := ⟨Bm, 0, none⟩) hBm).trans hm) (his.later hW) h0
theorem backi_any (a : Option Addr) (k c : Nat) (w : World) :
  Calls Tryz.prog 135 #[.slice a k c] w fun e w' => e = .returned (.func (.func 156) #[] #[.pointer (some ⟨w.heap.size, 0, none⟩)]) ∧ w' = w.alloc (.cells #[.slice a k c] 27) := by
 go_enter Tryz.func135, Tryz.ntmps135
 go_wp2
 go_ret
 exact ⟨rfl, rfl⟩
def noDefer (ops : Array Oper) : Bool := ops.all fun o => match o.op with | .defer _ => false | _ => true
theorem noDefer_at {ops : Array Oper} (h : noDefer ops = true) {i : Nat} {o : Oper} (hi : ops[i]? = some o) : ∀ c, o.op ≠ .defer c := by
 intro c hc
 obtain ⟨hlt, he⟩ := Array.getElem?_eq_some_iff.1 hi
 have h1 := (Array.all_eq_true.1 h) i hlt
 rw [he, hc] at h1
 cases h1
theorem op_round {P : Program} {o : Oper} {l n : Nat} {a : Act} {w : World} {K K' : Act → World → Prop} {Q : Exit → Act → World → Prop} (hd : ∀ c, o.op ≠ .defer c) (hK : ∀ a w, K a w → K' a w) (h : o.wp P a w K Q) : o.wpIn (Fence.wide.inRound l) n P a w K' Q := by
 refine ⟨fun _ _ => trivial, ?_⟩
 rw [Oper.semAt_eq _ _ _ hd]
 have h' : o.upon P a K Q ((execOp a.eval o).run P w) := h
 generalize (execOp a.eval o).run P w = r at h' ⊢
 cases r with
 | ok x w' =>
  cases x with
  | value v => exact hK _ _ h'
  | skip => exact hK _ _ h'
  | defer d => exact hK _ _ h'
  | enter f args =>
   refine ⟨fun hh => by simp [Fence.inRound, Fence.wide] at hh, CallsIn.inRound l (callsIn_wide.2 ?_)⟩
   exact Calls.mono h' (fun e w'' he => by
     cases e with
     | returned v => exact hK _ _ he
     | panicked c => exact he
     | outgrown => exact he)
  | row r args =>
   refine ⟨fun hh => by simp [Fence.inRound, Fence.wide] at hh, fun c cs _ => ?_⟩
   obtain ⟨v, w2, h1, h2⟩ := (show Rows P r args w' _ from h') c cs
   exact ⟨v, w2, hK _ _ h1, stepsIn_wide.2 h2⟩
  | _ => exact h'.elim
 | halt hl w' =>
  cases hl with
  | panic v => exact h'
  | _ => exact h'.elim
theorem any_round {P : Program} {md : Region.Mode} {ops : Array Oper} {Q : Exit → Act → World → Prop} {l n : Nat} (hnd : noDefer ops = true) (hlo : ¬ LetsOut Q) :
  ∀ (fuel : Nat) (listed : Array Bool) (a : Act) (w : World), wpAny P md ops Q fuel listed a w → wpAnyIn (Fence.wide.inRound l) n P md ops Q fuel listed a w
 | 0, _, _, _, h => h
 | fuel + 1, listed, a, w, h => by
  refine ⟨h.1, fun i hi => ?_⟩
  have h2 := h.2 i hi
  unfold wpOp at h2
  unfold wpOpIn
  cases ho : ops[i]? with
  | none =>
   rw [ho] at h2
   exact any_round hnd hlo fuel _ a w h2
  | some o =>
   rw [ho] at h2
   dsimp only at h2 ⊢
   by_cases hw : Region.wanted o (yielded ops a.tmps) = true
   ·rw [if_pos hw] at h2 ⊢
    rcases h2 with h2 | h2
    ·exact op_round (noDefer_at hnd ho) (fun a w hh => any_round hnd hlo fuel _ a w hh) h2
    ·exact absurd h2.2 hlo
   ·rw [if_neg hw] at h2 ⊢
    exact ⟨fun _ _ => trivial, any_round hnd hlo fuel _ _ w h2⟩
theorem region_round {P : Program} {ops : Array Oper} {Q : Exit → Act → World → Prop} {S : World → Prop} {l n id : Nat} {a : Act} {w : World} (hm : P.follows .mixedOrders = true) (hnd : noDefer ops = true) (hlo : ¬ LetsOut Q) (hS : S w.drew)
  (h : S w.drew → wpAnyH P .any ops Q S ops.size (Array.replicate ops.size false) a w.drew) : (Code.region id ops true).wpIn (Fence.wide.inRound l) n P Q a w :=
 wpIn_region_any hm (any_round hnd hlo _ _ _ _ (wpAny_of_held _ _ _ _ (h hS)))
end Go.Proofs.YtmpcmllfgogegaaGreat
