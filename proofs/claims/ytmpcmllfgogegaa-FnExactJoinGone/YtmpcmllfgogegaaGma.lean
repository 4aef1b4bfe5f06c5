/- Numbers in a map, each under itself: its entries as they lie, a number put in, asked for. -/
import Derived.Test.YtmpcmllfgogegaaLmw
import Derived.Test.YtmpcmllfgogegaaMh
import Derived.Maps.RangeWalk
namespace Go.Proofs.Ytmpcmllfgogegaa
open Go.RowKit Go.ChangeMaps

/-- A number of the map, and when it came in. -/
abbrev Ei := Int × Nat
def enti (e : Ei) : MapEntry := { key := .int .i64 e.1, val := .int .i64 e.1, born := e.2 }

theorem find_noi (g : Int) (E : List Ei) (n : Nat) (h : ∀ e ∈ E, e.1 ≠ g) : Instr.findNow (.int .i64) (.int .i64 g) (E.map enti) n = some none := by
  induction E generalizing n with
  | nil => rfl
  | cons e E ih =>
    have h1 : (g == e.1) = false := by
      rw [beq_eq_false_iff_ne]; exact fun x => h e (by simp) x.symm
    simp only [List.map_cons, Instr.findNow, enti, Instr.sameNow, if_true, h1]
    exact ih (n + 1) (fun x hx => h x (by simp [hx]))
theorem find_yesi (g : Int) (E1 : List Ei) (e : Ei) (E2 : List Ei) (n : Nat) (h : ∀ x ∈ E1, x.1 ≠ g) (he : e.1 = g) : Instr.findNow (.int .i64) (.int .i64 g) ((E1 ++ e :: E2).map enti) n = some (some (n + E1.length, .int .i64 e.1)) := by
  induction E1 generalizing n with
  | nil =>
    have h1 : (g == e.1) = true := by rw [beq_iff_eq]; exact he.symm
    simp only [List.nil_append, List.map_cons, Instr.findNow, enti, Instr.sameNow, if_true, h1, List.length_nil, Nat.add_zero]
  | cons x E1 ih =>
    have h1 : (g == x.1) = false := by
      rw [beq_eq_false_iff_ne]; exact fun y => h x (by simp) y.symm
    simp only [List.cons_append, List.map_cons, Instr.findNow, enti, Instr.sameNow, if_true, h1]
    have := ih (n + 1) (fun y hy => h y (by simp [hy]))
    simp only [List.map_append, List.map_cons] at this ⊢
    rw [show n + (x :: E1).length = n + 1 + E1.length by simp only [List.length_cons]; omega]
    exact this
theorem run_checki (g : Int) (em : Bool) (W : World) : (Instr.checkKey em 10000 3 (.int .i64 g)).run Try.prog W = .ok () W := by
  exact MapKept.run_checkKey Try.underlying3 (by first | exact ⟨_, rfl⟩ | trivial | constructor | simp [MapKept.IsKey]) em 9999
theorem run_findi {g : Int} {es : List MapEntry} {r : Option (Nat × Value)} (W : World) (h : Instr.findNow (.int .i64) (.int .i64 g) es 0 = some r) : (Instr.findKey 3 (.int .i64 g) es).run Try.prog W = .ok r W := by
  simp [Instr.findKey, run_underlying Try.underlying3, Result.andThen, h]
theorem modify_ati (A : List MapEntry) (x : MapEntry) (C : List MapEntry) (f : MapEntry → MapEntry) : (A ++ x :: C).modify A.length f = A ++ f x :: C := by
  induction A with
  | nil => rfl
  | cons a A ih => simpa using ih

theorem run_put_newi {W : World} {b c : Nat} {E : List Ei} (hb : W.heap[b]? = some (.map (E.map enti).toArray c)) (x : Int) (h : ∀ e ∈ E, e.1 ≠ x) :
    (Instr.mapUpdate 33 (.map (some b)) (.int .i64 x) (.int .i64 x)).run Try.prog W = .ok () (setBlock W b (.map ((E ++ [(x, c)]).map enti).toArray (c + 1))) := by
  have hf := run_findi W (find_noi x E 0 h)
  simp [Instr.mapUpdate, run_underlying Try.underlying33, MapKept.run_getObj_map hb, run_checki, hf, MapKept.run_setObj_map _ hb, Result.andThen, setBlock]
  rfl
theorem run_put_oldi {W : World} {b c : Nat} {E1 : List Ei} {e : Ei} {E2 : List Ei} (hb : W.heap[b]? = some (.map ((E1 ++ e :: E2).map enti).toArray c)) (x : Int) (h : ∀ y ∈ E1, y.1 ≠ x) (he : e.1 = x) :
    (Instr.mapUpdate 33 (.map (some b)) (.int .i64 x) (.int .i64 x)).run Try.prog W = .ok () (setBlock W b (.map ((E1 ++ e :: E2).map enti).toArray c)) := by
  have hf := run_findi W (find_yesi x E1 e E2 0 h he)
  rw [Nat.zero_add] at hf
  have hi : ((E1 ++ e :: E2).map enti).toArray[E1.length]? = some (enti e) := by simp
  have hm : ((E1 ++ e :: E2).map enti).toArray.modify E1.length (fun e' => { e' with key := .int .i64 x, val := .int .i64 x }) = ((E1 ++ e :: E2).map enti).toArray := by
    apply Array.ext'
    rw [Array.toList_modify]
    simp only [List.map_append, List.map_cons]
    have := modify_ati (E1.map enti) (enti e) (E2.map enti) (fun e' => { e' with key := .int .i64 x, val := .int .i64 x })
    rw [List.length_map] at this
    rw [this]
    obtain ⟨e1, e2⟩ := e
    dsimp only at he
    subst he
    rfl
  have hk : ∀ W, (Instr.keyThatStays (.int .i64 e.1) (.int .i64 x)).run Try.prog W = .ok (.int .i64 x) W := fun W => by
    simp [Instr.keyThatStays, Instr.sameBits, he]
  have hi' : (((((E1 ++ e :: E2).map enti).toArray[E1.length]?).map (·.key)).getD (.int .i64 x)) = .int .i64 e.1 := by rw [hi]; rfl
  simp only [Instr.mapUpdate, run_underlying Try.underlying33, MapKept.run_getObj_map hb, run_checki, hf, Result.andThen, Sem.run_bind, hi', hk, hm]
  rw [MapKept.run_setObj_map _ hb]
  rfl

/-- The map of block b holds the numbers of E. -/
structure OwGm (W : World) (B b : Nat) (E : List Ei) (c : Nat) : Prop where
  lies : W.heap[b]? = some (.map (E.map enti).toArray c)
  base : B ≤ b
  old : ∀ e ∈ E, e.2 < c
  births : (E.map (·.2)).Nodup
  keys : (E.map (·.1)).Nodup

theorem OwGm.later {W W' : World} {B b c : Nat} {E : List Ei} (h : OwGm W B b E c) (hb : Below W.heap.size W W') : OwGm W' B b E c :=
  ⟨(hb.block b (Array.getElem?_eq_some_iff.1 h.lies).1).trans h.lies, h.base, h.old, h.births, h.keys⟩
theorem OwGm.lt {W : World} {B b c : Nat} {E : List Ei} (h : OwGm W B b E c) : b < W.heap.size := (Array.getElem?_eq_some_iff.1 h.lies).1
theorem OwGm.same {W W' : World} {B b c : Nat} {E : List Ei} (h : OwGm W B b E c) (hb : W'.heap[b]? = W.heap[b]?) : OwGm W' B b E c :=
  ⟨hb.trans h.lies, h.base, h.old, h.births, h.keys⟩
theorem setBlock_growni {W : World} {b : Nat} {es : Array MapEntry} {c : Nat} (hb : W.heap[b]? = some (.map es c)) (o : Obj) : W.grownBy (setBlock W b o) (some b) :=
  ⟨rfl, rfl, rfl, by simp [setBlock], fun i _ hi => heap_setBlock_other hb _ (fun e => hi (by rw [e]))⟩
theorem split_keyi {E : List Ei} {g : Int} (h : ¬ ∀ e ∈ E, e.1 ≠ g) : ∃ E1 e E2, E = E1 ++ e :: E2 ∧ (∀ x ∈ E1, x.1 ≠ g) ∧ e.1 = g := by
  induction E with
  | nil => exact absurd (fun e he => by cases he) h
  | cons x E ih =>
    by_cases hx : x.1 = g
    · exact ⟨[], x, E, rfl, (fun y hy => by cases hy), hx⟩
    · obtain ⟨E1, e, E2, h1, h2, h3⟩ := ih (fun hh => h (fun e he => by
        rcases List.mem_cons.1 he with rfl | he
        · exact hx
        · exact hh e he))
      refine ⟨x :: E1, e, E2, by rw [h1]; rfl, fun y hy => ?_, h3⟩
      rcases List.mem_cons.1 hy with rfl | hy
      · exact hx
      · exact h2 y hy

/-- A number put into the map. -/
theorem OwGm.put {W : World} {B b c : Nat} {E : List Ei} (h : OwGm W B b E c) (x : Int) :
    ∃ W' E' c', (Instr.mapUpdate 33 (.map (some b)) (.int .i64 x) (.int .i64 x)).run Try.prog W = .ok () W' ∧ OwGm W' B b E' c' ∧ (∀ y, y ∈ E'.map (·.1) ↔ y = x ∨ y ∈ E.map (·.1)) ∧ E'.length ≤ E.length + 1 ∧ W.grownBy W' (some b) := by
  by_cases hn : ∀ e ∈ E, e.1 ≠ x
  · refine ⟨_, E ++ [(x, c)], c + 1, run_put_newi h.lies x hn, ⟨heap_setBlock_same h.lies _, h.base, ?_, ?_, ?_⟩, ?_, by simp, setBlock_growni h.lies _⟩
    · intro e he
      rcases List.mem_append.1 he with he | he
      · have := h.old e he; omega
      · simp at he; subst he; simp
    · rw [List.map_append, List.nodup_append]
      refine ⟨h.births, by simp, ?_⟩
      intro x hx y hy
      simp at hy
      subst hy
      obtain ⟨e, he, rfl⟩ := List.mem_map.1 hx
      have := h.old e he
      omega
    · rw [List.map_append, List.nodup_append]
      refine ⟨h.keys, by simp, ?_⟩
      intro x hx y hy
      simp at hy
      subst hy
      obtain ⟨e, he, rfl⟩ := List.mem_map.1 hx
      exact hn e he
    · intro y
      rw [List.map_append, List.mem_append, Or.comm]
      simp
  · obtain ⟨E1, e0, E2, rfl, h1, h2⟩ := split_keyi hn
    refine ⟨_, E1 ++ e0 :: E2, c, run_put_oldi h.lies x h1 h2, ⟨heap_setBlock_same h.lies _, h.base, h.old, h.births, h.keys⟩, ?_, by omega, setBlock_growni h.lies _⟩
    intro y
    constructor
    · exact Or.inr
    · rintro (rfl | hy)
      · exact List.mem_map.2 ⟨e0, by simp, h2⟩
      · exact hy
theorem OwGm.made (W : World) : OwGm (W.alloc (.map #[] 0)) W.heap.size W.heap.size [] 0 :=
  ⟨heap_alloc_new W _, Nat.le_refl _, by simp, by simp, by simp⟩

/-- A number asked for. -/
theorem OwGm.ask {W : World} {B b c : Nat} {E : List Ei} (h : OwGm W B b E c) (x : Int) :
    ((∀ e ∈ E, e.1 ≠ x) ∧ (Instr.lookup 33 (.map (some b)) (.int .i64 x) true).run Try.prog W = .ok (.tuple #[.int .i64 0, .bool false]) W) ∨ (x ∈ E.map (·.1) ∧ (Instr.lookup 33 (.map (some b)) (.int .i64 x) true).run Try.prog W = .ok (.tuple #[.int .i64 x, .bool true]) W) := by
  by_cases hn : ∀ e ∈ E, e.1 ≠ x
  · refine Or.inl ⟨hn, ?_⟩
    have hf := run_findi W (find_noi x E 0 hn)
    have hz := Try.zeroValue3 W
    simp only [Instr.lookup, Sem.run_bind, run_underlying Try.underlying33, Result.andThen, MapKept.run_getObj_map h.lies, Sem.run_pure, run_checki, hf, hz]
    rfl
  · obtain ⟨E1, e0, E2, rfl, h1, h2⟩ := split_keyi hn
    refine Or.inr ⟨List.mem_map.2 ⟨e0, by simp, h2⟩, ?_⟩
    have hf := run_findi W (find_yesi x E1 e0 E2 0 h1 h2)
    rw [h2] at hf
    simp only [Instr.lookup, Sem.run_bind, run_underlying Try.underlying33, Result.andThen, MapKept.run_getObj_map h.lies, Sem.run_pure, run_checki, hf]
    rfl

theorem make_gm (n : Nat) (W : World) : (Instr.makeMap 33 (some (.int .i64 (n : Int)))).run Try.prog W = .ok (.map (some W.heap.size)) (W.alloc (.map #[] 0)) := by
  simp only [Instr.makeMap, Sem.run_bind, run_underlying Try.underlying33, Result.andThen]
  rfl
theorem run_range_gm {W : World} {b c : Nat} {es : Array MapEntry} (hb : W.heap[b]? = some (.map es c)) : (Instr.range 33 (.map (some b))).run Try.prog W = .ok (.pointer (some ⟨W.heap.size, 0, none⟩)) (W.alloc (.mapIter (some b) c #[] c)) := by
  simp only [Instr.range, Sem.run_bind, run_underlying Try.underlying33, Result.andThen, MapKept.run_getObj_map hb]
  rfl
end Go.Proofs.Ytmpcmllfgogegaa
