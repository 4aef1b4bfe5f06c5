/- Mails by their Gids in a map: its entries as they lie, a mail put in, asked for, struck. -/
import Derived.Test.YtfmacodnjhegcamGreatBoxS
import Derived.Maps.RangeWalk
namespace Go.Proofs.YtfmacodnjhegcamGreat
open Go.RowKit Go.ChangeMaps

/-- A mail of the map: as it lies, and when it came in. -/
abbrev En := Z5 × Nat
def zv (z : Z5) : Value := .agg #[.int .i64 z.1, .int .i64 z.2.1, z.2.2.1, .string z.2.2.2.2]
def ent (e : En) : MapEntry := { key := .int .i64 e.1.1, val := zv e.1, born := e.2 }
def mde (e : En) : M4 := md e.1

theorem find_no (g : Int) (E : List En) (n : Nat) (h : ∀ e ∈ E, e.1.1 ≠ g) : Instr.findNow (.int .i64) (.int .i64 g) (E.map ent) n = some none := by
  induction E generalizing n with
  | nil => rfl
  | cons e E ih =>
    have h1 : (g == e.1.1) = false := by
      rw [beq_eq_false_iff_ne]; exact fun x => h e (by simp) x.symm
    simp only [List.map_cons, Instr.findNow, ent, Instr.sameNow, if_true, h1]
    exact ih (n + 1) (fun x hx => h x (by simp [hx]))
theorem find_yes (g : Int) (E1 : List En) (e : En) (E2 : List En) (n : Nat) (h : ∀ x ∈ E1, x.1.1 ≠ g) (he : e.1.1 = g) : Instr.findNow (.int .i64) (.int .i64 g) ((E1 ++ e :: E2).map ent) n = some (some (n + E1.length, zv e.1)) := by
  induction E1 generalizing n with
  | nil =>
    have h1 : (g == e.1.1) = true := by rw [beq_iff_eq]; exact he.symm
    simp only [List.nil_append, List.map_cons, Instr.findNow, ent, Instr.sameNow, if_true, h1, List.length_nil, Nat.add_zero]
  | cons x E1 ih =>
    have h1 : (g == x.1.1) = false := by
      rw [beq_eq_false_iff_ne]; exact fun y => h x (by simp) y.symm
    simp only [List.cons_append, List.map_cons, Instr.findNow, ent, Instr.sameNow, if_true, h1]
    have := ih (n + 1) (fun y hy => h y (by simp [hy]))
    simp only [List.map_append, List.map_cons] at this ⊢
    rw [show n + (x :: E1).length = n + 1 + E1.length by simp only [List.length_cons]; omega]
    exact this

theorem run_check (g : Int) (em : Bool) (W : World) : (Instr.checkKey em 10000 3 (.int .i64 g)).run Tryz.prog W = .ok () W := by
  exact MapKept.run_checkKey Tryz.underlying3 (by first | exact ⟨_, rfl⟩ | trivial | constructor | simp [MapKept.IsKey]) em 9999
theorem run_find {g : Int} {es : List MapEntry} {r : Option (Nat × Value)} (W : World) (h : Instr.findNow (.int .i64) (.int .i64 g) es 0 = some r) : (Instr.findKey 3 (.int .i64 g) es).run Tryz.prog W = .ok r W := by
  simp [Instr.findKey, run_underlying Tryz.underlying3, Result.andThen, h]

theorem modify_at (A : List MapEntry) (x : MapEntry) (C : List MapEntry) (f : MapEntry → MapEntry) : (A ++ x :: C).modify A.length f = A ++ f x :: C := by
  induction A with
  | nil => rfl
  | cons a A ih => simpa using ih

theorem run_put_new {W : World} {b c : Nat} {E : List En} (hb : W.heap[b]? = some (.map (E.map ent).toArray c)) (z : Z5) (h : ∀ e ∈ E, e.1.1 ≠ z.1) :
    (Instr.mapUpdate 55 (.map (some b)) (.int .i64 z.1) (zv z)).run Tryz.prog W = .ok () (setBlock W b (.map ((E ++ [(z, c)]).map ent).toArray (c + 1))) := by
  have hf := run_find W (find_no z.1 E 0 h)
  simp [Instr.mapUpdate, run_underlying Tryz.underlying55, MapKept.run_getObj_map hb, run_check, hf, MapKept.run_setObj_map _ hb, Result.andThen, setBlock]
  rfl
theorem run_put_old {W : World} {b c : Nat} {E1 : List En} {e : En} {E2 : List En} (hb : W.heap[b]? = some (.map ((E1 ++ e :: E2).map ent).toArray c)) (z : Z5) (h : ∀ x ∈ E1, x.1.1 ≠ z.1) (he : e.1.1 = z.1) :
    (Instr.mapUpdate 55 (.map (some b)) (.int .i64 z.1) (zv z)).run Tryz.prog W = .ok () (setBlock W b (.map ((E1 ++ (z, e.2) :: E2).map ent).toArray c)) := by
  have hf := run_find W (find_yes z.1 E1 e E2 0 h he)
  rw [Nat.zero_add] at hf
  have hi : ((E1 ++ e :: E2).map ent).toArray[E1.length]? = some (ent e) := by simp
  have hm : ((E1 ++ e :: E2).map ent).toArray.modify E1.length (fun e' => { e' with key := .int .i64 z.1, val := zv z }) = ((E1 ++ (z, e.2) :: E2).map ent).toArray := by
    apply Array.ext'
    rw [Array.toList_modify]
    simp only [List.map_append, List.map_cons]
    have := modify_at (E1.map ent) (ent e) (E2.map ent) (fun e' => { e' with key := .int .i64 z.1, val := zv z })
    rw [List.length_map] at this
    rw [this]
    rfl
  have hk : ∀ W, (Instr.keyThatStays (.int .i64 e.1.1) (.int .i64 z.1)).run Tryz.prog W = .ok (.int .i64 z.1) W := fun W => by
    simp [Instr.keyThatStays, Instr.sameBits, he]
  have hi' : (((((E1 ++ e :: E2).map ent).toArray[E1.length]?).map (·.key)).getD (.int .i64 z.1)) = .int .i64 e.1.1 := by rw [hi]; rfl
  simp only [Instr.mapUpdate, run_underlying Tryz.underlying55, MapKept.run_getObj_map hb, run_check, hf, Result.andThen, Sem.run_bind, hi', hk, hm]
  rw [MapKept.run_setObj_map _ hb]
  rfl

/-- What is put into a list of mails by its Gid. -/
def pt (S : List M4) (m : M4) : List M4 := if S.any (fun x => decide (x.1 = m.1)) = true then S.map (fun x => if x.1 = m.1 then m else x) else S ++ [m]
def shl (L : List M4) : List M4 := L.foldl pt []

theorem pt_new {S : List M4} {m : M4} (h : ∀ x ∈ S, x.1 ≠ m.1) : pt S m = S ++ [m] := by
  unfold pt
  rw [if_neg]
  simp only [List.any_eq_true, decide_eq_true_eq, not_exists, not_and]
  exact h
theorem pt_old {S1 : List M4} {x : M4} {S2 : List M4} {m : M4} (h1 : ∀ y ∈ S1, y.1 ≠ m.1) (h2 : ∀ y ∈ S2, y.1 ≠ m.1) (hx : x.1 = m.1) : pt (S1 ++ x :: S2) m = S1 ++ m :: S2 := by
  unfold pt
  rw [if_pos (by simp [hx])]
  rw [List.map_append, List.map_cons, if_pos hx]
  congr 1
  · exact (List.map_congr_left (fun y hy => if_neg (h1 y hy))).trans (List.map_id _)
  · congr 1
    exact (List.map_congr_left (fun y hy => if_neg (h2 y hy))).trans (List.map_id _)

/-- The map of block b holds the mails of E; their flags lie in rows that the call owns. -/
structure OwMp (W : World) (B b : Nat) (E : List En) (c : Nat) : Prop where
  lies : W.heap[b]? = some (.map (E.map ent).toArray c)
  base : B ≤ b
  old : ∀ e ∈ E, e.2 < c
  births : (E.map (·.2)).Nodup
  keys : (E.map (fun e => e.1.1)).Nodup
  each : ∀ e ∈ E, Ow W B e.1.2.2.1 e.1.2.2.2.1
  apart : E.Pairwise fun x y => Dj x.1.2.2.1 y.1.2.2.1

theorem ow_same {W W' : World} {B : Nat} {v : Value} {l : List R3} (h : Ow W B v l) (hk : ∀ j, v.ownBlock = some j → W'.heap[j]? = W.heap[j]?) : Ow W' B v l := by
  refine ⟨h.1, h.2.imp id ?_⟩
  rintro ⟨g, cap, cur, h1, h2, h3, h4⟩
  exact ⟨g, cap, cur, h1, h2, (hk g (by rw [h1]; rfl)).trans h3, h4⟩
theorem OwMp.later {W W' : World} {B b c : Nat} {E : List En} (h : OwMp W B b E c) (hb : Below W.heap.size W W') : OwMp W' B b E c :=
  ⟨(hb.block b (Array.getElem?_eq_some_iff.1 h.lies).1).trans h.lies, h.base, h.old, h.births, h.keys, fun e he => own_later (h.each e he) hb, h.apart⟩
/-- No row is the map's own block. -/
theorem OwMp.off {W : World} {B b c : Nat} {E : List En} (h : OwMp W B b E c) {v : Value} {l : List R3} (ho : Ow W B v l) : v.ownBlock ≠ some b := by
  intro e
  rcases ho.2 with ⟨h1, _⟩ | ⟨g, cap, cur, h1, h2, h3, _⟩
  · rw [h1] at e; simp [Value.ownBlock] at e
  · rw [h1] at e
    simp only [Value.ownBlock, Option.some.injEq] at e
    rw [e, h.lies] at h3
    simp at h3
theorem setBlock_grown {W : World} {b : Nat} {es : Array MapEntry} {c : Nat} (hb : W.heap[b]? = some (.map es c)) (o : Obj) : W.grownBy (setBlock W b o) (some b) :=
  ⟨rfl, rfl, rfl, by simp [setBlock], fun i _ hi => heap_setBlock_other hb _ (fun e => hi (by rw [e]))⟩

theorem split_key {E : List En} {g : Int} (h : ¬ ∀ e ∈ E, e.1.1 ≠ g) : ∃ E1 e E2, E = E1 ++ e :: E2 ∧ (∀ x ∈ E1, x.1.1 ≠ g) ∧ e.1.1 = g := by
  induction E with
  | nil => exact absurd (fun e he => by cases he) h
  | cons x E ih =>
    by_cases hx : x.1.1 = g
    · exact ⟨[], x, E, rfl, (fun y hy => by cases hy), hx⟩
    · obtain ⟨E1, e, E2, h1, h2, h3⟩ := ih (fun hh => h (fun e he => by
        rcases List.mem_cons.1 he with rfl | he
        · exact hx
        · exact hh e he))
      refine ⟨x :: E1, e, E2, by rw [h1]; rfl, fun y hy => ?_, h3⟩
      rcases List.mem_cons.1 hy with rfl | hy
      · exact hx
      · exact h2 y hy

/-- A mail put into the map. -/
theorem OwMp.put {W : World} {B b c : Nat} {E : List En} (h : OwMp W B b E c) (z : Z5) (ho : Ow W B z.2.2.1 z.2.2.2.1) (hd : ∀ e ∈ E, Dj z.2.2.1 e.1.2.2.1) :
    ∃ W' E' c', (Instr.mapUpdate 55 (.map (some b)) (.int .i64 z.1) (zv z)).run Tryz.prog W = .ok () W' ∧ OwMp W' B b E' c' ∧ E'.map mde = pt (E.map mde) (md z) ∧ W.grownBy W' (some b) ∧ (∀ e ∈ E', e.1 = z ∨ e ∈ E) := by
  by_cases hn : ∀ e ∈ E, e.1.1 ≠ z.1
  · refine ⟨_, E ++ [(z, c)], c + 1, run_put_new h.lies z hn, ⟨heap_setBlock_same h.lies _, h.base, ?_, ?_, ?_, ?_, ?_⟩, ?_, setBlock_grown h.lies _, ?_⟩
    · intro e he
      rcases List.mem_append.1 he with he | he
      · have := h.old e he; omega
      · simp at he; subst he; simp
    · rw [List.map_append, List.nodup_append]
      refine ⟨h.births, by simp, ?_⟩
      intro x hx y hy
      simp at hy
      subst hy
      obtain ⟨e, he, rfl⟩ := List.mem_map.1 hx
      have := h.old e he
      omega
    · rw [List.map_append, List.nodup_append]
      refine ⟨h.keys, by simp, ?_⟩
      intro x hx y hy
      simp at hy
      subst hy
      obtain ⟨e, he, rfl⟩ := List.mem_map.1 hx
      exact hn e he
    · intro e he
      have hg := setBlock_grown h.lies (.map ((E ++ [(z, c)]).map ent).toArray (c + 1))
      rcases List.mem_append.1 he with he | he
      · exact World.ownsRow.kept (h.each e he) hg (Or.inr (h.off (h.each e he)))
      · simp at he
        subst he
        exact World.ownsRow.kept ho hg (Or.inr (h.off ho))
    · rw [List.pairwise_append]
      refine ⟨h.apart, by simp, ?_⟩
      intro x hx y hy
      simp at hy
      subst hy
      exact (hd x hx).symm
    · rw [List.map_append, pt_new]
      · rfl
      · intro x hx
        obtain ⟨e, he, rfl⟩ := List.mem_map.1 hx
        exact hn e he
    · intro e he
      rcases List.mem_append.1 he with he | he
      · exact .inr he
      · simp at he; subst he; exact .inl rfl
  · obtain ⟨E1, e0, E2, rfl, h1, h2⟩ := split_key hn
    have hk := h.keys
    rw [List.map_append, List.map_cons, List.nodup_append] at hk
    have h3 : ∀ x ∈ E2, x.1.1 ≠ z.1 := fun x hx ex => by
      have := (List.nodup_cons.1 hk.2.1).1
      exact this (by rw [h2, ← ex]; exact List.mem_map.2 ⟨x, hx, rfl⟩)
    have hap := List.pairwise_append.1 h.apart
    have hap2 := List.pairwise_cons.1 hap.2.1
    have hmem : ∀ e ∈ E1 ++ (z, e0.2) :: E2, e = (z, e0.2) ∨ e ∈ E1 ++ e0 :: E2 := by
      intro e he
      rcases List.mem_append.1 he with he | he
      · exact .inr (by simp [he])
      · rcases List.mem_cons.1 he with he | he
        · exact .inl he
        · exact .inr (by simp [he])
    refine ⟨_, E1 ++ (z, e0.2) :: E2, c, run_put_old h.lies z h1 h2, ⟨heap_setBlock_same h.lies _, h.base, ?_, ?_, ?_, ?_, ?_⟩, ?_, setBlock_grown h.lies _, ?_⟩
    · intro e he
      rcases hmem e he with rfl | he
      · exact h.old e0 (by simp)
      · exact h.old e he
    · have := h.births
      simpa using this
    · have := h.keys
      rw [List.map_append, List.map_cons] at this ⊢
      rwa [h2] at this
    · intro e he
      have hg := setBlock_grown h.lies (.map ((E1 ++ (z, e0.2) :: E2).map ent).toArray c)
      rcases hmem e he with rfl | he
      · exact World.ownsRow.kept ho hg (Or.inr (h.off ho))
      · exact World.ownsRow.kept (h.each e he) hg (Or.inr (h.off (h.each e he)))
    · rw [List.pairwise_append, List.pairwise_cons]
      refine ⟨hap.1, ⟨fun y hy => hd y (by simp [hy]), hap2.2⟩, ?_⟩
      intro x hx y hy
      rcases List.mem_cons.1 hy with rfl | hy
      · exact (hd x (by simp [hx])).symm
      · exact hap.2.2 x hx y (by simp [hy])
    · rw [List.map_append, List.map_cons, List.map_append, List.map_cons, pt_old]
      · rfl
      · intro y hy
        obtain ⟨e, he, rfl⟩ := List.mem_map.1 hy
        exact h1 e he
      · intro y hy
        obtain ⟨e, he, rfl⟩ := List.mem_map.1 hy
        exact h3 e he
      · exact h2
    · intro e he
      rcases hmem e he with rfl | he
      · exact .inl rfl
      · exact .inr he

theorem OwMp.made (W : World) : OwMp (W.alloc (.map #[] 0)) W.heap.size W.heap.size [] 0 :=
  ⟨heap_alloc_new W _, Nat.le_refl _, by simp, by simp, by simp, by simp, by simp⟩
end Go.Proofs.YtfmacodnjhegcamGreat
