/- BoxS, Shelf, ShelfOf, BoxP, in one text. -/
import Derived.Test.YtmpcmllfgogegaaMg
import Derived.Maps.RangeWalk
namespace Go.Proofs.Ytmpcmllfgogegaa
open Go.RowKit

end Go.Proofs.Ytmpcmllfgogegaa

namespace Go.Proofs.Ytmpcmllfgogegaa
open Go.RowKit Go.ChangeMaps

/-- A mail of the map: as it lies, and when it came in. -/
abbrev En := Z5 × Nat
def zv (z : Z5) : Value := .agg #[.int .i64 z.1, .int .i64 z.2.1, z.2.2.1, .string z.2.2.2.2]
def ent (e : En) : MapEntry := { key := .int .i64 e.1.1, val := zv e.1, born := e.2 }
def mde (e : En) : M4 := md e.1

theorem find_no (g : Int) (E : List En) (n : Nat) (h : ∀ e ∈ E, e.1.1 ≠ g) : Instr.findNow (.int .i64) (.int .i64 g) (E.map ent) n = some none := by
  induction E generalizing n with
  | nil => rfl
  | cons e E ih =>
    have h1 : (g == e.1.1) = false := by
      rw [beq_eq_false_iff_ne]; exact fun x => h e (by simp) x.symm
    simp only [List.map_cons, Instr.findNow, ent, Instr.sameNow, if_true, h1]
    exact ih (n + 1) (fun x hx => h x (by simp [hx]))
theorem find_yes (g : Int) (E1 : List En) (e : En) (E2 : List En) (n : Nat) (h : ∀ x ∈ E1, x.1.1 ≠ g) (he : e.1.1 = g) : Instr.findNow (.int .i64) (.int .i64 g) ((E1 ++ e :: E2).map ent) n = some (some (n + E1.length, zv e.1)) := by
  induction E1 generalizing n with
  | nil =>
    have h1 : (g == e.1.1) = true := by rw [beq_iff_eq]; exact he.symm
    simp only [List.nil_append, List.map_cons, Instr.findNow, ent, Instr.sameNow, if_true, h1, List.length_nil, Nat.add_zero]
  | cons x E1 ih =>
    have h1 : (g == x.1.1) = false := by
      rw [beq_eq_false_iff_ne]; exact fun y => h x (by simp) y.symm
    simp only [List.cons_append, List.map_cons, Instr.findNow, ent, Instr.sameNow, if_true, h1]
    have := ih (n + 1) (fun y hy => h y (by simp [hy]))
    simp only [List.map_append, List.map_cons] at this ⊢
    rw [show n + (x :: E1).length = n + 1 + E1.length by simp only [List.length_cons]; omega]
    exact this

theorem run_check (g : Int) (em : Bool) (W : World) : (Instr.checkKey em 10000 3 (.int .i64 g)).run Try.prog W = .ok () W := by
  exact MapKept.run_checkKey Try.underlying3 (by first | exact ⟨_, rfl⟩ | trivial | constructor | simp [MapKept.IsKey]) em 9999
theorem run_find {g : Int} {es : List MapEntry} {r : Option (Nat × Value)} (W : World) (h : Instr.findNow (.int .i64) (.int .i64 g) es 0 = some r) : (Instr.findKey 3 (.int .i64 g) es).run Try.prog W = .ok r W := by
  simp [Instr.findKey, run_underlying Try.underlying3, Result.andThen, h]

theorem modify_at (A : List MapEntry) (x : MapEntry) (C : List MapEntry) (f : MapEntry → MapEntry) : (A ++ x :: C).modify A.length f = A ++ f x :: C := by
  induction A with
  | nil => rfl
  | cons a A ih => simpa using ih

/-- What is put into a list of mails by its Gid. -/
def pt (S : List M4) (m : M4) : List M4 := if S.any (fun x => decide (x.1 = m.1)) = true then S.map (fun x => if x.1 = m.1 then m else x) else S ++ [m]
def shl (L : List M4) : List M4 := L.foldl pt []

theorem pt_new {S : List M4} {m : M4} (h : ∀ x ∈ S, x.1 ≠ m.1) : pt S m = S ++ [m] := by
  unfold pt
  rw [if_neg]
  simp only [List.any_eq_true, decide_eq_true_eq, not_exists, not_and]
  exact h
theorem pt_old {S1 : List M4} {x : M4} {S2 : List M4} {m : M4} (h1 : ∀ y ∈ S1, y.1 ≠ m.1) (h2 : ∀ y ∈ S2, y.1 ≠ m.1) (hx : x.1 = m.1) : pt (S1 ++ x :: S2) m = S1 ++ m :: S2 := by
  unfold pt
  rw [if_pos (by simp [hx])]
  rw [List.map_append, List.map_cons, if_pos hx]
  congr 1
  · exact (List.map_congr_left (fun y hy => if_neg (h1 y hy))).trans (List.map_id _)
  · congr 1
    exact (List.map_congr_left (fun y hy => if_neg (h2 y hy))).trans (List.map_id _)

theorem setBlock_grown {W : World} {b : Nat} {es : Array MapEntry} {c : Nat} (hb : W.heap[b]? = some (.map es c)) (o : Obj) : W.grownBy (setBlock W b o) (some b) :=
  ⟨rfl, rfl, rfl, by simp [setBlock], fun i _ hi => heap_setBlock_other hb _ (fun e => hi (by rw [e]))⟩

theorem split_key {E : List En} {g : Int} (h : ¬ ∀ e ∈ E, e.1.1 ≠ g) : ∃ E1 e E2, E = E1 ++ e :: E2 ∧ (∀ x ∈ E1, x.1.1 ≠ g) ∧ e.1.1 = g := by
  induction E with
  | nil => exact absurd (fun e he => by cases he) h
  | cons x E ih =>
    by_cases hx : x.1.1 = g
    · exact ⟨[], x, E, rfl, (fun y hy => by cases hy), hx⟩
    · obtain ⟨E1, e, E2, h1, h2, h3⟩ := ih (fun hh => h (fun e he => by
        rcases List.mem_cons.1 he with rfl | he
        · exact hx
        · exact hh e he))
      refine ⟨x :: E1, e, E2, by rw [h1]; rfl, fun y hy => ?_, h3⟩
      rcases List.mem_cons.1 hy with rfl | hy
      · exact hx
      · exact h2 y hy

end Go.Proofs.Ytmpcmllfgogegaa

namespace Go.Proofs.Ytmpcmllfgogegaa
open Go.RowKit Go.ChangeMaps

theorem shl_take {L : List M4} {i : Nat} (h : i < L.length) : shl (L.take (i + 1)) = pt (shl (L.take i)) L[i] := by
  unfold shl
  rw [List.take_succ_eq_append_getElem h, List.foldl_append]
  rfl
end Go.Proofs.Ytmpcmllfgogegaa

namespace Go.Proofs.Ytmpcmllfgogegaa
open Go.RowKit Go.ChangeMaps

def us (L : List M4) (i : Nat) : Int := lst 0 ((L.take i).map (fun m => m.2.1))
def stp (nx : Int) (G : List Int) (L : List M4) (i : Nat) : Bool :=
  match L[i]? with
  | none => true
  | some m => mlOk m.1 m.2.1 m.2.2.1 m.2.2.2 && (decide (m.2.1 < nx) && (decide (us L i < m.2.1) && !inl m.1 G))
def uq (L : List M4) : Bool := decide ((L.map (fun m => m.1)).Nodup)
def alr (nx : Int) (G : List Int) (L : List M4) : Bool := (List.range L.length).all (stp nx G L)
def bxm (nx : Int) (G : List Int) (L : List M4) : Bool := alr nx G L && uq L
def bxOk (g : Int) (nm : ByteArray) (t b nx : Int) (L : List M4) (G : List Int) : Bool :=
  gok g && (nmOk nm && (stOk t b && ((decide (1 ≤ nx) && decide (nx ≤ 10000)) && (decide ((L.length : Int) ≤ 10) && (gnOk G && bxm nx G L)))))

theorem us_zero (L : List M4) : us L 0 = 0 := rfl
theorem us_succ {L : List M4} {i : Nat} (h : i < L.length) : us L (i + 1) = L[i].2.1 := by
  unfold us
  rw [List.map_take]
  have := lst_take (G := L.map (fun m => m.2.1)) (i := i) (by simpa using h)
  rw [this, List.getElem_map]
theorem stp_at {nx : Int} {G : List Int} {L : List M4} {i : Nat} (h : i < L.length) {g u : Int} {l : List R3} {t : ByteArray} (hp : L[i] = (g, u, l, t)) :
    stp nx G L i = (mlOk g u l t && (decide (u < nx) && (decide (us L i < u) && !inl g G))) := by
  unfold stp
  rw [List.getElem?_eq_getElem h, hp]
theorem alr_bad {nx : Int} {G : List Int} {L : List M4} {i : Nat} (h : i < L.length) (hs : stp nx G L i = false) : alr nx G L = false := by
  unfold alr
  rw [List.all_eq_false]
  exact ⟨i, List.mem_range.2 h, by simp [hs]⟩
theorem bxm_bad {nx : Int} {G : List Int} {L : List M4} {i : Nat} (h : i < L.length) (hs : stp nx G L i = false) : bxm nx G L = false := by
  unfold bxm
  rw [alr_bad h hs, Bool.false_and]
theorem alr_all {nx : Int} {G : List Int} {L : List M4} (h : ∀ i, i < L.length → stp nx G L i = true) : alr nx G L = true := by
  unfold alr
  rw [List.all_eq_true]
  exact fun i hi => h i (List.mem_range.1 hi)
theorem mlOk_pos {g u : Int} {l : List R3} {t : ByteArray} (h : mlOk g u l t = true) : 0 < u := by
  simp only [mlOk, Bool.and_eq_true] at h
  exact gok_pos h.2.1

theorem mat_split {g : Int} (A : List M4) (m : M4) (C : List M4) (k : Nat) (h : ∀ x ∈ A, x.1 ≠ g) (hm : m.1 = g) : mat g (A ++ m :: C) k = ((k + A.length : Nat) : Int) := by
  induction A generalizing k with
  | nil => simp [mat, hm]
  | cons x A ih =>
    rw [List.cons_append, mat, if_neg (h x (by simp)), ih (k + 1) (fun y hy => h y (by simp [hy]))]
    simp only [List.length_cons]
    congr 1
    omega
theorem mat_none {g : Int} (L : List M4) (k : Nat) (h : ∀ x ∈ L, x.1 ≠ g) : mat g L k = -1 := by
  induction L generalizing k with
  | nil => rfl
  | cons x L ih => rw [mat, if_neg (h x (by simp))]; exact ih _ (fun y hy => h y (by simp [hy]))
theorem mat_uniq {L : List M4} (h : uq L = true) {i : Nat} (hi : i < L.length) : mat L[i].1 L 0 = (i : Int) := by
  have hn : (L.map (fun m => m.1)).Nodup := of_decide_eq_true h
  have e : L = L.take i ++ L[i] :: L.drop (i + 1) := by rw [← List.drop_eq_getElem_cons hi, List.take_append_drop]
  have h1 : ∀ x ∈ L.take i, x.1 ≠ L[i].1 := by
    intro x hx ex
    rw [e, List.map_append, List.map_cons, List.nodup_append] at hn
    exact hn.2.2 x.1 (List.mem_map.2 ⟨x, hx, rfl⟩) L[i].1 (by simp) ex
  have := mat_split (g := L[i].1) (L.take i) L[i] (L.drop (i + 1)) 0 h1 rfl
  rw [← e] at this
  rw [this]
  congr 1
  simp
  omega
theorem uq_bad {L : List M4} {i : Nat} (hi : i < L.length) (h : ¬ mat L[i].1 L 0 = (i : Int)) : uq L = false := by
  cases hu : uq L with
  | false => rfl
  | true => exact absurd (mat_uniq hu hi) h
theorem uq_all {L : List M4} (h : ∀ i (hi : i < L.length), mat L[i].1 L 0 = (i : Int)) : uq L = true := by
  unfold uq
  rw [decide_eq_true_eq]
  refine List.pairwise_iff_getElem.2 ?_
  intro i j hi hj hij e
  simp only [List.length_map] at hi hj
  simp only [List.getElem_map] at e
  have h1 := h i hi
  have h2 := h j hj
  rw [e, h2] at h1
  omega

/-! The shelf's size. -/
theorem pt_keys {S : List M4} {m : M4} (h : m.1 ∈ S.map (fun x => x.1)) : (pt S m).map (fun x => x.1) = S.map (fun x => x.1) := by
  obtain ⟨x, hx, e⟩ := List.mem_map.1 h
  unfold pt
  rw [if_pos (List.any_eq_true.2 ⟨x, hx, by simpa using e⟩), List.map_map]
  apply List.map_congr_left
  intro y _
  simp only [Function.comp]
  by_cases hy : y.1 = m.1
  · rw [if_pos hy, hy]
  · rw [if_neg hy]
theorem fold_len (L : List M4) : ∀ S : List M4, (S.map (fun x => x.1)).Nodup → (L.foldl pt S).length ≤ S.length + L.length ∧ ((L.foldl pt S).length = S.length + L.length ↔ ((S ++ L).map (fun x => x.1)).Nodup) ∧ (((S ++ L).map (fun x => x.1)).Nodup → L.foldl pt S = S ++ L) := by
  induction L with
  | nil => intro S hS; simp only [List.foldl_nil, List.append_nil, List.length_nil, Nat.add_zero, Nat.le_refl, true_and]; exact ⟨⟨fun _ => hS, fun _ => trivial⟩, fun _ => trivial⟩
  | cons m L ih =>
    intro S hS
    rw [List.foldl_cons]
    by_cases hm : m.1 ∈ S.map (fun x => x.1)
    · have hk := pt_keys hm
      have hl : (pt S m).length = S.length := by simpa using congrArg List.length hk
      have h1 := ih (pt S m) (by rw [hk]; exact hS)
      have hno : ¬ ((S ++ m :: L).map (fun x => x.1)).Nodup := by
        intro hh
        rw [List.map_append, List.map_cons, List.nodup_append] at hh
        exact hh.2.2 m.1 hm m.1 (by simp) rfl
      rw [hl] at h1
      simp only [List.length_cons]
      exact ⟨by omega, ⟨fun e => by omega, fun hh => absurd hh hno⟩, fun hh => absurd hh hno⟩
    · have hp : pt S m = S ++ [m] := pt_new (fun x hx e => hm (List.mem_map.2 ⟨x, hx, e⟩))
      have h1 := ih (S ++ [m]) (by
        rw [List.map_append, List.nodup_append]
        refine ⟨hS, by simp, ?_⟩
        intro x hx y hy
        simp at hy
        subst hy
        exact fun e => hm (e ▸ hx))
      rw [hp]
      rw [List.append_assoc] at h1
      simp only [List.length_append, List.length_cons, List.length_nil, List.cons_append, List.nil_append] at h1 ⊢
      exact ⟨by omega, by rw [← h1.2.1]; omega, h1.2.2⟩
theorem shl_len (L : List M4) : decide (((shl L).length : Int) = (L.length : Int)) = uq L := by
  have h := (fold_len L [] (by simp)).2.1
  simp only [List.length_nil, Nat.zero_add, List.nil_append] at h
  unfold uq shl
  rw [decide_eq_decide, ← h]
  omega
theorem shl_uniq {L : List M4} (h : uq L = true) : shl L = L := by
  have := (fold_len L [] (by simp)).2.2 (by simpa using of_decide_eq_true h)
  simpa [shl] using this
theorem shl_le (L : List M4) : (shl L).length ≤ L.length := by
  have := (fold_len L [] (by simp)).1
  simpa [shl] using this

/-! The parts in letters. -/
end Go.Proofs.Ytmpcmllfgogegaa

