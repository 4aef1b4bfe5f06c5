/- What makes a box right, as numbers and lists. -/
import Derived.Test.YtfmacodnjhegcamGreatShelfOf
namespace Go.Proofs.YtfmacodnjhegcamGreat
open Go.RowKit Go.ChangeMaps

def us (L : List M4) (i : Nat) : Int := lst 0 ((L.take i).map (fun m => m.2.1))
def stp (nx : Int) (G : List Int) (L : List M4) (i : Nat) : Bool :=
  match L[i]? with
  | none => true
  | some m => mlOk m.1 m.2.1 m.2.2.1 m.2.2.2 && (decide (m.2.1 < nx) && (decide (us L i < m.2.1) && !inl m.1 G))
def uq (L : List M4) : Bool := decide ((L.map (fun m => m.1)).Nodup)
def alr (nx : Int) (G : List Int) (L : List M4) : Bool := (List.range L.length).all (stp nx G L)
def bxm (nx : Int) (G : List Int) (L : List M4) : Bool := alr nx G L && uq L
def bxOk (g : Int) (nm : ByteArray) (t b nx : Int) (L : List M4) (G : List Int) : Bool :=
  gok g && (nmOk nm && (stOk t b && ((decide (1 ≤ nx) && decide (nx ≤ 10000)) && (decide ((L.length : Int) ≤ 10) && (gnOk G && bxm nx G L)))))

theorem us_zero (L : List M4) : us L 0 = 0 := rfl
theorem us_succ {L : List M4} {i : Nat} (h : i < L.length) : us L (i + 1) = L[i].2.1 := by
  unfold us
  rw [List.map_take]
  have := lst_take (G := L.map (fun m => m.2.1)) (i := i) (by simpa using h)
  rw [this, List.getElem_map]
theorem stp_at {nx : Int} {G : List Int} {L : List M4} {i : Nat} (h : i < L.length) {g u : Int} {l : List R3} {t : ByteArray} (hp : L[i] = (g, u, l, t)) :
    stp nx G L i = (mlOk g u l t && (decide (u < nx) && (decide (us L i < u) && !inl g G))) := by
  unfold stp
  rw [List.getElem?_eq_getElem h, hp]
theorem alr_bad {nx : Int} {G : List Int} {L : List M4} {i : Nat} (h : i < L.length) (hs : stp nx G L i = false) : alr nx G L = false := by
  unfold alr
  rw [List.all_eq_false]
  exact ⟨i, List.mem_range.2 h, by simp [hs]⟩
theorem bxm_bad {nx : Int} {G : List Int} {L : List M4} {i : Nat} (h : i < L.length) (hs : stp nx G L i = false) : bxm nx G L = false := by
  unfold bxm
  rw [alr_bad h hs, Bool.false_and]
theorem alr_all {nx : Int} {G : List Int} {L : List M4} (h : ∀ i, i < L.length → stp nx G L i = true) : alr nx G L = true := by
  unfold alr
  rw [List.all_eq_true]
  exact fun i hi => h i (List.mem_range.1 hi)
theorem mlOk_pos {g u : Int} {l : List R3} {t : ByteArray} (h : mlOk g u l t = true) : 0 < u := by
  simp only [mlOk, Bool.and_eq_true] at h
  exact gok_pos h.2.1

theorem mat_split {g : Int} (A : List M4) (m : M4) (C : List M4) (k : Nat) (h : ∀ x ∈ A, x.1 ≠ g) (hm : m.1 = g) : mat g (A ++ m :: C) k = ((k + A.length : Nat) : Int) := by
  induction A generalizing k with
  | nil => simp [mat, hm]
  | cons x A ih =>
    rw [List.cons_append, mat, if_neg (h x (by simp)), ih (k + 1) (fun y hy => h y (by simp [hy]))]
    simp only [List.length_cons]
    congr 1
    omega
theorem mat_none {g : Int} (L : List M4) (k : Nat) (h : ∀ x ∈ L, x.1 ≠ g) : mat g L k = -1 := by
  induction L generalizing k with
  | nil => rfl
  | cons x L ih => rw [mat, if_neg (h x (by simp))]; exact ih _ (fun y hy => h y (by simp [hy]))
theorem mat_uniq {L : List M4} (h : uq L = true) {i : Nat} (hi : i < L.length) : mat L[i].1 L 0 = (i : Int) := by
  have hn : (L.map (fun m => m.1)).Nodup := of_decide_eq_true h
  have e : L = L.take i ++ L[i] :: L.drop (i + 1) := by rw [← List.drop_eq_getElem_cons hi, List.take_append_drop]
  have h1 : ∀ x ∈ L.take i, x.1 ≠ L[i].1 := by
    intro x hx ex
    rw [e, List.map_append, List.map_cons, List.nodup_append] at hn
    exact hn.2.2 x.1 (List.mem_map.2 ⟨x, hx, rfl⟩) L[i].1 (by simp) ex
  have := mat_split (g := L[i].1) (L.take i) L[i] (L.drop (i + 1)) 0 h1 rfl
  rw [← e] at this
  rw [this]
  congr 1
  simp
  omega
theorem uq_bad {L : List M4} {i : Nat} (hi : i < L.length) (h : ¬ mat L[i].1 L 0 = (i : Int)) : uq L = false := by
  cases hu : uq L with
  | false => rfl
  | true => exact absurd (mat_uniq hu hi) h
theorem uq_all {L : List M4} (h : ∀ i (hi : i < L.length), mat L[i].1 L 0 = (i : Int)) : uq L = true := by
  unfold uq
  rw [decide_eq_true_eq]
  refine List.pairwise_iff_getElem.2 ?_
  intro i j hi hj hij e
  simp only [List.length_map] at hi hj
  simp only [List.getElem_map] at e
  have h1 := h i hi
  have h2 := h j hj
  rw [e, h2] at h1
  omega

/-! The shelf's size. -/
theorem pt_keys {S : List M4} {m : M4} (h : m.1 ∈ S.map (fun x => x.1)) : (pt S m).map (fun x => x.1) = S.map (fun x => x.1) := by
  obtain ⟨x, hx, e⟩ := List.mem_map.1 h
  unfold pt
  rw [if_pos (List.any_eq_true.2 ⟨x, hx, by simpa using e⟩), List.map_map]
  apply List.map_congr_left
  intro y _
  simp only [Function.comp]
  by_cases hy : y.1 = m.1
  · rw [if_pos hy, hy]
  · rw [if_neg hy]
theorem fold_len (L : List M4) : ∀ S : List M4, (S.map (fun x => x.1)).Nodup → (L.foldl pt S).length ≤ S.length + L.length ∧ ((L.foldl pt S).length = S.length + L.length ↔ ((S ++ L).map (fun x => x.1)).Nodup) ∧ (((S ++ L).map (fun x => x.1)).Nodup → L.foldl pt S = S ++ L) := by
  induction L with
  | nil => intro S hS; simp only [List.foldl_nil, List.append_nil, List.length_nil, Nat.add_zero, Nat.le_refl, true_and]; exact ⟨⟨fun _ => hS, fun _ => trivial⟩, fun _ => trivial⟩
  | cons m L ih =>
    intro S hS
    rw [List.foldl_cons]
    by_cases hm : m.1 ∈ S.map (fun x => x.1)
    · have hk := pt_keys hm
      have hl : (pt S m).length = S.length := by simpa using congrArg List.length hk
      have h1 := ih (pt S m) (by rw [hk]; exact hS)
      have hno : ¬ ((S ++ m :: L).map (fun x => x.1)).Nodup := by
        intro hh
        rw [List.map_append, List.map_cons, List.nodup_append] at hh
        exact hh.2.2 m.1 hm m.1 (by simp) rfl
      rw [hl] at h1
      simp only [List.length_cons]
      exact ⟨by omega, ⟨fun e => by omega, fun hh => absurd hh hno⟩, fun hh => absurd hh hno⟩
    · have hp : pt S m = S ++ [m] := pt_new (fun x hx e => hm (List.mem_map.2 ⟨x, hx, e⟩))
      have h1 := ih (S ++ [m]) (by
        rw [List.map_append, List.nodup_append]
        refine ⟨hS, by simp, ?_⟩
        intro x hx y hy
        simp at hy
        subst hy
        exact fun e => hm (e ▸ hx))
      rw [hp]
      rw [List.append_assoc] at h1
      simp only [List.length_append, List.length_cons, List.length_nil, List.cons_append, List.nil_append] at h1 ⊢
      exact ⟨by omega, by rw [← h1.2.1]; omega, h1.2.2⟩
theorem shl_len (L : List M4) : decide (((shl L).length : Int) = (L.length : Int)) = uq L := by
  have h := (fold_len L [] (by simp)).2.1
  simp only [List.length_nil, Nat.zero_add, List.nil_append] at h
  unfold uq shl
  rw [decide_eq_decide, ← h]
  omega
theorem shl_uniq {L : List M4} (h : uq L = true) : shl L = L := by
  have := (fold_len L [] (by simp)).2.2 (by simpa using of_decide_eq_true h)
  simpa [shl] using this
theorem shl_le (L : List M4) : (shl L).length ≤ L.length := by
  have := (fold_len L [] (by simp)).1
  simpa [shl] using this

/-! The parts in letters. -/
theorem st_l (t b : Int) : ∃ p : Bool, Hid (p = stOk t b) ∧ Hid (∀ w, Calls Tryz.prog 21 #[.agg #[.int .i64 t, .int .i64 b]] w fun e w' => e = .returned (.bool p) ∧ Below w.heap.size w w') ∧ Hid (∀ w, Calls Tryz.prog 29 #[.agg #[.int .i64 t, .int .i64 b]] w fun e w' => e = .returned (.bool p) ∧ Below w.heap.size w w') :=
  ⟨stOk t b, rfl, fun w => (specStampOk_any t b w).mono fun _ _ h => ⟨h.1, h.2 ▸ bpush (bre _) _⟩, implStampOk_any t b⟩
theorem in_range (x a c : Int) : ∃ p : Bool, Hid (p = (decide (a ≤ x) && decide (x ≤ c))) ∧ Hid (∀ w, Calls Tryz.prog 20 #[.int .i64 x, .int .i64 a, .int .i64 c] w fun e w' => e = .returned (.bool p) ∧ w' = w) := by
  refine ⟨_, rfl, fun w => ?_⟩
  by_cases h1 : a ≤ x
  · by_cases h2 : x ≤ c
    · rw [decide_eq_true h1, decide_eq_true h2]
      exact (l01In_yes x a c w h1 h2).mono fun _ _ h => ⟨h.1, h.2.symm⟩
    · rw [decide_eq_true h1, decide_eq_false h2]
      exact (l01In_no x a c w (by omega)).mono fun _ _ h => ⟨h.1, h.2.symm⟩
  · rw [decide_eq_false h1, Bool.false_and]
    exact (l01In_no x a c w (by omega)).mono fun _ _ h => ⟨h.1, h.2.symm⟩
end Go.Proofs.YtfmacodnjhegcamGreat
