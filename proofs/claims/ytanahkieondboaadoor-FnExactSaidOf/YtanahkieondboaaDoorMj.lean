/- AddP, AddS, AddI, in one text. -/
import Derived.Test.YtanahkieondboaaDoorSat
namespace Go.Proofs.YtanahkieondboaaDoor
open Go.RowKit Go.ChangeMaps

theorem alr_at {nx : Int} {G : List Int} {L : List M4} (h : alr nx G L = true) {i : Nat} (hi : i < L.length) : L[i].2.1 < nx ∧ us L i < L[i].2.1 ∧ inl L[i].1 G = false := by
  unfold alr at h
  have h1 := List.all_eq_true.1 h i (List.mem_range.2 hi)
  rw [stp_at hi (g := L[i].1) (u := L[i].2.1) (l := L[i].2.2.1) (t := L[i].2.2.2) rfl] at h1
  simp only [Bool.and_eq_true, decide_eq_true_eq, Bool.not_eq_true'] at h1
  exact ⟨h1.2.1, h1.2.2.1, h1.2.2.2⟩
theorem alr_asc {nx : Int} {G : List Int} {L : List M4} (h : alr nx G L = true) : ∀ (j i : Nat) (hj : j < L.length) (hij : i < j), L[i].2.1 < L[j].2.1 := by
  intro j
  induction j with
  | zero => intro i hj hij; omega
  | succ j ih =>
    intro i hj hij
    have h1 := (alr_at h hj).2.1
    rw [us_succ (by omega)] at h1
    by_cases e : i = j
    · subst e; exact h1
    · have := ih i (by omega) (by omega)
      omega
theorem alr_upr {nx : Int} {G : List Int} {L : List M4} (h : alr nx G L = true) : Upr L :=
  List.pairwise_iff_getElem.2 fun i j _ hj hij => alr_asc h j i hj hij
theorem upr_snoc {nx : Int} {G : List Int} {L : List M4} (h : alr nx G L = true) (m : M4) (hm : m.2.1 = nx) : Upr (L ++ [m]) := by
  unfold Upr
  rw [List.pairwise_append]
  refine ⟨alr_upr h, by simp, ?_⟩
  intro x hx y hy
  simp at hy
  subst hy
  obtain ⟨i, hi, rfl⟩ := List.getElem_of_mem hx
  rw [hm]
  exact (alr_at h hi).1
/-- What a right box is good for. -/
theorem bx_parts {g : Int} {nm : ByteArray} {t b nx : Int} {L : List M4} {G : List Int} (h : bxOk g nm t b nx L G = true) : L.length ≤ 10 ∧ (1 ≤ nx ∧ nx ≤ 10000) ∧ alr nx G L = true ∧ uq L = true ∧ G.length ≤ 40 ∧ asc 0 G = true := by
  simp only [bxOk, Bool.and_eq_true, decide_eq_true_eq, bxm, gnOk] at h
  obtain ⟨_, _, _, ⟨h1, h2⟩, h3, ⟨h5, h6⟩, h4⟩ := h
  exact ⟨by omega, ⟨h1, h2⟩, h4.1, h4.2, by omega, h5⟩
theorem bx_gone {g : Int} {nm : ByteArray} {t b nx : Int} {L : List M4} {G : List Int} {m : M4} (h : inl m.1 G = true) : bxOk g nm t b nx (L ++ [m]) G = false := by
  have h1 : bxm nx G (L ++ [m]) = false := bxm_bad (i := L.length) (by simp) (by
    rw [stp_at (by simp) (g := m.1) (u := m.2.1) (l := m.2.2.1) (t := m.2.2.2) (by simp), h]
    simp)
  unfold bxOk
  rw [h1]
  simp
theorem mat_any (x : Int) (L : List M4) (k : Nat) : decide (0 ≤ mat x L k) = L.any (fun m => decide (m.1 = x)) := by
  induction L generalizing k with
  | nil => simp [mat]
  | cons m L ih =>
    by_cases h : m.1 = x
    · simp only [mat, h, if_true, List.any_cons, decide_true, Bool.true_or]
      simp
    · simp only [mat, h, if_false, List.any_cons, decide_false, Bool.false_or]
      exact ih _
theorem any_mde (x : Int) (E : List En) {L : List M4} (h : E.map mde = L) : E.any (fun e => decide (e.1.1 = x)) = L.any (fun m => decide (m.1 = x)) := by
  rw [← h, List.any_map]; rfl

/-- The new mail. -/
def nwm (gid nx fl : Int) (tx : ByteArray) (st sb : Int) : M4 := (gid, nx, fnew fl st sb, tx)
def flr (fl : Int) : Bool := decide (0 ≤ fl) && decide (fl ≤ 7)
/-- Whether a mail can be added. -/
def amOk (g : Int) (nm : ByteArray) (t b nx : Int) (L : List M4) (G : List Int) (gid fl : Int) (tx : ByteArray) (st sb : Int) : Bool :=
  bxOk g nm t b nx L G && (!(L.any (fun m => decide (m.1 = gid))) && (!(inl gid G) && (flr fl && bxOk g nm t b (nx + 1) (L ++ [nwm gid nx fl tx st sb]) G)))
def amL (p : Bool) (L : List M4) (m : M4) : List M4 := if p = true then L ++ [m] else L
def amN (p : Bool) (nx : Int) : Int := if p = true then nx + 1 else nx
theorem sm_snoc {L : List M4} (h : Sm L) {gid nx fl : Int} {tx : ByteArray} {st sb : Int} (ht : tx.size ≤ 1048576) : Sm (L ++ [nwm gid nx fl tx st sb]) := by
  intro m hm
  rcases List.mem_append.1 hm with hm | hm
  · exact h m hm
  · simp at hm
    subst hm
    exact ⟨by simp [nwm, fnew], ht⟩
theorem shl_nil_add {L : List M4} {m : M4} (hm : L.any (fun x => decide (x.1 = m.1)) = false) : pt L m = L ++ [m] :=
  pt_new (fun x hx e => by
    have := List.any_eq_false.1 hm x hx
    simp [e] at this)
end Go.Proofs.YtanahkieondboaaDoor

namespace Go.Proofs.YtanahkieondboaaDoor
open Go.RowKit Go.ChangeMaps

theorem OwB.grown {W W' : World} {B k : Nat} {mv gv : Value} {L : List M4} {G : List Int} (h : OwB W B mv gv L G) (hg : W.grownBy W' (some k)) (hk : k < B) : OwB W' B mv gv L G := by
  obtain ⟨Z, h1, h2, h3, h4⟩ := h
  exact ⟨Z, h1, h2.grown hg hk, OwI.grown h3 hg hk, h4⟩

/-- What lies there while a box is worked on: the box and the stamp that came in, the answer's place, the new box and its lists. -/
structure Stt (w W : World) (OB : Nat) (g : Int) (nm : ByteArray) (t b nx : Int) (m0 g0 : Value) (st sb : Int) (mv gv : Value) (Z : List Z5) (G : List Int) : Prop where
  box : Bx W w.heap.size 43 g nm t b nx m0 g0
  stm : Sg W (w.heap.size + 1) 40 st sb
  ans : Bx W (w.heap.size + 1 + 1) 43 0 ⟨#[]⟩ 0 0 0 (.slice none 0 0) (.slice none 0 0)
  out : Bx W OB 43 g nm t b nx mv gv
  ml : OwZ W (w.heap.size + 1 + 1 + 1) mv Z
  gl : OwI W (w.heap.size + 1 + 1 + 1) gv G
  bel : Below w.heap.size w W
theorem Stt.later {w W W' : World} {OB : Nat} {g : Int} {nm : ByteArray} {t b nx : Int} {m0 g0 : Value} {st sb : Int} {mv gv : Value} {Z : List Z5} {G : List Int} (h : Stt w W OB g nm t b nx m0 g0 st sb mv gv Z G) (hb : Below W.heap.size W W') : Stt w W' OB g nm t b nx m0 g0 st sb mv gv Z G :=
  ⟨h.box.later hb, h.stm.later hb, h.ans.later hb, h.out.later hb, h.ml.later hb, own_later h.gl hb, btr h.bel hb⟩

/-- Three blocks: a box, a stamp, an empty box. -/
theorem box_stamp (w : World) (g : Int) (nm : ByteArray) (t b nx : Int) (m0 g0 : Value) (st sb : Int) (W0 : World)
    (h : ((w.alloc (.cells #[.int .i64 g, .string nm, .int .i64 t, .int .i64 b, .int .i64 nx, m0, g0] 43)).alloc (.cells #[.int .i64 st, .int .i64 sb] 40)).alloc (.cells #[.int .i64 0, .string ⟨#[]⟩, .int .i64 0, .int .i64 0, .int .i64 0, .slice none 0 0, .slice none 0 0] 43) = W0) :
    Bx W0 w.heap.size 43 g nm t b nx m0 g0 ∧ Sg W0 (w.heap.size + 1) 40 st sb ∧ Bx W0 (w.heap.size + 1 + 1) 43 0 ⟨#[]⟩ 0 0 0 (.slice none 0 0) (.slice none 0 0) ∧ Below w.heap.size w W0 ∧ W0.heap.size = w.heap.size + 1 + 1 + 1 := by
  subst h
  refine ⟨(Bx.new w _ g nm t b nx m0 g0).later (bpush (bpush (bre _) _) _), Sg.later ?_ (bpush (bre _) _), ?_, bpush (bpush (bpush (bre _) _) _) _, by simp⟩
  · simpa using Sg.new (w.alloc (.cells #[.int .i64 g, .string nm, .int .i64 t, .int .i64 b, .int .i64 nx, m0, g0] 43)) 40 st sb
  · simpa using Bx.new ((w.alloc (.cells #[.int .i64 g, .string nm, .int .i64 t, .int .i64 b, .int .i64 nx, m0, g0] 43)).alloc (.cells #[.int .i64 st, .int .i64 sb] 40)) 43 0 ⟨#[]⟩ 0 0 0 (.slice none 0 0) (.slice none 0 0)

end Go.Proofs.YtanahkieondboaaDoor

namespace Go.Proofs.YtanahkieondboaaDoor
open Go.RowKit Go.ChangeMaps

/-- What lies there while a box is worked on by its shelf. -/
structure Shs (w W : World) (mb : Nat) (g : Int) (nm : ByteArray) (t b nx : Int) (m0 g0 : Value) (st sb : Int) (E : List En) (c : Nat) : Prop where
  box : Bx W w.heap.size 43 g nm t b nx m0 g0
  stm : Sg W (w.heap.size + 1) 40 st sb
  ans : Bx W (w.heap.size + 1 + 1) 43 0 ⟨#[]⟩ 0 0 0 (.slice none 0 0) (.slice none 0 0)
  mp : OwMp W (w.heap.size + 1 + 1 + 1) mb E c
  bel : Below w.heap.size w W
theorem Shs.later {w W W' : World} {mb : Nat} {g : Int} {nm : ByteArray} {t b nx : Int} {m0 g0 : Value} {st sb : Int} {E : List En} {c : Nat} (h : Shs w W mb g nm t b nx m0 g0 st sb E c) (hb : Below W.heap.size W W') : Shs w W' mb g nm t b nx m0 g0 st sb E c :=
  ⟨h.box.later hb, h.stm.later hb, h.ans.later hb, h.mp.later hb, btr h.bel hb⟩
/-- The map's block alone is turned. -/
theorem Shs.put {w W W' : World} {mb : Nat} {g : Int} {nm : ByteArray} {t b nx : Int} {m0 g0 : Value} {st sb : Int} {E E' : List En} {c c' : Nat} (h : Shs w W mb g nm t b nx m0 g0 st sb E c) (hg : W.grownBy W' (some mb)) (hm : OwMp W' (w.heap.size + 1 + 1 + 1) mb E' c') : Shs w W' mb g nm t b nx m0 g0 st sb E' c' := by
  have hmb := h.mp.base
  have hw := h.bel.size
  refine ⟨h.box.grown hg (fun e => by simp only [Option.some.injEq] at e; omega), (hg.block _ h.stm.lt (fun e => by simp only [Option.some.injEq] at e; omega)).trans h.stm, h.ans.grown hg (fun e => by simp only [Option.some.injEq] at e; omega), hm, h.bel.trans (below_of_grown hg (by omega) hw)⟩
theorem owmp_lt {W : World} {B b c : Nat} {E : List En} (h : OwMp W B b E c) : b < W.heap.size := (Array.getElem?_eq_some_iff.1 h.lies).1

end Go.Proofs.YtanahkieondboaaDoor

