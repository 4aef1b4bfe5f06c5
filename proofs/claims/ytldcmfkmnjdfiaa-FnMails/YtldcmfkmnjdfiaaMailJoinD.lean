/- Mails joined: the program's own answer. -/
import Derived.Test.YtldcmfkmnjdfiaaMe
namespace Go.Proofs.Ytldcmfkmnjdfiaa
open Go.RowKit

theorem Mg.same {W W' : World} {k ty : Nat} {g u : Int} {f : Value} {t : ByteArray} (h : Mg W k ty g u f t) (e : W'.heap[k]? = W.heap[k]?) : Mg W' k ty g u f t := e.trans h
theorem bs4 {B : Nat} {a w : World} (h : Below B a w) {k : Nat} (hk : B ≤ k) (g' u' : Int) (f' : Value) (t' : ByteArray) : Below B a ((((w.setCell ⟨k, 0, none⟩ (.int .i64 g')).setCell ⟨k, 1, none⟩ (.int .i64 u')).setCell ⟨k, 2, none⟩ f').setCell ⟨k, 3, none⟩ (.string t')) :=
  (((h.setCell (p := ⟨k, 0, none⟩) hk _).setCell (p := ⟨k, 1, none⟩) hk _).setCell (p := ⟨k, 2, none⟩) hk _).setCell (p := ⟨k, 3, none⟩) hk _
theorem mxs_size {t t' : ByteArray} (h : t.size ≤ 1048576) (h' : t'.size ≤ 1048576) : (mxs t t').size ≤ 1048576 := by
  unfold mxs; split
  · exact h'
  · exact h

set_option maxHeartbeats 1600000 in
set_option maxRecDepth 100000 in
theorem implJoinMail_any (g u : Int) (ao : Option Addr) (na ca : Nat) (l : List R3) (t : ByteArray) (g' u' : Int) (bo : Option Addr) (nb cb : Nat) (m : List R3) (t' : ByteArray) (w : World) (hla : l.length = na) (hlb : m.length = nb) (hna : na ≤ 1048576) (hnb : nb ≤ 1048576) (ht : t.size ≤ 1048576) (ht' : t'.size ≤ 1048576) (ha : Rs w ao l) (hb : Rs w bo m) (h0 : ao = none → ca = 0) :
    Calls Try.prog 17 #[.agg #[.int .i64 g, .int .i64 u, .slice ao na ca, .string t], .agg #[.int .i64 g', .int .i64 u', .slice bo nb cb, .string t']] w fun e w' => ∃ v, e = .returned (.agg #[.int .i64 g, .int .i64 (jmu g u g' u'), v, .string (jmt g t g' t')]) ∧ Ow w' w.heap.size v (jml g l g' m) ∧ Below w.heap.size w w' := by
  obtain ⟨W0, hW0⟩ : ∃ W0, (((w.alloc (.cells #[.int .i64 g, .int .i64 u, .slice ao na ca, .string t] 26)).alloc (.cells #[.int .i64 g', .int .i64 u', .slice bo nb cb, .string t'] 26)).alloc (.cells #[.int .i64 0, .int .i64 0, .slice none 0 0, .string ⟨#[]⟩] 26)) = W0 := ⟨_, rfl⟩
  obtain ⟨a0, a1, a2, b0⟩ := three_mails w _ _ _ _ _ _ _ _ _ _ _ _ _ _ _ W0 hW0
  have A0 := hid a0
  have A1 := hid a1
  have A2 := hid a2
  have B0 := hid b0
  have HA := hid (ha.later b0)
  have HB := hid (hb.later b0)
  have HLA := hid hla
  have HLB := hid hlb
  have HNA := hid hna
  have HNB := hid hnb
  have H0 := hid h0
  have HT := hid ht
  have HT' := hid ht'
  have HW : Hid (w.heap.size + 1 + 1 < W0.heap.size) := a2.lt
  have c0 := a0.cells
  have c1 := a1.cells
  clear a0 a1 a2 b0 ha hb hla hlb hna hnb h0 ht ht'
  by_cases hg : g = g'
  · subst hg
    have EL : Hid (jml g l g m = jl l m) := by show _ = _; simp [jml]
    have hgg : (g != g) = false := by simp
    obtain ⟨y, hy⟩ : ∃ y, mxs t t' = y := ⟨_, rfl⟩
    have HM : Hid ((jl l m).length = min na nb) := by show _ = _; rw [jl_len, HLA.out, HLB.out]
    have ET : Hid (jmt g t g t' = y) := by show _ = _; simp [jmt, hy]
    have HY : Hid (y.size ≤ 1048576) := hy ▸ mxs_size HT.out HT'.out
    have hmx : ∀ ts ty W, (Builtin.max_ ts ty #[.string t, .string t']).run Try.prog W = .ok (.string y) W := fun ts ty W => hy ▸ run_max_str W ts ty t t'
    clear hy
    have K0 : Hid (w.heap.size + 1 + 1 ≤ W0.heap.size) := Nat.le_of_lt HW.out
    have HS : Hid (∀ W, Below (w.heap.size + 1 + 1) W0 W → (W.cell? ⟨w.heap.size, 0, none⟩ = some (.int .i64 g) ∧ W.cell? ⟨w.heap.size, 1, none⟩ = some (.int .i64 u) ∧ W.cell? ⟨w.heap.size, 2, none⟩ = some (.slice ao na ca) ∧ W.cell? ⟨w.heap.size, 3, none⟩ = some (.string t)) ∧ (W.cell? ⟨(w.heap.size + 1), 0, none⟩ = some (.int .i64 g) ∧ W.cell? ⟨(w.heap.size + 1), 1, none⟩ = some (.int .i64 u') ∧ W.cell? ⟨(w.heap.size + 1), 2, none⟩ = some (.slice bo nb cb) ∧ W.cell? ⟨(w.heap.size + 1), 3, none⟩ = some (.string t'))) :=
      fun W h => ⟨(A0.out.same (h.block _ (by omega))).cells, (A1.out.same (h.block _ (by omega))).cells⟩
    obtain ⟨z, hz⟩ : ∃ z : Int, max u u' = z := ⟨_, rfl⟩
    have hz2 : (if u' > u then u' else u) = z := by rw [← hz, Int.max_def]; split <;> split <;> omega
    have EU : Hid (jmu g u g u' = z) := by show _ = _; rw [← hz2]; simp [jmu]
    go_enter Try.func17, Try.ntmps17
    go_wp2_with fail
    clear hW0 c0 c1
    go_region_held3 (fun W => (W.cell? ⟨w.heap.size, 0, none⟩ = some (.int .i64 g) ∧ W.cell? ⟨w.heap.size, 1, none⟩ = some (.int .i64 u) ∧ W.cell? ⟨w.heap.size, 2, none⟩ = some (.slice ao na ca) ∧ W.cell? ⟨w.heap.size, 3, none⟩ = some (.string t)) ∧ (W.cell? ⟨(w.heap.size + 1), 0, none⟩ = some (.int .i64 g) ∧ W.cell? ⟨(w.heap.size + 1), 1, none⟩ = some (.int .i64 u') ∧ W.cell? ⟨(w.heap.size + 1), 2, none⟩ = some (.slice bo nb cb) ∧ W.cell? ⟨(w.heap.size + 1), 3, none⟩ = some (.string t')))
        ((refine HS.out _ ?_; first | exact (bdr (bre W0)).mono K0.out | exact C1.out.mono K0.out | exact C2.out.mono K0.out | exact bs4 (C2.out.mono K0.out) (Nat.le_refl _) _ _ _ _))
        ((first
          | (go_at_call 40; refine (implJoinFlags_any ao bo na nb ca cb l m _ HLA.out HLB.out HNA.out HNB.out (HA.out.later (bdr (bre _))) (HB.out.later (bdr (bre _)))).mono ?_; rintro e w1 ⟨rfl, hown, hb⟩; rw [HM.out] at hown ⊢; have HO : Hid (Ow w1 W0.heap.size (.slice (some ⟨W0.heap.size, 0, none⟩) (min na nb) (min na nb)) (jl l m)) := hown; have C1 : Hid (Below W0.heap.size W0 w1) := btr (bdr (bre _)) hb)
          | (go_at_call 41; refine (clone_any y _ HY.out).mono ?_; rintro e w2 ⟨rfl, hb'⟩; have HO2 := hid (own_later HO.out hb'); have C2 : Hid (Below W0.heap.size W0 w2) := btr C1.out hb'; have d2 := (A2.out.later C2.out).cells; have f2 := (A2.out.later C2.out).loose)))
    all_goals
      go_wp2
      have k := set4 (A2.out.later C2.out) g z (.slice (some ⟨W0.heap.size, 0, none⟩) (min na nb) (min na nb)) y
      have d3 := k.cells
      refine bodyPost_ret (v := .agg #[.int .i64 g, .int .i64 z, .slice (some ⟨W0.heap.size, 0, none⟩) (min na nb) (min na nb), .string y]) (by simp [results, Try.results17, go_sem, d3]) rfl ⟨.slice (some ⟨W0.heap.size, 0, none⟩) (min na nb) (min na nb), by rw [EU.out, ET.out], ?_, bel4 (btr B0.out C2.out) (by omega) _ _ _ _⟩
      rw [EL.out]
      have hw := HW.out
      exact own_base (own4 HO2.out (by omega) _ _ _ _) (by omega)
  · have EL : Hid (jml g l g' m = l) := by show _ = _; simp [jml, hg]
    have EU : Hid (jmu g u g' u' = u) := by show _ = _; simp [jmu, hg]
    have ET : Hid (jmt g t g' t' = t) := by show _ = _; simp [jmt, hg]
    have hgg : (g != g') = true := bne_iff_ne.2 hg
    clear hg
    go_enter Try.func17, Try.ntmps17
    go_wp2_with fail
    clear hW0
    refine (copyOf_any g u ao na ca l t _ HLA.out HNA.out HT.out HA.out H0.out).mono ?_; rintro e w1 ⟨v, rfl, hown, hb⟩
    obtain ⟨av, cv, hv, _⟩ := Ow.shape hown
    rw [HLA.out] at hv
    subst hv
    have X2 := hid (A2.out.later hb)
    have B1 := hid (btr B0.out hb)
    have HO := hid hown
    clear c0 c1 hown hb
    have d2 := X2.out.cells
    have f2 := X2.out.loose
    go_wp2
    have d3 := (set4 X2.out g u (.slice av na cv) t).cells
    have hw := HW.out
    refine bodyPost_ret (v := .agg #[.int .i64 g, .int .i64 u, .slice av na cv, .string t]) (by simp [results, Try.results17, go_sem, d3]) rfl ⟨.slice av na cv, by rw [EU.out, ET.out], ?_, bel4 B1.out (by omega) _ _ _ _⟩
    rw [EL.out]
    exact own_base (own4 HO.out (by omega) _ _ _ _) (by omega)
end Go.Proofs.Ytldcmfkmnjdfiaa
