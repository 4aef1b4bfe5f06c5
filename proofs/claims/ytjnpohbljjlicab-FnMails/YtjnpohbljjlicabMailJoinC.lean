/- Mails joined: the model's own answer. -/
import Derived.Test.YtjnpohbljjlicabMailJoinB
namespace Go.Proofs.Ytjnpohbljjlicab
open Go.RowKit

def jmu (g u g' u' : Int) : Int := if g = g' then (if u < u' then u' else u) else u
def jml (g : Int) (l : List R3) (g' : Int) (m : List R3) : List R3 := if g = g' then jl l m else l
def jmt (g : Int) (t : ByteArray) (g' : Int) (t' : ByteArray) : ByteArray := if g = g' then mxs t t' else t

theorem far4 {W : World} {k j ty : Nat} {g u : Int} {f : Value} {t : ByteArray} (h : Mg W k ty g u f t) (hk : k ≠ j) (g' u' : Int) (f' : Value) (t' : ByteArray) : Mg ((((W.setCell ⟨j, 0, none⟩ (.int .i64 g')).setCell ⟨j, 1, none⟩ (.int .i64 u')).setCell ⟨j, 2, none⟩ f').setCell ⟨j, 3, none⟩ (.string t')) k ty g u f t :=
  (((h.far _ hk).far _ hk).far _ hk).far _ hk
theorem set4 {W : World} {k ty : Nat} {g u : Int} {f : Value} {t : ByteArray} (h : Mg W k ty g u f t) (g' u' : Int) (f' : Value) (t' : ByteArray) : Mg ((((W.setCell ⟨k, 0, none⟩ (.int .i64 g')).setCell ⟨k, 1, none⟩ (.int .i64 u')).setCell ⟨k, 2, none⟩ f').setCell ⟨k, 3, none⟩ (.string t')) k ty g' u' f' t' :=
  (((h.s0 g').s1 u').s2 f').s3 t'
theorem own4 {W : World} {B j : Nat} {v : Value} {l : List R3} (h : Ow W B v l) (hj : j < B) (g' u' : Int) (f' : Value) (t' : ByteArray) : Ow ((((W.setCell ⟨j, 0, none⟩ (.int .i64 g')).setCell ⟨j, 1, none⟩ (.int .i64 u')).setCell ⟨j, 2, none⟩ f').setCell ⟨j, 3, none⟩ (.string t')) B v l :=
  own_far (own_far (own_far (own_far h hj _ _) hj _ _) hj _ _) hj _ _
theorem bel4 {a w : World} (h : Below a.heap.size a w) {k : Nat} (hk : a.heap.size ≤ k) (g' u' : Int) (f' : Value) (t' : ByteArray) : Below a.heap.size a ((((w.setCell ⟨k, 0, none⟩ (.int .i64 g')).setCell ⟨k, 1, none⟩ (.int .i64 u')).setCell ⟨k, 2, none⟩ f').setCell ⟨k, 3, none⟩ (.string t')) :=
  bsk (bsk (bsk (bsk h hk _ _) hk _ _) hk _ _) hk _ _

set_option maxHeartbeats 1600000 in
set_option maxRecDepth 100000 in
theorem specJoinMail_any (g u : Int) (ao : Option Addr) (na ca : Nat) (l : List R3) (t : ByteArray) (g' u' : Int) (bo : Option Addr) (nb cb : Nat) (m : List R3) (t' : ByteArray) (w : World) (hla : l.length = na) (hlb : m.length = nb) (hna : na ≤ 1048576) (hnb : nb ≤ 1048576) (ht : t.size ≤ 1048576) (ht' : t'.size ≤ 1048576) (ha : Rs w ao l) (hb : Rs w bo m) (h0 : ao = none → ca = 0) :
    Calls Try.prog 17 #[.agg #[.int .i64 g, .int .i64 u, .slice ao na ca, .string t], .agg #[.int .i64 g', .int .i64 u', .slice bo nb cb, .string t']] w fun e w' => ∃ v, e = .returned (.agg #[.int .i64 g, .int .i64 (jmu g u g' u'), v, .string (jmt g t g' t')]) ∧ Ow w' w.heap.size v (jml g l g' m) ∧ Below w.heap.size w w' := by
  obtain ⟨W0, hW0⟩ : ∃ W0, (((w.alloc (.cells #[.int .i64 g, .int .i64 u, .slice ao na ca, .string t] 26)).alloc (.cells #[.int .i64 g', .int .i64 u', .slice bo nb cb, .string t'] 26)).alloc (.cells #[.int .i64 0, .int .i64 0, .slice none 0 0, .string ⟨#[]⟩] 26)) = W0 := ⟨_, rfl⟩
  obtain ⟨a0, a1, a2, b0⟩ := three_mails w _ _ _ _ _ _ _ _ _ _ _ _ _ _ _ W0 hW0
  have A0 := hid a0
  have A1 := hid a1
  have A2 := hid a2
  have B0 := hid b0
  have HA := hid (ha.later b0)
  have HB := hid (hb.later b0)
  have HLA := hid hla
  have HLB := hid hlb
  have HNA := hid hna
  have HNB := hid hnb
  have H0 := hid h0
  have HT := hid ht
  have HT' := hid ht'
  have HW : Hid (w.heap.size + 1 + 1 < W0.heap.size) := a2.lt
  have c0 := a0.cells
  have c1 := a1.cells
  clear a0 a1 a2 b0 ha hb hla hlb hna hnb h0 ht ht'
  by_cases hg : g = g'
  · subst hg
    have EL : Hid (jml g l g m = jl l m) := by show _ = _; simp [jml]
    have hgg : (g != g) = false := by simp
    obtain ⟨q, hq⟩ : ∃ q, (!(Op.bytesLess t'.toList t.toList || t'.toList == t.toList)) = q := ⟨_, rfl⟩
    have HQ := hid hq
    have HM : Hid ((jl l m).length = min na nb) := by show _ = _; rw [jl_len, HLA.out, HLB.out]
    have ET : Hid (jmt g t g t' = if q = true then t' else t) := by
      show _ = _
      simp only [jmt, if_true, mxs, less_tri t.toList t'.toList, HQ.out]
    clear hq
    go_enter Try.func17, Try.ntmps17
    go_wp2_with fail
    clear hW0
    refine (l05Copy_any g u ao na ca l t _ HLA.out HNA.out HT.out HA.out H0.out).mono ?_; rintro e w1 ⟨v, rfl, hown, hb⟩
    obtain ⟨av, cv, hv, _⟩ := Ow.shape hown
    rw [HLA.out] at hv
    subst hv
    have X := hid (Mg.new w1 26 g u (.slice av na cv) t)
    have BN := hid (bpush (bre w1) (.cells #[.int .i64 g, .int .i64 u, .slice av na cv, .string t] 26))
    have X0 := hid ((A0.out.later hb).later BN.out)
    have X1 := hid ((A1.out.later hb).later BN.out)
    have X2 := hid ((A2.out.later hb).later BN.out)
    have B1 := hid (btr (btr B0.out hb) BN.out)
    have HA1 := hid ((HA.out.later hb).later BN.out)
    have HB1 := hid ((HB.out.later hb).later BN.out)
    have HS1 : Hid (w.heap.size + 1 + 1 < w1.heap.size) := Nat.lt_of_lt_of_le HW.out hb.size
    clear c0 c1 hown hb
    have d0 := X0.out.cells
    have d1 := X1.out.cells
    go_wp2_with fail
    clear d0 d1
    refine (specJoinFlags_any ao bo na nb ca cb l m _ HLA.out HLB.out HNA.out HNB.out HA1.out HB1.out).mono ?_; rintro e w2 ⟨v2, rfl, hown, hb⟩
    obtain ⟨a2, c2, hv, _⟩ := Ow.shape hown
    rw [HM.out] at hv
    subst hv
    have Y := hid (X.out.later hb)
    have Y0 := hid (X0.out.later hb)
    have Y1 := hid (X1.out.later hb)
    have Y2 := hid (X2.out.later hb)
    have B2 := hid (btr B1.out hb)
    have HO2 := hid hown
    have hsz : w1.heap.size < (w1.alloc (.cells #[.int .i64 g, .int .i64 u, .slice av na cv, .string t] 26)).heap.size := X.out.lt
    have hs1 := HS1.out
    have dY := Y.out.cells
    have fY := Y.out.loose
    have d0 := Y0.out.cells
    have d1 := Y1.out.cells
    have d2 := Y2.out.cells
    have f2 := Y2.out.loose
    have HZ : Hid (w1.heap.size < (w1.alloc (.cells #[.int .i64 g, .int .i64 u, .slice av na cv, .string t] 26)).heap.size) := hsz
    clear hown hb X0 X1 X2 X BN B1 B0 HA1 HB1 hsz
    by_cases hu : u < u'
    · have EU : Hid (jmu g u g u' = u') := by show _ = _; simp [jmu, hu]
      rcases Bool.eq_false_or_eq_true q with hq | hq
      · have ET := hid (ET.out.trans (if_pos hq))
        have hgt : (!(Op.bytesLess t'.toList t.toList || t'.toList == t.toList)) = true := HQ.out.trans hq
        clear hq
        go_wp2
        have d2 := (set4 (((Y2.out.far (.slice a2 (min na nb) c2) (j := w1.heap.size) (i := 2) (by omega)).far (.int .i64 u') (j := w1.heap.size) (i := 1) (by omega)).far (.string t') (j := w1.heap.size) (i := 3) (by omega)) g u' (.slice a2 (min na nb) c2) t').cells
        refine bodyPost_ret (v := .agg #[.int .i64 g, .int .i64 u', .slice a2 (min na nb) c2, .string t']) (by simp [results, Try.results17, go_sem, d2]) rfl ⟨.slice a2 (min na nb) c2, by rw [EU.out, ET.out], ?_, bel4 (bsk (bsk (bsk B2.out (k := w1.heap.size) (by omega) 2 (.slice a2 (min na nb) c2)) (k := w1.heap.size) (by omega) 1 (.int .i64 u')) (k := w1.heap.size) (by omega) 3 (.string t')) (by omega) _ _ _ _⟩
        rw [EL.out]
        have hz := HZ.out
        exact own_base (own4 (own_far (own_far (own_far HO2.out (j := w1.heap.size) (by omega) 2 (.slice a2 (min na nb) c2)) (j := w1.heap.size) (by omega) 1 (.int .i64 u')) (j := w1.heap.size) (by omega) 3 (.string t')) (by omega) _ _ _ _) (by omega)
      · have ET := hid (ET.out.trans (if_neg (by simp [hq])))
        have hgt : (!(Op.bytesLess t'.toList t.toList || t'.toList == t.toList)) = false := HQ.out.trans hq
        clear hq
        go_wp2
        have d2 := (set4 ((Y2.out.far (.slice a2 (min na nb) c2) (j := w1.heap.size) (i := 2) (by omega)).far (.int .i64 u') (j := w1.heap.size) (i := 1) (by omega)) g u' (.slice a2 (min na nb) c2) t).cells
        refine bodyPost_ret (v := .agg #[.int .i64 g, .int .i64 u', .slice a2 (min na nb) c2, .string t]) (by simp [results, Try.results17, go_sem, d2]) rfl ⟨.slice a2 (min na nb) c2, by rw [EU.out, ET.out], ?_, bel4 (bsk (bsk B2.out (k := w1.heap.size) (by omega) 2 (.slice a2 (min na nb) c2)) (k := w1.heap.size) (by omega) 1 (.int .i64 u')) (by omega) _ _ _ _⟩
        rw [EL.out]
        have hz := HZ.out
        exact own_base (own4 (own_far (own_far HO2.out (j := w1.heap.size) (by omega) 2 (.slice a2 (min na nb) c2)) (j := w1.heap.size) (by omega) 1 (.int .i64 u')) (by omega) _ _ _ _) (by omega)
    · have EU : Hid (jmu g u g u' = u) := by show _ = _; simp [jmu, hu]
      rcases Bool.eq_false_or_eq_true q with hq | hq
      · have ET := hid (ET.out.trans (if_pos hq))
        have hgt : (!(Op.bytesLess t'.toList t.toList || t'.toList == t.toList)) = true := HQ.out.trans hq
        clear hq
        go_wp2
        have d2 := (set4 ((Y2.out.far (.slice a2 (min na nb) c2) (j := w1.heap.size) (i := 2) (by omega)).far (.string t') (j := w1.heap.size) (i := 3) (by omega)) g u (.slice a2 (min na nb) c2) t').cells
        refine bodyPost_ret (v := .agg #[.int .i64 g, .int .i64 u, .slice a2 (min na nb) c2, .string t']) (by simp [results, Try.results17, go_sem, d2]) rfl ⟨.slice a2 (min na nb) c2, by rw [EU.out, ET.out], ?_, bel4 (bsk (bsk B2.out (k := w1.heap.size) (by omega) 2 (.slice a2 (min na nb) c2)) (k := w1.heap.size) (by omega) 3 (.string t')) (by omega) _ _ _ _⟩
        rw [EL.out]
        have hz := HZ.out
        exact own_base (own4 (own_far (own_far HO2.out (j := w1.heap.size) (by omega) 2 (.slice a2 (min na nb) c2)) (j := w1.heap.size) (by omega) 3 (.string t')) (by omega) _ _ _ _) (by omega)
      · have ET := hid (ET.out.trans (if_neg (by simp [hq])))
        have hgt : (!(Op.bytesLess t'.toList t.toList || t'.toList == t.toList)) = false := HQ.out.trans hq
        clear hq
        go_wp2
        have d2 := (set4 (Y2.out.far (.slice a2 (min na nb) c2) (j := w1.heap.size) (i := 2) (by omega)) g u (.slice a2 (min na nb) c2) t).cells
        refine bodyPost_ret (v := .agg #[.int .i64 g, .int .i64 u, .slice a2 (min na nb) c2, .string t]) (by simp [results, Try.results17, go_sem, d2]) rfl ⟨.slice a2 (min na nb) c2, by rw [EU.out, ET.out], ?_, bel4 (bsk B2.out (k := w1.heap.size) (by omega) 2 (.slice a2 (min na nb) c2)) (by omega) _ _ _ _⟩
        rw [EL.out]
        have hz := HZ.out
        exact own_base (own4 (own_far HO2.out (j := w1.heap.size) (by omega) 2 (.slice a2 (min na nb) c2)) (by omega) _ _ _ _) (by omega)
  · have EL : Hid (jml g l g' m = l) := by show _ = _; simp [jml, hg]
    have EU : Hid (jmu g u g' u' = u) := by show _ = _; simp [jmu, hg]
    have ET : Hid (jmt g t g' t' = t) := by show _ = _; simp [jmt, hg]
    have hgg : (g != g') = true := bne_iff_ne.2 hg
    clear hg
    go_enter Try.func17, Try.ntmps17
    go_wp2_with fail
    clear hW0
    refine (l05Copy_any g u ao na ca l t _ HLA.out HNA.out HT.out HA.out H0.out).mono ?_; rintro e w1 ⟨v, rfl, hown, hb⟩
    obtain ⟨av, cv, hv, _⟩ := Ow.shape hown
    rw [HLA.out] at hv
    subst hv
    have X := hid (Mg.new w1 26 g u (.slice av na cv) t)
    have BN := hid (bpush (bre w1) (.cells #[.int .i64 g, .int .i64 u, .slice av na cv, .string t] 26))
    have X0 := hid ((A0.out.later hb).later BN.out)
    have X1 := hid ((A1.out.later hb).later BN.out)
    have X2 := hid ((A2.out.later hb).later BN.out)
    have B1 := hid (btr (btr B0.out hb) BN.out)
    have HO := hid (own_later hown BN.out)
    have HW1 : Hid (w.heap.size + 1 + 1 < w1.heap.size) := Nat.lt_of_lt_of_le HW.out hb.size
    clear c0 c1 hown hb
    have d0 := X0.out.cells
    have d1 := X1.out.cells
    have d2 := X2.out.cells
    have f2 := X2.out.loose
    go_wp2
    have d3 := (set4 X2.out g u (.slice av na cv) t).cells
    have hw := HW.out
    refine bodyPost_ret (v := .agg #[.int .i64 g, .int .i64 u, .slice av na cv, .string t]) (by simp [results, Try.results17, go_sem, d3]) rfl ⟨.slice av na cv, by rw [EU.out, ET.out], ?_, bel4 B1.out (by omega) _ _ _ _⟩
    rw [EL.out]
    exact own_base (own4 HO.out (by omega) _ _ _ _) (by omega)
end Go.Proofs.Ytjnpohbljjlicab
