/- Two mails drawn. -/
import Derived.Test.YtldcmfkmnjdfiaaMdrawC
namespace Go.Proofs.Ytldcmfkmnjdfiaa
open Go.RowKit

theorem Dl.own {W : World} {B : Nat} {v : Value} {l : List R3} (h : Ow W B v l) (h4 : l.length ≤ 4) : Dl W B v l := by
  have hw := h
  rcases h.2 with ⟨h1, h2⟩ | ⟨g, cap, cur, h1, h2, h3, h5, h6, h7, h8⟩
  · subst h1
    exact ⟨none, 0, by rw [h2], h4, by omega, fun _ => rfl, (Ow.rs hw).2, (fun x e => by cases e)⟩
  · subst h1
    exact ⟨_, cap, rfl, h4, h5, (fun e => by cases e), (Ow.rs hw).2, (fun x e => by simp only [Option.some.injEq] at e; subst e; exact h2)⟩
theorem Dl.kept {W W' : World} {B cb : Nat} {v : Value} {l : List R3} (h : Dl W B v l) (hg : W.grownBy W' (some cb)) (hc : cb < B) : Dl W' B v l := by
  obtain ⟨a, c, h1, h2, h3, h4, h5, h6⟩ := h
  exact ⟨a, c, h1, h2, h3, h4, h5.grown hg (fun x e => by have := h6 x e; omega), h6⟩

theorem Dl.dr {W : World} {B : Nat} {v : Value} {l : List R3} (h : Dl W B v l) : Dl W.drew B v l := h
theorem pair_facts {w W : World} {B : Nat} {g0 u0 g1 u1 : Int} {f0 f1 : Value} {t0 t1 : ByteArray} (g u : Int) (f : Value) (l : List R3) (t : ByteArray) (g' u' : Int) (f' : Value) (l' : List R3) (t' : ByteArray) (h2 : Mg W w.heap.size 26 g0 u0 f0 t0) (h3 : Mg W (w.heap.size + 1) 26 g1 u1 f1 t1) (hA : Dl W B f l) (hB : Dl W B f' l') (hBs : w.heap.size + 1 < B) (hb : Below w.heap.size w W) :
    (((((((((W.setCell ⟨w.heap.size, 0, none⟩ (.int .i64 g)).setCell ⟨w.heap.size, 1, none⟩ (.int .i64 u)).setCell ⟨w.heap.size, 2, none⟩ f).setCell ⟨w.heap.size, 3, none⟩ (.string t)).setCell ⟨w.heap.size + 1, 0, none⟩ (.int .i64 g')).setCell ⟨w.heap.size + 1, 1, none⟩ (.int .i64 u')).setCell ⟨w.heap.size + 1, 2, none⟩ f').setCell ⟨w.heap.size + 1, 3, none⟩ (.string t')).cell? ⟨w.heap.size, 0, none⟩ = some (.int .i64 g) ∧ ((((((((W.setCell ⟨w.heap.size, 0, none⟩ (.int .i64 g)).setCell ⟨w.heap.size, 1, none⟩ (.int .i64 u)).setCell ⟨w.heap.size, 2, none⟩ f).setCell ⟨w.heap.size, 3, none⟩ (.string t)).setCell ⟨w.heap.size + 1, 0, none⟩ (.int .i64 g')).setCell ⟨w.heap.size + 1, 1, none⟩ (.int .i64 u')).setCell ⟨w.heap.size + 1, 2, none⟩ f').setCell ⟨w.heap.size + 1, 3, none⟩ (.string t')).cell? ⟨w.heap.size, 1, none⟩ = some (.int .i64 u) ∧ ((((((((W.setCell ⟨w.heap.size, 0, none⟩ (.int .i64 g)).setCell ⟨w.heap.size, 1, none⟩ (.int .i64 u)).setCell ⟨w.heap.size, 2, none⟩ f).setCell ⟨w.heap.size, 3, none⟩ (.string t)).setCell ⟨w.heap.size + 1, 0, none⟩ (.int .i64 g')).setCell ⟨w.heap.size + 1, 1, none⟩ (.int .i64 u')).setCell ⟨w.heap.size + 1, 2, none⟩ f').setCell ⟨w.heap.size + 1, 3, none⟩ (.string t')).cell? ⟨w.heap.size, 2, none⟩ = some f ∧ ((((((((W.setCell ⟨w.heap.size, 0, none⟩ (.int .i64 g)).setCell ⟨w.heap.size, 1, none⟩ (.int .i64 u)).setCell ⟨w.heap.size, 2, none⟩ f).setCell ⟨w.heap.size, 3, none⟩ (.string t)).setCell ⟨w.heap.size + 1, 0, none⟩ (.int .i64 g')).setCell ⟨w.heap.size + 1, 1, none⟩ (.int .i64 u')).setCell ⟨w.heap.size + 1, 2, none⟩ f').setCell ⟨w.heap.size + 1, 3, none⟩ (.string t')).cell? ⟨w.heap.size, 3, none⟩ = some (.string t)) ∧
    (((((((((W.setCell ⟨w.heap.size, 0, none⟩ (.int .i64 g)).setCell ⟨w.heap.size, 1, none⟩ (.int .i64 u)).setCell ⟨w.heap.size, 2, none⟩ f).setCell ⟨w.heap.size, 3, none⟩ (.string t)).setCell ⟨w.heap.size + 1, 0, none⟩ (.int .i64 g')).setCell ⟨w.heap.size + 1, 1, none⟩ (.int .i64 u')).setCell ⟨w.heap.size + 1, 2, none⟩ f').setCell ⟨w.heap.size + 1, 3, none⟩ (.string t')).cell? ⟨w.heap.size + 1, 0, none⟩ = some (.int .i64 g') ∧ ((((((((W.setCell ⟨w.heap.size, 0, none⟩ (.int .i64 g)).setCell ⟨w.heap.size, 1, none⟩ (.int .i64 u)).setCell ⟨w.heap.size, 2, none⟩ f).setCell ⟨w.heap.size, 3, none⟩ (.string t)).setCell ⟨w.heap.size + 1, 0, none⟩ (.int .i64 g')).setCell ⟨w.heap.size + 1, 1, none⟩ (.int .i64 u')).setCell ⟨w.heap.size + 1, 2, none⟩ f').setCell ⟨w.heap.size + 1, 3, none⟩ (.string t')).cell? ⟨w.heap.size + 1, 1, none⟩ = some (.int .i64 u') ∧ ((((((((W.setCell ⟨w.heap.size, 0, none⟩ (.int .i64 g)).setCell ⟨w.heap.size, 1, none⟩ (.int .i64 u)).setCell ⟨w.heap.size, 2, none⟩ f).setCell ⟨w.heap.size, 3, none⟩ (.string t)).setCell ⟨w.heap.size + 1, 0, none⟩ (.int .i64 g')).setCell ⟨w.heap.size + 1, 1, none⟩ (.int .i64 u')).setCell ⟨w.heap.size + 1, 2, none⟩ f').setCell ⟨w.heap.size + 1, 3, none⟩ (.string t')).cell? ⟨w.heap.size + 1, 2, none⟩ = some f' ∧ ((((((((W.setCell ⟨w.heap.size, 0, none⟩ (.int .i64 g)).setCell ⟨w.heap.size, 1, none⟩ (.int .i64 u)).setCell ⟨w.heap.size, 2, none⟩ f).setCell ⟨w.heap.size, 3, none⟩ (.string t)).setCell ⟨w.heap.size + 1, 0, none⟩ (.int .i64 g')).setCell ⟨w.heap.size + 1, 1, none⟩ (.int .i64 u')).setCell ⟨w.heap.size + 1, 2, none⟩ f').setCell ⟨w.heap.size + 1, 3, none⟩ (.string t')).cell? ⟨w.heap.size + 1, 3, none⟩ = some (.string t')) ∧
    Dl ((((((((W.setCell ⟨w.heap.size, 0, none⟩ (.int .i64 g)).setCell ⟨w.heap.size, 1, none⟩ (.int .i64 u)).setCell ⟨w.heap.size, 2, none⟩ f).setCell ⟨w.heap.size, 3, none⟩ (.string t)).setCell ⟨w.heap.size + 1, 0, none⟩ (.int .i64 g')).setCell ⟨w.heap.size + 1, 1, none⟩ (.int .i64 u')).setCell ⟨w.heap.size + 1, 2, none⟩ f').setCell ⟨w.heap.size + 1, 3, none⟩ (.string t')) w.heap.size f l ∧ Dl ((((((((W.setCell ⟨w.heap.size, 0, none⟩ (.int .i64 g)).setCell ⟨w.heap.size, 1, none⟩ (.int .i64 u)).setCell ⟨w.heap.size, 2, none⟩ f).setCell ⟨w.heap.size, 3, none⟩ (.string t)).setCell ⟨w.heap.size + 1, 0, none⟩ (.int .i64 g')).setCell ⟨w.heap.size + 1, 1, none⟩ (.int .i64 u')).setCell ⟨w.heap.size + 1, 2, none⟩ f').setCell ⟨w.heap.size + 1, 3, none⟩ (.string t')) w.heap.size f' l' ∧ Below w.heap.size w ((((((((W.setCell ⟨w.heap.size, 0, none⟩ (.int .i64 g)).setCell ⟨w.heap.size, 1, none⟩ (.int .i64 u)).setCell ⟨w.heap.size, 2, none⟩ f).setCell ⟨w.heap.size, 3, none⟩ (.string t)).setCell ⟨w.heap.size + 1, 0, none⟩ (.int .i64 g')).setCell ⟨w.heap.size + 1, 1, none⟩ (.int .i64 u')).setCell ⟨w.heap.size + 1, 2, none⟩ f').setCell ⟨w.heap.size + 1, 3, none⟩ (.string t')) := by
  have a0 : w.heap.size < B := by omega
  refine ⟨(far4 (set4 h2 g u f t) (by omega) (j := w.heap.size + 1) g' u' f' t').cells, (set4 (far4 h3 (by omega) (j := w.heap.size) g u f t) g' u' f' t').cells, ?_, ?_, bel4 (bel4 hb (Nat.le_refl _) _ _ _ _) (by omega) _ _ _ _⟩
  · exact ((((((((hA.set a0).set a0).set a0).set a0).set hBs).set hBs).set hBs).set hBs).lower (Nat.le_of_lt a0)
  · exact ((((((((hB.set a0).set a0).set a0).set a0).set hBs).set hBs).set hBs).set hBs).lower (Nat.le_of_lt a0)

def Pair1 (w : World) (e : Ending) (w' : World) : Prop :=
  ∃ (g u : Int) (f : Value) (l : List R3) (t : ByteArray) (g' u' : Int) (f' : Value) (l' : List R3) (t' : ByteArray), e = .returned (.tuple #[.agg #[.int .i64 g, .int .i64 u, f, .string t], .agg #[.int .i64 g', .int .i64 u', f', .string t']]) ∧ Dl w' w.heap.size f l ∧ Dl w' w.heap.size f' l' ∧ t.size ≤ 100 ∧ t'.size ≤ 100 ∧ Below w.heap.size w w'

set_option maxHeartbeats 3200000 in
set_option maxRecDepth 100000 in
theorem l05Pair_any (ao : Option Addr) (n cap : Nat) (w : World) (hn : n ≤ 1048576) (hcode : Code w w.heap.size ao n) :
    Calls Try.prog 33 #[.slice ao n cap] w fun e w' => Pair1 w e w' := by
  obtain ⟨W0, hW0⟩ : ∃ W0, ((w.alloc (.cells #[.int .i64 0, .int .i64 0, .slice none 0 0, .string ⟨#[]⟩] 26)).alloc (.cells #[.int .i64 0, .int .i64 0, .slice none 0 0, .string ⟨#[]⟩] 26)) = W0 := ⟨_, rfl⟩
  obtain ⟨a0, a1, b0⟩ := two_mails w _ _ _ _ _ _ _ _ _ _ W0 hW0
  have e0 : W0.heap.size = w.heap.size + 1 + 1 := by rw [← hW0]; simp
  have K2 := hid a0
  have K3 := hid a1
  have B0 := hid b0
  have O0 := hid (hcode.over b0)
  have E0 := hid e0
  clear a0 a1 b0 hcode e0
  go_enter Try.func33, Try.ntmps33
  go_wp2_with fail
  clear hW0
  refine (new_any ao n cap _ hn O0.out).mono ?_; rintro e w1 ⟨rfl, hc, ho, hb⟩
  have K21 := hid (K2.out.later hb)
  have K31 := hid (K3.out.later hb)
  have B1 := hid (btr B0.out hb)
  rw [E0.out] at hc ho ⊢
  have C1 := hid hc
  have O1 := hid ho
  have L1 : Hid (w.heap.size + 1 + 1 < w1.heap.size) := hc.lt
  clear hc ho hb K2 K3 O0 B0
  go_wp2_with fail
  refine (below4 (w.heap.size + 1 + 1) ao n cap _ hn C1.out O1.out 3 (by decide) (by decide)).mono ?_; rintro e w2 ⟨k, hk, rfl, hc, hg⟩
  have l1 := L1.out
  have K22 := hid (K21.out.grown hg (by simp <;> omega))
  have K32 := hid (K31.out.grown hg (by simp <;> omega))
  have B2 := hid (B1.out.trans (below_grownR hg (by intro j hj; simp at hj; omega) B1.out.size))
  have C2 := hid hc
  have O2 := hid (O1.out.later hg)
  have L2 : Hid (w.heap.size + 1 + 1 < w2.heap.size) := hc.lt
  clear hc hg K21 K31 C1 O1 B1 l1
  go_wp2_with fail
  refine (l05Any_any (w.heap.size + 1 + 1) ao n cap _ hn C2.out O2.out).mono ?_; rintro e w3 ⟨g, u, f, l, t, rfl, hd, ht, hc, hg⟩
  obtain ⟨a5, c5, rfl, q1, q2, q3, q4, q5⟩ := hd
  have D3 : Hid (Dl w3 (w2.heap.size + 1) (.slice a5 l.length c5) l) := ⟨a5, c5, rfl, q1, q2, q3, q4, q5⟩
  have Q1 := hid q1
  have Q3 := hid q3
  have l1 := L1.out
  have l2 := L2.out
  have N3 := hid (bpush (bre w3) (.cells #[.int .i64 g, .int .i64 u, .slice a5 l.length c5, .string t] 26))
  have K23 := hid ((K22.out.grown hg (by simp <;> omega)).later N3.out)
  have K33 := hid ((K32.out.grown hg (by simp <;> omega)).later N3.out)
  have B3 := hid (btr (B2.out.trans (below_grownR hg (by intro j hj; simp at hj; omega) B2.out.size)) N3.out)
  have C3 := hid (hc.alloc (.cells #[.int .i64 g, .int .i64 u, .slice a5 l.length c5, .string t] 26))
  have O3 := hid ((O2.out.later hg).later (World.grownBy_alloc w3 (.cells #[.int .i64 g, .int .i64 u, .slice a5 l.length c5, .string t] 26) (some (w.heap.size + 1 + 1))))
  have KA3 := hid (Mg.new w3 26 g u (.slice a5 l.length c5) t)
  have D33 := hid (D3.out.later N3.out)
  have HT := hid ht
  have L3 : Hid (w2.heap.size ≤ w3.heap.size) := hg.size
  clear ht hc hg q1 q2 q3 q4 q5 l1 l2 K22 K32 B2 C2 O2 D3
  go_wp2_with fail
  refine (l05Any_any (w.heap.size + 1 + 1) ao n cap _ hn C3.out O3.out).mono ?_; rintro e w4 ⟨g', u', f', l', t', rfl, hd, ht, hc, hg⟩
  obtain ⟨a6, c6, rfl, q1, q2, q3, q4, q5⟩ := hd
  have l1 := L1.out
  have l2 := L2.out
  have l3 := L3.out
  have hsz : w3.heap.size < (w3.alloc (.cells #[.int .i64 g, .int .i64 u, .slice a5 l.length c5, .string t] 26)).heap.size := KA3.out.lt
  have DB : Hid (Dl w4 (w2.heap.size + 1) (.slice a6 l'.length c6) l') := Dl.lower ⟨a6, c6, rfl, q1, q2, q3, q4, q5⟩ (by omega)
  have DA := hid (D33.out.kept hg (by omega))
  have K24 := hid (K23.out.grown hg (by simp <;> omega))
  have K34 := hid (K33.out.grown hg (by simp <;> omega))
  have KA := hid (KA3.out.grown hg (by simp <;> omega))
  have B4 := hid (B3.out.trans (below_grownR hg (by intro j hj; simp at hj; omega) B3.out.size))
  have HTB := hid ht
  have LA : Hid (w3.heap.size < w4.heap.size) := KA.out.lt
  clear ht hc hg q1 q2 q3 q4 q5 l1 l2 l3 K23 K33 KA3 B3 C3 O3 D33 hsz N3
  have h3 : k = 0 ∨ k = 1 ∨ k = 2 := by omega
  clear hk
  rcases h3 with rfl | rfl | rfl
  · skip
    have N5 := hid (bpush (bre w4) (.cells #[.int .i64 g', .int .i64 u', .slice a6 l'.length c6, .string t'] 26))
    have KB := hid (Mg.new w4 26 g' u' (.slice a6 l'.length c6) t')
    have KA5 := hid (KA.out.later N5.out)
    have K25 := hid (K24.out.later N5.out)
    have K35 := hid (K34.out.later N5.out)
    have B5 := hid (btr B4.out N5.out)
    have DA5 := hid (DA.out.later N5.out)
    have DB5 := hid (DB.out.later N5.out)
    have cA := KA5.out.cells
    have cB := KB.out.cells
    have d2 := K25.out.cells
    have f2 := K25.out.loose
    have d3 := K35.out.cells
    have f3 := K35.out.loose
    have cA4 := (KA.out.later (bpush (bre w4) (.cells #[.int .i64 g', .int .i64 u', .slice a6 l'.length c6, .string t'] 26))).cells
    have l1 := L1.out
    have l2 := L2.out
    have l3 := L3.out
    have l4 := LA.out
    have cB2 := (far4 KB.out (by omega) (j := w.heap.size) g u (.slice a5 l.length c5) t).cells
    have d32 := (far4 K35.out (by omega) (j := w.heap.size) g u (.slice a5 l.length c5) t).cells
    have f32 := (far4 K35.out (by omega) (j := w.heap.size) g u (.slice a5 l.length c5) t).loose
    clear l1 l2 l3 l4
    go_wp2_with fail
    go_region
    all_goals go_wp2
    all_goals
      obtain ⟨d2, d3, hA, hB, hBB⟩ := pair_facts g u (.slice a5 l.length c5) l t g' u' (.slice a6 l'.length c6) l' t' K25.out K35.out DA5.out DB5.out (by have := L2.out; omega) B5.out
      refine bodyPost_ret (v := .tuple #[.agg #[.int .i64 g, .int .i64 u, .slice a5 l.length c5, .string t], .agg #[.int .i64 g', .int .i64 u', (.slice a6 l'.length c6), .string t']]) (by simp [results, Try.results33, go_sem, d2, d3]) rfl ⟨g, u, _, l, t, g', u', _, l', t', rfl, ?_, ?_, HT.out, HTB.out, ?_⟩
      · first | with_reducible exact hA | with_reducible exact hA.dr
      · first | with_reducible exact hB | with_reducible exact hB.dr
      · first | with_reducible exact hBB | with_reducible exact bdr hBB
  · skip
    have N5 := hid (bpush (bre w4) (.cells #[.int .i64 g, .int .i64 u', .slice a6 l'.length c6, .string t'] 26))
    have KB := hid (Mg.new w4 26 g u' (.slice a6 l'.length c6) t')
    have KA5 := hid (KA.out.later N5.out)
    have K25 := hid (K24.out.later N5.out)
    have K35 := hid (K34.out.later N5.out)
    have B5 := hid (btr B4.out N5.out)
    have DA5 := hid (DA.out.later N5.out)
    have DB5 := hid (DB.out.later N5.out)
    have cA := KA5.out.cells
    have cB := KB.out.cells
    have d2 := K25.out.cells
    have f2 := K25.out.loose
    have d3 := K35.out.cells
    have f3 := K35.out.loose
    have cA4 := (KA.out.later (bpush (bre w4) (.cells #[.int .i64 g', .int .i64 u', .slice a6 l'.length c6, .string t'] 26))).cells
    have l1 := L1.out
    have l2 := L2.out
    have l3 := L3.out
    have l4 := LA.out
    have cB2 := (far4 KB.out (by omega) (j := w.heap.size) g u (.slice a5 l.length c5) t).cells
    have d32 := (far4 K35.out (by omega) (j := w.heap.size) g u (.slice a5 l.length c5) t).cells
    have f32 := (far4 K35.out (by omega) (j := w.heap.size) g u (.slice a5 l.length c5) t).loose
    clear l1 l2 l3 l4
    go_wp2_with fail
    go_region
    all_goals go_wp2
    all_goals
      obtain ⟨d2, d3, hA, hB, hBB⟩ := pair_facts g u (.slice a5 l.length c5) l t g u' (.slice a6 l'.length c6) l' t' K25.out K35.out DA5.out DB5.out (by have := L2.out; omega) B5.out
      refine bodyPost_ret (v := .tuple #[.agg #[.int .i64 g, .int .i64 u, .slice a5 l.length c5, .string t], .agg #[.int .i64 g, .int .i64 u', (.slice a6 l'.length c6), .string t']]) (by simp [results, Try.results33, go_sem, d2, d3]) rfl ⟨g, u, _, l, t, g, u', _, l', t', rfl, ?_, ?_, HT.out, HTB.out, ?_⟩
      · first | with_reducible exact hA | with_reducible exact hA.dr
      · first | with_reducible exact hB | with_reducible exact hB.dr
      · first | with_reducible exact hBB | with_reducible exact bdr hBB
  · have N5 := hid (bpush (bre w4) (.cells #[.int .i64 g, .int .i64 u', .slice a6 l'.length c6, .string t'] 26))
    have KA5 := hid (KA.out.later N5.out)
    have K25 := hid (K24.out.later N5.out)
    have K35 := hid (K34.out.later N5.out)
    have B5 := hid (btr B4.out N5.out)
    have DA5 := hid (DA.out.later N5.out)
    have cA4 := (KA.out.later (bpush (bre w4) (.cells #[.int .i64 g', .int .i64 u', .slice a6 l'.length c6, .string t'] 26))).cells
    have KB := hid (Mg.new w4 26 g u' (.slice a6 l'.length c6) t')
    have cA := KA5.out.cells
    obtain ⟨W5, hW5⟩ : ∃ W5, w4.alloc (.cells #[.int .i64 g, .int .i64 u', .slice a6 l'.length c6, .string t'] 26) = W5 := ⟨_, rfl⟩
    go_wp2_with fail
    rw [hW5] at KA5 K25 K35 B5 DA5
    have l1 := L1.out
    have l2 := L2.out
    have l3 := L3.out
    have RS : Hid (Rs W5 a5 l) := by
      obtain ⟨a', c', h1, _, _, _, h5, _⟩ := DA5.out
      simp only [Value.slice.injEq] at h1
      rw [h1.1]; exact h5
    have LQ : Hid (l.length ≤ 1048576) := Nat.le_trans Q1.out (by decide)
    have HT2 : Hid (t.size ≤ 1048576) := Nat.le_trans HT.out (by decide)
    have LB5 : Hid (w.heap.size + 1 + 1 < W5.heap.size) := by have := KA5.out.lt; show _ < _; omega
    have KA5d : Hid ((W5.drew.cell? ⟨w3.heap.size, 0, none⟩ = some (.int .i64 g) ∧ W5.drew.cell? ⟨w3.heap.size, 1, none⟩ = some (.int .i64 u) ∧ W5.drew.cell? ⟨w3.heap.size, 2, none⟩ = some (.slice a5 l.length c5) ∧ W5.drew.cell? ⟨w3.heap.size, 3, none⟩ = some (.string t))) := KA5.out.cells
    clear hW5 cA cA4 l1 l2 l3
    go_region_held3 (fun W => (W.cell? ⟨w3.heap.size, 0, none⟩ = some (.int .i64 g) ∧ W.cell? ⟨w3.heap.size, 1, none⟩ = some (.int .i64 u) ∧ W.cell? ⟨w3.heap.size, 2, none⟩ = some (.slice a5 l.length c5) ∧ W.cell? ⟨w3.heap.size, 3, none⟩ = some (.string t)))
      ((first | with_reducible exact KA5d.out | with_reducible exact KA6.out.cells | with_reducible exact KA62.out.cells | with_reducible exact KA63.out.cells))
      ((go_at_call 42; refine (l05Copy_any g u a5 l.length c5 l t W5.drew rfl LQ.out HT2.out RS.out Q3.out).mono ?_; rintro e w6 ⟨v6, rfl, ho, hb⟩; obtain ⟨a7, c7, hv7, _⟩ := Ow.shape ho; subst hv7; have B56 : Hid (Below W5.heap.size W5 w6) := btr (bdr (bre W5)) hb; have KA6 := hid (KA5.out.later B56.out); have K26 := hid (K25.out.later B56.out); have K36 := hid (K35.out.later B56.out); have d2 := K26.out.cells; have f2 := K26.out.loose; have d3 := (far4 K36.out (by omega) (j := w.heap.size) g u (.slice a5 l.length c5) t).cells; have f3 := (far4 K36.out (by omega) (j := w.heap.size) g u (.slice a5 l.length c5) t).loose; have DC : Hid (Dl w6 (w.heap.size + 1 + 1) (.slice a7 l.length c7) l) := (Dl.own ho Q1.out).lower (Nat.le_of_lt LB5.out); have DA6 := hid (DA5.out.later B56.out); have KA62 := hid (far4 KA6.out (by have := L2.out; have := L3.out; omega) (j := w.heap.size) g u (.slice a5 l.length c5) t); have KA63 := hid (far4 KA62.out (by have := L2.out; have := L3.out; omega) (j := w.heap.size + 1) g u (.slice a7 l.length c7) t)))
    have B6 := hid (btr B5.out B56.out)
    all_goals go_wp2
    all_goals
      obtain ⟨d2, d3, hA, hB, hBB⟩ := pair_facts g u (.slice a5 l.length c5) l t g u (.slice a7 l.length c7) l t K26.out K36.out (DA6.out.lower (B' := w.heap.size + 1 + 1) (by have := L2.out; omega)) DC.out (by have := L2.out; omega) B6.out
      refine bodyPost_ret (v := .tuple #[.agg #[.int .i64 g, .int .i64 u, .slice a5 l.length c5, .string t], .agg #[.int .i64 g, .int .i64 u, (.slice a7 l.length c7), .string t]]) (by simp [results, Try.results33, go_sem, d2, d3]) rfl ⟨g, u, _, l, t, g, u, _, l, t, rfl, ?_, ?_, HT.out, HT.out, ?_⟩
      · first | with_reducible exact hA | with_reducible exact hA.dr
      · first | with_reducible exact hB | with_reducible exact hB.dr
      · first | with_reducible exact hBB | with_reducible exact bdr hBB

set_option maxHeartbeats 800000 in
set_option maxRecDepth 100000 in
theorem drawJoinMail_any (ao : Option Addr) (n cap : Nat) (w : World) (hn : n ≤ 1048576) (hcode : Code w w.heap.size ao n) :
    Calls Try.prog 11 #[.slice ao n cap] w fun e w' => Pair1 w e w' := by
  obtain ⟨W0, hW0⟩ : ∃ W0, ((w.alloc (.cells #[.int .i64 0, .int .i64 0, .slice none 0 0, .string ⟨#[]⟩] 26)).alloc (.cells #[.int .i64 0, .int .i64 0, .slice none 0 0, .string ⟨#[]⟩] 26)) = W0 := ⟨_, rfl⟩
  obtain ⟨a0, a1, b0⟩ := two_mails w _ _ _ _ _ _ _ _ _ _ W0 hW0
  have e0 : W0.heap.size = w.heap.size + 1 + 1 := by rw [← hW0]; simp
  have K2 := hid a0
  have K3 := hid a1
  have B0 := hid b0
  have O0 := hid (hcode.over b0)
  have E0 := hid e0
  clear a0 a1 b0 hcode e0
  go_enter Try.func11, Try.ntmps11
  go_wp2_with fail
  clear hW0
  refine (l05Pair_any ao n cap _ hn O0.out).mono ?_; rintro e w1 ⟨g, u, f, l, t, g', u', f', l', t', rfl, hA, hB, ht, ht', hb⟩
  have DA := hid hA
  have DB := hid hB
  obtain ⟨a5, c5, rfl, _⟩ := hA
  obtain ⟨a6, c6, rfl, _⟩ := hB
  have HT := hid ht
  have HTB := hid ht'
  have K21 := hid (K2.out.later hb)
  have K31 := hid (K3.out.later hb)
  have B1 := hid (btr B0.out hb)
  have L2 : Hid (w.heap.size + 1 < W0.heap.size) := by show _ < _; rw [E0.out]; omega
  have d2 := K21.out.cells
  have f2 := K21.out.loose
  have d3 := (far4 K31.out (by omega) (j := w.heap.size) g u (.slice a5 l.length c5) t).cells
  have f3 := (far4 K31.out (by omega) (j := w.heap.size) g u (.slice a5 l.length c5) t).loose
  clear ht ht' hb K2 K3 B0
  go_wp2
  obtain ⟨d2, d3, hA, hB, hBB⟩ := pair_facts g u (.slice a5 l.length c5) l t g' u' (.slice a6 l'.length c6) l' t' K21.out K31.out DA.out DB.out (by have := L2.out; omega) B1.out
  refine bodyPost_ret (v := .tuple #[.agg #[.int .i64 g, .int .i64 u, .slice a5 l.length c5, .string t], .agg #[.int .i64 g', .int .i64 u', (.slice a6 l'.length c6), .string t']]) (by simp [results, Try.results11, go_sem, d2, d3]) rfl ⟨g, u, _, l, t, g', u', _, l', t', rfl, ?_, ?_, HT.out, HTB.out, ?_⟩
  · first | with_reducible exact hA | with_reducible exact hA.dr
  · first | with_reducible exact hB | with_reducible exact hB.dr
  · first | with_reducible exact hBB | with_reducible exact bdr hBB
end Go.Proofs.Ytldcmfkmnjdfiaa
