/- Kpu, Kpb, MailJoinD. -/

import Derived.Test.YtmpcmllfgogegaaGreatjMl
namespace Go.Proofs.YtmpcmllfgogegaaGreat
open Go.RowKit
def fnd (x : Int) : List M4 → Option M4
 | [] => none
 | m :: L => if m.1 = x then some m else fnd x L
theorem mat_fnd (x : Int) : ∀ (L : List M4) (i : Nat), (fnd x L = none ∧ mat x L i = -1) ∨ ∃ (j : Nat) (h : j < L.length), fnd x L = some L[j] ∧ mat x L i = ((i + j : Nat) : Int)
 | [], i => Or.inl ⟨rfl, rfl⟩
 | m :: L, i => by
  by_cases e : m.1 = x
  ·exact Or.inr ⟨0, Nat.zero_lt_succ _, by rw [fnd, if_pos e]; rfl, by rw [mat, if_pos e]; rfl⟩
  ·rw [fnd, mat, if_neg e, if_neg e]
   rcases mat_fnd x L (i + 1) with h | ⟨j, h, h1, h2⟩
   ·exact Or.inl h
   ·exact Or.inr ⟨j + 1, Nat.succ_lt_succ h, by rw [h1]; rfl, by rw [h2]; congr 1; omega⟩
def hol (x : Int) (L : List M4) : Bool := (fnd x L).isSome
def kpu (A B : List M4) (nb x : Int) : Bool :=
 match fnd x A with
 | none => false
 | some m => match fnd x B with
  | none => decide (nb ≤ m.2.1)
  | some n => m.2.1 == n.2.1
theorem implHolds_any (lo hi : Nat) (g : Int) (nm : ByteArray) (t b nx : Int) (ma : Option Addr) (mn mc : Nat) (gv : Value) (L : List M4) (x : Int) (w : World) (hl : L.length = mn) (hn : mn ≤ 1048576) (hm : Ms lo hi w ma L) :
  Calls Tryz.prog 21 #[.agg #[.int .i64 g, .string nm, .int .i64 t, .int .i64 b, .int .i64 nx, .slice ma mn mc, gv], .int .i64 x] w fun e w' => e = .returned (.bool (hol x L)) ∧ Below w.heap.size w w' := by
 obtain ⟨W0, hW0⟩ : ∃ W0, w.alloc (.cells #[.int .i64 g, .string nm, .int .i64 t, .int .i64 b, .int .i64 nx, .slice ma mn mc, gv] 29) = W0 := ⟨_, rfl⟩
 have a0 : Bx W0 w.heap.size 29 g nm t b nx (.slice ma mn mc) gv := by subst hW0; exact Bx.new w _ g nm t b nx _ _
 have b0 : Below w.heap.size w W0 := by subst hW0; exact bpush (bre _) _
 have c0 := a0.cells
 have HR := hid (hm.later b0)
 have B0 := hid b0
 have HL := hid hl
 clear a0 b0 hm hl
 go_enter Tryz.func21, Tryz.ntmps21
 go_wp2_with fail
 clear hW0
 refine (implMailAt_any lo hi g nm t b nx ma mn mc gv L x _ HL.out hn HR.out).mono ?_; rintro e w1 ⟨rfl, hb1⟩
 have B1 := hid (btr B0.out hb1)
 clear hb1 c0 B0
 rcases mat_fnd x L 0 with ⟨h1, h2⟩ | ⟨j, h, h1, h2⟩
 ·rw [h2]
  have E1 : Hid (hol x L = false) := by show _ = _; rw [hol, h1]; rfl
  clear h1 h2
  go_wp2
  go_ret
  exact ⟨by rw [E1.out]; rfl, B1.out⟩
 ·rw [h2]
  have E1 : Hid (hol x L = true) := by show _ = _; rw [hol, h1]; rfl
  clear h1 h2 h
  have e0 : ((0 : Int) ≤ ((0 + j : Nat) : Int)) = True := by simp
  go_wp2
  go_ret
  exact ⟨by rw [E1.out]; rfl, B1.out⟩
theorem fnd_at {lo hi : Nat} {W : World} {ma : Option Addr} {L : List M4} (x : Int) (h : Ms lo hi W ma L) :
  (fnd x L = none ∧ mat x L 0 = -1) ∨ ∃ (j : Nat) (m : M4) (k o : Nat), ma = some ⟨k, o, none⟩ ∧ j < L.length ∧ fnd x L = some m ∧ mat x L 0 = (j : Int) ∧ k < W.heap.size ∧ W.cell? ⟨k, o + j * 4 + 1, none⟩ = some (.int .i64 m.2.1) := by
 rcases mat_fnd x L 0 with h0 | ⟨j, h1, h2, h3⟩
 ·exact Or.inl h0
 ·obtain ⟨k, o, fa, fc, e, hk, ⟨-, c1, -, -⟩, -⟩ := h.at h1
  exact Or.inr ⟨j, L[j], k, o, e, h1, h2, by rw [h3]; congr 1; omega, hk, c1⟩
set_option maxHeartbeats 800000 in
set_option maxRecDepth 100000 in
theorem specKeeps_any (lo hi lo' hi' : Nat) (g : Int) (nm : ByteArray) (t b nx : Int) (ma : Option Addr) (mn mc : Nat) (gv : Value) (L : List M4) (g' : Int) (nm' : ByteArray) (t' b' nx' : Int) (ma' : Option Addr) (mn' mc' : Nat) (gv' : Value) (L' : List M4) (x : Int) (w : World) (hl : L.length = mn) (hn : mn ≤ 1048576) (hm : Ms lo hi w ma L) (hl' : L'.length = mn') (hn' : mn' ≤ 1048576) (hm' : Ms lo' hi' w ma' L') :
  Calls Tryz.prog 19 #[.agg #[.int .i64 g, .string nm, .int .i64 t, .int .i64 b, .int .i64 nx, .slice ma mn mc, gv], .agg #[.int .i64 g', .string nm', .int .i64 t', .int .i64 b', .int .i64 nx', .slice ma' mn' mc', gv'], .int .i64 x] w fun e w' => e = .returned (.bool (kpu L L' nx' x)) ∧ Below w.heap.size w w' := by
 obtain ⟨W0, hW0⟩ : ∃ W0, (w.alloc (.cells #[.int .i64 g, .string nm, .int .i64 t, .int .i64 b, .int .i64 nx, .slice ma mn mc, gv] 29)).alloc (.cells #[.int .i64 g', .string nm', .int .i64 t', .int .i64 b', .int .i64 nx', .slice ma' mn' mc', gv'] 29) = W0 := ⟨_, rfl⟩
 have a0 : Bx W0 w.heap.size 29 g nm t b nx (.slice ma mn mc) gv := by subst hW0; exact (Bx.new w _ g nm t b nx _ _).later (bpush (bre _) _)
 have a1 : Bx W0 (w.heap.size + 1) 29 g' nm' t' b' nx' (.slice ma' mn' mc') gv' := by
  subst hW0
  have h := Bx.new (w.alloc (.cells #[.int .i64 g, .string nm, .int .i64 t, .int .i64 b, .int .i64 nx, .slice ma mn mc, gv] 29)) 29 g' nm' t' b' nx' (.slice ma' mn' mc') gv'
  rwa [show (w.alloc (.cells #[.int .i64 g, .string nm, .int .i64 t, .int .i64 b, .int .i64 nx, .slice ma mn mc, gv] 29)).heap.size = w.heap.size + 1 by simp] at h
 have b0 : Below w.heap.size w W0 := by subst hW0; exact bpush (bpush (bre _) _) _
 have c0 := a0.cells
 have A0 := hid a0
 have A1 := hid a1
 have HR := hid (hm.later b0)
 have HR' := hid (hm'.later b0)
 have B0 := hid b0
 have HL := hid hl
 have HL' := hid hl'
 clear a0 a1 b0 hm hl hm' hl'
 go_enter Tryz.func19, Tryz.ntmps19
 go_wp2_with fail
 clear hW0 c0
 refine (specMailAt_any lo hi g nm t b nx ma mn mc gv L x _ HL.out hn HR.out).mono ?_; rintro e w1 ⟨rfl, hb1⟩
 have A2 := hid (A0.out.later hb1)
 have A3 := hid (A1.out.later hb1)
 have R1 := hid (HR.out.later hb1)
 have R2 := hid (HR'.out.later hb1)
 have B1 := hid (btr B0.out hb1)
 clear hb1 B0 A0 A1 HR HR'
 rcases fnd_at x R1.out with ⟨h1, h2⟩ | ⟨j, m, k, o, rfl, hj, h1, h2, hk, hc⟩
 ·rw [h2]
  have E1 : Hid (kpu L L' nx' x = false) := by show _ = _; rw [kpu, h1]
  clear h1 h2
  go_wp2
  go_ret
  exact ⟨by rw [E1.out]; rfl, B1.out⟩
 rw [h2]
 have H1 := hid h1
 have HC := hid hc
 have HK := hid hk
 have HJ : Hid (j < mn) := by show _ < _; rw [← HL.out]; exact hj
 have e0 : ((j : Int) < 0) = False := by simp
 have c1 := A3.out.cells
 clear h1 h2 hc hk hj
 go_wp2_with fail
 clear c1
 refine (specMailAt_any lo' hi' g' nm' t' b' nx' ma' mn' mc' gv' L' x _ HL'.out hn' R2.out).mono ?_; rintro e w2 ⟨rfl, hb2⟩
 have c2 := (A2.out.later hb2).cells
 have hc := (hb2.cell (p := ⟨k, o + j * 4 + 1, none⟩) HK.out).trans HC.out
 have B2 := hid (btr B1.out hb2)
 have c3 := (A3.out.later hb2).cells
 have R3 := R2.out.later hb2
 obtain ⟨y, u, fl, tx⟩ := m
 dsimp only at hc
 have hI : (0 : Int) ≤ (j : Int) ∧ (j : Int) < (mn : Int) := by have := HJ.out; omega
 clear hb2
 rcases fnd_at x R3 with ⟨h1, h2⟩ | ⟨j', m', k', o', rfl, hj', h1, h2, hk', hc'⟩
 ·rw [h2]
  have E1 : Hid (kpu L L' nx' x = decide (nx' ≤ u)) := by show _ = _; rw [kpu, H1.out, h1]
  clear h1 h2 R3
  by_cases hd : nx' ≤ u
  ·have E2 : Hid (kpu L L' nx' x = true) := by show _ = _; rw [E1.out]; exact decide_eq_true hd
   go_wp2_with fail
   go_region
   go_wp2
   go_ret
   exact ⟨by rw [E2.out]; rfl, bdr B2.out⟩
  ·have E2 : Hid (kpu L L' nx' x = false) := by show _ = _; rw [E1.out]; exact decide_eq_false hd
   have hd' : (nx' ≤ u) = False := by simp only [hd]
   clear hd
   go_wp2_with fail
   go_region
   go_wp2
   go_ret
   exact ⟨by rw [E2.out]; rfl, bdr B2.out⟩
 ·rw [h2]
  obtain ⟨y', u', fl', tx'⟩ := m'
  dsimp only at hc'
  have E1 : Hid (kpu L L' nx' x = (u == u')) := by show _ = _; rw [kpu, H1.out, h1]
  have HJ' : Hid (j' < mn') := by show _ < _; rw [← HL'.out]; exact hj'
  have hI' : (0 : Int) ≤ (j' : Int) ∧ (j' : Int) < (mn' : Int) := by have := HJ'.out; omega
  have e1 : ((0 : Int) ≤ (j' : Int)) = True := by simp
  clear h1 h2 R3 hk' hj'
  go_wp2_with fail
  go_region
  go_wp2
  go_ret
  exact ⟨by rw [E1.out]; rfl, bdr B2.out⟩
set_option maxHeartbeats 800000 in
set_option maxRecDepth 100000 in
theorem implKeeps_any (lo hi lo' hi' : Nat) (g : Int) (nm : ByteArray) (t b nx : Int) (ma : Option Addr) (mn mc : Nat) (gv : Value) (L : List M4) (g' : Int) (nm' : ByteArray) (t' b' nx' : Int) (ma' : Option Addr) (mn' mc' : Nat) (gv' : Value) (L' : List M4) (x : Int) (w : World) (hl : L.length = mn) (hn : mn ≤ 1048576) (hm : Ms lo hi w ma L) (hl' : L'.length = mn') (hn' : mn' ≤ 1048576) (hm' : Ms lo' hi' w ma' L') :
  Calls Tryz.prog 18 #[.agg #[.int .i64 g, .string nm, .int .i64 t, .int .i64 b, .int .i64 nx, .slice ma mn mc, gv], .agg #[.int .i64 g', .string nm', .int .i64 t', .int .i64 b', .int .i64 nx', .slice ma' mn' mc', gv'], .int .i64 x] w fun e w' => e = .returned (.bool (kpu L L' nx' x)) ∧ Below w.heap.size w w' := by
 obtain ⟨W0, hW0⟩ : ∃ W0, (w.alloc (.cells #[.int .i64 g, .string nm, .int .i64 t, .int .i64 b, .int .i64 nx, .slice ma mn mc, gv] 29)).alloc (.cells #[.int .i64 g', .string nm', .int .i64 t', .int .i64 b', .int .i64 nx', .slice ma' mn' mc', gv'] 29) = W0 := ⟨_, rfl⟩
 have a0 : Bx W0 w.heap.size 29 g nm t b nx (.slice ma mn mc) gv := by subst hW0; exact (Bx.new w _ g nm t b nx _ _).later (bpush (bre _) _)
 have a1 : Bx W0 (w.heap.size + 1) 29 g' nm' t' b' nx' (.slice ma' mn' mc') gv' := by
  subst hW0
  have h := Bx.new (w.alloc (.cells #[.int .i64 g, .string nm, .int .i64 t, .int .i64 b, .int .i64 nx, .slice ma mn mc, gv] 29)) 29 g' nm' t' b' nx' (.slice ma' mn' mc') gv'
  rwa [show (w.alloc (.cells #[.int .i64 g, .string nm, .int .i64 t, .int .i64 b, .int .i64 nx, .slice ma mn mc, gv] 29)).heap.size = w.heap.size + 1 by simp] at h
 have b0 : Below w.heap.size w W0 := by subst hW0; exact bpush (bpush (bre _) _) _
 have A0 := hid a0
 have A1 := hid a1
 have HR := hid (hm.later b0)
 have HR' := hid (hm'.later b0)
 have B0 := hid b0
 have HL := hid hl
 have HL' := hid hl'
 clear a0 a1 b0 hm hl hm' hl'
 have HS : Hid (∀ W, Below W0.heap.size W0 W → (W.cell? ⟨w.heap.size, 0, none⟩ = some (.int .i64 g) ∧ W.cell? ⟨w.heap.size, 1, none⟩ = some (.string nm) ∧ W.cell? ⟨w.heap.size, 2, none⟩ = some (.int .i64 t) ∧ W.cell? ⟨w.heap.size, 3, none⟩ = some (.int .i64 b) ∧ W.cell? ⟨w.heap.size, 4, none⟩ = some (.int .i64 nx) ∧ W.cell? ⟨w.heap.size, 5, none⟩ = some (.slice ma mn mc) ∧ W.cell? ⟨w.heap.size, 6, none⟩ = some gv) ∧ (W.cell? ⟨w.heap.size + 1, 0, none⟩ = some (.int .i64 g') ∧ W.cell? ⟨w.heap.size + 1, 1, none⟩ = some (.string nm') ∧ W.cell? ⟨w.heap.size + 1, 2, none⟩ = some (.int .i64 t') ∧ W.cell? ⟨w.heap.size + 1, 3, none⟩ = some (.int .i64 b') ∧ W.cell? ⟨w.heap.size + 1, 4, none⟩ = some (.int .i64 nx') ∧ W.cell? ⟨w.heap.size + 1, 5, none⟩ = some (.slice ma' mn' mc') ∧ W.cell? ⟨w.heap.size + 1, 6, none⟩ = some gv')) :=
  fun W h => ⟨(A0.out.later h).cells, (A1.out.later h).cells⟩
 go_enter Tryz.func18, Tryz.ntmps18
 go_wp2_with fail
 clear hW0
 go_region_held3 (fun W => (W.cell? ⟨w.heap.size, 0, none⟩ = some (.int .i64 g) ∧ W.cell? ⟨w.heap.size, 1, none⟩ = some (.string nm) ∧ W.cell? ⟨w.heap.size, 2, none⟩ = some (.int .i64 t) ∧ W.cell? ⟨w.heap.size, 3, none⟩ = some (.int .i64 b) ∧ W.cell? ⟨w.heap.size, 4, none⟩ = some (.int .i64 nx) ∧ W.cell? ⟨w.heap.size, 5, none⟩ = some (.slice ma mn mc) ∧ W.cell? ⟨w.heap.size, 6, none⟩ = some gv) ∧ (W.cell? ⟨w.heap.size + 1, 0, none⟩ = some (.int .i64 g') ∧ W.cell? ⟨w.heap.size + 1, 1, none⟩ = some (.string nm') ∧ W.cell? ⟨w.heap.size + 1, 2, none⟩ = some (.int .i64 t') ∧ W.cell? ⟨w.heap.size + 1, 3, none⟩ = some (.int .i64 b') ∧ W.cell? ⟨w.heap.size + 1, 4, none⟩ = some (.int .i64 nx') ∧ W.cell? ⟨w.heap.size + 1, 5, none⟩ = some (.slice ma' mn' mc') ∧ W.cell? ⟨w.heap.size + 1, 6, none⟩ = some gv'))
  ((refine HS.out _ ?_; repeat (first | exact bdr (bre _) | exact P2.out | exact P1.out | refine btr ?_ (by assumption))))
  ((first
    | (go_at_call 16; first
      | ((with_reducible refine (implMailAt_any lo hi g nm t b nx ma mn mc gv L x _ HL.out hn (HR.out.later (bdr (bre _)))).mono ?_); rintro e w1 ⟨rfl, hb1⟩; have P1 : Hid (Below W0.heap.size W0 w1) := btr (bdr (bre _)) hb1)
      | ((with_reducible refine (implMailAt_any lo' hi' g' nm' t' b' nx' ma' mn' mc' gv' L' x _ HL'.out hn' (HR'.out.later P1.out)).mono ?_); rintro e w2 ⟨rfl, hb2⟩; have P2 : Hid (Below W0.heap.size W0 w2) := btr P1.out hb2))))
 have A2 := hid (A0.out.later P2.out)
 have A3 := hid (A1.out.later P2.out)
 have R1 := hid (HR.out.later P2.out)
 have R2 := hid (HR'.out.later P2.out)
 have B2 := hid (btr B0.out P2.out)
 clear B0 A0 A1 HR HR' P1 P2 HS
 rcases fnd_at x R1.out with ⟨h1, h2⟩ | ⟨j, m, k, o, rfl, hj, h1, h2, hk, hc⟩
 ·rw [h2]
  have E1 : Hid (kpu L L' nx' x = false) := by show _ = _; rw [kpu, h1]
  clear h1 h2
  go_wp2
  go_ret
  exact ⟨by rw [E1.out]; rfl, B2.out⟩
 rw [h2]
 have H1 := hid h1
 have HJ : Hid (j < mn) := by show _ < _; rw [← HL.out]; exact hj
 have e0 : ((j : Int) < 0) = False := by simp
 have c2 := A2.out.cells
 have c3 := A3.out.cells
 obtain ⟨y, u, fl, tx⟩ := m
 dsimp only at hc
 have hI : (0 : Int) ≤ (j : Int) ∧ (j : Int) < (mn : Int) := by have := HJ.out; omega
 clear h1 h2 hk hj
 rcases fnd_at x R2.out with ⟨h1, h2⟩ | ⟨j', m', k', o', rfl, hj', h1, h2, hk', hc'⟩
 ·rw [h2]
  have E1 : Hid (kpu L L' nx' x = decide (nx' ≤ u)) := by show _ = _; rw [kpu, H1.out, h1]
  clear h1 h2
  by_cases hd : nx' ≤ u
  ·have E2 : Hid (kpu L L' nx' x = true) := by show _ = _; rw [E1.out]; exact decide_eq_true hd
   go_wp2
   go_ret
   exact ⟨by rw [E2.out]; rfl, B2.out⟩
  ·have E2 : Hid (kpu L L' nx' x = false) := by show _ = _; rw [E1.out]; exact decide_eq_false hd
   have hd' : (nx' ≤ u) = False := by simp only [hd]
   clear hd
   go_wp2
   go_ret
   exact ⟨by rw [E2.out]; rfl, B2.out⟩
 ·rw [h2]
  obtain ⟨y', u', fl', tx'⟩ := m'
  dsimp only at hc'
  have E1 : Hid (kpu L L' nx' x = (u == u')) := by show _ = _; rw [kpu, H1.out, h1]
  have HJ' : Hid (j' < mn') := by show _ < _; rw [← HL'.out]; exact hj'
  have hI' : (0 : Int) ≤ (j' : Int) ∧ (j' : Int) < (mn' : Int) := by have := HJ'.out; omega
  have e1 : ((j' : Int) < 0) = False := by simp
  clear h1 h2 hk' hj'
  go_wp2
  go_ret
  exact ⟨by rw [E1.out]; rfl, B2.out⟩
theorem Mg.same {W W' : World} {k ty : Nat} {g u : Int} {f : Value} {t : ByteArray} (h : Mg W k ty g u f t) (e : W'.heap[k]? = W.heap[k]?) : Mg W' k ty g u f t := e.trans h
theorem bs4 {B : Nat} {a w : World} (h : Below B a w) {k : Nat} (hk : B ≤ k) (g' u' : Int) (f' : Value) (t' : ByteArray) : Below B a ((((w.setCell ⟨k, 0, none⟩ (.int .i64 g')).setCell ⟨k, 1, none⟩ (.int .i64 u')).setCell ⟨k, 2, none⟩ f').setCell ⟨k, 3, none⟩ (.string t')) :=
 (((h.setCell (p := ⟨k, 0, none⟩) hk _).setCell (p := ⟨k, 1, none⟩) hk _).setCell (p := ⟨k, 2, none⟩) hk _).setCell (p := ⟨k, 3, none⟩) hk _
theorem mxs_size {t t' : ByteArray} (h : t.size ≤ 1048576) (h' : t'.size ≤ 1048576) : (mxs t t').size ≤ 1048576 := by
 unfold mxs; split
 ·exact h'
 ·exact h
set_option maxHeartbeats 1600000 in
set_option maxRecDepth 100000 in
theorem implJoinMail_any (g u : Int) (ao : Option Addr) (na ca : Nat) (l : List R3) (t : ByteArray) (g' u' : Int) (bo : Option Addr) (nb cb : Nat) (m : List R3) (t' : ByteArray) (w : World) (hla : l.length = na) (hlb : m.length = nb) (hna : na ≤ 1048576) (hnb : nb ≤ 1048576) (ht : t.size ≤ 1048576) (ht' : t'.size ≤ 1048576) (ha : Rs w ao l) (hb : Rs w bo m) (h0 : ao = none → ca = 0) :
  Calls Tryz.prog 86 #[.agg #[.int .i64 g, .int .i64 u, .slice ao na ca, .string t], .agg #[.int .i64 g', .int .i64 u', .slice bo nb cb, .string t']] w fun e w' => ∃ v, e = .returned (.agg #[.int .i64 g, .int .i64 (jmu g u g' u'), v, .string (jmt g t g' t')]) ∧ Ow w' w.heap.size v (jml g l g' m) ∧ Below w.heap.size w w' := by
 obtain ⟨W0, hW0⟩ : ∃ W0, (((w.alloc (.cells #[.int .i64 g, .int .i64 u, .slice ao na ca, .string t] 37)).alloc (.cells #[.int .i64 g', .int .i64 u', .slice bo nb cb, .string t'] 37)).alloc (.cells #[.int .i64 0, .int .i64 0, .slice none 0 0, .string ⟨#[]⟩] 37)) = W0 := ⟨_, rfl⟩
 obtain ⟨a0, a1, a2, b0⟩ := three_mails w _ _ _ _ _ _ _ _ _ _ _ _ _ _ _ W0 hW0
 have A0 := hid a0
 have A1 := hid a1
 have A2 := hid a2
 have B0 := hid b0
 have HA := hid (ha.later b0)
 have HB := hid (hb.later b0)
 have HLA := hid hla
 have HLB := hid hlb
 have HNA := hid hna
 have HNB := hid hnb
 have H0 := hid h0
 have HT := hid ht
 have HT' := hid ht'
 have HW : Hid (w.heap.size + 1 + 1 < W0.heap.size) := a2.lt
 have c0 := a0.cells
 have c1 := a1.cells
 clear a0 a1 a2 b0 ha hb hla hlb hna hnb h0 ht ht'
 by_cases hg : g = g'
 ·subst hg
  have EL : Hid (jml g l g m = jl l m) := by show _ = _; simp [jml]
  have hgg : (g != g) = false := by simp
  obtain ⟨y, hy⟩ : ∃ y, mxs t t' = y := ⟨_, rfl⟩
  have HM : Hid ((jl l m).length = min na nb) := by show _ = _; rw [jl_len, HLA.out, HLB.out]
  have ET : Hid (jmt g t g t' = y) := by show _ = _; simp [jmt, hy]
  have HY : Hid (y.size ≤ 1048576) := hy ▸ mxs_size HT.out HT'.out
  have hmx : ∀ ts ty W, (Builtin.max_ ts ty #[.string t, .string t']).run Tryz.prog W = .ok (.string y) W := fun ts ty W => hy ▸ run_max_str W ts ty t t'
  clear hy
  have K0 : Hid (w.heap.size + 1 + 1 ≤ W0.heap.size) := Nat.le_of_lt HW.out
  have HS : Hid (∀ W, Below (w.heap.size + 1 + 1) W0 W → (W.cell? ⟨w.heap.size, 0, none⟩ = some (.int .i64 g) ∧ W.cell? ⟨w.heap.size, 1, none⟩ = some (.int .i64 u) ∧ W.cell? ⟨w.heap.size, 2, none⟩ = some (.slice ao na ca) ∧ W.cell? ⟨w.heap.size, 3, none⟩ = some (.string t)) ∧ (W.cell? ⟨(w.heap.size + 1), 0, none⟩ = some (.int .i64 g) ∧ W.cell? ⟨(w.heap.size + 1), 1, none⟩ = some (.int .i64 u') ∧ W.cell? ⟨(w.heap.size + 1), 2, none⟩ = some (.slice bo nb cb) ∧ W.cell? ⟨(w.heap.size + 1), 3, none⟩ = some (.string t'))) :=
   fun W h => ⟨(A0.out.same (h.block _ (by omega))).cells, (A1.out.same (h.block _ (by omega))).cells⟩
  obtain ⟨z, hz⟩ : ∃ z : Int, max u u' = z := ⟨_, rfl⟩
  have hz2 : (if u' > u then u' else u) = z := by rw [← hz, Int.max_def]; split <;> split <;> omega
  have EU : Hid (jmu g u g u' = z) := by show _ = _; rw [← hz2]; simp [jmu]
  go_enter Tryz.func86, Tryz.ntmps86
  go_wp2_with fail
  clear hW0 c0 c1
  go_region_held3 (fun W => (W.cell? ⟨w.heap.size, 0, none⟩ = some (.int .i64 g) ∧ W.cell? ⟨w.heap.size, 1, none⟩ = some (.int .i64 u) ∧ W.cell? ⟨w.heap.size, 2, none⟩ = some (.slice ao na ca) ∧ W.cell? ⟨w.heap.size, 3, none⟩ = some (.string t)) ∧ (W.cell? ⟨(w.heap.size + 1), 0, none⟩ = some (.int .i64 g) ∧ W.cell? ⟨(w.heap.size + 1), 1, none⟩ = some (.int .i64 u') ∧ W.cell? ⟨(w.heap.size + 1), 2, none⟩ = some (.slice bo nb cb) ∧ W.cell? ⟨(w.heap.size + 1), 3, none⟩ = some (.string t')))
    ((refine HS.out _ ?_; first | exact (bdr (bre W0)).mono K0.out | exact C1.out.mono K0.out | exact C2.out.mono K0.out | exact bs4 (C2.out.mono K0.out) (Nat.le_refl _) _ _ _ _))
    ((first
      | (go_at_call 120; refine (implJoinFlags_any ao bo na nb ca cb l m _ HLA.out HLB.out HNA.out HNB.out (HA.out.later (bdr (bre _))) (HB.out.later (bdr (bre _)))).mono ?_; rintro e w1 ⟨rfl, hown, hb⟩; rw [HM.out] at hown ⊢; have HO : Hid (Ow w1 W0.heap.size (.slice (some ⟨W0.heap.size, 0, none⟩) (min na nb) (min na nb)) (jl l m)) := hown; have C1 : Hid (Below W0.heap.size W0 w1) := btr (bdr (bre _)) hb)
      | (go_at_call 80; refine (clone_any y _ HY.out).mono ?_; rintro e w2 ⟨rfl, hb'⟩; have HO2 := hid (own_later HO.out hb'); have C2 : Hid (Below W0.heap.size W0 w2) := btr C1.out hb'; have d2 := (A2.out.later C2.out).cells; have f2 := (A2.out.later C2.out).loose)))
  all_goals
   go_wp2
   have k := set4 (A2.out.later C2.out) g z (.slice (some ⟨W0.heap.size, 0, none⟩) (min na nb) (min na nb)) y
   have d3 := k.cells
   refine bodyPost_ret (v := .agg #[.int .i64 g, .int .i64 z, .slice (some ⟨W0.heap.size, 0, none⟩) (min na nb) (min na nb), .string y]) (by simp [results, Tryz.results86, go_sem, d3]) rfl ⟨.slice (some ⟨W0.heap.size, 0, none⟩) (min na nb) (min na nb), by rw [EU.out, ET.out], ?_, bel4 (btr B0.out C2.out) (by omega) _ _ _ _⟩
   rw [EL.out]
   have hw := HW.out
   exact own_base (own4 HO2.out (by omega) _ _ _ _) (by omega)
 ·have EL : Hid (jml g l g' m = l) := by show _ = _; simp [jml, hg]
  have EU : Hid (jmu g u g' u' = u) := by show _ = _; simp [jmu, hg]
  have ET : Hid (jmt g t g' t' = t) := by show _ = _; simp [jmt, hg]
  have hgg : (g != g') = true := bne_iff_ne.2 hg
  clear hg
  go_enter Tryz.func86, Tryz.ntmps86
  go_wp2_with fail
  clear hW0
  refine (copyOf_any g u ao na ca l t _ HLA.out HNA.out HT.out HA.out H0.out).mono ?_; rintro e w1 ⟨v, rfl, hown, hb⟩
  obtain ⟨av, cv, hv, _⟩ := Ow.shape hown
  rw [HLA.out] at hv
  subst hv
  have X2 := hid (A2.out.later hb)
  have B1 := hid (btr B0.out hb)
  have HO := hid hown
  clear c0 c1 hown hb
  have d2 := X2.out.cells
  have f2 := X2.out.loose
  go_wp2
  have d3 := (set4 X2.out g u (.slice av na cv) t).cells
  have hw := HW.out
  refine bodyPost_ret (v := .agg #[.int .i64 g, .int .i64 u, .slice av na cv, .string t]) (by simp [results, Tryz.results86, go_sem, d3]) rfl ⟨.slice av na cv, by rw [EU.out, ET.out], ?_, bel4 B1.out (by omega) _ _ _ _⟩
  rw [EL.out]
  exact own_base (own4 HO.out (by omega) _ _ _ _) (by omega)
end Go.Proofs.YtmpcmllfgogegaaGreat
