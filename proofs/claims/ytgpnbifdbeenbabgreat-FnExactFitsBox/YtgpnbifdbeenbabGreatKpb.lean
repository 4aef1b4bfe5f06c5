/- Whether a mail keeps its number: both programs. -/
import Derived.Test.YtgpnbifdbeenbabGreatKpu
namespace Go.Proofs.YtgpnbifdbeenbabGreat
open Go.RowKit

/-- The first mail of a Gid, by its place: nothing, or its cells. -/
theorem fnd_at {lo hi : Nat} {W : World} {ma : Option Addr} {L : List M4} (x : Int) (h : Ms lo hi W ma L) :
    (fnd x L = none ∧ mat x L 0 = -1) ∨ ∃ (j : Nat) (m : M4) (k o : Nat), ma = some ⟨k, o, none⟩ ∧ j < L.length ∧ fnd x L = some m ∧ mat x L 0 = (j : Int) ∧ k < W.heap.size ∧ W.cell? ⟨k, o + j * 4 + 1, none⟩ = some (.int .i64 m.2.1) := by
  rcases mat_fnd x L 0 with h0 | ⟨j, h1, h2, h3⟩
  · exact Or.inl h0
  · obtain ⟨k, o, fa, fc, e, hk, ⟨-, c1, -, -⟩, -⟩ := h.at h1
    exact Or.inr ⟨j, L[j], k, o, e, h1, h2, by rw [h3]; congr 1; omega, hk, c1⟩

set_option maxHeartbeats 800000 in
set_option maxRecDepth 100000 in
theorem specKeeps_any (lo hi lo' hi' : Nat) (g : Int) (nm : ByteArray) (t b nx : Int) (ma : Option Addr) (mn mc : Nat) (gv : Value) (L : List M4) (g' : Int) (nm' : ByteArray) (t' b' nx' : Int) (ma' : Option Addr) (mn' mc' : Nat) (gv' : Value) (L' : List M4) (x : Int) (w : World) (hl : L.length = mn) (hn : mn ≤ 1048576) (hm : Ms lo hi w ma L) (hl' : L'.length = mn') (hn' : mn' ≤ 1048576) (hm' : Ms lo' hi' w ma' L') :
    Calls Tryz.prog 50 #[.agg #[.int .i64 g, .string nm, .int .i64 t, .int .i64 b, .int .i64 nx, .slice ma mn mc, gv], .agg #[.int .i64 g', .string nm', .int .i64 t', .int .i64 b', .int .i64 nx', .slice ma' mn' mc', gv'], .int .i64 x] w fun e w' => e = .returned (.bool (kpu L L' nx' x)) ∧ Below w.heap.size w w' := by
  obtain ⟨W0, hW0⟩ : ∃ W0, (w.alloc (.cells #[.int .i64 g, .string nm, .int .i64 t, .int .i64 b, .int .i64 nx, .slice ma mn mc, gv] 33)).alloc (.cells #[.int .i64 g', .string nm', .int .i64 t', .int .i64 b', .int .i64 nx', .slice ma' mn' mc', gv'] 33) = W0 := ⟨_, rfl⟩
  have a0 : Bx W0 w.heap.size 33 g nm t b nx (.slice ma mn mc) gv := by subst hW0; exact (Bx.new w _ g nm t b nx _ _).later (bpush (bre _) _)
  have a1 : Bx W0 (w.heap.size + 1) 33 g' nm' t' b' nx' (.slice ma' mn' mc') gv' := by
    subst hW0
    have h := Bx.new (w.alloc (.cells #[.int .i64 g, .string nm, .int .i64 t, .int .i64 b, .int .i64 nx, .slice ma mn mc, gv] 33)) 33 g' nm' t' b' nx' (.slice ma' mn' mc') gv'
    rwa [show (w.alloc (.cells #[.int .i64 g, .string nm, .int .i64 t, .int .i64 b, .int .i64 nx, .slice ma mn mc, gv] 33)).heap.size = w.heap.size + 1 by simp] at h
  have b0 : Below w.heap.size w W0 := by subst hW0; exact bpush (bpush (bre _) _) _
  have c0 := a0.cells
  have A0 := hid a0
  have A1 := hid a1
  have HR := hid (hm.later b0)
  have HR' := hid (hm'.later b0)
  have B0 := hid b0
  have HL := hid hl
  have HL' := hid hl'
  clear a0 a1 b0 hm hl hm' hl'
  go_enter Tryz.func50, Tryz.ntmps50
  go_wp2_with fail
  clear hW0 c0
  refine (specMailAt_any lo hi g nm t b nx ma mn mc gv L x _ HL.out hn HR.out).mono ?_; rintro e w1 ⟨rfl, hb1⟩
  have A2 := hid (A0.out.later hb1)
  have A3 := hid (A1.out.later hb1)
  have R1 := hid (HR.out.later hb1)
  have R2 := hid (HR'.out.later hb1)
  have B1 := hid (btr B0.out hb1)
  clear hb1 B0 A0 A1 HR HR'
  rcases fnd_at x R1.out with ⟨h1, h2⟩ | ⟨j, m, k, o, rfl, hj, h1, h2, hk, hc⟩
  · rw [h2]
    have E1 : Hid (kpu L L' nx' x = false) := by show _ = _; rw [kpu, h1]
    clear h1 h2
    go_wp2
    go_ret
    exact ⟨by rw [E1.out]; rfl, B1.out⟩
  rw [h2]
  have H1 := hid h1
  have HC := hid hc
  have HK := hid hk
  have HJ : Hid (j < mn) := by show _ < _; rw [← HL.out]; exact hj
  have e0 : ((j : Int) < 0) = False := by simp
  have c1 := A3.out.cells
  clear h1 h2 hc hk hj
  go_wp2_with fail
  clear c1
  refine (specMailAt_any lo' hi' g' nm' t' b' nx' ma' mn' mc' gv' L' x _ HL'.out hn' R2.out).mono ?_; rintro e w2 ⟨rfl, hb2⟩
  have c2 := (A2.out.later hb2).cells
  have hc := (hb2.cell (p := ⟨k, o + j * 4 + 1, none⟩) HK.out).trans HC.out
  have B2 := hid (btr B1.out hb2)
  have c3 := (A3.out.later hb2).cells
  have R3 := R2.out.later hb2
  obtain ⟨y, u, fl, tx⟩ := m
  dsimp only at hc
  have hI : (0 : Int) ≤ (j : Int) ∧ (j : Int) < (mn : Int) := by have := HJ.out; omega
  clear hb2
  rcases fnd_at x R3 with ⟨h1, h2⟩ | ⟨j', m', k', o', rfl, hj', h1, h2, hk', hc'⟩
  · rw [h2]
    have E1 : Hid (kpu L L' nx' x = decide (nx' ≤ u)) := by show _ = _; rw [kpu, H1.out, h1]
    clear h1 h2 R3
    by_cases hd : nx' ≤ u
    · have E2 : Hid (kpu L L' nx' x = true) := by show _ = _; rw [E1.out]; exact decide_eq_true hd
      go_wp2_with fail
      go_region
      go_wp2
      go_ret
      exact ⟨by rw [E2.out]; rfl, bdr B2.out⟩
    · have E2 : Hid (kpu L L' nx' x = false) := by show _ = _; rw [E1.out]; exact decide_eq_false hd
      have hd' : (nx' ≤ u) = False := by simp only [hd]
      clear hd
      go_wp2_with fail
      go_region
      go_wp2
      go_ret
      exact ⟨by rw [E2.out]; rfl, bdr B2.out⟩
  · rw [h2]
    obtain ⟨y', u', fl', tx'⟩ := m'
    dsimp only at hc'
    have E1 : Hid (kpu L L' nx' x = (u == u')) := by show _ = _; rw [kpu, H1.out, h1]
    have HJ' : Hid (j' < mn') := by show _ < _; rw [← HL'.out]; exact hj'
    have hI' : (0 : Int) ≤ (j' : Int) ∧ (j' : Int) < (mn' : Int) := by have := HJ'.out; omega
    have e1 : ((0 : Int) ≤ (j' : Int)) = True := by simp
    clear h1 h2 R3 hk' hj'
    go_wp2_with fail
    go_region
    go_wp2
    go_ret
    exact ⟨by rw [E1.out]; rfl, bdr B2.out⟩

set_option maxHeartbeats 800000 in
set_option maxRecDepth 100000 in
theorem implKeeps_any (lo hi lo' hi' : Nat) (g : Int) (nm : ByteArray) (t b nx : Int) (ma : Option Addr) (mn mc : Nat) (gv : Value) (L : List M4) (g' : Int) (nm' : ByteArray) (t' b' nx' : Int) (ma' : Option Addr) (mn' mc' : Nat) (gv' : Value) (L' : List M4) (x : Int) (w : World) (hl : L.length = mn) (hn : mn ≤ 1048576) (hm : Ms lo hi w ma L) (hl' : L'.length = mn') (hn' : mn' ≤ 1048576) (hm' : Ms lo' hi' w ma' L') :
    Calls Tryz.prog 94 #[.agg #[.int .i64 g, .string nm, .int .i64 t, .int .i64 b, .int .i64 nx, .slice ma mn mc, gv], .agg #[.int .i64 g', .string nm', .int .i64 t', .int .i64 b', .int .i64 nx', .slice ma' mn' mc', gv'], .int .i64 x] w fun e w' => e = .returned (.bool (kpu L L' nx' x)) ∧ Below w.heap.size w w' := by
  obtain ⟨W0, hW0⟩ : ∃ W0, (w.alloc (.cells #[.int .i64 g, .string nm, .int .i64 t, .int .i64 b, .int .i64 nx, .slice ma mn mc, gv] 33)).alloc (.cells #[.int .i64 g', .string nm', .int .i64 t', .int .i64 b', .int .i64 nx', .slice ma' mn' mc', gv'] 33) = W0 := ⟨_, rfl⟩
  have a0 : Bx W0 w.heap.size 33 g nm t b nx (.slice ma mn mc) gv := by subst hW0; exact (Bx.new w _ g nm t b nx _ _).later (bpush (bre _) _)
  have a1 : Bx W0 (w.heap.size + 1) 33 g' nm' t' b' nx' (.slice ma' mn' mc') gv' := by
    subst hW0
    have h := Bx.new (w.alloc (.cells #[.int .i64 g, .string nm, .int .i64 t, .int .i64 b, .int .i64 nx, .slice ma mn mc, gv] 33)) 33 g' nm' t' b' nx' (.slice ma' mn' mc') gv'
    rwa [show (w.alloc (.cells #[.int .i64 g, .string nm, .int .i64 t, .int .i64 b, .int .i64 nx, .slice ma mn mc, gv] 33)).heap.size = w.heap.size + 1 by simp] at h
  have b0 : Below w.heap.size w W0 := by subst hW0; exact bpush (bpush (bre _) _) _
  have A0 := hid a0
  have A1 := hid a1
  have HR := hid (hm.later b0)
  have HR' := hid (hm'.later b0)
  have B0 := hid b0
  have HL := hid hl
  have HL' := hid hl'
  clear a0 a1 b0 hm hl hm' hl'
  have HS : Hid (∀ W, Below W0.heap.size W0 W → (W.cell? ⟨w.heap.size, 0, none⟩ = some (.int .i64 g) ∧ W.cell? ⟨w.heap.size, 1, none⟩ = some (.string nm) ∧ W.cell? ⟨w.heap.size, 2, none⟩ = some (.int .i64 t) ∧ W.cell? ⟨w.heap.size, 3, none⟩ = some (.int .i64 b) ∧ W.cell? ⟨w.heap.size, 4, none⟩ = some (.int .i64 nx) ∧ W.cell? ⟨w.heap.size, 5, none⟩ = some (.slice ma mn mc) ∧ W.cell? ⟨w.heap.size, 6, none⟩ = some gv) ∧ (W.cell? ⟨w.heap.size + 1, 0, none⟩ = some (.int .i64 g') ∧ W.cell? ⟨w.heap.size + 1, 1, none⟩ = some (.string nm') ∧ W.cell? ⟨w.heap.size + 1, 2, none⟩ = some (.int .i64 t') ∧ W.cell? ⟨w.heap.size + 1, 3, none⟩ = some (.int .i64 b') ∧ W.cell? ⟨w.heap.size + 1, 4, none⟩ = some (.int .i64 nx') ∧ W.cell? ⟨w.heap.size + 1, 5, none⟩ = some (.slice ma' mn' mc') ∧ W.cell? ⟨w.heap.size + 1, 6, none⟩ = some gv')) :=
    fun W h => ⟨(A0.out.later h).cells, (A1.out.later h).cells⟩
  go_enter Tryz.func94, Tryz.ntmps94
  go_wp2_with fail
  clear hW0
  go_region_held3 (fun W => (W.cell? ⟨w.heap.size, 0, none⟩ = some (.int .i64 g) ∧ W.cell? ⟨w.heap.size, 1, none⟩ = some (.string nm) ∧ W.cell? ⟨w.heap.size, 2, none⟩ = some (.int .i64 t) ∧ W.cell? ⟨w.heap.size, 3, none⟩ = some (.int .i64 b) ∧ W.cell? ⟨w.heap.size, 4, none⟩ = some (.int .i64 nx) ∧ W.cell? ⟨w.heap.size, 5, none⟩ = some (.slice ma mn mc) ∧ W.cell? ⟨w.heap.size, 6, none⟩ = some gv) ∧ (W.cell? ⟨w.heap.size + 1, 0, none⟩ = some (.int .i64 g') ∧ W.cell? ⟨w.heap.size + 1, 1, none⟩ = some (.string nm') ∧ W.cell? ⟨w.heap.size + 1, 2, none⟩ = some (.int .i64 t') ∧ W.cell? ⟨w.heap.size + 1, 3, none⟩ = some (.int .i64 b') ∧ W.cell? ⟨w.heap.size + 1, 4, none⟩ = some (.int .i64 nx') ∧ W.cell? ⟨w.heap.size + 1, 5, none⟩ = some (.slice ma' mn' mc') ∧ W.cell? ⟨w.heap.size + 1, 6, none⟩ = some gv'))
    ((refine HS.out _ ?_; repeat (first | exact bdr (bre _) | exact P2.out | exact P1.out | refine btr ?_ (by assumption))))
    ((first
      | (go_at_call 118; first
        | ((with_reducible refine (implMailAt_any lo hi g nm t b nx ma mn mc gv L x _ HL.out hn (HR.out.later (bdr (bre _)))).mono ?_); rintro e w1 ⟨rfl, hb1⟩; have P1 : Hid (Below W0.heap.size W0 w1) := btr (bdr (bre _)) hb1)
        | ((with_reducible refine (implMailAt_any lo' hi' g' nm' t' b' nx' ma' mn' mc' gv' L' x _ HL'.out hn' (HR'.out.later P1.out)).mono ?_); rintro e w2 ⟨rfl, hb2⟩; have P2 : Hid (Below W0.heap.size W0 w2) := btr P1.out hb2))))
  have A2 := hid (A0.out.later P2.out)
  have A3 := hid (A1.out.later P2.out)
  have R1 := hid (HR.out.later P2.out)
  have R2 := hid (HR'.out.later P2.out)
  have B2 := hid (btr B0.out P2.out)
  clear B0 A0 A1 HR HR' P1 P2 HS
  rcases fnd_at x R1.out with ⟨h1, h2⟩ | ⟨j, m, k, o, rfl, hj, h1, h2, hk, hc⟩
  · rw [h2]
    have E1 : Hid (kpu L L' nx' x = false) := by show _ = _; rw [kpu, h1]
    clear h1 h2
    go_wp2
    go_ret
    exact ⟨by rw [E1.out]; rfl, B2.out⟩
  rw [h2]
  have H1 := hid h1
  have HJ : Hid (j < mn) := by show _ < _; rw [← HL.out]; exact hj
  have e0 : ((j : Int) < 0) = False := by simp
  have c2 := A2.out.cells
  have c3 := A3.out.cells
  obtain ⟨y, u, fl, tx⟩ := m
  dsimp only at hc
  have hI : (0 : Int) ≤ (j : Int) ∧ (j : Int) < (mn : Int) := by have := HJ.out; omega
  clear h1 h2 hk hj
  rcases fnd_at x R2.out with ⟨h1, h2⟩ | ⟨j', m', k', o', rfl, hj', h1, h2, hk', hc'⟩
  · rw [h2]
    have E1 : Hid (kpu L L' nx' x = decide (nx' ≤ u)) := by show _ = _; rw [kpu, H1.out, h1]
    clear h1 h2
    by_cases hd : nx' ≤ u
    · have E2 : Hid (kpu L L' nx' x = true) := by show _ = _; rw [E1.out]; exact decide_eq_true hd
      go_wp2
      go_ret
      exact ⟨by rw [E2.out]; rfl, B2.out⟩
    · have E2 : Hid (kpu L L' nx' x = false) := by show _ = _; rw [E1.out]; exact decide_eq_false hd
      have hd' : (nx' ≤ u) = False := by simp only [hd]
      clear hd
      go_wp2
      go_ret
      exact ⟨by rw [E2.out]; rfl, B2.out⟩
  · rw [h2]
    obtain ⟨y', u', fl', tx'⟩ := m'
    dsimp only at hc'
    have E1 : Hid (kpu L L' nx' x = (u == u')) := by show _ = _; rw [kpu, H1.out, h1]
    have HJ' : Hid (j' < mn') := by show _ < _; rw [← HL'.out]; exact hj'
    have hI' : (0 : Int) ≤ (j' : Int) ∧ (j' : Int) < (mn' : Int) := by have := HJ'.out; omega
    have e1 : ((j' : Int) < 0) = False := by simp
    clear h1 h2 hk' hj'
    go_wp2
    go_ret
    exact ⟨by rw [E1.out]; rfl, B2.out⟩
end Go.Proofs.YtgpnbifdbeenbabGreat
