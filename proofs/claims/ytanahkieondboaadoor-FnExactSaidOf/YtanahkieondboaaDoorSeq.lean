/- Lists of boxes and stores held against each other. -/
import Derived.Test.YtanahkieondboaaDoorSto
namespace Go.Proofs.YtanahkieondboaaDoor
open Go.RowKit Go.ChangeMaps

set_option maxHeartbeats 1600000 in
set_option maxRecDepth 100000 in
/-- Two rows of the same boxes are told alike. -/
theorem eqBoxS_any (l1 h1 l2 h2 : Nat) (ao bo : Option Addr) (n ca cb : Nat) (S : List X7) (w : World) (hl : S.length = n) (hn : n ≤ 1048576) (hsb : Sb S) (ha : Bs l1 h1 w ao S) (hb : Bs l2 h2 w bo S) :
    Calls Tryd.prog 26 #[.slice ao n ca, .slice bo n cb] w fun e w' => e = .returned (.bool true) ∧ Below w.heap.size w w' := by
  have hnn : ((n : Int) != (n : Int)) = false := by simp
  have HA := hid ha
  have HB := hid hb
  have HL := hid hl
  have HS := hid hsb
  clear ha hb hl hsb
  go_enter Tryd.func26, Tryd.ntmps26
  go_wp2
  clear hnn
  go_loopw [5] (fun iv wr => ∃ i : Nat, i ≤ n ∧ iv = .int .i64 (i : Int) ∧ Below w.heap.size w wr) (fun iv _ => n - (intOf iv).toNat)
  case atStart => exact ⟨0, Nat.zero_le _, rfl, bre _⟩
  case round =>
    obtain ⟨i, hi, rfl, hb⟩ := hrel
    have HBE := hid hb
    clear hb
    by_cases hlt : i < n
    · have hil : i < S.length := by rw [HL.out]; exact hlt
      obtain ⟨k, o, ma, mc, ga, gc, rfl, hk, c, hms, his, _⟩ := (HA.out.later HBE.out).at hil
      obtain ⟨k', o', ma', mc', ga', gc', rfl, hk', d, hms', his', _⟩ := (HB.out.later HBE.out).at hil
      have hmem := HS.out S[i] (List.getElem_mem hil)
      obtain ⟨p, hp⟩ : ∃ p, S[i] = p := ⟨_, rfl⟩
      rw [hp] at c d hms his hms' his' hmem
      obtain ⟨g, nm, t, b, nx, L, G⟩ := p
      dsimp only at c d hms his hms' his' hmem
      obtain ⟨m, hm⟩ : ∃ m, L.length = m := ⟨_, rfl⟩
      obtain ⟨q, hq⟩ : ∃ q, G.length = q := ⟨_, rfl⟩
      rw [hm, hq] at c d hmem
      have HM := hid hm
      have HQ := hid hq
      have HMM := hid hmem
      have R1 := hid hms
      have R2 := hid hms'
      have I1 := hid his
      have I2 := hid his'
      have hI : (0 : Int) ≤ (i : Int) ∧ (i : Int) < (n : Int) := by omega
      have HSS : Hid (∀ W, Below wr.heap.size wr W → (W.cell? ⟨k, o + i * 7, none⟩ = some (.int .i64 g) ∧ W.cell? ⟨k, o + i * 7 + 1, none⟩ = some (.string nm) ∧ W.cell? ⟨k, o + i * 7 + 2, none⟩ = some (.int .i64 t) ∧ W.cell? ⟨k, o + i * 7 + 3, none⟩ = some (.int .i64 b) ∧ W.cell? ⟨k, o + i * 7 + 4, none⟩ = some (.int .i64 nx) ∧ W.cell? ⟨k, o + i * 7 + 5, none⟩ = some (.slice ma m mc) ∧ W.cell? ⟨k, o + i * 7 + 6, none⟩ = some (.slice ga q gc)) ∧ (W.cell? ⟨k', o' + i * 7, none⟩ = some (.int .i64 g) ∧ W.cell? ⟨k', o' + i * 7 + 1, none⟩ = some (.string nm) ∧ W.cell? ⟨k', o' + i * 7 + 2, none⟩ = some (.int .i64 t) ∧ W.cell? ⟨k', o' + i * 7 + 3, none⟩ = some (.int .i64 b) ∧ W.cell? ⟨k', o' + i * 7 + 4, none⟩ = some (.int .i64 nx) ∧ W.cell? ⟨k', o' + i * 7 + 5, none⟩ = some (.slice ma' m mc') ∧ W.cell? ⟨k', o' + i * 7 + 6, none⟩ = some (.slice ga' q gc'))) := fun W h => ⟨C7.later c hk h, C7.later d hk' h⟩
      clear c d hp hm hq hmem hms his hms' his'
      go_wp2_with fail
      go_region_held3 (fun W => (W.cell? ⟨k, o + i * 7, none⟩ = some (.int .i64 g) ∧ W.cell? ⟨k, o + i * 7 + 1, none⟩ = some (.string nm) ∧ W.cell? ⟨k, o + i * 7 + 2, none⟩ = some (.int .i64 t) ∧ W.cell? ⟨k, o + i * 7 + 3, none⟩ = some (.int .i64 b) ∧ W.cell? ⟨k, o + i * 7 + 4, none⟩ = some (.int .i64 nx) ∧ W.cell? ⟨k, o + i * 7 + 5, none⟩ = some (.slice ma m mc) ∧ W.cell? ⟨k, o + i * 7 + 6, none⟩ = some (.slice ga q gc)) ∧ (W.cell? ⟨k', o' + i * 7, none⟩ = some (.int .i64 g) ∧ W.cell? ⟨k', o' + i * 7 + 1, none⟩ = some (.string nm) ∧ W.cell? ⟨k', o' + i * 7 + 2, none⟩ = some (.int .i64 t) ∧ W.cell? ⟨k', o' + i * 7 + 3, none⟩ = some (.int .i64 b) ∧ W.cell? ⟨k', o' + i * 7 + 4, none⟩ = some (.int .i64 nx) ∧ W.cell? ⟨k', o' + i * 7 + 5, none⟩ = some (.slice ma' m mc') ∧ W.cell? ⟨k', o' + i * 7 + 6, none⟩ = some (.slice ga' q gc')))
        ((refine HSS.out _ ?_; repeat (first | exact bdr (bre _) | refine btr ?_ (by assumption))))
        ((go_at_call 34; refine (eqBox_any l1 h1 l2 h2 l1 h1 l2 h2 g nm t b nx ma m mc ga q gc ma' mc' ga' gc' L G _ HM.out HMM.out.2.1 HMM.out.2.2.1 (R1.out.later (by repeat (first | exact bdr (bre _) | exact bre _ | refine btr ?_ (by assumption)))) (R2.out.later (by repeat (first | exact bdr (bre _) | exact bre _ | refine btr ?_ (by assumption)))) HQ.out HMM.out.2.2.2 (I1.out.later (by repeat (first | exact bdr (bre _) | exact bre _ | refine btr ?_ (by assumption)))) (I2.out.later (by repeat (first | exact bdr (bre _) | exact bre _ | refine btr ?_ (by assumption))))).mono ?_; rintro e w1 ⟨rfl, hb1⟩))
      have HB1 : Hid (Below w.heap.size w w1) := by show Below _ _ _; refine btr HBE.out ?_; repeat (first | exact bdr (bre _) | refine btr ?_ (by assumption))
      go_wp2
      go_roundw
      case rel => exact ⟨i + 1, by omega, by go_num, HB1.out⟩
      case measure => simp [intOf]; omega
    · go_wp2
      go_ret
      exact ⟨rfl, HBE.out⟩

theorem two_stores (w : World) (ta tb : Nat) (y tm y1 tm1 : Int) (bv gv bv1 gv1 : Value) (W0 : World)
    (h : ((w.alloc (.cells #[.int .i64 y, .int .i64 tm, bv, gv] ta)).alloc (.cells #[.int .i64 y1, .int .i64 tm1, bv1, gv1] tb)) = W0) :
    Sx W0 w.heap.size ta y tm bv gv ∧ Sx W0 (w.heap.size + 1) tb y1 tm1 bv1 gv1 ∧ Below w.heap.size w W0 ∧ W0.heap.size = w.heap.size + 1 + 1 := by
  have e1 : (w.alloc (.cells #[.int .i64 y, .int .i64 tm, bv, gv] ta)).heap.size = w.heap.size + 1 := by simp
  have h1 := Sx.new (w.alloc (.cells #[.int .i64 y, .int .i64 tm, bv, gv] ta)) tb y1 tm1 bv1 gv1
  rw [e1] at h1
  subst h
  exact ⟨(Sx.new w ta y tm bv gv).later (bpush (bre _) _), h1, bpush (bpush (bre _) _) _, by simp⟩

set_option maxHeartbeats 800000 in
set_option maxRecDepth 100000 in
theorem eqStore_any (l1 h1 l2 h2 l3 h3 l4 h4 : Nat) (y tm : Int) (ba : Option Addr) (bn bc : Nat) (ga : Option Addr) (gn gc : Nat) (ba' : Option Addr) (bc' : Nat) (ga' : Option Addr) (gc' : Nat) (S : List X7) (G : List Int) (w : World) (hl : S.length = bn) (hn : bn ≤ 1048576) (hsb : Sb S) (hm : Bs l1 h1 w ba S) (hm' : Bs l2 h2 w ba' S)
    (hgl : G.length = gn) (hgn : gn ≤ 1048576) (hs : Is l3 h3 w ga G) (hs' : Is l4 h4 w ga' G) :
    Calls Tryd.prog 11 #[.agg #[.int .i64 y, .int .i64 tm, .slice ba bn bc, .slice ga gn gc], .agg #[.int .i64 y, .int .i64 tm, .slice ba' bn bc', .slice ga' gn gc']] w fun e w' => e = .returned (.bool true) ∧ Below w.heap.size w w' := by
  obtain ⟨W0, hW0⟩ : ∃ W0, ((w.alloc (.cells #[.int .i64 y, .int .i64 tm, .slice ba bn bc, .slice ga gn gc] 32)).alloc (.cells #[.int .i64 y, .int .i64 tm, .slice ba' bn bc', .slice ga' gn gc'] 32)) = W0 := ⟨_, rfl⟩
  obtain ⟨a0, a1, b0, _⟩ := two_stores w _ _ _ _ _ _ _ _ _ _ W0 hW0
  have A0 := hid a0
  have A1 := hid a1
  have B0 := hid b0
  have c0 := a0.cells
  have c1 := a1.cells
  have HM := hid hm
  have HM' := hid hm'
  have HS := hid hs
  have HS' := hid hs'
  have HX := hid hsb
  have e1 : (y != y) = false := by simp
  have e2 : (tm != tm) = false := by simp
  clear a0 a1 b0 hm hm' hs hs' hsb
  go_enter Tryd.func11, Tryd.ntmps11
  go_wp2_with fail
  clear hW0
  refine (eqBoxS_any l1 h1 l2 h2 ba ba' bn bc bc' S _ hl hn HX.out (HM.out.later B0.out) (HM'.out.later B0.out)).mono ?_; rintro e w2 ⟨rfl, hb2⟩
  have k0 := A0.out.later hb2
  have k1 := A1.out.later hb2
  have B2 := hid (btr B0.out hb2)
  have c0 := k0.cells
  have c1 := k1.cells
  clear hb2 k0 k1 A0 A1 B0
  go_wp2_with fail
  refine (eqIntS_any l3 h3 l4 h4 ga ga' gn gc gc' G _ hgl hgn (HS.out.later B2.out) (HS'.out.later B2.out)).mono ?_; rintro e w3 ⟨rfl, hb3⟩
  have B3 := hid (btr B2.out hb3)
  clear hb3
  go_wp2
  go_ret
  exact ⟨rfl, B3.out⟩
end Go.Proofs.YtanahkieondboaaDoor
