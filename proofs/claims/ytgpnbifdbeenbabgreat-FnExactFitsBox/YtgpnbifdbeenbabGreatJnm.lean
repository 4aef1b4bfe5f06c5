/- The name of what two boxes come to: the program's own. -/
import Derived.Test.YtgpnbifdbeenbabGreatLhk
import Derived.Test.YtgpnbifdbeenbabGreatJbx
namespace Go.Proofs.YtgpnbifdbeenbabGreat
open Go.RowKit Go.ChangeMaps

theorem Sg.loose8 {W : World} {k ty : Nat} {t b : Int} (h : Sg W k ty t b) : W.frozen? ⟨k, 0, none⟩ = false ∧ W.frozen? ⟨k, 1, none⟩ = false :=
  ⟨frozen_of_row W k 0 _ _ h, frozen_of_row W k 1 _ _ h⟩

set_option maxHeartbeats 8000000 in
set_option maxRecDepth 100000 in
theorem joinedName_any (g : Int) (nm : ByteArray) (t b nx : Int) (mv gv : Value) (g' : Int) (nm' : ByteArray) (t' b' nx' : Int) (mv' gv' : Value) (w : World) (hnm : nm.size ≤ 1048576) (hnm' : nm'.size ≤ 1048576) (hv : ∃ a n c, mv = .slice a n c) (hv2 : ∃ a n c, gv = .slice a n c) (hv' : ∃ a n c, mv' = .slice a n c) (hv2' : ∃ a n c, gv' = .slice a n c) :
    Calls Tryz.prog 39 #[.agg #[.int .i64 g, .string nm, .int .i64 t, .int .i64 b, .int .i64 nx, mv, gv], .agg #[.int .i64 g', .string nm', .int .i64 t', .int .i64 b', .int .i64 nx', mv', gv']] w fun e w' => e = .returned (.tuple #[.string (if bnm nm t b nm' t' b' = true then nm' else nm), .agg #[.int .i64 (if bnm nm t b nm' t' b' = true then t' else t), .int .i64 (if bnm nm t b nm' t' b' = true then b' else b)]]) ∧ Below w.heap.size w w' := by
  obtain ⟨va, vn, vc, rfl⟩ := hv
  obtain ⟨ua, un, uc, rfl⟩ := hv2
  obtain ⟨va', vn', vc', rfl⟩ := hv'
  obtain ⟨ua', un', uc', rfl⟩ := hv2'
  obtain ⟨W0, hW0⟩ : ∃ W0, (((w.alloc (.cells #[.int .i64 g, .string nm, .int .i64 t, .int .i64 b, .int .i64 nx, (.slice va vn vc), (.slice ua un uc)] 33)).alloc (.cells #[.int .i64 g', .string nm', .int .i64 t', .int .i64 b', .int .i64 nx', (.slice va' vn' vc'), (.slice ua' un' uc')] 33)).alloc (.cells #[.int .i64 0, .int .i64 0] 31)).alloc (.cells #[.int .i64 g, .string nm, .int .i64 t, .int .i64 b, .int .i64 nx, (.slice va vn vc), (.slice ua un uc)] 33) = W0 := ⟨_, rfl⟩
  have a0 : Bx W0 w.heap.size 33 g nm t b nx (.slice va vn vc) (.slice ua un uc) := by subst hW0; exact (Bx.new w _ g nm t b nx _ _).later (bpush (bpush (bpush (bre _) _) _) _)
  have a1 : Bx W0 (w.heap.size + 1) 33 g' nm' t' b' nx' (.slice va' vn' vc') (.slice ua' un' uc') := by
    subst hW0
    refine Bx.later ?_ (bpush (bpush (bre _) _) _)
    simpa using Bx.new (w.alloc (.cells #[.int .i64 g, .string nm, .int .i64 t, .int .i64 b, .int .i64 nx, (.slice va vn vc), (.slice ua un uc)] 33)) 33 g' nm' t' b' nx' (.slice va' vn' vc') (.slice ua' un' uc')
  have a2 : Sg W0 (w.heap.size + 1 + 1) 31 0 0 := by
    subst hW0
    refine Sg.later ?_ (bpush (bre _) _)
    simpa using Sg.new ((w.alloc (.cells #[.int .i64 g, .string nm, .int .i64 t, .int .i64 b, .int .i64 nx, (.slice va vn vc), (.slice ua un uc)] 33)).alloc (.cells #[.int .i64 g', .string nm', .int .i64 t', .int .i64 b', .int .i64 nx', (.slice va' vn' vc'), (.slice ua' un' uc')] 33)) 31 0 0
  have a3 : Bx W0 (w.heap.size + 1 + 1 + 1) 33 g nm t b nx (.slice va vn vc) (.slice ua un uc) := by
    subst hW0
    simpa using Bx.new (((w.alloc (.cells #[.int .i64 g, .string nm, .int .i64 t, .int .i64 b, .int .i64 nx, (.slice va vn vc), (.slice ua un uc)] 33)).alloc (.cells #[.int .i64 g', .string nm', .int .i64 t', .int .i64 b', .int .i64 nx', (.slice va' vn' vc'), (.slice ua' un' uc')] 33)).alloc (.cells #[.int .i64 0, .int .i64 0] 31)) 33 g nm t b nx (.slice va vn vc) (.slice ua un uc)
  have b0 : Below w.heap.size w W0 := by subst hW0; exact bpush (bpush (bpush (bpush (bre _) _) _) _) _
  have A0 := hid a0
  have D0 := hid a1
  have T0 := hid a2
  have L0 := hid a3
  have B0 := hid b0
  have HNS1 := hid hnm
  have HNS2 := hid hnm'
  have c0 := a0.cells
  have c1 := a1.cells
  obtain ⟨p, hp⟩ : ∃ p, later t' b' t b = p := ⟨_, rfl⟩
  have CP := hid (implLater_any t' b' t b)
  rw [hp] at CP
  obtain ⟨nbx, hnbx⟩ : ∃ nbx, bnm nm t b nm' t' b' = nbx := ⟨_, rfl⟩
  have HBN : Hid ((p || ((decide (t = t') && decide (b = b')) && !(Op.bytesLess nm'.toList nm.toList || nm'.toList == nm.toList))) = nbx) := by show _ = _; rw [← hnbx, bnm, hp]
  rw [hnbx]
  obtain ⟨N1, hN1⟩ : ∃ N1, (if nbx = true then nm' else nm) = N1 := ⟨_, rfl⟩
  obtain ⟨T1, hT1⟩ : ∃ T1, (if nbx = true then t' else t) = T1 := ⟨_, rfl⟩
  obtain ⟨B1, hB1⟩ : ∃ B1, (if nbx = true then b' else b) = B1 := ⟨_, rfl⟩
  rw [hN1, hT1, hB1]
  have HN1 := hid hN1
  have HT1 := hid hT1
  have HB1 := hid hB1
  obtain ⟨q, hq⟩ : ∃ q, (!(Op.bytesLess nm'.toList nm.toList || nm'.toList == nm.toList)) = q := ⟨_, rfl⟩
  rw [hq] at HBN
  have HQ := hid hq
  clear a0 a1 a2 a3 b0 hnm hnm' hp hnbx hN1 hT1 hB1 hq
  go_enter Tryz.func39, Tryz.ntmps39
  go_wp2_with fail
  clear hW0 c0 c1
  refine (CP.out _).mono ?_
  rintro e w4 ⟨rfl, hb4⟩
  have X4 := hid (L0.out.later hb4)
  have S4 := hid (T0.out.later hb4)
  have K4 := hid (btr B0.out hb4)
  have c0 := (A0.out.later hb4).cells
  have c1 := (D0.out.later hb4).cells
  clear hb4 L0 T0
  cases p
  case true =>
    have HNB : Hid (nbx = true) := by show _ = _; rw [← HBN.out]; rfl
    have x4 := X4.out.cells
    have y4 := X4.out.loose
    have e7 := set7_grown w4 (w.heap.size + 1 + 1 + 1) g' nm' t' b' nx' (.slice va' vn' vc') (.slice ua' un' uc')
    have X7 := X4.out.set7 g' nm' t' b' nx' (.slice va' vn' vc') (.slice ua' un' uc')
    have hsz := K4.out.size
    have k7 := below_of_grown e7 (show w.heap.size ≤ w.heap.size + 1 + 1 + 1 by omega) hsz
    have s7 := S4.out.kept e7 (show w.heap.size + 1 + 1 ≠ w.heap.size + 1 + 1 + 1 by omega)
    unfold set7 at e7 X7 k7 s7
    have X5 := hid X7
    have K5 := hid (K4.out.trans k7)
    have S5 := hid s7
    have x5 := X5.out.cells
    have HNS := HNS2
    clear e7 X7 k7 s7 hsz
    go_wp2_with fail
    obtain ⟨W5, hW5⟩ : ∃ W5, (((((((w4.setCell ⟨w.heap.size + 1 + 1 + 1, 0, none⟩ (.int .i64 g')).setCell ⟨w.heap.size + 1 + 1 + 1, 1, none⟩ (.string nm')).setCell ⟨w.heap.size + 1 + 1 + 1, 2, none⟩ (.int .i64 t')).setCell ⟨w.heap.size + 1 + 1 + 1, 3, none⟩ (.int .i64 b')).setCell ⟨w.heap.size + 1 + 1 + 1, 4, none⟩ (.int .i64 nx')).setCell ⟨w.heap.size + 1 + 1 + 1, 5, none⟩ (.slice va' vn' vc')).setCell ⟨w.heap.size + 1 + 1 + 1, 6, none⟩ (.slice ua' un' uc')) = W5 := ⟨_, rfl⟩
    rw [hW5] at X5 S5 K5 ⊢
    clear hW5 x4 y4 x5 c0 c1 X4 S4 K4
    have HZ : Hid (∀ W, Below W5.heap.size W5 W → W.cell? ⟨w.heap.size + 1 + 1 + 1, 1, none⟩ = some (.string nm') ∧ W.cell? ⟨w.heap.size + 1 + 1 + 1, 2, none⟩ = some (.int .i64 t') ∧ W.cell? ⟨w.heap.size + 1 + 1 + 1, 3, none⟩ = some (.int .i64 b')) := fun W h => (by obtain ⟨x0, x1, x2, x3, x4, x5, x6⟩ := (X5.out.later h).cells; exact ⟨x1, x2, x3⟩)
    have HZ2 : Hid (∀ W, Bx W (w.heap.size + 1 + 1 + 1) 33 g' nm' t' b' nx' (.slice va' vn' vc') (.slice ua' un' uc') → W.cell? ⟨w.heap.size + 1 + 1 + 1, 1, none⟩ = some (.string nm') ∧ W.cell? ⟨w.heap.size + 1 + 1 + 1, 2, none⟩ = some (.int .i64 t') ∧ W.cell? ⟨w.heap.size + 1 + 1 + 1, 3, none⟩ = some (.int .i64 b')) := fun W h => (by obtain ⟨x0, x1, x2, x3, x4, x5, x6⟩ := h.cells; exact ⟨x1, x2, x3⟩)
    go_region_held3 (fun W => W.cell? ⟨w.heap.size + 1 + 1 + 1, 1, none⟩ = some (.string nm') ∧ W.cell? ⟨w.heap.size + 1 + 1 + 1, 2, none⟩ = some (.int .i64 t') ∧ W.cell? ⟨w.heap.size + 1 + 1 + 1, 3, none⟩ = some (.int .i64 b'))
      ((first | with_reducible exact HZ.out _ (bdr (bre _)) | with_reducible exact HZ.out _ P1.out | with_reducible exact HS8.out))
      ((go_at_call 63; (with_reducible refine (clone_any nm' _ HNS.out).mono ?_); rintro e w6 ⟨rfl, hb6⟩;
        have P1 : Hid (Below W5.heap.size W5 w6) := btr (bdr (bre _)) hb6;
        have S6 := hid (S5.out.later P1.out);
        have s6 := S6.out.cells;
        have z6 := S6.out.loose8;
        have S7 := hid (S6.out.set' (t' := t') (b' := b'));
        have X7 := hid (Bx.far7 (Bx.far7 (X5.out.later P1.out) (.int .i64 t') 0 (show w.heap.size + 1 + 1 + 1 ≠ w.heap.size + 1 + 1 by omega)) (.int .i64 b') 1 (show w.heap.size + 1 + 1 + 1 ≠ w.heap.size + 1 + 1 by omega));
        have HS8 := hid (HZ2.out _ X7.out)))
    have K7 := hid (bsk (bsk (btr K5.out P1.out) (show w.heap.size ≤ w.heap.size + 1 + 1 by omega) 0 (.int .i64 t')) (show w.heap.size ≤ w.heap.size + 1 + 1 by omega) 1 (.int .i64 b'))
    have d7 := S7.out.cells
    clear HZ HZ2 HS8 s6 z6 S6 P1
    go_wp2
    refine bodyPost_ret (v := .tuple #[.string nm', .agg #[.int .i64 t', .int .i64 b']]) (by simp [results, Tryz.results39, go_sem, d7]) rfl ⟨by rw [← HN1.out, ← HT1.out, ← HB1.out, HNB.out]; rfl, ?_⟩
    exact K7.out
  case false =>
    by_cases ht : t = t'
    · subst ht
      by_cases hb : b = b'
      · subst hb
        have HBN2 : Hid (q = nbx) := by show _ = _; rw [← HBN.out]; simp
        cases q
        case true =>
          have HNB : Hid (nbx = true) := HBN2.out.symm
          have hq := HQ.out
          have x4 := X4.out.cells
          have y4 := X4.out.loose
          have e7 := set7_grown w4 (w.heap.size + 1 + 1 + 1) g' nm' t b nx' (.slice va' vn' vc') (.slice ua' un' uc')
          have X7 := X4.out.set7 g' nm' t b nx' (.slice va' vn' vc') (.slice ua' un' uc')
          have hsz := K4.out.size
          have k7 := below_of_grown e7 (show w.heap.size ≤ w.heap.size + 1 + 1 + 1 by omega) hsz
          have s7 := S4.out.kept e7 (show w.heap.size + 1 + 1 ≠ w.heap.size + 1 + 1 + 1 by omega)
          unfold set7 at e7 X7 k7 s7
          have X5 := hid X7
          have K5 := hid (K4.out.trans k7)
          have S5 := hid s7
          have x5 := X5.out.cells
          have HNS := HNS2
          clear e7 X7 k7 s7 hsz
          go_wp2_with fail
          obtain ⟨W5, hW5⟩ : ∃ W5, (((((((w4.setCell ⟨w.heap.size + 1 + 1 + 1, 0, none⟩ (.int .i64 g')).setCell ⟨w.heap.size + 1 + 1 + 1, 1, none⟩ (.string nm')).setCell ⟨w.heap.size + 1 + 1 + 1, 2, none⟩ (.int .i64 t)).setCell ⟨w.heap.size + 1 + 1 + 1, 3, none⟩ (.int .i64 b)).setCell ⟨w.heap.size + 1 + 1 + 1, 4, none⟩ (.int .i64 nx')).setCell ⟨w.heap.size + 1 + 1 + 1, 5, none⟩ (.slice va' vn' vc')).setCell ⟨w.heap.size + 1 + 1 + 1, 6, none⟩ (.slice ua' un' uc')) = W5 := ⟨_, rfl⟩
          rw [hW5] at X5 S5 K5 ⊢
          clear hW5 x4 y4 x5 c0 c1 X4 S4 K4
          have HZ : Hid (∀ W, Below W5.heap.size W5 W → W.cell? ⟨w.heap.size + 1 + 1 + 1, 1, none⟩ = some (.string nm') ∧ W.cell? ⟨w.heap.size + 1 + 1 + 1, 2, none⟩ = some (.int .i64 t) ∧ W.cell? ⟨w.heap.size + 1 + 1 + 1, 3, none⟩ = some (.int .i64 b)) := fun W h => (by obtain ⟨x0, x1, x2, x3, x4, x5, x6⟩ := (X5.out.later h).cells; exact ⟨x1, x2, x3⟩)
          have HZ2 : Hid (∀ W, Bx W (w.heap.size + 1 + 1 + 1) 33 g' nm' t b nx' (.slice va' vn' vc') (.slice ua' un' uc') → W.cell? ⟨w.heap.size + 1 + 1 + 1, 1, none⟩ = some (.string nm') ∧ W.cell? ⟨w.heap.size + 1 + 1 + 1, 2, none⟩ = some (.int .i64 t) ∧ W.cell? ⟨w.heap.size + 1 + 1 + 1, 3, none⟩ = some (.int .i64 b)) := fun W h => (by obtain ⟨x0, x1, x2, x3, x4, x5, x6⟩ := h.cells; exact ⟨x1, x2, x3⟩)
          go_region_held3 (fun W => W.cell? ⟨w.heap.size + 1 + 1 + 1, 1, none⟩ = some (.string nm') ∧ W.cell? ⟨w.heap.size + 1 + 1 + 1, 2, none⟩ = some (.int .i64 t) ∧ W.cell? ⟨w.heap.size + 1 + 1 + 1, 3, none⟩ = some (.int .i64 b))
            ((first | with_reducible exact HZ.out _ (bdr (bre _)) | with_reducible exact HZ.out _ P1.out | with_reducible exact HS8.out))
            ((go_at_call 63; (with_reducible refine (clone_any nm' _ HNS.out).mono ?_); rintro e w6 ⟨rfl, hb6⟩;
              have P1 : Hid (Below W5.heap.size W5 w6) := btr (bdr (bre _)) hb6;
              have S6 := hid (S5.out.later P1.out);
              have s6 := S6.out.cells;
              have z6 := S6.out.loose8;
              have S7 := hid (S6.out.set' (t' := t) (b' := b));
              have X7 := hid (Bx.far7 (Bx.far7 (X5.out.later P1.out) (.int .i64 t) 0 (show w.heap.size + 1 + 1 + 1 ≠ w.heap.size + 1 + 1 by omega)) (.int .i64 b) 1 (show w.heap.size + 1 + 1 + 1 ≠ w.heap.size + 1 + 1 by omega));
              have HS8 := hid (HZ2.out _ X7.out)))
          have K7 := hid (bsk (bsk (btr K5.out P1.out) (show w.heap.size ≤ w.heap.size + 1 + 1 by omega) 0 (.int .i64 t)) (show w.heap.size ≤ w.heap.size + 1 + 1 by omega) 1 (.int .i64 b))
          have d7 := S7.out.cells
          clear HZ HZ2 HS8 s6 z6 S6 P1
          go_wp2
          refine bodyPost_ret (v := .tuple #[.string nm', .agg #[.int .i64 t, .int .i64 b]]) (by simp [results, Tryz.results39, go_sem, d7]) rfl ⟨by rw [← HN1.out, ← HT1.out, ← HB1.out, HNB.out]; rfl, ?_⟩
          exact K7.out
        case false =>
          have HNB : Hid (nbx = false) := HBN2.out.symm
          have hq := HQ.out
          have x4 := X4.out.cells
          go_wp2_with fail
          obtain ⟨W5, hW5⟩ : ∃ W5, w4 = W5 := ⟨_, rfl⟩
          have X5 := X4
          have S5 := S4
          have K5 := K4
          have HNS := HNS1
          rw [hW5] at X5 S5 K5 ⊢
          clear hW5 x4 c0 c1 X4 S4 K4
          have HZ : Hid (∀ W, Below W5.heap.size W5 W → W.cell? ⟨w.heap.size + 1 + 1 + 1, 1, none⟩ = some (.string nm) ∧ W.cell? ⟨w.heap.size + 1 + 1 + 1, 2, none⟩ = some (.int .i64 t) ∧ W.cell? ⟨w.heap.size + 1 + 1 + 1, 3, none⟩ = some (.int .i64 b)) := fun W h => (by obtain ⟨x0, x1, x2, x3, x4, x5, x6⟩ := (X5.out.later h).cells; exact ⟨x1, x2, x3⟩)
          have HZ2 : Hid (∀ W, Bx W (w.heap.size + 1 + 1 + 1) 33 g nm t b nx (.slice va vn vc) (.slice ua un uc) → W.cell? ⟨w.heap.size + 1 + 1 + 1, 1, none⟩ = some (.string nm) ∧ W.cell? ⟨w.heap.size + 1 + 1 + 1, 2, none⟩ = some (.int .i64 t) ∧ W.cell? ⟨w.heap.size + 1 + 1 + 1, 3, none⟩ = some (.int .i64 b)) := fun W h => (by obtain ⟨x0, x1, x2, x3, x4, x5, x6⟩ := h.cells; exact ⟨x1, x2, x3⟩)
          go_region_held3 (fun W => W.cell? ⟨w.heap.size + 1 + 1 + 1, 1, none⟩ = some (.string nm) ∧ W.cell? ⟨w.heap.size + 1 + 1 + 1, 2, none⟩ = some (.int .i64 t) ∧ W.cell? ⟨w.heap.size + 1 + 1 + 1, 3, none⟩ = some (.int .i64 b))
            ((first | with_reducible exact HZ.out _ (bdr (bre _)) | with_reducible exact HZ.out _ P1.out | with_reducible exact HS8.out))
            ((go_at_call 63; (with_reducible refine (clone_any nm _ HNS.out).mono ?_); rintro e w6 ⟨rfl, hb6⟩;
              have P1 : Hid (Below W5.heap.size W5 w6) := btr (bdr (bre _)) hb6;
              have S6 := hid (S5.out.later P1.out);
              have s6 := S6.out.cells;
              have z6 := S6.out.loose8;
              have S7 := hid (S6.out.set' (t' := t) (b' := b));
              have X7 := hid (Bx.far7 (Bx.far7 (X5.out.later P1.out) (.int .i64 t) 0 (show w.heap.size + 1 + 1 + 1 ≠ w.heap.size + 1 + 1 by omega)) (.int .i64 b) 1 (show w.heap.size + 1 + 1 + 1 ≠ w.heap.size + 1 + 1 by omega));
              have HS8 := hid (HZ2.out _ X7.out)))
          have K7 := hid (bsk (bsk (btr K5.out P1.out) (show w.heap.size ≤ w.heap.size + 1 + 1 by omega) 0 (.int .i64 t)) (show w.heap.size ≤ w.heap.size + 1 + 1 by omega) 1 (.int .i64 b))
          have d7 := S7.out.cells
          clear HZ HZ2 HS8 s6 z6 S6 P1
          go_wp2
          refine bodyPost_ret (v := .tuple #[.string nm, .agg #[.int .i64 t, .int .i64 b]]) (by simp [results, Tryz.results39, go_sem, d7]) rfl ⟨by rw [← HN1.out, ← HT1.out, ← HB1.out, HNB.out]; rfl, ?_⟩
          exact K7.out
      · have HNB : Hid (nbx = false) := by show _ = _; rw [← HBN.out]; simp [hb]
        have hb2 : ¬ b' = b := fun h => hb h.symm
        have x4 := X4.out.cells
        go_wp2_with fail
        obtain ⟨W5, hW5⟩ : ∃ W5, w4 = W5 := ⟨_, rfl⟩
        have X5 := X4
        have S5 := S4
        have K5 := K4
        have HNS := HNS1
        rw [hW5] at X5 S5 K5 ⊢
        clear hW5 x4 c0 c1 X4 S4 K4
        have HZ : Hid (∀ W, Below W5.heap.size W5 W → W.cell? ⟨w.heap.size + 1 + 1 + 1, 1, none⟩ = some (.string nm) ∧ W.cell? ⟨w.heap.size + 1 + 1 + 1, 2, none⟩ = some (.int .i64 t) ∧ W.cell? ⟨w.heap.size + 1 + 1 + 1, 3, none⟩ = some (.int .i64 b)) := fun W h => (by obtain ⟨x0, x1, x2, x3, x4, x5, x6⟩ := (X5.out.later h).cells; exact ⟨x1, x2, x3⟩)
        have HZ2 : Hid (∀ W, Bx W (w.heap.size + 1 + 1 + 1) 33 g nm t b nx (.slice va vn vc) (.slice ua un uc) → W.cell? ⟨w.heap.size + 1 + 1 + 1, 1, none⟩ = some (.string nm) ∧ W.cell? ⟨w.heap.size + 1 + 1 + 1, 2, none⟩ = some (.int .i64 t) ∧ W.cell? ⟨w.heap.size + 1 + 1 + 1, 3, none⟩ = some (.int .i64 b)) := fun W h => (by obtain ⟨x0, x1, x2, x3, x4, x5, x6⟩ := h.cells; exact ⟨x1, x2, x3⟩)
        go_region_held3 (fun W => W.cell? ⟨w.heap.size + 1 + 1 + 1, 1, none⟩ = some (.string nm) ∧ W.cell? ⟨w.heap.size + 1 + 1 + 1, 2, none⟩ = some (.int .i64 t) ∧ W.cell? ⟨w.heap.size + 1 + 1 + 1, 3, none⟩ = some (.int .i64 b))
          ((first | with_reducible exact HZ.out _ (bdr (bre _)) | with_reducible exact HZ.out _ P1.out | with_reducible exact HS8.out))
          ((go_at_call 63; (with_reducible refine (clone_any nm _ HNS.out).mono ?_); rintro e w6 ⟨rfl, hb6⟩;
            have P1 : Hid (Below W5.heap.size W5 w6) := btr (bdr (bre _)) hb6;
            have S6 := hid (S5.out.later P1.out);
            have s6 := S6.out.cells;
            have z6 := S6.out.loose8;
            have S7 := hid (S6.out.set' (t' := t) (b' := b));
            have X7 := hid (Bx.far7 (Bx.far7 (X5.out.later P1.out) (.int .i64 t) 0 (show w.heap.size + 1 + 1 + 1 ≠ w.heap.size + 1 + 1 by omega)) (.int .i64 b) 1 (show w.heap.size + 1 + 1 + 1 ≠ w.heap.size + 1 + 1 by omega));
            have HS8 := hid (HZ2.out _ X7.out)))
        have K7 := hid (bsk (bsk (btr K5.out P1.out) (show w.heap.size ≤ w.heap.size + 1 + 1 by omega) 0 (.int .i64 t)) (show w.heap.size ≤ w.heap.size + 1 + 1 by omega) 1 (.int .i64 b))
        have d7 := S7.out.cells
        clear HZ HZ2 HS8 s6 z6 S6 P1
        go_wp2
        refine bodyPost_ret (v := .tuple #[.string nm, .agg #[.int .i64 t, .int .i64 b]]) (by simp [results, Tryz.results39, go_sem, d7]) rfl ⟨by rw [← HN1.out, ← HT1.out, ← HB1.out, HNB.out]; rfl, ?_⟩
        exact K7.out
    · have HNB : Hid (nbx = false) := by show _ = _; rw [← HBN.out]; simp [ht]
      have ht2 : ¬ t' = t := fun h => ht h.symm
      have x4 := X4.out.cells
      go_wp2_with fail
      obtain ⟨W5, hW5⟩ : ∃ W5, w4 = W5 := ⟨_, rfl⟩
      have X5 := X4
      have S5 := S4
      have K5 := K4
      have HNS := HNS1
      rw [hW5] at X5 S5 K5 ⊢
      clear hW5 x4 c0 c1 X4 S4 K4
      have HZ : Hid (∀ W, Below W5.heap.size W5 W → W.cell? ⟨w.heap.size + 1 + 1 + 1, 1, none⟩ = some (.string nm) ∧ W.cell? ⟨w.heap.size + 1 + 1 + 1, 2, none⟩ = some (.int .i64 t) ∧ W.cell? ⟨w.heap.size + 1 + 1 + 1, 3, none⟩ = some (.int .i64 b)) := fun W h => (by obtain ⟨x0, x1, x2, x3, x4, x5, x6⟩ := (X5.out.later h).cells; exact ⟨x1, x2, x3⟩)
      have HZ2 : Hid (∀ W, Bx W (w.heap.size + 1 + 1 + 1) 33 g nm t b nx (.slice va vn vc) (.slice ua un uc) → W.cell? ⟨w.heap.size + 1 + 1 + 1, 1, none⟩ = some (.string nm) ∧ W.cell? ⟨w.heap.size + 1 + 1 + 1, 2, none⟩ = some (.int .i64 t) ∧ W.cell? ⟨w.heap.size + 1 + 1 + 1, 3, none⟩ = some (.int .i64 b)) := fun W h => (by obtain ⟨x0, x1, x2, x3, x4, x5, x6⟩ := h.cells; exact ⟨x1, x2, x3⟩)
      go_region_held3 (fun W => W.cell? ⟨w.heap.size + 1 + 1 + 1, 1, none⟩ = some (.string nm) ∧ W.cell? ⟨w.heap.size + 1 + 1 + 1, 2, none⟩ = some (.int .i64 t) ∧ W.cell? ⟨w.heap.size + 1 + 1 + 1, 3, none⟩ = some (.int .i64 b))
        ((first | with_reducible exact HZ.out _ (bdr (bre _)) | with_reducible exact HZ.out _ P1.out | with_reducible exact HS8.out))
        ((go_at_call 63; (with_reducible refine (clone_any nm _ HNS.out).mono ?_); rintro e w6 ⟨rfl, hb6⟩;
          have P1 : Hid (Below W5.heap.size W5 w6) := btr (bdr (bre _)) hb6;
          have S6 := hid (S5.out.later P1.out);
          have s6 := S6.out.cells;
          have z6 := S6.out.loose8;
          have S7 := hid (S6.out.set' (t' := t) (b' := b));
          have X7 := hid (Bx.far7 (Bx.far7 (X5.out.later P1.out) (.int .i64 t) 0 (show w.heap.size + 1 + 1 + 1 ≠ w.heap.size + 1 + 1 by omega)) (.int .i64 b) 1 (show w.heap.size + 1 + 1 + 1 ≠ w.heap.size + 1 + 1 by omega));
          have HS8 := hid (HZ2.out _ X7.out)))
      have K7 := hid (bsk (bsk (btr K5.out P1.out) (show w.heap.size ≤ w.heap.size + 1 + 1 by omega) 0 (.int .i64 t)) (show w.heap.size ≤ w.heap.size + 1 + 1 by omega) 1 (.int .i64 b))
      have d7 := S7.out.cells
      clear HZ HZ2 HS8 s6 z6 S6 P1
      go_wp2
      refine bodyPost_ret (v := .tuple #[.string nm, .agg #[.int .i64 t, .int .i64 b]]) (by simp [results, Tryz.results39, go_sem, d7]) rfl ⟨by rw [← HN1.out, ← HT1.out, ← HB1.out, HNB.out]; rfl, ?_⟩
      exact K7.out
end Go.Proofs.YtgpnbifdbeenbabGreat
