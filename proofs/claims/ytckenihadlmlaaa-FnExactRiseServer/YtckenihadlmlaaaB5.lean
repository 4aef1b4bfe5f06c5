/- Cpz. -/
import Derived.Test.YtckenihadlmlaaaB4
namespace Go.Proofs.Ytckenihadlmlaaa
open Go.RowKit Go.ChangeMaps
set_option maxHeartbeats 8000000 in
set_option maxRecDepth 100000 in
theorem l06Copy_any (lo hh lo' hh' : Nat) (g : Int) (nm : ByteArray) (t b nx : Int) (ma : Option Addr) (mn mc : Nat) (ga : Option Addr) (gn gc : Nat) (L : List M4) (G : List Int) (w : World) (hl : L.length = mn) (hn : mn ≤ 1048576) (hsm : Sm L) (hm : Ms lo hh w ma L) (hgl : G.length = gn) (hgn : gn ≤ 1048576) (hs : Is lo' hh' w ga G) (hg0 : ga = none → gc = 0) :
    Calls Try.prog 71 #[.agg #[.int .i64 g, .string nm, .int .i64 t, .int .i64 b, .int .i64 nx, .slice ma mn mc, .slice ga gn gc]] w fun e w' => ∃ mv gv, e = .returned (.agg #[.int .i64 g, .string nm, .int .i64 t, .int .i64 b, .int .i64 nx, mv, gv]) ∧ OwB w' w.heap.size mv gv L G ∧ Below w.heap.size w w' := by
  obtain ⟨W0, hW0⟩ : ∃ W0, (((w.alloc (.cells #[.int .i64 g, .string nm, .int .i64 t, .int .i64 b, .int .i64 nx, .slice ma mn mc, .slice ga gn gc] 99)).alloc (.cells #[.int .i64 0, .string ⟨#[]⟩, .int .i64 0, .int .i64 0, .int .i64 0, .slice none 0 0, .slice none 0 0] 99)).alloc (.cells #[.int .i64 g, .string nm, .int .i64 t, .int .i64 b, .int .i64 nx, .slice ma mn mc, .slice ga gn gc] 99)) = W0 := ⟨_, rfl⟩
  obtain ⟨a0, a1, a2, b0, s0⟩ := three_boxes w _ _ _ _ _ _ _ _ _ _ _ _ _ _ _ _ _ _ _ _ _ _ _ _ W0 hW0
  obtain ⟨W1, hW1⟩ : ∃ W1, (W0.alloc (.cells #[] 115)).setCell ⟨w.heap.size + 1 + 1, 5, none⟩ (.slice (some ⟨w.heap.size + 1 + 1 + 1, 0, none⟩) 0 0) = W1 := ⟨_, rfl⟩
  have b1 : Below W0.heap.size W0 (W0.alloc (.cells #[] 115)) := bpush (bre _) _
  have G1 : (W0.alloc (.cells #[] 115)).grownBy W1 (some (w.heap.size + 1 + 1)) := by subst hW1; exact wst (wre _ _) _ _
  have e0 := (a0.later b1).grown G1 (fun e => by simp only [Option.some.injEq] at e; omega)
  have e1 := (a1.later b1).grown G1 (fun e => by simp only [Option.some.injEq] at e; omega)
  have e2 : Bx W1 (w.heap.size + 1 + 1) 99 g nm t b nx (.slice (some ⟨w.heap.size + 1 + 1 + 1, 0, none⟩) 0 0) (.slice ga gn gc) := by subst hW1; exact (a2.later b1).s5 _
  have ez := (ownZ_empty W0 (w.heap.size + 1 + 1 + 1) (by omega)).grown G1 (by omega)
  rw [s0] at ez
  have eb : Below w.heap.size w W1 := (btr b0 b1).trans (below_of_grown G1 (by omega) (by have := b1.size; omega))
  have es : w.heap.size + 1 + 1 + 1 ≤ W1.heap.size := by have h1 := G1.size; have h2 := b1.size; omega
  have E0 := hid e0
  have E1 := hid e1
  have E2 := hid e2
  have EZ := hid ez
  have EB := hid eb
  have ES := hid es
  have HS0 := hid s0
  have HL := hid hl
  have HN := hid hn
  have HSM := hid hsm
  have HR := hid hm
  have HGL := hid hgl
  have HGN := hid hgn
  have HIS := hid hs
  have HG0 := hid hg0
  have k0 := (a2.later b1).cells
  have f0 := (a2.later b1).loose
  have c0 := a0.cells

  clear a0 a1 a2 b0 b1 G1 e0 e1 e2 ez eb es hl hsm hm hgl hgn hs hg0
  go_enter Try.func71, Try.ntmps71
  go_wp2
  clear hW1 hW0 k0 f0 c0 s0
  go_loopw [4] (fun iv wr => ∃ i : Nat, i ≤ mn ∧ iv = .int .i64 (i : Int) ∧ ∃ (Z : List Z5) (vv : Value), Z.map md = L.take i ∧ OwZ wr (w.heap.size + 1 + 1 + 1) vv Z ∧ Bx wr (w.heap.size + 1 + 1) 99 g nm t b nx vv (.slice ga gn gc) ∧ Bx wr w.heap.size 99 g nm t b nx (.slice ma mn mc) (.slice ga gn gc) ∧ Bx wr (w.heap.size + 1) 99 0 ⟨#[]⟩ 0 0 0 (.slice none 0 0) (.slice none 0 0) ∧ w.heap.size + 1 + 1 + 1 ≤ wr.heap.size ∧ Below w.heap.size w wr) (fun iv _ => mn - (intOf iv).toNat)
  case atStart => exact ⟨0, Nat.zero_le _, rfl, [], _, rfl, EZ.out, E2.out, E0.out, E1.out, ES.out, EB.out⟩
  case round =>
    obtain ⟨i, hin, rfl, Z, vv, hZ, hoz, hbx, hax, hrx, hsz, hb⟩ := hrel
    have HZT := hid hZ
    have HOZ := hid hoz
    have AX := hid hbx
    have A6 := hid hax
    have RX := hid hrx
    have HBW := hid hsz
    have HB := hid hb
    have HWR : Hid (w.heap.size + 1 ≤ wr.heap.size) := by show _ ≤ _; omega
    have HOL : Hid (w.heap.size + 1 + 1 < wr.heap.size) := hbx.lt
    have co := hbx.cells.2.2.2.2.2.1
    have c0 := hax.cells
    clear hZ hoz hbx hax hrx hsz hb
    by_cases hlt : i < mn
    · have hil : i < L.length := by rw [HL.out]; exact hlt
      obtain ⟨k, o, fa, fc, rfl, hk, ⟨d0, d1, d2, d3⟩, hrs, hz0⟩ := HR.out.at hil
      have hmem := HSM.out L[i] (List.getElem_mem hil)
      obtain ⟨q, hq⟩ : ∃ q, L[i] = q := ⟨_, rfl⟩
      obtain ⟨g1, u1, l1, t1⟩ := q
      rw [hq] at d0 d1 d2 d3 hrs hmem
      have HRS := hid (hrs.later HB.out)
      obtain ⟨m, hm⟩ : ∃ m, l1.length = m := ⟨_, rfl⟩
      dsimp only at d0 d1 d2 d3
      rw [hm] at d2
      have HM := hid hm
      have HML : Hid (m ≤ 1048576) := by show _ ≤ _; rw [← hm]; exact hmem.1
      have HTL := hid hmem.2
      have HZ0 := hid hz0
      have HQ := hid hq
      have HZL : Hid (Z.length ≤ 1048576) := by
        show _ ≤ _
        have h1 := congrArg List.length HZT.out
        have h2 := HN.out
        simp at h1
        omega
      have hI : (0 : Int) ≤ (i : Int) ∧ (i : Int) < (mn : Int) := by omega
      have HSS : Hid (∀ W, Below (w.heap.size + 1) wr W → (W.cell? ⟨w.heap.size, 0, none⟩ = some (.int .i64 g) ∧ W.cell? ⟨w.heap.size, 1, none⟩ = some (.string nm) ∧ W.cell? ⟨w.heap.size, 2, none⟩ = some (.int .i64 t) ∧ W.cell? ⟨w.heap.size, 3, none⟩ = some (.int .i64 b) ∧ W.cell? ⟨w.heap.size, 4, none⟩ = some (.int .i64 nx) ∧ W.cell? ⟨w.heap.size, 5, none⟩ = some (.slice (some ⟨k, o, none⟩) mn mc) ∧ W.cell? ⟨w.heap.size, 6, none⟩ = some (.slice ga gn gc)) ∧ (W.cell? ⟨k, o + i * 4, none⟩ = some (.int .i64 g1) ∧ W.cell? ⟨k, o + i * 4 + 1, none⟩ = some (.int .i64 u1) ∧ W.cell? ⟨k, o + i * 4 + 2, none⟩ = some (.slice fa m fc) ∧ W.cell? ⟨k, o + i * 4 + 3, none⟩ = some (.string t1))) := fun W h =>
        ⟨Bx.cells ((h.block w.heap.size (by omega)).trans A6.out), ⟨(h.cell (p := ⟨k, _, none⟩) (by show k < _; omega)).trans ((HB.out.cell (p := ⟨k, _, none⟩) hk).trans d0), (h.cell (p := ⟨k, _, none⟩) (by show k < _; omega)).trans ((HB.out.cell (p := ⟨k, _, none⟩) hk).trans d1), (h.cell (p := ⟨k, _, none⟩) (by show k < _; omega)).trans ((HB.out.cell (p := ⟨k, _, none⟩) hk).trans d2), (h.cell (p := ⟨k, _, none⟩) (by show k < _; omega)).trans ((HB.out.cell (p := ⟨k, _, none⟩) hk).trans d3)⟩⟩
      clear hq hrs hmem hm hz0 d0 d1 d2 d3 hk
      go_wp2_with fail
      clear c0
      refine wp_region_noPanic ?_
      refine wp_region_held_drew (S := (fun W => (W.cell? ⟨w.heap.size, 0, none⟩ = some (.int .i64 g) ∧ W.cell? ⟨w.heap.size, 1, none⟩ = some (.string nm) ∧ W.cell? ⟨w.heap.size, 2, none⟩ = some (.int .i64 t) ∧ W.cell? ⟨w.heap.size, 3, none⟩ = some (.int .i64 b) ∧ W.cell? ⟨w.heap.size, 4, none⟩ = some (.int .i64 nx) ∧ W.cell? ⟨w.heap.size, 5, none⟩ = some (.slice (some ⟨k, o, none⟩) mn mc) ∧ W.cell? ⟨w.heap.size, 6, none⟩ = some (.slice ga gn gc)) ∧ (W.cell? ⟨k, o + i * 4, none⟩ = some (.int .i64 g1) ∧ W.cell? ⟨k, o + i * 4 + 1, none⟩ = some (.int .i64 u1) ∧ W.cell? ⟨k, o + i * 4 + 2, none⟩ = some (.slice fa m fc) ∧ W.cell? ⟨k, o + i * 4 + 3, none⟩ = some (.string t1)))) (by kernel_rfl) (HSS.out _ (Below.drew (Below.refl _ _))) (fun hHeld => ?_)
      refine wpAnyH_take (i := 0) (oi := { dst := some 15, op := Op.fieldAddr 99 (Operand.tmp 3) 4, type := 0, pos := "l06_box.go:58", after := #[], guard := none }) (v := ?vb1_0) rfl (by kernel_rfl) (by kernel_rfl) (by kernel_rfl) (fun _ _ _ h => h) (Or.inl ⟨by rfl, ?hyb1_0⟩) (by assumption) ?restb1_0
      case hyb1_0 => (intro w hSw; (try dsimp only at hSw); go_simp; try with_reducible rfl)
      try simp only [Act.put, List.setIfInBounds_toArray, List.set_cons_zero, List.set_cons_succ]
      refine wpAnyH_take (i := 2) (oi := { dst := some 17, op := Op.fieldAddr 99 (Operand.tmp 1) 4, type := 0, pos := "l06_box.go:58", after := #[], guard := none }) (v := ?vb2_2) rfl (by kernel_rfl) (by kernel_rfl) (by kernel_rfl) (fun _ _ _ h => h) (Or.inl ⟨by rfl, ?hyb2_2⟩) (by assumption) ?restb2_2
      case hyb2_2 => (intro w hSw; (try dsimp only at hSw); go_simp; try with_reducible rfl)
      try simp only [Act.put, List.setIfInBounds_toArray, List.set_cons_zero, List.set_cons_succ]
      refine wpAnyH_take (i := 3) (oi := { dst := some 18, op := Op.load 97 (Operand.tmp 17), type := 97, pos := "l06_box.go:58", after := #[{ on := 2, ground := Ground.data }], guard := none }) (v := ?vb3_3) rfl (by kernel_rfl) (by kernel_rfl) (by kernel_rfl) (fun _ _ _ h => h) (Or.inl ⟨by rfl, ?hyb3_3⟩) (by assumption) ?restb3_3
      case hyb3_3 => (intro w hSw; (try dsimp only at hSw); go_simp; try with_reducible rfl)
      try simp only [Act.put, List.setIfInBounds_toArray, List.set_cons_zero, List.set_cons_succ]
      refine wpAnyH_take (i := 4) (oi := { dst := some 19, op := Op.move (Operand.tmp 4), type := 3, pos := "l06_box.go:58", after := #[], guard := none }) (v := ?vb4_4) rfl (by kernel_rfl) (by kernel_rfl) (by kernel_rfl) (fun _ _ _ h => h) (Or.inl ⟨by rfl, ?hyb4_4⟩) (by assumption) ?restb4_4
      case hyb4_4 => (intro w hSw; (try dsimp only at hSw); go_simp; try with_reducible rfl)
      try simp only [Act.put, List.setIfInBounds_toArray, List.set_cons_zero, List.set_cons_succ]
      refine wpAnyH_take (i := 5) (oi := { dst := some 20, op := Op.indexAddr 97 (Operand.tmp 18) (Operand.tmp 19), type := 0, pos := "l06_box.go:58", after := #[{ on := 3, ground := Ground.data }, { on := 4, ground := Ground.data }], guard := none }) (v := ?vb5_5) rfl (by kernel_rfl) (by kernel_rfl) (by kernel_rfl) (fun _ _ _ h => h) (Or.inl ⟨by rfl, ?hyb5_5⟩) (by assumption) ?restb5_5
      case hyb5_5 => (intro w hSw; (try dsimp only at hSw); go_simp; try with_reducible rfl)
      try simp only [Act.put, List.setIfInBounds_toArray, List.set_cons_zero, List.set_cons_succ]
      refine wpAnyH_take (i := 6) (oi := { dst := some 21, op := Op.load 115 (Operand.tmp 20), type := 115, pos := "l06_box.go:58", after := #[{ on := 5, ground := Ground.data }], guard := none }) (v := ?vb6_6) rfl (by kernel_rfl) (by kernel_rfl) (by kernel_rfl) (fun _ _ _ h => h) (Or.inl ⟨by rfl, ?hyb6_6⟩) (by assumption) ?restb6_6
      case hyb6_6 => (intro w hSw; (try dsimp only at hSw); go_simp; try with_reducible rfl)
      try simp only [Act.put, List.setIfInBounds_toArray, List.set_cons_zero, List.set_cons_succ]
      clear hHeld
      refine wpAnyH_ready (rs := [1, 7]) (by kernel_rfl) (by simp) ?_
      refine AllReadyH.cons (o := { dst := some 16, op := Op.load 97 (Operand.tmp 15), type := 97, pos := "l06_box.go:58", after := #[{ on := 0, ground := Ground.data }], guard := none }) rfl (fun K hK => ?_) ?_
      · go_simp
        refine hK.out _ _ (HSS.out _ (Below.drew (Below.refl _ _))) (fun hHeld => ?_)
        clear hK K
        try simp only [Act.put, List.setIfInBounds_toArray, List.set_cons_zero, List.set_cons_succ]
        clear hHeld
        refine wpAnyH_ready (rs := [7]) (by kernel_rfl) (by simp) ?_
        refine AllReadyH.cons (o := { dst := some 22, op := Op.call { callee := Callee.value (Operand.func 82), args := #[Operand.tmp 21], argTypes := #[115] }, type := 115, pos := "l06_box.go:58", after := #[{ on := 6, ground := Ground.data }], guard := none }) rfl (fun K hK => ?_) AllReadyH.nil
        go_simp
        refine (l05Copy_any g1 u1 fa m fc l1 t1 _ HM.out HML.out HTL.out (HRS.out.later (bdr (bre _))) HZ0.out).mono ?_; rintro e w2 ⟨v, rfl, how, hb2⟩
        obtain ⟨a2, c2, rfl, _⟩ := Ow.shape how
        rw [HM.out] at how ⊢
        have B2 := hid (show Below wr.heap.size wr w2 from btr (bdr (bre _)) hb2)
        have HOW := hid how
        have o2 := (B2.out.cell (p := ⟨w.heap.size + 1 + 1, 5, none⟩) HOL.out).trans co
        have o3 := ((bpush (bre w2) (.cells #[.int .i64 g1, .int .i64 u1, .slice a2 m c2, .string t1] 115)).cell (p := ⟨w.heap.size + 1 + 1, 5, none⟩) (Nat.lt_of_lt_of_le HOL.out B2.out.size)).trans o2
        clear hb2 how
        go_wp2_with fail
        refine hK.out _ _ (HSS.out _ (B2.out.mono HWR.out)) (fun hHeld => ?_)
        clear hK K
        try simp only [Act.put, List.setIfInBounds_toArray, List.set_cons_zero, List.set_cons_succ]
        clear hHeld
        refine wpAnyH_ready (rs := [8]) (by kernel_rfl) (by simp) ?_
        refine AllReadyH.cons (o := { dst := some 23, op := Op.buildSlice 97 1 #[(0, Operand.tmp 22)], type := 97, pos := "l06_box.go:58", after := #[{ on := 7, ground := Ground.data }], guard := none }) rfl (fun K hK => ?_) AllReadyH.nil
        go_simp
        refine hK.out _ _ (HSS.out _ ((B2.out.mono HWR.out).trans ((Below.refl _ _).alloc (Nat.le_trans HWR.out B2.out.size) _))) (fun hHeld => ?_)
        clear hK K
        try simp only [Act.put, List.setIfInBounds_toArray, List.set_cons_zero, List.set_cons_succ]
        clear hHeld
        refine wpAnyH_ready (rs := [9]) (by kernel_rfl) (by simp) ?_
        refine AllReadyH.cons (o := { dst := some 24, op := Op.call { callee := Callee.builtin Builtin.append, args := #[Operand.tmp 16, Operand.tmp 23], argTypes := #[97, 97] }, type := 97, pos := "l06_box.go:58", after := #[{ on := 1, ground := Ground.data }, { on := 8, ground := Ground.data }, { on := 7, ground := Ground.chain }], guard := none }) rfl (fun K hK => ?_) AllReadyH.nil
        refine step_append_ml rfl (.tmp 16) (.tmp 23) rfl (w.heap.size + 1 + 1 + 1) _ Z (by rfl) (g1, u1, .slice a2 m c2, l1, t1) (HOZ.out.later B2.out) (own_base HOW.out HBW.out) (fun j hj hj' => by have h1 := (HOZ.out.row.lt j hj).2; have h2 : wr.heap.size ≤ j := (HOW.out.lt j hj').1; omega) (fun y hy j hj hj' => by have h1 := ((HOZ.out.each y hy).lt j hj).2; have h2 : wr.heap.size ≤ j := (HOW.out.lt j hj').1; omega) (by rfl) HZL.out (Nat.le_trans HBW.out B2.out.size) ?_; intro v3 w3 hown3 hb3 _ _
        obtain ⟨a3, c3, hv3⟩ := hown3.shape
        simp only [List.length_append, List.length_cons, List.length_nil, Nat.zero_add] at hv3
        subst hv3
        have HO3 := hid hown3
        have B3 := hid (show Below (w.heap.size + 1 + 1 + 1) wr w3 from (B2.out.mono HBW.out).trans hb3)
        have x3 := (AX.out.later B2.out)
        have x4 : Bx w3 (w.heap.size + 1 + 1) 99 g nm t b nx vv (.slice ga gn gc) := (hb3.block (w.heap.size + 1 + 1) (by omega)).trans x3
        have k3 := x4.cells
        have f3 := x4.loose
        have X4 := hid x4
        clear hown3 hb3 x3 x4
        refine hK.out _ _ (HSS.out _ (B3.out.mono (by omega))) (fun hHeld => ?_)
        clear hK K
        try simp only [Act.put, List.setIfInBounds_toArray, List.set_cons_zero, List.set_cons_succ]
        refine wpAnyH_take (i := 10) (oi := { dst := some 25, op := Op.fieldAddr 99 (Operand.tmp 3) 4, type := 0, pos := "l06_box.go:58", after := #[{ on := 0, ground := Ground.phase }, { on := 1, ground := Ground.phase }, { on := 2, ground := Ground.phase }, { on := 3, ground := Ground.phase }, { on := 4, ground := Ground.phase }, { on := 5, ground := Ground.phase }, { on := 6, ground := Ground.phase }, { on := 7, ground := Ground.phase }, { on := 8, ground := Ground.phase }, { on := 9, ground := Ground.phase }], guard := none }) (v := ?vb7_10) rfl (by kernel_rfl) (by kernel_rfl) (by kernel_rfl) (fun _ _ _ h => h) (Or.inl ⟨by rfl, ?hyb7_10⟩) (by assumption) ?restb7_10
        case hyb7_10 => (intro w hSw; (try dsimp only at hSw); go_simp; try with_reducible rfl)
        try simp only [Act.put, List.setIfInBounds_toArray, List.set_cons_zero, List.set_cons_succ]
        clear hHeld
        refine wpAnyH_ready (rs := [11]) (by kernel_rfl) (by simp) ?_
        refine AllReadyH.cons (o := { dst := none, op := Op.store 97 (Operand.tmp 25) (Operand.tmp 24), type := 0, pos := "l06_box.go:58", after := #[{ on := 10, ground := Ground.data }, { on := 9, ground := Ground.data }, { on := 9, ground := Ground.chain }, { on := 0, ground := Ground.phase }, { on := 1, ground := Ground.phase }, { on := 2, ground := Ground.phase }, { on := 3, ground := Ground.phase }, { on := 4, ground := Ground.phase }, { on := 5, ground := Ground.phase }, { on := 6, ground := Ground.phase }, { on := 7, ground := Ground.phase }, { on := 8, ground := Ground.phase }, { on := 9, ground := Ground.phase }], guard := none }) rfl (fun K hK => ?_) AllReadyH.nil
        go_simp
        refine hK.out _ _ (HSS.out _ (B3.out.mono (by omega) |>.trans ((Below.refl _ _).setCell (p := ⟨w.heap.size + 1 + 1, 5, none⟩) (show w.heap.size + 1 ≤ w.heap.size + 1 + 1 by omega) _))) (fun hHeld => ?_)
        clear hK K
        try simp only [Act.put, List.setIfInBounds_toArray, List.set_cons_zero, List.set_cons_succ]
        refine wpAnyH_done (by kernel_rfl) ?_ _
        refine NoPanic.normal ?_
        have X5 := hid (X4.out.s5 (Value.slice a3 (Z.length + 1) c3))
        have G5 : w3.grownBy (w3.setCell ⟨w.heap.size + 1 + 1, 5, none⟩ (Value.slice a3 (Z.length + 1) c3)) (some (w.heap.size + 1 + 1)) := wst (wre _ _) _ _
        have O5 := hid (HO3.out.grown G5 (by omega))
        have a5 : Bx w3 w.heap.size 99 g nm t b nx (.slice (some ⟨k, o, none⟩) mn mc) (.slice ga gn gc) := (B3.out.block w.heap.size (by omega)).trans A6.out
        have A5 := hid (a5.grown G5 (fun e => by simp only [Option.some.injEq] at e; omega))
        have r5 : Bx w3 (w.heap.size + 1) 99 0 ⟨#[]⟩ 0 0 0 (.slice none 0 0) (.slice none 0 0) := (B3.out.block (w.heap.size + 1) (by omega)).trans RX.out
        have R5 := hid (r5.grown G5 (fun e => by simp only [Option.some.injEq] at e; omega))
        have B5 : Hid (Below w.heap.size w (w3.setCell ⟨w.heap.size + 1 + 1, 5, none⟩ (Value.slice a3 (Z.length + 1) c3))) := (HB.out.trans (B3.out.mono (by omega))).trans (below_of_grown G5 (by omega) (by have h1 := HB.out.size; have h2 := B3.out.size; omega))
        have S5 : Hid (w.heap.size + 1 + 1 + 1 ≤ (w3.setCell ⟨w.heap.size + 1 + 1, 5, none⟩ (Value.slice a3 (Z.length + 1) c3)).heap.size) := by show _ ≤ _; have h1 := HBW.out; have h2 := B3.out.size; have h3 := G5.size; omega
        obtain ⟨W5, hW5⟩ : ∃ W5, w3.setCell ⟨w.heap.size + 1 + 1, 5, none⟩ (Value.slice a3 (Z.length + 1) c3) = W5 := ⟨_, rfl⟩
        rw [hW5] at X5 O5 A5 R5 B5 S5
        simp only [hW5]
        clear hHeld G5 a5 r5 k3 f3 hW5 co o2 o3
        have HE : Hid ((Z ++ [((g1, u1, Value.slice a2 m c2, l1, t1) : Z5)]).map md = L.take (i + 1)) := by show _ = _; rw [List.map_append, HZT.out, List.take_succ_eq_append_getElem hil, HQ.out]; rfl
        go_wp2
        go_roundw
        case rel => exact ⟨i + 1, by omega, by go_num, _, _, HE.out, O5.out, X5.out, A5.out, R5.out, S5.out, B5.out⟩
        case measure => simp [intOf]; omega
      refine AllReadyH.cons (o := { dst := some 22, op := Op.call { callee := Callee.value (Operand.func 82), args := #[Operand.tmp 21], argTypes := #[115] }, type := 115, pos := "l06_box.go:58", after := #[{ on := 6, ground := Ground.data }], guard := none }) rfl (fun K hK => ?_) AllReadyH.nil
      go_simp
      refine (l05Copy_any g1 u1 fa m fc l1 t1 _ HM.out HML.out HTL.out (HRS.out.later (bdr (bre _))) HZ0.out).mono ?_; rintro e w2 ⟨v, rfl, how, hb2⟩
      obtain ⟨a2, c2, rfl, _⟩ := Ow.shape how
      rw [HM.out] at how ⊢
      have B2 := hid (show Below wr.heap.size wr w2 from btr (bdr (bre _)) hb2)
      have HOW := hid how
      have o2 := (B2.out.cell (p := ⟨w.heap.size + 1 + 1, 5, none⟩) HOL.out).trans co
      have o3 := ((bpush (bre w2) (.cells #[.int .i64 g1, .int .i64 u1, .slice a2 m c2, .string t1] 115)).cell (p := ⟨w.heap.size + 1 + 1, 5, none⟩) (Nat.lt_of_lt_of_le HOL.out B2.out.size)).trans o2
      clear hb2 how
      go_wp2_with fail
      refine hK.out _ _ (HSS.out _ (B2.out.mono HWR.out)) (fun hHeld => ?_)
      clear hK K
      try simp only [Act.put, List.setIfInBounds_toArray, List.set_cons_zero, List.set_cons_succ]
      clear hHeld
      refine wpAnyH_ready (rs := [1, 8]) (by kernel_rfl) (by simp) ?_
      refine AllReadyH.cons (o := { dst := some 16, op := Op.load 97 (Operand.tmp 15), type := 97, pos := "l06_box.go:58", after := #[{ on := 0, ground := Ground.data }], guard := none }) rfl (fun K hK => ?_) ?_
      · go_simp
        refine hK.out _ _ (HSS.out _ (B2.out.mono HWR.out)) (fun hHeld => ?_)
        clear hK K
        try simp only [Act.put, List.setIfInBounds_toArray, List.set_cons_zero, List.set_cons_succ]
        clear hHeld
        refine wpAnyH_ready (rs := [8]) (by kernel_rfl) (by simp) ?_
        refine AllReadyH.cons (o := { dst := some 23, op := Op.buildSlice 97 1 #[(0, Operand.tmp 22)], type := 97, pos := "l06_box.go:58", after := #[{ on := 7, ground := Ground.data }], guard := none }) rfl (fun K hK => ?_) AllReadyH.nil
        go_simp
        refine hK.out _ _ (HSS.out _ ((B2.out.mono HWR.out).trans ((Below.refl _ _).alloc (Nat.le_trans HWR.out B2.out.size) _))) (fun hHeld => ?_)
        clear hK K
        try simp only [Act.put, List.setIfInBounds_toArray, List.set_cons_zero, List.set_cons_succ]
        clear hHeld
        refine wpAnyH_ready (rs := [9]) (by kernel_rfl) (by simp) ?_
        refine AllReadyH.cons (o := { dst := some 24, op := Op.call { callee := Callee.builtin Builtin.append, args := #[Operand.tmp 16, Operand.tmp 23], argTypes := #[97, 97] }, type := 97, pos := "l06_box.go:58", after := #[{ on := 1, ground := Ground.data }, { on := 8, ground := Ground.data }, { on := 7, ground := Ground.chain }], guard := none }) rfl (fun K hK => ?_) AllReadyH.nil
        refine step_append_ml rfl (.tmp 16) (.tmp 23) rfl (w.heap.size + 1 + 1 + 1) _ Z (by rfl) (g1, u1, .slice a2 m c2, l1, t1) (HOZ.out.later B2.out) (own_base HOW.out HBW.out) (fun j hj hj' => by have h1 := (HOZ.out.row.lt j hj).2; have h2 : wr.heap.size ≤ j := (HOW.out.lt j hj').1; omega) (fun y hy j hj hj' => by have h1 := ((HOZ.out.each y hy).lt j hj).2; have h2 : wr.heap.size ≤ j := (HOW.out.lt j hj').1; omega) (by rfl) HZL.out (Nat.le_trans HBW.out B2.out.size) ?_; intro v3 w3 hown3 hb3 _ _
        obtain ⟨a3, c3, hv3⟩ := hown3.shape
        simp only [List.length_append, List.length_cons, List.length_nil, Nat.zero_add] at hv3
        subst hv3
        have HO3 := hid hown3
        have B3 := hid (show Below (w.heap.size + 1 + 1 + 1) wr w3 from (B2.out.mono HBW.out).trans hb3)
        have x3 := (AX.out.later B2.out)
        have x4 : Bx w3 (w.heap.size + 1 + 1) 99 g nm t b nx vv (.slice ga gn gc) := (hb3.block (w.heap.size + 1 + 1) (by omega)).trans x3
        have k3 := x4.cells
        have f3 := x4.loose
        have X4 := hid x4
        clear hown3 hb3 x3 x4
        refine hK.out _ _ (HSS.out _ (B3.out.mono (by omega))) (fun hHeld => ?_)
        clear hK K
        try simp only [Act.put, List.setIfInBounds_toArray, List.set_cons_zero, List.set_cons_succ]
        refine wpAnyH_take (i := 10) (oi := { dst := some 25, op := Op.fieldAddr 99 (Operand.tmp 3) 4, type := 0, pos := "l06_box.go:58", after := #[{ on := 0, ground := Ground.phase }, { on := 1, ground := Ground.phase }, { on := 2, ground := Ground.phase }, { on := 3, ground := Ground.phase }, { on := 4, ground := Ground.phase }, { on := 5, ground := Ground.phase }, { on := 6, ground := Ground.phase }, { on := 7, ground := Ground.phase }, { on := 8, ground := Ground.phase }, { on := 9, ground := Ground.phase }], guard := none }) (v := ?vb8_10) rfl (by kernel_rfl) (by kernel_rfl) (by kernel_rfl) (fun _ _ _ h => h) (Or.inl ⟨by rfl, ?hyb8_10⟩) (by assumption) ?restb8_10
        case hyb8_10 => (intro w hSw; (try dsimp only at hSw); go_simp; try with_reducible rfl)
        try simp only [Act.put, List.setIfInBounds_toArray, List.set_cons_zero, List.set_cons_succ]
        clear hHeld
        refine wpAnyH_ready (rs := [11]) (by kernel_rfl) (by simp) ?_
        refine AllReadyH.cons (o := { dst := none, op := Op.store 97 (Operand.tmp 25) (Operand.tmp 24), type := 0, pos := "l06_box.go:58", after := #[{ on := 10, ground := Ground.data }, { on := 9, ground := Ground.data }, { on := 9, ground := Ground.chain }, { on := 0, ground := Ground.phase }, { on := 1, ground := Ground.phase }, { on := 2, ground := Ground.phase }, { on := 3, ground := Ground.phase }, { on := 4, ground := Ground.phase }, { on := 5, ground := Ground.phase }, { on := 6, ground := Ground.phase }, { on := 7, ground := Ground.phase }, { on := 8, ground := Ground.phase }, { on := 9, ground := Ground.phase }], guard := none }) rfl (fun K hK => ?_) AllReadyH.nil
        go_simp
        refine hK.out _ _ (HSS.out _ (B3.out.mono (by omega) |>.trans ((Below.refl _ _).setCell (p := ⟨w.heap.size + 1 + 1, 5, none⟩) (show w.heap.size + 1 ≤ w.heap.size + 1 + 1 by omega) _))) (fun hHeld => ?_)
        clear hK K
        try simp only [Act.put, List.setIfInBounds_toArray, List.set_cons_zero, List.set_cons_succ]
        refine wpAnyH_done (by kernel_rfl) ?_ _
        refine NoPanic.normal ?_
        have X5 := hid (X4.out.s5 (Value.slice a3 (Z.length + 1) c3))
        have G5 : w3.grownBy (w3.setCell ⟨w.heap.size + 1 + 1, 5, none⟩ (Value.slice a3 (Z.length + 1) c3)) (some (w.heap.size + 1 + 1)) := wst (wre _ _) _ _
        have O5 := hid (HO3.out.grown G5 (by omega))
        have a5 : Bx w3 w.heap.size 99 g nm t b nx (.slice (some ⟨k, o, none⟩) mn mc) (.slice ga gn gc) := (B3.out.block w.heap.size (by omega)).trans A6.out
        have A5 := hid (a5.grown G5 (fun e => by simp only [Option.some.injEq] at e; omega))
        have r5 : Bx w3 (w.heap.size + 1) 99 0 ⟨#[]⟩ 0 0 0 (.slice none 0 0) (.slice none 0 0) := (B3.out.block (w.heap.size + 1) (by omega)).trans RX.out
        have R5 := hid (r5.grown G5 (fun e => by simp only [Option.some.injEq] at e; omega))
        have B5 : Hid (Below w.heap.size w (w3.setCell ⟨w.heap.size + 1 + 1, 5, none⟩ (Value.slice a3 (Z.length + 1) c3))) := (HB.out.trans (B3.out.mono (by omega))).trans (below_of_grown G5 (by omega) (by have h1 := HB.out.size; have h2 := B3.out.size; omega))
        have S5 : Hid (w.heap.size + 1 + 1 + 1 ≤ (w3.setCell ⟨w.heap.size + 1 + 1, 5, none⟩ (Value.slice a3 (Z.length + 1) c3)).heap.size) := by show _ ≤ _; have h1 := HBW.out; have h2 := B3.out.size; have h3 := G5.size; omega
        obtain ⟨W5, hW5⟩ : ∃ W5, w3.setCell ⟨w.heap.size + 1 + 1, 5, none⟩ (Value.slice a3 (Z.length + 1) c3) = W5 := ⟨_, rfl⟩
        rw [hW5] at X5 O5 A5 R5 B5 S5
        simp only [hW5]
        clear hHeld G5 a5 r5 k3 f3 hW5 co o2 o3
        have HE : Hid ((Z ++ [((g1, u1, Value.slice a2 m c2, l1, t1) : Z5)]).map md = L.take (i + 1)) := by show _ = _; rw [List.map_append, HZT.out, List.take_succ_eq_append_getElem hil, HQ.out]; rfl
        go_wp2
        go_roundw
        case rel => exact ⟨i + 1, by omega, by go_num, _, _, HE.out, O5.out, X5.out, A5.out, R5.out, S5.out, B5.out⟩
        case measure => simp [intOf]; omega
      refine AllReadyH.cons (o := { dst := some 23, op := Op.buildSlice 97 1 #[(0, Operand.tmp 22)], type := 97, pos := "l06_box.go:58", after := #[{ on := 7, ground := Ground.data }], guard := none }) rfl (fun K hK => ?_) AllReadyH.nil
      go_simp
      refine hK.out _ _ (HSS.out _ ((B2.out.mono HWR.out).trans ((Below.refl _ _).alloc (Nat.le_trans HWR.out B2.out.size) _))) (fun hHeld => ?_)
      clear hK K
      try simp only [Act.put, List.setIfInBounds_toArray, List.set_cons_zero, List.set_cons_succ]
      clear hHeld
      refine wpAnyH_ready (rs := [1]) (by kernel_rfl) (by simp) ?_
      refine AllReadyH.cons (o := { dst := some 16, op := Op.load 97 (Operand.tmp 15), type := 97, pos := "l06_box.go:58", after := #[{ on := 0, ground := Ground.data }], guard := none }) rfl (fun K hK => ?_) AllReadyH.nil
      go_simp
      refine hK.out _ _ (HSS.out _ ((B2.out.mono HWR.out).trans ((Below.refl _ _).alloc (Nat.le_trans HWR.out B2.out.size) _))) (fun hHeld => ?_)
      clear hK K
      try simp only [Act.put, List.setIfInBounds_toArray, List.set_cons_zero, List.set_cons_succ]
      clear hHeld
      refine wpAnyH_ready (rs := [9]) (by kernel_rfl) (by simp) ?_
      refine AllReadyH.cons (o := { dst := some 24, op := Op.call { callee := Callee.builtin Builtin.append, args := #[Operand.tmp 16, Operand.tmp 23], argTypes := #[97, 97] }, type := 97, pos := "l06_box.go:58", after := #[{ on := 1, ground := Ground.data }, { on := 8, ground := Ground.data }, { on := 7, ground := Ground.chain }], guard := none }) rfl (fun K hK => ?_) AllReadyH.nil
      refine step_append_ml rfl (.tmp 16) (.tmp 23) rfl (w.heap.size + 1 + 1 + 1) _ Z (by rfl) (g1, u1, .slice a2 m c2, l1, t1) (HOZ.out.later B2.out) (own_base HOW.out HBW.out) (fun j hj hj' => by have h1 := (HOZ.out.row.lt j hj).2; have h2 : wr.heap.size ≤ j := (HOW.out.lt j hj').1; omega) (fun y hy j hj hj' => by have h1 := ((HOZ.out.each y hy).lt j hj).2; have h2 : wr.heap.size ≤ j := (HOW.out.lt j hj').1; omega) (by rfl) HZL.out (Nat.le_trans HBW.out B2.out.size) ?_; intro v3 w3 hown3 hb3 _ _
      obtain ⟨a3, c3, hv3⟩ := hown3.shape
      simp only [List.length_append, List.length_cons, List.length_nil, Nat.zero_add] at hv3
      subst hv3
      have HO3 := hid hown3
      have B3 := hid (show Below (w.heap.size + 1 + 1 + 1) wr w3 from (B2.out.mono HBW.out).trans hb3)
      have x3 := (AX.out.later B2.out)
      have x4 : Bx w3 (w.heap.size + 1 + 1) 99 g nm t b nx vv (.slice ga gn gc) := (hb3.block (w.heap.size + 1 + 1) (by omega)).trans x3
      have k3 := x4.cells
      have f3 := x4.loose
      have X4 := hid x4
      clear hown3 hb3 x3 x4
      refine hK.out _ _ (HSS.out _ (B3.out.mono (by omega))) (fun hHeld => ?_)
      clear hK K
      try simp only [Act.put, List.setIfInBounds_toArray, List.set_cons_zero, List.set_cons_succ]
      refine wpAnyH_take (i := 10) (oi := { dst := some 25, op := Op.fieldAddr 99 (Operand.tmp 3) 4, type := 0, pos := "l06_box.go:58", after := #[{ on := 0, ground := Ground.phase }, { on := 1, ground := Ground.phase }, { on := 2, ground := Ground.phase }, { on := 3, ground := Ground.phase }, { on := 4, ground := Ground.phase }, { on := 5, ground := Ground.phase }, { on := 6, ground := Ground.phase }, { on := 7, ground := Ground.phase }, { on := 8, ground := Ground.phase }, { on := 9, ground := Ground.phase }], guard := none }) (v := ?vb9_10) rfl (by kernel_rfl) (by kernel_rfl) (by kernel_rfl) (fun _ _ _ h => h) (Or.inl ⟨by rfl, ?hyb9_10⟩) (by assumption) ?restb9_10
      case hyb9_10 => (intro w hSw; (try dsimp only at hSw); go_simp; try with_reducible rfl)
      try simp only [Act.put, List.setIfInBounds_toArray, List.set_cons_zero, List.set_cons_succ]
      clear hHeld
      refine wpAnyH_ready (rs := [11]) (by kernel_rfl) (by simp) ?_
      refine AllReadyH.cons (o := { dst := none, op := Op.store 97 (Operand.tmp 25) (Operand.tmp 24), type := 0, pos := "l06_box.go:58", after := #[{ on := 10, ground := Ground.data }, { on := 9, ground := Ground.data }, { on := 9, ground := Ground.chain }, { on := 0, ground := Ground.phase }, { on := 1, ground := Ground.phase }, { on := 2, ground := Ground.phase }, { on := 3, ground := Ground.phase }, { on := 4, ground := Ground.phase }, { on := 5, ground := Ground.phase }, { on := 6, ground := Ground.phase }, { on := 7, ground := Ground.phase }, { on := 8, ground := Ground.phase }, { on := 9, ground := Ground.phase }], guard := none }) rfl (fun K hK => ?_) AllReadyH.nil
      go_simp
      refine hK.out _ _ (HSS.out _ (B3.out.mono (by omega) |>.trans ((Below.refl _ _).setCell (p := ⟨w.heap.size + 1 + 1, 5, none⟩) (show w.heap.size + 1 ≤ w.heap.size + 1 + 1 by omega) _))) (fun hHeld => ?_)
      clear hK K
      try simp only [Act.put, List.setIfInBounds_toArray, List.set_cons_zero, List.set_cons_succ]
      refine wpAnyH_done (by kernel_rfl) ?_ _
      refine NoPanic.normal ?_
      have X5 := hid (X4.out.s5 (Value.slice a3 (Z.length + 1) c3))
      have G5 : w3.grownBy (w3.setCell ⟨w.heap.size + 1 + 1, 5, none⟩ (Value.slice a3 (Z.length + 1) c3)) (some (w.heap.size + 1 + 1)) := wst (wre _ _) _ _
      have O5 := hid (HO3.out.grown G5 (by omega))
      have a5 : Bx w3 w.heap.size 99 g nm t b nx (.slice (some ⟨k, o, none⟩) mn mc) (.slice ga gn gc) := (B3.out.block w.heap.size (by omega)).trans A6.out
      have A5 := hid (a5.grown G5 (fun e => by simp only [Option.some.injEq] at e; omega))
      have r5 : Bx w3 (w.heap.size + 1) 99 0 ⟨#[]⟩ 0 0 0 (.slice none 0 0) (.slice none 0 0) := (B3.out.block (w.heap.size + 1) (by omega)).trans RX.out
      have R5 := hid (r5.grown G5 (fun e => by simp only [Option.some.injEq] at e; omega))
      have B5 : Hid (Below w.heap.size w (w3.setCell ⟨w.heap.size + 1 + 1, 5, none⟩ (Value.slice a3 (Z.length + 1) c3))) := (HB.out.trans (B3.out.mono (by omega))).trans (below_of_grown G5 (by omega) (by have h1 := HB.out.size; have h2 := B3.out.size; omega))
      have S5 : Hid (w.heap.size + 1 + 1 + 1 ≤ (w3.setCell ⟨w.heap.size + 1 + 1, 5, none⟩ (Value.slice a3 (Z.length + 1) c3)).heap.size) := by show _ ≤ _; have h1 := HBW.out; have h2 := B3.out.size; have h3 := G5.size; omega
      obtain ⟨W5, hW5⟩ : ∃ W5, w3.setCell ⟨w.heap.size + 1 + 1, 5, none⟩ (Value.slice a3 (Z.length + 1) c3) = W5 := ⟨_, rfl⟩
      rw [hW5] at X5 O5 A5 R5 B5 S5
      simp only [hW5]
      clear hHeld G5 a5 r5 k3 f3 hW5 co o2 o3
      have HE : Hid ((Z ++ [((g1, u1, Value.slice a2 m c2, l1, t1) : Z5)]).map md = L.take (i + 1)) := by show _ = _; rw [List.map_append, HZT.out, List.take_succ_eq_append_getElem hil, HQ.out]; rfl
      go_wp2
      go_roundw
      case rel => exact ⟨i + 1, by omega, by go_num, _, _, HE.out, O5.out, X5.out, A5.out, R5.out, S5.out, B5.out⟩
      case measure => simp [intOf]; omega

    · have HE : Hid (Z.map md = L) := by show _ = _; rw [HZT.out, List.take_of_length_le (by rw [HL.out]; omega)]
      obtain ⟨i0, hi0, hz0, hz1, hz2⟩ := info_parts3 info_int
      have hsv := HOZ.out.shape
      obtain ⟨va, vc, rfl⟩ := hsv
      cases ga with
      | none =>
        have hgz : gn = 0 := by
          by_cases h : 0 < gn
          · obtain ⟨_, _, h1, _⟩ := HIS.out.2 0 (by rw [HGL.out]; exact h)
            cases h1
          · omega
        subst hgz
        obtain rfl := HG0.out rfl
        have hge : G = [] := List.eq_nil_of_length_eq_zero HGL.out
        subst hge
        obtain ⟨w1, hw1⟩ : ∃ w1, wr.alloc (.cells #[] 3) = w1 := ⟨_, rfl⟩
        have b1 : Below wr.heap.size wr w1 := by subst hw1; exact bpush (bre _) _
        have own1 : OwI w1 wr.heap.size (.slice (some ⟨wr.heap.size, 0, none⟩) 0 0) [] := by subst hw1; exact ownI_empty wr _ (Nat.le_refl _)
        have x1 := AX.out.later b1
        have r1 := RX.out.later b1
        have k2 := x1.cells
        have f2 := x1.loose
        have k1 := r1.cells
        have f1 := r1.loose
        have X1 := hid x1
        have R1 := hid r1
        have B1 := hid b1
        have O1 := hid own1
        have ca := (A6.out.later b1).cells
        clear x1 r1 b1 own1 co
        go_wp2
        clear hw1
        have k2 := X1.out.s6 (.slice (some ⟨wr.heap.size, 0, none⟩) 0 0)
        have e1 : w1.grownBy (w1.setCell ⟨w.heap.size + 1 + 1, 6, none⟩ (.slice (some ⟨wr.heap.size, 0, none⟩) 0 0)) (some (w.heap.size + 1 + 1)) := wst (wre _ _) _ _
        have k1 := R1.out.grown e1 (fun e => by simp only [Option.some.injEq] at e; omega)
        have e2 := set7_grown (w1.setCell ⟨w.heap.size + 1 + 1, 6, none⟩ (.slice (some ⟨wr.heap.size, 0, none⟩) 0 0)) (w.heap.size + 1) g nm t b nx (.slice va Z.length vc) (.slice (some ⟨wr.heap.size, 0, none⟩) 0 0)
        have d1 := (k1.set7 g nm t b nx (.slice va Z.length vc) (.slice (some ⟨wr.heap.size, 0, none⟩) 0 0)).cells
        unfold set7 at d1 e2
        have HD := Dj.later HOZ.out.row O1.out (Nat.le_refl _)
        have HEE := fun z hz => Dj.later (HOZ.out.each z hz) O1.out (Nat.le_refl _)
        have h1 := HBW.out
        have h2 := HB.out.size
        have h3 := B1.out.size
        have h4 := e1.size
        refine bodyPost_ret (v := .agg #[.int .i64 g, .string nm, .int .i64 t, .int .i64 b, .int .i64 nx, .slice va Z.length vc, .slice (some ⟨wr.heap.size, 0, none⟩) 0 0]) (by simp [results, Try.results71, go_sem, d1]) rfl ⟨_, _, rfl, ⟨Z, HE.out, ?_, ?_, HD, HEE⟩, ?_⟩
        · exact (((HOZ.out.later B1.out).grown e1 (by omega)).grown e2 (by omega)).base (by omega)
        · exact own_base (OwI.grown (OwI.grown O1.out e1 (by omega)) e2 (by omega)) (by omega)
        · exact (btr HB.out B1.out).trans ((below_of_grown e1 (by omega) (by omega)).trans (below_of_grown e2 (by omega) (by omega)))
      | some ad =>
        have HSRC : Hid (∀ j u, (G.map (Value.int .i64))[j]? = some u → (wr.alloc (.cells #[] 3)).cell? (ad.add j) = some u) := (HIS.out.later (btr HB.out (bpush (bre _) _))).all
        have ca := (A6.out.later (bpush (bre wr) (.cells #[] 3))).cells
        clear co
        go_wp2_with (at_builtin; refine wpList_append_own _ rfl (.tmp 26) (.tmp 28) 23 rfl wr.heap.size 3 i0 _ 1 8 Try.underlying23 hi0 hz0 hz1 hz2 rfl (by decide) _ 0 [] (by rfl) (ownI_empty wr _ (Nat.le_refl _)) ad gn gc (G.map (Value.int .i64)) (by rfl) (by rw [List.length_map, HGL.out, Nat.mul_one]) HSRC.out (int_one G) (by have := HGN.out; unfold maxLen; omega) (by have := HGN.out; omega) (by simp) ?_; intro v1 w1 hown1 hg1 _; have own1 : OwI w1 wr.heap.size v1 G := (by simpa [OwI, HGL.out] using hown1); obtain ⟨ag, cg, hvg, _⟩ := own1.shape; rw [HGL.out] at hvg; subst hvg; have b1 : Below wr.heap.size wr w1 := (bpush (bre wr) _).grown hg1 (by simp) (by intro k hk; simp [Value.ownBlock] at hk; omega); have x1 := AX.out.later b1; have r1 := RX.out.later b1; have k2 := x1.cells; have f2 := x1.loose; have k1 := r1.cells; have f1 := r1.loose; have X1 := hid x1; have R1 := hid r1; have B1 := hid b1; have O1 := hid own1; clear x1 r1 b1 own1 hown1 hg1)
        have k2 := X1.out.s6 (.slice (ag) gn cg)
        have e1 : w1.grownBy (w1.setCell ⟨w.heap.size + 1 + 1, 6, none⟩ (.slice (ag) gn cg)) (some (w.heap.size + 1 + 1)) := wst (wre _ _) _ _
        have k1 := R1.out.grown e1 (fun e => by simp only [Option.some.injEq] at e; omega)
        have e2 := set7_grown (w1.setCell ⟨w.heap.size + 1 + 1, 6, none⟩ (.slice (ag) gn cg)) (w.heap.size + 1) g nm t b nx (.slice va Z.length vc) (.slice (ag) gn cg)
        have d1 := (k1.set7 g nm t b nx (.slice va Z.length vc) (.slice (ag) gn cg)).cells
        unfold set7 at d1 e2
        have HD := Dj.later HOZ.out.row O1.out (Nat.le_refl _)
        have HEE := fun z hz => Dj.later (HOZ.out.each z hz) O1.out (Nat.le_refl _)
        have h1 := HBW.out
        have h2 := HB.out.size
        have h3 := B1.out.size
        have h4 := e1.size
        refine bodyPost_ret (v := .agg #[.int .i64 g, .string nm, .int .i64 t, .int .i64 b, .int .i64 nx, .slice va Z.length vc, .slice (ag) gn cg]) (by simp [results, Try.results71, go_sem, d1]) rfl ⟨_, _, rfl, ⟨Z, HE.out, ?_, ?_, HD, HEE⟩, ?_⟩
        · exact (((HOZ.out.later B1.out).grown e1 (by omega)).grown e2 (by omega)).base (by omega)
        · exact own_base (OwI.grown (OwI.grown O1.out e1 (by omega)) e2 (by omega)) (by omega)
        · exact (btr HB.out B1.out).trans ((below_of_grown e1 (by omega) (by omega)).trans (below_of_grown e2 (by omega) (by omega)))
end Go.Proofs.Ytckenihadlmlaaa
namespace Go.Proofs.Ytckenihadlmlaaa
open Go.RowKit Go.ChangeMaps
/-- A row of mails as it lies, with the values of the flags. -/
theorem Ms.src {lo hh : Nat} {W : World} {ad : Addr} {L : List M4} (h : Ms lo hh W (some ad) L) : ∃ X : List Z5, X.map md = L ∧ (∀ x ∈ X, ∃ a c, x.2.2.1 = .slice a x.2.2.2.1.length c ∧ Rb lo hh W a x.2.2.2.1 ∧ (a = none → c = 0)) ∧ (∀ j u, (zc X)[j]? = some u → W.cell? (ad.add j) = some u) := by
  have hx : ∀ i, i < L.length → ∃ z : Z5, (∀ hi : i < L.length, md z = L[i]) ∧ (∃ a c, z.2.2.1 = .slice a z.2.2.2.1.length c ∧ Rb lo hh W a z.2.2.2.1 ∧ (a = none → c = 0)) ∧ (W.cell? (ad.add (i * 4)) = some (.int .i64 z.1) ∧ W.cell? (ad.add (i * 4 + 1)) = some (.int .i64 z.2.1) ∧ W.cell? (ad.add (i * 4 + 2)) = some z.2.2.1 ∧ W.cell? (ad.add (i * 4 + 3)) = some (.string z.2.2.2.2)) := by
    intro i hi
    obtain ⟨k, o, fa, fc, h1, _, _, h3, h4, h5⟩ := h.2 i hi
    simp only [Option.some.injEq] at h1
    subst h1
    refine ⟨(L[i].1, L[i].2.1, .slice fa L[i].2.2.1.length fc, L[i].2.2.1, L[i].2.2.2), fun _ => rfl, ⟨fa, fc, rfl, h4, h5⟩, ?_⟩
    simp only [addr_add]
    simpa only [Nat.add_assoc] using h3
  obtain ⟨r, hr⟩ := Go.Deep.choose_lt hx
  refine ⟨(List.range L.length).map r, ?_, ?_, ?_⟩
  · apply List.ext_getElem
    · simp
    · intro i h1 h2
      simp only [List.getElem_map, List.getElem_range]
      exact (hr i h2).1 h2
  · intro x hx
    obtain ⟨i, hi, rfl⟩ := List.mem_map.1 hx
    exact (hr i (List.mem_range.1 hi)).2.1
  · intro j u hu
    have hj : j < (zc ((List.range L.length).map r)).length := (List.getElem?_eq_some_iff.1 hu).1
    rw [zc_len] at hj
    have hi : j / 4 < ((List.range L.length).map r).length := by omega
    have hi' : j / 4 < L.length := by simpa using hi
    have e := zc_at _ (j / 4) hi
    simp only [List.getElem_map, List.getElem_range] at e
    obtain ⟨c0, c1, c2, c3⟩ := (hr (j / 4) hi').2.2
    have h4 : j % 4 = 0 ∨ j % 4 = 1 ∨ j % 4 = 2 ∨ j % 4 = 3 := by omega
    rcases h4 with h4 | h4 | h4 | h4
    · have ej : j = j / 4 * 4 := by omega
      rw [← ej] at e c0
      rw [c0, ← e.1, hu]
    · have ej : j = j / 4 * 4 + 1 := by omega
      rw [← ej] at e c1
      rw [c1, ← e.2.1, hu]
    · have ej : j = j / 4 * 4 + 2 := by omega
      rw [← ej] at e c2
      rw [c2, ← e.2.2.1, hu]
    · have ej : j = j / 4 * 4 + 3 := by omega
      rw [← ej] at e c3
      rw [c3, ← e.2.2.2, hu]
set_option maxHeartbeats 400000 in
set_option maxRecDepth 100000 in
theorem cloneMl_any (lo hh : Nat) (ma : Option Addr) (n cap : Nat) (L : List M4) (w : World) (hl : L.length = n) (hn : n ≤ 1048576) (hr : Ms lo hh w ma L) (h0 : ma = none → cap = 0) :
    Calls Try.prog 85 #[.slice ma n cap] w fun e w' => ∃ a c X, e = .returned (.slice a n c) ∧ X.map md = L ∧ (∀ x ∈ X, ∃ a c, x.2.2.1 = .slice a x.2.2.2.1.length c ∧ Rb lo hh w a x.2.2.2.1 ∧ (a = none → c = 0)) ∧ w'.ownsRow w.heap.size 115 4 (.slice a n c) n (zc X) ∧ Below w.heap.size w w' := by
  have HR := hid hr
  have HL := hid hl
  have HN := hid hn
  clear hr hl hn
  cases ma with
  | none =>
    have hn0 : n = 0 := by
      by_cases h : 0 < n
      · obtain ⟨_, _, _, _, h1, _⟩ := HR.out.2 0 (by rw [HL.out]; exact h)
        cases h1
      · omega
    subst hn0
    obtain rfl := h0 rfl
    have hle : L = [] := List.eq_nil_of_length_eq_zero HL.out
    subst hle
    clear h0
    have hnil : ∀ W, (binOp .eql 97 (.slice none 0 0) (.slice none 0 0)).run Try.prog W = .ok (.bool true) W := fun W => Lib.run_eql_slice_nil_nil W 0 0 Try.underlying97
    go_enter Try.func85, Try.ntmps85
    go_wp2
    go_ret
    exact ⟨none, 0, [], rfl, rfl, (fun x hx => by cases hx), ⟨rfl, .inl ⟨rfl, rfl⟩⟩, bre _⟩
  | some ad =>
    clear h0
    obtain ⟨i0, hi, hz0, hz1, hz2⟩ := info_parts3 info_ml
    obtain ⟨X, hX1, hX2, hX3⟩ := HR.out.src
    obtain ⟨X', hX', hX''⟩ : ∃ X' : List Z5, X' = X ∧ True := ⟨X, rfl, trivial⟩
    have hxl : X.length = n := by have := congrArg List.length hX1; simpa [HL.out] using this
    have HX1 := hid hX1
    have HX2 := hid hX2
    have HXL := hid hxl
    have HSRC : Hid (∀ j u, (zc X)[j]? = some u → (w.alloc (.cells #[] 115)).cell? (ad.add j) = some u) := by
      intro j u hu
      have hc := hX3 j u hu
      exact ((bpush (bre w) (.cells #[] 115)).cell (p := ad.add j) (World.block_lt_of_cell? w _ hc)).trans hc
    clear hX1 hX2 hX3 hX' hX'' X' hxl
    have hnil : ∀ W, (binOp .eql 97 (.slice (some ad) n cap) (.slice none 0 0)).run Try.prog W = .ok (.bool false) W := fun W => Lib.run_eql_slice_some_nil W ad n cap Try.underlying97
    go_enter Try.func85, Try.ntmps85
    go_wp2_with (at_builtin; refine wpList_append_own _ rfl (.tmp 5) (.tmp 6) 97 rfl w.heap.size 115 i0 _ 4 56 Try.underlying97 hi hz0 hz1 hz2 rfl (by decide) _ 0 [] (by rfl) (ownZ_empty w _ (Nat.le_refl _)).row ad n cap (zc X) (by rfl) (by rw [zc_len, HXL.out]) HSRC.out (zc_one (fun z hz => by obtain ⟨a, c, h, _⟩ := HX2.out z hz; exact ⟨a, _, c, h⟩)) (by have := HN.out; unfold maxLen; omega) (by have := HN.out; omega) (by simp) ?_; intro v1 w1 hown1 hg1 _)
    have hown2 : w1.ownsRow w.heap.size 115 4 v1 n (zc X) := by simpa using hown1
    have hsh : ∃ a c, v1 = .slice a n c := by
      rcases hown2.2 with ⟨h1, h2⟩ | ⟨g, cap, cur, h1, _⟩
      · exact ⟨none, 0, by rw [h1, h2]⟩
      · exact ⟨_, _, h1⟩
    obtain ⟨a, c, rfl⟩ := hsh
    go_ret
    exact ⟨a, c, X, rfl, HX1.out, HX2.out, hown2, (bpush (bre _) _).grown hg1 (by simp) (by intro k hk; simp [Value.ownBlock] at hk; omega)⟩
end Go.Proofs.Ytckenihadlmlaaa
namespace Go.Proofs.Ytckenihadlmlaaa
open Go.RowKit Go.ChangeMaps
theorem mid_set {P : List Z5} {x z : Z5} {C : List Z5} : (P ++ x :: C).set P.length z = P ++ z :: C := by
  rw [List.set_append_right _ _ (Nat.le_refl _)]; simp
theorem dropc {X : List Z5} {i : Nat} (h : i < X.length) : X.drop i = X[i] :: X.drop (i + 1) := List.drop_eq_getElem_cons h
set_option maxHeartbeats 8000000 in
set_option maxRecDepth 100000 in
theorem copyOfBox_any (lo hh lo' hh' : Nat) (g : Int) (nm : ByteArray) (t b nx : Int) (ma : Option Addr) (mn mc : Nat) (ga : Option Addr) (gn gc : Nat) (L : List M4) (G : List Int) (w : World) (hnm : nm.size ≤ 1048576) (hl : L.length = mn) (hn : mn ≤ 1048576) (hsm : Sm L) (hm : Ms lo hh w ma L) (hm0 : ma = none → mc = 0) (hgl : G.length = gn) (hgn : gn ≤ 1048576) (hs : Is lo' hh' w ga G) (hg0 : ga = none → gc = 0) :
    Calls Try.prog 74 #[.agg #[.int .i64 g, .string nm, .int .i64 t, .int .i64 b, .int .i64 nx, .slice ma mn mc, .slice ga gn gc]] w fun e w' => ∃ mv gv, e = .returned (.agg #[.int .i64 g, .string nm, .int .i64 t, .int .i64 b, .int .i64 nx, mv, gv]) ∧ OwB w' w.heap.size mv gv L G ∧ Below w.heap.size w w' := by
  obtain ⟨W0, hW0⟩ : ∃ W0, ((w.alloc (.cells #[.int .i64 g, .string nm, .int .i64 t, .int .i64 b, .int .i64 nx, .slice ma mn mc, .slice ga gn gc] 99)).alloc (.cells #[.int .i64 0, .string ⟨#[]⟩, .int .i64 0, .int .i64 0, .int .i64 0, .slice none 0 0, .slice none 0 0] 99)) = W0 := ⟨_, rfl⟩
  obtain ⟨a0, a1, b0, s0⟩ := two_boxes w _ _ _ _ _ _ _ _ _ _ _ _ _ _ _ _ W0 hW0
  have c0 := a0.cells
  have A0 := hid a0
  have A1 := hid a1
  have B0 := hid b0
  have S0 := hid s0
  have HL := hid hl
  have HSM := hid hsm
  have HR := hid hm
  have HM0 := hid hm0
  have HGL := hid hgl
  have HGN := hid hgn
  have HIS := hid hs
  have HG0 := hid hg0
  have HNM := hid hnm
  clear a0 a1 b0 s0 hl hsm hm hm0 hgl hgn hs hg0 hnm
  go_enter Try.func74, Try.ntmps74
  go_wp2_with fail
  clear hW0
  refine (clone_any nm _ HNM.out).mono ?_; rintro e w1 ⟨rfl, hb1⟩
  have x1 := A0.out.later hb1
  have c0 := x1.cells
  have f0 := x1.loose
  have X1 := hid x1
  have R1 := hid (A1.out.later hb1)
  have B1 := hid (btr B0.out hb1)
  have S1 : Hid (w.heap.size + 1 + 1 ≤ w1.heap.size) := by show _ ≤ _; have h1 := S0.out; have h2 := hb1.size; omega
  clear x1 hb1 A0 A1 B0 S0
  go_wp2_with fail
  obtain ⟨W2, hW2⟩ : ∃ W2, w1.setCell ⟨w.heap.size, 1, none⟩ (.string nm) = W2 := ⟨_, rfl⟩
  have G2 : w1.grownBy W2 (some w.heap.size) := by subst hW2; exact wst (wre _ _) _ _
  have x2 : Bx W2 w.heap.size 99 g nm t b nx (.slice ma mn mc) (.slice ga gn gc) := by subst hW2; exact X1.out.s1 nm
  have r2 := R1.out.grown G2 (fun e => by simp only [Option.some.injEq] at e; omega)
  have b2 : Below w.heap.size w W2 := B1.out.trans (below_of_grown G2 (Nat.le_refl _) B1.out.size)
  have s2 : w.heap.size + 1 + 1 ≤ W2.heap.size := Nat.le_trans S1.out G2.size
  rw [hW2]
  have X2 := hid x2
  have R2 := hid r2
  have B2 := hid b2
  have S2 := hid s2
  clear hW2 c0 f0 x2 r2 b2 s2 G2 X1 R1 B1 S1
  refine (cloneMl_any lo hh ma mn mc L W2 HL.out hn (HR.out.later B2.out) HM0.out).mono ?_; rintro e w3 ⟨va, vc, X, rfl, hX1, hX2, hrow, hb3⟩
  have x3 := X2.out.later hb3
  have c0 := x3.cells
  have f0 := x3.loose
  have X3 := hid x3
  have R3 := hid (R2.out.later hb3)
  have B3 := hid (btr B2.out hb3)
  obtain ⟨RB, hRB⟩ : ∃ RB, W2.heap.size = RB := ⟨_, rfl⟩
  rw [hRB] at hrow
  have HRB : Hid (w.heap.size + 1 + 1 ≤ RB) := by show _ ≤ _; rw [← hRB]; exact S2.out
  have HRW := hid hrow
  have HX1 := hid hX1
  have HHW := hid HR.out.1
  have HX2 : Hid (∀ W, Below w.heap.size w W → ∀ x ∈ X, ∃ a c, x.2.2.1 = .slice a x.2.2.2.1.length c ∧ Rs W a x.2.2.2.1 ∧ (a = none → c = 0)) := fun W hW x hx => by
    obtain ⟨a, c, h1, h2, h3⟩ := hX2 x hx
    have hh1 := HHW.out
    refine ⟨a, c, h1, (h2.same (fun k _ hk => ?_)).rs (Nat.le_trans hh1 hW.size), h3⟩
    exact (hW.block k (by omega)).trans (B2.out.block k (by omega)).symm
  have HXL : Hid (X.length = mn) := by show _ = _; have := congrArg List.length hX1; simpa [HL.out] using this
  have HB2 : Hid (RB ≤ w3.heap.size) := by show _ ≤ _; rw [← hRB]; exact hb3.size
  clear hrow hX1 hX2 x3 hb3 S2 hRB
  go_wp2_with fail
  obtain ⟨W4, hW4⟩ : ∃ W4, w3.setCell ⟨w.heap.size, 5, none⟩ (.slice va mn vc) = W4 := ⟨_, rfl⟩
  have G4 : w3.grownBy W4 (some w.heap.size) := by subst hW4; exact wst (wre _ _) _ _
  have x4 : Bx W4 w.heap.size 99 g nm t b nx (.slice va mn vc) (.slice ga gn gc) := by subst hW4; exact X3.out.s5 _
  have r4 := R3.out.grown G4 (fun e => by simp only [Option.some.injEq] at e; omega)
  have b4 : Below w.heap.size w W4 := B3.out.trans (below_of_grown G4 (Nat.le_refl _) B3.out.size)
  have w4 : W4.ownsRow RB 115 4 (.slice va mn vc) mn (zc X) := World.ownsRow.kept HRW.out G4 (by
    cases hv : Value.ownBlock (.slice va mn vc) with
    | none => exact Or.inl rfl
    | some j => exact Or.inr (fun e => by have := (HRW.out.lt j hv).1; have := HRB.out; simp at e; omega))
  rw [hW4]
  have X4 := hid x4
  have R4 := hid r4
  have B4 := hid b4
  have W4R := hid w4
  have S4 : Hid (RB ≤ W4.heap.size) := by show _ ≤ _; have h1 := HB2.out; have h2 := G4.size; omega
  clear hW4 c0 f0 x4 r4 b4 w4 G4 X3 R3 B3 HRW
  go_loopw [16] (fun iv wr => ∃ i : Nat, i ≤ mn ∧ iv = .int .i64 (i : Int) ∧ ∃ P : List Z5, P.map md = L.take i ∧ P.length = i ∧ wr.ownsRow RB 115 4 (.slice va mn vc) mn (zc (P ++ X.drop i)) ∧ (∀ z ∈ P, Ow wr RB z.2.2.1 z.2.2.2.1) ∧ (∀ z ∈ P, Dj (.slice va mn vc) z.2.2.1) ∧ P.Pairwise (fun x y => Dj x.2.2.1 y.2.2.1) ∧ Bx wr w.heap.size 99 g nm t b nx (.slice va mn vc) (.slice ga gn gc) ∧ Bx wr (w.heap.size + 1) 99 0 ⟨#[]⟩ 0 0 0 (.slice none 0 0) (.slice none 0 0) ∧ RB ≤ wr.heap.size ∧ Below w.heap.size w wr) (fun iv _ => mn - (intOf iv).toNat)
  case atStart => exact ⟨0, Nat.zero_le _, rfl, [], rfl, rfl, by simpa using W4R.out, (fun z hz => by cases hz), (fun z hz => by cases hz), List.Pairwise.nil, X4.out, R4.out, S4.out, B4.out⟩
  case round =>
    obtain ⟨i, hin, rfl, P, hP1, hP2, hrow, hP3, hP4, hP5, hbx, hrx, hsz, hb⟩ := hrel
    have HP1 := hid hP1
    have HP2 := hid hP2
    have HP3 := hid hP3
    have HP4 := hid hP4
    have HP5 := hid hP5
    have HRW := hid hrow
    have X5 := hid hbx
    have R5 := hid hrx
    have S5 := hid hsz
    have B5 := hid hb
    have c0 := hbx.cells
    clear hP1 hP2 hP3 hP4 hP5 hbx hrx hb hsz hrow
    by_cases hlt : i < mn
    · have hix : i < X.length := by rw [HXL.out]; exact hlt
      have hil : i < L.length := by rw [HL.out]; exact hlt
      rcases HRW.out.2 with ⟨_, h2⟩ | ⟨gr, cap, cur, hva, hgr, _⟩
      · omega
      simp only [Value.slice.injEq, true_and] at hva
      obtain ⟨rfl, rfl⟩ := hva
      have hyl : i < (P ++ X.drop i).length := by rw [List.length_append, HP2.out, List.length_drop]; omega
      obtain ⟨d, f⟩ := Rw.spot HRW.out i hyl
      have hyi : (P ++ X.drop i)[i] = X[i] := by
        rw [List.getElem_append_right (by rw [HP2.out]; omega)]
        simp [HP2.out]
      rw [hyi] at d
      have hset := fun (W : World) (h : Rw W RB gr mn vc (P ++ X.drop i)) (z : Z5) => Rw.set h i hlt z
      have hmid : ∀ z, (P ++ X.drop i).set i z = (P ++ [z]) ++ X.drop (i + 1) := fun z => by
        have := mid_set (P := P) (x := X[i]) (z := z) (C := X.drop (i + 1))
        rw [← dropc hix, HP2.out] at this
        rw [this]; simp
      have hxm := HX2.out wr B5.out X[i] (List.getElem_mem hix)
      have hmd : md X[i] = L[i] := by have e := congrArg (fun l => l[i]?) HX1.out; simpa [hix, hil] using e
      have hmem := HSM.out L[i] (List.getElem_mem hil)
      rw [← hmd] at hmem
      obtain ⟨x, hxe⟩ : ∃ x, X[i] = x := ⟨_, rfl⟩
      rw [hxe] at d hxm hmd hmem
      obtain ⟨g1, u1, f1, l1, t1⟩ := x
      obtain ⟨fa, fc, hf1, hrs, hz0⟩ := hxm
      dsimp only [md] at hf1 d hrs hmem hmd
      subst hf1
      obtain ⟨m, hm⟩ : ∃ m, l1.length = m := ⟨_, rfl⟩
      rw [hm] at d
      have HM := hid hm
      have HML : Hid (m ≤ 1048576) := by show _ ≤ _; rw [← hm]; exact hmem.1
      have HTL := hid hmem.2
      have HRS := hid hrs
      have HZ0 := hid hz0
      have HMD := hid hmd
      have HST := hid hset
      have HMI := hid hmid
      have HGR := hid hgr
      have hI : (0 : Int) ≤ (i : Int) ∧ (i : Int) < (mn : Int) := by omega
      clear hm hmem hrs hz0 hmd hset hmid hgr hyi hxe hyl f
      go_wp2_with fail
      obtain ⟨W1, hW1⟩ : ∃ W1, wr.alloc (.cells #[.int .i64 g1, .int .i64 u1, .slice fa m fc, .string t1] 115) = W1 := ⟨_, rfl⟩
      have A1 : Hid (Mg W1 wr.heap.size 115 g1 u1 (.slice fa m fc) t1) := by subst hW1; exact Mg.new _ _ _ _ _ _
      have B1 : Hid (Below wr.heap.size wr W1) := by subst hW1; exact bpush (bre _) _
      rw [hW1]
      have HS : Hid (∀ W, Below W1.heap.size W1 W → (W.cell? ⟨w.heap.size, 0, none⟩ = some (.int .i64 g) ∧ W.cell? ⟨w.heap.size, 1, none⟩ = some (.string nm) ∧ W.cell? ⟨w.heap.size, 2, none⟩ = some (.int .i64 t) ∧ W.cell? ⟨w.heap.size, 3, none⟩ = some (.int .i64 b) ∧ W.cell? ⟨w.heap.size, 4, none⟩ = some (.int .i64 nx) ∧ W.cell? ⟨w.heap.size, 5, none⟩ = some (.slice (some ⟨gr, 0, none⟩) mn vc) ∧ W.cell? ⟨w.heap.size, 6, none⟩ = some (.slice ga gn gc)) ∧ (W.cell? ⟨wr.heap.size, 0, none⟩ = some (.int .i64 g1) ∧ W.cell? ⟨wr.heap.size, 1, none⟩ = some (.int .i64 u1) ∧ W.cell? ⟨wr.heap.size, 2, none⟩ = some (.slice fa m fc) ∧ W.cell? ⟨wr.heap.size, 3, none⟩ = some (.string t1))) := fun W h => ⟨(X5.out.later (btr B1.out h)).cells, (A1.out.later h).cells⟩
      clear c0 d hW1
      go_region_held3 (fun W => (W.cell? ⟨w.heap.size, 0, none⟩ = some (.int .i64 g) ∧ W.cell? ⟨w.heap.size, 1, none⟩ = some (.string nm) ∧ W.cell? ⟨w.heap.size, 2, none⟩ = some (.int .i64 t) ∧ W.cell? ⟨w.heap.size, 3, none⟩ = some (.int .i64 b) ∧ W.cell? ⟨w.heap.size, 4, none⟩ = some (.int .i64 nx) ∧ W.cell? ⟨w.heap.size, 5, none⟩ = some (.slice (some ⟨gr, 0, none⟩) mn vc) ∧ W.cell? ⟨w.heap.size, 6, none⟩ = some (.slice ga gn gc)) ∧ (W.cell? ⟨wr.heap.size, 0, none⟩ = some (.int .i64 g1) ∧ W.cell? ⟨wr.heap.size, 1, none⟩ = some (.int .i64 u1) ∧ W.cell? ⟨wr.heap.size, 2, none⟩ = some (.slice fa m fc) ∧ W.cell? ⟨wr.heap.size, 3, none⟩ = some (.string t1)))
        ((first | exact HS.out _ (bdr (bre _)) | exact HS.out _ (btr (bdr (bre _)) hb2) | exact HS5.out))
        ((go_at_call 86; refine (copyOf_any g1 u1 fa m fc l1 t1 _ HM.out HML.out HTL.out (HRS.out.later (btr B1.out (bdr (bre _)))) HZ0.out).mono ?_; rintro e w2 ⟨v, rfl, how, hb2⟩;
          obtain ⟨a2, c2, rfl, _⟩ := Ow.shape how;
          rw [HM.out] at how ⊢;
          have B2 := hid (show Below wr.heap.size wr w2 from btr (btr B1.out (bdr (bre _))) hb2);
          have hr2 := own_later HRW.out B2.out;
          have hsp := Rw.spot hr2 i (by rw [List.length_append, HP2.out, List.length_drop]; omega);
          obtain ⟨e0, e1, e2, e3⟩ := hsp.1;
          have f2 := hsp.2;
          have hr5 := HST.out w2 hr2 (g1, u1, .slice a2 m c2, l1, t1);
          rw [HMI.out] at hr5;
          have HR5 := hid hr5;
          have HOW := hid how;
          have g5 : w2.grownBy ((((w2.setCell ⟨gr, i * 4, none⟩ (.int .i64 g1)).setCell ⟨gr, i * 4 + 1, none⟩ (.int .i64 u1)).setCell ⟨gr, i * 4 + 2, none⟩ (.slice a2 m c2)).setCell ⟨gr, i * 4 + 3, none⟩ (.string t1)) (some gr) := wst (wst (wst (wst (wre _ _) _ _) _ _) _ _) _ _;
          have HG5 := hid g5;
          have HGN2 : w.heap.size < gr := by { have h1 := HRB.out; have h2 := HGR.out; omega };
          have HGW : gr < wr.heap.size := (HRW.out.lt gr rfl).2;
          have HS5 := hid (And.intro (Bx.cells ((X5.out.later B2.out).grown g5 (fun e => by simp only [Option.some.injEq] at e; omega))) (Mg.cells ((A1.out.later (btr (bdr (bre _)) hb2)).grown g5 (fun e => by simp only [Option.some.injEq] at e; omega))));
          clear hsp hr5 how g5 hr2))
      obtain ⟨W5, hW5⟩ : ∃ W5, ((((w2.setCell ⟨gr, i * 4, none⟩ (.int .i64 g1)).setCell ⟨gr, i * 4 + 1, none⟩ (.int .i64 u1)).setCell ⟨gr, i * 4 + 2, none⟩ (.slice a2 m c2)).setCell ⟨gr, i * 4 + 3, none⟩ (.string t1)) = W5 := ⟨_, rfl⟩

      rw [hW5] at HR5 HG5 HS5 ⊢
      have x5 := (X5.out.later B2.out).grown HG5.out (fun e => by simp only [Option.some.injEq] at e; omega)
      have r5 := (R5.out.later B2.out).grown HG5.out (fun e => by simp only [Option.some.injEq] at e; have h1 := HRB.out; have h2 := HGR.out; omega)
      have s5 : RB ≤ W5.heap.size := by have h1 := S5.out; have h2 := B2.out.size; have h3 := HG5.out.size; omega
      have b5 : Below w.heap.size w W5 := (btr B5.out B2.out).trans (below_of_grown HG5.out (by omega) (by have h1 := B5.out.size; have h2 := B2.out.size; omega))
      have hnew : W1.heap.size ≤ W1.heap.size := Nat.le_refl _
      have hb1s := B1.out.size
      have p3 : ∀ z ∈ P ++ [((g1, u1, Value.slice a2 m c2, l1, t1) : Z5)], Ow W5 RB z.2.2.1 z.2.2.2.1 := by
        intro z hz
        rcases List.mem_append.1 hz with hz | hz
        · exact World.ownsRow.kept (own_later (HP3.out z hz) B2.out) HG5.out (Or.inr (fun e => HP4.out z hz gr rfl e))
        · simp at hz
          subst hz
          refine World.ownsRow.kept (own_base HOW.out (by have h1 := S5.out; show RB ≤ W1.heap.size; omega)) HG5.out (Or.inr (fun e => ?_))
          have h1 : W1.heap.size ≤ gr := (HOW.out.lt gr e).1
          omega
      have p4 : ∀ z ∈ P ++ [((g1, u1, Value.slice a2 m c2, l1, t1) : Z5)], Dj (.slice (some ⟨gr, 0, none⟩) mn vc) z.2.2.1 := by
        intro z hz
        rcases List.mem_append.1 hz with hz | hz
        · exact HP4.out z hz
        · simp at hz
          subst hz
          intro j hj hj'
          have h1 : W1.heap.size ≤ j := (HOW.out.lt j hj').1
          simp [Value.ownBlock] at hj
          omega
      have p5 : (P ++ [((g1, u1, Value.slice a2 m c2, l1, t1) : Z5)]).Pairwise (fun x y => Dj x.2.2.1 y.2.2.1) := by
        rw [List.pairwise_append]
        refine ⟨HP5.out, by simp, ?_⟩
        intro x hx y hy j hj hj'
        simp at hy
        subst hy
        have h1 : W1.heap.size ≤ j := (HOW.out.lt j hj').1
        have h2 := ((HP3.out x hx).lt j hj).2
        omega
      have X6 := hid x5
      have R6 := hid r5
      have S6 := hid s5
      have B6 := hid b5
      have P3 := hid p3
      have P4 := hid p4
      have P5 := hid p5
      have P1 : Hid ((P ++ [((g1, u1, Value.slice a2 m c2, l1, t1) : Z5)]).map md = L.take (i + 1)) := by
        show _ = _
        rw [List.map_append, HP1.out, List.take_succ_eq_append_getElem hil, ← HMD.out]; rfl
      have P2 : Hid ((P ++ [((g1, u1, Value.slice a2 m c2, l1, t1) : Z5)]).length = i + 1) := by
        show _ = _
        rw [List.length_append, HP2.out]; rfl
      clear x5 r5 s5 b5 p3 p4 p5 hW5 e0 e1 e2 e3 f2 hb2 hnew hb1s HGN2 HGW
      go_wp2
      go_roundw
      case rel => exact ⟨i + 1, by omega, by go_num, _, P1.out, P2.out, HR5.out, P3.out, P4.out, P5.out, X6.out, R6.out, S6.out, B6.out⟩
      case measure => simp [intOf]; omega
    · have him : i = mn := by omega
      have HE : Hid (P.map md = L) := by show _ = _; rw [HP1.out, List.take_of_length_le (by rw [HL.out]; omega)]
      have HOZ : Hid (OwZ wr RB (.slice va mn vc) P) := by
        have h := HRW.out
        rw [List.drop_of_length_le (by rw [HXL.out]; omega), List.append_nil] at h
        refine ⟨?_, HP3.out, HP4.out, HP5.out⟩
        rw [HP2.out, him]; exact h
      clear him
      go_wp2_with fail
      refine (cloneI_any lo' hh' ga gn gc G _ HGL.out HGN.out (HIS.out.later B5.out) HG0.out).mono ?_; rintro e w6 ⟨gv, rfl, hown6, hb6⟩
      obtain ⟨ag, cg, hgv, _⟩ := hown6.shape
      rw [HGL.out] at hgv
      subst hgv
      have x6 := X5.out.later hb6
      have r6 := R5.out.later hb6
      have k2 := x6.cells
      have f2 := x6.loose
      have k1 := r6.cells
      have f1 := r6.loose
      have X6 := hid x6
      have R6 := hid r6
      have B6 := hid hb6
      have O6 := hid hown6
      clear x6 r6 hb6 hown6 c0
      go_wp2
      have k2 := X6.out.s6 (.slice ag gn cg)
      have e1 : w6.grownBy (w6.setCell ⟨w.heap.size, 6, none⟩ (.slice ag gn cg)) (some w.heap.size) := wst (wre _ _) _ _
      have k1 := R6.out.grown e1 (fun e => by simp only [Option.some.injEq] at e; omega)
      have e2 := set7_grown (w6.setCell ⟨w.heap.size, 6, none⟩ (.slice ag gn cg)) (w.heap.size + 1) g nm t b nx (.slice va mn vc) (.slice ag gn cg)
      have d1 := (k1.set7 g nm t b nx (.slice va mn vc) (.slice ag gn cg)).cells
      unfold set7 at d1 e2
      have HD := Dj.later HOZ.out.row O6.out (Nat.le_refl _)
      have HEE := fun z hz => Dj.later (HOZ.out.each z hz) O6.out (Nat.le_refl _)
      have h1 := HRB.out
      have h2 := S5.out
      have h3 := B5.out.size
      have h4 := B6.out.size
      have h5 := e1.size
      refine bodyPost_ret (v := .agg #[.int .i64 g, .string nm, .int .i64 t, .int .i64 b, .int .i64 nx, .slice va mn vc, .slice ag gn cg]) (by simp [results, Try.results74, go_sem, d1]) rfl ⟨_, _, rfl, ⟨P, HE.out, ?_, ?_, HD, HEE⟩, ?_⟩
      · exact (((HOZ.out.later B6.out).grown e1 (by omega)).grown e2 (by omega)).base (by omega)
      · exact own_base (OwI.grown (OwI.grown O6.out e1 (by omega)) e2 (by omega)) (by omega)
      · exact (btr B5.out B6.out).trans ((below_of_grown e1 (Nat.le_refl _) (by omega)).trans (below_of_grown e2 (by omega) (by omega)))
end Go.Proofs.Ytckenihadlmlaaa
namespace Go.Proofs.Ytckenihadlmlaaa
open Go.RowKit Go.ChangeMaps
end Go.Proofs.Ytckenihadlmlaaa
