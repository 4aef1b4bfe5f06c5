/- Scp, Sto, Seq. -/
import Derived.Test.YtckenihadlmlaaaB5
import Derived.Test.YtckenihadlmlaaaB6
namespace Go.Proofs.Ytckenihadlmlaaa
open Go.RowKit Go.ChangeMaps
set_option maxHeartbeats 8000000 in
set_option maxRecDepth 100000 in
theorem l07Copy_any (lo hh lo' hh' : Nat) (y tm : Int) (ba : Option Addr) (bn bc : Nat) (ga : Option Addr) (gn gc : Nat) (S : List X7) (G : List Int) (w : World) (hl : S.length = bn) (hn : bn ≤ 1048576) (hsm : Sb S) (hm : Bs lo hh w ba S) (hgl : G.length = gn) (hgn : gn ≤ 1048576) (hs : Is lo' hh' w ga G) (hg0 : ga = none → gc = 0) :
    Calls Try.prog 58 #[.agg #[.int .i64 y, .int .i64 tm, .slice ba bn bc, .slice ga gn gc]] w fun e w' => ∃ bv gv, e = .returned (.agg #[.int .i64 y, .int .i64 tm, bv, gv]) ∧ OwT w' w.heap.size bv gv S G ∧ Below w.heap.size w w' := by
  obtain ⟨W0, hW0⟩ : ∃ W0, (((w.alloc (.cells #[.int .i64 y, .int .i64 tm, .slice ba bn bc, .slice ga gn gc] 25)).alloc (.cells #[.int .i64 0, .int .i64 0, .slice none 0 0, .slice none 0 0] 25)).alloc (.cells #[.int .i64 y, .int .i64 tm, .slice ba bn bc, .slice ga gn gc] 25)) = W0 := ⟨_, rfl⟩
  obtain ⟨a0, a1, a2, b0, s0⟩ := three_stores w _ _ _ _ _ _ _ _ _ _ _ _ _ _ _ W0 hW0
  obtain ⟨W1, hW1⟩ : ∃ W1, (W0.alloc (.cells #[] 99)).setCell ⟨w.heap.size + 1 + 1, 2, none⟩ (.slice (some ⟨w.heap.size + 1 + 1 + 1, 0, none⟩) 0 0) = W1 := ⟨_, rfl⟩
  have b1 : Below W0.heap.size W0 (W0.alloc (.cells #[] 99)) := bpush (bre _) _
  have G1 : (W0.alloc (.cells #[] 99)).grownBy W1 (some (w.heap.size + 1 + 1)) := by subst hW1; exact wst (wre _ _) _ _
  have e0 := (a0.later b1).off G1 (by omega)
  have e1 := (a1.later b1).off G1 (by omega)
  have e2 : Sx W1 (w.heap.size + 1 + 1) 25 y tm (.slice (some ⟨w.heap.size + 1 + 1 + 1, 0, none⟩) 0 0) (.slice ga gn gc) := by subst hW1; exact (a2.later b1).s2 _
  have ez := (ownS_empty W0 (w.heap.size + 1 + 1 + 1) (by omega)).grown G1 (by omega)
  rw [s0] at ez
  have eb : Below w.heap.size w W1 := (btr b0 b1).trans (below_of_grown G1 (by omega) (by have := b1.size; omega))
  have es : w.heap.size + 1 + 1 + 1 ≤ W1.heap.size := by have h1 := G1.size; have h2 := b1.size; omega
  have E0 := hid e0
  have E1 := hid e1
  have E2 := hid e2
  have EZ := hid ez
  have EB := hid eb
  have ES := hid es
  have HL := hid hl
  have HN := hid hn
  have HSM := hid hsm
  have HR := hid hm
  have HGL := hid hgl
  have HGN := hid hgn
  have HIS := hid hs
  have HG0 := hid hg0
  have k0 := (a2.later b1).cells
  have f0 := (a2.later b1).loose
  have c0 := a0.cells
  clear a0 a1 a2 b0 b1 G1 e0 e1 e2 ez eb es hl hsm hm hgl hgn hs hg0
  go_enter Try.func58, Try.ntmps58
  go_wp2
  clear hW1 hW0 k0 f0 c0 s0
  go_loopw [4] (fun iv wr => ∃ i : Nat, i ≤ bn ∧ iv = .int .i64 (i : Int) ∧ ∃ (Y : List Y9) (vv : Value), Y.map yd = S.take i ∧ OwS wr (w.heap.size + 1 + 1 + 1) vv Y ∧ Sx wr (w.heap.size + 1 + 1) 25 y tm vv (.slice ga gn gc) ∧ Sx wr w.heap.size 25 y tm (.slice ba bn bc) (.slice ga gn gc) ∧ Sx wr (w.heap.size + 1) 25 0 0 (.slice none 0 0) (.slice none 0 0) ∧ w.heap.size + 1 + 1 + 1 ≤ wr.heap.size ∧ Below w.heap.size w wr) (fun iv _ => bn - (intOf iv).toNat)
  case atStart => exact ⟨0, Nat.zero_le _, rfl, [], _, rfl, EZ.out, E2.out, E0.out, E1.out, ES.out, EB.out⟩
  case round =>
    obtain ⟨i, hin, rfl, Y, vv, hZ, hoz, hbx, hax, hrx, hsz, hb⟩ := hrel
    have HZT := hid hZ
    have HOZ := hid hoz
    have AX := hid hbx
    have A6 := hid hax
    have RX := hid hrx
    have HBW := hid hsz
    have HB := hid hb
    have HWR : Hid (w.heap.size + 1 ≤ wr.heap.size) := by show _ ≤ _; omega
    have HOL : Hid (w.heap.size + 1 + 1 < wr.heap.size) := hbx.lt
    have co := hbx.cells.2.2.1
    have c0 := hax.cells
    clear hZ hoz hbx hax hrx hsz hb
    by_cases hlt : i < bn
    · have hil : i < S.length := by rw [HL.out]; exact hlt
      obtain ⟨k, o, ma1, mc1, ga1, gc1, rfl, hk, d, hms, his, _, hz1⟩ := HR.out.at hil
      have hmem := HSM.out S[i] (List.getElem_mem hil)
      obtain ⟨q, hq⟩ : ∃ q, S[i] = q := ⟨_, rfl⟩
      obtain ⟨g1, nm1, t1, b1, nx1, L1, G1⟩ := q
      rw [hq] at d hms his hmem
      dsimp only at d hms his hmem
      have HMS := hid (hms.later HB.out)
      have HIS1 := hid (his.later HB.out)
      obtain ⟨m1, hm1⟩ : ∃ m1, L1.length = m1 := ⟨_, rfl⟩
      obtain ⟨n1, hn1⟩ : ∃ n1, G1.length = n1 := ⟨_, rfl⟩
      rw [hm1, hn1] at d
      rw [hm1, hn1] at hmem
      have HM1 := hid hm1
      have HN1 := hid hn1
      have HML := hid hmem.2.1
      have HSL := hid hmem.2.2.1
      have HNL := hid hmem.2.2.2
      have HZ1 := hid hz1
      have HQ := hid hq
      have HZL : Hid (Y.length ≤ 1048576) := by
        show _ ≤ _
        have h1 := congrArg List.length HZT.out
        have h2 := HN.out
        simp at h1
        omega
      have hI : (0 : Int) ≤ (i : Int) ∧ (i : Int) < (bn : Int) := by omega
      have HSS : Hid (∀ W, Below (w.heap.size + 1) wr W → (W.cell? ⟨w.heap.size, 0, none⟩ = some (.int .i64 y) ∧ W.cell? ⟨w.heap.size, 1, none⟩ = some (.int .i64 tm) ∧ W.cell? ⟨w.heap.size, 2, none⟩ = some (.slice (some ⟨k, o, none⟩) bn bc) ∧ W.cell? ⟨w.heap.size, 3, none⟩ = some (.slice ga gn gc)) ∧ (W.cell? ⟨k, o + i * 7, none⟩ = some (.int .i64 g1) ∧ W.cell? ⟨k, o + i * 7 + 1, none⟩ = some (.string nm1) ∧ W.cell? ⟨k, o + i * 7 + 2, none⟩ = some (.int .i64 t1) ∧ W.cell? ⟨k, o + i * 7 + 3, none⟩ = some (.int .i64 b1) ∧ W.cell? ⟨k, o + i * 7 + 4, none⟩ = some (.int .i64 nx1) ∧ W.cell? ⟨k, o + i * 7 + 5, none⟩ = some (.slice ma1 m1 mc1) ∧ W.cell? ⟨k, o + i * 7 + 6, none⟩ = some (.slice ga1 n1 gc1))) := fun W h =>
        ⟨Sx.cells ((h.block w.heap.size (by omega)).trans A6.out), (d.later hk HB.out).same (h.block k (by omega))⟩
      clear hq hms his hmem hm1 hn1 hz1 d hk
      go_wp2_with fail
      clear c0
      refine wp_region_noPanic ?_
      refine wp_region_held_drew (S := (fun W => (W.cell? ⟨w.heap.size, 0, none⟩ = some (.int .i64 y) ∧ W.cell? ⟨w.heap.size, 1, none⟩ = some (.int .i64 tm) ∧ W.cell? ⟨w.heap.size, 2, none⟩ = some (.slice (some ⟨k, o, none⟩) bn bc) ∧ W.cell? ⟨w.heap.size, 3, none⟩ = some (.slice ga gn gc)) ∧ (W.cell? ⟨k, o + i * 7, none⟩ = some (.int .i64 g1) ∧ W.cell? ⟨k, o + i * 7 + 1, none⟩ = some (.string nm1) ∧ W.cell? ⟨k, o + i * 7 + 2, none⟩ = some (.int .i64 t1) ∧ W.cell? ⟨k, o + i * 7 + 3, none⟩ = some (.int .i64 b1) ∧ W.cell? ⟨k, o + i * 7 + 4, none⟩ = some (.int .i64 nx1) ∧ W.cell? ⟨k, o + i * 7 + 5, none⟩ = some (.slice ma1 m1 mc1) ∧ W.cell? ⟨k, o + i * 7 + 6, none⟩ = some (.slice ga1 n1 gc1)))) (by kernel_rfl) (HSS.out _ (Below.drew (Below.refl _ _))) (fun hHeld => ?_)
      refine wpAnyH_take (i := 0) (oi := { dst := some 15, op := Op.fieldAddr 25 (Operand.tmp 3) 2, type := 0, pos := "l07_store.go:78", after := #[], guard := none }) (v := ?vb1_0) rfl (by kernel_rfl) (by kernel_rfl) (by kernel_rfl) (fun _ _ _ h => h) (Or.inl ⟨by rfl, ?hyb1_0⟩) (by assumption) ?restb1_0
      case hyb1_0 => (intro w hSw; (try dsimp only at hSw); go_simp; try with_reducible rfl)
      try simp only [Act.put, List.setIfInBounds_toArray, List.set_cons_zero, List.set_cons_succ]
      refine wpAnyH_take (i := 2) (oi := { dst := some 17, op := Op.fieldAddr 25 (Operand.tmp 1) 2, type := 0, pos := "l07_store.go:78", after := #[], guard := none }) (v := ?vb2_2) rfl (by kernel_rfl) (by kernel_rfl) (by kernel_rfl) (fun _ _ _ h => h) (Or.inl ⟨by rfl, ?hyb2_2⟩) (by assumption) ?restb2_2
      case hyb2_2 => (intro w hSw; (try dsimp only at hSw); go_simp; try with_reducible rfl)
      try simp only [Act.put, List.setIfInBounds_toArray, List.set_cons_zero, List.set_cons_succ]
      refine wpAnyH_take (i := 3) (oi := { dst := some 18, op := Op.load 22 (Operand.tmp 17), type := 22, pos := "l07_store.go:78", after := #[{ on := 2, ground := Ground.data }], guard := none }) (v := ?vb3_3) rfl (by kernel_rfl) (by kernel_rfl) (by kernel_rfl) (fun _ _ _ h => h) (Or.inl ⟨by rfl, ?hyb3_3⟩) (by assumption) ?restb3_3
      case hyb3_3 => (intro w hSw; (try dsimp only at hSw); go_simp; try with_reducible rfl)
      try simp only [Act.put, List.setIfInBounds_toArray, List.set_cons_zero, List.set_cons_succ]
      refine wpAnyH_take (i := 4) (oi := { dst := some 19, op := Op.move (Operand.tmp 4), type := 3, pos := "l07_store.go:78", after := #[], guard := none }) (v := ?vb4_4) rfl (by kernel_rfl) (by kernel_rfl) (by kernel_rfl) (fun _ _ _ h => h) (Or.inl ⟨by rfl, ?hyb4_4⟩) (by assumption) ?restb4_4
      case hyb4_4 => (intro w hSw; (try dsimp only at hSw); go_simp; try with_reducible rfl)
      try simp only [Act.put, List.setIfInBounds_toArray, List.set_cons_zero, List.set_cons_succ]
      refine wpAnyH_take (i := 5) (oi := { dst := some 20, op := Op.indexAddr 22 (Operand.tmp 18) (Operand.tmp 19), type := 0, pos := "l07_store.go:78", after := #[{ on := 3, ground := Ground.data }, { on := 4, ground := Ground.data }], guard := none }) (v := ?vb5_5) rfl (by kernel_rfl) (by kernel_rfl) (by kernel_rfl) (fun _ _ _ h => h) (Or.inl ⟨by rfl, ?hyb5_5⟩) (by assumption) ?restb5_5
      case hyb5_5 => (intro w hSw; (try dsimp only at hSw); go_simp; try with_reducible rfl)
      try simp only [Act.put, List.setIfInBounds_toArray, List.set_cons_zero, List.set_cons_succ]
      refine wpAnyH_take (i := 6) (oi := { dst := some 21, op := Op.load 99 (Operand.tmp 20), type := 99, pos := "l07_store.go:78", after := #[{ on := 5, ground := Ground.data }], guard := none }) (v := ?vb6_6) rfl (by kernel_rfl) (by kernel_rfl) (by kernel_rfl) (fun _ _ _ h => h) (Or.inl ⟨by rfl, ?hyb6_6⟩) (by assumption) ?restb6_6
      case hyb6_6 => (intro w hSw; (try dsimp only at hSw); go_simp; try with_reducible rfl)
      try simp only [Act.put, List.setIfInBounds_toArray, List.set_cons_zero, List.set_cons_succ]
      clear hHeld
      refine wpAnyH_ready (rs := [1, 7]) (by kernel_rfl) (by simp) ?_
      refine AllReadyH.cons (o := { dst := some 16, op := Op.load 22 (Operand.tmp 15), type := 22, pos := "l07_store.go:78", after := #[{ on := 0, ground := Ground.data }], guard := none }) rfl (fun K hK => ?_) ?_
      · go_simp
        refine hK.out _ _ (HSS.out _ (Below.drew (Below.refl _ _))) (fun hHeld => ?_)
        clear hK K
        try simp only [Act.put, List.setIfInBounds_toArray, List.set_cons_zero, List.set_cons_succ]
        clear hHeld
        refine wpAnyH_ready (rs := [7]) (by kernel_rfl) (by simp) ?_
        refine AllReadyH.cons (o := { dst := some 22, op := Op.call { callee := Callee.value (Operand.func 71), args := #[Operand.tmp 21], argTypes := #[99] }, type := 99, pos := "l07_store.go:78", after := #[{ on := 6, ground := Ground.data }], guard := none }) rfl (fun K hK => ?_) AllReadyH.nil
        go_simp
        refine (l06Copy_any _ _ _ _ g1 nm1 t1 b1 nx1 ma1 m1 mc1 ga1 n1 gc1 L1 G1 _ HM1.out HML.out HSL.out (HMS.out.later (bdr (bre _))) HN1.out HNL.out (HIS1.out.later (bdr (bre _))) HZ1.out).mono ?_; rintro e w2 ⟨mv2, gv2, rfl, how, hb2⟩
        have how2 := how.owx
        obtain ⟨a2, c2, d2, e2, q1, q2, _⟩ := how2.reads
        rw [HM1.out] at q1
        rw [HN1.out] at q2
        subst q1
        subst q2
        have B2 := hid (show Below wr.heap.size wr w2 from btr (bdr (bre _)) hb2)
        have HOW : Hid (OwX w2 wr.heap.size w2.heap.size (.slice a2 m1 c2) (.slice d2 n1 e2) L1 G1) := how2
        have o2 := (B2.out.cell (p := ⟨w.heap.size + 1 + 1, 2, none⟩) HOL.out).trans co
        have o3 := ((bpush (bre w2) (.cells #[.int .i64 g1, .string nm1, .int .i64 t1, .int .i64 b1, .int .i64 nx1, .slice a2 m1 c2, .slice d2 n1 e2] 99)).cell (p := ⟨w.heap.size + 1 + 1, 2, none⟩) (Nat.lt_of_lt_of_le HOL.out B2.out.size)).trans o2
        clear hb2 how how2
        go_wp2_with fail
        refine hK.out _ _ (HSS.out _ (B2.out.mono HWR.out)) (fun hHeld => ?_)
        clear hK K
        try simp only [Act.put, List.setIfInBounds_toArray, List.set_cons_zero, List.set_cons_succ]
        clear hHeld
        refine wpAnyH_ready (rs := [8]) (by kernel_rfl) (by simp) ?_
        refine AllReadyH.cons (o := { dst := some 23, op := Op.buildSlice 22 1 #[(0, Operand.tmp 22)], type := 22, pos := "l07_store.go:78", after := #[{ on := 7, ground := Ground.data }], guard := none }) rfl (fun K hK => ?_) AllReadyH.nil
        go_simp
        refine hK.out _ _ (HSS.out _ ((B2.out.mono HWR.out).trans ((Below.refl _ _).alloc (Nat.le_trans HWR.out B2.out.size) _))) (fun hHeld => ?_)
        clear hK K
        try simp only [Act.put, List.setIfInBounds_toArray, List.set_cons_zero, List.set_cons_succ]
        clear hHeld
        refine wpAnyH_ready (rs := [9]) (by kernel_rfl) (by simp) ?_
        refine AllReadyH.cons (o := { dst := some 24, op := Op.call { callee := Callee.builtin Builtin.append, args := #[Operand.tmp 16, Operand.tmp 23], argTypes := #[22, 22] }, type := 22, pos := "l07_store.go:78", after := #[{ on := 1, ground := Ground.data }, { on := 8, ground := Ground.data }, { on := 7, ground := Ground.chain }], guard := none }) rfl (fun K hK => ?_) AllReadyH.nil
        refine step_append_bx rfl (.tmp 16) (.tmp 23) rfl (w.heap.size + 1 + 1 + 1) _ Y (by rfl) (⟨g1, nm1, t1, b1, nx1, .slice a2 m1 c2, .slice d2 n1 e2, L1, G1, wr.heap.size, w2.heap.size⟩ : Y9) (HOZ.out.later B2.out) HOW.out HBW.out (fun j hj => .inl (HOZ.out.row.lt j hj).2) (fun x hx => .inl (HOZ.out.each x hx).1.top) (by rfl) HZL.out (Nat.le_trans HBW.out B2.out.size) ?_; intro v3 w3 hown3 hb3 _ _
        obtain ⟨a3, c3, hv3⟩ := hown3.shape
        simp only [List.length_append, List.length_cons, List.length_nil, Nat.zero_add] at hv3
        subst hv3
        have HO3 := hid hown3
        have B3 := hid (show Below (w.heap.size + 1 + 1 + 1) wr w3 from (B2.out.mono HBW.out).trans hb3)
        have x3 := (AX.out.later B2.out)
        have x4 : Sx w3 (w.heap.size + 1 + 1) 25 y tm vv (.slice ga gn gc) := (hb3.block (w.heap.size + 1 + 1) (by omega)).trans x3
        have k3 := x4.cells
        have f3 := x4.loose
        have X4 := hid x4
        clear hown3 hb3 x3 x4
        refine hK.out _ _ (HSS.out _ (B3.out.mono (by omega))) (fun hHeld => ?_)
        clear hK K
        try simp only [Act.put, List.setIfInBounds_toArray, List.set_cons_zero, List.set_cons_succ]
        refine wpAnyH_take (i := 10) (oi := { dst := some 25, op := Op.fieldAddr 25 (Operand.tmp 3) 2, type := 0, pos := "l07_store.go:78", after := #[{ on := 0, ground := Ground.phase }, { on := 1, ground := Ground.phase }, { on := 2, ground := Ground.phase }, { on := 3, ground := Ground.phase }, { on := 4, ground := Ground.phase }, { on := 5, ground := Ground.phase }, { on := 6, ground := Ground.phase }, { on := 7, ground := Ground.phase }, { on := 8, ground := Ground.phase }, { on := 9, ground := Ground.phase }], guard := none }) (v := ?vb7_10) rfl (by kernel_rfl) (by kernel_rfl) (by kernel_rfl) (fun _ _ _ h => h) (Or.inl ⟨by rfl, ?hyb7_10⟩) (by assumption) ?restb7_10
        case hyb7_10 => (intro w hSw; (try dsimp only at hSw); go_simp; try with_reducible rfl)
        try simp only [Act.put, List.setIfInBounds_toArray, List.set_cons_zero, List.set_cons_succ]
        clear hHeld
        refine wpAnyH_ready (rs := [11]) (by kernel_rfl) (by simp) ?_
        refine AllReadyH.cons (o := { dst := none, op := Op.store 22 (Operand.tmp 25) (Operand.tmp 24), type := 0, pos := "l07_store.go:78", after := #[{ on := 10, ground := Ground.data }, { on := 9, ground := Ground.data }, { on := 9, ground := Ground.chain }, { on := 0, ground := Ground.phase }, { on := 1, ground := Ground.phase }, { on := 2, ground := Ground.phase }, { on := 3, ground := Ground.phase }, { on := 4, ground := Ground.phase }, { on := 5, ground := Ground.phase }, { on := 6, ground := Ground.phase }, { on := 7, ground := Ground.phase }, { on := 8, ground := Ground.phase }, { on := 9, ground := Ground.phase }], guard := none }) rfl (fun K hK => ?_) AllReadyH.nil
        go_simp
        refine hK.out _ _ (HSS.out _ (B3.out.mono (by omega) |>.trans ((Below.refl _ _).setCell (p := ⟨w.heap.size + 1 + 1, 2, none⟩) (show w.heap.size + 1 ≤ w.heap.size + 1 + 1 by omega) _))) (fun hHeld => ?_)
        clear hK K
        try simp only [Act.put, List.setIfInBounds_toArray, List.set_cons_zero, List.set_cons_succ]
        refine wpAnyH_done (by kernel_rfl) ?_ _
        refine NoPanic.normal ?_
        have X5 := hid (X4.out.s2 (Value.slice a3 (Y.length + 1) c3))
        have G5 : w3.grownBy (w3.setCell ⟨w.heap.size + 1 + 1, 2, none⟩ (Value.slice a3 (Y.length + 1) c3)) (some (w.heap.size + 1 + 1)) := wst (wre _ _) _ _
        have O5 := hid (HO3.out.grown G5 (by omega))
        have a5 : Sx w3 w.heap.size 25 y tm (.slice (some ⟨k, o, none⟩) bn bc) (.slice ga gn gc) := (B3.out.block w.heap.size (by omega)).trans A6.out
        have A5 := hid (a5.off G5 (by omega))
        have r5 : Sx w3 (w.heap.size + 1) 25 0 0 (.slice none 0 0) (.slice none 0 0) := (B3.out.block (w.heap.size + 1) (by omega)).trans RX.out
        have R5 := hid (r5.off G5 (by omega))
        have B5 : Hid (Below w.heap.size w (w3.setCell ⟨w.heap.size + 1 + 1, 2, none⟩ (Value.slice a3 (Y.length + 1) c3))) := (HB.out.trans (B3.out.mono (by omega))).trans (below_of_grown G5 (by omega) (by have h1 := HB.out.size; have h2 := B3.out.size; omega))
        have S5 : Hid (w.heap.size + 1 + 1 + 1 ≤ (w3.setCell ⟨w.heap.size + 1 + 1, 2, none⟩ (Value.slice a3 (Y.length + 1) c3)).heap.size) := by show _ ≤ _; have h1 := HBW.out; have h2 := B3.out.size; have h3 := G5.size; omega
        obtain ⟨W5, hW5⟩ : ∃ W5, w3.setCell ⟨w.heap.size + 1 + 1, 2, none⟩ (Value.slice a3 (Y.length + 1) c3) = W5 := ⟨_, rfl⟩
        rw [hW5] at X5 O5 A5 R5 B5 S5
        simp only [hW5]
        clear hHeld G5 a5 r5 k3 f3 hW5 co o2 o3
        have HE : Hid ((Y ++ [(⟨g1, nm1, t1, b1, nx1, .slice a2 m1 c2, .slice d2 n1 e2, L1, G1, wr.heap.size, w2.heap.size⟩ : Y9)]).map yd = S.take (i + 1)) := by show _ = _; rw [List.map_append, HZT.out, List.take_succ_eq_append_getElem hil, HQ.out]; rfl
        go_wp2
        go_roundw
        case rel => exact ⟨i + 1, by omega, by go_num, _, _, HE.out, O5.out, X5.out, A5.out, R5.out, S5.out, B5.out⟩
        case measure => simp [intOf]; omega
      refine AllReadyH.cons (o := { dst := some 22, op := Op.call { callee := Callee.value (Operand.func 71), args := #[Operand.tmp 21], argTypes := #[99] }, type := 99, pos := "l07_store.go:78", after := #[{ on := 6, ground := Ground.data }], guard := none }) rfl (fun K hK => ?_) AllReadyH.nil
      go_simp
      refine (l06Copy_any _ _ _ _ g1 nm1 t1 b1 nx1 ma1 m1 mc1 ga1 n1 gc1 L1 G1 _ HM1.out HML.out HSL.out (HMS.out.later (bdr (bre _))) HN1.out HNL.out (HIS1.out.later (bdr (bre _))) HZ1.out).mono ?_; rintro e w2 ⟨mv2, gv2, rfl, how, hb2⟩
      have how2 := how.owx
      obtain ⟨a2, c2, d2, e2, q1, q2, _⟩ := how2.reads
      rw [HM1.out] at q1
      rw [HN1.out] at q2
      subst q1
      subst q2
      have B2 := hid (show Below wr.heap.size wr w2 from btr (bdr (bre _)) hb2)
      have HOW : Hid (OwX w2 wr.heap.size w2.heap.size (.slice a2 m1 c2) (.slice d2 n1 e2) L1 G1) := how2
      have o2 := (B2.out.cell (p := ⟨w.heap.size + 1 + 1, 2, none⟩) HOL.out).trans co
      have o3 := ((bpush (bre w2) (.cells #[.int .i64 g1, .string nm1, .int .i64 t1, .int .i64 b1, .int .i64 nx1, .slice a2 m1 c2, .slice d2 n1 e2] 99)).cell (p := ⟨w.heap.size + 1 + 1, 2, none⟩) (Nat.lt_of_lt_of_le HOL.out B2.out.size)).trans o2
      clear hb2 how how2
      go_wp2_with fail
      refine hK.out _ _ (HSS.out _ (B2.out.mono HWR.out)) (fun hHeld => ?_)
      clear hK K
      try simp only [Act.put, List.setIfInBounds_toArray, List.set_cons_zero, List.set_cons_succ]
      clear hHeld
      refine wpAnyH_ready (rs := [1, 8]) (by kernel_rfl) (by simp) ?_
      refine AllReadyH.cons (o := { dst := some 16, op := Op.load 22 (Operand.tmp 15), type := 22, pos := "l07_store.go:78", after := #[{ on := 0, ground := Ground.data }], guard := none }) rfl (fun K hK => ?_) ?_
      · go_simp
        refine hK.out _ _ (HSS.out _ (B2.out.mono HWR.out)) (fun hHeld => ?_)
        clear hK K
        try simp only [Act.put, List.setIfInBounds_toArray, List.set_cons_zero, List.set_cons_succ]
        clear hHeld
        refine wpAnyH_ready (rs := [8]) (by kernel_rfl) (by simp) ?_
        refine AllReadyH.cons (o := { dst := some 23, op := Op.buildSlice 22 1 #[(0, Operand.tmp 22)], type := 22, pos := "l07_store.go:78", after := #[{ on := 7, ground := Ground.data }], guard := none }) rfl (fun K hK => ?_) AllReadyH.nil
        go_simp
        refine hK.out _ _ (HSS.out _ ((B2.out.mono HWR.out).trans ((Below.refl _ _).alloc (Nat.le_trans HWR.out B2.out.size) _))) (fun hHeld => ?_)
        clear hK K
        try simp only [Act.put, List.setIfInBounds_toArray, List.set_cons_zero, List.set_cons_succ]
        clear hHeld
        refine wpAnyH_ready (rs := [9]) (by kernel_rfl) (by simp) ?_
        refine AllReadyH.cons (o := { dst := some 24, op := Op.call { callee := Callee.builtin Builtin.append, args := #[Operand.tmp 16, Operand.tmp 23], argTypes := #[22, 22] }, type := 22, pos := "l07_store.go:78", after := #[{ on := 1, ground := Ground.data }, { on := 8, ground := Ground.data }, { on := 7, ground := Ground.chain }], guard := none }) rfl (fun K hK => ?_) AllReadyH.nil
        refine step_append_bx rfl (.tmp 16) (.tmp 23) rfl (w.heap.size + 1 + 1 + 1) _ Y (by rfl) (⟨g1, nm1, t1, b1, nx1, .slice a2 m1 c2, .slice d2 n1 e2, L1, G1, wr.heap.size, w2.heap.size⟩ : Y9) (HOZ.out.later B2.out) HOW.out HBW.out (fun j hj => .inl (HOZ.out.row.lt j hj).2) (fun x hx => .inl (HOZ.out.each x hx).1.top) (by rfl) HZL.out (Nat.le_trans HBW.out B2.out.size) ?_; intro v3 w3 hown3 hb3 _ _
        obtain ⟨a3, c3, hv3⟩ := hown3.shape
        simp only [List.length_append, List.length_cons, List.length_nil, Nat.zero_add] at hv3
        subst hv3
        have HO3 := hid hown3
        have B3 := hid (show Below (w.heap.size + 1 + 1 + 1) wr w3 from (B2.out.mono HBW.out).trans hb3)
        have x3 := (AX.out.later B2.out)
        have x4 : Sx w3 (w.heap.size + 1 + 1) 25 y tm vv (.slice ga gn gc) := (hb3.block (w.heap.size + 1 + 1) (by omega)).trans x3
        have k3 := x4.cells
        have f3 := x4.loose
        have X4 := hid x4
        clear hown3 hb3 x3 x4
        refine hK.out _ _ (HSS.out _ (B3.out.mono (by omega))) (fun hHeld => ?_)
        clear hK K
        try simp only [Act.put, List.setIfInBounds_toArray, List.set_cons_zero, List.set_cons_succ]
        refine wpAnyH_take (i := 10) (oi := { dst := some 25, op := Op.fieldAddr 25 (Operand.tmp 3) 2, type := 0, pos := "l07_store.go:78", after := #[{ on := 0, ground := Ground.phase }, { on := 1, ground := Ground.phase }, { on := 2, ground := Ground.phase }, { on := 3, ground := Ground.phase }, { on := 4, ground := Ground.phase }, { on := 5, ground := Ground.phase }, { on := 6, ground := Ground.phase }, { on := 7, ground := Ground.phase }, { on := 8, ground := Ground.phase }, { on := 9, ground := Ground.phase }], guard := none }) (v := ?vb8_10) rfl (by kernel_rfl) (by kernel_rfl) (by kernel_rfl) (fun _ _ _ h => h) (Or.inl ⟨by rfl, ?hyb8_10⟩) (by assumption) ?restb8_10
        case hyb8_10 => (intro w hSw; (try dsimp only at hSw); go_simp; try with_reducible rfl)
        try simp only [Act.put, List.setIfInBounds_toArray, List.set_cons_zero, List.set_cons_succ]
        clear hHeld
        refine wpAnyH_ready (rs := [11]) (by kernel_rfl) (by simp) ?_
        refine AllReadyH.cons (o := { dst := none, op := Op.store 22 (Operand.tmp 25) (Operand.tmp 24), type := 0, pos := "l07_store.go:78", after := #[{ on := 10, ground := Ground.data }, { on := 9, ground := Ground.data }, { on := 9, ground := Ground.chain }, { on := 0, ground := Ground.phase }, { on := 1, ground := Ground.phase }, { on := 2, ground := Ground.phase }, { on := 3, ground := Ground.phase }, { on := 4, ground := Ground.phase }, { on := 5, ground := Ground.phase }, { on := 6, ground := Ground.phase }, { on := 7, ground := Ground.phase }, { on := 8, ground := Ground.phase }, { on := 9, ground := Ground.phase }], guard := none }) rfl (fun K hK => ?_) AllReadyH.nil
        go_simp
        refine hK.out _ _ (HSS.out _ (B3.out.mono (by omega) |>.trans ((Below.refl _ _).setCell (p := ⟨w.heap.size + 1 + 1, 2, none⟩) (show w.heap.size + 1 ≤ w.heap.size + 1 + 1 by omega) _))) (fun hHeld => ?_)
        clear hK K
        try simp only [Act.put, List.setIfInBounds_toArray, List.set_cons_zero, List.set_cons_succ]
        refine wpAnyH_done (by kernel_rfl) ?_ _
        refine NoPanic.normal ?_
        have X5 := hid (X4.out.s2 (Value.slice a3 (Y.length + 1) c3))
        have G5 : w3.grownBy (w3.setCell ⟨w.heap.size + 1 + 1, 2, none⟩ (Value.slice a3 (Y.length + 1) c3)) (some (w.heap.size + 1 + 1)) := wst (wre _ _) _ _
        have O5 := hid (HO3.out.grown G5 (by omega))
        have a5 : Sx w3 w.heap.size 25 y tm (.slice (some ⟨k, o, none⟩) bn bc) (.slice ga gn gc) := (B3.out.block w.heap.size (by omega)).trans A6.out
        have A5 := hid (a5.off G5 (by omega))
        have r5 : Sx w3 (w.heap.size + 1) 25 0 0 (.slice none 0 0) (.slice none 0 0) := (B3.out.block (w.heap.size + 1) (by omega)).trans RX.out
        have R5 := hid (r5.off G5 (by omega))
        have B5 : Hid (Below w.heap.size w (w3.setCell ⟨w.heap.size + 1 + 1, 2, none⟩ (Value.slice a3 (Y.length + 1) c3))) := (HB.out.trans (B3.out.mono (by omega))).trans (below_of_grown G5 (by omega) (by have h1 := HB.out.size; have h2 := B3.out.size; omega))
        have S5 : Hid (w.heap.size + 1 + 1 + 1 ≤ (w3.setCell ⟨w.heap.size + 1 + 1, 2, none⟩ (Value.slice a3 (Y.length + 1) c3)).heap.size) := by show _ ≤ _; have h1 := HBW.out; have h2 := B3.out.size; have h3 := G5.size; omega
        obtain ⟨W5, hW5⟩ : ∃ W5, w3.setCell ⟨w.heap.size + 1 + 1, 2, none⟩ (Value.slice a3 (Y.length + 1) c3) = W5 := ⟨_, rfl⟩
        rw [hW5] at X5 O5 A5 R5 B5 S5
        simp only [hW5]
        clear hHeld G5 a5 r5 k3 f3 hW5 co o2 o3
        have HE : Hid ((Y ++ [(⟨g1, nm1, t1, b1, nx1, .slice a2 m1 c2, .slice d2 n1 e2, L1, G1, wr.heap.size, w2.heap.size⟩ : Y9)]).map yd = S.take (i + 1)) := by show _ = _; rw [List.map_append, HZT.out, List.take_succ_eq_append_getElem hil, HQ.out]; rfl
        go_wp2
        go_roundw
        case rel => exact ⟨i + 1, by omega, by go_num, _, _, HE.out, O5.out, X5.out, A5.out, R5.out, S5.out, B5.out⟩
        case measure => simp [intOf]; omega
      refine AllReadyH.cons (o := { dst := some 23, op := Op.buildSlice 22 1 #[(0, Operand.tmp 22)], type := 22, pos := "l07_store.go:78", after := #[{ on := 7, ground := Ground.data }], guard := none }) rfl (fun K hK => ?_) AllReadyH.nil
      go_simp
      refine hK.out _ _ (HSS.out _ ((B2.out.mono HWR.out).trans ((Below.refl _ _).alloc (Nat.le_trans HWR.out B2.out.size) _))) (fun hHeld => ?_)
      clear hK K
      try simp only [Act.put, List.setIfInBounds_toArray, List.set_cons_zero, List.set_cons_succ]
      clear hHeld
      refine wpAnyH_ready (rs := [1]) (by kernel_rfl) (by simp) ?_
      refine AllReadyH.cons (o := { dst := some 16, op := Op.load 22 (Operand.tmp 15), type := 22, pos := "l07_store.go:78", after := #[{ on := 0, ground := Ground.data }], guard := none }) rfl (fun K hK => ?_) AllReadyH.nil
      go_simp
      refine hK.out _ _ (HSS.out _ ((B2.out.mono HWR.out).trans ((Below.refl _ _).alloc (Nat.le_trans HWR.out B2.out.size) _))) (fun hHeld => ?_)
      clear hK K
      try simp only [Act.put, List.setIfInBounds_toArray, List.set_cons_zero, List.set_cons_succ]
      clear hHeld
      refine wpAnyH_ready (rs := [9]) (by kernel_rfl) (by simp) ?_
      refine AllReadyH.cons (o := { dst := some 24, op := Op.call { callee := Callee.builtin Builtin.append, args := #[Operand.tmp 16, Operand.tmp 23], argTypes := #[22, 22] }, type := 22, pos := "l07_store.go:78", after := #[{ on := 1, ground := Ground.data }, { on := 8, ground := Ground.data }, { on := 7, ground := Ground.chain }], guard := none }) rfl (fun K hK => ?_) AllReadyH.nil
      refine step_append_bx rfl (.tmp 16) (.tmp 23) rfl (w.heap.size + 1 + 1 + 1) _ Y (by rfl) (⟨g1, nm1, t1, b1, nx1, .slice a2 m1 c2, .slice d2 n1 e2, L1, G1, wr.heap.size, w2.heap.size⟩ : Y9) (HOZ.out.later B2.out) HOW.out HBW.out (fun j hj => .inl (HOZ.out.row.lt j hj).2) (fun x hx => .inl (HOZ.out.each x hx).1.top) (by rfl) HZL.out (Nat.le_trans HBW.out B2.out.size) ?_; intro v3 w3 hown3 hb3 _ _
      obtain ⟨a3, c3, hv3⟩ := hown3.shape
      simp only [List.length_append, List.length_cons, List.length_nil, Nat.zero_add] at hv3
      subst hv3
      have HO3 := hid hown3
      have B3 := hid (show Below (w.heap.size + 1 + 1 + 1) wr w3 from (B2.out.mono HBW.out).trans hb3)
      have x3 := (AX.out.later B2.out)
      have x4 : Sx w3 (w.heap.size + 1 + 1) 25 y tm vv (.slice ga gn gc) := (hb3.block (w.heap.size + 1 + 1) (by omega)).trans x3
      have k3 := x4.cells
      have f3 := x4.loose
      have X4 := hid x4
      clear hown3 hb3 x3 x4
      refine hK.out _ _ (HSS.out _ (B3.out.mono (by omega))) (fun hHeld => ?_)
      clear hK K
      try simp only [Act.put, List.setIfInBounds_toArray, List.set_cons_zero, List.set_cons_succ]
      refine wpAnyH_take (i := 10) (oi := { dst := some 25, op := Op.fieldAddr 25 (Operand.tmp 3) 2, type := 0, pos := "l07_store.go:78", after := #[{ on := 0, ground := Ground.phase }, { on := 1, ground := Ground.phase }, { on := 2, ground := Ground.phase }, { on := 3, ground := Ground.phase }, { on := 4, ground := Ground.phase }, { on := 5, ground := Ground.phase }, { on := 6, ground := Ground.phase }, { on := 7, ground := Ground.phase }, { on := 8, ground := Ground.phase }, { on := 9, ground := Ground.phase }], guard := none }) (v := ?vb9_10) rfl (by kernel_rfl) (by kernel_rfl) (by kernel_rfl) (fun _ _ _ h => h) (Or.inl ⟨by rfl, ?hyb9_10⟩) (by assumption) ?restb9_10
      case hyb9_10 => (intro w hSw; (try dsimp only at hSw); go_simp; try with_reducible rfl)
      try simp only [Act.put, List.setIfInBounds_toArray, List.set_cons_zero, List.set_cons_succ]
      clear hHeld
      refine wpAnyH_ready (rs := [11]) (by kernel_rfl) (by simp) ?_
      refine AllReadyH.cons (o := { dst := none, op := Op.store 22 (Operand.tmp 25) (Operand.tmp 24), type := 0, pos := "l07_store.go:78", after := #[{ on := 10, ground := Ground.data }, { on := 9, ground := Ground.data }, { on := 9, ground := Ground.chain }, { on := 0, ground := Ground.phase }, { on := 1, ground := Ground.phase }, { on := 2, ground := Ground.phase }, { on := 3, ground := Ground.phase }, { on := 4, ground := Ground.phase }, { on := 5, ground := Ground.phase }, { on := 6, ground := Ground.phase }, { on := 7, ground := Ground.phase }, { on := 8, ground := Ground.phase }, { on := 9, ground := Ground.phase }], guard := none }) rfl (fun K hK => ?_) AllReadyH.nil
      go_simp
      refine hK.out _ _ (HSS.out _ (B3.out.mono (by omega) |>.trans ((Below.refl _ _).setCell (p := ⟨w.heap.size + 1 + 1, 2, none⟩) (show w.heap.size + 1 ≤ w.heap.size + 1 + 1 by omega) _))) (fun hHeld => ?_)
      clear hK K
      try simp only [Act.put, List.setIfInBounds_toArray, List.set_cons_zero, List.set_cons_succ]
      refine wpAnyH_done (by kernel_rfl) ?_ _
      refine NoPanic.normal ?_
      have X5 := hid (X4.out.s2 (Value.slice a3 (Y.length + 1) c3))
      have G5 : w3.grownBy (w3.setCell ⟨w.heap.size + 1 + 1, 2, none⟩ (Value.slice a3 (Y.length + 1) c3)) (some (w.heap.size + 1 + 1)) := wst (wre _ _) _ _
      have O5 := hid (HO3.out.grown G5 (by omega))
      have a5 : Sx w3 w.heap.size 25 y tm (.slice (some ⟨k, o, none⟩) bn bc) (.slice ga gn gc) := (B3.out.block w.heap.size (by omega)).trans A6.out
      have A5 := hid (a5.off G5 (by omega))
      have r5 : Sx w3 (w.heap.size + 1) 25 0 0 (.slice none 0 0) (.slice none 0 0) := (B3.out.block (w.heap.size + 1) (by omega)).trans RX.out
      have R5 := hid (r5.off G5 (by omega))
      have B5 : Hid (Below w.heap.size w (w3.setCell ⟨w.heap.size + 1 + 1, 2, none⟩ (Value.slice a3 (Y.length + 1) c3))) := (HB.out.trans (B3.out.mono (by omega))).trans (below_of_grown G5 (by omega) (by have h1 := HB.out.size; have h2 := B3.out.size; omega))
      have S5 : Hid (w.heap.size + 1 + 1 + 1 ≤ (w3.setCell ⟨w.heap.size + 1 + 1, 2, none⟩ (Value.slice a3 (Y.length + 1) c3)).heap.size) := by show _ ≤ _; have h1 := HBW.out; have h2 := B3.out.size; have h3 := G5.size; omega
      obtain ⟨W5, hW5⟩ : ∃ W5, w3.setCell ⟨w.heap.size + 1 + 1, 2, none⟩ (Value.slice a3 (Y.length + 1) c3) = W5 := ⟨_, rfl⟩
      rw [hW5] at X5 O5 A5 R5 B5 S5
      simp only [hW5]
      clear hHeld G5 a5 r5 k3 f3 hW5 co o2 o3
      have HE : Hid ((Y ++ [(⟨g1, nm1, t1, b1, nx1, .slice a2 m1 c2, .slice d2 n1 e2, L1, G1, wr.heap.size, w2.heap.size⟩ : Y9)]).map yd = S.take (i + 1)) := by show _ = _; rw [List.map_append, HZT.out, List.take_succ_eq_append_getElem hil, HQ.out]; rfl
      go_wp2
      go_roundw
      case rel => exact ⟨i + 1, by omega, by go_num, _, _, HE.out, O5.out, X5.out, A5.out, R5.out, S5.out, B5.out⟩
      case measure => simp [intOf]; omega

    · have HE : Hid (Y.map yd = S) := by show _ = _; rw [HZT.out, List.take_of_length_le (by rw [HL.out]; omega)]
      obtain ⟨i0, hi0, hz0, hz1, hz2⟩ := info_parts3 info_int
      have hsv := HOZ.out.shape
      obtain ⟨va, vc, rfl⟩ := hsv
      cases ga with
      | none =>
        have hgz : gn = 0 := by
          by_cases h : 0 < gn
          · obtain ⟨_, _, h1, _⟩ := HIS.out.2 0 (by rw [HGL.out]; exact h)
            cases h1
          · omega
        subst hgz
        obtain rfl := HG0.out rfl
        have hge : G = [] := List.eq_nil_of_length_eq_zero HGL.out
        subst hge
        obtain ⟨w1, hw1⟩ : ∃ w1, wr.alloc (.cells #[] 3) = w1 := ⟨_, rfl⟩
        have b1 : Below wr.heap.size wr w1 := by subst hw1; exact bpush (bre _) _
        have own1 : OwI w1 wr.heap.size (.slice (some ⟨wr.heap.size, 0, none⟩) 0 0) [] := by subst hw1; exact ownI_empty wr _ (Nat.le_refl _)
        have x1 := AX.out.later b1
        have r1 := RX.out.later b1
        have k2 := x1.cells
        have f2 := x1.loose
        have k1 := r1.cells
        have f1 := r1.loose
        have X1 := hid x1
        have R1 := hid r1
        have B1 := hid b1
        have O1 := hid own1
        have ca := (A6.out.later b1).cells
        clear x1 r1 b1 own1 co
        go_wp2
        clear hw1
        have k2 := X1.out.s3 (.slice ((some ⟨wr.heap.size, 0, none⟩)) 0 0)
        have e1 : w1.grownBy (w1.setCell ⟨w.heap.size + 1 + 1, 3, none⟩ (.slice ((some ⟨wr.heap.size, 0, none⟩)) 0 0)) (some (w.heap.size + 1 + 1)) := wst (wre _ _) _ _
        have k1 := R1.out.off e1 (by omega)
        have e2 := put4_grown (w1.setCell ⟨w.heap.size + 1 + 1, 3, none⟩ (.slice ((some ⟨wr.heap.size, 0, none⟩)) 0 0)) (w.heap.size + 1) y tm (.slice va Y.length vc) (.slice ((some ⟨wr.heap.size, 0, none⟩)) 0 0)
        have d1 := (k1.put4 y tm (.slice va Y.length vc) (.slice ((some ⟨wr.heap.size, 0, none⟩)) 0 0)).cells
        unfold put4 at d1 e2
        have HD : Dj (.slice ((some ⟨wr.heap.size, 0, none⟩)) 0 0) (.slice va Y.length vc) := Dj.later HOZ.out.row O1.out (Nat.le_refl _)
        have HEE : ∀ z ∈ Y, ∀ j, Value.ownBlock (.slice ((some ⟨wr.heap.size, 0, none⟩)) 0 0) = some j → j < z.lo ∨ z.hi ≤ j := fun z hz j hj => .inr (Nat.le_trans (HOZ.out.each z hz).1.top (O1.out.lt j hj).1)
        have h1 := HBW.out
        have h2 := HB.out.size
        have h3 := B1.out.size
        have h4 := e1.size
        refine bodyPost_ret (v := .agg #[.int .i64 y, .int .i64 tm, .slice va Y.length vc, .slice ((some ⟨wr.heap.size, 0, none⟩)) 0 0]) (by simp [results, Try.results58, go_sem, d1]) rfl ⟨_, _, rfl, ⟨Y, HE.out, ?_, ?_, HD, HEE⟩, ?_⟩
        · exact (((HOZ.out.later B1.out).grown e1 (by omega)).grown e2 (by omega)).base (by omega)
        · exact own_base (OwI.grown (OwI.grown O1.out e1 (by omega)) e2 (by omega)) (by omega)
        · exact (btr HB.out B1.out).trans ((below_of_grown e1 (by omega) (by omega)).trans (below_of_grown e2 (by omega) (by omega)))
      | some ad =>
        have HSRC : Hid (∀ j u, (G.map (Value.int .i64))[j]? = some u → (wr.alloc (.cells #[] 3)).cell? (ad.add j) = some u) := (HIS.out.later (btr HB.out (bpush (bre _) _))).all
        have ca := (A6.out.later (bpush (bre wr) (.cells #[] 3))).cells
        clear co
        go_wp2_with (at_builtin; refine wpList_append_own _ rfl (.tmp 26) (.tmp 28) 23 rfl wr.heap.size 3 i0 _ 1 8 Try.underlying23 hi0 hz0 hz1 hz2 rfl (by decide) _ 0 [] (by rfl) (ownI_empty wr _ (Nat.le_refl _)) ad gn gc (G.map (Value.int .i64)) (by rfl) (by rw [List.length_map, HGL.out, Nat.mul_one]) HSRC.out (int_one G) (by have := HGN.out; unfold maxLen; omega) (by have := HGN.out; omega) (by simp) ?_; intro v1 w1 hown1 hg1 _; have own1 : OwI w1 wr.heap.size v1 G := (by simpa [OwI, HGL.out] using hown1); obtain ⟨ag, cg, hvg, _⟩ := own1.shape; rw [HGL.out] at hvg; subst hvg; have b1 : Below wr.heap.size wr w1 := (bpush (bre wr) _).grown hg1 (by simp) (by intro k hk; simp [Value.ownBlock] at hk; omega); have x1 := AX.out.later b1; have r1 := RX.out.later b1; have k2 := x1.cells; have f2 := x1.loose; have k1 := r1.cells; have f1 := r1.loose; have X1 := hid x1; have R1 := hid r1; have B1 := hid b1; have O1 := hid own1; clear x1 r1 b1 own1 hown1 hg1)
        have k2 := X1.out.s3 (.slice (ag) gn cg)
        have e1 : w1.grownBy (w1.setCell ⟨w.heap.size + 1 + 1, 3, none⟩ (.slice (ag) gn cg)) (some (w.heap.size + 1 + 1)) := wst (wre _ _) _ _
        have k1 := R1.out.off e1 (by omega)
        have e2 := put4_grown (w1.setCell ⟨w.heap.size + 1 + 1, 3, none⟩ (.slice (ag) gn cg)) (w.heap.size + 1) y tm (.slice va Y.length vc) (.slice (ag) gn cg)
        have d1 := (k1.put4 y tm (.slice va Y.length vc) (.slice (ag) gn cg)).cells
        unfold put4 at d1 e2
        have HD : Dj (.slice (ag) gn cg) (.slice va Y.length vc) := Dj.later HOZ.out.row O1.out (Nat.le_refl _)
        have HEE : ∀ z ∈ Y, ∀ j, Value.ownBlock (.slice (ag) gn cg) = some j → j < z.lo ∨ z.hi ≤ j := fun z hz j hj => .inr (Nat.le_trans (HOZ.out.each z hz).1.top (O1.out.lt j hj).1)
        have h1 := HBW.out
        have h2 := HB.out.size
        have h3 := B1.out.size
        have h4 := e1.size
        refine bodyPost_ret (v := .agg #[.int .i64 y, .int .i64 tm, .slice va Y.length vc, .slice (ag) gn cg]) (by simp [results, Try.results58, go_sem, d1]) rfl ⟨_, _, rfl, ⟨Y, HE.out, ?_, ?_, HD, HEE⟩, ?_⟩
        · exact (((HOZ.out.later B1.out).grown e1 (by omega)).grown e2 (by omega)).base (by omega)
        · exact own_base (OwI.grown (OwI.grown O1.out e1 (by omega)) e2 (by omega)) (by omega)
        · exact (btr HB.out B1.out).trans ((below_of_grown e1 (by omega) (by omega)).trans (below_of_grown e2 (by omega) (by omega)))
def y0 (B : Nat) : Y9 := ⟨0, ⟨#[]⟩, 0, 0, 0, .slice none 0 0, .slice none 0 0, [], [], B, B⟩
theorem yc_rep (B n : Nat) : ∀ j, (yc (List.replicate n (y0 B)))[j]? = if j < n * 7 then some (match j % 7 with | 0 => .int .i64 0 | 1 => .string ⟨#[]⟩ | 2 => .int .i64 0 | 3 => .int .i64 0 | 4 => .int .i64 0 | _ => .slice none 0 0) else none := by
  induction n with
  | zero => intro j; simp [yc]
  | succ n ih =>
    intro j
    rw [List.replicate_succ]
    match j with
    | 0 => simp [yc, y0]
    | 1 => simp [yc, y0]; omega
    | 2 => simp [yc, y0]; omega
    | 3 => simp [yc, y0]; omega
    | 4 => simp [yc, y0]; omega
    | 5 => simp [yc, y0]; omega
    | 6 => simp [yc, y0]; omega
    | j + 7 =>
      have e := ih j
      have h1 : (yc (y0 B :: List.replicate n (y0 B)))[j + 7]? = (yc (List.replicate n (y0 B)))[j]? := by simp [yc]
      have h2 : (j + 7 < (n + 1) * 7) ↔ (j < n * 7) := by omega
      rw [h1, e, show (j + 7) % 7 = j % 7 by omega]
      simp only [h2]
theorem made7 (B n : Nat) : (madeCells #[.int .i64 0, .string ⟨#[]⟩, .int .i64 0, .int .i64 0, .int .i64 0, .slice none 0 0, .slice none 0 0] (n * 7)).toList = yc (List.replicate n (y0 B)) := by
  apply List.ext_getElem?
  intro j
  rw [yc_rep]
  by_cases hj : j < n * 7
  · have h7 : j % 7 = 0 ∨ j % 7 = 1 ∨ j % 7 = 2 ∨ j % 7 = 3 ∨ j % 7 = 4 ∨ j % 7 = 5 ∨ j % 7 = 6 := by omega
    rcases h7 with h | h | h | h | h | h | h <;> simp [madeCells, hj, h]
  · simp [madeCells, hj]
theorem owx_nil (W : World) (B : Nat) (h : B ≤ W.heap.size) : OwX W B B (.slice none 0 0) (.slice none 0 0) [] [] :=
  ⟨⟨[], rfl, ⟨World.ownsRow_nil _ _ _ _, fun z hz => by simp at hz, fun z hz => by simp at hz, List.Pairwise.nil⟩, World.ownsRow_nil _ _ _ _, Dj.nil _, fun z hz => by simp at hz, fun j hj => by simp [Value.ownBlock] at hj, fun j hj => by simp [Value.ownBlock] at hj, fun z hz => by simp at hz⟩, h⟩
/-- A new row of n boxes. -/
theorem make_bx (n : Nat) (hn : n ≤ 1048576) : ∃ M : Array Value, Hid (∀ W : World, OwS (W.alloc (.cells M 99)) W.heap.size (.slice (some ⟨W.heap.size, 0, none⟩) n n) (List.replicate n (y0 W.heap.size))) ∧
    ∀ W : World, (Instr.makeSlice 22 (.int .i64 (n : Int)) (.int .i64 (n : Int))).run Try.prog W = .ok (.slice (some ⟨W.heap.size, 0, none⟩) n n) (W.alloc (.cells M 99)) := by
  obtain ⟨i0, hi, hz0, hz1, hz2⟩ := info_parts3 info_bx
  refine ⟨madeCells #[.int .i64 0, .string ⟨#[]⟩, .int .i64 0, .int .i64 0, .int .i64 0, .slice none 0 0, .slice none 0 0] (n * 7), fun W => ?_, fun W => ?_⟩
  · have h := World.ownsRow_lit (base := W.heap.size) (e := 99) (size := 7) W (madeCells #[.int .i64 0, .string ⟨#[]⟩, .int .i64 0, .int .i64 0, .int .i64 0, .slice none 0 0, .slice none 0 0] (n * 7)) n (Nat.le_refl _) (by unfold maxLen; omega) (size_madeCells _ _)
    rw [made7 W.heap.size] at h
    refine ⟨by simpa using h, fun y hy => ?_, fun y hy j hj => ?_, ?_⟩
    · obtain rfl := List.eq_of_mem_replicate hy
      exact ⟨owx_nil _ _ (by show W.heap.size ≤ _; simp), Nat.le_refl _⟩
    · obtain rfl := List.eq_of_mem_replicate hy
      have e : (some W.heap.size : Option Nat) = some j := hj
      simp only [Option.some.injEq] at e
      exact .inr (by show W.heap.size ≤ j; omega)
    · exact List.pairwise_of_forall_mem_list fun x hx y hy => by
        obtain rfl := List.eq_of_mem_replicate hx
        obtain rfl := List.eq_of_mem_replicate hy
        exact .inl (Nat.le_refl _)
  · have h := run_make (P := Try.prog) W 22 99 i0 (.agg #[.int .i64 0, .string ⟨#[]⟩, .int .i64 0, .int .i64 0, .int .i64 0, .slice none 0 0, .slice none 0 0]) Try.underlying22 hi hz0 .i64 .i64 (n : Int) (n : Int) (by omega) (by omega) (by rw [hz2]; omega) (by omega)
    rw [hz1, Int.toNat_natCast] at h
    exact h
set_option maxHeartbeats 1600000 in
set_option maxRecDepth 100000 in
theorem toBoxS_any (lo hh : Nat) (ao : Option Addr) (n cap : Nat) (S : List X7) (w : World) (hl : S.length = n) (hn : n ≤ 1048576) (hsb : Sb S) (hr : Bs lo hh w ao S) :
    Calls Try.prog 59 #[.slice ao n cap] w fun e w' => e = .returned (.slice (some ⟨w.heap.size, 0, none⟩) n n) ∧ (∃ Y, Y.map yd = S ∧ OwS w' w.heap.size (.slice (some ⟨w.heap.size, 0, none⟩) n n) Y) ∧ Below w.heap.size w w' := by
  obtain ⟨M, hM, hmk⟩ := make_bx n hn
  have HR := hid hr
  have HL := hid hl
  have HS := hid hsb
  clear hr hl hsb
  go_enter Try.func59, Try.ntmps59
  go_wp2
  clear hmk
  go_loopw [4] (fun iv wr => ∃ i : Nat, i ≤ n ∧ iv = .int .i64 (i : Int) ∧ (∃ Y : List Y9, Y.length = n ∧ (Y.take i).map yd = S.take i ∧ OwS wr w.heap.size (.slice (some ⟨w.heap.size, 0, none⟩) n n) Y) ∧ Below w.heap.size w wr) (fun iv _ => n - (intOf iv).toNat)
  case atStart => exact ⟨0, Nat.zero_le _, rfl, ⟨_, List.length_replicate, by simp, hM.out w⟩, bpush (bre _) _⟩
  case round =>
    obtain ⟨i, hi, rfl, ⟨Y, hZn, hZt, hown⟩, hb⟩ := hrel
    have HO := hid hown
    have HZN := hid hZn
    have HZT := hid hZt
    have HB := hid hb
    clear hown hZn hZt hb
    by_cases hlt : i < n
    · have hil : i < S.length := by rw [HL.out]; exact hlt
      obtain ⟨k, o, ma, mc, ga, gc, rfl, hk, c, hms, his, _⟩ := (HR.out.later HB.out).at hil
      have hmem := HS.out S[i] (List.getElem_mem hil)
      obtain ⟨p, hp⟩ : ∃ p, S[i] = p := ⟨_, rfl⟩
      rw [hp] at c hms his hmem
      obtain ⟨g, nm, t, b, nx, L, G⟩ := p
      dsimp only at c hms his hmem
      obtain ⟨m, hm⟩ : ∃ m, L.length = m := ⟨_, rfl⟩
      obtain ⟨q, hq⟩ : ∃ q, G.length = q := ⟨_, rfl⟩
      rw [hm, hq] at c hmem
      have HP := hid hp
      have HMS := hid hms
      have HIS := hid his
      have HMM := hid hmem
      have HM := hid hm
      have HQ := hid hq
      unfold C7 at c
      clear hp hms his hmem hm hq
      go_wp2_with fail
      refine (toBox_any lo hh lo hh g nm t b nx ma m mc ga q gc L G _ HM.out HMM.out.2.1 HMM.out.2.2.1 HMS.out HQ.out HMM.out.2.2.2 HIS.out).mono ?_; rintro e w1 ⟨km, kg, rfl, how, hb1⟩
      have H1 := hid (HO.out.later hb1)
      have hiz : i < Y.length := by rw [HZN.out]; exact hlt
      obtain ⟨hc, hf⟩ := OwS.spot H1.out i hiz
      have HF := hf (i * 7)
      have HF1 := hf (i * 7 + 1)
      have HF2 := hf (i * 7 + 2)
      have HF3 := hf (i * 7 + 3)
      have HF4 := hf (i * 7 + 4)
      have HF5 := hf (i * 7 + 5)
      have HF6 := hf (i * 7 + 6)
      unfold C7 at hc
      have hgk : w.heap.size < wr.heap.size := ((HO.out.row.lt w.heap.size rfl).2)
      have HST := hid (OwS.stored H1.out i hiz ⟨g, nm, t, b, nx, .slice (some ⟨km, 0, none⟩) m m, .slice (some ⟨kg, 0, none⟩) q q, L, G, wr.heap.size, w1.heap.size⟩ how.owx (by show w.heap.size ≤ wr.heap.size; omega) (.inl hgk) (fun x hx => .inl (HO.out.each x hx).1.top))
      have HB1 : Hid (Below w.heap.size w w1) := btr HB.out hb1
      clear c hb1 how hgk hf
      go_wp2
      go_roundw
      case rel =>
        refine ⟨i + 1, by omega, by go_num, ⟨_, ?_, ?_, HST.out⟩, bset (bset (bset (bset (bset (bset (bset HB1.out (Nat.le_refl _) _) (Nat.le_refl _) _) (Nat.le_refl _) _) (Nat.le_refl _) _) (Nat.le_refl _) _) (Nat.le_refl _) _) (Nat.le_refl _) _⟩
        · rw [List.length_set]; exact HZN.out
        · rw [List.take_succ_eq_append_getElem (by rw [List.length_set]; exact hiz), List.take_succ_eq_append_getElem hil, List.map_append, List.take_set_of_le (Nat.le_refl _), HZT.out, List.getElem_set_self, HP.out]; rfl
      case measure => simp [intOf]; omega
    · have HE : Hid (Y.map yd = S) := by
        show _ = _
        have := HZT.out
        rwa [List.take_of_length_le (by rw [HZN.out]; omega), List.take_of_length_le (by rw [HL.out]; omega)] at this
      go_wp2
      go_ret
      exact ⟨rfl, ⟨Y, HE.out, HO.out⟩, HB.out⟩
set_option maxHeartbeats 1600000 in
set_option maxRecDepth 100000 in
/-- Two rows of the same boxes are told alike. -/
theorem eqBoxS_any (l1 h1 l2 h2 : Nat) (ao bo : Option Addr) (n ca cb : Nat) (S : List X7) (w : World) (hl : S.length = n) (hn : n ≤ 1048576) (hsb : Sb S) (ha : Bs l1 h1 w ao S) (hb : Bs l2 h2 w bo S) :
    Calls Try.prog 54 #[.slice ao n ca, .slice bo n cb] w fun e w' => e = .returned (.bool true) ∧ Below w.heap.size w w' := by
  have hnn : ((n : Int) != (n : Int)) = false := by simp
  have HA := hid ha
  have HB := hid hb
  have HL := hid hl
  have HS := hid hsb
  clear ha hb hl hsb
  go_enter Try.func54, Try.ntmps54
  go_wp2
  clear hnn
  go_loopw [5] (fun iv wr => ∃ i : Nat, i ≤ n ∧ iv = .int .i64 (i : Int) ∧ Below w.heap.size w wr) (fun iv _ => n - (intOf iv).toNat)
  case atStart => exact ⟨0, Nat.zero_le _, rfl, bre _⟩
  case round =>
    obtain ⟨i, hi, rfl, hb⟩ := hrel
    have HBE := hid hb
    clear hb
    by_cases hlt : i < n
    · have hil : i < S.length := by rw [HL.out]; exact hlt
      obtain ⟨k, o, ma, mc, ga, gc, rfl, hk, c, hms, his, _⟩ := (HA.out.later HBE.out).at hil
      obtain ⟨k', o', ma', mc', ga', gc', rfl, hk', d, hms', his', _⟩ := (HB.out.later HBE.out).at hil
      have hmem := HS.out S[i] (List.getElem_mem hil)
      obtain ⟨p, hp⟩ : ∃ p, S[i] = p := ⟨_, rfl⟩
      rw [hp] at c d hms his hms' his' hmem
      obtain ⟨g, nm, t, b, nx, L, G⟩ := p
      dsimp only at c d hms his hms' his' hmem
      obtain ⟨m, hm⟩ : ∃ m, L.length = m := ⟨_, rfl⟩
      obtain ⟨q, hq⟩ : ∃ q, G.length = q := ⟨_, rfl⟩
      rw [hm, hq] at c d hmem
      have HM := hid hm
      have HQ := hid hq
      have HMM := hid hmem
      have R1 := hid hms
      have R2 := hid hms'
      have I1 := hid his
      have I2 := hid his'
      have hI : (0 : Int) ≤ (i : Int) ∧ (i : Int) < (n : Int) := by omega
      have HSS : Hid (∀ W, Below wr.heap.size wr W → (W.cell? ⟨k, o + i * 7, none⟩ = some (.int .i64 g) ∧ W.cell? ⟨k, o + i * 7 + 1, none⟩ = some (.string nm) ∧ W.cell? ⟨k, o + i * 7 + 2, none⟩ = some (.int .i64 t) ∧ W.cell? ⟨k, o + i * 7 + 3, none⟩ = some (.int .i64 b) ∧ W.cell? ⟨k, o + i * 7 + 4, none⟩ = some (.int .i64 nx) ∧ W.cell? ⟨k, o + i * 7 + 5, none⟩ = some (.slice ma m mc) ∧ W.cell? ⟨k, o + i * 7 + 6, none⟩ = some (.slice ga q gc)) ∧ (W.cell? ⟨k', o' + i * 7, none⟩ = some (.int .i64 g) ∧ W.cell? ⟨k', o' + i * 7 + 1, none⟩ = some (.string nm) ∧ W.cell? ⟨k', o' + i * 7 + 2, none⟩ = some (.int .i64 t) ∧ W.cell? ⟨k', o' + i * 7 + 3, none⟩ = some (.int .i64 b) ∧ W.cell? ⟨k', o' + i * 7 + 4, none⟩ = some (.int .i64 nx) ∧ W.cell? ⟨k', o' + i * 7 + 5, none⟩ = some (.slice ma' m mc') ∧ W.cell? ⟨k', o' + i * 7 + 6, none⟩ = some (.slice ga' q gc'))) := fun W h => ⟨C7.later c hk h, C7.later d hk' h⟩
      clear c d hp hm hq hmem hms his hms' his'
      go_wp2_with fail
      go_region_held3 (fun W => (W.cell? ⟨k, o + i * 7, none⟩ = some (.int .i64 g) ∧ W.cell? ⟨k, o + i * 7 + 1, none⟩ = some (.string nm) ∧ W.cell? ⟨k, o + i * 7 + 2, none⟩ = some (.int .i64 t) ∧ W.cell? ⟨k, o + i * 7 + 3, none⟩ = some (.int .i64 b) ∧ W.cell? ⟨k, o + i * 7 + 4, none⟩ = some (.int .i64 nx) ∧ W.cell? ⟨k, o + i * 7 + 5, none⟩ = some (.slice ma m mc) ∧ W.cell? ⟨k, o + i * 7 + 6, none⟩ = some (.slice ga q gc)) ∧ (W.cell? ⟨k', o' + i * 7, none⟩ = some (.int .i64 g) ∧ W.cell? ⟨k', o' + i * 7 + 1, none⟩ = some (.string nm) ∧ W.cell? ⟨k', o' + i * 7 + 2, none⟩ = some (.int .i64 t) ∧ W.cell? ⟨k', o' + i * 7 + 3, none⟩ = some (.int .i64 b) ∧ W.cell? ⟨k', o' + i * 7 + 4, none⟩ = some (.int .i64 nx) ∧ W.cell? ⟨k', o' + i * 7 + 5, none⟩ = some (.slice ma' m mc') ∧ W.cell? ⟨k', o' + i * 7 + 6, none⟩ = some (.slice ga' q gc')))
        ((refine HSS.out _ ?_; repeat (first | exact bdr (bre _) | refine btr ?_ (by assumption))))
        ((go_at_call 66; refine (eqBox_any l1 h1 l2 h2 l1 h1 l2 h2 g nm t b nx ma m mc ga q gc ma' mc' ga' gc' L G _ HM.out HMM.out.2.1 HMM.out.2.2.1 (R1.out.later (by repeat (first | exact bdr (bre _) | exact bre _ | refine btr ?_ (by assumption)))) (R2.out.later (by repeat (first | exact bdr (bre _) | exact bre _ | refine btr ?_ (by assumption)))) HQ.out HMM.out.2.2.2 (I1.out.later (by repeat (first | exact bdr (bre _) | exact bre _ | refine btr ?_ (by assumption)))) (I2.out.later (by repeat (first | exact bdr (bre _) | exact bre _ | refine btr ?_ (by assumption))))).mono ?_; rintro e w1 ⟨rfl, hb1⟩))
      have HB1 : Hid (Below w.heap.size w w1) := by show Below _ _ _; refine btr HBE.out ?_; repeat (first | exact bdr (bre _) | refine btr ?_ (by assumption))
      go_wp2
      go_roundw
      case rel => exact ⟨i + 1, by omega, by go_num, HB1.out⟩
      case measure => simp [intOf]; omega
    · go_wp2
      go_ret
      exact ⟨rfl, HBE.out⟩
theorem two_stores (w : World) (ta tb : Nat) (y tm y1 tm1 : Int) (bv gv bv1 gv1 : Value) (W0 : World)
    (h : ((w.alloc (.cells #[.int .i64 y, .int .i64 tm, bv, gv] ta)).alloc (.cells #[.int .i64 y1, .int .i64 tm1, bv1, gv1] tb)) = W0) :
    Sx W0 w.heap.size ta y tm bv gv ∧ Sx W0 (w.heap.size + 1) tb y1 tm1 bv1 gv1 ∧ Below w.heap.size w W0 ∧ W0.heap.size = w.heap.size + 1 + 1 := by
  have e1 : (w.alloc (.cells #[.int .i64 y, .int .i64 tm, bv, gv] ta)).heap.size = w.heap.size + 1 := by simp
  have h1 := Sx.new (w.alloc (.cells #[.int .i64 y, .int .i64 tm, bv, gv] ta)) tb y1 tm1 bv1 gv1
  rw [e1] at h1
  subst h
  exact ⟨(Sx.new w ta y tm bv gv).later (bpush (bre _) _), h1, bpush (bpush (bre _) _) _, by simp⟩
set_option maxHeartbeats 800000 in
set_option maxRecDepth 100000 in
theorem eqStore_any (l1 h1 l2 h2 l3 h3 l4 h4 : Nat) (y tm : Int) (ba : Option Addr) (bn bc : Nat) (ga : Option Addr) (gn gc : Nat) (ba' : Option Addr) (bc' : Nat) (ga' : Option Addr) (gc' : Nat) (S : List X7) (G : List Int) (w : World) (hl : S.length = bn) (hn : bn ≤ 1048576) (hsb : Sb S) (hm : Bs l1 h1 w ba S) (hm' : Bs l2 h2 w ba' S)
    (hgl : G.length = gn) (hgn : gn ≤ 1048576) (hs : Is l3 h3 w ga G) (hs' : Is l4 h4 w ga' G) :
    Calls Try.prog 38 #[.agg #[.int .i64 y, .int .i64 tm, .slice ba bn bc, .slice ga gn gc], .agg #[.int .i64 y, .int .i64 tm, .slice ba' bn bc', .slice ga' gn gc']] w fun e w' => e = .returned (.bool true) ∧ Below w.heap.size w w' := by
  obtain ⟨W0, hW0⟩ : ∃ W0, ((w.alloc (.cells #[.int .i64 y, .int .i64 tm, .slice ba bn bc, .slice ga gn gc] 25)).alloc (.cells #[.int .i64 y, .int .i64 tm, .slice ba' bn bc', .slice ga' gn gc'] 25)) = W0 := ⟨_, rfl⟩
  obtain ⟨a0, a1, b0, _⟩ := two_stores w _ _ _ _ _ _ _ _ _ _ W0 hW0
  have A0 := hid a0
  have A1 := hid a1
  have B0 := hid b0
  have c0 := a0.cells
  have c1 := a1.cells
  have HM := hid hm
  have HM' := hid hm'
  have HS := hid hs
  have HS' := hid hs'
  have HX := hid hsb
  have e1 : (y != y) = false := by simp
  have e2 : (tm != tm) = false := by simp
  clear a0 a1 b0 hm hm' hs hs' hsb
  go_enter Try.func38, Try.ntmps38
  go_wp2_with fail
  clear hW0
  refine (eqBoxS_any l1 h1 l2 h2 ba ba' bn bc bc' S _ hl hn HX.out (HM.out.later B0.out) (HM'.out.later B0.out)).mono ?_; rintro e w2 ⟨rfl, hb2⟩
  have k0 := A0.out.later hb2
  have k1 := A1.out.later hb2
  have B2 := hid (btr B0.out hb2)
  have c0 := k0.cells
  have c1 := k1.cells
  clear hb2 k0 k1 A0 A1 B0
  go_wp2_with fail
  refine (eqIntS_any l3 h3 l4 h4 ga ga' gn gc gc' G _ hgl hgn (HS.out.later B2.out) (HS'.out.later B2.out)).mono ?_; rintro e w3 ⟨rfl, hb3⟩
  have B3 := hid (btr B2.out hb3)
  clear hb3
  go_wp2
  go_ret
  exact ⟨rfl, B3.out⟩
end Go.Proofs.Ytckenihadlmlaaa
