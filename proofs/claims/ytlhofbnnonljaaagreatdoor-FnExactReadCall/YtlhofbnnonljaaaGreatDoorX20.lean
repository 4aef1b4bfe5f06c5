/- Tic. -/
import Derived.Test.YtlhofbnnonljaaaGreatDoorX19
namespace Go.Proofs.YtlhofbnnonljaaaGreatDoor
open Go.RowKit Go.ChangeMaps
def bkOk (tm : Int) (G : List Int) (S : List X7) : Bool := decide ((S.length : Int) ≤ 5) && (List.range S.length).all (stp7 tm G S)
set_option maxHeartbeats 16000000 in
set_option maxRecDepth 100000 in
theorem boxesOk_any (lo hi lo' hi' : Nat) (y tm : Int) (ba : Option Addr) (bn bc : Nat) (ga : Option Addr) (gn gc : Nat) (S : List X7) (G : List Int) (w : World) (hl : S.length = bn) (hn : bn ≤ 1048576) (hsb : Sb S) (hm : Bs lo hi w ba S) (hgl : G.length = gn) (hgn : gn ≤ 1048576) (hs : Is lo' hi' w ga G) :
    Calls Tryz.prog 145 #[.agg #[.int .i64 y, .int .i64 tm, .slice ba bn bc, .slice ga gn gc]] w fun e w' => e = .returned (.bool (bkOk tm G S)) ∧ Below w.heap.size w w' := by
  obtain ⟨W0, hW0⟩ : ∃ W0, w.alloc (.cells #[.int .i64 y, .int .i64 tm, .slice ba bn bc, .slice ga gn gc] 57) = W0 := ⟨_, rfl⟩
  have a0 : Sx W0 w.heap.size 57 y tm (.slice ba bn bc) (.slice ga gn gc) := by subst hW0; exact Sx.new w _ y tm _ _
  have b0 : Below w.heap.size w W0 := by subst hW0; exact bpush (bre _) _
  have c0 := a0.cells
  have HL := hid hl
  have HN := hid hn
  have HSB := hid hsb
  have HR := hid hm
  have HGL := hid hgl
  have HGN := hid hgn
  have HIS := hid hs
  have A0 := hid a0
  have B0 := hid b0
  clear hl hsb hm hgl hgn hs a0 b0
  by_cases h5 : (bn : Int) ≤ 5
  case neg =>
    have HE : Hid (bkOk tm G S = false) := by show _ = _; rw [bkOk, HL.out]; simp [h5]
    have h6 : (5 : Int) < (bn : Int) := by omega
    go_enter Tryz.func145, Tryz.ntmps145
    go_wp2
    go_ret
    exact ⟨by rw [HE.out]; rfl, B0.out⟩
  have h6 : ¬ (5 : Int) < (bn : Int) := by omega
  have HFIVE : Hid ((bn : Int) ≤ 5) := h5
  go_enter Tryz.func145, Tryz.ntmps145
  go_wp2
  clear hW0 h5 h6 c0
  go_loopw [3, 13] (fun lv iv wr => ∃ (i : Nat) (q : Int), i ≤ bn ∧ lv = .int .i64 q ∧ iv = .int .i64 (i : Int) ∧ Hid (q = pg S i) ∧ Hid (∀ j, j < i → j < S.length → stp7 tm G S j = true) ∧ Sx wr w.heap.size 57 y tm (.slice ba bn bc) (.slice ga gn gc) ∧ Below w.heap.size w wr) (fun _ iv _ => bn - (intOf iv).toNat)
  case atStart => exact ⟨0, 0, Nat.zero_le _, rfl, rfl, rfl, fun j hj => absurd hj (Nat.not_lt_zero _), A0.out, B0.out⟩
  case round =>
    obtain ⟨i, q, hin, rfl, rfl, HQ0, HA, hsx, hb⟩ := hrel
    obtain ⟨wq, hwq⟩ : ∃ wq, wq = wr := ⟨_, rfl⟩
    subst hwq
    have HB := hid hb
    have A6 := hid hsx
    have c0 := hsx.cells
    have hbn := HN.out
    clear hb hsx A0 B0
    by_cases hlt : i < bn
    · have hil : i < S.length := by rw [HL.out]; exact hlt
      obtain ⟨k, o, ma1, mc1, ga1, gc1, rfl, hk, d, hms, his, _⟩ := HR.out.at hil
      have hmem := HSB.out S[i] (List.getElem_mem hil)
      have HPG := hid (pg_succ hil)
      obtain ⟨qq, hq⟩ : ∃ qq, S[i] = qq := ⟨_, rfl⟩
      obtain ⟨g1, nm1, t1, b1, nx1, L1, G1⟩ := qq
      have HST := hid (stp7_at (tm := tm) (G := G) hil hq)
      rw [hq] at d hms his hmem HPG
      dsimp only at d hms his hmem HST HPG
      obtain ⟨m1, hm1⟩ : ∃ m1, L1.length = m1 := ⟨_, rfl⟩
      obtain ⟨n1, hn1⟩ : ∃ n1, G1.length = n1 := ⟨_, rfl⟩
      rw [hm1, hn1] at d hmem
      have HM1 := hid hm1
      have HN1 := hid hn1
      have HNM := hid hmem.1
      have HML := hid hmem.2.1
      have HSL := hid hmem.2.2.1
      have HNL := hid hmem.2.2.2
      have HMS := hid hms
      have HIS1 := hid his
      obtain ⟨p, hp⟩ : ∃ p, bxOk g1 nm1 t1 b1 nx1 L1 G1 = p := ⟨_, rfl⟩
      obtain ⟨si, hsi⟩ : ∃ si, inl g1 G = si := ⟨_, rfl⟩
      obtain ⟨zn, hzn⟩ : ∃ zn, fidx (isN nm1) S 0 = zn := ⟨_, rfl⟩
      obtain ⟨tk, htk⟩ : ∃ tk, tmOk tm t1 L1 = tk := ⟨_, rfl⟩
      obtain ⟨lt, hltm⟩ : ∃ lt, ltM t1 L1 = lt := ⟨_, rfl⟩
      have HLK : Hid (decide (tm < lt) = !tk) := by show _ = _; rw [← hltm, ← htk]; exact ltM_tm _ _ _
      have HLT := hid hltm
      have HP := hid hp
      have HSI := hid hsi
      have HZN := hid hzn
      have hI : (0 : Int) ≤ (i : Int) ∧ (i : Int) < (bn : Int) := by omega
      rw [show bxx (g1, nm1, t1, b1, nx1, L1, G1) = p from hp, HSI.out, HZN.out, htk, ← HQ0.out] at HST
      have d0 := d.later hk HB.out
      unfold C7 at d0
      clear hq hms his hmem hm1 hn1 hp hsi hzn htk d hltm
      go_wp2_with fail
      obtain ⟨W1, hW1⟩ : ∃ W1, wq.alloc (.cells #[.int .i64 g1, .string nm1, .int .i64 t1, .int .i64 b1, .int .i64 nx1, .slice ma1 m1 mc1, .slice ga1 n1 gc1] 77) = W1 := ⟨_, rfl⟩
      have A1 : Hid (Bx W1 wq.heap.size 77 g1 nm1 t1 b1 nx1 (.slice ma1 m1 mc1) (.slice ga1 n1 gc1)) := by subst hW1; exact Bx.new _ _ _ _ _ _ _ _ _
      have B1 : Hid (Below wq.heap.size wq W1) := by subst hW1; exact bpush (bre _) _
      rw [hW1]
      have HS : Hid (∀ W, Below W1.heap.size W1 W → (W.cell? ⟨w.heap.size, 0, none⟩ = some (.int .i64 y) ∧ W.cell? ⟨w.heap.size, 1, none⟩ = some (.int .i64 tm) ∧ W.cell? ⟨w.heap.size, 2, none⟩ = some (.slice (some ⟨k, o, none⟩) bn bc) ∧ W.cell? ⟨w.heap.size, 3, none⟩ = some (.slice ga gn gc)) ∧ (W.cell? ⟨wq.heap.size, 0, none⟩ = some (.int .i64 g1) ∧ W.cell? ⟨wq.heap.size, 1, none⟩ = some (.string nm1) ∧ W.cell? ⟨wq.heap.size, 2, none⟩ = some (.int .i64 t1) ∧ W.cell? ⟨wq.heap.size, 3, none⟩ = some (.int .i64 b1) ∧ W.cell? ⟨wq.heap.size, 4, none⟩ = some (.int .i64 nx1) ∧ W.cell? ⟨wq.heap.size, 5, none⟩ = some (.slice ma1 m1 mc1) ∧ W.cell? ⟨wq.heap.size, 6, none⟩ = some (.slice ga1 n1 gc1))) := fun W h => ⟨(A6.out.later (btr B1.out h)).cells, (A1.out.later h).cells⟩
      clear hW1 d0 c0 hk
      refine wp_region_noPanic ?_
      refine wp_region_held_drew (S := (fun W => (W.cell? ⟨w.heap.size, 0, none⟩ = some (.int .i64 y) ∧ W.cell? ⟨w.heap.size, 1, none⟩ = some (.int .i64 tm) ∧ W.cell? ⟨w.heap.size, 2, none⟩ = some (.slice (some ⟨k, o, none⟩) bn bc) ∧ W.cell? ⟨w.heap.size, 3, none⟩ = some (.slice ga gn gc)) ∧ (W.cell? ⟨wq.heap.size, 0, none⟩ = some (.int .i64 g1) ∧ W.cell? ⟨wq.heap.size, 1, none⟩ = some (.string nm1) ∧ W.cell? ⟨wq.heap.size, 2, none⟩ = some (.int .i64 t1) ∧ W.cell? ⟨wq.heap.size, 3, none⟩ = some (.int .i64 b1) ∧ W.cell? ⟨wq.heap.size, 4, none⟩ = some (.int .i64 nx1) ∧ W.cell? ⟨wq.heap.size, 5, none⟩ = some (.slice ma1 m1 mc1) ∧ W.cell? ⟨wq.heap.size, 6, none⟩ = some (.slice ga1 n1 gc1)))) (by kernel_rfl) (HS.out _ (bdr (bre _))) (fun hHeld => ?_)
      refine wpAnyH_take (i := 0) (oi := { dst := some 18, op := Op.load 77 (Operand.tmp 5), type := 77, pos := "l07_store.go:115", after := #[], guard := none }) (v := ?vb1_0) rfl (by kernel_rfl) (by kernel_rfl) (by kernel_rfl) (fun _ _ _ h => h) (Or.inl ⟨by rfl, ?hyb1_0⟩) (by assumption) ?restb1_0
      case hyb1_0 => (intro w hSw; (try dsimp only at hSw); go_simp; try with_reducible rfl)
      try simp only [Act.put, List.setIfInBounds_toArray, List.set_cons_zero, List.set_cons_succ]
      clear hHeld
      refine wpAnyH_ready (rs := [1]) (by kernel_rfl) (by simp) ?_
      refine AllReadyH.cons (o := { dst := some 19, op := Op.call { callee := Callee.value (Operand.func 132), args := #[Operand.tmp 18], argTypes := #[77] }, type := 4, pos := "l07_store.go:115", after := #[{ on := 0, ground := Ground.data }], guard := none }) rfl (fun K hK => ?_) AllReadyH.nil
      go_simp
      refine (implBoxOk_any lo hi lo hi g1 nm1 t1 b1 nx1 ma1 m1 mc1 ga1 n1 gc1 L1 G1 _ HNM.out HM1.out HML.out HSL.out (HMS.out.later (btr HB.out (btr B1.out (by repeat (first | exact bre _ | refine bdr ?_ | refine btr ?_ (by assumption)))))) HN1.out HNL.out (HIS1.out.later (btr HB.out (btr B1.out (by repeat (first | exact bre _ | refine bdr ?_ | refine btr ?_ (by assumption))))))).mono ?_; rintro e w2 ⟨rfl, hb2⟩
      rw [HP.out]
      go_wp2_with fail
      refine hK.out _ _ (HS.out _ (by repeat (first | exact bre _ | refine bdr ?_ | refine btr ?_ (by assumption)))) (fun hHeld => ?_)
      clear hK K
      try simp only [Act.put, List.setIfInBounds_toArray, List.set_cons_zero, List.set_cons_succ]
      cases p
      · refine wpAnyH_take (i := 2) (oi := { dst := some 20, op := Op.unOp UnOp.not 4 (Operand.tmp 19), type := 4, pos := "l07_store.go:115", after := #[{ on := 1, ground := Ground.data }], guard := none }) (v := ?vb3_2) rfl (by kernel_rfl) (by kernel_rfl) (by kernel_rfl) (fun _ _ _ h => h) (Or.inl ⟨by rfl, ?hyb3_2⟩) (by assumption) ?restb3_2
        case hyb3_2 => (intro w hSw; (try dsimp only at hSw); go_simp; try with_reducible rfl)
        try simp only [Act.put, List.setIfInBounds_toArray, List.set_cons_zero, List.set_cons_succ]
        refine wpAnyH_take (i := 3) (oi := { dst := some 21, op := Op.move (Operand.tmp 20), type := 4, pos := "l07_store.go:115", after := #[{ on := 2, ground := Ground.data }, { on := 1, ground := Ground.chain }], guard := none }) (v := ?vb4_3) rfl (by kernel_rfl) (by kernel_rfl) (by kernel_rfl) (fun _ _ _ h => h) (Or.inl ⟨by rfl, ?hyb4_3⟩) (by assumption) ?restb4_3
        case hyb4_3 => (intro w hSw; (try dsimp only at hSw); go_simp; try with_reducible rfl)
        try simp only [Act.put, List.setIfInBounds_toArray, List.set_cons_zero, List.set_cons_succ]
        refine wpAnyH_take (i := 4) (oi := { dst := some 22, op := Op.fieldAddr 77 (Operand.tmp 5) 0, type := 0, pos := "l07_store.go:115", after := #[{ on := 3, ground := Ground.guard }], guard := some (3, false) }) (v := undef) rfl (by kernel_rfl) (by kernel_rfl) (by kernel_rfl) (fun _ _ _ h => h) (Or.inr ⟨by rfl, rfl⟩) (by assumption) ?_
        try simp only [Act.put, List.setIfInBounds_toArray, List.set_cons_zero, List.set_cons_succ]
        refine wpAnyH_take (i := 5) (oi := { dst := some 23, op := Op.load 3 (Operand.tmp 22), type := 3, pos := "l07_store.go:115", after := #[{ on := 4, ground := Ground.data }, { on := 3, ground := Ground.guard }], guard := some (3, false) }) (v := undef) rfl (by kernel_rfl) (by kernel_rfl) (by kernel_rfl) (fun _ _ _ h => h) (Or.inr ⟨by rfl, rfl⟩) (by assumption) ?_
        try simp only [Act.put, List.setIfInBounds_toArray, List.set_cons_zero, List.set_cons_succ]
        refine wpAnyH_take (i := 6) (oi := { dst := some 24, op := Op.move (Operand.tmp 3), type := 3, pos := "l07_store.go:115", after := #[{ on := 3, ground := Ground.guard }], guard := some (3, false) }) (v := undef) rfl (by kernel_rfl) (by kernel_rfl) (by kernel_rfl) (fun _ _ _ h => h) (Or.inr ⟨by rfl, rfl⟩) (by assumption) ?_
        try simp only [Act.put, List.setIfInBounds_toArray, List.set_cons_zero, List.set_cons_succ]
        refine wpAnyH_take (i := 7) (oi := { dst := some 25, op := Op.binOp BinOp.leq 3 (Operand.tmp 23) (Operand.tmp 24) 3, type := 4, pos := "l07_store.go:115", after := #[{ on := 5, ground := Ground.data }, { on := 6, ground := Ground.data }, { on := 3, ground := Ground.guard }], guard := some (3, false) }) (v := undef) rfl (by kernel_rfl) (by kernel_rfl) (by kernel_rfl) (fun _ _ _ h => h) (Or.inr ⟨by rfl, rfl⟩) (by assumption) ?_
        try simp only [Act.put, List.setIfInBounds_toArray, List.set_cons_zero, List.set_cons_succ]
        refine wpAnyH_take (i := 8) (oi := { dst := some 26, op := Op.pick (Operand.tmp 21) (Operand.const (Value.bool true)) (Operand.tmp 25), type := 4, pos := "l07_store.go:115", after := #[{ on := 3, ground := Ground.data }, { on := 7, ground := Ground.data }], guard := none }) (v := ?vb9_8) rfl (by kernel_rfl) (by kernel_rfl) (by kernel_rfl) (fun _ _ _ h => h) (Or.inl ⟨by rfl, ?hyb9_8⟩) (by assumption) ?restb9_8
        case hyb9_8 => (intro w hSw; (try dsimp only at hSw); go_simp; try with_reducible rfl)
        try simp only [Act.put, List.setIfInBounds_toArray, List.set_cons_zero, List.set_cons_succ]
        refine wpAnyH_take (i := 9) (oi := { dst := some 27, op := Op.move (Operand.tmp 26), type := 4, pos := "l07_store.go:115", after := #[{ on := 8, ground := Ground.data }, { on := 3, ground := Ground.chain }], guard := none }) (v := ?vb10_9) rfl (by kernel_rfl) (by kernel_rfl) (by kernel_rfl) (fun _ _ _ h => h) (Or.inl ⟨by rfl, ?hyb10_9⟩) (by assumption) ?restb10_9
        case hyb10_9 => (intro w hSw; (try dsimp only at hSw); go_simp; try with_reducible rfl)
        try simp only [Act.put, List.setIfInBounds_toArray, List.set_cons_zero, List.set_cons_succ]
        refine wpAnyH_take (i := 10) (oi := { dst := some 28, op := Op.load 57 (Operand.tmp 1), type := 57, pos := "l07_store.go:115", after := #[{ on := 9, ground := Ground.guard }], guard := some (9, false) }) (v := undef) rfl (by kernel_rfl) (by kernel_rfl) (by kernel_rfl) (fun _ _ _ h => h) (Or.inr ⟨by rfl, rfl⟩) (by assumption) ?_
        try simp only [Act.put, List.setIfInBounds_toArray, List.set_cons_zero, List.set_cons_succ]
        refine wpAnyH_take (i := 11) (oi := { dst := some 29, op := Op.fieldAddr 77 (Operand.tmp 5) 1, type := 0, pos := "l07_store.go:115", after := #[{ on := 9, ground := Ground.guard }], guard := some (9, false) }) (v := undef) rfl (by kernel_rfl) (by kernel_rfl) (by kernel_rfl) (fun _ _ _ h => h) (Or.inr ⟨by rfl, rfl⟩) (by assumption) ?_
        try simp only [Act.put, List.setIfInBounds_toArray, List.set_cons_zero, List.set_cons_succ]
        refine wpAnyH_take (i := 12) (oi := { dst := some 30, op := Op.load 9 (Operand.tmp 29), type := 9, pos := "l07_store.go:115", after := #[{ on := 11, ground := Ground.data }, { on := 9, ground := Ground.guard }], guard := some (9, false) }) (v := undef) rfl (by kernel_rfl) (by kernel_rfl) (by kernel_rfl) (fun _ _ _ h => h) (Or.inr ⟨by rfl, rfl⟩) (by assumption) ?_
        try simp only [Act.put, List.setIfInBounds_toArray, List.set_cons_zero, List.set_cons_succ]
        refine wpAnyH_take (i := 14) (oi := { dst := some 32, op := Op.move (Operand.tmp 4), type := 3, pos := "l07_store.go:115", after := #[{ on := 9, ground := Ground.guard }], guard := some (9, false) }) (v := undef) rfl (by kernel_rfl) (by kernel_rfl) (by kernel_rfl) (fun _ _ _ h => h) (Or.inr ⟨by rfl, rfl⟩) (by assumption) ?_
        try simp only [Act.put, List.setIfInBounds_toArray, List.set_cons_zero, List.set_cons_succ]
        refine wpAnyH_take (i := 13) (oi := { dst := some 31, op := Op.call { callee := Callee.value (Operand.func 78), args := #[Operand.tmp 28, Operand.tmp 30], argTypes := #[57, 9] }, type := 3, pos := "l07_store.go:115", after := #[{ on := 10, ground := Ground.data }, { on := 12, ground := Ground.data }, { on := 9, ground := Ground.chain }, { on := 9, ground := Ground.guard }], guard := some (9, false) }) (v := undef) rfl (by kernel_rfl) (by kernel_rfl) (by kernel_rfl) (fun _ _ _ h => h) (Or.inr ⟨by rfl, rfl⟩) (by assumption) ?_
        try simp only [Act.put, List.setIfInBounds_toArray, List.set_cons_zero, List.set_cons_succ]
        refine wpAnyH_take (i := 15) (oi := { dst := some 33, op := Op.binOp BinOp.neq 3 (Operand.tmp 31) (Operand.tmp 32) 3, type := 4, pos := "l07_store.go:115", after := #[{ on := 13, ground := Ground.data }, { on := 14, ground := Ground.data }, { on := 9, ground := Ground.guard }], guard := some (9, false) }) (v := undef) rfl (by kernel_rfl) (by kernel_rfl) (by kernel_rfl) (fun _ _ _ h => h) (Or.inr ⟨by rfl, rfl⟩) (by assumption) ?_
        try simp only [Act.put, List.setIfInBounds_toArray, List.set_cons_zero, List.set_cons_succ]
        refine wpAnyH_take (i := 16) (oi := { dst := some 34, op := Op.pick (Operand.tmp 27) (Operand.const (Value.bool true)) (Operand.tmp 33), type := 4, pos := "l07_store.go:115", after := #[{ on := 9, ground := Ground.data }, { on := 15, ground := Ground.data }], guard := none }) (v := ?vb17_16) rfl (by kernel_rfl) (by kernel_rfl) (by kernel_rfl) (fun _ _ _ h => h) (Or.inl ⟨by rfl, ?hyb17_16⟩) (by assumption) ?restb17_16
        case hyb17_16 => (intro w hSw; (try dsimp only at hSw); go_simp; try with_reducible rfl)
        try simp only [Act.put, List.setIfInBounds_toArray, List.set_cons_zero, List.set_cons_succ]
        refine wpAnyH_take (i := 17) (oi := { dst := some 35, op := Op.move (Operand.tmp 34), type := 4, pos := "l07_store.go:115", after := #[{ on := 16, ground := Ground.data }, { on := 13, ground := Ground.chain }], guard := none }) (v := ?vb18_17) rfl (by kernel_rfl) (by kernel_rfl) (by kernel_rfl) (fun _ _ _ h => h) (Or.inl ⟨by rfl, ?hyb18_17⟩) (by assumption) ?restb18_17
        case hyb18_17 => (intro w hSw; (try dsimp only at hSw); go_simp; try with_reducible rfl)
        try simp only [Act.put, List.setIfInBounds_toArray, List.set_cons_zero, List.set_cons_succ]
        refine wpAnyH_take (i := 18) (oi := { dst := some 36, op := Op.fieldAddr 57 (Operand.tmp 1) 3, type := 0, pos := "l07_store.go:115", after := #[{ on := 17, ground := Ground.guard }], guard := some (17, false) }) (v := undef) rfl (by kernel_rfl) (by kernel_rfl) (by kernel_rfl) (fun _ _ _ h => h) (Or.inr ⟨by rfl, rfl⟩) (by assumption) ?_
        try simp only [Act.put, List.setIfInBounds_toArray, List.set_cons_zero, List.set_cons_succ]
        refine wpAnyH_take (i := 19) (oi := { dst := some 37, op := Op.load 55 (Operand.tmp 36), type := 55, pos := "l07_store.go:115", after := #[{ on := 18, ground := Ground.data }, { on := 17, ground := Ground.guard }], guard := some (17, false) }) (v := undef) rfl (by kernel_rfl) (by kernel_rfl) (by kernel_rfl) (fun _ _ _ h => h) (Or.inr ⟨by rfl, rfl⟩) (by assumption) ?_
        try simp only [Act.put, List.setIfInBounds_toArray, List.set_cons_zero, List.set_cons_succ]
        refine wpAnyH_take (i := 20) (oi := { dst := some 38, op := Op.fieldAddr 77 (Operand.tmp 5) 0, type := 0, pos := "l07_store.go:115", after := #[{ on := 17, ground := Ground.guard }], guard := some (17, false) }) (v := undef) rfl (by kernel_rfl) (by kernel_rfl) (by kernel_rfl) (fun _ _ _ h => h) (Or.inr ⟨by rfl, rfl⟩) (by assumption) ?_
        try simp only [Act.put, List.setIfInBounds_toArray, List.set_cons_zero, List.set_cons_succ]
        refine wpAnyH_take (i := 21) (oi := { dst := some 39, op := Op.load 3 (Operand.tmp 38), type := 3, pos := "l07_store.go:115", after := #[{ on := 20, ground := Ground.data }, { on := 17, ground := Ground.guard }], guard := some (17, false) }) (v := undef) rfl (by kernel_rfl) (by kernel_rfl) (by kernel_rfl) (fun _ _ _ h => h) (Or.inr ⟨by rfl, rfl⟩) (by assumption) ?_
        try simp only [Act.put, List.setIfInBounds_toArray, List.set_cons_zero, List.set_cons_succ]
        refine wpAnyH_take (i := 22) (oi := { dst := some 40, op := Op.call { callee := Callee.value (Operand.func 119), args := #[Operand.tmp 37, Operand.tmp 39], argTypes := #[55, 3] }, type := 4, pos := "l07_store.go:115", after := #[{ on := 19, ground := Ground.data }, { on := 21, ground := Ground.data }, { on := 17, ground := Ground.chain }, { on := 17, ground := Ground.guard }], guard := some (17, false) }) (v := undef) rfl (by kernel_rfl) (by kernel_rfl) (by kernel_rfl) (fun _ _ _ h => h) (Or.inr ⟨by rfl, rfl⟩) (by assumption) ?_
        try simp only [Act.put, List.setIfInBounds_toArray, List.set_cons_zero, List.set_cons_succ]
        refine wpAnyH_take (i := 23) (oi := { dst := some 41, op := Op.pick (Operand.tmp 35) (Operand.const (Value.bool true)) (Operand.tmp 40), type := 4, pos := "l07_store.go:115", after := #[{ on := 17, ground := Ground.data }, { on := 22, ground := Ground.data }], guard := none }) (v := ?vb24_23) rfl (by kernel_rfl) (by kernel_rfl) (by kernel_rfl) (fun _ _ _ h => h) (Or.inl ⟨by rfl, ?hyb24_23⟩) (by assumption) ?restb24_23
        case hyb24_23 => (intro w hSw; (try dsimp only at hSw); go_simp; try with_reducible rfl)
        try simp only [Act.put, List.setIfInBounds_toArray, List.set_cons_zero, List.set_cons_succ]
        refine wpAnyH_take (i := 24) (oi := { dst := some 42, op := Op.move (Operand.tmp 41), type := 4, pos := "l07_store.go:115", after := #[{ on := 23, ground := Ground.data }, { on := 22, ground := Ground.chain }], guard := none }) (v := ?vb25_24) rfl (by kernel_rfl) (by kernel_rfl) (by kernel_rfl) (fun _ _ _ h => h) (Or.inl ⟨by rfl, ?hyb25_24⟩) (by assumption) ?restb25_24
        case hyb25_24 => (intro w hSw; (try dsimp only at hSw); go_simp; try with_reducible rfl)
        try simp only [Act.put, List.setIfInBounds_toArray, List.set_cons_zero, List.set_cons_succ]
        refine wpAnyH_take (i := 25) (oi := { dst := some 43, op := Op.load 77 (Operand.tmp 5), type := 77, pos := "l07_store.go:115", after := #[{ on := 24, ground := Ground.guard }], guard := some (24, false) }) (v := undef) rfl (by kernel_rfl) (by kernel_rfl) (by kernel_rfl) (fun _ _ _ h => h) (Or.inr ⟨by rfl, rfl⟩) (by assumption) ?_
        try simp only [Act.put, List.setIfInBounds_toArray, List.set_cons_zero, List.set_cons_succ]
        refine wpAnyH_take (i := 27) (oi := { dst := some 45, op := Op.fieldAddr 57 (Operand.tmp 1) 1, type := 0, pos := "l07_store.go:115", after := #[{ on := 24, ground := Ground.guard }], guard := some (24, false) }) (v := undef) rfl (by kernel_rfl) (by kernel_rfl) (by kernel_rfl) (fun _ _ _ h => h) (Or.inr ⟨by rfl, rfl⟩) (by assumption) ?_
        try simp only [Act.put, List.setIfInBounds_toArray, List.set_cons_zero, List.set_cons_succ]
        refine wpAnyH_take (i := 28) (oi := { dst := some 46, op := Op.load 3 (Operand.tmp 45), type := 3, pos := "l07_store.go:115", after := #[{ on := 27, ground := Ground.data }, { on := 24, ground := Ground.guard }], guard := some (24, false) }) (v := undef) rfl (by kernel_rfl) (by kernel_rfl) (by kernel_rfl) (fun _ _ _ h => h) (Or.inr ⟨by rfl, rfl⟩) (by assumption) ?_
        try simp only [Act.put, List.setIfInBounds_toArray, List.set_cons_zero, List.set_cons_succ]
        refine wpAnyH_take (i := 26) (oi := { dst := some 44, op := Op.call { callee := Callee.value (Operand.func 179), args := #[Operand.tmp 43], argTypes := #[77] }, type := 3, pos := "l07_store.go:115", after := #[{ on := 25, ground := Ground.data }, { on := 24, ground := Ground.chain }, { on := 24, ground := Ground.guard }], guard := some (24, false) }) (v := undef) rfl (by kernel_rfl) (by kernel_rfl) (by kernel_rfl) (fun _ _ _ h => h) (Or.inr ⟨by rfl, rfl⟩) (by assumption) ?_
        try simp only [Act.put, List.setIfInBounds_toArray, List.set_cons_zero, List.set_cons_succ]
        refine wpAnyH_take (i := 29) (oi := { dst := some 47, op := Op.binOp BinOp.gtr 3 (Operand.tmp 44) (Operand.tmp 46) 3, type := 4, pos := "l07_store.go:115", after := #[{ on := 26, ground := Ground.data }, { on := 28, ground := Ground.data }, { on := 24, ground := Ground.guard }], guard := some (24, false) }) (v := undef) rfl (by kernel_rfl) (by kernel_rfl) (by kernel_rfl) (fun _ _ _ h => h) (Or.inr ⟨by rfl, rfl⟩) (by assumption) ?_
        try simp only [Act.put, List.setIfInBounds_toArray, List.set_cons_zero, List.set_cons_succ]
        refine wpAnyH_take (i := 30) (oi := { dst := some 48, op := Op.pick (Operand.tmp 42) (Operand.const (Value.bool true)) (Operand.tmp 47), type := 4, pos := "l07_store.go:115", after := #[{ on := 24, ground := Ground.data }, { on := 29, ground := Ground.data }], guard := none }) (v := ?vb31_30) rfl (by kernel_rfl) (by kernel_rfl) (by kernel_rfl) (fun _ _ _ h => h) (Or.inl ⟨by rfl, ?hyb31_30⟩) (by assumption) ?restb31_30
        case hyb31_30 => (intro w hSw; (try dsimp only at hSw); go_simp; try with_reducible rfl)
        try simp only [Act.put, List.setIfInBounds_toArray, List.set_cons_zero, List.set_cons_succ]
        refine wpAnyH_done (by kernel_rfl) ?_ _
        refine NoPanic.normal ?_
        have HE : Hid (bkOk tm G S = false) := by show _ = _; rw [bkOk, all_no (S := List.range S.length) (i := i) (by simpa using hil) (by rw [List.getElem_range, HST.out]; rfl), Bool.and_false]
        clear hHeld
        go_wp2
        go_ret
        exact ⟨by rw [HE.out]; rfl, btr HB.out (btr B1.out (by repeat (first | exact bre _ | refine bdr ?_ | refine btr ?_ (by assumption))))⟩
      · refine wpAnyH_take (i := 2) (oi := { dst := some 20, op := Op.unOp UnOp.not 4 (Operand.tmp 19), type := 4, pos := "l07_store.go:115", after := #[{ on := 1, ground := Ground.data }], guard := none }) (v := ?vb32_2) rfl (by kernel_rfl) (by kernel_rfl) (by kernel_rfl) (fun _ _ _ h => h) (Or.inl ⟨by rfl, ?hyb32_2⟩) (by assumption) ?restb32_2
        case hyb32_2 => (intro w hSw; (try dsimp only at hSw); go_simp; try with_reducible rfl)
        try simp only [Act.put, List.setIfInBounds_toArray, List.set_cons_zero, List.set_cons_succ]
        refine wpAnyH_take (i := 3) (oi := { dst := some 21, op := Op.move (Operand.tmp 20), type := 4, pos := "l07_store.go:115", after := #[{ on := 2, ground := Ground.data }, { on := 1, ground := Ground.chain }], guard := none }) (v := ?vb33_3) rfl (by kernel_rfl) (by kernel_rfl) (by kernel_rfl) (fun _ _ _ h => h) (Or.inl ⟨by rfl, ?hyb33_3⟩) (by assumption) ?restb33_3
        case hyb33_3 => (intro w hSw; (try dsimp only at hSw); go_simp; try with_reducible rfl)
        try simp only [Act.put, List.setIfInBounds_toArray, List.set_cons_zero, List.set_cons_succ]
        refine wpAnyH_take (i := 4) (oi := { dst := some 22, op := Op.fieldAddr 77 (Operand.tmp 5) 0, type := 0, pos := "l07_store.go:115", after := #[{ on := 3, ground := Ground.guard }], guard := some (3, false) }) (v := ?vb34_4) rfl (by kernel_rfl) (by kernel_rfl) (by kernel_rfl) (fun _ _ _ h => h) (Or.inl ⟨by rfl, ?hyb34_4⟩) (by assumption) ?restb34_4
        case hyb34_4 => (intro w hSw; (try dsimp only at hSw); go_simp; try with_reducible rfl)
        try simp only [Act.put, List.setIfInBounds_toArray, List.set_cons_zero, List.set_cons_succ]
        refine wpAnyH_take (i := 5) (oi := { dst := some 23, op := Op.load 3 (Operand.tmp 22), type := 3, pos := "l07_store.go:115", after := #[{ on := 4, ground := Ground.data }, { on := 3, ground := Ground.guard }], guard := some (3, false) }) (v := ?vb35_5) rfl (by kernel_rfl) (by kernel_rfl) (by kernel_rfl) (fun _ _ _ h => h) (Or.inl ⟨by rfl, ?hyb35_5⟩) (by assumption) ?restb35_5
        case hyb35_5 => (intro w hSw; (try dsimp only at hSw); go_simp; try with_reducible rfl)
        try simp only [Act.put, List.setIfInBounds_toArray, List.set_cons_zero, List.set_cons_succ]
        refine wpAnyH_take (i := 6) (oi := { dst := some 24, op := Op.move (Operand.tmp 3), type := 3, pos := "l07_store.go:115", after := #[{ on := 3, ground := Ground.guard }], guard := some (3, false) }) (v := ?vb36_6) rfl (by kernel_rfl) (by kernel_rfl) (by kernel_rfl) (fun _ _ _ h => h) (Or.inl ⟨by rfl, ?hyb36_6⟩) (by assumption) ?restb36_6
        case hyb36_6 => (intro w hSw; (try dsimp only at hSw); go_simp; try with_reducible rfl)
        try simp only [Act.put, List.setIfInBounds_toArray, List.set_cons_zero, List.set_cons_succ]
        by_cases hle : q < g1
        · have hle2 : ¬ g1 ≤ q := by omega
          refine wpAnyH_take (i := 7) (oi := { dst := some 25, op := Op.binOp BinOp.leq 3 (Operand.tmp 23) (Operand.tmp 24) 3, type := 4, pos := "l07_store.go:115", after := #[{ on := 5, ground := Ground.data }, { on := 6, ground := Ground.data }, { on := 3, ground := Ground.guard }], guard := some (3, false) }) (v := ?vb37_7) rfl (by kernel_rfl) (by kernel_rfl) (by kernel_rfl) (fun _ _ _ h => h) (Or.inl ⟨by rfl, ?hyb37_7⟩) (by assumption) ?restb37_7
          case hyb37_7 => (intro w hSw; (try dsimp only at hSw); go_simp; try with_reducible rfl)
          try simp only [Act.put, List.setIfInBounds_toArray, List.set_cons_zero, List.set_cons_succ]
          refine wpAnyH_take (i := 8) (oi := { dst := some 26, op := Op.pick (Operand.tmp 21) (Operand.const (Value.bool true)) (Operand.tmp 25), type := 4, pos := "l07_store.go:115", after := #[{ on := 3, ground := Ground.data }, { on := 7, ground := Ground.data }], guard := none }) (v := ?vb38_8) rfl (by kernel_rfl) (by kernel_rfl) (by kernel_rfl) (fun _ _ _ h => h) (Or.inl ⟨by rfl, ?hyb38_8⟩) (by assumption) ?restb38_8
          case hyb38_8 => (intro w hSw; (try dsimp only at hSw); go_simp; try with_reducible rfl)
          try simp only [Act.put, List.setIfInBounds_toArray, List.set_cons_zero, List.set_cons_succ]
          refine wpAnyH_take (i := 9) (oi := { dst := some 27, op := Op.move (Operand.tmp 26), type := 4, pos := "l07_store.go:115", after := #[{ on := 8, ground := Ground.data }, { on := 3, ground := Ground.chain }], guard := none }) (v := ?vb39_9) rfl (by kernel_rfl) (by kernel_rfl) (by kernel_rfl) (fun _ _ _ h => h) (Or.inl ⟨by rfl, ?hyb39_9⟩) (by assumption) ?restb39_9
          case hyb39_9 => (intro w hSw; (try dsimp only at hSw); go_simp; try with_reducible rfl)
          try simp only [Act.put, List.setIfInBounds_toArray, List.set_cons_zero, List.set_cons_succ]
          refine wpAnyH_take (i := 10) (oi := { dst := some 28, op := Op.load 57 (Operand.tmp 1), type := 57, pos := "l07_store.go:115", after := #[{ on := 9, ground := Ground.guard }], guard := some (9, false) }) (v := ?vb40_10) rfl (by kernel_rfl) (by kernel_rfl) (by kernel_rfl) (fun _ _ _ h => h) (Or.inl ⟨by rfl, ?hyb40_10⟩) (by assumption) ?restb40_10
          case hyb40_10 => (intro w hSw; (try dsimp only at hSw); go_simp; try with_reducible rfl)
          try simp only [Act.put, List.setIfInBounds_toArray, List.set_cons_zero, List.set_cons_succ]
          refine wpAnyH_take (i := 11) (oi := { dst := some 29, op := Op.fieldAddr 77 (Operand.tmp 5) 1, type := 0, pos := "l07_store.go:115", after := #[{ on := 9, ground := Ground.guard }], guard := some (9, false) }) (v := ?vb41_11) rfl (by kernel_rfl) (by kernel_rfl) (by kernel_rfl) (fun _ _ _ h => h) (Or.inl ⟨by rfl, ?hyb41_11⟩) (by assumption) ?restb41_11
          case hyb41_11 => (intro w hSw; (try dsimp only at hSw); go_simp; try with_reducible rfl)
          try simp only [Act.put, List.setIfInBounds_toArray, List.set_cons_zero, List.set_cons_succ]
          refine wpAnyH_take (i := 12) (oi := { dst := some 30, op := Op.load 9 (Operand.tmp 29), type := 9, pos := "l07_store.go:115", after := #[{ on := 11, ground := Ground.data }, { on := 9, ground := Ground.guard }], guard := some (9, false) }) (v := ?vb42_12) rfl (by kernel_rfl) (by kernel_rfl) (by kernel_rfl) (fun _ _ _ h => h) (Or.inl ⟨by rfl, ?hyb42_12⟩) (by assumption) ?restb42_12
          case hyb42_12 => (intro w hSw; (try dsimp only at hSw); go_simp; try with_reducible rfl)
          try simp only [Act.put, List.setIfInBounds_toArray, List.set_cons_zero, List.set_cons_succ]
          refine wpAnyH_take (i := 14) (oi := { dst := some 32, op := Op.move (Operand.tmp 4), type := 3, pos := "l07_store.go:115", after := #[{ on := 9, ground := Ground.guard }], guard := some (9, false) }) (v := ?vb43_14) rfl (by kernel_rfl) (by kernel_rfl) (by kernel_rfl) (fun _ _ _ h => h) (Or.inl ⟨by rfl, ?hyb43_14⟩) (by assumption) ?restb43_14
          case hyb43_14 => (intro w hSw; (try dsimp only at hSw); go_simp; try with_reducible rfl)
          try simp only [Act.put, List.setIfInBounds_toArray, List.set_cons_zero, List.set_cons_succ]
          clear hHeld
          refine wpAnyH_ready (rs := [13]) (by kernel_rfl) (by simp) ?_
          refine AllReadyH.cons (o := { dst := some 31, op := Op.call { callee := Callee.value (Operand.func 78), args := #[Operand.tmp 28, Operand.tmp 30], argTypes := #[57, 9] }, type := 3, pos := "l07_store.go:115", after := #[{ on := 10, ground := Ground.data }, { on := 12, ground := Ground.data }, { on := 9, ground := Ground.chain }, { on := 9, ground := Ground.guard }], guard := some (9, false) }) rfl (fun K hK => ?_) AllReadyH.nil
          go_simp
          refine (implBoxNamed_any lo hi y tm (some ⟨k, o, none⟩) bn bc (.slice ga gn gc) S nm1 _ HL.out HN.out (HR.out.later (btr HB.out (btr B1.out (by repeat (first | exact bre _ | refine bdr ?_ | refine btr ?_ (by assumption))))))).mono ?_; rintro e w3 ⟨rfl, hb3⟩
          rw [HZN.out]
          go_wp2_with fail
          refine hK.out _ _ (HS.out _ (by repeat (first | exact bre _ | refine bdr ?_ | refine btr ?_ (by assumption)))) (fun hHeld => ?_)
          clear hK K
          try simp only [Act.put, List.setIfInBounds_toArray, List.set_cons_zero, List.set_cons_succ]
          by_cases hzn : zn = (i : Int)
          · have hzn2 : (zn != (i : Int)) = false := by simp [hzn]
            refine wpAnyH_take (i := 15) (oi := { dst := some 33, op := Op.binOp BinOp.neq 3 (Operand.tmp 31) (Operand.tmp 32) 3, type := 4, pos := "l07_store.go:115", after := #[{ on := 13, ground := Ground.data }, { on := 14, ground := Ground.data }, { on := 9, ground := Ground.guard }], guard := some (9, false) }) (v := ?vb45_15) rfl (by kernel_rfl) (by kernel_rfl) (by kernel_rfl) (fun _ _ _ h => h) (Or.inl ⟨by rfl, ?hyb45_15⟩) (by assumption) ?restb45_15
            case hyb45_15 => (intro w hSw; (try dsimp only at hSw); go_simp; try with_reducible rfl)
            try simp only [Act.put, List.setIfInBounds_toArray, List.set_cons_zero, List.set_cons_succ]
            refine wpAnyH_take (i := 16) (oi := { dst := some 34, op := Op.pick (Operand.tmp 27) (Operand.const (Value.bool true)) (Operand.tmp 33), type := 4, pos := "l07_store.go:115", after := #[{ on := 9, ground := Ground.data }, { on := 15, ground := Ground.data }], guard := none }) (v := ?vb46_16) rfl (by kernel_rfl) (by kernel_rfl) (by kernel_rfl) (fun _ _ _ h => h) (Or.inl ⟨by rfl, ?hyb46_16⟩) (by assumption) ?restb46_16
            case hyb46_16 => (intro w hSw; (try dsimp only at hSw); go_simp; try with_reducible rfl)
            try simp only [Act.put, List.setIfInBounds_toArray, List.set_cons_zero, List.set_cons_succ]
            refine wpAnyH_take (i := 17) (oi := { dst := some 35, op := Op.move (Operand.tmp 34), type := 4, pos := "l07_store.go:115", after := #[{ on := 16, ground := Ground.data }, { on := 13, ground := Ground.chain }], guard := none }) (v := ?vb47_17) rfl (by kernel_rfl) (by kernel_rfl) (by kernel_rfl) (fun _ _ _ h => h) (Or.inl ⟨by rfl, ?hyb47_17⟩) (by assumption) ?restb47_17
            case hyb47_17 => (intro w hSw; (try dsimp only at hSw); go_simp; try with_reducible rfl)
            try simp only [Act.put, List.setIfInBounds_toArray, List.set_cons_zero, List.set_cons_succ]
            refine wpAnyH_take (i := 18) (oi := { dst := some 36, op := Op.fieldAddr 57 (Operand.tmp 1) 3, type := 0, pos := "l07_store.go:115", after := #[{ on := 17, ground := Ground.guard }], guard := some (17, false) }) (v := ?vb48_18) rfl (by kernel_rfl) (by kernel_rfl) (by kernel_rfl) (fun _ _ _ h => h) (Or.inl ⟨by rfl, ?hyb48_18⟩) (by assumption) ?restb48_18
            case hyb48_18 => (intro w hSw; (try dsimp only at hSw); go_simp; try with_reducible rfl)
            try simp only [Act.put, List.setIfInBounds_toArray, List.set_cons_zero, List.set_cons_succ]
            refine wpAnyH_take (i := 19) (oi := { dst := some 37, op := Op.load 55 (Operand.tmp 36), type := 55, pos := "l07_store.go:115", after := #[{ on := 18, ground := Ground.data }, { on := 17, ground := Ground.guard }], guard := some (17, false) }) (v := ?vb49_19) rfl (by kernel_rfl) (by kernel_rfl) (by kernel_rfl) (fun _ _ _ h => h) (Or.inl ⟨by rfl, ?hyb49_19⟩) (by assumption) ?restb49_19
            case hyb49_19 => (intro w hSw; (try dsimp only at hSw); go_simp; try with_reducible rfl)
            try simp only [Act.put, List.setIfInBounds_toArray, List.set_cons_zero, List.set_cons_succ]
            refine wpAnyH_take (i := 20) (oi := { dst := some 38, op := Op.fieldAddr 77 (Operand.tmp 5) 0, type := 0, pos := "l07_store.go:115", after := #[{ on := 17, ground := Ground.guard }], guard := some (17, false) }) (v := ?vb50_20) rfl (by kernel_rfl) (by kernel_rfl) (by kernel_rfl) (fun _ _ _ h => h) (Or.inl ⟨by rfl, ?hyb50_20⟩) (by assumption) ?restb50_20
            case hyb50_20 => (intro w hSw; (try dsimp only at hSw); go_simp; try with_reducible rfl)
            try simp only [Act.put, List.setIfInBounds_toArray, List.set_cons_zero, List.set_cons_succ]
            refine wpAnyH_take (i := 21) (oi := { dst := some 39, op := Op.load 3 (Operand.tmp 38), type := 3, pos := "l07_store.go:115", after := #[{ on := 20, ground := Ground.data }, { on := 17, ground := Ground.guard }], guard := some (17, false) }) (v := ?vb51_21) rfl (by kernel_rfl) (by kernel_rfl) (by kernel_rfl) (fun _ _ _ h => h) (Or.inl ⟨by rfl, ?hyb51_21⟩) (by assumption) ?restb51_21
            case hyb51_21 => (intro w hSw; (try dsimp only at hSw); go_simp; try with_reducible rfl)
            try simp only [Act.put, List.setIfInBounds_toArray, List.set_cons_zero, List.set_cons_succ]
            clear hHeld
            refine wpAnyH_ready (rs := [22]) (by kernel_rfl) (by simp) ?_
            refine AllReadyH.cons (o := { dst := some 40, op := Op.call { callee := Callee.value (Operand.func 119), args := #[Operand.tmp 37, Operand.tmp 39], argTypes := #[55, 3] }, type := 4, pos := "l07_store.go:115", after := #[{ on := 19, ground := Ground.data }, { on := 21, ground := Ground.data }, { on := 17, ground := Ground.chain }, { on := 17, ground := Ground.guard }], guard := some (17, false) }) rfl (fun K hK => ?_) AllReadyH.nil
            go_simp
            refine (contains_any lo' hi' ga gn gc G g1 _ HGL.out HGN.out (HIS.out.later (btr HB.out (btr B1.out (by repeat (first | exact bre _ | refine bdr ?_ | refine btr ?_ (by assumption))))))).mono ?_; rintro e w4 ⟨rfl, h4⟩
            subst h4
            rw [HSI.out]
            go_wp2_with fail
            refine hK.out _ _ (HS.out _ (by repeat (first | exact bre _ | refine bdr ?_ | refine btr ?_ (by assumption)))) (fun hHeld => ?_)
            clear hK K
            try simp only [Act.put, List.setIfInBounds_toArray, List.set_cons_zero, List.set_cons_succ]
            cases si
            · refine wpAnyH_take (i := 23) (oi := { dst := some 41, op := Op.pick (Operand.tmp 35) (Operand.const (Value.bool true)) (Operand.tmp 40), type := 4, pos := "l07_store.go:115", after := #[{ on := 17, ground := Ground.data }, { on := 22, ground := Ground.data }], guard := none }) (v := ?vb53_23) rfl (by kernel_rfl) (by kernel_rfl) (by kernel_rfl) (fun _ _ _ h => h) (Or.inl ⟨by rfl, ?hyb53_23⟩) (by assumption) ?restb53_23
              case hyb53_23 => (intro w hSw; (try dsimp only at hSw); go_simp; try with_reducible rfl)
              try simp only [Act.put, List.setIfInBounds_toArray, List.set_cons_zero, List.set_cons_succ]
              refine wpAnyH_take (i := 24) (oi := { dst := some 42, op := Op.move (Operand.tmp 41), type := 4, pos := "l07_store.go:115", after := #[{ on := 23, ground := Ground.data }, { on := 22, ground := Ground.chain }], guard := none }) (v := ?vb54_24) rfl (by kernel_rfl) (by kernel_rfl) (by kernel_rfl) (fun _ _ _ h => h) (Or.inl ⟨by rfl, ?hyb54_24⟩) (by assumption) ?restb54_24
              case hyb54_24 => (intro w hSw; (try dsimp only at hSw); go_simp; try with_reducible rfl)
              try simp only [Act.put, List.setIfInBounds_toArray, List.set_cons_zero, List.set_cons_succ]
              refine wpAnyH_take (i := 25) (oi := { dst := some 43, op := Op.load 77 (Operand.tmp 5), type := 77, pos := "l07_store.go:115", after := #[{ on := 24, ground := Ground.guard }], guard := some (24, false) }) (v := ?vb55_25) rfl (by kernel_rfl) (by kernel_rfl) (by kernel_rfl) (fun _ _ _ h => h) (Or.inl ⟨by rfl, ?hyb55_25⟩) (by assumption) ?restb55_25
              case hyb55_25 => (intro w hSw; (try dsimp only at hSw); go_simp; try with_reducible rfl)
              try simp only [Act.put, List.setIfInBounds_toArray, List.set_cons_zero, List.set_cons_succ]
              refine wpAnyH_take (i := 27) (oi := { dst := some 45, op := Op.fieldAddr 57 (Operand.tmp 1) 1, type := 0, pos := "l07_store.go:115", after := #[{ on := 24, ground := Ground.guard }], guard := some (24, false) }) (v := ?vb56_27) rfl (by kernel_rfl) (by kernel_rfl) (by kernel_rfl) (fun _ _ _ h => h) (Or.inl ⟨by rfl, ?hyb56_27⟩) (by assumption) ?restb56_27
              case hyb56_27 => (intro w hSw; (try dsimp only at hSw); go_simp; try with_reducible rfl)
              try simp only [Act.put, List.setIfInBounds_toArray, List.set_cons_zero, List.set_cons_succ]
              refine wpAnyH_take (i := 28) (oi := { dst := some 46, op := Op.load 3 (Operand.tmp 45), type := 3, pos := "l07_store.go:115", after := #[{ on := 27, ground := Ground.data }, { on := 24, ground := Ground.guard }], guard := some (24, false) }) (v := ?vb57_28) rfl (by kernel_rfl) (by kernel_rfl) (by kernel_rfl) (fun _ _ _ h => h) (Or.inl ⟨by rfl, ?hyb57_28⟩) (by assumption) ?restb57_28
              case hyb57_28 => (intro w hSw; (try dsimp only at hSw); go_simp; try with_reducible rfl)
              try simp only [Act.put, List.setIfInBounds_toArray, List.set_cons_zero, List.set_cons_succ]
              clear hHeld
              refine wpAnyH_ready (rs := [26]) (by kernel_rfl) (by simp) ?_
              refine AllReadyH.cons (o := { dst := some 44, op := Op.call { callee := Callee.value (Operand.func 179), args := #[Operand.tmp 43], argTypes := #[77] }, type := 3, pos := "l07_store.go:115", after := #[{ on := 25, ground := Ground.data }, { on := 24, ground := Ground.chain }, { on := 24, ground := Ground.guard }], guard := some (24, false) }) rfl (fun K hK => ?_) AllReadyH.nil
              go_simp
              refine (latestTime_any lo hi g1 nm1 t1 b1 nx1 ma1 m1 mc1 (.slice ga1 n1 gc1) L1 _ HM1.out HML.out HSL.out (HMS.out.later (btr HB.out (btr B1.out (by repeat (first | exact bre _ | refine bdr ?_ | refine btr ?_ (by assumption))))))).mono ?_; rintro e w5 ⟨rfl, hb5⟩
              rw [HLT.out]
              go_wp2_with fail
              refine hK.out _ _ (HS.out _ (by repeat (first | exact bre _ | refine bdr ?_ | refine btr ?_ (by assumption)))) (fun hHeld => ?_)
              clear hK K
              try simp only [Act.put, List.setIfInBounds_toArray, List.set_cons_zero, List.set_cons_succ]
              by_cases hlt9 : tm < lt
              · refine wpAnyH_take (i := 29) (oi := { dst := some 47, op := Op.binOp BinOp.gtr 3 (Operand.tmp 44) (Operand.tmp 46) 3, type := 4, pos := "l07_store.go:115", after := #[{ on := 26, ground := Ground.data }, { on := 28, ground := Ground.data }, { on := 24, ground := Ground.guard }], guard := some (24, false) }) (v := ?vb59_29) rfl (by kernel_rfl) (by kernel_rfl) (by kernel_rfl) (fun _ _ _ h => h) (Or.inl ⟨by rfl, ?hyb59_29⟩) (by assumption) ?restb59_29
                case hyb59_29 => (intro w hSw; (try dsimp only at hSw); go_simp; try with_reducible rfl)
                try simp only [Act.put, List.setIfInBounds_toArray, List.set_cons_zero, List.set_cons_succ]
                refine wpAnyH_take (i := 30) (oi := { dst := some 48, op := Op.pick (Operand.tmp 42) (Operand.const (Value.bool true)) (Operand.tmp 47), type := 4, pos := "l07_store.go:115", after := #[{ on := 24, ground := Ground.data }, { on := 29, ground := Ground.data }], guard := none }) (v := ?vb60_30) rfl (by kernel_rfl) (by kernel_rfl) (by kernel_rfl) (fun _ _ _ h => h) (Or.inl ⟨by rfl, ?hyb60_30⟩) (by assumption) ?restb60_30
                case hyb60_30 => (intro w hSw; (try dsimp only at hSw); go_simp; try with_reducible rfl)
                try simp only [Act.put, List.setIfInBounds_toArray, List.set_cons_zero, List.set_cons_succ]
                refine wpAnyH_done (by kernel_rfl) ?_ _
                refine NoPanic.normal ?_
                have htk : tk = false := by have h := HLK.out; simpa [hlt9] using h
                have HE : Hid (bkOk tm G S = false) := by show _ = _; rw [bkOk, all_no (S := List.range S.length) (i := i) (by simpa using hil) (by rw [List.getElem_range, HST.out]; simp [htk]), Bool.and_false]
                clear hHeld
                go_wp2
                go_ret
                exact ⟨by rw [HE.out]; rfl, btr HB.out (btr B1.out (by repeat (first | exact bre _ | refine bdr ?_ | refine btr ?_ (by assumption))))⟩
              · refine wpAnyH_take (i := 29) (oi := { dst := some 47, op := Op.binOp BinOp.gtr 3 (Operand.tmp 44) (Operand.tmp 46) 3, type := 4, pos := "l07_store.go:115", after := #[{ on := 26, ground := Ground.data }, { on := 28, ground := Ground.data }, { on := 24, ground := Ground.guard }], guard := some (24, false) }) (v := ?vb61_29) rfl (by kernel_rfl) (by kernel_rfl) (by kernel_rfl) (fun _ _ _ h => h) (Or.inl ⟨by rfl, ?hyb61_29⟩) (by assumption) ?restb61_29
                case hyb61_29 => (intro w hSw; (try dsimp only at hSw); go_simp; try with_reducible rfl)
                try simp only [Act.put, List.setIfInBounds_toArray, List.set_cons_zero, List.set_cons_succ]
                refine wpAnyH_take (i := 30) (oi := { dst := some 48, op := Op.pick (Operand.tmp 42) (Operand.const (Value.bool true)) (Operand.tmp 47), type := 4, pos := "l07_store.go:115", after := #[{ on := 24, ground := Ground.data }, { on := 29, ground := Ground.data }], guard := none }) (v := ?vb62_30) rfl (by kernel_rfl) (by kernel_rfl) (by kernel_rfl) (fun _ _ _ h => h) (Or.inl ⟨by rfl, ?hyb62_30⟩) (by assumption) ?restb62_30
                case hyb62_30 => (intro w hSw; (try dsimp only at hSw); go_simp; try with_reducible rfl)
                try simp only [Act.put, List.setIfInBounds_toArray, List.set_cons_zero, List.set_cons_succ]
                refine wpAnyH_done (by kernel_rfl) ?_ _
                refine NoPanic.normal ?_
                have htk : tk = true := by have h := HLK.out; simpa [hlt9] using h
                have HE : Hid (∀ j, j < i + 1 → j < S.length → stp7 tm G S j = true) := by
                  intro j hj h
                  by_cases hji : j < i
                  · exact HA.out j hji h
                  · obtain rfl : j = i := by omega
                    rw [HST.out]; simp [hle, hzn, htk]
                have cb := (A1.out.later (show Below W1.heap.size W1 w5 by repeat (first | exact bre _ | refine bdr ?_ | refine btr ?_ (by assumption)))).cells
                have HBV : Hid (Below wq.heap.size wq w5) := by show Below _ _ _; refine btr B1.out ?_; repeat (first | exact bre _ | refine bdr ?_ | refine btr ?_ (by assumption))
                have A7 := hid (A6.out.later HBV.out)
                have B7 := hid (btr HB.out HBV.out)
                clear hHeld htk
                go_wp2
                go_roundw
                case rel => exact ⟨i + 1, g1, by omega, rfl, by go_num, HPG.out.symm, HE, A7.out, B7.out⟩
                case measure => simp [intOf]; omega
            · refine wpAnyH_take (i := 23) (oi := { dst := some 41, op := Op.pick (Operand.tmp 35) (Operand.const (Value.bool true)) (Operand.tmp 40), type := 4, pos := "l07_store.go:115", after := #[{ on := 17, ground := Ground.data }, { on := 22, ground := Ground.data }], guard := none }) (v := ?vb63_23) rfl (by kernel_rfl) (by kernel_rfl) (by kernel_rfl) (fun _ _ _ h => h) (Or.inl ⟨by rfl, ?hyb63_23⟩) (by assumption) ?restb63_23
              case hyb63_23 => (intro w hSw; (try dsimp only at hSw); go_simp; try with_reducible rfl)
              try simp only [Act.put, List.setIfInBounds_toArray, List.set_cons_zero, List.set_cons_succ]
              refine wpAnyH_take (i := 24) (oi := { dst := some 42, op := Op.move (Operand.tmp 41), type := 4, pos := "l07_store.go:115", after := #[{ on := 23, ground := Ground.data }, { on := 22, ground := Ground.chain }], guard := none }) (v := ?vb64_24) rfl (by kernel_rfl) (by kernel_rfl) (by kernel_rfl) (fun _ _ _ h => h) (Or.inl ⟨by rfl, ?hyb64_24⟩) (by assumption) ?restb64_24
              case hyb64_24 => (intro w hSw; (try dsimp only at hSw); go_simp; try with_reducible rfl)
              try simp only [Act.put, List.setIfInBounds_toArray, List.set_cons_zero, List.set_cons_succ]
              refine wpAnyH_take (i := 25) (oi := { dst := some 43, op := Op.load 77 (Operand.tmp 5), type := 77, pos := "l07_store.go:115", after := #[{ on := 24, ground := Ground.guard }], guard := some (24, false) }) (v := undef) rfl (by kernel_rfl) (by kernel_rfl) (by kernel_rfl) (fun _ _ _ h => h) (Or.inr ⟨by rfl, rfl⟩) (by assumption) ?_
              try simp only [Act.put, List.setIfInBounds_toArray, List.set_cons_zero, List.set_cons_succ]
              refine wpAnyH_take (i := 27) (oi := { dst := some 45, op := Op.fieldAddr 57 (Operand.tmp 1) 1, type := 0, pos := "l07_store.go:115", after := #[{ on := 24, ground := Ground.guard }], guard := some (24, false) }) (v := undef) rfl (by kernel_rfl) (by kernel_rfl) (by kernel_rfl) (fun _ _ _ h => h) (Or.inr ⟨by rfl, rfl⟩) (by assumption) ?_
              try simp only [Act.put, List.setIfInBounds_toArray, List.set_cons_zero, List.set_cons_succ]
              refine wpAnyH_take (i := 28) (oi := { dst := some 46, op := Op.load 3 (Operand.tmp 45), type := 3, pos := "l07_store.go:115", after := #[{ on := 27, ground := Ground.data }, { on := 24, ground := Ground.guard }], guard := some (24, false) }) (v := undef) rfl (by kernel_rfl) (by kernel_rfl) (by kernel_rfl) (fun _ _ _ h => h) (Or.inr ⟨by rfl, rfl⟩) (by assumption) ?_
              try simp only [Act.put, List.setIfInBounds_toArray, List.set_cons_zero, List.set_cons_succ]
              refine wpAnyH_take (i := 26) (oi := { dst := some 44, op := Op.call { callee := Callee.value (Operand.func 179), args := #[Operand.tmp 43], argTypes := #[77] }, type := 3, pos := "l07_store.go:115", after := #[{ on := 25, ground := Ground.data }, { on := 24, ground := Ground.chain }, { on := 24, ground := Ground.guard }], guard := some (24, false) }) (v := undef) rfl (by kernel_rfl) (by kernel_rfl) (by kernel_rfl) (fun _ _ _ h => h) (Or.inr ⟨by rfl, rfl⟩) (by assumption) ?_
              try simp only [Act.put, List.setIfInBounds_toArray, List.set_cons_zero, List.set_cons_succ]
              refine wpAnyH_take (i := 29) (oi := { dst := some 47, op := Op.binOp BinOp.gtr 3 (Operand.tmp 44) (Operand.tmp 46) 3, type := 4, pos := "l07_store.go:115", after := #[{ on := 26, ground := Ground.data }, { on := 28, ground := Ground.data }, { on := 24, ground := Ground.guard }], guard := some (24, false) }) (v := undef) rfl (by kernel_rfl) (by kernel_rfl) (by kernel_rfl) (fun _ _ _ h => h) (Or.inr ⟨by rfl, rfl⟩) (by assumption) ?_
              try simp only [Act.put, List.setIfInBounds_toArray, List.set_cons_zero, List.set_cons_succ]
              refine wpAnyH_take (i := 30) (oi := { dst := some 48, op := Op.pick (Operand.tmp 42) (Operand.const (Value.bool true)) (Operand.tmp 47), type := 4, pos := "l07_store.go:115", after := #[{ on := 24, ground := Ground.data }, { on := 29, ground := Ground.data }], guard := none }) (v := ?vb70_30) rfl (by kernel_rfl) (by kernel_rfl) (by kernel_rfl) (fun _ _ _ h => h) (Or.inl ⟨by rfl, ?hyb70_30⟩) (by assumption) ?restb70_30
              case hyb70_30 => (intro w hSw; (try dsimp only at hSw); go_simp; try with_reducible rfl)
              try simp only [Act.put, List.setIfInBounds_toArray, List.set_cons_zero, List.set_cons_succ]
              refine wpAnyH_done (by kernel_rfl) ?_ _
              refine NoPanic.normal ?_
              have HE : Hid (bkOk tm G S = false) := by show _ = _; rw [bkOk, all_no (S := List.range S.length) (i := i) (by simpa using hil) (by rw [List.getElem_range, HST.out]; simp), Bool.and_false]
              clear hHeld
              go_wp2
              go_ret
              exact ⟨by rw [HE.out]; rfl, btr HB.out (btr B1.out (by repeat (first | exact bre _ | refine bdr ?_ | refine btr ?_ (by assumption))))⟩
          · have hzn2 : (zn != (i : Int)) = true := by simp [hzn]
            refine wpAnyH_take (i := 15) (oi := { dst := some 33, op := Op.binOp BinOp.neq 3 (Operand.tmp 31) (Operand.tmp 32) 3, type := 4, pos := "l07_store.go:115", after := #[{ on := 13, ground := Ground.data }, { on := 14, ground := Ground.data }, { on := 9, ground := Ground.guard }], guard := some (9, false) }) (v := ?vb71_15) rfl (by kernel_rfl) (by kernel_rfl) (by kernel_rfl) (fun _ _ _ h => h) (Or.inl ⟨by rfl, ?hyb71_15⟩) (by assumption) ?restb71_15
            case hyb71_15 => (intro w hSw; (try dsimp only at hSw); go_simp; try with_reducible rfl)
            try simp only [Act.put, List.setIfInBounds_toArray, List.set_cons_zero, List.set_cons_succ]
            refine wpAnyH_take (i := 16) (oi := { dst := some 34, op := Op.pick (Operand.tmp 27) (Operand.const (Value.bool true)) (Operand.tmp 33), type := 4, pos := "l07_store.go:115", after := #[{ on := 9, ground := Ground.data }, { on := 15, ground := Ground.data }], guard := none }) (v := ?vb72_16) rfl (by kernel_rfl) (by kernel_rfl) (by kernel_rfl) (fun _ _ _ h => h) (Or.inl ⟨by rfl, ?hyb72_16⟩) (by assumption) ?restb72_16
            case hyb72_16 => (intro w hSw; (try dsimp only at hSw); go_simp; try with_reducible rfl)
            try simp only [Act.put, List.setIfInBounds_toArray, List.set_cons_zero, List.set_cons_succ]
            refine wpAnyH_take (i := 17) (oi := { dst := some 35, op := Op.move (Operand.tmp 34), type := 4, pos := "l07_store.go:115", after := #[{ on := 16, ground := Ground.data }, { on := 13, ground := Ground.chain }], guard := none }) (v := ?vb73_17) rfl (by kernel_rfl) (by kernel_rfl) (by kernel_rfl) (fun _ _ _ h => h) (Or.inl ⟨by rfl, ?hyb73_17⟩) (by assumption) ?restb73_17
            case hyb73_17 => (intro w hSw; (try dsimp only at hSw); go_simp; try with_reducible rfl)
            try simp only [Act.put, List.setIfInBounds_toArray, List.set_cons_zero, List.set_cons_succ]
            refine wpAnyH_take (i := 18) (oi := { dst := some 36, op := Op.fieldAddr 57 (Operand.tmp 1) 3, type := 0, pos := "l07_store.go:115", after := #[{ on := 17, ground := Ground.guard }], guard := some (17, false) }) (v := undef) rfl (by kernel_rfl) (by kernel_rfl) (by kernel_rfl) (fun _ _ _ h => h) (Or.inr ⟨by rfl, rfl⟩) (by assumption) ?_
            try simp only [Act.put, List.setIfInBounds_toArray, List.set_cons_zero, List.set_cons_succ]
            refine wpAnyH_take (i := 19) (oi := { dst := some 37, op := Op.load 55 (Operand.tmp 36), type := 55, pos := "l07_store.go:115", after := #[{ on := 18, ground := Ground.data }, { on := 17, ground := Ground.guard }], guard := some (17, false) }) (v := undef) rfl (by kernel_rfl) (by kernel_rfl) (by kernel_rfl) (fun _ _ _ h => h) (Or.inr ⟨by rfl, rfl⟩) (by assumption) ?_
            try simp only [Act.put, List.setIfInBounds_toArray, List.set_cons_zero, List.set_cons_succ]
            refine wpAnyH_take (i := 20) (oi := { dst := some 38, op := Op.fieldAddr 77 (Operand.tmp 5) 0, type := 0, pos := "l07_store.go:115", after := #[{ on := 17, ground := Ground.guard }], guard := some (17, false) }) (v := undef) rfl (by kernel_rfl) (by kernel_rfl) (by kernel_rfl) (fun _ _ _ h => h) (Or.inr ⟨by rfl, rfl⟩) (by assumption) ?_
            try simp only [Act.put, List.setIfInBounds_toArray, List.set_cons_zero, List.set_cons_succ]
            refine wpAnyH_take (i := 21) (oi := { dst := some 39, op := Op.load 3 (Operand.tmp 38), type := 3, pos := "l07_store.go:115", after := #[{ on := 20, ground := Ground.data }, { on := 17, ground := Ground.guard }], guard := some (17, false) }) (v := undef) rfl (by kernel_rfl) (by kernel_rfl) (by kernel_rfl) (fun _ _ _ h => h) (Or.inr ⟨by rfl, rfl⟩) (by assumption) ?_
            try simp only [Act.put, List.setIfInBounds_toArray, List.set_cons_zero, List.set_cons_succ]
            refine wpAnyH_take (i := 22) (oi := { dst := some 40, op := Op.call { callee := Callee.value (Operand.func 119), args := #[Operand.tmp 37, Operand.tmp 39], argTypes := #[55, 3] }, type := 4, pos := "l07_store.go:115", after := #[{ on := 19, ground := Ground.data }, { on := 21, ground := Ground.data }, { on := 17, ground := Ground.chain }, { on := 17, ground := Ground.guard }], guard := some (17, false) }) (v := undef) rfl (by kernel_rfl) (by kernel_rfl) (by kernel_rfl) (fun _ _ _ h => h) (Or.inr ⟨by rfl, rfl⟩) (by assumption) ?_
            try simp only [Act.put, List.setIfInBounds_toArray, List.set_cons_zero, List.set_cons_succ]
            refine wpAnyH_take (i := 23) (oi := { dst := some 41, op := Op.pick (Operand.tmp 35) (Operand.const (Value.bool true)) (Operand.tmp 40), type := 4, pos := "l07_store.go:115", after := #[{ on := 17, ground := Ground.data }, { on := 22, ground := Ground.data }], guard := none }) (v := ?vb79_23) rfl (by kernel_rfl) (by kernel_rfl) (by kernel_rfl) (fun _ _ _ h => h) (Or.inl ⟨by rfl, ?hyb79_23⟩) (by assumption) ?restb79_23
            case hyb79_23 => (intro w hSw; (try dsimp only at hSw); go_simp; try with_reducible rfl)
            try simp only [Act.put, List.setIfInBounds_toArray, List.set_cons_zero, List.set_cons_succ]
            refine wpAnyH_take (i := 24) (oi := { dst := some 42, op := Op.move (Operand.tmp 41), type := 4, pos := "l07_store.go:115", after := #[{ on := 23, ground := Ground.data }, { on := 22, ground := Ground.chain }], guard := none }) (v := ?vb80_24) rfl (by kernel_rfl) (by kernel_rfl) (by kernel_rfl) (fun _ _ _ h => h) (Or.inl ⟨by rfl, ?hyb80_24⟩) (by assumption) ?restb80_24
            case hyb80_24 => (intro w hSw; (try dsimp only at hSw); go_simp; try with_reducible rfl)
            try simp only [Act.put, List.setIfInBounds_toArray, List.set_cons_zero, List.set_cons_succ]
            refine wpAnyH_take (i := 25) (oi := { dst := some 43, op := Op.load 77 (Operand.tmp 5), type := 77, pos := "l07_store.go:115", after := #[{ on := 24, ground := Ground.guard }], guard := some (24, false) }) (v := undef) rfl (by kernel_rfl) (by kernel_rfl) (by kernel_rfl) (fun _ _ _ h => h) (Or.inr ⟨by rfl, rfl⟩) (by assumption) ?_
            try simp only [Act.put, List.setIfInBounds_toArray, List.set_cons_zero, List.set_cons_succ]
            refine wpAnyH_take (i := 27) (oi := { dst := some 45, op := Op.fieldAddr 57 (Operand.tmp 1) 1, type := 0, pos := "l07_store.go:115", after := #[{ on := 24, ground := Ground.guard }], guard := some (24, false) }) (v := undef) rfl (by kernel_rfl) (by kernel_rfl) (by kernel_rfl) (fun _ _ _ h => h) (Or.inr ⟨by rfl, rfl⟩) (by assumption) ?_
            try simp only [Act.put, List.setIfInBounds_toArray, List.set_cons_zero, List.set_cons_succ]
            refine wpAnyH_take (i := 28) (oi := { dst := some 46, op := Op.load 3 (Operand.tmp 45), type := 3, pos := "l07_store.go:115", after := #[{ on := 27, ground := Ground.data }, { on := 24, ground := Ground.guard }], guard := some (24, false) }) (v := undef) rfl (by kernel_rfl) (by kernel_rfl) (by kernel_rfl) (fun _ _ _ h => h) (Or.inr ⟨by rfl, rfl⟩) (by assumption) ?_
            try simp only [Act.put, List.setIfInBounds_toArray, List.set_cons_zero, List.set_cons_succ]
            refine wpAnyH_take (i := 26) (oi := { dst := some 44, op := Op.call { callee := Callee.value (Operand.func 179), args := #[Operand.tmp 43], argTypes := #[77] }, type := 3, pos := "l07_store.go:115", after := #[{ on := 25, ground := Ground.data }, { on := 24, ground := Ground.chain }, { on := 24, ground := Ground.guard }], guard := some (24, false) }) (v := undef) rfl (by kernel_rfl) (by kernel_rfl) (by kernel_rfl) (fun _ _ _ h => h) (Or.inr ⟨by rfl, rfl⟩) (by assumption) ?_
            try simp only [Act.put, List.setIfInBounds_toArray, List.set_cons_zero, List.set_cons_succ]
            refine wpAnyH_take (i := 29) (oi := { dst := some 47, op := Op.binOp BinOp.gtr 3 (Operand.tmp 44) (Operand.tmp 46) 3, type := 4, pos := "l07_store.go:115", after := #[{ on := 26, ground := Ground.data }, { on := 28, ground := Ground.data }, { on := 24, ground := Ground.guard }], guard := some (24, false) }) (v := undef) rfl (by kernel_rfl) (by kernel_rfl) (by kernel_rfl) (fun _ _ _ h => h) (Or.inr ⟨by rfl, rfl⟩) (by assumption) ?_
            try simp only [Act.put, List.setIfInBounds_toArray, List.set_cons_zero, List.set_cons_succ]
            refine wpAnyH_take (i := 30) (oi := { dst := some 48, op := Op.pick (Operand.tmp 42) (Operand.const (Value.bool true)) (Operand.tmp 47), type := 4, pos := "l07_store.go:115", after := #[{ on := 24, ground := Ground.data }, { on := 29, ground := Ground.data }], guard := none }) (v := ?vb86_30) rfl (by kernel_rfl) (by kernel_rfl) (by kernel_rfl) (fun _ _ _ h => h) (Or.inl ⟨by rfl, ?hyb86_30⟩) (by assumption) ?restb86_30
            case hyb86_30 => (intro w hSw; (try dsimp only at hSw); go_simp; try with_reducible rfl)
            try simp only [Act.put, List.setIfInBounds_toArray, List.set_cons_zero, List.set_cons_succ]
            refine wpAnyH_done (by kernel_rfl) ?_ _
            refine NoPanic.normal ?_
            have HE : Hid (bkOk tm G S = false) := by show _ = _; rw [bkOk, all_no (S := List.range S.length) (i := i) (by simpa using hil) (by rw [List.getElem_range, HST.out]; simp [hzn]), Bool.and_false]
            clear hHeld
            go_wp2
            go_ret
            exact ⟨by rw [HE.out]; rfl, btr HB.out (btr B1.out (by repeat (first | exact bre _ | refine bdr ?_ | refine btr ?_ (by assumption))))⟩
        · have hle2 : g1 ≤ q := by omega
          refine wpAnyH_take (i := 7) (oi := { dst := some 25, op := Op.binOp BinOp.leq 3 (Operand.tmp 23) (Operand.tmp 24) 3, type := 4, pos := "l07_store.go:115", after := #[{ on := 5, ground := Ground.data }, { on := 6, ground := Ground.data }, { on := 3, ground := Ground.guard }], guard := some (3, false) }) (v := ?vb87_7) rfl (by kernel_rfl) (by kernel_rfl) (by kernel_rfl) (fun _ _ _ h => h) (Or.inl ⟨by rfl, ?hyb87_7⟩) (by assumption) ?restb87_7
          case hyb87_7 => (intro w hSw; (try dsimp only at hSw); go_simp; try with_reducible rfl)
          try simp only [Act.put, List.setIfInBounds_toArray, List.set_cons_zero, List.set_cons_succ]
          refine wpAnyH_take (i := 8) (oi := { dst := some 26, op := Op.pick (Operand.tmp 21) (Operand.const (Value.bool true)) (Operand.tmp 25), type := 4, pos := "l07_store.go:115", after := #[{ on := 3, ground := Ground.data }, { on := 7, ground := Ground.data }], guard := none }) (v := ?vb88_8) rfl (by kernel_rfl) (by kernel_rfl) (by kernel_rfl) (fun _ _ _ h => h) (Or.inl ⟨by rfl, ?hyb88_8⟩) (by assumption) ?restb88_8
          case hyb88_8 => (intro w hSw; (try dsimp only at hSw); go_simp; try with_reducible rfl)
          try simp only [Act.put, List.setIfInBounds_toArray, List.set_cons_zero, List.set_cons_succ]
          refine wpAnyH_take (i := 9) (oi := { dst := some 27, op := Op.move (Operand.tmp 26), type := 4, pos := "l07_store.go:115", after := #[{ on := 8, ground := Ground.data }, { on := 3, ground := Ground.chain }], guard := none }) (v := ?vb89_9) rfl (by kernel_rfl) (by kernel_rfl) (by kernel_rfl) (fun _ _ _ h => h) (Or.inl ⟨by rfl, ?hyb89_9⟩) (by assumption) ?restb89_9
          case hyb89_9 => (intro w hSw; (try dsimp only at hSw); go_simp; try with_reducible rfl)
          try simp only [Act.put, List.setIfInBounds_toArray, List.set_cons_zero, List.set_cons_succ]
          refine wpAnyH_take (i := 10) (oi := { dst := some 28, op := Op.load 57 (Operand.tmp 1), type := 57, pos := "l07_store.go:115", after := #[{ on := 9, ground := Ground.guard }], guard := some (9, false) }) (v := undef) rfl (by kernel_rfl) (by kernel_rfl) (by kernel_rfl) (fun _ _ _ h => h) (Or.inr ⟨by rfl, rfl⟩) (by assumption) ?_
          try simp only [Act.put, List.setIfInBounds_toArray, List.set_cons_zero, List.set_cons_succ]
          refine wpAnyH_take (i := 11) (oi := { dst := some 29, op := Op.fieldAddr 77 (Operand.tmp 5) 1, type := 0, pos := "l07_store.go:115", after := #[{ on := 9, ground := Ground.guard }], guard := some (9, false) }) (v := undef) rfl (by kernel_rfl) (by kernel_rfl) (by kernel_rfl) (fun _ _ _ h => h) (Or.inr ⟨by rfl, rfl⟩) (by assumption) ?_
          try simp only [Act.put, List.setIfInBounds_toArray, List.set_cons_zero, List.set_cons_succ]
          refine wpAnyH_take (i := 12) (oi := { dst := some 30, op := Op.load 9 (Operand.tmp 29), type := 9, pos := "l07_store.go:115", after := #[{ on := 11, ground := Ground.data }, { on := 9, ground := Ground.guard }], guard := some (9, false) }) (v := undef) rfl (by kernel_rfl) (by kernel_rfl) (by kernel_rfl) (fun _ _ _ h => h) (Or.inr ⟨by rfl, rfl⟩) (by assumption) ?_
          try simp only [Act.put, List.setIfInBounds_toArray, List.set_cons_zero, List.set_cons_succ]
          refine wpAnyH_take (i := 14) (oi := { dst := some 32, op := Op.move (Operand.tmp 4), type := 3, pos := "l07_store.go:115", after := #[{ on := 9, ground := Ground.guard }], guard := some (9, false) }) (v := undef) rfl (by kernel_rfl) (by kernel_rfl) (by kernel_rfl) (fun _ _ _ h => h) (Or.inr ⟨by rfl, rfl⟩) (by assumption) ?_
          try simp only [Act.put, List.setIfInBounds_toArray, List.set_cons_zero, List.set_cons_succ]
          refine wpAnyH_take (i := 13) (oi := { dst := some 31, op := Op.call { callee := Callee.value (Operand.func 78), args := #[Operand.tmp 28, Operand.tmp 30], argTypes := #[57, 9] }, type := 3, pos := "l07_store.go:115", after := #[{ on := 10, ground := Ground.data }, { on := 12, ground := Ground.data }, { on := 9, ground := Ground.chain }, { on := 9, ground := Ground.guard }], guard := some (9, false) }) (v := undef) rfl (by kernel_rfl) (by kernel_rfl) (by kernel_rfl) (fun _ _ _ h => h) (Or.inr ⟨by rfl, rfl⟩) (by assumption) ?_
          try simp only [Act.put, List.setIfInBounds_toArray, List.set_cons_zero, List.set_cons_succ]
          refine wpAnyH_take (i := 15) (oi := { dst := some 33, op := Op.binOp BinOp.neq 3 (Operand.tmp 31) (Operand.tmp 32) 3, type := 4, pos := "l07_store.go:115", after := #[{ on := 13, ground := Ground.data }, { on := 14, ground := Ground.data }, { on := 9, ground := Ground.guard }], guard := some (9, false) }) (v := undef) rfl (by kernel_rfl) (by kernel_rfl) (by kernel_rfl) (fun _ _ _ h => h) (Or.inr ⟨by rfl, rfl⟩) (by assumption) ?_
          try simp only [Act.put, List.setIfInBounds_toArray, List.set_cons_zero, List.set_cons_succ]
          refine wpAnyH_take (i := 16) (oi := { dst := some 34, op := Op.pick (Operand.tmp 27) (Operand.const (Value.bool true)) (Operand.tmp 33), type := 4, pos := "l07_store.go:115", after := #[{ on := 9, ground := Ground.data }, { on := 15, ground := Ground.data }], guard := none }) (v := ?vb96_16) rfl (by kernel_rfl) (by kernel_rfl) (by kernel_rfl) (fun _ _ _ h => h) (Or.inl ⟨by rfl, ?hyb96_16⟩) (by assumption) ?restb96_16
          case hyb96_16 => (intro w hSw; (try dsimp only at hSw); go_simp; try with_reducible rfl)
          try simp only [Act.put, List.setIfInBounds_toArray, List.set_cons_zero, List.set_cons_succ]
          refine wpAnyH_take (i := 17) (oi := { dst := some 35, op := Op.move (Operand.tmp 34), type := 4, pos := "l07_store.go:115", after := #[{ on := 16, ground := Ground.data }, { on := 13, ground := Ground.chain }], guard := none }) (v := ?vb97_17) rfl (by kernel_rfl) (by kernel_rfl) (by kernel_rfl) (fun _ _ _ h => h) (Or.inl ⟨by rfl, ?hyb97_17⟩) (by assumption) ?restb97_17
          case hyb97_17 => (intro w hSw; (try dsimp only at hSw); go_simp; try with_reducible rfl)
          try simp only [Act.put, List.setIfInBounds_toArray, List.set_cons_zero, List.set_cons_succ]
          refine wpAnyH_take (i := 18) (oi := { dst := some 36, op := Op.fieldAddr 57 (Operand.tmp 1) 3, type := 0, pos := "l07_store.go:115", after := #[{ on := 17, ground := Ground.guard }], guard := some (17, false) }) (v := undef) rfl (by kernel_rfl) (by kernel_rfl) (by kernel_rfl) (fun _ _ _ h => h) (Or.inr ⟨by rfl, rfl⟩) (by assumption) ?_
          try simp only [Act.put, List.setIfInBounds_toArray, List.set_cons_zero, List.set_cons_succ]
          refine wpAnyH_take (i := 19) (oi := { dst := some 37, op := Op.load 55 (Operand.tmp 36), type := 55, pos := "l07_store.go:115", after := #[{ on := 18, ground := Ground.data }, { on := 17, ground := Ground.guard }], guard := some (17, false) }) (v := undef) rfl (by kernel_rfl) (by kernel_rfl) (by kernel_rfl) (fun _ _ _ h => h) (Or.inr ⟨by rfl, rfl⟩) (by assumption) ?_
          try simp only [Act.put, List.setIfInBounds_toArray, List.set_cons_zero, List.set_cons_succ]
          refine wpAnyH_take (i := 20) (oi := { dst := some 38, op := Op.fieldAddr 77 (Operand.tmp 5) 0, type := 0, pos := "l07_store.go:115", after := #[{ on := 17, ground := Ground.guard }], guard := some (17, false) }) (v := undef) rfl (by kernel_rfl) (by kernel_rfl) (by kernel_rfl) (fun _ _ _ h => h) (Or.inr ⟨by rfl, rfl⟩) (by assumption) ?_
          try simp only [Act.put, List.setIfInBounds_toArray, List.set_cons_zero, List.set_cons_succ]
          refine wpAnyH_take (i := 21) (oi := { dst := some 39, op := Op.load 3 (Operand.tmp 38), type := 3, pos := "l07_store.go:115", after := #[{ on := 20, ground := Ground.data }, { on := 17, ground := Ground.guard }], guard := some (17, false) }) (v := undef) rfl (by kernel_rfl) (by kernel_rfl) (by kernel_rfl) (fun _ _ _ h => h) (Or.inr ⟨by rfl, rfl⟩) (by assumption) ?_
          try simp only [Act.put, List.setIfInBounds_toArray, List.set_cons_zero, List.set_cons_succ]
          refine wpAnyH_take (i := 22) (oi := { dst := some 40, op := Op.call { callee := Callee.value (Operand.func 119), args := #[Operand.tmp 37, Operand.tmp 39], argTypes := #[55, 3] }, type := 4, pos := "l07_store.go:115", after := #[{ on := 19, ground := Ground.data }, { on := 21, ground := Ground.data }, { on := 17, ground := Ground.chain }, { on := 17, ground := Ground.guard }], guard := some (17, false) }) (v := undef) rfl (by kernel_rfl) (by kernel_rfl) (by kernel_rfl) (fun _ _ _ h => h) (Or.inr ⟨by rfl, rfl⟩) (by assumption) ?_
          try simp only [Act.put, List.setIfInBounds_toArray, List.set_cons_zero, List.set_cons_succ]
          refine wpAnyH_take (i := 23) (oi := { dst := some 41, op := Op.pick (Operand.tmp 35) (Operand.const (Value.bool true)) (Operand.tmp 40), type := 4, pos := "l07_store.go:115", after := #[{ on := 17, ground := Ground.data }, { on := 22, ground := Ground.data }], guard := none }) (v := ?vb103_23) rfl (by kernel_rfl) (by kernel_rfl) (by kernel_rfl) (fun _ _ _ h => h) (Or.inl ⟨by rfl, ?hyb103_23⟩) (by assumption) ?restb103_23
          case hyb103_23 => (intro w hSw; (try dsimp only at hSw); go_simp; try with_reducible rfl)
          try simp only [Act.put, List.setIfInBounds_toArray, List.set_cons_zero, List.set_cons_succ]
          refine wpAnyH_take (i := 24) (oi := { dst := some 42, op := Op.move (Operand.tmp 41), type := 4, pos := "l07_store.go:115", after := #[{ on := 23, ground := Ground.data }, { on := 22, ground := Ground.chain }], guard := none }) (v := ?vb104_24) rfl (by kernel_rfl) (by kernel_rfl) (by kernel_rfl) (fun _ _ _ h => h) (Or.inl ⟨by rfl, ?hyb104_24⟩) (by assumption) ?restb104_24
          case hyb104_24 => (intro w hSw; (try dsimp only at hSw); go_simp; try with_reducible rfl)
          try simp only [Act.put, List.setIfInBounds_toArray, List.set_cons_zero, List.set_cons_succ]
          refine wpAnyH_take (i := 25) (oi := { dst := some 43, op := Op.load 77 (Operand.tmp 5), type := 77, pos := "l07_store.go:115", after := #[{ on := 24, ground := Ground.guard }], guard := some (24, false) }) (v := undef) rfl (by kernel_rfl) (by kernel_rfl) (by kernel_rfl) (fun _ _ _ h => h) (Or.inr ⟨by rfl, rfl⟩) (by assumption) ?_
          try simp only [Act.put, List.setIfInBounds_toArray, List.set_cons_zero, List.set_cons_succ]
          refine wpAnyH_take (i := 27) (oi := { dst := some 45, op := Op.fieldAddr 57 (Operand.tmp 1) 1, type := 0, pos := "l07_store.go:115", after := #[{ on := 24, ground := Ground.guard }], guard := some (24, false) }) (v := undef) rfl (by kernel_rfl) (by kernel_rfl) (by kernel_rfl) (fun _ _ _ h => h) (Or.inr ⟨by rfl, rfl⟩) (by assumption) ?_
          try simp only [Act.put, List.setIfInBounds_toArray, List.set_cons_zero, List.set_cons_succ]
          refine wpAnyH_take (i := 28) (oi := { dst := some 46, op := Op.load 3 (Operand.tmp 45), type := 3, pos := "l07_store.go:115", after := #[{ on := 27, ground := Ground.data }, { on := 24, ground := Ground.guard }], guard := some (24, false) }) (v := undef) rfl (by kernel_rfl) (by kernel_rfl) (by kernel_rfl) (fun _ _ _ h => h) (Or.inr ⟨by rfl, rfl⟩) (by assumption) ?_
          try simp only [Act.put, List.setIfInBounds_toArray, List.set_cons_zero, List.set_cons_succ]
          refine wpAnyH_take (i := 26) (oi := { dst := some 44, op := Op.call { callee := Callee.value (Operand.func 179), args := #[Operand.tmp 43], argTypes := #[77] }, type := 3, pos := "l07_store.go:115", after := #[{ on := 25, ground := Ground.data }, { on := 24, ground := Ground.chain }, { on := 24, ground := Ground.guard }], guard := some (24, false) }) (v := undef) rfl (by kernel_rfl) (by kernel_rfl) (by kernel_rfl) (fun _ _ _ h => h) (Or.inr ⟨by rfl, rfl⟩) (by assumption) ?_
          try simp only [Act.put, List.setIfInBounds_toArray, List.set_cons_zero, List.set_cons_succ]
          refine wpAnyH_take (i := 29) (oi := { dst := some 47, op := Op.binOp BinOp.gtr 3 (Operand.tmp 44) (Operand.tmp 46) 3, type := 4, pos := "l07_store.go:115", after := #[{ on := 26, ground := Ground.data }, { on := 28, ground := Ground.data }, { on := 24, ground := Ground.guard }], guard := some (24, false) }) (v := undef) rfl (by kernel_rfl) (by kernel_rfl) (by kernel_rfl) (fun _ _ _ h => h) (Or.inr ⟨by rfl, rfl⟩) (by assumption) ?_
          try simp only [Act.put, List.setIfInBounds_toArray, List.set_cons_zero, List.set_cons_succ]
          refine wpAnyH_take (i := 30) (oi := { dst := some 48, op := Op.pick (Operand.tmp 42) (Operand.const (Value.bool true)) (Operand.tmp 47), type := 4, pos := "l07_store.go:115", after := #[{ on := 24, ground := Ground.data }, { on := 29, ground := Ground.data }], guard := none }) (v := ?vb110_30) rfl (by kernel_rfl) (by kernel_rfl) (by kernel_rfl) (fun _ _ _ h => h) (Or.inl ⟨by rfl, ?hyb110_30⟩) (by assumption) ?restb110_30
          case hyb110_30 => (intro w hSw; (try dsimp only at hSw); go_simp; try with_reducible rfl)
          try simp only [Act.put, List.setIfInBounds_toArray, List.set_cons_zero, List.set_cons_succ]
          refine wpAnyH_done (by kernel_rfl) ?_ _
          refine NoPanic.normal ?_
          have HE : Hid (bkOk tm G S = false) := by show _ = _; rw [bkOk, all_no (S := List.range S.length) (i := i) (by simpa using hil) (by rw [List.getElem_range, HST.out]; simp [hle]), Bool.and_false]
          clear hHeld
          go_wp2
          go_ret
          exact ⟨by rw [HE.out]; rfl, btr HB.out (btr B1.out (by repeat (first | exact bre _ | refine bdr ?_ | refine btr ?_ (by assumption))))⟩

    · have HE : Hid (bkOk tm G S = true) := by
        show _ = _
        have e := HL.out
        rw [bkOk, List.all_eq_true.2 (fun j hj => HA.out j (by have := List.mem_range.1 hj; omega) (List.mem_range.1 hj)), HL.out]
        simp [HFIVE.out]
      go_wp2
      go_ret
      exact ⟨by rw [HE.out]; rfl, HB.out⟩
end Go.Proofs.YtlhofbnnonljaaaGreatDoor
