/- The law of FlagMail. -/
import Derived.Test.YtfmacodnjhegcamGreatFlagT
import Derived.Test.YtfmacodnjhegcamGreatLawAt
namespace Go.Proofs.YtfmacodnjhegcamGreat
open Go.RowKit Go.ChangeMaps

set_option maxHeartbeats 8000000 in
set_option maxRecDepth 100000 in
theorem lawFlag_any (lo hi lo' hi' : Nat) (g : Int) (nm : ByteArray) (t b nx : Int) (ma : Option Addr) (mn mc : Nat) (ga : Option Addr) (gn gc : Nat) (L : List M4) (G : List Int) (gid n : Int) (st sb : Int) (w : World) (hnm : (nm.size : Int) ≤ 9223372036854775807) (hl : L.length = mn) (hn : (mn : Int) ≤ 9223372036854775807) (hft : Fit L) (hm : Ms lo hi w ma L) (hgl : G.length = gn) (hgn : (gn : Int) ≤ 9223372036854775807) (hs : Is lo' hi' w ga G) :
    Calls Tryz.prog 3 #[.agg #[.int .i64 g, .string nm, .int .i64 t, .int .i64 b, .int .i64 nx, .slice ma mn mc, .slice ga gn gc], .int .i64 gid, .int .i64 n, .agg #[.int .i64 st, .int .i64 sb]] w fun e w' => e = .returned (.bool true) ∧ Below w.heap.size w w' := by
  obtain ⟨W0, hW0⟩ : ∃ W0, (w.alloc (.cells #[.int .i64 g, .string nm, .int .i64 t, .int .i64 b, .int .i64 nx, .slice ma mn mc, .slice ga gn gc] 27)).alloc (.cells #[.int .i64 st, .int .i64 sb] 23) = W0 := ⟨_, rfl⟩
  obtain ⟨a0, a1, b0⟩ := box_st2 w g nm t b nx (.slice ma mn mc) (.slice ga gn gc) st sb W0 hW0
  have c0 := a0.cells
  have A0 := hid a0
  have A1 := hid a1
  have B0 := hid b0
  have HM := hid hm
  have HS' := hid hs
  have HF := hid hft
  have HL := hid hl
  have HGL := hid hgl
  have HN := hid hn
  have HGN := hid hgn
  have HNM := hid hnm
  clear a0 a1 b0 hm hs hft hl hgl hn hgn hnm
  go_enter Tryz.func3, Tryz.ntmps3
  go_wp2_with fail
  clear hW0
  refine (szBox_any lo hi g nm t b nx ma mn mc ga gn gc L _ HNM.out HL.out HN.out HF.out (HM.out.later B0.out) HGN.out).mono ?_; rintro e w1 ⟨rfl, hb1⟩
  have A0 := hid (A0.out.later hb1)
  have A1 := hid (A1.out.later hb1)
  have B1 := hid (btr B0.out hb1)
  clear hb1 B0 c0
  by_cases hbig : (1048576 : Int) < ((nm.size + szL L + gn : Nat) : Int)
  · rw [szr_over hbig]
    clear hbig
    go_wp2
    go_ret
    exact ⟨rfl, B1.out⟩
  obtain ⟨s1, s2, s3, s4⟩ := small hbig
  have hfz : fz L ≤ 1048576 := by have := fz_le L; omega
  obtain ⟨q, hq⟩ : ∃ q, szr 1048576 (nm.size + szL L + gn) = q := ⟨_, rfl⟩
  have h0 : ¬ q < 0 := by rw [← hq, szr_fits hbig]; omega
  rw [hq]
  obtain ⟨p, ny, K, H, N, M, ⟨k1, k2, k3, k4⟩, ⟨k5, k6⟩, CSP, CIM⟩ := flag_pair g nm t b nx mn gn L G gid n st sb s1 HL.out (by rw [← HL.out]; exact s2) s4 hfz HGL.out s3
  have S2 : Hid (mn ≤ 1048576) := by show _ ≤ _; rw [← HL.out]; exact s2
  have S3 := hid s3
  have S4 := hid s4
  have SF := hid hfz
  have K1 := hid k1
  have K2 := hid k2
  have K3 := hid k3
  have K4 := hid k4
  have K5 := hid k5
  have K6 := hid k6
  clear hq hbig s1 s2 s3 s4 hfz k1 k2 k3 k4 k5 k6
  have xx : (p != p) = false := by cases p <;> rfl
  have HSw1 : Hid (∀ W, Below w1.heap.size w1 W → (W.cell? ⟨w.heap.size, 0, none⟩ = some (.int .i64 g) ∧ W.cell? ⟨w.heap.size, 1, none⟩ = some (.string nm) ∧ W.cell? ⟨w.heap.size, 2, none⟩ = some (.int .i64 t) ∧ W.cell? ⟨w.heap.size, 3, none⟩ = some (.int .i64 b) ∧ W.cell? ⟨w.heap.size, 4, none⟩ = some (.int .i64 nx) ∧ W.cell? ⟨w.heap.size, 5, none⟩ = some (.slice ma mn mc) ∧ W.cell? ⟨w.heap.size, 6, none⟩ = some (.slice ga gn gc)) ∧ (W.cell? ⟨w.heap.size + 1, 0, none⟩ = some (.int .i64 st) ∧ W.cell? ⟨w.heap.size + 1, 1, none⟩ = some (.int .i64 sb))) :=
    fun W h => ⟨(A0.out.later h).cells, (A1.out.later h).cells⟩
  have HMw1 := hid (HM.out.later B1.out)
  have HIw1 := hid (HS'.out.later B1.out)
  go_wp2_with fail
  go_cut [10, 11] from 20 (fun s s' wx => ∃ (k : Nat) (a : Option Addr) (c : Nat) (a' : Option Addr) (c' : Nat), s = .pointer (some ⟨k, 0, none⟩) ∧ s' = .bool p ∧ Ans w1 wx k g nm t b ny (.slice a N c) (.slice a' M c') K H)
  case first =>
    refine wp_region_noPanic ?_
    refine wp_region_held_drew (S := (fun W => (W.cell? ⟨w.heap.size, 0, none⟩ = some (.int .i64 g) ∧ W.cell? ⟨w.heap.size, 1, none⟩ = some (.string nm) ∧ W.cell? ⟨w.heap.size, 2, none⟩ = some (.int .i64 t) ∧ W.cell? ⟨w.heap.size, 3, none⟩ = some (.int .i64 b) ∧ W.cell? ⟨w.heap.size, 4, none⟩ = some (.int .i64 nx) ∧ W.cell? ⟨w.heap.size, 5, none⟩ = some (.slice ma mn mc) ∧ W.cell? ⟨w.heap.size, 6, none⟩ = some (.slice ga gn gc)) ∧ (W.cell? ⟨w.heap.size + 1, 0, none⟩ = some (.int .i64 st) ∧ W.cell? ⟨w.heap.size + 1, 1, none⟩ = some (.int .i64 sb)))) (by kernel_rfl) (HSw1.out _ (bdr (bre _))) (fun hHeld => ?_)
    refine wpAnyH_take (i := 0) (oi := { dst := some 26, op := Op.load 27 (Operand.tmp 4), type := 27, pos := "exact.go:2616", after := #[], guard := none }) (v := ?vb1_0) rfl (by kernel_rfl) (by kernel_rfl) (by kernel_rfl) (fun _ _ _ h => h) (Or.inl ⟨by rfl, ?hyb1_0⟩) (by assumption) ?restb1_0
    case hyb1_0 => (intro w hSw; (try dsimp only at hSw); go_simp; try with_reducible rfl)
    try simp only [Act.put, List.setIfInBounds_toArray, List.set_cons_zero, List.set_cons_succ]
    refine wpAnyH_take (i := 2) (oi := { dst := some 28, op := Op.move (Operand.tmp 1), type := 3, pos := "exact.go:2616", after := #[], guard := none }) (v := ?vb2_2) rfl (by kernel_rfl) (by kernel_rfl) (by kernel_rfl) (fun _ _ _ h => h) (Or.inl ⟨by rfl, ?hyb2_2⟩) (by assumption) ?restb2_2
    case hyb2_2 => (intro w hSw; (try dsimp only at hSw); go_simp; try with_reducible rfl)
    try simp only [Act.put, List.setIfInBounds_toArray, List.set_cons_zero, List.set_cons_succ]
    refine wpAnyH_take (i := 3) (oi := { dst := some 29, op := Op.move (Operand.tmp 2), type := 3, pos := "exact.go:2616", after := #[], guard := none }) (v := ?vb3_3) rfl (by kernel_rfl) (by kernel_rfl) (by kernel_rfl) (fun _ _ _ h => h) (Or.inl ⟨by rfl, ?hyb3_3⟩) (by assumption) ?restb3_3
    case hyb3_3 => (intro w hSw; (try dsimp only at hSw); go_simp; try with_reducible rfl)
    try simp only [Act.put, List.setIfInBounds_toArray, List.set_cons_zero, List.set_cons_succ]
    refine wpAnyH_take (i := 4) (oi := { dst := some 30, op := Op.load 23 (Operand.tmp 7), type := 23, pos := "exact.go:2616", after := #[], guard := none }) (v := ?vb4_4) rfl (by kernel_rfl) (by kernel_rfl) (by kernel_rfl) (fun _ _ _ h => h) (Or.inl ⟨by rfl, ?hyb4_4⟩) (by assumption) ?restb4_4
    case hyb4_4 => (intro w hSw; (try dsimp only at hSw); go_simp; try with_reducible rfl)
    try simp only [Act.put, List.setIfInBounds_toArray, List.set_cons_zero, List.set_cons_succ]
    clear hHeld
    refine wpAnyH_ready (rs := [1, 10]) (by kernel_rfl) (by simp) ?_
    refine AllReadyH.cons (o := { dst := some 27, op := Op.call { callee := Callee.value (Operand.func 7), args := #[Operand.tmp 26], argTypes := #[27] }, type := 32, pos := "exact.go:2616", after := #[{ on := 0, ground := Ground.data }], guard := none }) rfl (fun K hK => ?_) ?_
    · go_simp
      refine (toBox_any lo hi lo' hi' g nm t b nx ma mn mc ga gn gc L G _ HL.out S2.out S4.out (HMw1.out.later (by repeat (first | exact bre _ | refine bdr ?_ | refine btr ?_ (by assumption) | refine bpush ?_ _))) HGL.out S3.out (HIw1.out.later (by repeat (first | exact bre _ | refine bdr ?_ | refine btr ?_ (by assumption) | refine bpush ?_ _)))).mono ?_; rintro e v1 ⟨km, kg, rfl, how, hb1⟩
      have P1 := hid how.reads.2.2.1
      have P2 := hid how.reads.2.2.2
      clear how
      go_wp2_with fail
      refine hK.out _ _ (HSw1.out _ (by repeat (first | exact bre _ | refine bdr ?_ | refine btr ?_ (by assumption) | refine bpush ?_ _))) (fun hHeld => ?_)
      clear hK K
      try simp only [Act.put, List.setIfInBounds_toArray, List.set_cons_zero, List.set_cons_succ]
      clear hHeld
      refine wpAnyH_ready (rs := [5, 10]) (by kernel_rfl) (by simp) ?_
      refine AllReadyH.cons (o := { dst := some 31, op := Op.call { callee := Callee.value (Operand.func 8), args := #[Operand.tmp 30], argTypes := #[23] }, type := 29, pos := "exact.go:2616", after := #[{ on := 4, ground := Ground.data }, { on := 1, ground := Ground.chain }], guard := none }) rfl (fun K hK => ?_) ?_
      · go_simp
        refine (toStamp_b st sb _).mono ?_; rintro e v2 ⟨rfl, hb2⟩
        go_wp2_with fail
        refine hK.out _ _ (HSw1.out _ (by repeat (first | exact bre _ | refine bdr ?_ | refine btr ?_ (by assumption) | refine bpush ?_ _))) (fun hHeld => ?_)
        clear hK K
        try simp only [Act.put, List.setIfInBounds_toArray, List.set_cons_zero, List.set_cons_succ]
        clear hHeld
        refine wpAnyH_ready (rs := [6, 10]) (by kernel_rfl) (by simp) ?_
        refine AllReadyH.cons (o := { dst := some 32, op := Op.call { callee := Callee.value (Operand.func 6), args := #[Operand.tmp 27, Operand.tmp 28, Operand.tmp 29, Operand.tmp 31], argTypes := #[32, 3, 3, 29] }, type := 33, pos := "exact.go:2616", after := #[{ on := 1, ground := Ground.data }, { on := 2, ground := Ground.data }, { on := 3, ground := Ground.data }, { on := 5, ground := Ground.data }, { on := 5, ground := Ground.chain }], guard := none }) rfl (fun K hK => ?_) ?_
        · go_simp
          refine (CSP.out _ _ _ _ _ _ _ (P1.out.later (by repeat (first | exact bre _ | refine bdr ?_ | refine btr ?_ (by assumption) | refine bpush ?_ _))) (P2.out.later (by repeat (first | exact bre _ | refine bdr ?_ | refine btr ?_ (by assumption) | refine bpush ?_ _)))).mono ?_; rintro e v3 ⟨av, cv, av', cv', rfl, ho3, hb3⟩
          have HO3 := hid ho3
          clear ho3
          go_wp2_with fail
          refine hK.out _ _ (HSw1.out _ (by repeat (first | exact bre _ | refine bdr ?_ | refine btr ?_ (by assumption) | refine bpush ?_ _))) (fun hHeld => ?_)
          clear hK K
          try simp only [Act.put, List.setIfInBounds_toArray, List.set_cons_zero, List.set_cons_succ]
          refine wpAnyH_take (i := 7) (oi := { dst := some 25, op := Op.move (Operand.tmp 32), type := 33, pos := "exact.go:2616", after := #[{ on := 6, ground := Ground.data }], guard := none }) (v := ?vb5_7) rfl (by kernel_rfl) (by kernel_rfl) (by kernel_rfl) (fun _ _ _ h => h) (Or.inl ⟨by rfl, ?hyb5_7⟩) (by assumption) ?restb5_7
          case hyb5_7 => (intro w hSw; (try dsimp only at hSw); go_simp; try with_reducible rfl)
          try simp only [Act.put, List.setIfInBounds_toArray, List.set_cons_zero, List.set_cons_succ]
          refine wpAnyH_take (i := 8) (oi := { dst := some 33, op := Op.extract (Operand.tmp 25) 0, type := 32, pos := "exact.go:2616", after := #[{ on := 7, ground := Ground.data }], guard := none }) (v := ?vb6_8) rfl (by kernel_rfl) (by kernel_rfl) (by kernel_rfl) (fun _ _ _ h => h) (Or.inl ⟨by rfl, ?hyb6_8⟩) (by assumption) ?restb6_8
          case hyb6_8 => (intro w hSw; (try dsimp only at hSw); go_simp; try with_reducible rfl)
          try simp only [Act.put, List.setIfInBounds_toArray, List.set_cons_zero, List.set_cons_succ]
          refine wpAnyH_take (i := 9) (oi := { dst := some 34, op := Op.extract (Operand.tmp 25) 1, type := 4, pos := "exact.go:2616", after := #[{ on := 7, ground := Ground.data }, { on := 11, ground := Ground.gcOnly Departure.lateStores }], guard := none }) (v := ?vb7_9) rfl (by kernel_rfl) (by kernel_rfl) (by kernel_rfl) (fun _ _ _ h => h) (Or.inl ⟨by rfl, ?hyb7_9⟩) (by assumption) ?restb7_9
          case hyb7_9 => (intro w hSw; (try dsimp only at hSw); go_simp; try with_reducible rfl)
          try simp only [Act.put, List.setIfInBounds_toArray, List.set_cons_zero, List.set_cons_succ]
          clear hHeld
          refine wpAnyH_ready (rs := [10]) (by kernel_rfl) (by simp) ?_
          refine AllReadyH.cons (o := { dst := some 10, op := Op.alloc 32, type := 0, pos := "exact.go:2616", after := #[], guard := none }) rfl (fun K hK => ?_) AllReadyH.nil
          go_simp
          have R0 : Hid (Bx ((v3).alloc (.cells #[.int .i64 0, .string ⟨#[]⟩, .int .i64 0, .int .i64 0, .int .i64 0, .slice none 0 0, .slice none 0 0] 32)) v3.heap.size 32 0 ⟨#[]⟩ 0 0 0 (.slice none 0 0) (.slice none 0 0)) := Bx.new _ _ _ _ _ _ _ _ _
          refine hK.out _ _ (HSw1.out _ (by repeat (first | exact bre _ | refine bdr ?_ | refine btr ?_ (by assumption) | refine bpush ?_ _))) (fun hHeld => ?_)
          clear hK K
          try simp only [Act.put, List.setIfInBounds_toArray, List.set_cons_zero, List.set_cons_succ]
          clear hHeld
          refine wpAnyH_ready (rs := [11]) (by kernel_rfl) (by simp) ?_
          refine AllReadyH.cons (o := { dst := none, op := Op.store 32 (Operand.tmp 10) (Operand.tmp 33), type := 0, pos := "exact.go:2616", after := #[{ on := 10, ground := Ground.data }, { on := 8, ground := Ground.data }, { on := 6, ground := Ground.chain }, { on := 0, ground := Ground.phase }, { on := 1, ground := Ground.phase }, { on := 2, ground := Ground.phase }, { on := 3, ground := Ground.phase }, { on := 4, ground := Ground.phase }, { on := 5, ground := Ground.phase }, { on := 6, ground := Ground.phase }, { on := 7, ground := Ground.phase }, { on := 8, ground := Ground.phase }, { on := 9, ground := Ground.textOnly Departure.lateStores }, { on := 10, ground := Ground.phase }], guard := none }) rfl (fun K hK => ?_) AllReadyH.nil
          go_simp
          have HA := hid (ans_last (wn := w1) (g := g) (nm := nm) (t := t) (b := b) (nx := ny) HO3.out (by refine Below.size (B := w1.heap.size) ?_; repeat (first | exact bre _ | refine bdr ?_ | refine btr ?_ (by assumption) | refine bpush ?_ _)) (by repeat (first | exact bre _ | refine bdr ?_ | refine btr ?_ (by assumption) | refine bpush ?_ _)))
          refine hK.out _ _ (HSw1.out _ HA.out.bel) (fun hHeld => ?_)
          clear hK K
          try simp only [Act.put, List.setIfInBounds_toArray, List.set_cons_zero, List.set_cons_succ]
          refine wpAnyH_take (i := 12) (oi := { dst := some 11, op := Op.assign (Operand.tmp 34), type := 4, pos := "exact.go:2616", after := #[{ on := 9, ground := Ground.data }, { on := 11, ground := Ground.chain }, { on := 0, ground := Ground.phase }, { on := 1, ground := Ground.phase }, { on := 2, ground := Ground.phase }, { on := 3, ground := Ground.phase }, { on := 4, ground := Ground.phase }, { on := 5, ground := Ground.phase }, { on := 6, ground := Ground.phase }, { on := 7, ground := Ground.phase }, { on := 8, ground := Ground.phase }, { on := 9, ground := Ground.phase }, { on := 10, ground := Ground.phase }, { on := 11, ground := Ground.phase }], guard := none }) (v := ?vb8_12) rfl (by kernel_rfl) (by kernel_rfl) (by kernel_rfl) (fun _ _ _ h => h) (Or.inl ⟨by rfl, ?hyb8_12⟩) (by assumption) ?restb8_12
          case hyb8_12 => (intro w hSw; (try dsimp only at hSw); go_simp; try with_reducible rfl)
          try simp only [Act.put, List.setIfInBounds_toArray, List.set_cons_zero, List.set_cons_succ]
          refine wpAnyH_done (by kernel_rfl) ?_ _
          refine NoPanic.normal ?_
          try go_wp2_with fail
          go_meet
          exact ⟨_, av, cv, av', cv', rfl, rfl, HA.out⟩
        refine AllReadyH.cons (o := { dst := some 10, op := Op.alloc 32, type := 0, pos := "exact.go:2616", after := #[], guard := none }) rfl (fun K hK => ?_) AllReadyH.nil
        go_simp
        have R0 : Hid (Bx ((v2).alloc (.cells #[.int .i64 0, .string ⟨#[]⟩, .int .i64 0, .int .i64 0, .int .i64 0, .slice none 0 0, .slice none 0 0] 32)) v2.heap.size 32 0 ⟨#[]⟩ 0 0 0 (.slice none 0 0) (.slice none 0 0)) := Bx.new _ _ _ _ _ _ _ _ _
        refine hK.out _ _ (HSw1.out _ (by repeat (first | exact bre _ | refine bdr ?_ | refine btr ?_ (by assumption) | refine bpush ?_ _))) (fun hHeld => ?_)
        clear hK K
        try simp only [Act.put, List.setIfInBounds_toArray, List.set_cons_zero, List.set_cons_succ]
        clear hHeld
        refine wpAnyH_ready (rs := [6]) (by kernel_rfl) (by simp) ?_
        refine AllReadyH.cons (o := { dst := some 32, op := Op.call { callee := Callee.value (Operand.func 6), args := #[Operand.tmp 27, Operand.tmp 28, Operand.tmp 29, Operand.tmp 31], argTypes := #[32, 3, 3, 29] }, type := 33, pos := "exact.go:2616", after := #[{ on := 1, ground := Ground.data }, { on := 2, ground := Ground.data }, { on := 3, ground := Ground.data }, { on := 5, ground := Ground.data }, { on := 5, ground := Ground.chain }], guard := none }) rfl (fun K hK => ?_) AllReadyH.nil
        go_simp
        refine (CSP.out _ _ _ _ _ _ _ (P1.out.later (by repeat (first | exact bre _ | refine bdr ?_ | refine btr ?_ (by assumption) | refine bpush ?_ _))) (P2.out.later (by repeat (first | exact bre _ | refine bdr ?_ | refine btr ?_ (by assumption) | refine bpush ?_ _)))).mono ?_; rintro e v3 ⟨av, cv, av', cv', rfl, ho3, hb3⟩
        have HO3 := hid ho3
        clear ho3
        have L1 := hid R0.out.lt
        have Rv3 := hid (R0.out.later hb3)
        have d1 := Rv3.out.cells
        have f1 := Rv3.out.loose
        go_wp2_with fail
        refine hK.out _ _ (HSw1.out _ (by repeat (first | exact bre _ | refine bdr ?_ | refine btr ?_ (by assumption) | refine bpush ?_ _))) (fun hHeld => ?_)
        clear hK K
        try simp only [Act.put, List.setIfInBounds_toArray, List.set_cons_zero, List.set_cons_succ]
        refine wpAnyH_take (i := 7) (oi := { dst := some 25, op := Op.move (Operand.tmp 32), type := 33, pos := "exact.go:2616", after := #[{ on := 6, ground := Ground.data }], guard := none }) (v := ?vb9_7) rfl (by kernel_rfl) (by kernel_rfl) (by kernel_rfl) (fun _ _ _ h => h) (Or.inl ⟨by rfl, ?hyb9_7⟩) (by assumption) ?restb9_7
        case hyb9_7 => (intro w hSw; (try dsimp only at hSw); go_simp; try with_reducible rfl)
        try simp only [Act.put, List.setIfInBounds_toArray, List.set_cons_zero, List.set_cons_succ]
        refine wpAnyH_take (i := 8) (oi := { dst := some 33, op := Op.extract (Operand.tmp 25) 0, type := 32, pos := "exact.go:2616", after := #[{ on := 7, ground := Ground.data }], guard := none }) (v := ?vb10_8) rfl (by kernel_rfl) (by kernel_rfl) (by kernel_rfl) (fun _ _ _ h => h) (Or.inl ⟨by rfl, ?hyb10_8⟩) (by assumption) ?restb10_8
        case hyb10_8 => (intro w hSw; (try dsimp only at hSw); go_simp; try with_reducible rfl)
        try simp only [Act.put, List.setIfInBounds_toArray, List.set_cons_zero, List.set_cons_succ]
        refine wpAnyH_take (i := 9) (oi := { dst := some 34, op := Op.extract (Operand.tmp 25) 1, type := 4, pos := "exact.go:2616", after := #[{ on := 7, ground := Ground.data }, { on := 11, ground := Ground.gcOnly Departure.lateStores }], guard := none }) (v := ?vb11_9) rfl (by kernel_rfl) (by kernel_rfl) (by kernel_rfl) (fun _ _ _ h => h) (Or.inl ⟨by rfl, ?hyb11_9⟩) (by assumption) ?restb11_9
        case hyb11_9 => (intro w hSw; (try dsimp only at hSw); go_simp; try with_reducible rfl)
        try simp only [Act.put, List.setIfInBounds_toArray, List.set_cons_zero, List.set_cons_succ]
        clear hHeld
        refine wpAnyH_ready (rs := [11]) (by kernel_rfl) (by simp) ?_
        refine AllReadyH.cons (o := { dst := none, op := Op.store 32 (Operand.tmp 10) (Operand.tmp 33), type := 0, pos := "exact.go:2616", after := #[{ on := 10, ground := Ground.data }, { on := 8, ground := Ground.data }, { on := 6, ground := Ground.chain }, { on := 0, ground := Ground.phase }, { on := 1, ground := Ground.phase }, { on := 2, ground := Ground.phase }, { on := 3, ground := Ground.phase }, { on := 4, ground := Ground.phase }, { on := 5, ground := Ground.phase }, { on := 6, ground := Ground.phase }, { on := 7, ground := Ground.phase }, { on := 8, ground := Ground.phase }, { on := 9, ground := Ground.textOnly Departure.lateStores }, { on := 10, ground := Ground.phase }], guard := none }) rfl (fun K hK => ?_) AllReadyH.nil
        go_simp
        have HA := hid (ans_first (wn := w1) (g := g) (nm := nm) (t := t) (b := b) (nx := ny) Rv3.out L1.out HO3.out (by first | exact Nat.le_refl _ | (refine Below.size (B := w1.heap.size) ?_; repeat (first | exact bre _ | refine bdr ?_ | refine btr ?_ (by assumption) | refine bpush ?_ _))) (by repeat (first | exact bre _ | refine bdr ?_ | refine btr ?_ (by assumption) | refine bpush ?_ _)))
        refine hK.out _ _ (HSw1.out _ HA.out.bel) (fun hHeld => ?_)
        clear hK K
        try simp only [Act.put, List.setIfInBounds_toArray, List.set_cons_zero, List.set_cons_succ]
        refine wpAnyH_take (i := 12) (oi := { dst := some 11, op := Op.assign (Operand.tmp 34), type := 4, pos := "exact.go:2616", after := #[{ on := 9, ground := Ground.data }, { on := 11, ground := Ground.chain }, { on := 0, ground := Ground.phase }, { on := 1, ground := Ground.phase }, { on := 2, ground := Ground.phase }, { on := 3, ground := Ground.phase }, { on := 4, ground := Ground.phase }, { on := 5, ground := Ground.phase }, { on := 6, ground := Ground.phase }, { on := 7, ground := Ground.phase }, { on := 8, ground := Ground.phase }, { on := 9, ground := Ground.phase }, { on := 10, ground := Ground.phase }, { on := 11, ground := Ground.phase }], guard := none }) (v := ?vb12_12) rfl (by kernel_rfl) (by kernel_rfl) (by kernel_rfl) (fun _ _ _ h => h) (Or.inl ⟨by rfl, ?hyb12_12⟩) (by assumption) ?restb12_12
        case hyb12_12 => (intro w hSw; (try dsimp only at hSw); go_simp; try with_reducible rfl)
        try simp only [Act.put, List.setIfInBounds_toArray, List.set_cons_zero, List.set_cons_succ]
        refine wpAnyH_done (by kernel_rfl) ?_ _
        refine NoPanic.normal ?_
        try go_wp2_with fail
        go_meet
        exact ⟨_, av, cv, av', cv', rfl, rfl, HA.out⟩
      refine AllReadyH.cons (o := { dst := some 10, op := Op.alloc 32, type := 0, pos := "exact.go:2616", after := #[], guard := none }) rfl (fun K hK => ?_) AllReadyH.nil
      go_simp
      have R0 : Hid (Bx ((v1).alloc (.cells #[.int .i64 0, .string ⟨#[]⟩, .int .i64 0, .int .i64 0, .int .i64 0, .slice none 0 0, .slice none 0 0] 32)) v1.heap.size 32 0 ⟨#[]⟩ 0 0 0 (.slice none 0 0) (.slice none 0 0)) := Bx.new _ _ _ _ _ _ _ _ _
      refine hK.out _ _ (HSw1.out _ (by repeat (first | exact bre _ | refine bdr ?_ | refine btr ?_ (by assumption) | refine bpush ?_ _))) (fun hHeld => ?_)
      clear hK K
      try simp only [Act.put, List.setIfInBounds_toArray, List.set_cons_zero, List.set_cons_succ]
      clear hHeld
      refine wpAnyH_ready (rs := [5]) (by kernel_rfl) (by simp) ?_
      refine AllReadyH.cons (o := { dst := some 31, op := Op.call { callee := Callee.value (Operand.func 8), args := #[Operand.tmp 30], argTypes := #[23] }, type := 29, pos := "exact.go:2616", after := #[{ on := 4, ground := Ground.data }, { on := 1, ground := Ground.chain }], guard := none }) rfl (fun K hK => ?_) AllReadyH.nil
      go_simp
      refine (toStamp_b st sb _).mono ?_; rintro e v2 ⟨rfl, hb2⟩
      have Rv2 := hid (R0.out.later hb2)
      go_wp2_with fail
      refine hK.out _ _ (HSw1.out _ (by repeat (first | exact bre _ | refine bdr ?_ | refine btr ?_ (by assumption) | refine bpush ?_ _))) (fun hHeld => ?_)
      clear hK K
      try simp only [Act.put, List.setIfInBounds_toArray, List.set_cons_zero, List.set_cons_succ]
      clear hHeld
      refine wpAnyH_ready (rs := [6]) (by kernel_rfl) (by simp) ?_
      refine AllReadyH.cons (o := { dst := some 32, op := Op.call { callee := Callee.value (Operand.func 6), args := #[Operand.tmp 27, Operand.tmp 28, Operand.tmp 29, Operand.tmp 31], argTypes := #[32, 3, 3, 29] }, type := 33, pos := "exact.go:2616", after := #[{ on := 1, ground := Ground.data }, { on := 2, ground := Ground.data }, { on := 3, ground := Ground.data }, { on := 5, ground := Ground.data }, { on := 5, ground := Ground.chain }], guard := none }) rfl (fun K hK => ?_) AllReadyH.nil
      go_simp
      refine (CSP.out _ _ _ _ _ _ _ (P1.out.later (by repeat (first | exact bre _ | refine bdr ?_ | refine btr ?_ (by assumption) | refine bpush ?_ _))) (P2.out.later (by repeat (first | exact bre _ | refine bdr ?_ | refine btr ?_ (by assumption) | refine bpush ?_ _)))).mono ?_; rintro e v3 ⟨av, cv, av', cv', rfl, ho3, hb3⟩
      have HO3 := hid ho3
      clear ho3
      have L1 := hid Rv2.out.lt
      have Rv3 := hid (Rv2.out.later hb3)
      have d1 := Rv3.out.cells
      have f1 := Rv3.out.loose
      go_wp2_with fail
      refine hK.out _ _ (HSw1.out _ (by repeat (first | exact bre _ | refine bdr ?_ | refine btr ?_ (by assumption) | refine bpush ?_ _))) (fun hHeld => ?_)
      clear hK K
      try simp only [Act.put, List.setIfInBounds_toArray, List.set_cons_zero, List.set_cons_succ]
      refine wpAnyH_take (i := 7) (oi := { dst := some 25, op := Op.move (Operand.tmp 32), type := 33, pos := "exact.go:2616", after := #[{ on := 6, ground := Ground.data }], guard := none }) (v := ?vb13_7) rfl (by kernel_rfl) (by kernel_rfl) (by kernel_rfl) (fun _ _ _ h => h) (Or.inl ⟨by rfl, ?hyb13_7⟩) (by assumption) ?restb13_7
      case hyb13_7 => (intro w hSw; (try dsimp only at hSw); go_simp; try with_reducible rfl)
      try simp only [Act.put, List.setIfInBounds_toArray, List.set_cons_zero, List.set_cons_succ]
      refine wpAnyH_take (i := 8) (oi := { dst := some 33, op := Op.extract (Operand.tmp 25) 0, type := 32, pos := "exact.go:2616", after := #[{ on := 7, ground := Ground.data }], guard := none }) (v := ?vb14_8) rfl (by kernel_rfl) (by kernel_rfl) (by kernel_rfl) (fun _ _ _ h => h) (Or.inl ⟨by rfl, ?hyb14_8⟩) (by assumption) ?restb14_8
      case hyb14_8 => (intro w hSw; (try dsimp only at hSw); go_simp; try with_reducible rfl)
      try simp only [Act.put, List.setIfInBounds_toArray, List.set_cons_zero, List.set_cons_succ]
      refine wpAnyH_take (i := 9) (oi := { dst := some 34, op := Op.extract (Operand.tmp 25) 1, type := 4, pos := "exact.go:2616", after := #[{ on := 7, ground := Ground.data }, { on := 11, ground := Ground.gcOnly Departure.lateStores }], guard := none }) (v := ?vb15_9) rfl (by kernel_rfl) (by kernel_rfl) (by kernel_rfl) (fun _ _ _ h => h) (Or.inl ⟨by rfl, ?hyb15_9⟩) (by assumption) ?restb15_9
      case hyb15_9 => (intro w hSw; (try dsimp only at hSw); go_simp; try with_reducible rfl)
      try simp only [Act.put, List.setIfInBounds_toArray, List.set_cons_zero, List.set_cons_succ]
      clear hHeld
      refine wpAnyH_ready (rs := [11]) (by kernel_rfl) (by simp) ?_
      refine AllReadyH.cons (o := { dst := none, op := Op.store 32 (Operand.tmp 10) (Operand.tmp 33), type := 0, pos := "exact.go:2616", after := #[{ on := 10, ground := Ground.data }, { on := 8, ground := Ground.data }, { on := 6, ground := Ground.chain }, { on := 0, ground := Ground.phase }, { on := 1, ground := Ground.phase }, { on := 2, ground := Ground.phase }, { on := 3, ground := Ground.phase }, { on := 4, ground := Ground.phase }, { on := 5, ground := Ground.phase }, { on := 6, ground := Ground.phase }, { on := 7, ground := Ground.phase }, { on := 8, ground := Ground.phase }, { on := 9, ground := Ground.textOnly Departure.lateStores }, { on := 10, ground := Ground.phase }], guard := none }) rfl (fun K hK => ?_) AllReadyH.nil
      go_simp
      have HA := hid (ans_first (wn := w1) (g := g) (nm := nm) (t := t) (b := b) (nx := ny) Rv3.out L1.out HO3.out (by first | exact Nat.le_refl _ | (refine Below.size (B := w1.heap.size) ?_; repeat (first | exact bre _ | refine bdr ?_ | refine btr ?_ (by assumption) | refine bpush ?_ _))) (by repeat (first | exact bre _ | refine bdr ?_ | refine btr ?_ (by assumption) | refine bpush ?_ _)))
      refine hK.out _ _ (HSw1.out _ HA.out.bel) (fun hHeld => ?_)
      clear hK K
      try simp only [Act.put, List.setIfInBounds_toArray, List.set_cons_zero, List.set_cons_succ]
      refine wpAnyH_take (i := 12) (oi := { dst := some 11, op := Op.assign (Operand.tmp 34), type := 4, pos := "exact.go:2616", after := #[{ on := 9, ground := Ground.data }, { on := 11, ground := Ground.chain }, { on := 0, ground := Ground.phase }, { on := 1, ground := Ground.phase }, { on := 2, ground := Ground.phase }, { on := 3, ground := Ground.phase }, { on := 4, ground := Ground.phase }, { on := 5, ground := Ground.phase }, { on := 6, ground := Ground.phase }, { on := 7, ground := Ground.phase }, { on := 8, ground := Ground.phase }, { on := 9, ground := Ground.phase }, { on := 10, ground := Ground.phase }, { on := 11, ground := Ground.phase }], guard := none }) (v := ?vb16_12) rfl (by kernel_rfl) (by kernel_rfl) (by kernel_rfl) (fun _ _ _ h => h) (Or.inl ⟨by rfl, ?hyb16_12⟩) (by assumption) ?restb16_12
      case hyb16_12 => (intro w hSw; (try dsimp only at hSw); go_simp; try with_reducible rfl)
      try simp only [Act.put, List.setIfInBounds_toArray, List.set_cons_zero, List.set_cons_succ]
      refine wpAnyH_done (by kernel_rfl) ?_ _
      refine NoPanic.normal ?_
      try go_wp2_with fail
      go_meet
      exact ⟨_, av, cv, av', cv', rfl, rfl, HA.out⟩
    refine AllReadyH.cons (o := { dst := some 10, op := Op.alloc 32, type := 0, pos := "exact.go:2616", after := #[], guard := none }) rfl (fun K hK => ?_) AllReadyH.nil
    go_simp
    have R0 : Hid (Bx ((w1.drew).alloc (.cells #[.int .i64 0, .string ⟨#[]⟩, .int .i64 0, .int .i64 0, .int .i64 0, .slice none 0 0, .slice none 0 0] 32)) w1.heap.size 32 0 ⟨#[]⟩ 0 0 0 (.slice none 0 0) (.slice none 0 0)) := Bx.new _ _ _ _ _ _ _ _ _
    refine hK.out _ _ (HSw1.out _ (by repeat (first | exact bre _ | refine bdr ?_ | refine btr ?_ (by assumption) | refine bpush ?_ _))) (fun hHeld => ?_)
    clear hK K
    try simp only [Act.put, List.setIfInBounds_toArray, List.set_cons_zero, List.set_cons_succ]
    clear hHeld
    refine wpAnyH_ready (rs := [1]) (by kernel_rfl) (by simp) ?_
    refine AllReadyH.cons (o := { dst := some 27, op := Op.call { callee := Callee.value (Operand.func 7), args := #[Operand.tmp 26], argTypes := #[27] }, type := 32, pos := "exact.go:2616", after := #[{ on := 0, ground := Ground.data }], guard := none }) rfl (fun K hK => ?_) AllReadyH.nil
    go_simp
    refine (toBox_any lo hi lo' hi' g nm t b nx ma mn mc ga gn gc L G _ HL.out S2.out S4.out (HMw1.out.later (by repeat (first | exact bre _ | refine bdr ?_ | refine btr ?_ (by assumption) | refine bpush ?_ _))) HGL.out S3.out (HIw1.out.later (by repeat (first | exact bre _ | refine bdr ?_ | refine btr ?_ (by assumption) | refine bpush ?_ _)))).mono ?_; rintro e v1 ⟨km, kg, rfl, how, hb1⟩
    have P1 := hid how.reads.2.2.1
    have P2 := hid how.reads.2.2.2
    clear how
    have Rv1 := hid (R0.out.later hb1)
    go_wp2_with fail
    refine hK.out _ _ (HSw1.out _ (by repeat (first | exact bre _ | refine bdr ?_ | refine btr ?_ (by assumption) | refine bpush ?_ _))) (fun hHeld => ?_)
    clear hK K
    try simp only [Act.put, List.setIfInBounds_toArray, List.set_cons_zero, List.set_cons_succ]
    clear hHeld
    refine wpAnyH_ready (rs := [5]) (by kernel_rfl) (by simp) ?_
    refine AllReadyH.cons (o := { dst := some 31, op := Op.call { callee := Callee.value (Operand.func 8), args := #[Operand.tmp 30], argTypes := #[23] }, type := 29, pos := "exact.go:2616", after := #[{ on := 4, ground := Ground.data }, { on := 1, ground := Ground.chain }], guard := none }) rfl (fun K hK => ?_) AllReadyH.nil
    go_simp
    refine (toStamp_b st sb _).mono ?_; rintro e v2 ⟨rfl, hb2⟩
    have Rv2 := hid (Rv1.out.later hb2)
    go_wp2_with fail
    refine hK.out _ _ (HSw1.out _ (by repeat (first | exact bre _ | refine bdr ?_ | refine btr ?_ (by assumption) | refine bpush ?_ _))) (fun hHeld => ?_)
    clear hK K
    try simp only [Act.put, List.setIfInBounds_toArray, List.set_cons_zero, List.set_cons_succ]
    clear hHeld
    refine wpAnyH_ready (rs := [6]) (by kernel_rfl) (by simp) ?_
    refine AllReadyH.cons (o := { dst := some 32, op := Op.call { callee := Callee.value (Operand.func 6), args := #[Operand.tmp 27, Operand.tmp 28, Operand.tmp 29, Operand.tmp 31], argTypes := #[32, 3, 3, 29] }, type := 33, pos := "exact.go:2616", after := #[{ on := 1, ground := Ground.data }, { on := 2, ground := Ground.data }, { on := 3, ground := Ground.data }, { on := 5, ground := Ground.data }, { on := 5, ground := Ground.chain }], guard := none }) rfl (fun K hK => ?_) AllReadyH.nil
    go_simp
    refine (CSP.out _ _ _ _ _ _ _ (P1.out.later (by repeat (first | exact bre _ | refine bdr ?_ | refine btr ?_ (by assumption) | refine bpush ?_ _))) (P2.out.later (by repeat (first | exact bre _ | refine bdr ?_ | refine btr ?_ (by assumption) | refine bpush ?_ _)))).mono ?_; rintro e v3 ⟨av, cv, av', cv', rfl, ho3, hb3⟩
    have HO3 := hid ho3
    clear ho3
    have L1 := hid Rv2.out.lt
    have Rv3 := hid (Rv2.out.later hb3)
    have d1 := Rv3.out.cells
    have f1 := Rv3.out.loose
    go_wp2_with fail
    refine hK.out _ _ (HSw1.out _ (by repeat (first | exact bre _ | refine bdr ?_ | refine btr ?_ (by assumption) | refine bpush ?_ _))) (fun hHeld => ?_)
    clear hK K
    try simp only [Act.put, List.setIfInBounds_toArray, List.set_cons_zero, List.set_cons_succ]
    refine wpAnyH_take (i := 7) (oi := { dst := some 25, op := Op.move (Operand.tmp 32), type := 33, pos := "exact.go:2616", after := #[{ on := 6, ground := Ground.data }], guard := none }) (v := ?vb17_7) rfl (by kernel_rfl) (by kernel_rfl) (by kernel_rfl) (fun _ _ _ h => h) (Or.inl ⟨by rfl, ?hyb17_7⟩) (by assumption) ?restb17_7
    case hyb17_7 => (intro w hSw; (try dsimp only at hSw); go_simp; try with_reducible rfl)
    try simp only [Act.put, List.setIfInBounds_toArray, List.set_cons_zero, List.set_cons_succ]
    refine wpAnyH_take (i := 8) (oi := { dst := some 33, op := Op.extract (Operand.tmp 25) 0, type := 32, pos := "exact.go:2616", after := #[{ on := 7, ground := Ground.data }], guard := none }) (v := ?vb18_8) rfl (by kernel_rfl) (by kernel_rfl) (by kernel_rfl) (fun _ _ _ h => h) (Or.inl ⟨by rfl, ?hyb18_8⟩) (by assumption) ?restb18_8
    case hyb18_8 => (intro w hSw; (try dsimp only at hSw); go_simp; try with_reducible rfl)
    try simp only [Act.put, List.setIfInBounds_toArray, List.set_cons_zero, List.set_cons_succ]
    refine wpAnyH_take (i := 9) (oi := { dst := some 34, op := Op.extract (Operand.tmp 25) 1, type := 4, pos := "exact.go:2616", after := #[{ on := 7, ground := Ground.data }, { on := 11, ground := Ground.gcOnly Departure.lateStores }], guard := none }) (v := ?vb19_9) rfl (by kernel_rfl) (by kernel_rfl) (by kernel_rfl) (fun _ _ _ h => h) (Or.inl ⟨by rfl, ?hyb19_9⟩) (by assumption) ?restb19_9
    case hyb19_9 => (intro w hSw; (try dsimp only at hSw); go_simp; try with_reducible rfl)
    try simp only [Act.put, List.setIfInBounds_toArray, List.set_cons_zero, List.set_cons_succ]
    clear hHeld
    refine wpAnyH_ready (rs := [11]) (by kernel_rfl) (by simp) ?_
    refine AllReadyH.cons (o := { dst := none, op := Op.store 32 (Operand.tmp 10) (Operand.tmp 33), type := 0, pos := "exact.go:2616", after := #[{ on := 10, ground := Ground.data }, { on := 8, ground := Ground.data }, { on := 6, ground := Ground.chain }, { on := 0, ground := Ground.phase }, { on := 1, ground := Ground.phase }, { on := 2, ground := Ground.phase }, { on := 3, ground := Ground.phase }, { on := 4, ground := Ground.phase }, { on := 5, ground := Ground.phase }, { on := 6, ground := Ground.phase }, { on := 7, ground := Ground.phase }, { on := 8, ground := Ground.phase }, { on := 9, ground := Ground.textOnly Departure.lateStores }, { on := 10, ground := Ground.phase }], guard := none }) rfl (fun K hK => ?_) AllReadyH.nil
    go_simp
    have HA := hid (ans_first (wn := w1) (g := g) (nm := nm) (t := t) (b := b) (nx := ny) Rv3.out L1.out HO3.out (by first | exact Nat.le_refl _ | (refine Below.size (B := w1.heap.size) ?_; repeat (first | exact bre _ | refine bdr ?_ | refine btr ?_ (by assumption) | refine bpush ?_ _))) (by repeat (first | exact bre _ | refine bdr ?_ | refine btr ?_ (by assumption) | refine bpush ?_ _)))
    refine hK.out _ _ (HSw1.out _ HA.out.bel) (fun hHeld => ?_)
    clear hK K
    try simp only [Act.put, List.setIfInBounds_toArray, List.set_cons_zero, List.set_cons_succ]
    refine wpAnyH_take (i := 12) (oi := { dst := some 11, op := Op.assign (Operand.tmp 34), type := 4, pos := "exact.go:2616", after := #[{ on := 9, ground := Ground.data }, { on := 11, ground := Ground.chain }, { on := 0, ground := Ground.phase }, { on := 1, ground := Ground.phase }, { on := 2, ground := Ground.phase }, { on := 3, ground := Ground.phase }, { on := 4, ground := Ground.phase }, { on := 5, ground := Ground.phase }, { on := 6, ground := Ground.phase }, { on := 7, ground := Ground.phase }, { on := 8, ground := Ground.phase }, { on := 9, ground := Ground.phase }, { on := 10, ground := Ground.phase }, { on := 11, ground := Ground.phase }], guard := none }) (v := ?vb20_12) rfl (by kernel_rfl) (by kernel_rfl) (by kernel_rfl) (fun _ _ _ h => h) (Or.inl ⟨by rfl, ?hyb20_12⟩) (by assumption) ?restb20_12
    case hyb20_12 => (intro w hSw; (try dsimp only at hSw); go_simp; try with_reducible rfl)
    try simp only [Act.put, List.setIfInBounds_toArray, List.set_cons_zero, List.set_cons_succ]
    refine wpAnyH_done (by kernel_rfl) ?_ _
    refine NoPanic.normal ?_
    try go_wp2_with fail
    go_meet
    exact ⟨_, av, cv, av', cv', rfl, rfl, HA.out⟩
  case rest =>
  obtain ⟨w2, hw2⟩ : ∃ w2, w2 = wc := ⟨_, rfl⟩
  subst hw2
  obtain ⟨kv, av, cv, av', cv', rfl, rfl, hv⟩ := hcut
  obtain ⟨BV, HV, ov, bv, tv, dv⟩ := hv.own
  have Q1 := hid tv
  have Q2 : Hid (kv < w2.heap.size) := hv.box.lt
  have Q6 : Hid (w.heap.size + 1 < w1.heap.size) := A1.out.lt
  have Q7 : Hid (w1.heap.size ≤ w2.heap.size) := hv.bel.size
  have V2 := hid hv.box
  have OV2 := hid ov
  have hb := hv.bel
  have A2 := hid (A0.out.later hb)
  have T2 := hid (A1.out.later hb)
  have B2 := hid (btr B1.out hb)
  have e0 := A2.out.cells
  clear hb hv ov bv tv dv A0 A1 B1 HSw1 HMw1 HIw1
  go_wp2_with fail
  refine (toBox_any lo hi lo' hi' g nm t b nx ma mn mc ga gn gc L G _ HL.out S2.out S4.out (HM.out.later B2.out) HGL.out S3.out (HS'.out.later B2.out)).mono ?_; rintro e w4 ⟨km4, kg4, rfl, how, hb4⟩
  obtain ⟨W5, hW5⟩ : ∃ W5, w4.alloc (.cells #[.int .i64 g, .string nm, .int .i64 t, .int .i64 b, .int .i64 nx, .slice (some ⟨km4, 0, none⟩) mn mn, .slice (some ⟨kg4, 0, none⟩) gn gn] 32) = W5 := ⟨_, rfl⟩
  have n5 : Below w4.heap.size w4 W5 := by rw [← hW5]; exact bpush (bre _) _
  have x5 : Bx W5 w4.heap.size 32 g nm t b nx (.slice (some ⟨km4, 0, none⟩) mn mn) (.slice (some ⟨kg4, 0, none⟩) gn gn) := by rw [← hW5]; exact Bx.new _ _ _ _ _ _ _ _ _
  have hb5 := btr hb4 n5
  have X5 := hid x5
  have OX5 := hid (how.h.later n5)
  have Q3 : Hid (w2.heap.size ≤ w4.heap.size) := hb4.size
  have Q4 : Hid (w4.heap.size < W5.heap.size) := x5.lt
  have A5 := hid (A2.out.later hb5)
  have T5 := hid (T2.out.later hb5)
  have B5 := hid (btr B2.out hb5)
  have V5 := hid (V2.out.later hb5)
  have OV5 := hid (OV2.out.later hb5)
  have PM := hid OX5.out.b.reads.2.2.1
  have PI := hid OX5.out.b.reads.2.2.2
  clear e0 hb4 n5 x5 hb5 how A2 T2 B2 V2 OV2
  have HSW5 : Hid (∀ W, Below W5.heap.size W5 W → (W.cell? ⟨w4.heap.size, 0, none⟩ = some (.int .i64 g) ∧ W.cell? ⟨w4.heap.size, 1, none⟩ = some (.string nm) ∧ W.cell? ⟨w4.heap.size, 2, none⟩ = some (.int .i64 t) ∧ W.cell? ⟨w4.heap.size, 3, none⟩ = some (.int .i64 b) ∧ W.cell? ⟨w4.heap.size, 4, none⟩ = some (.int .i64 nx) ∧ W.cell? ⟨w4.heap.size, 5, none⟩ = some (.slice (some ⟨km4, 0, none⟩) mn mn) ∧ W.cell? ⟨w4.heap.size, 6, none⟩ = some (.slice (some ⟨kg4, 0, none⟩) gn gn)) ∧ (W.cell? ⟨w.heap.size + 1, 0, none⟩ = some (.int .i64 st) ∧ W.cell? ⟨w.heap.size + 1, 1, none⟩ = some (.int .i64 sb))) :=
    fun W h => ⟨(X5.out.later h).cells, (T5.out.later h).cells⟩
  go_wp2_with fail
  clear hW5
  go_cut [13, 14] from 20 (fun s s' wx => ∃ (k : Nat) (a : Option Addr) (c : Nat) (a' : Option Addr) (c' : Nat), s = .pointer (some ⟨k, 0, none⟩) ∧ s' = .bool p ∧ Ans W5 wx k g nm t b ny (.slice a N c) (.slice a' M c') K H)
  case first =>
    refine wp_region_noPanic ?_
    refine wp_region_held_drew (S := (fun W => (W.cell? ⟨w4.heap.size, 0, none⟩ = some (.int .i64 g) ∧ W.cell? ⟨w4.heap.size, 1, none⟩ = some (.string nm) ∧ W.cell? ⟨w4.heap.size, 2, none⟩ = some (.int .i64 t) ∧ W.cell? ⟨w4.heap.size, 3, none⟩ = some (.int .i64 b) ∧ W.cell? ⟨w4.heap.size, 4, none⟩ = some (.int .i64 nx) ∧ W.cell? ⟨w4.heap.size, 5, none⟩ = some (.slice (some ⟨km4, 0, none⟩) mn mn) ∧ W.cell? ⟨w4.heap.size, 6, none⟩ = some (.slice (some ⟨kg4, 0, none⟩) gn gn)) ∧ (W.cell? ⟨w.heap.size + 1, 0, none⟩ = some (.int .i64 st) ∧ W.cell? ⟨w.heap.size + 1, 1, none⟩ = some (.int .i64 sb)))) (by kernel_rfl) (HSW5.out _ (bdr (bre _))) (fun hHeld => ?_)
    refine wpAnyH_take (i := 0) (oi := { dst := some 38, op := Op.load 32 (Operand.tmp 12), type := 32, pos := "exact.go:2618", after := #[], guard := none }) (v := ?vc1_0) rfl (by kernel_rfl) (by kernel_rfl) (by kernel_rfl) (fun _ _ _ h => h) (Or.inl ⟨by rfl, ?hyc1_0⟩) (by assumption) ?restc1_0
    case hyc1_0 => (intro w hSw; (try dsimp only at hSw); go_simp; try with_reducible rfl)
    try simp only [Act.put, List.setIfInBounds_toArray, List.set_cons_zero, List.set_cons_succ]
    refine wpAnyH_take (i := 1) (oi := { dst := some 39, op := Op.move (Operand.tmp 1), type := 3, pos := "exact.go:2618", after := #[], guard := none }) (v := ?vc2_1) rfl (by kernel_rfl) (by kernel_rfl) (by kernel_rfl) (fun _ _ _ h => h) (Or.inl ⟨by rfl, ?hyc2_1⟩) (by assumption) ?restc2_1
    case hyc2_1 => (intro w hSw; (try dsimp only at hSw); go_simp; try with_reducible rfl)
    try simp only [Act.put, List.setIfInBounds_toArray, List.set_cons_zero, List.set_cons_succ]
    refine wpAnyH_take (i := 2) (oi := { dst := some 40, op := Op.move (Operand.tmp 2), type := 3, pos := "exact.go:2618", after := #[], guard := none }) (v := ?vc3_2) rfl (by kernel_rfl) (by kernel_rfl) (by kernel_rfl) (fun _ _ _ h => h) (Or.inl ⟨by rfl, ?hyc3_2⟩) (by assumption) ?restc3_2
    case hyc3_2 => (intro w hSw; (try dsimp only at hSw); go_simp; try with_reducible rfl)
    try simp only [Act.put, List.setIfInBounds_toArray, List.set_cons_zero, List.set_cons_succ]
    refine wpAnyH_take (i := 3) (oi := { dst := some 41, op := Op.load 23 (Operand.tmp 7), type := 23, pos := "exact.go:2618", after := #[], guard := none }) (v := ?vc4_3) rfl (by kernel_rfl) (by kernel_rfl) (by kernel_rfl) (fun _ _ _ h => h) (Or.inl ⟨by rfl, ?hyc4_3⟩) (by assumption) ?restc4_3
    case hyc4_3 => (intro w hSw; (try dsimp only at hSw); go_simp; try with_reducible rfl)
    try simp only [Act.put, List.setIfInBounds_toArray, List.set_cons_zero, List.set_cons_succ]
    clear hHeld
    refine wpAnyH_ready (rs := [4, 9]) (by kernel_rfl) (by simp) ?_
    refine AllReadyH.cons (o := { dst := some 42, op := Op.call { callee := Callee.value (Operand.func 8), args := #[Operand.tmp 41], argTypes := #[23] }, type := 29, pos := "exact.go:2618", after := #[{ on := 3, ground := Ground.data }], guard := none }) rfl (fun K hK => ?_) ?_
    · go_simp
      refine (toStamp_b st sb _).mono ?_; rintro e v2 ⟨rfl, hb2⟩
      go_wp2_with fail
      refine hK.out _ _ (HSW5.out _ (by repeat (first | exact bre _ | refine bdr ?_ | refine btr ?_ (by assumption) | refine bpush ?_ _))) (fun hHeld => ?_)
      clear hK K
      try simp only [Act.put, List.setIfInBounds_toArray, List.set_cons_zero, List.set_cons_succ]
      clear hHeld
      refine wpAnyH_ready (rs := [5, 9]) (by kernel_rfl) (by simp) ?_
      refine AllReadyH.cons (o := { dst := some 43, op := Op.call { callee := Callee.value (Operand.func 9), args := #[Operand.tmp 38, Operand.tmp 39, Operand.tmp 40, Operand.tmp 42], argTypes := #[32, 3, 3, 29] }, type := 33, pos := "exact.go:2618", after := #[{ on := 0, ground := Ground.data }, { on := 1, ground := Ground.data }, { on := 2, ground := Ground.data }, { on := 4, ground := Ground.data }, { on := 4, ground := Ground.chain }], guard := none }) rfl (fun K hK => ?_) ?_
      · go_simp
        refine (CIM.out _ _ _ _ _ _ _ (PM.out.later (by repeat (first | exact bre _ | refine bdr ?_ | refine btr ?_ (by assumption) | refine bpush ?_ _))) (PI.out.later (by repeat (first | exact bre _ | refine bdr ?_ | refine btr ?_ (by assumption) | refine bpush ?_ _)))).mono ?_; rintro e v3 ⟨av, cv, av', cv', rfl, ho3, hb3⟩
        have HO3 := hid ho3
        clear ho3
        go_wp2_with fail
        refine hK.out _ _ (HSW5.out _ (by repeat (first | exact bre _ | refine bdr ?_ | refine btr ?_ (by assumption) | refine bpush ?_ _))) (fun hHeld => ?_)
        clear hK K
        try simp only [Act.put, List.setIfInBounds_toArray, List.set_cons_zero, List.set_cons_succ]
        refine wpAnyH_take (i := 6) (oi := { dst := some 37, op := Op.move (Operand.tmp 43), type := 33, pos := "exact.go:2618", after := #[{ on := 5, ground := Ground.data }], guard := none }) (v := ?vc5_6) rfl (by kernel_rfl) (by kernel_rfl) (by kernel_rfl) (fun _ _ _ h => h) (Or.inl ⟨by rfl, ?hyc5_6⟩) (by assumption) ?restc5_6
        case hyc5_6 => (intro w hSw; (try dsimp only at hSw); go_simp; try with_reducible rfl)
        try simp only [Act.put, List.setIfInBounds_toArray, List.set_cons_zero, List.set_cons_succ]
        refine wpAnyH_take (i := 7) (oi := { dst := some 44, op := Op.extract (Operand.tmp 37) 0, type := 32, pos := "exact.go:2618", after := #[{ on := 6, ground := Ground.data }], guard := none }) (v := ?vc6_7) rfl (by kernel_rfl) (by kernel_rfl) (by kernel_rfl) (fun _ _ _ h => h) (Or.inl ⟨by rfl, ?hyc6_7⟩) (by assumption) ?restc6_7
        case hyc6_7 => (intro w hSw; (try dsimp only at hSw); go_simp; try with_reducible rfl)
        try simp only [Act.put, List.setIfInBounds_toArray, List.set_cons_zero, List.set_cons_succ]
        refine wpAnyH_take (i := 8) (oi := { dst := some 45, op := Op.extract (Operand.tmp 37) 1, type := 4, pos := "exact.go:2618", after := #[{ on := 6, ground := Ground.data }, { on := 10, ground := Ground.gcOnly Departure.lateStores }], guard := none }) (v := ?vc7_8) rfl (by kernel_rfl) (by kernel_rfl) (by kernel_rfl) (fun _ _ _ h => h) (Or.inl ⟨by rfl, ?hyc7_8⟩) (by assumption) ?restc7_8
        case hyc7_8 => (intro w hSw; (try dsimp only at hSw); go_simp; try with_reducible rfl)
        try simp only [Act.put, List.setIfInBounds_toArray, List.set_cons_zero, List.set_cons_succ]
        clear hHeld
        refine wpAnyH_ready (rs := [9]) (by kernel_rfl) (by simp) ?_
        refine AllReadyH.cons (o := { dst := some 13, op := Op.alloc 32, type := 0, pos := "exact.go:2618", after := #[], guard := none }) rfl (fun K hK => ?_) AllReadyH.nil
        go_simp
        have R0 : Hid (Bx ((v3).alloc (.cells #[.int .i64 0, .string ⟨#[]⟩, .int .i64 0, .int .i64 0, .int .i64 0, .slice none 0 0, .slice none 0 0] 32)) v3.heap.size 32 0 ⟨#[]⟩ 0 0 0 (.slice none 0 0) (.slice none 0 0)) := Bx.new _ _ _ _ _ _ _ _ _
        refine hK.out _ _ (HSW5.out _ (by repeat (first | exact bre _ | refine bdr ?_ | refine btr ?_ (by assumption) | refine bpush ?_ _))) (fun hHeld => ?_)
        clear hK K
        try simp only [Act.put, List.setIfInBounds_toArray, List.set_cons_zero, List.set_cons_succ]
        clear hHeld
        refine wpAnyH_ready (rs := [10]) (by kernel_rfl) (by simp) ?_
        refine AllReadyH.cons (o := { dst := none, op := Op.store 32 (Operand.tmp 13) (Operand.tmp 44), type := 0, pos := "exact.go:2618", after := #[{ on := 9, ground := Ground.data }, { on := 7, ground := Ground.data }, { on := 5, ground := Ground.chain }, { on := 0, ground := Ground.phase }, { on := 1, ground := Ground.phase }, { on := 2, ground := Ground.phase }, { on := 3, ground := Ground.phase }, { on := 4, ground := Ground.phase }, { on := 5, ground := Ground.phase }, { on := 6, ground := Ground.phase }, { on := 7, ground := Ground.phase }, { on := 8, ground := Ground.textOnly Departure.lateStores }, { on := 9, ground := Ground.phase }], guard := none }) rfl (fun K hK => ?_) AllReadyH.nil
        go_simp
        have HA := hid (ans_last (wn := W5) (g := g) (nm := nm) (t := t) (b := b) (nx := ny) HO3.out (by refine Below.size (B := W5.heap.size) ?_; repeat (first | exact bre _ | refine bdr ?_ | refine btr ?_ (by assumption) | refine bpush ?_ _)) (by repeat (first | exact bre _ | refine bdr ?_ | refine btr ?_ (by assumption) | refine bpush ?_ _)))
        refine hK.out _ _ (HSW5.out _ HA.out.bel) (fun hHeld => ?_)
        clear hK K
        try simp only [Act.put, List.setIfInBounds_toArray, List.set_cons_zero, List.set_cons_succ]
        refine wpAnyH_take (i := 11) (oi := { dst := some 14, op := Op.assign (Operand.tmp 45), type := 4, pos := "exact.go:2618", after := #[{ on := 8, ground := Ground.data }, { on := 10, ground := Ground.chain }, { on := 0, ground := Ground.phase }, { on := 1, ground := Ground.phase }, { on := 2, ground := Ground.phase }, { on := 3, ground := Ground.phase }, { on := 4, ground := Ground.phase }, { on := 5, ground := Ground.phase }, { on := 6, ground := Ground.phase }, { on := 7, ground := Ground.phase }, { on := 8, ground := Ground.phase }, { on := 9, ground := Ground.phase }, { on := 10, ground := Ground.phase }], guard := none }) (v := ?vc8_11) rfl (by kernel_rfl) (by kernel_rfl) (by kernel_rfl) (fun _ _ _ h => h) (Or.inl ⟨by rfl, ?hyc8_11⟩) (by assumption) ?restc8_11
        case hyc8_11 => (intro w hSw; (try dsimp only at hSw); go_simp; try with_reducible rfl)
        try simp only [Act.put, List.setIfInBounds_toArray, List.set_cons_zero, List.set_cons_succ]
        refine wpAnyH_done (by kernel_rfl) ?_ _
        refine NoPanic.normal ?_
        try go_wp2_with fail
        go_meet
        exact ⟨_, av, cv, av', cv', rfl, rfl, HA.out⟩
      refine AllReadyH.cons (o := { dst := some 13, op := Op.alloc 32, type := 0, pos := "exact.go:2618", after := #[], guard := none }) rfl (fun K hK => ?_) AllReadyH.nil
      go_simp
      have R0 : Hid (Bx ((v2).alloc (.cells #[.int .i64 0, .string ⟨#[]⟩, .int .i64 0, .int .i64 0, .int .i64 0, .slice none 0 0, .slice none 0 0] 32)) v2.heap.size 32 0 ⟨#[]⟩ 0 0 0 (.slice none 0 0) (.slice none 0 0)) := Bx.new _ _ _ _ _ _ _ _ _
      refine hK.out _ _ (HSW5.out _ (by repeat (first | exact bre _ | refine bdr ?_ | refine btr ?_ (by assumption) | refine bpush ?_ _))) (fun hHeld => ?_)
      clear hK K
      try simp only [Act.put, List.setIfInBounds_toArray, List.set_cons_zero, List.set_cons_succ]
      clear hHeld
      refine wpAnyH_ready (rs := [5]) (by kernel_rfl) (by simp) ?_
      refine AllReadyH.cons (o := { dst := some 43, op := Op.call { callee := Callee.value (Operand.func 9), args := #[Operand.tmp 38, Operand.tmp 39, Operand.tmp 40, Operand.tmp 42], argTypes := #[32, 3, 3, 29] }, type := 33, pos := "exact.go:2618", after := #[{ on := 0, ground := Ground.data }, { on := 1, ground := Ground.data }, { on := 2, ground := Ground.data }, { on := 4, ground := Ground.data }, { on := 4, ground := Ground.chain }], guard := none }) rfl (fun K hK => ?_) AllReadyH.nil
      go_simp
      refine (CIM.out _ _ _ _ _ _ _ (PM.out.later (by repeat (first | exact bre _ | refine bdr ?_ | refine btr ?_ (by assumption) | refine bpush ?_ _))) (PI.out.later (by repeat (first | exact bre _ | refine bdr ?_ | refine btr ?_ (by assumption) | refine bpush ?_ _)))).mono ?_; rintro e v3 ⟨av, cv, av', cv', rfl, ho3, hb3⟩
      have HO3 := hid ho3
      clear ho3
      have L1 := hid R0.out.lt
      have Rv3 := hid (R0.out.later hb3)
      have d1 := Rv3.out.cells
      have f1 := Rv3.out.loose
      go_wp2_with fail
      refine hK.out _ _ (HSW5.out _ (by repeat (first | exact bre _ | refine bdr ?_ | refine btr ?_ (by assumption) | refine bpush ?_ _))) (fun hHeld => ?_)
      clear hK K
      try simp only [Act.put, List.setIfInBounds_toArray, List.set_cons_zero, List.set_cons_succ]
      refine wpAnyH_take (i := 6) (oi := { dst := some 37, op := Op.move (Operand.tmp 43), type := 33, pos := "exact.go:2618", after := #[{ on := 5, ground := Ground.data }], guard := none }) (v := ?vc9_6) rfl (by kernel_rfl) (by kernel_rfl) (by kernel_rfl) (fun _ _ _ h => h) (Or.inl ⟨by rfl, ?hyc9_6⟩) (by assumption) ?restc9_6
      case hyc9_6 => (intro w hSw; (try dsimp only at hSw); go_simp; try with_reducible rfl)
      try simp only [Act.put, List.setIfInBounds_toArray, List.set_cons_zero, List.set_cons_succ]
      refine wpAnyH_take (i := 7) (oi := { dst := some 44, op := Op.extract (Operand.tmp 37) 0, type := 32, pos := "exact.go:2618", after := #[{ on := 6, ground := Ground.data }], guard := none }) (v := ?vc10_7) rfl (by kernel_rfl) (by kernel_rfl) (by kernel_rfl) (fun _ _ _ h => h) (Or.inl ⟨by rfl, ?hyc10_7⟩) (by assumption) ?restc10_7
      case hyc10_7 => (intro w hSw; (try dsimp only at hSw); go_simp; try with_reducible rfl)
      try simp only [Act.put, List.setIfInBounds_toArray, List.set_cons_zero, List.set_cons_succ]
      refine wpAnyH_take (i := 8) (oi := { dst := some 45, op := Op.extract (Operand.tmp 37) 1, type := 4, pos := "exact.go:2618", after := #[{ on := 6, ground := Ground.data }, { on := 10, ground := Ground.gcOnly Departure.lateStores }], guard := none }) (v := ?vc11_8) rfl (by kernel_rfl) (by kernel_rfl) (by kernel_rfl) (fun _ _ _ h => h) (Or.inl ⟨by rfl, ?hyc11_8⟩) (by assumption) ?restc11_8
      case hyc11_8 => (intro w hSw; (try dsimp only at hSw); go_simp; try with_reducible rfl)
      try simp only [Act.put, List.setIfInBounds_toArray, List.set_cons_zero, List.set_cons_succ]
      clear hHeld
      refine wpAnyH_ready (rs := [10]) (by kernel_rfl) (by simp) ?_
      refine AllReadyH.cons (o := { dst := none, op := Op.store 32 (Operand.tmp 13) (Operand.tmp 44), type := 0, pos := "exact.go:2618", after := #[{ on := 9, ground := Ground.data }, { on := 7, ground := Ground.data }, { on := 5, ground := Ground.chain }, { on := 0, ground := Ground.phase }, { on := 1, ground := Ground.phase }, { on := 2, ground := Ground.phase }, { on := 3, ground := Ground.phase }, { on := 4, ground := Ground.phase }, { on := 5, ground := Ground.phase }, { on := 6, ground := Ground.phase }, { on := 7, ground := Ground.phase }, { on := 8, ground := Ground.textOnly Departure.lateStores }, { on := 9, ground := Ground.phase }], guard := none }) rfl (fun K hK => ?_) AllReadyH.nil
      go_simp
      have HA := hid (ans_first (wn := W5) (g := g) (nm := nm) (t := t) (b := b) (nx := ny) Rv3.out L1.out HO3.out (by first | exact Nat.le_refl _ | (refine Below.size (B := W5.heap.size) ?_; repeat (first | exact bre _ | refine bdr ?_ | refine btr ?_ (by assumption) | refine bpush ?_ _))) (by repeat (first | exact bre _ | refine bdr ?_ | refine btr ?_ (by assumption) | refine bpush ?_ _)))
      refine hK.out _ _ (HSW5.out _ HA.out.bel) (fun hHeld => ?_)
      clear hK K
      try simp only [Act.put, List.setIfInBounds_toArray, List.set_cons_zero, List.set_cons_succ]
      refine wpAnyH_take (i := 11) (oi := { dst := some 14, op := Op.assign (Operand.tmp 45), type := 4, pos := "exact.go:2618", after := #[{ on := 8, ground := Ground.data }, { on := 10, ground := Ground.chain }, { on := 0, ground := Ground.phase }, { on := 1, ground := Ground.phase }, { on := 2, ground := Ground.phase }, { on := 3, ground := Ground.phase }, { on := 4, ground := Ground.phase }, { on := 5, ground := Ground.phase }, { on := 6, ground := Ground.phase }, { on := 7, ground := Ground.phase }, { on := 8, ground := Ground.phase }, { on := 9, ground := Ground.phase }, { on := 10, ground := Ground.phase }], guard := none }) (v := ?vc12_11) rfl (by kernel_rfl) (by kernel_rfl) (by kernel_rfl) (fun _ _ _ h => h) (Or.inl ⟨by rfl, ?hyc12_11⟩) (by assumption) ?restc12_11
      case hyc12_11 => (intro w hSw; (try dsimp only at hSw); go_simp; try with_reducible rfl)
      try simp only [Act.put, List.setIfInBounds_toArray, List.set_cons_zero, List.set_cons_succ]
      refine wpAnyH_done (by kernel_rfl) ?_ _
      refine NoPanic.normal ?_
      try go_wp2_with fail
      go_meet
      exact ⟨_, av, cv, av', cv', rfl, rfl, HA.out⟩
    refine AllReadyH.cons (o := { dst := some 13, op := Op.alloc 32, type := 0, pos := "exact.go:2618", after := #[], guard := none }) rfl (fun K hK => ?_) AllReadyH.nil
    go_simp
    have R0 : Hid (Bx ((W5.drew).alloc (.cells #[.int .i64 0, .string ⟨#[]⟩, .int .i64 0, .int .i64 0, .int .i64 0, .slice none 0 0, .slice none 0 0] 32)) W5.heap.size 32 0 ⟨#[]⟩ 0 0 0 (.slice none 0 0) (.slice none 0 0)) := Bx.new _ _ _ _ _ _ _ _ _
    refine hK.out _ _ (HSW5.out _ (by repeat (first | exact bre _ | refine bdr ?_ | refine btr ?_ (by assumption) | refine bpush ?_ _))) (fun hHeld => ?_)
    clear hK K
    try simp only [Act.put, List.setIfInBounds_toArray, List.set_cons_zero, List.set_cons_succ]
    clear hHeld
    refine wpAnyH_ready (rs := [4]) (by kernel_rfl) (by simp) ?_
    refine AllReadyH.cons (o := { dst := some 42, op := Op.call { callee := Callee.value (Operand.func 8), args := #[Operand.tmp 41], argTypes := #[23] }, type := 29, pos := "exact.go:2618", after := #[{ on := 3, ground := Ground.data }], guard := none }) rfl (fun K hK => ?_) AllReadyH.nil
    go_simp
    refine (toStamp_b st sb _).mono ?_; rintro e v2 ⟨rfl, hb2⟩
    have Rv2 := hid (R0.out.later hb2)
    go_wp2_with fail
    refine hK.out _ _ (HSW5.out _ (by repeat (first | exact bre _ | refine bdr ?_ | refine btr ?_ (by assumption) | refine bpush ?_ _))) (fun hHeld => ?_)
    clear hK K
    try simp only [Act.put, List.setIfInBounds_toArray, List.set_cons_zero, List.set_cons_succ]
    clear hHeld
    refine wpAnyH_ready (rs := [5]) (by kernel_rfl) (by simp) ?_
    refine AllReadyH.cons (o := { dst := some 43, op := Op.call { callee := Callee.value (Operand.func 9), args := #[Operand.tmp 38, Operand.tmp 39, Operand.tmp 40, Operand.tmp 42], argTypes := #[32, 3, 3, 29] }, type := 33, pos := "exact.go:2618", after := #[{ on := 0, ground := Ground.data }, { on := 1, ground := Ground.data }, { on := 2, ground := Ground.data }, { on := 4, ground := Ground.data }, { on := 4, ground := Ground.chain }], guard := none }) rfl (fun K hK => ?_) AllReadyH.nil
    go_simp
    refine (CIM.out _ _ _ _ _ _ _ (PM.out.later (by repeat (first | exact bre _ | refine bdr ?_ | refine btr ?_ (by assumption) | refine bpush ?_ _))) (PI.out.later (by repeat (first | exact bre _ | refine bdr ?_ | refine btr ?_ (by assumption) | refine bpush ?_ _)))).mono ?_; rintro e v3 ⟨av, cv, av', cv', rfl, ho3, hb3⟩
    have HO3 := hid ho3
    clear ho3
    have L1 := hid Rv2.out.lt
    have Rv3 := hid (Rv2.out.later hb3)
    have d1 := Rv3.out.cells
    have f1 := Rv3.out.loose
    go_wp2_with fail
    refine hK.out _ _ (HSW5.out _ (by repeat (first | exact bre _ | refine bdr ?_ | refine btr ?_ (by assumption) | refine bpush ?_ _))) (fun hHeld => ?_)
    clear hK K
    try simp only [Act.put, List.setIfInBounds_toArray, List.set_cons_zero, List.set_cons_succ]
    refine wpAnyH_take (i := 6) (oi := { dst := some 37, op := Op.move (Operand.tmp 43), type := 33, pos := "exact.go:2618", after := #[{ on := 5, ground := Ground.data }], guard := none }) (v := ?vc13_6) rfl (by kernel_rfl) (by kernel_rfl) (by kernel_rfl) (fun _ _ _ h => h) (Or.inl ⟨by rfl, ?hyc13_6⟩) (by assumption) ?restc13_6
    case hyc13_6 => (intro w hSw; (try dsimp only at hSw); go_simp; try with_reducible rfl)
    try simp only [Act.put, List.setIfInBounds_toArray, List.set_cons_zero, List.set_cons_succ]
    refine wpAnyH_take (i := 7) (oi := { dst := some 44, op := Op.extract (Operand.tmp 37) 0, type := 32, pos := "exact.go:2618", after := #[{ on := 6, ground := Ground.data }], guard := none }) (v := ?vc14_7) rfl (by kernel_rfl) (by kernel_rfl) (by kernel_rfl) (fun _ _ _ h => h) (Or.inl ⟨by rfl, ?hyc14_7⟩) (by assumption) ?restc14_7
    case hyc14_7 => (intro w hSw; (try dsimp only at hSw); go_simp; try with_reducible rfl)
    try simp only [Act.put, List.setIfInBounds_toArray, List.set_cons_zero, List.set_cons_succ]
    refine wpAnyH_take (i := 8) (oi := { dst := some 45, op := Op.extract (Operand.tmp 37) 1, type := 4, pos := "exact.go:2618", after := #[{ on := 6, ground := Ground.data }, { on := 10, ground := Ground.gcOnly Departure.lateStores }], guard := none }) (v := ?vc15_8) rfl (by kernel_rfl) (by kernel_rfl) (by kernel_rfl) (fun _ _ _ h => h) (Or.inl ⟨by rfl, ?hyc15_8⟩) (by assumption) ?restc15_8
    case hyc15_8 => (intro w hSw; (try dsimp only at hSw); go_simp; try with_reducible rfl)
    try simp only [Act.put, List.setIfInBounds_toArray, List.set_cons_zero, List.set_cons_succ]
    clear hHeld
    refine wpAnyH_ready (rs := [10]) (by kernel_rfl) (by simp) ?_
    refine AllReadyH.cons (o := { dst := none, op := Op.store 32 (Operand.tmp 13) (Operand.tmp 44), type := 0, pos := "exact.go:2618", after := #[{ on := 9, ground := Ground.data }, { on := 7, ground := Ground.data }, { on := 5, ground := Ground.chain }, { on := 0, ground := Ground.phase }, { on := 1, ground := Ground.phase }, { on := 2, ground := Ground.phase }, { on := 3, ground := Ground.phase }, { on := 4, ground := Ground.phase }, { on := 5, ground := Ground.phase }, { on := 6, ground := Ground.phase }, { on := 7, ground := Ground.phase }, { on := 8, ground := Ground.textOnly Departure.lateStores }, { on := 9, ground := Ground.phase }], guard := none }) rfl (fun K hK => ?_) AllReadyH.nil
    go_simp
    have HA := hid (ans_first (wn := W5) (g := g) (nm := nm) (t := t) (b := b) (nx := ny) Rv3.out L1.out HO3.out (by first | exact Nat.le_refl _ | (refine Below.size (B := W5.heap.size) ?_; repeat (first | exact bre _ | refine bdr ?_ | refine btr ?_ (by assumption) | refine bpush ?_ _))) (by repeat (first | exact bre _ | refine bdr ?_ | refine btr ?_ (by assumption) | refine bpush ?_ _)))
    refine hK.out _ _ (HSW5.out _ HA.out.bel) (fun hHeld => ?_)
    clear hK K
    try simp only [Act.put, List.setIfInBounds_toArray, List.set_cons_zero, List.set_cons_succ]
    refine wpAnyH_take (i := 11) (oi := { dst := some 14, op := Op.assign (Operand.tmp 45), type := 4, pos := "exact.go:2618", after := #[{ on := 8, ground := Ground.data }, { on := 10, ground := Ground.chain }, { on := 0, ground := Ground.phase }, { on := 1, ground := Ground.phase }, { on := 2, ground := Ground.phase }, { on := 3, ground := Ground.phase }, { on := 4, ground := Ground.phase }, { on := 5, ground := Ground.phase }, { on := 6, ground := Ground.phase }, { on := 7, ground := Ground.phase }, { on := 8, ground := Ground.phase }, { on := 9, ground := Ground.phase }, { on := 10, ground := Ground.phase }], guard := none }) (v := ?vc16_11) rfl (by kernel_rfl) (by kernel_rfl) (by kernel_rfl) (fun _ _ _ h => h) (Or.inl ⟨by rfl, ?hyc16_11⟩) (by assumption) ?restc16_11
    case hyc16_11 => (intro w hSw; (try dsimp only at hSw); go_simp; try with_reducible rfl)
    try simp only [Act.put, List.setIfInBounds_toArray, List.set_cons_zero, List.set_cons_succ]
    refine wpAnyH_done (by kernel_rfl) ?_ _
    refine NoPanic.normal ?_
    try go_wp2_with fail
    go_meet
    exact ⟨_, av, cv, av', cv', rfl, rfl, HA.out⟩
  case rest =>
  obtain ⟨w6, hw6⟩ : ∃ w6, w6 = wc := ⟨_, rfl⟩
  subst hw6
  obtain ⟨kg, ag, cg, ag', cg', rfl, rfl, hv⟩ := hcut
  obtain ⟨BG, HG, ov, bv, tv, dv⟩ := hv.own
  have Q5 := hid bv
  have Q8 := hid dv
  have Q9 : Hid (W5.heap.size ≤ kg) := hv.le
  have Gb6 := hid hv.box
  have OG6 := hid ov
  have hb := hv.bel
  have A6 := hid (A5.out.later hb)
  have T6 := hid (T5.out.later hb)
  have B6 := hid (btr B5.out hb)
  have V6 := hid (V5.out.later hb)
  have OV6 := hid (OV5.out.later hb)
  have X6 := hid (X5.out.later hb)
  have OX6 := hid (OX5.out.later hb)
  clear hb hv ov bv tv dv A5 T5 B5 V5 OV5 X5 OX5 HSW5 PM PI
  have e0 := Gb6.out.cells
  have e2 := V6.out.cells
  go_wp2_with fail
  refine (eqBox_any _ _ _ _ _ _ _ _ g nm t b ny _ N _ _ M _ _ _ _ _ K H _ K1.out K2.out K3.out OG6.out.b.reads.2.2.1 OV6.out.b.reads.2.2.1 K5.out K6.out OG6.out.b.reads.2.2.2 OV6.out.b.reads.2.2.2).mono ?_; rintro e w7 ⟨rfl, hb⟩
  clear e0 e2
  have A7 := hid (A6.out.later hb)
  have T7 := hid (T6.out.later hb)
  have B7 := hid (btr B6.out hb)
  have V7 := hid (V6.out.later hb)
  have OV7 := hid (OV6.out.later hb)
  have X7 := hid (X6.out.later hb)
  have OX7 := hid (OX6.out.later hb)
  have Gb7 := hid (Gb6.out.later hb)
  have OG7 := hid (OG6.out.later hb)
  clear A6 T6 B6 V6 OV6 X6 OX6 Gb6 OG6
  clear hb
  have HSX : Hid (∀ W, Below w7.heap.size w7 W → (W.cell? ⟨w4.heap.size, 0, none⟩ = some (.int .i64 g) ∧ W.cell? ⟨w4.heap.size, 1, none⟩ = some (.string nm) ∧ W.cell? ⟨w4.heap.size, 2, none⟩ = some (.int .i64 t) ∧ W.cell? ⟨w4.heap.size, 3, none⟩ = some (.int .i64 b) ∧ W.cell? ⟨w4.heap.size, 4, none⟩ = some (.int .i64 nx) ∧ W.cell? ⟨w4.heap.size, 5, none⟩ = some (.slice (some ⟨km4, 0, none⟩) mn mn) ∧ W.cell? ⟨w4.heap.size, 6, none⟩ = some (.slice (some ⟨kg4, 0, none⟩) gn gn)) ∧ (W.cell? ⟨w.heap.size, 0, none⟩ = some (.int .i64 g) ∧ W.cell? ⟨w.heap.size, 1, none⟩ = some (.string nm) ∧ W.cell? ⟨w.heap.size, 2, none⟩ = some (.int .i64 t) ∧ W.cell? ⟨w.heap.size, 3, none⟩ = some (.int .i64 b) ∧ W.cell? ⟨w.heap.size, 4, none⟩ = some (.int .i64 nx) ∧ W.cell? ⟨w.heap.size, 5, none⟩ = some (.slice ma mn mc) ∧ W.cell? ⟨w.heap.size, 6, none⟩ = some (.slice ga gn gc))) :=
    fun W h => ⟨(X7.out.later h).cells, (A7.out.later h).cells⟩
  have PM := hid OX7.out.b.reads.2.2.1
  have PI := hid OX7.out.b.reads.2.2.2
  go_wp2_with fail
  go_region_held3 (fun W => (W.cell? ⟨w4.heap.size, 0, none⟩ = some (.int .i64 g) ∧ W.cell? ⟨w4.heap.size, 1, none⟩ = some (.string nm) ∧ W.cell? ⟨w4.heap.size, 2, none⟩ = some (.int .i64 t) ∧ W.cell? ⟨w4.heap.size, 3, none⟩ = some (.int .i64 b) ∧ W.cell? ⟨w4.heap.size, 4, none⟩ = some (.int .i64 nx) ∧ W.cell? ⟨w4.heap.size, 5, none⟩ = some (.slice (some ⟨km4, 0, none⟩) mn mn) ∧ W.cell? ⟨w4.heap.size, 6, none⟩ = some (.slice (some ⟨kg4, 0, none⟩) gn gn)) ∧ (W.cell? ⟨w.heap.size, 0, none⟩ = some (.int .i64 g) ∧ W.cell? ⟨w.heap.size, 1, none⟩ = some (.string nm) ∧ W.cell? ⟨w.heap.size, 2, none⟩ = some (.int .i64 t) ∧ W.cell? ⟨w.heap.size, 3, none⟩ = some (.int .i64 b) ∧ W.cell? ⟨w.heap.size, 4, none⟩ = some (.int .i64 nx) ∧ W.cell? ⟨w.heap.size, 5, none⟩ = some (.slice ma mn mc) ∧ W.cell? ⟨w.heap.size, 6, none⟩ = some (.slice ga gn gc)))
    ((refine HSX.out _ ?_; repeat (first | exact bdr (bre _) | exact C8.out | exact D8.out | refine btr ?_ (by assumption))))
    ((first
      | (go_at_call 7; refine (toBox_any lo hi lo' hi' g nm t b nx ma mn mc ga gn gc L G _ HL.out S2.out S4.out (HM.out.later (btr B7.out (bdr (bre _)))) HGL.out S3.out (HS'.out.later (btr B7.out (bdr (bre _))))).mono ?_; rintro e w8 ⟨km8, kg8, rfl, how8, hb8⟩; have R8 := hid how8; have C8 : Hid (Below w7.heap.size w7 w8) := btr (bdr (bre _)) hb8; clear how8 hb8)
      | (go_at_call 10; refine (eqBox_any _ _ _ _ _ _ _ _ g nm t b nx _ mn _ _ gn _ _ _ _ _ L G w8 HL.out S2.out S4.out (PM.out.later C8.out) R8.out.reads.2.2.1 HGL.out S3.out (PI.out.later C8.out) R8.out.reads.2.2.2).mono ?_; rintro e w9 ⟨rfl, hb9⟩; have D8 : Hid (Below w7.heap.size w7 w9) := btr C8.out hb9; clear hb9)))
  have hb := D8.out
  clear PM PI HSX C8 D8 R8
  have A8 := hid (A7.out.later hb)
  have T8 := hid (T7.out.later hb)
  have B8 := hid (btr B7.out hb)
  have V8 := hid (V7.out.later hb)
  have OV8 := hid (OV7.out.later hb)
  have X8 := hid (X7.out.later hb)
  have OX8 := hid (OX7.out.later hb)
  have Gb8 := hid (Gb7.out.later hb)
  have OG8 := hid (OG7.out.later hb)
  clear A7 T7 B7 V7 OV7 X7 OX7 Gb7 OG7
  clear hb
  have e0 := X8.out.cells
  go_wp2_with fail
  refine (markBox_any w2.heap.size w4.heap.size g nm t b nx _ mn mn _ gn gn L G _ OX8.out HL.out S2.out S4.out HGL.out S3.out (by have := SF.out; omega)).mono ?_; rintro e w10 ⟨rfl, -, hc⟩
  have q1 := Q1.out
  have q2 := Q2.out
  have q3 := Q3.out
  have q4 := Q4.out
  have q5 := Q5.out
  have q6 := Q6.out
  have q7 := Q7.out
  have q9 := Q9.out
  have A9 := hid (A8.out.chg hc (by omega))
  have T9 : Hid (Sg w10 (w.heap.size + 1) 23 st sb) := (hc.block _ T8.out.lt (by omega)).trans T8.out
  have V9 := hid (V8.out.chg hc (by omega))
  have Gb9 := hid (Gb8.out.chg hc (by omega))
  have OV9 := hid (OV8.out.chg hc (by intro j h1 h2; omega))
  have OG9 := hid (OG8.out.chg hc (by intro j h1 h2; omega))
  have B9 : Hid (Below w.heap.size w w10) := B8.out.trans (hc.below B8.out.size (by intro j h; omega))
  obtain ⟨q0, hq0⟩ : ∃ q0 : Nat, 1 + 3 * fz L + gn = q0 := ⟨_, rfl⟩
  rw [hq0]
  have hq1 : ¬ ((q0 : Nat) : Int) < 0 := by omega
  clear e0 hc q1 q2 q3 q4 q5 q6 q7 q9 hq0 A8 T8 V8 Gb8 OV8 OG8 B8 X8 OX8
  have e0 := Gb9.out.cells
  have e2 := V9.out.cells
  go_wp2_with fail
  refine (eqBox_any _ _ _ _ _ _ _ _ g nm t b ny _ N _ _ M _ _ _ _ _ K H _ K1.out K2.out K3.out OG9.out.b.reads.2.2.1 OV9.out.b.reads.2.2.1 K5.out K6.out OG9.out.b.reads.2.2.2 OV9.out.b.reads.2.2.2).mono ?_; rintro e w11 ⟨rfl, hb⟩
  clear e0 e2
  have A10 := hid (A9.out.later hb)
  have T10 := hid (T9.out.later hb)
  have B10 := hid (btr B9.out hb)
  have V10 := hid (V9.out.later hb)
  have OV10 := hid (OV9.out.later hb)
  have Gb10 := hid (Gb9.out.later hb)
  have OG10 := hid (OG9.out.later hb)
  clear A9 T9 B9 V9 OV9 Gb9 OG9
  clear hb
  have e0 := Gb10.out.cells
  go_wp2_with fail
  refine (markBox_any BG HG g nm t b ny _ N _ _ M _ K H _ OG10.out K1.out K2.out K3.out K5.out K6.out K4.out).mono ?_; rintro e w12 ⟨rfl, hmk, hc⟩
  have q1 := Q1.out
  have q2 := Q2.out
  have q3 := Q3.out
  have q4 := Q4.out
  have q5 := Q5.out
  have q6 := Q6.out
  have q7 := Q7.out
  have q8 := Q8.out
  have A11 := hid (A10.out.chg hc (by omega))
  have T11 : Hid (Sg w12 (w.heap.size + 1) 23 st sb) := (hc.block _ T10.out.lt (by omega)).trans T10.out
  have V11 := hid (V10.out.chg hc (by omega))
  have Gb11 := hid (Gb10.out.chg hc (by omega))
  have OV11 := hid (OV10.out.chg hc (by intro j h1 h2; omega))
  have MG11 := hid hmk
  have B11 : Hid (Below w.heap.size w w12) := B10.out.trans (hc.below B10.out.size (by intro j h; omega))
  obtain ⟨qm, hqm⟩ : ∃ qm : Nat, 1 + 3 * fz K + M = qm := ⟨_, rfl⟩
  rw [hqm]
  have HQM := hid hqm
  have hm1 : ¬ ((qm : Nat) : Int) < 0 := by omega
  have hm2 : (((qm : Nat) : Int) != ((qm : Nat) : Int)) = false := by simp
  clear e0 hc hmk q1 q2 q3 q4 q5 q6 q7 q8 hqm A10 T10 V10 Gb10 OV10 OG10 B10 hq1
  have e0 := Gb11.out.cells
  go_wp2_with fail
  refine (heldBox_any _ g nm t b ny _ N _ _ M _ K _ MG11.out K1.out K2.out K3.out K6.out K4.out).mono ?_; rintro e w13 ⟨rfl, hb⟩
  rw [HQM.out]
  clear e0
  have A12 := hid (A11.out.later hb)
  have T12 := hid (T11.out.later hb)
  have B12 := hid (btr B11.out hb)
  have V12 := hid (V11.out.later hb)
  have OV12 := hid (OV11.out.later hb)
  have Gb12 := hid (Gb11.out.later hb)
  have MG12 := hid (MG11.out.later hb)
  clear A11 T11 B11 V11 OV11 Gb11 MG11
  clear hb
  have HSw13 : Hid (∀ W, Below w13.heap.size w13 W → (W.cell? ⟨w.heap.size, 0, none⟩ = some (.int .i64 g) ∧ W.cell? ⟨w.heap.size, 1, none⟩ = some (.string nm) ∧ W.cell? ⟨w.heap.size, 2, none⟩ = some (.int .i64 t) ∧ W.cell? ⟨w.heap.size, 3, none⟩ = some (.int .i64 b) ∧ W.cell? ⟨w.heap.size, 4, none⟩ = some (.int .i64 nx) ∧ W.cell? ⟨w.heap.size, 5, none⟩ = some (.slice ma mn mc) ∧ W.cell? ⟨w.heap.size, 6, none⟩ = some (.slice ga gn gc)) ∧ (W.cell? ⟨w.heap.size + 1, 0, none⟩ = some (.int .i64 st) ∧ W.cell? ⟨w.heap.size + 1, 1, none⟩ = some (.int .i64 sb))) :=
    fun W h => ⟨(A12.out.later h).cells, (T12.out.later h).cells⟩
  have HMw13 := hid (HM.out.later B12.out)
  have HIw13 := hid (HS'.out.later B12.out)
  go_wp2_with fail
  go_cut [18, 19] from 20 (fun s s' wx => ∃ (k : Nat) (a : Option Addr) (c : Nat) (a' : Option Addr) (c' : Nat), s = .pointer (some ⟨k, 0, none⟩) ∧ s' = .bool p ∧ Ans w13 wx k g nm t b ny (.slice a N c) (.slice a' M c') K H)
  case first =>
    refine wp_region_noPanic ?_
    refine wp_region_held_drew (S := (fun W => (W.cell? ⟨w.heap.size, 0, none⟩ = some (.int .i64 g) ∧ W.cell? ⟨w.heap.size, 1, none⟩ = some (.string nm) ∧ W.cell? ⟨w.heap.size, 2, none⟩ = some (.int .i64 t) ∧ W.cell? ⟨w.heap.size, 3, none⟩ = some (.int .i64 b) ∧ W.cell? ⟨w.heap.size, 4, none⟩ = some (.int .i64 nx) ∧ W.cell? ⟨w.heap.size, 5, none⟩ = some (.slice ma mn mc) ∧ W.cell? ⟨w.heap.size, 6, none⟩ = some (.slice ga gn gc)) ∧ (W.cell? ⟨w.heap.size + 1, 0, none⟩ = some (.int .i64 st) ∧ W.cell? ⟨w.heap.size + 1, 1, none⟩ = some (.int .i64 sb)))) (by kernel_rfl) (HSw13.out _ (bdr (bre _))) (fun hHeld => ?_)
    refine wpAnyH_take (i := 0) (oi := { dst := some 88, op := Op.load 27 (Operand.tmp 4), type := 27, pos := "exact.go:2640", after := #[], guard := none }) (v := ?vd1_0) rfl (by kernel_rfl) (by kernel_rfl) (by kernel_rfl) (fun _ _ _ h => h) (Or.inl ⟨by rfl, ?hyd1_0⟩) (by assumption) ?restd1_0
    case hyd1_0 => (intro w hSw; (try dsimp only at hSw); go_simp; try with_reducible rfl)
    try simp only [Act.put, List.setIfInBounds_toArray, List.set_cons_zero, List.set_cons_succ]
    refine wpAnyH_take (i := 2) (oi := { dst := some 90, op := Op.move (Operand.tmp 1), type := 3, pos := "exact.go:2640", after := #[], guard := none }) (v := ?vd2_2) rfl (by kernel_rfl) (by kernel_rfl) (by kernel_rfl) (fun _ _ _ h => h) (Or.inl ⟨by rfl, ?hyd2_2⟩) (by assumption) ?restd2_2
    case hyd2_2 => (intro w hSw; (try dsimp only at hSw); go_simp; try with_reducible rfl)
    try simp only [Act.put, List.setIfInBounds_toArray, List.set_cons_zero, List.set_cons_succ]
    refine wpAnyH_take (i := 3) (oi := { dst := some 91, op := Op.move (Operand.tmp 2), type := 3, pos := "exact.go:2640", after := #[], guard := none }) (v := ?vd3_3) rfl (by kernel_rfl) (by kernel_rfl) (by kernel_rfl) (fun _ _ _ h => h) (Or.inl ⟨by rfl, ?hyd3_3⟩) (by assumption) ?restd3_3
    case hyd3_3 => (intro w hSw; (try dsimp only at hSw); go_simp; try with_reducible rfl)
    try simp only [Act.put, List.setIfInBounds_toArray, List.set_cons_zero, List.set_cons_succ]
    refine wpAnyH_take (i := 4) (oi := { dst := some 92, op := Op.load 23 (Operand.tmp 7), type := 23, pos := "exact.go:2640", after := #[], guard := none }) (v := ?vd4_4) rfl (by kernel_rfl) (by kernel_rfl) (by kernel_rfl) (fun _ _ _ h => h) (Or.inl ⟨by rfl, ?hyd4_4⟩) (by assumption) ?restd4_4
    case hyd4_4 => (intro w hSw; (try dsimp only at hSw); go_simp; try with_reducible rfl)
    try simp only [Act.put, List.setIfInBounds_toArray, List.set_cons_zero, List.set_cons_succ]
    clear hHeld
    refine wpAnyH_ready (rs := [1, 10]) (by kernel_rfl) (by simp) ?_
    refine AllReadyH.cons (o := { dst := some 89, op := Op.call { callee := Callee.value (Operand.func 7), args := #[Operand.tmp 88], argTypes := #[27] }, type := 32, pos := "exact.go:2640", after := #[{ on := 0, ground := Ground.data }], guard := none }) rfl (fun K hK => ?_) ?_
    · go_simp
      refine (toBox_any lo hi lo' hi' g nm t b nx ma mn mc ga gn gc L G _ HL.out S2.out S4.out (HMw13.out.later (by repeat (first | exact bre _ | refine bdr ?_ | refine btr ?_ (by assumption) | refine bpush ?_ _))) HGL.out S3.out (HIw13.out.later (by repeat (first | exact bre _ | refine bdr ?_ | refine btr ?_ (by assumption) | refine bpush ?_ _)))).mono ?_; rintro e v1 ⟨km, kg, rfl, how, hb1⟩
      have P1 := hid how.reads.2.2.1
      have P2 := hid how.reads.2.2.2
      clear how
      go_wp2_with fail
      refine hK.out _ _ (HSw13.out _ (by repeat (first | exact bre _ | refine bdr ?_ | refine btr ?_ (by assumption) | refine bpush ?_ _))) (fun hHeld => ?_)
      clear hK K
      try simp only [Act.put, List.setIfInBounds_toArray, List.set_cons_zero, List.set_cons_succ]
      clear hHeld
      refine wpAnyH_ready (rs := [5, 10]) (by kernel_rfl) (by simp) ?_
      refine AllReadyH.cons (o := { dst := some 93, op := Op.call { callee := Callee.value (Operand.func 8), args := #[Operand.tmp 92], argTypes := #[23] }, type := 29, pos := "exact.go:2640", after := #[{ on := 4, ground := Ground.data }, { on := 1, ground := Ground.chain }], guard := none }) rfl (fun K hK => ?_) ?_
      · go_simp
        refine (toStamp_b st sb _).mono ?_; rintro e v2 ⟨rfl, hb2⟩
        go_wp2_with fail
        refine hK.out _ _ (HSw13.out _ (by repeat (first | exact bre _ | refine bdr ?_ | refine btr ?_ (by assumption) | refine bpush ?_ _))) (fun hHeld => ?_)
        clear hK K
        try simp only [Act.put, List.setIfInBounds_toArray, List.set_cons_zero, List.set_cons_succ]
        clear hHeld
        refine wpAnyH_ready (rs := [6, 10]) (by kernel_rfl) (by simp) ?_
        refine AllReadyH.cons (o := { dst := some 94, op := Op.call { callee := Callee.value (Operand.func 9), args := #[Operand.tmp 89, Operand.tmp 90, Operand.tmp 91, Operand.tmp 93], argTypes := #[32, 3, 3, 29] }, type := 33, pos := "exact.go:2640", after := #[{ on := 1, ground := Ground.data }, { on := 2, ground := Ground.data }, { on := 3, ground := Ground.data }, { on := 5, ground := Ground.data }, { on := 5, ground := Ground.chain }], guard := none }) rfl (fun K hK => ?_) ?_
        · go_simp
          refine (CIM.out _ _ _ _ _ _ _ (P1.out.later (by repeat (first | exact bre _ | refine bdr ?_ | refine btr ?_ (by assumption) | refine bpush ?_ _))) (P2.out.later (by repeat (first | exact bre _ | refine bdr ?_ | refine btr ?_ (by assumption) | refine bpush ?_ _)))).mono ?_; rintro e v3 ⟨av, cv, av', cv', rfl, ho3, hb3⟩
          have HO3 := hid ho3
          clear ho3
          go_wp2_with fail
          refine hK.out _ _ (HSw13.out _ (by repeat (first | exact bre _ | refine bdr ?_ | refine btr ?_ (by assumption) | refine bpush ?_ _))) (fun hHeld => ?_)
          clear hK K
          try simp only [Act.put, List.setIfInBounds_toArray, List.set_cons_zero, List.set_cons_succ]
          refine wpAnyH_take (i := 7) (oi := { dst := some 87, op := Op.move (Operand.tmp 94), type := 33, pos := "exact.go:2640", after := #[{ on := 6, ground := Ground.data }], guard := none }) (v := ?vd5_7) rfl (by kernel_rfl) (by kernel_rfl) (by kernel_rfl) (fun _ _ _ h => h) (Or.inl ⟨by rfl, ?hyd5_7⟩) (by assumption) ?restd5_7
          case hyd5_7 => (intro w hSw; (try dsimp only at hSw); go_simp; try with_reducible rfl)
          try simp only [Act.put, List.setIfInBounds_toArray, List.set_cons_zero, List.set_cons_succ]
          refine wpAnyH_take (i := 8) (oi := { dst := some 95, op := Op.extract (Operand.tmp 87) 0, type := 32, pos := "exact.go:2640", after := #[{ on := 7, ground := Ground.data }], guard := none }) (v := ?vd6_8) rfl (by kernel_rfl) (by kernel_rfl) (by kernel_rfl) (fun _ _ _ h => h) (Or.inl ⟨by rfl, ?hyd6_8⟩) (by assumption) ?restd6_8
          case hyd6_8 => (intro w hSw; (try dsimp only at hSw); go_simp; try with_reducible rfl)
          try simp only [Act.put, List.setIfInBounds_toArray, List.set_cons_zero, List.set_cons_succ]
          refine wpAnyH_take (i := 9) (oi := { dst := some 96, op := Op.extract (Operand.tmp 87) 1, type := 4, pos := "exact.go:2640", after := #[{ on := 7, ground := Ground.data }, { on := 11, ground := Ground.gcOnly Departure.lateStores }], guard := none }) (v := ?vd7_9) rfl (by kernel_rfl) (by kernel_rfl) (by kernel_rfl) (fun _ _ _ h => h) (Or.inl ⟨by rfl, ?hyd7_9⟩) (by assumption) ?restd7_9
          case hyd7_9 => (intro w hSw; (try dsimp only at hSw); go_simp; try with_reducible rfl)
          try simp only [Act.put, List.setIfInBounds_toArray, List.set_cons_zero, List.set_cons_succ]
          clear hHeld
          refine wpAnyH_ready (rs := [10]) (by kernel_rfl) (by simp) ?_
          refine AllReadyH.cons (o := { dst := some 18, op := Op.alloc 32, type := 0, pos := "exact.go:2640", after := #[], guard := none }) rfl (fun K hK => ?_) AllReadyH.nil
          go_simp
          have R0 : Hid (Bx ((v3).alloc (.cells #[.int .i64 0, .string ⟨#[]⟩, .int .i64 0, .int .i64 0, .int .i64 0, .slice none 0 0, .slice none 0 0] 32)) v3.heap.size 32 0 ⟨#[]⟩ 0 0 0 (.slice none 0 0) (.slice none 0 0)) := Bx.new _ _ _ _ _ _ _ _ _
          refine hK.out _ _ (HSw13.out _ (by repeat (first | exact bre _ | refine bdr ?_ | refine btr ?_ (by assumption) | refine bpush ?_ _))) (fun hHeld => ?_)
          clear hK K
          try simp only [Act.put, List.setIfInBounds_toArray, List.set_cons_zero, List.set_cons_succ]
          clear hHeld
          refine wpAnyH_ready (rs := [11]) (by kernel_rfl) (by simp) ?_
          refine AllReadyH.cons (o := { dst := none, op := Op.store 32 (Operand.tmp 18) (Operand.tmp 95), type := 0, pos := "exact.go:2640", after := #[{ on := 10, ground := Ground.data }, { on := 8, ground := Ground.data }, { on := 6, ground := Ground.chain }, { on := 0, ground := Ground.phase }, { on := 1, ground := Ground.phase }, { on := 2, ground := Ground.phase }, { on := 3, ground := Ground.phase }, { on := 4, ground := Ground.phase }, { on := 5, ground := Ground.phase }, { on := 6, ground := Ground.phase }, { on := 7, ground := Ground.phase }, { on := 8, ground := Ground.phase }, { on := 9, ground := Ground.textOnly Departure.lateStores }, { on := 10, ground := Ground.phase }], guard := none }) rfl (fun K hK => ?_) AllReadyH.nil
          go_simp
          have HA := hid (ans_last (wn := w13) (g := g) (nm := nm) (t := t) (b := b) (nx := ny) HO3.out (by refine Below.size (B := w13.heap.size) ?_; repeat (first | exact bre _ | refine bdr ?_ | refine btr ?_ (by assumption) | refine bpush ?_ _)) (by repeat (first | exact bre _ | refine bdr ?_ | refine btr ?_ (by assumption) | refine bpush ?_ _)))
          refine hK.out _ _ (HSw13.out _ HA.out.bel) (fun hHeld => ?_)
          clear hK K
          try simp only [Act.put, List.setIfInBounds_toArray, List.set_cons_zero, List.set_cons_succ]
          refine wpAnyH_take (i := 12) (oi := { dst := some 19, op := Op.assign (Operand.tmp 96), type := 4, pos := "exact.go:2640", after := #[{ on := 9, ground := Ground.data }, { on := 11, ground := Ground.chain }, { on := 0, ground := Ground.phase }, { on := 1, ground := Ground.phase }, { on := 2, ground := Ground.phase }, { on := 3, ground := Ground.phase }, { on := 4, ground := Ground.phase }, { on := 5, ground := Ground.phase }, { on := 6, ground := Ground.phase }, { on := 7, ground := Ground.phase }, { on := 8, ground := Ground.phase }, { on := 9, ground := Ground.phase }, { on := 10, ground := Ground.phase }, { on := 11, ground := Ground.phase }], guard := none }) (v := ?vd8_12) rfl (by kernel_rfl) (by kernel_rfl) (by kernel_rfl) (fun _ _ _ h => h) (Or.inl ⟨by rfl, ?hyd8_12⟩) (by assumption) ?restd8_12
          case hyd8_12 => (intro w hSw; (try dsimp only at hSw); go_simp; try with_reducible rfl)
          try simp only [Act.put, List.setIfInBounds_toArray, List.set_cons_zero, List.set_cons_succ]
          refine wpAnyH_done (by kernel_rfl) ?_ _
          refine NoPanic.normal ?_
          try go_wp2_with fail
          go_meet
          exact ⟨_, av, cv, av', cv', rfl, rfl, HA.out⟩
        refine AllReadyH.cons (o := { dst := some 18, op := Op.alloc 32, type := 0, pos := "exact.go:2640", after := #[], guard := none }) rfl (fun K hK => ?_) AllReadyH.nil
        go_simp
        have R0 : Hid (Bx ((v2).alloc (.cells #[.int .i64 0, .string ⟨#[]⟩, .int .i64 0, .int .i64 0, .int .i64 0, .slice none 0 0, .slice none 0 0] 32)) v2.heap.size 32 0 ⟨#[]⟩ 0 0 0 (.slice none 0 0) (.slice none 0 0)) := Bx.new _ _ _ _ _ _ _ _ _
        refine hK.out _ _ (HSw13.out _ (by repeat (first | exact bre _ | refine bdr ?_ | refine btr ?_ (by assumption) | refine bpush ?_ _))) (fun hHeld => ?_)
        clear hK K
        try simp only [Act.put, List.setIfInBounds_toArray, List.set_cons_zero, List.set_cons_succ]
        clear hHeld
        refine wpAnyH_ready (rs := [6]) (by kernel_rfl) (by simp) ?_
        refine AllReadyH.cons (o := { dst := some 94, op := Op.call { callee := Callee.value (Operand.func 9), args := #[Operand.tmp 89, Operand.tmp 90, Operand.tmp 91, Operand.tmp 93], argTypes := #[32, 3, 3, 29] }, type := 33, pos := "exact.go:2640", after := #[{ on := 1, ground := Ground.data }, { on := 2, ground := Ground.data }, { on := 3, ground := Ground.data }, { on := 5, ground := Ground.data }, { on := 5, ground := Ground.chain }], guard := none }) rfl (fun K hK => ?_) AllReadyH.nil
        go_simp
        refine (CIM.out _ _ _ _ _ _ _ (P1.out.later (by repeat (first | exact bre _ | refine bdr ?_ | refine btr ?_ (by assumption) | refine bpush ?_ _))) (P2.out.later (by repeat (first | exact bre _ | refine bdr ?_ | refine btr ?_ (by assumption) | refine bpush ?_ _)))).mono ?_; rintro e v3 ⟨av, cv, av', cv', rfl, ho3, hb3⟩
        have HO3 := hid ho3
        clear ho3
        have L1 := hid R0.out.lt
        have Rv3 := hid (R0.out.later hb3)
        have d1 := Rv3.out.cells
        have f1 := Rv3.out.loose
        go_wp2_with fail
        refine hK.out _ _ (HSw13.out _ (by repeat (first | exact bre _ | refine bdr ?_ | refine btr ?_ (by assumption) | refine bpush ?_ _))) (fun hHeld => ?_)
        clear hK K
        try simp only [Act.put, List.setIfInBounds_toArray, List.set_cons_zero, List.set_cons_succ]
        refine wpAnyH_take (i := 7) (oi := { dst := some 87, op := Op.move (Operand.tmp 94), type := 33, pos := "exact.go:2640", after := #[{ on := 6, ground := Ground.data }], guard := none }) (v := ?vd9_7) rfl (by kernel_rfl) (by kernel_rfl) (by kernel_rfl) (fun _ _ _ h => h) (Or.inl ⟨by rfl, ?hyd9_7⟩) (by assumption) ?restd9_7
        case hyd9_7 => (intro w hSw; (try dsimp only at hSw); go_simp; try with_reducible rfl)
        try simp only [Act.put, List.setIfInBounds_toArray, List.set_cons_zero, List.set_cons_succ]
        refine wpAnyH_take (i := 8) (oi := { dst := some 95, op := Op.extract (Operand.tmp 87) 0, type := 32, pos := "exact.go:2640", after := #[{ on := 7, ground := Ground.data }], guard := none }) (v := ?vd10_8) rfl (by kernel_rfl) (by kernel_rfl) (by kernel_rfl) (fun _ _ _ h => h) (Or.inl ⟨by rfl, ?hyd10_8⟩) (by assumption) ?restd10_8
        case hyd10_8 => (intro w hSw; (try dsimp only at hSw); go_simp; try with_reducible rfl)
        try simp only [Act.put, List.setIfInBounds_toArray, List.set_cons_zero, List.set_cons_succ]
        refine wpAnyH_take (i := 9) (oi := { dst := some 96, op := Op.extract (Operand.tmp 87) 1, type := 4, pos := "exact.go:2640", after := #[{ on := 7, ground := Ground.data }, { on := 11, ground := Ground.gcOnly Departure.lateStores }], guard := none }) (v := ?vd11_9) rfl (by kernel_rfl) (by kernel_rfl) (by kernel_rfl) (fun _ _ _ h => h) (Or.inl ⟨by rfl, ?hyd11_9⟩) (by assumption) ?restd11_9
        case hyd11_9 => (intro w hSw; (try dsimp only at hSw); go_simp; try with_reducible rfl)
        try simp only [Act.put, List.setIfInBounds_toArray, List.set_cons_zero, List.set_cons_succ]
        clear hHeld
        refine wpAnyH_ready (rs := [11]) (by kernel_rfl) (by simp) ?_
        refine AllReadyH.cons (o := { dst := none, op := Op.store 32 (Operand.tmp 18) (Operand.tmp 95), type := 0, pos := "exact.go:2640", after := #[{ on := 10, ground := Ground.data }, { on := 8, ground := Ground.data }, { on := 6, ground := Ground.chain }, { on := 0, ground := Ground.phase }, { on := 1, ground := Ground.phase }, { on := 2, ground := Ground.phase }, { on := 3, ground := Ground.phase }, { on := 4, ground := Ground.phase }, { on := 5, ground := Ground.phase }, { on := 6, ground := Ground.phase }, { on := 7, ground := Ground.phase }, { on := 8, ground := Ground.phase }, { on := 9, ground := Ground.textOnly Departure.lateStores }, { on := 10, ground := Ground.phase }], guard := none }) rfl (fun K hK => ?_) AllReadyH.nil
        go_simp
        have HA := hid (ans_first (wn := w13) (g := g) (nm := nm) (t := t) (b := b) (nx := ny) Rv3.out L1.out HO3.out (by first | exact Nat.le_refl _ | (refine Below.size (B := w13.heap.size) ?_; repeat (first | exact bre _ | refine bdr ?_ | refine btr ?_ (by assumption) | refine bpush ?_ _))) (by repeat (first | exact bre _ | refine bdr ?_ | refine btr ?_ (by assumption) | refine bpush ?_ _)))
        refine hK.out _ _ (HSw13.out _ HA.out.bel) (fun hHeld => ?_)
        clear hK K
        try simp only [Act.put, List.setIfInBounds_toArray, List.set_cons_zero, List.set_cons_succ]
        refine wpAnyH_take (i := 12) (oi := { dst := some 19, op := Op.assign (Operand.tmp 96), type := 4, pos := "exact.go:2640", after := #[{ on := 9, ground := Ground.data }, { on := 11, ground := Ground.chain }, { on := 0, ground := Ground.phase }, { on := 1, ground := Ground.phase }, { on := 2, ground := Ground.phase }, { on := 3, ground := Ground.phase }, { on := 4, ground := Ground.phase }, { on := 5, ground := Ground.phase }, { on := 6, ground := Ground.phase }, { on := 7, ground := Ground.phase }, { on := 8, ground := Ground.phase }, { on := 9, ground := Ground.phase }, { on := 10, ground := Ground.phase }, { on := 11, ground := Ground.phase }], guard := none }) (v := ?vd12_12) rfl (by kernel_rfl) (by kernel_rfl) (by kernel_rfl) (fun _ _ _ h => h) (Or.inl ⟨by rfl, ?hyd12_12⟩) (by assumption) ?restd12_12
        case hyd12_12 => (intro w hSw; (try dsimp only at hSw); go_simp; try with_reducible rfl)
        try simp only [Act.put, List.setIfInBounds_toArray, List.set_cons_zero, List.set_cons_succ]
        refine wpAnyH_done (by kernel_rfl) ?_ _
        refine NoPanic.normal ?_
        try go_wp2_with fail
        go_meet
        exact ⟨_, av, cv, av', cv', rfl, rfl, HA.out⟩
      refine AllReadyH.cons (o := { dst := some 18, op := Op.alloc 32, type := 0, pos := "exact.go:2640", after := #[], guard := none }) rfl (fun K hK => ?_) AllReadyH.nil
      go_simp
      have R0 : Hid (Bx ((v1).alloc (.cells #[.int .i64 0, .string ⟨#[]⟩, .int .i64 0, .int .i64 0, .int .i64 0, .slice none 0 0, .slice none 0 0] 32)) v1.heap.size 32 0 ⟨#[]⟩ 0 0 0 (.slice none 0 0) (.slice none 0 0)) := Bx.new _ _ _ _ _ _ _ _ _
      refine hK.out _ _ (HSw13.out _ (by repeat (first | exact bre _ | refine bdr ?_ | refine btr ?_ (by assumption) | refine bpush ?_ _))) (fun hHeld => ?_)
      clear hK K
      try simp only [Act.put, List.setIfInBounds_toArray, List.set_cons_zero, List.set_cons_succ]
      clear hHeld
      refine wpAnyH_ready (rs := [5]) (by kernel_rfl) (by simp) ?_
      refine AllReadyH.cons (o := { dst := some 93, op := Op.call { callee := Callee.value (Operand.func 8), args := #[Operand.tmp 92], argTypes := #[23] }, type := 29, pos := "exact.go:2640", after := #[{ on := 4, ground := Ground.data }, { on := 1, ground := Ground.chain }], guard := none }) rfl (fun K hK => ?_) AllReadyH.nil
      go_simp
      refine (toStamp_b st sb _).mono ?_; rintro e v2 ⟨rfl, hb2⟩
      have Rv2 := hid (R0.out.later hb2)
      go_wp2_with fail
      refine hK.out _ _ (HSw13.out _ (by repeat (first | exact bre _ | refine bdr ?_ | refine btr ?_ (by assumption) | refine bpush ?_ _))) (fun hHeld => ?_)
      clear hK K
      try simp only [Act.put, List.setIfInBounds_toArray, List.set_cons_zero, List.set_cons_succ]
      clear hHeld
      refine wpAnyH_ready (rs := [6]) (by kernel_rfl) (by simp) ?_
      refine AllReadyH.cons (o := { dst := some 94, op := Op.call { callee := Callee.value (Operand.func 9), args := #[Operand.tmp 89, Operand.tmp 90, Operand.tmp 91, Operand.tmp 93], argTypes := #[32, 3, 3, 29] }, type := 33, pos := "exact.go:2640", after := #[{ on := 1, ground := Ground.data }, { on := 2, ground := Ground.data }, { on := 3, ground := Ground.data }, { on := 5, ground := Ground.data }, { on := 5, ground := Ground.chain }], guard := none }) rfl (fun K hK => ?_) AllReadyH.nil
      go_simp
      refine (CIM.out _ _ _ _ _ _ _ (P1.out.later (by repeat (first | exact bre _ | refine bdr ?_ | refine btr ?_ (by assumption) | refine bpush ?_ _))) (P2.out.later (by repeat (first | exact bre _ | refine bdr ?_ | refine btr ?_ (by assumption) | refine bpush ?_ _)))).mono ?_; rintro e v3 ⟨av, cv, av', cv', rfl, ho3, hb3⟩
      have HO3 := hid ho3
      clear ho3
      have L1 := hid Rv2.out.lt
      have Rv3 := hid (Rv2.out.later hb3)
      have d1 := Rv3.out.cells
      have f1 := Rv3.out.loose
      go_wp2_with fail
      refine hK.out _ _ (HSw13.out _ (by repeat (first | exact bre _ | refine bdr ?_ | refine btr ?_ (by assumption) | refine bpush ?_ _))) (fun hHeld => ?_)
      clear hK K
      try simp only [Act.put, List.setIfInBounds_toArray, List.set_cons_zero, List.set_cons_succ]
      refine wpAnyH_take (i := 7) (oi := { dst := some 87, op := Op.move (Operand.tmp 94), type := 33, pos := "exact.go:2640", after := #[{ on := 6, ground := Ground.data }], guard := none }) (v := ?vd13_7) rfl (by kernel_rfl) (by kernel_rfl) (by kernel_rfl) (fun _ _ _ h => h) (Or.inl ⟨by rfl, ?hyd13_7⟩) (by assumption) ?restd13_7
      case hyd13_7 => (intro w hSw; (try dsimp only at hSw); go_simp; try with_reducible rfl)
      try simp only [Act.put, List.setIfInBounds_toArray, List.set_cons_zero, List.set_cons_succ]
      refine wpAnyH_take (i := 8) (oi := { dst := some 95, op := Op.extract (Operand.tmp 87) 0, type := 32, pos := "exact.go:2640", after := #[{ on := 7, ground := Ground.data }], guard := none }) (v := ?vd14_8) rfl (by kernel_rfl) (by kernel_rfl) (by kernel_rfl) (fun _ _ _ h => h) (Or.inl ⟨by rfl, ?hyd14_8⟩) (by assumption) ?restd14_8
      case hyd14_8 => (intro w hSw; (try dsimp only at hSw); go_simp; try with_reducible rfl)
      try simp only [Act.put, List.setIfInBounds_toArray, List.set_cons_zero, List.set_cons_succ]
      refine wpAnyH_take (i := 9) (oi := { dst := some 96, op := Op.extract (Operand.tmp 87) 1, type := 4, pos := "exact.go:2640", after := #[{ on := 7, ground := Ground.data }, { on := 11, ground := Ground.gcOnly Departure.lateStores }], guard := none }) (v := ?vd15_9) rfl (by kernel_rfl) (by kernel_rfl) (by kernel_rfl) (fun _ _ _ h => h) (Or.inl ⟨by rfl, ?hyd15_9⟩) (by assumption) ?restd15_9
      case hyd15_9 => (intro w hSw; (try dsimp only at hSw); go_simp; try with_reducible rfl)
      try simp only [Act.put, List.setIfInBounds_toArray, List.set_cons_zero, List.set_cons_succ]
      clear hHeld
      refine wpAnyH_ready (rs := [11]) (by kernel_rfl) (by simp) ?_
      refine AllReadyH.cons (o := { dst := none, op := Op.store 32 (Operand.tmp 18) (Operand.tmp 95), type := 0, pos := "exact.go:2640", after := #[{ on := 10, ground := Ground.data }, { on := 8, ground := Ground.data }, { on := 6, ground := Ground.chain }, { on := 0, ground := Ground.phase }, { on := 1, ground := Ground.phase }, { on := 2, ground := Ground.phase }, { on := 3, ground := Ground.phase }, { on := 4, ground := Ground.phase }, { on := 5, ground := Ground.phase }, { on := 6, ground := Ground.phase }, { on := 7, ground := Ground.phase }, { on := 8, ground := Ground.phase }, { on := 9, ground := Ground.textOnly Departure.lateStores }, { on := 10, ground := Ground.phase }], guard := none }) rfl (fun K hK => ?_) AllReadyH.nil
      go_simp
      have HA := hid (ans_first (wn := w13) (g := g) (nm := nm) (t := t) (b := b) (nx := ny) Rv3.out L1.out HO3.out (by first | exact Nat.le_refl _ | (refine Below.size (B := w13.heap.size) ?_; repeat (first | exact bre _ | refine bdr ?_ | refine btr ?_ (by assumption) | refine bpush ?_ _))) (by repeat (first | exact bre _ | refine bdr ?_ | refine btr ?_ (by assumption) | refine bpush ?_ _)))
      refine hK.out _ _ (HSw13.out _ HA.out.bel) (fun hHeld => ?_)
      clear hK K
      try simp only [Act.put, List.setIfInBounds_toArray, List.set_cons_zero, List.set_cons_succ]
      refine wpAnyH_take (i := 12) (oi := { dst := some 19, op := Op.assign (Operand.tmp 96), type := 4, pos := "exact.go:2640", after := #[{ on := 9, ground := Ground.data }, { on := 11, ground := Ground.chain }, { on := 0, ground := Ground.phase }, { on := 1, ground := Ground.phase }, { on := 2, ground := Ground.phase }, { on := 3, ground := Ground.phase }, { on := 4, ground := Ground.phase }, { on := 5, ground := Ground.phase }, { on := 6, ground := Ground.phase }, { on := 7, ground := Ground.phase }, { on := 8, ground := Ground.phase }, { on := 9, ground := Ground.phase }, { on := 10, ground := Ground.phase }, { on := 11, ground := Ground.phase }], guard := none }) (v := ?vd16_12) rfl (by kernel_rfl) (by kernel_rfl) (by kernel_rfl) (fun _ _ _ h => h) (Or.inl ⟨by rfl, ?hyd16_12⟩) (by assumption) ?restd16_12
      case hyd16_12 => (intro w hSw; (try dsimp only at hSw); go_simp; try with_reducible rfl)
      try simp only [Act.put, List.setIfInBounds_toArray, List.set_cons_zero, List.set_cons_succ]
      refine wpAnyH_done (by kernel_rfl) ?_ _
      refine NoPanic.normal ?_
      try go_wp2_with fail
      go_meet
      exact ⟨_, av, cv, av', cv', rfl, rfl, HA.out⟩
    refine AllReadyH.cons (o := { dst := some 18, op := Op.alloc 32, type := 0, pos := "exact.go:2640", after := #[], guard := none }) rfl (fun K hK => ?_) AllReadyH.nil
    go_simp
    have R0 : Hid (Bx ((w13.drew).alloc (.cells #[.int .i64 0, .string ⟨#[]⟩, .int .i64 0, .int .i64 0, .int .i64 0, .slice none 0 0, .slice none 0 0] 32)) w13.heap.size 32 0 ⟨#[]⟩ 0 0 0 (.slice none 0 0) (.slice none 0 0)) := Bx.new _ _ _ _ _ _ _ _ _
    refine hK.out _ _ (HSw13.out _ (by repeat (first | exact bre _ | refine bdr ?_ | refine btr ?_ (by assumption) | refine bpush ?_ _))) (fun hHeld => ?_)
    clear hK K
    try simp only [Act.put, List.setIfInBounds_toArray, List.set_cons_zero, List.set_cons_succ]
    clear hHeld
    refine wpAnyH_ready (rs := [1]) (by kernel_rfl) (by simp) ?_
    refine AllReadyH.cons (o := { dst := some 89, op := Op.call { callee := Callee.value (Operand.func 7), args := #[Operand.tmp 88], argTypes := #[27] }, type := 32, pos := "exact.go:2640", after := #[{ on := 0, ground := Ground.data }], guard := none }) rfl (fun K hK => ?_) AllReadyH.nil
    go_simp
    refine (toBox_any lo hi lo' hi' g nm t b nx ma mn mc ga gn gc L G _ HL.out S2.out S4.out (HMw13.out.later (by repeat (first | exact bre _ | refine bdr ?_ | refine btr ?_ (by assumption) | refine bpush ?_ _))) HGL.out S3.out (HIw13.out.later (by repeat (first | exact bre _ | refine bdr ?_ | refine btr ?_ (by assumption) | refine bpush ?_ _)))).mono ?_; rintro e v1 ⟨km, kg, rfl, how, hb1⟩
    have P1 := hid how.reads.2.2.1
    have P2 := hid how.reads.2.2.2
    clear how
    have Rv1 := hid (R0.out.later hb1)
    go_wp2_with fail
    refine hK.out _ _ (HSw13.out _ (by repeat (first | exact bre _ | refine bdr ?_ | refine btr ?_ (by assumption) | refine bpush ?_ _))) (fun hHeld => ?_)
    clear hK K
    try simp only [Act.put, List.setIfInBounds_toArray, List.set_cons_zero, List.set_cons_succ]
    clear hHeld
    refine wpAnyH_ready (rs := [5]) (by kernel_rfl) (by simp) ?_
    refine AllReadyH.cons (o := { dst := some 93, op := Op.call { callee := Callee.value (Operand.func 8), args := #[Operand.tmp 92], argTypes := #[23] }, type := 29, pos := "exact.go:2640", after := #[{ on := 4, ground := Ground.data }, { on := 1, ground := Ground.chain }], guard := none }) rfl (fun K hK => ?_) AllReadyH.nil
    go_simp
    refine (toStamp_b st sb _).mono ?_; rintro e v2 ⟨rfl, hb2⟩
    have Rv2 := hid (Rv1.out.later hb2)
    go_wp2_with fail
    refine hK.out _ _ (HSw13.out _ (by repeat (first | exact bre _ | refine bdr ?_ | refine btr ?_ (by assumption) | refine bpush ?_ _))) (fun hHeld => ?_)
    clear hK K
    try simp only [Act.put, List.setIfInBounds_toArray, List.set_cons_zero, List.set_cons_succ]
    clear hHeld
    refine wpAnyH_ready (rs := [6]) (by kernel_rfl) (by simp) ?_
    refine AllReadyH.cons (o := { dst := some 94, op := Op.call { callee := Callee.value (Operand.func 9), args := #[Operand.tmp 89, Operand.tmp 90, Operand.tmp 91, Operand.tmp 93], argTypes := #[32, 3, 3, 29] }, type := 33, pos := "exact.go:2640", after := #[{ on := 1, ground := Ground.data }, { on := 2, ground := Ground.data }, { on := 3, ground := Ground.data }, { on := 5, ground := Ground.data }, { on := 5, ground := Ground.chain }], guard := none }) rfl (fun K hK => ?_) AllReadyH.nil
    go_simp
    refine (CIM.out _ _ _ _ _ _ _ (P1.out.later (by repeat (first | exact bre _ | refine bdr ?_ | refine btr ?_ (by assumption) | refine bpush ?_ _))) (P2.out.later (by repeat (first | exact bre _ | refine bdr ?_ | refine btr ?_ (by assumption) | refine bpush ?_ _)))).mono ?_; rintro e v3 ⟨av, cv, av', cv', rfl, ho3, hb3⟩
    have HO3 := hid ho3
    clear ho3
    have L1 := hid Rv2.out.lt
    have Rv3 := hid (Rv2.out.later hb3)
    have d1 := Rv3.out.cells
    have f1 := Rv3.out.loose
    go_wp2_with fail
    refine hK.out _ _ (HSw13.out _ (by repeat (first | exact bre _ | refine bdr ?_ | refine btr ?_ (by assumption) | refine bpush ?_ _))) (fun hHeld => ?_)
    clear hK K
    try simp only [Act.put, List.setIfInBounds_toArray, List.set_cons_zero, List.set_cons_succ]
    refine wpAnyH_take (i := 7) (oi := { dst := some 87, op := Op.move (Operand.tmp 94), type := 33, pos := "exact.go:2640", after := #[{ on := 6, ground := Ground.data }], guard := none }) (v := ?vd17_7) rfl (by kernel_rfl) (by kernel_rfl) (by kernel_rfl) (fun _ _ _ h => h) (Or.inl ⟨by rfl, ?hyd17_7⟩) (by assumption) ?restd17_7
    case hyd17_7 => (intro w hSw; (try dsimp only at hSw); go_simp; try with_reducible rfl)
    try simp only [Act.put, List.setIfInBounds_toArray, List.set_cons_zero, List.set_cons_succ]
    refine wpAnyH_take (i := 8) (oi := { dst := some 95, op := Op.extract (Operand.tmp 87) 0, type := 32, pos := "exact.go:2640", after := #[{ on := 7, ground := Ground.data }], guard := none }) (v := ?vd18_8) rfl (by kernel_rfl) (by kernel_rfl) (by kernel_rfl) (fun _ _ _ h => h) (Or.inl ⟨by rfl, ?hyd18_8⟩) (by assumption) ?restd18_8
    case hyd18_8 => (intro w hSw; (try dsimp only at hSw); go_simp; try with_reducible rfl)
    try simp only [Act.put, List.setIfInBounds_toArray, List.set_cons_zero, List.set_cons_succ]
    refine wpAnyH_take (i := 9) (oi := { dst := some 96, op := Op.extract (Operand.tmp 87) 1, type := 4, pos := "exact.go:2640", after := #[{ on := 7, ground := Ground.data }, { on := 11, ground := Ground.gcOnly Departure.lateStores }], guard := none }) (v := ?vd19_9) rfl (by kernel_rfl) (by kernel_rfl) (by kernel_rfl) (fun _ _ _ h => h) (Or.inl ⟨by rfl, ?hyd19_9⟩) (by assumption) ?restd19_9
    case hyd19_9 => (intro w hSw; (try dsimp only at hSw); go_simp; try with_reducible rfl)
    try simp only [Act.put, List.setIfInBounds_toArray, List.set_cons_zero, List.set_cons_succ]
    clear hHeld
    refine wpAnyH_ready (rs := [11]) (by kernel_rfl) (by simp) ?_
    refine AllReadyH.cons (o := { dst := none, op := Op.store 32 (Operand.tmp 18) (Operand.tmp 95), type := 0, pos := "exact.go:2640", after := #[{ on := 10, ground := Ground.data }, { on := 8, ground := Ground.data }, { on := 6, ground := Ground.chain }, { on := 0, ground := Ground.phase }, { on := 1, ground := Ground.phase }, { on := 2, ground := Ground.phase }, { on := 3, ground := Ground.phase }, { on := 4, ground := Ground.phase }, { on := 5, ground := Ground.phase }, { on := 6, ground := Ground.phase }, { on := 7, ground := Ground.phase }, { on := 8, ground := Ground.phase }, { on := 9, ground := Ground.textOnly Departure.lateStores }, { on := 10, ground := Ground.phase }], guard := none }) rfl (fun K hK => ?_) AllReadyH.nil
    go_simp
    have HA := hid (ans_first (wn := w13) (g := g) (nm := nm) (t := t) (b := b) (nx := ny) Rv3.out L1.out HO3.out (by first | exact Nat.le_refl _ | (refine Below.size (B := w13.heap.size) ?_; repeat (first | exact bre _ | refine bdr ?_ | refine btr ?_ (by assumption) | refine bpush ?_ _))) (by repeat (first | exact bre _ | refine bdr ?_ | refine btr ?_ (by assumption) | refine bpush ?_ _)))
    refine hK.out _ _ (HSw13.out _ HA.out.bel) (fun hHeld => ?_)
    clear hK K
    try simp only [Act.put, List.setIfInBounds_toArray, List.set_cons_zero, List.set_cons_succ]
    refine wpAnyH_take (i := 12) (oi := { dst := some 19, op := Op.assign (Operand.tmp 96), type := 4, pos := "exact.go:2640", after := #[{ on := 9, ground := Ground.data }, { on := 11, ground := Ground.chain }, { on := 0, ground := Ground.phase }, { on := 1, ground := Ground.phase }, { on := 2, ground := Ground.phase }, { on := 3, ground := Ground.phase }, { on := 4, ground := Ground.phase }, { on := 5, ground := Ground.phase }, { on := 6, ground := Ground.phase }, { on := 7, ground := Ground.phase }, { on := 8, ground := Ground.phase }, { on := 9, ground := Ground.phase }, { on := 10, ground := Ground.phase }, { on := 11, ground := Ground.phase }], guard := none }) (v := ?vd20_12) rfl (by kernel_rfl) (by kernel_rfl) (by kernel_rfl) (fun _ _ _ h => h) (Or.inl ⟨by rfl, ?hyd20_12⟩) (by assumption) ?restd20_12
    case hyd20_12 => (intro w hSw; (try dsimp only at hSw); go_simp; try with_reducible rfl)
    try simp only [Act.put, List.setIfInBounds_toArray, List.set_cons_zero, List.set_cons_succ]
    refine wpAnyH_done (by kernel_rfl) ?_ _
    refine NoPanic.normal ?_
    try go_wp2_with fail
    go_meet
    exact ⟨_, av, cv, av', cv', rfl, rfl, HA.out⟩
  case rest =>
  obtain ⟨w14, hw14⟩ : ∃ w14, w14 = wc := ⟨_, rfl⟩
  subst hw14
  obtain ⟨kh, ah, ch, ah', ch', rfl, rfl, hv⟩ := hcut
  obtain ⟨BH, HH, ov, bv, tv, dv⟩ := hv.own
  have hb := hv.bel
  have A13 := hid (A12.out.later hb)
  have T13 := hid (T12.out.later hb)
  have B13 := hid (btr B12.out hb)
  have V13 := hid (V12.out.later hb)
  have OV13 := hid (OV12.out.later hb)
  have Gb13 := hid (Gb12.out.later hb)
  have MG13 := hid (MG12.out.later hb)
  clear A12 T12 B12 V12 OV12 Gb12 MG12
  have Hb13 := hid hv.box
  have OH13 := hid ov
  clear hb hv ov bv tv dv HSw13 HMw13 HIw13
  have e0 := Hb13.out.cells
  have e2 := V13.out.cells
  go_wp2_with fail
  refine (eqBox_any _ _ _ _ _ _ _ _ g nm t b ny _ N _ _ M _ _ _ _ _ K H _ K1.out K2.out K3.out OH13.out.b.reads.2.2.1 OV13.out.b.reads.2.2.1 K5.out K6.out OH13.out.b.reads.2.2.2 OV13.out.b.reads.2.2.2).mono ?_; rintro e w15 ⟨rfl, hb⟩
  clear e0 e2
  have A14 := hid (A13.out.later hb)
  have T14 := hid (T13.out.later hb)
  have B14 := hid (btr B13.out hb)
  have V14 := hid (V13.out.later hb)
  have OV14 := hid (OV13.out.later hb)
  have Gb14 := hid (Gb13.out.later hb)
  have MG14 := hid (MG13.out.later hb)
  clear A13 T13 B13 V13 OV13 Gb13 MG13
  clear hb
  have e0 := Gb14.out.cells
  go_wp2_with fail
  refine (heldBox_any _ g nm t b ny _ N _ _ M _ K _ MG14.out K1.out K2.out K3.out K6.out K4.out).mono ?_; rintro e w16 ⟨rfl, hb⟩
  rw [HQM.out]
  clear e0
  go_wp2
  go_ret
  exact ⟨rfl, btr B14.out hb⟩
end Go.Proofs.YtfmacodnjhegcamGreat
