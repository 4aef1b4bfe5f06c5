/- Mh. -/
import Derived.Test.YtlhofbnnonljaaaGreatDoorX5
namespace Go.Proofs.YtlhofbnnonljaaaGreatDoor
open Go.RowKit
set_option maxHeartbeats 4000000 in
set_option maxRecDepth 100000 in
theorem l06Sorted_any (lo hi : Nat) (ao : Option Addr) (n cap : Nat) (G : List Int) (w : World) (hl : G.length = n) (hn : n ≤ 1048576) (hr : Is lo hi w ao G) :
    Calls Tryz.prog 112 #[.slice ao n cap, .int .i64 40] w fun e w' => e = .returned (.bool (gnOk G)) ∧ Below w.heap.size w w' := by
  have HR := hid hr
  have HL := hid hl
  clear hr hl
  go_enter Tryz.func112, Tryz.ntmps112
  go_wp2
  go_loopw [5] (fun iv wr => ∃ (i : Nat), i ≤ n ∧ iv = .int .i64 (i : Int) ∧ Hid (asc 0 (G.take i) = true) ∧ Below w.heap.size w wr) (fun iv _ => n - (intOf iv).toNat)
  case atStart => exact ⟨0, Nat.zero_le _, rfl, rfl, bre _⟩
  case round =>
    obtain ⟨i, hi, rfl, HA, hb⟩ := hrel
    have HB := hid hb
    by_cases hlt : i < n
    · have hil : i < G.length := by rw [HL.out]; exact hlt
      obtain ⟨k, o, rfl, hk, c⟩ := (HR.out.later hb).at hil
      have hst := asc_take hil
      have hbad := asc_bad hil
      obtain ⟨x, hx⟩ : ∃ x, G[i] = x := ⟨_, rfl⟩
      rw [hx] at c hst hbad
      obtain ⟨p, hp, cp⟩ := in_l x
      rw [← hp.out] at hst hbad
      have hI : (0 : Int) ≤ (i : Int) ∧ (i : Int) < (n : Int) := by omega
      by_cases h0 : i = 0
      · have HP := hid (fun h : p = true => gok_pos (hp.out ▸ h))
        have hl0 : lst 0 (G.take i) = 0 := by rw [h0]; rfl
        rw [hl0] at hst hbad
        have HST := hid hst
        have HBD := hid hbad
        have HS : Hid (∀ W, Below wr.heap.size wr W → W.cell? ⟨k, o + i, none⟩ = some (.int .i64 x)) := fun W h => (h.cell (p := ⟨k, _, none⟩) hk).trans c
        have hpos : ¬ (0 : Int) < (i : Int) := by omega
        have hposN : ¬ 0 < i := by omega
        clear hst hbad hb c hx h0 hl0
        go_wp2_with fail
        refine wp_region_noPanic ?_
        refine wp_region_held_drew (S := (fun W => W.cell? ⟨k, o + i, none⟩ = some (.int .i64 x))) (by kernel_rfl) (HS.out _ (bdr (bre _))) (fun hHeld => ?_)
        refine wpAnyH_take (i := 0) (oi := { dst := some 12, op := Op.move (Operand.tmp 0), type := 55, pos := "l06_box.go:16", after := #[], guard := none }) (v := ?vb1_0) rfl (by kernel_rfl) (by kernel_rfl) (by kernel_rfl) (fun _ _ _ h => h) (Or.inl ⟨by rfl, ?hyb1_0⟩) (by assumption) ?restb1_0
        case hyb1_0 => (intro w hSw; (try dsimp only at hSw); go_simp; try with_reducible rfl)
        try simp only [Act.put, List.setIfInBounds_toArray, List.set_cons_zero, List.set_cons_succ]
        refine wpAnyH_take (i := 1) (oi := { dst := some 13, op := Op.move (Operand.tmp 5), type := 3, pos := "l06_box.go:16", after := #[], guard := none }) (v := ?vb2_1) rfl (by kernel_rfl) (by kernel_rfl) (by kernel_rfl) (fun _ _ _ h => h) (Or.inl ⟨by rfl, ?hyb2_1⟩) (by assumption) ?restb2_1
        case hyb2_1 => (intro w hSw; (try dsimp only at hSw); go_simp; try with_reducible rfl)
        try simp only [Act.put, List.setIfInBounds_toArray, List.set_cons_zero, List.set_cons_succ]
        refine wpAnyH_take (i := 2) (oi := { dst := some 14, op := Op.indexAddr 55 (Operand.tmp 12) (Operand.tmp 13), type := 0, pos := "l06_box.go:16", after := #[{ on := 0, ground := Ground.data }, { on := 1, ground := Ground.data }], guard := none }) (v := ?vb3_2) rfl (by kernel_rfl) (by kernel_rfl) (by kernel_rfl) (fun _ _ _ h => h) (Or.inl ⟨by rfl, ?hyb3_2⟩) (by assumption) ?restb3_2
        case hyb3_2 => (intro w hSw; (try dsimp only at hSw); go_simp; try with_reducible rfl)
        try simp only [Act.put, List.setIfInBounds_toArray, List.set_cons_zero, List.set_cons_succ]
        refine wpAnyH_take (i := 3) (oi := { dst := some 15, op := Op.load 3 (Operand.tmp 14), type := 3, pos := "l06_box.go:16", after := #[{ on := 2, ground := Ground.data }], guard := none }) (v := ?vb4_3) rfl (by kernel_rfl) (by kernel_rfl) (by kernel_rfl) (fun _ _ _ h => h) (Or.inl ⟨by rfl, ?hyb4_3⟩) (by assumption) ?restb4_3
        case hyb4_3 => (intro w hSw; (try dsimp only at hSw); go_simp; try with_reducible rfl)
        try simp only [Act.put, List.setIfInBounds_toArray, List.set_cons_zero, List.set_cons_succ]
        clear hHeld
        refine wpAnyH_ready (rs := [4]) (by kernel_rfl) (by simp) ?_
        refine AllReadyH.cons (o := { dst := some 16, op := Op.call { callee := Callee.value (Operand.func 15), args := #[Operand.tmp 15, Operand.const (Value.int IntKind.i64 1), Operand.const (Value.int IntKind.i64 9999)], argTypes := #[3, 3, 3] }, type := 4, pos := "l06_box.go:16", after := #[{ on := 3, ground := Ground.data }], guard := none }) rfl (fun K hK => ?_) AllReadyH.nil
        go_simp
        refine (cp.out _).mono ?_; rintro e w1 ⟨rfl, h1⟩
        subst h1
        go_wp2_with fail
        refine hK.out _ _ (HS.out _ (by repeat (first | exact bre _ | refine bdr ?_ | refine btr ?_ (by assumption)))) (fun hHeld => ?_)
        clear hK K
        try simp only [Act.put, List.setIfInBounds_toArray, List.set_cons_zero, List.set_cons_succ]
        cases p
        · refine wpAnyH_take (i := 5) (oi := { dst := some 17, op := Op.unOp UnOp.not 4 (Operand.tmp 16), type := 4, pos := "l06_box.go:16", after := #[{ on := 4, ground := Ground.data }], guard := none }) (v := ?vb6_5) rfl (by kernel_rfl) (by kernel_rfl) (by kernel_rfl) (fun _ _ _ h => h) (Or.inl ⟨by rfl, ?hyb6_5⟩) (by assumption) ?restb6_5
          case hyb6_5 => (intro w hSw; (try dsimp only at hSw); go_simp; try with_reducible rfl)
          try simp only [Act.put, List.setIfInBounds_toArray, List.set_cons_zero, List.set_cons_succ]
          refine wpAnyH_take (i := 6) (oi := { dst := some 18, op := Op.move (Operand.tmp 17), type := 4, pos := "l06_box.go:16", after := #[{ on := 5, ground := Ground.data }, { on := 4, ground := Ground.chain }], guard := none }) (v := ?vb7_6) rfl (by kernel_rfl) (by kernel_rfl) (by kernel_rfl) (fun _ _ _ h => h) (Or.inl ⟨by rfl, ?hyb7_6⟩) (by assumption) ?restb7_6
          case hyb7_6 => (intro w hSw; (try dsimp only at hSw); go_simp; try with_reducible rfl)
          try simp only [Act.put, List.setIfInBounds_toArray, List.set_cons_zero, List.set_cons_succ]
          refine wpAnyH_take (i := 7) (oi := { dst := some 19, op := Op.move (Operand.tmp 5), type := 3, pos := "l06_box.go:16", after := #[{ on := 6, ground := Ground.guard }], guard := some (6, false) }) (v := undef) rfl (by kernel_rfl) (by kernel_rfl) (by kernel_rfl) (fun _ _ _ h => h) (Or.inr ⟨by rfl, rfl⟩) (by assumption) ?_
          try simp only [Act.put, List.setIfInBounds_toArray, List.set_cons_zero, List.set_cons_succ]
          refine wpAnyH_take (i := 8) (oi := { dst := some 20, op := Op.binOp BinOp.gtr 3 (Operand.tmp 19) (Operand.const (Value.int IntKind.i64 0)) 3, type := 4, pos := "l06_box.go:16", after := #[{ on := 7, ground := Ground.data }, { on := 6, ground := Ground.guard }], guard := some (6, false) }) (v := undef) rfl (by kernel_rfl) (by kernel_rfl) (by kernel_rfl) (fun _ _ _ h => h) (Or.inr ⟨by rfl, rfl⟩) (by assumption) ?_
          try simp only [Act.put, List.setIfInBounds_toArray, List.set_cons_zero, List.set_cons_succ]
          refine wpAnyH_take (i := 9) (oi := { dst := some 21, op := Op.move (Operand.tmp 20), type := 4, pos := "l06_box.go:16", after := #[{ on := 8, ground := Ground.data }, { on := 6, ground := Ground.chain }, { on := 6, ground := Ground.guard }], guard := some (6, false) }) (v := undef) rfl (by kernel_rfl) (by kernel_rfl) (by kernel_rfl) (fun _ _ _ h => h) (Or.inr ⟨by rfl, rfl⟩) (by assumption) ?_
          try simp only [Act.put, List.setIfInBounds_toArray, List.set_cons_zero, List.set_cons_succ]
          refine wpAnyH_take (i := 10) (oi := { dst := some 22, op := Op.move (Operand.tmp 0), type := 55, pos := "l06_box.go:16", after := #[{ on := 9, ground := Ground.guard }], guard := some (9, true) }) (v := undef) rfl (by kernel_rfl) (by kernel_rfl) (by kernel_rfl) (fun _ _ _ h => h) (Or.inr ⟨by rfl, rfl⟩) (by assumption) ?_
          try simp only [Act.put, List.setIfInBounds_toArray, List.set_cons_zero, List.set_cons_succ]
          refine wpAnyH_take (i := 11) (oi := { dst := some 23, op := Op.move (Operand.tmp 5), type := 3, pos := "l06_box.go:16", after := #[{ on := 9, ground := Ground.guard }], guard := some (9, true) }) (v := undef) rfl (by kernel_rfl) (by kernel_rfl) (by kernel_rfl) (fun _ _ _ h => h) (Or.inr ⟨by rfl, rfl⟩) (by assumption) ?_
          try simp only [Act.put, List.setIfInBounds_toArray, List.set_cons_zero, List.set_cons_succ]
          refine wpAnyH_take (i := 12) (oi := { dst := some 24, op := Op.binOp BinOp.sub 3 (Operand.tmp 23) (Operand.const (Value.int IntKind.i64 1)) 3, type := 3, pos := "l06_box.go:16", after := #[{ on := 11, ground := Ground.data }, { on := 9, ground := Ground.guard }], guard := some (9, true) }) (v := undef) rfl (by kernel_rfl) (by kernel_rfl) (by kernel_rfl) (fun _ _ _ h => h) (Or.inr ⟨by rfl, rfl⟩) (by assumption) ?_
          try simp only [Act.put, List.setIfInBounds_toArray, List.set_cons_zero, List.set_cons_succ]
          refine wpAnyH_take (i := 13) (oi := { dst := some 25, op := Op.indexAddr 55 (Operand.tmp 22) (Operand.tmp 24), type := 0, pos := "l06_box.go:16", after := #[{ on := 10, ground := Ground.data }, { on := 12, ground := Ground.data }, { on := 9, ground := Ground.guard }], guard := some (9, true) }) (v := undef) rfl (by kernel_rfl) (by kernel_rfl) (by kernel_rfl) (fun _ _ _ h => h) (Or.inr ⟨by rfl, rfl⟩) (by assumption) ?_
          try simp only [Act.put, List.setIfInBounds_toArray, List.set_cons_zero, List.set_cons_succ]
          refine wpAnyH_take (i := 14) (oi := { dst := some 26, op := Op.load 3 (Operand.tmp 25), type := 3, pos := "l06_box.go:16", after := #[{ on := 13, ground := Ground.data }, { on := 9, ground := Ground.guard }], guard := some (9, true) }) (v := undef) rfl (by kernel_rfl) (by kernel_rfl) (by kernel_rfl) (fun _ _ _ h => h) (Or.inr ⟨by rfl, rfl⟩) (by assumption) ?_
          try simp only [Act.put, List.setIfInBounds_toArray, List.set_cons_zero, List.set_cons_succ]
          refine wpAnyH_take (i := 15) (oi := { dst := some 27, op := Op.move (Operand.tmp 0), type := 55, pos := "l06_box.go:16", after := #[{ on := 9, ground := Ground.guard }], guard := some (9, true) }) (v := undef) rfl (by kernel_rfl) (by kernel_rfl) (by kernel_rfl) (fun _ _ _ h => h) (Or.inr ⟨by rfl, rfl⟩) (by assumption) ?_
          try simp only [Act.put, List.setIfInBounds_toArray, List.set_cons_zero, List.set_cons_succ]
          refine wpAnyH_take (i := 16) (oi := { dst := some 28, op := Op.move (Operand.tmp 5), type := 3, pos := "l06_box.go:16", after := #[{ on := 9, ground := Ground.guard }], guard := some (9, true) }) (v := undef) rfl (by kernel_rfl) (by kernel_rfl) (by kernel_rfl) (fun _ _ _ h => h) (Or.inr ⟨by rfl, rfl⟩) (by assumption) ?_
          try simp only [Act.put, List.setIfInBounds_toArray, List.set_cons_zero, List.set_cons_succ]
          refine wpAnyH_take (i := 17) (oi := { dst := some 29, op := Op.indexAddr 55 (Operand.tmp 27) (Operand.tmp 28), type := 0, pos := "l06_box.go:16", after := #[{ on := 15, ground := Ground.data }, { on := 16, ground := Ground.data }, { on := 9, ground := Ground.guard }], guard := some (9, true) }) (v := undef) rfl (by kernel_rfl) (by kernel_rfl) (by kernel_rfl) (fun _ _ _ h => h) (Or.inr ⟨by rfl, rfl⟩) (by assumption) ?_
          try simp only [Act.put, List.setIfInBounds_toArray, List.set_cons_zero, List.set_cons_succ]
          refine wpAnyH_take (i := 18) (oi := { dst := some 30, op := Op.load 3 (Operand.tmp 29), type := 3, pos := "l06_box.go:16", after := #[{ on := 17, ground := Ground.data }, { on := 9, ground := Ground.guard }], guard := some (9, true) }) (v := undef) rfl (by kernel_rfl) (by kernel_rfl) (by kernel_rfl) (fun _ _ _ h => h) (Or.inr ⟨by rfl, rfl⟩) (by assumption) ?_
          try simp only [Act.put, List.setIfInBounds_toArray, List.set_cons_zero, List.set_cons_succ]
          refine wpAnyH_take (i := 19) (oi := { dst := some 31, op := Op.binOp BinOp.geq 3 (Operand.tmp 26) (Operand.tmp 30) 3, type := 4, pos := "l06_box.go:16", after := #[{ on := 14, ground := Ground.data }, { on := 18, ground := Ground.data }, { on := 9, ground := Ground.guard }], guard := some (9, true) }) (v := undef) rfl (by kernel_rfl) (by kernel_rfl) (by kernel_rfl) (fun _ _ _ h => h) (Or.inr ⟨by rfl, rfl⟩) (by assumption) ?_
          try simp only [Act.put, List.setIfInBounds_toArray, List.set_cons_zero, List.set_cons_succ]
          refine wpAnyH_take (i := 20) (oi := { dst := some 32, op := Op.pick (Operand.tmp 21) (Operand.tmp 31) (Operand.const (Value.bool false)), type := 4, pos := "l06_box.go:16", after := #[{ on := 9, ground := Ground.data }, { on := 19, ground := Ground.data }, { on := 6, ground := Ground.guard }], guard := some (6, false) }) (v := undef) rfl (by kernel_rfl) (by kernel_rfl) (by kernel_rfl) (fun _ _ _ h => h) (Or.inr ⟨by rfl, rfl⟩) (by assumption) ?_
          try simp only [Act.put, List.setIfInBounds_toArray, List.set_cons_zero, List.set_cons_succ]
          refine wpAnyH_take (i := 21) (oi := { dst := some 33, op := Op.pick (Operand.tmp 18) (Operand.const (Value.bool true)) (Operand.tmp 32), type := 4, pos := "l06_box.go:16", after := #[{ on := 6, ground := Ground.data }, { on := 20, ground := Ground.data }], guard := none }) (v := ?vb22_21) rfl (by kernel_rfl) (by kernel_rfl) (by kernel_rfl) (fun _ _ _ h => h) (Or.inl ⟨by rfl, ?hyb22_21⟩) (by assumption) ?restb22_21
          case hyb22_21 => (intro w hSw; (try dsimp only at hSw); go_simp; try with_reducible rfl)
          try simp only [Act.put, List.setIfInBounds_toArray, List.set_cons_zero, List.set_cons_succ]
          refine wpAnyH_done (by kernel_rfl) ?_ _
          refine NoPanic.normal ?_
          have HE : Hid (gnOk G = false) := gnOk_bad (HBD.out (by simp))
          clear hHeld
          go_wp2
          go_ret
          exact ⟨by rw [HE.out]; rfl, btr HB.out (by repeat (first | exact bre _ | refine bdr ?_ | refine btr ?_ (by assumption)))⟩
        · refine wpAnyH_take (i := 5) (oi := { dst := some 17, op := Op.unOp UnOp.not 4 (Operand.tmp 16), type := 4, pos := "l06_box.go:16", after := #[{ on := 4, ground := Ground.data }], guard := none }) (v := ?vb23_5) rfl (by kernel_rfl) (by kernel_rfl) (by kernel_rfl) (fun _ _ _ h => h) (Or.inl ⟨by rfl, ?hyb23_5⟩) (by assumption) ?restb23_5
          case hyb23_5 => (intro w hSw; (try dsimp only at hSw); go_simp; try with_reducible rfl)
          try simp only [Act.put, List.setIfInBounds_toArray, List.set_cons_zero, List.set_cons_succ]
          refine wpAnyH_take (i := 6) (oi := { dst := some 18, op := Op.move (Operand.tmp 17), type := 4, pos := "l06_box.go:16", after := #[{ on := 5, ground := Ground.data }, { on := 4, ground := Ground.chain }], guard := none }) (v := ?vb24_6) rfl (by kernel_rfl) (by kernel_rfl) (by kernel_rfl) (fun _ _ _ h => h) (Or.inl ⟨by rfl, ?hyb24_6⟩) (by assumption) ?restb24_6
          case hyb24_6 => (intro w hSw; (try dsimp only at hSw); go_simp; try with_reducible rfl)
          try simp only [Act.put, List.setIfInBounds_toArray, List.set_cons_zero, List.set_cons_succ]
          refine wpAnyH_take (i := 7) (oi := { dst := some 19, op := Op.move (Operand.tmp 5), type := 3, pos := "l06_box.go:16", after := #[{ on := 6, ground := Ground.guard }], guard := some (6, false) }) (v := ?vb25_7) rfl (by kernel_rfl) (by kernel_rfl) (by kernel_rfl) (fun _ _ _ h => h) (Or.inl ⟨by rfl, ?hyb25_7⟩) (by assumption) ?restb25_7
          case hyb25_7 => (intro w hSw; (try dsimp only at hSw); go_simp; try with_reducible rfl)
          try simp only [Act.put, List.setIfInBounds_toArray, List.set_cons_zero, List.set_cons_succ]
          · refine wpAnyH_take (i := 8) (oi := { dst := some 20, op := Op.binOp BinOp.gtr 3 (Operand.tmp 19) (Operand.const (Value.int IntKind.i64 0)) 3, type := 4, pos := "l06_box.go:16", after := #[{ on := 7, ground := Ground.data }, { on := 6, ground := Ground.guard }], guard := some (6, false) }) (v := ?vb26_8) rfl (by kernel_rfl) (by kernel_rfl) (by kernel_rfl) (fun _ _ _ h => h) (Or.inl ⟨by rfl, ?hyb26_8⟩) (by assumption) ?restb26_8
            case hyb26_8 => (intro w hSw; (try dsimp only at hSw); go_simp; try with_reducible rfl)
            try simp only [Act.put, List.setIfInBounds_toArray, List.set_cons_zero, List.set_cons_succ]
            refine wpAnyH_take (i := 9) (oi := { dst := some 21, op := Op.move (Operand.tmp 20), type := 4, pos := "l06_box.go:16", after := #[{ on := 8, ground := Ground.data }, { on := 6, ground := Ground.chain }, { on := 6, ground := Ground.guard }], guard := some (6, false) }) (v := ?vb27_9) rfl (by kernel_rfl) (by kernel_rfl) (by kernel_rfl) (fun _ _ _ h => h) (Or.inl ⟨by rfl, ?hyb27_9⟩) (by assumption) ?restb27_9
            case hyb27_9 => (intro w hSw; (try dsimp only at hSw); go_simp; try with_reducible rfl)
            try simp only [Act.put, List.setIfInBounds_toArray, List.set_cons_zero, List.set_cons_succ]
            refine wpAnyH_take (i := 10) (oi := { dst := some 22, op := Op.move (Operand.tmp 0), type := 55, pos := "l06_box.go:16", after := #[{ on := 9, ground := Ground.guard }], guard := some (9, true) }) (v := undef) rfl (by kernel_rfl) (by kernel_rfl) (by kernel_rfl) (fun _ _ _ h => h) (Or.inr ⟨by rfl, rfl⟩) (by assumption) ?_
            try simp only [Act.put, List.setIfInBounds_toArray, List.set_cons_zero, List.set_cons_succ]
            refine wpAnyH_take (i := 11) (oi := { dst := some 23, op := Op.move (Operand.tmp 5), type := 3, pos := "l06_box.go:16", after := #[{ on := 9, ground := Ground.guard }], guard := some (9, true) }) (v := undef) rfl (by kernel_rfl) (by kernel_rfl) (by kernel_rfl) (fun _ _ _ h => h) (Or.inr ⟨by rfl, rfl⟩) (by assumption) ?_
            try simp only [Act.put, List.setIfInBounds_toArray, List.set_cons_zero, List.set_cons_succ]
            refine wpAnyH_take (i := 12) (oi := { dst := some 24, op := Op.binOp BinOp.sub 3 (Operand.tmp 23) (Operand.const (Value.int IntKind.i64 1)) 3, type := 3, pos := "l06_box.go:16", after := #[{ on := 11, ground := Ground.data }, { on := 9, ground := Ground.guard }], guard := some (9, true) }) (v := undef) rfl (by kernel_rfl) (by kernel_rfl) (by kernel_rfl) (fun _ _ _ h => h) (Or.inr ⟨by rfl, rfl⟩) (by assumption) ?_
            try simp only [Act.put, List.setIfInBounds_toArray, List.set_cons_zero, List.set_cons_succ]
            refine wpAnyH_take (i := 13) (oi := { dst := some 25, op := Op.indexAddr 55 (Operand.tmp 22) (Operand.tmp 24), type := 0, pos := "l06_box.go:16", after := #[{ on := 10, ground := Ground.data }, { on := 12, ground := Ground.data }, { on := 9, ground := Ground.guard }], guard := some (9, true) }) (v := undef) rfl (by kernel_rfl) (by kernel_rfl) (by kernel_rfl) (fun _ _ _ h => h) (Or.inr ⟨by rfl, rfl⟩) (by assumption) ?_
            try simp only [Act.put, List.setIfInBounds_toArray, List.set_cons_zero, List.set_cons_succ]
            refine wpAnyH_take (i := 14) (oi := { dst := some 26, op := Op.load 3 (Operand.tmp 25), type := 3, pos := "l06_box.go:16", after := #[{ on := 13, ground := Ground.data }, { on := 9, ground := Ground.guard }], guard := some (9, true) }) (v := undef) rfl (by kernel_rfl) (by kernel_rfl) (by kernel_rfl) (fun _ _ _ h => h) (Or.inr ⟨by rfl, rfl⟩) (by assumption) ?_
            try simp only [Act.put, List.setIfInBounds_toArray, List.set_cons_zero, List.set_cons_succ]
            refine wpAnyH_take (i := 15) (oi := { dst := some 27, op := Op.move (Operand.tmp 0), type := 55, pos := "l06_box.go:16", after := #[{ on := 9, ground := Ground.guard }], guard := some (9, true) }) (v := undef) rfl (by kernel_rfl) (by kernel_rfl) (by kernel_rfl) (fun _ _ _ h => h) (Or.inr ⟨by rfl, rfl⟩) (by assumption) ?_
            try simp only [Act.put, List.setIfInBounds_toArray, List.set_cons_zero, List.set_cons_succ]
            refine wpAnyH_take (i := 16) (oi := { dst := some 28, op := Op.move (Operand.tmp 5), type := 3, pos := "l06_box.go:16", after := #[{ on := 9, ground := Ground.guard }], guard := some (9, true) }) (v := undef) rfl (by kernel_rfl) (by kernel_rfl) (by kernel_rfl) (fun _ _ _ h => h) (Or.inr ⟨by rfl, rfl⟩) (by assumption) ?_
            try simp only [Act.put, List.setIfInBounds_toArray, List.set_cons_zero, List.set_cons_succ]
            refine wpAnyH_take (i := 17) (oi := { dst := some 29, op := Op.indexAddr 55 (Operand.tmp 27) (Operand.tmp 28), type := 0, pos := "l06_box.go:16", after := #[{ on := 15, ground := Ground.data }, { on := 16, ground := Ground.data }, { on := 9, ground := Ground.guard }], guard := some (9, true) }) (v := undef) rfl (by kernel_rfl) (by kernel_rfl) (by kernel_rfl) (fun _ _ _ h => h) (Or.inr ⟨by rfl, rfl⟩) (by assumption) ?_
            try simp only [Act.put, List.setIfInBounds_toArray, List.set_cons_zero, List.set_cons_succ]
            refine wpAnyH_take (i := 18) (oi := { dst := some 30, op := Op.load 3 (Operand.tmp 29), type := 3, pos := "l06_box.go:16", after := #[{ on := 17, ground := Ground.data }, { on := 9, ground := Ground.guard }], guard := some (9, true) }) (v := undef) rfl (by kernel_rfl) (by kernel_rfl) (by kernel_rfl) (fun _ _ _ h => h) (Or.inr ⟨by rfl, rfl⟩) (by assumption) ?_
            try simp only [Act.put, List.setIfInBounds_toArray, List.set_cons_zero, List.set_cons_succ]
            refine wpAnyH_take (i := 19) (oi := { dst := some 31, op := Op.binOp BinOp.geq 3 (Operand.tmp 26) (Operand.tmp 30) 3, type := 4, pos := "l06_box.go:16", after := #[{ on := 14, ground := Ground.data }, { on := 18, ground := Ground.data }, { on := 9, ground := Ground.guard }], guard := some (9, true) }) (v := undef) rfl (by kernel_rfl) (by kernel_rfl) (by kernel_rfl) (fun _ _ _ h => h) (Or.inr ⟨by rfl, rfl⟩) (by assumption) ?_
            try simp only [Act.put, List.setIfInBounds_toArray, List.set_cons_zero, List.set_cons_succ]
            refine wpAnyH_take (i := 20) (oi := { dst := some 32, op := Op.pick (Operand.tmp 21) (Operand.tmp 31) (Operand.const (Value.bool false)), type := 4, pos := "l06_box.go:16", after := #[{ on := 9, ground := Ground.data }, { on := 19, ground := Ground.data }, { on := 6, ground := Ground.guard }], guard := some (6, false) }) (v := ?vb38_20) rfl (by kernel_rfl) (by kernel_rfl) (by kernel_rfl) (fun _ _ _ h => h) (Or.inl ⟨by rfl, ?hyb38_20⟩) (by assumption) ?restb38_20
            case hyb38_20 => (intro w hSw; (try dsimp only at hSw); go_simp; try with_reducible rfl)
            try simp only [Act.put, List.setIfInBounds_toArray, List.set_cons_zero, List.set_cons_succ]
            refine wpAnyH_take (i := 21) (oi := { dst := some 33, op := Op.pick (Operand.tmp 18) (Operand.const (Value.bool true)) (Operand.tmp 32), type := 4, pos := "l06_box.go:16", after := #[{ on := 6, ground := Ground.data }, { on := 20, ground := Ground.data }], guard := none }) (v := ?vb39_21) rfl (by kernel_rfl) (by kernel_rfl) (by kernel_rfl) (fun _ _ _ h => h) (Or.inl ⟨by rfl, ?hyb39_21⟩) (by assumption) ?restb39_21
            case hyb39_21 => (intro w hSw; (try dsimp only at hSw); go_simp; try with_reducible rfl)
            try simp only [Act.put, List.setIfInBounds_toArray, List.set_cons_zero, List.set_cons_succ]
            refine wpAnyH_done (by kernel_rfl) ?_ _
            refine NoPanic.normal ?_
            have HE : Hid (asc 0 (G.take (i + 1)) = true) := by show _ = _; rw [HST.out, HA.out]; simp [HP.out rfl]
            clear hHeld
            go_wp2
            go_roundw
            case rel => exact ⟨i + 1, by omega, by go_num, HE, btr HB.out (by repeat (first | exact bre _ | refine bdr ?_ | refine btr ?_ (by assumption)))⟩
            case measure => simp [intOf]; omega

      · obtain ⟨j, hj⟩ : ∃ j : Nat, i = j + 1 := ⟨i - 1, by omega⟩
        have hjl : j < G.length := by omega
        obtain ⟨k', o', e', hk', c'⟩ := (HR.out.later hb).at hjl
        simp only [Option.some.injEq, Addr.mk.injEq, and_true] at e'
        obtain ⟨rfl, rfl⟩ := e'
        obtain ⟨y, hy⟩ : ∃ y, G[j] = y := ⟨_, rfl⟩
        have hly : lst 0 (G.take i) = y := by rw [hj, lst_take hjl, hy]
        rw [hy] at c'
        rw [hly] at hst hbad
        have hij : (i : Int) - 1 = (j : Int) := by omega
        have hwj : IntKind.i64.wrap (j : Int) = (j : Int) := by rw [IntKind.wrap_i64]; omega
        have hJ : (0 : Int) ≤ (j : Int) ∧ (j : Int) < (n : Int) := by omega
        have hpos : (0 : Int) < (i : Int) := by omega
        have hposN : 0 < i := by omega
        have HST := hid hst
        have HBD := hid hbad
        have HS : Hid (∀ W, Below wr.heap.size wr W → W.cell? ⟨k, o + i, none⟩ = some (.int .i64 x) ∧ W.cell? ⟨k, o + j, none⟩ = some (.int .i64 y)) := fun W h => ⟨(h.cell (p := ⟨k, _, none⟩) hk).trans c, (h.cell (p := ⟨k, _, none⟩) hk).trans c'⟩
        clear hst hbad hb c c' hx hy hly hj
        go_wp2_with fail
        refine wp_region_noPanic ?_
        refine wp_region_held_drew (S := (fun W => W.cell? ⟨k, o + i, none⟩ = some (.int .i64 x) ∧ W.cell? ⟨k, o + j, none⟩ = some (.int .i64 y))) (by kernel_rfl) (HS.out _ (bdr (bre _))) (fun hHeld => ?_)
        refine wpAnyH_take (i := 0) (oi := { dst := some 12, op := Op.move (Operand.tmp 0), type := 55, pos := "l06_box.go:16", after := #[], guard := none }) (v := ?vc1_0) rfl (by kernel_rfl) (by kernel_rfl) (by kernel_rfl) (fun _ _ _ h => h) (Or.inl ⟨by rfl, ?hyc1_0⟩) (by assumption) ?restc1_0
        case hyc1_0 => (intro w hSw; (try dsimp only at hSw); go_simp; try with_reducible rfl)
        try simp only [Act.put, List.setIfInBounds_toArray, List.set_cons_zero, List.set_cons_succ]
        refine wpAnyH_take (i := 1) (oi := { dst := some 13, op := Op.move (Operand.tmp 5), type := 3, pos := "l06_box.go:16", after := #[], guard := none }) (v := ?vc2_1) rfl (by kernel_rfl) (by kernel_rfl) (by kernel_rfl) (fun _ _ _ h => h) (Or.inl ⟨by rfl, ?hyc2_1⟩) (by assumption) ?restc2_1
        case hyc2_1 => (intro w hSw; (try dsimp only at hSw); go_simp; try with_reducible rfl)
        try simp only [Act.put, List.setIfInBounds_toArray, List.set_cons_zero, List.set_cons_succ]
        refine wpAnyH_take (i := 2) (oi := { dst := some 14, op := Op.indexAddr 55 (Operand.tmp 12) (Operand.tmp 13), type := 0, pos := "l06_box.go:16", after := #[{ on := 0, ground := Ground.data }, { on := 1, ground := Ground.data }], guard := none }) (v := ?vc3_2) rfl (by kernel_rfl) (by kernel_rfl) (by kernel_rfl) (fun _ _ _ h => h) (Or.inl ⟨by rfl, ?hyc3_2⟩) (by assumption) ?restc3_2
        case hyc3_2 => (intro w hSw; (try dsimp only at hSw); go_simp; try with_reducible rfl)
        try simp only [Act.put, List.setIfInBounds_toArray, List.set_cons_zero, List.set_cons_succ]
        refine wpAnyH_take (i := 3) (oi := { dst := some 15, op := Op.load 3 (Operand.tmp 14), type := 3, pos := "l06_box.go:16", after := #[{ on := 2, ground := Ground.data }], guard := none }) (v := ?vc4_3) rfl (by kernel_rfl) (by kernel_rfl) (by kernel_rfl) (fun _ _ _ h => h) (Or.inl ⟨by rfl, ?hyc4_3⟩) (by assumption) ?restc4_3
        case hyc4_3 => (intro w hSw; (try dsimp only at hSw); go_simp; try with_reducible rfl)
        try simp only [Act.put, List.setIfInBounds_toArray, List.set_cons_zero, List.set_cons_succ]
        clear hHeld
        refine wpAnyH_ready (rs := [4]) (by kernel_rfl) (by simp) ?_
        refine AllReadyH.cons (o := { dst := some 16, op := Op.call { callee := Callee.value (Operand.func 15), args := #[Operand.tmp 15, Operand.const (Value.int IntKind.i64 1), Operand.const (Value.int IntKind.i64 9999)], argTypes := #[3, 3, 3] }, type := 4, pos := "l06_box.go:16", after := #[{ on := 3, ground := Ground.data }], guard := none }) rfl (fun K hK => ?_) AllReadyH.nil
        go_simp
        refine (cp.out _).mono ?_; rintro e w1 ⟨rfl, h1⟩
        subst h1
        go_wp2_with fail
        refine hK.out _ _ (HS.out _ (by repeat (first | exact bre _ | refine bdr ?_ | refine btr ?_ (by assumption)))) (fun hHeld => ?_)
        clear hK K
        try simp only [Act.put, List.setIfInBounds_toArray, List.set_cons_zero, List.set_cons_succ]
        cases p
        · refine wpAnyH_take (i := 5) (oi := { dst := some 17, op := Op.unOp UnOp.not 4 (Operand.tmp 16), type := 4, pos := "l06_box.go:16", after := #[{ on := 4, ground := Ground.data }], guard := none }) (v := ?vc6_5) rfl (by kernel_rfl) (by kernel_rfl) (by kernel_rfl) (fun _ _ _ h => h) (Or.inl ⟨by rfl, ?hyc6_5⟩) (by assumption) ?restc6_5
          case hyc6_5 => (intro w hSw; (try dsimp only at hSw); go_simp; try with_reducible rfl)
          try simp only [Act.put, List.setIfInBounds_toArray, List.set_cons_zero, List.set_cons_succ]
          refine wpAnyH_take (i := 6) (oi := { dst := some 18, op := Op.move (Operand.tmp 17), type := 4, pos := "l06_box.go:16", after := #[{ on := 5, ground := Ground.data }, { on := 4, ground := Ground.chain }], guard := none }) (v := ?vc7_6) rfl (by kernel_rfl) (by kernel_rfl) (by kernel_rfl) (fun _ _ _ h => h) (Or.inl ⟨by rfl, ?hyc7_6⟩) (by assumption) ?restc7_6
          case hyc7_6 => (intro w hSw; (try dsimp only at hSw); go_simp; try with_reducible rfl)
          try simp only [Act.put, List.setIfInBounds_toArray, List.set_cons_zero, List.set_cons_succ]
          refine wpAnyH_take (i := 7) (oi := { dst := some 19, op := Op.move (Operand.tmp 5), type := 3, pos := "l06_box.go:16", after := #[{ on := 6, ground := Ground.guard }], guard := some (6, false) }) (v := undef) rfl (by kernel_rfl) (by kernel_rfl) (by kernel_rfl) (fun _ _ _ h => h) (Or.inr ⟨by rfl, rfl⟩) (by assumption) ?_
          try simp only [Act.put, List.setIfInBounds_toArray, List.set_cons_zero, List.set_cons_succ]
          refine wpAnyH_take (i := 8) (oi := { dst := some 20, op := Op.binOp BinOp.gtr 3 (Operand.tmp 19) (Operand.const (Value.int IntKind.i64 0)) 3, type := 4, pos := "l06_box.go:16", after := #[{ on := 7, ground := Ground.data }, { on := 6, ground := Ground.guard }], guard := some (6, false) }) (v := undef) rfl (by kernel_rfl) (by kernel_rfl) (by kernel_rfl) (fun _ _ _ h => h) (Or.inr ⟨by rfl, rfl⟩) (by assumption) ?_
          try simp only [Act.put, List.setIfInBounds_toArray, List.set_cons_zero, List.set_cons_succ]
          refine wpAnyH_take (i := 9) (oi := { dst := some 21, op := Op.move (Operand.tmp 20), type := 4, pos := "l06_box.go:16", after := #[{ on := 8, ground := Ground.data }, { on := 6, ground := Ground.chain }, { on := 6, ground := Ground.guard }], guard := some (6, false) }) (v := undef) rfl (by kernel_rfl) (by kernel_rfl) (by kernel_rfl) (fun _ _ _ h => h) (Or.inr ⟨by rfl, rfl⟩) (by assumption) ?_
          try simp only [Act.put, List.setIfInBounds_toArray, List.set_cons_zero, List.set_cons_succ]
          refine wpAnyH_take (i := 10) (oi := { dst := some 22, op := Op.move (Operand.tmp 0), type := 55, pos := "l06_box.go:16", after := #[{ on := 9, ground := Ground.guard }], guard := some (9, true) }) (v := undef) rfl (by kernel_rfl) (by kernel_rfl) (by kernel_rfl) (fun _ _ _ h => h) (Or.inr ⟨by rfl, rfl⟩) (by assumption) ?_
          try simp only [Act.put, List.setIfInBounds_toArray, List.set_cons_zero, List.set_cons_succ]
          refine wpAnyH_take (i := 11) (oi := { dst := some 23, op := Op.move (Operand.tmp 5), type := 3, pos := "l06_box.go:16", after := #[{ on := 9, ground := Ground.guard }], guard := some (9, true) }) (v := undef) rfl (by kernel_rfl) (by kernel_rfl) (by kernel_rfl) (fun _ _ _ h => h) (Or.inr ⟨by rfl, rfl⟩) (by assumption) ?_
          try simp only [Act.put, List.setIfInBounds_toArray, List.set_cons_zero, List.set_cons_succ]
          refine wpAnyH_take (i := 12) (oi := { dst := some 24, op := Op.binOp BinOp.sub 3 (Operand.tmp 23) (Operand.const (Value.int IntKind.i64 1)) 3, type := 3, pos := "l06_box.go:16", after := #[{ on := 11, ground := Ground.data }, { on := 9, ground := Ground.guard }], guard := some (9, true) }) (v := undef) rfl (by kernel_rfl) (by kernel_rfl) (by kernel_rfl) (fun _ _ _ h => h) (Or.inr ⟨by rfl, rfl⟩) (by assumption) ?_
          try simp only [Act.put, List.setIfInBounds_toArray, List.set_cons_zero, List.set_cons_succ]
          refine wpAnyH_take (i := 13) (oi := { dst := some 25, op := Op.indexAddr 55 (Operand.tmp 22) (Operand.tmp 24), type := 0, pos := "l06_box.go:16", after := #[{ on := 10, ground := Ground.data }, { on := 12, ground := Ground.data }, { on := 9, ground := Ground.guard }], guard := some (9, true) }) (v := undef) rfl (by kernel_rfl) (by kernel_rfl) (by kernel_rfl) (fun _ _ _ h => h) (Or.inr ⟨by rfl, rfl⟩) (by assumption) ?_
          try simp only [Act.put, List.setIfInBounds_toArray, List.set_cons_zero, List.set_cons_succ]
          refine wpAnyH_take (i := 14) (oi := { dst := some 26, op := Op.load 3 (Operand.tmp 25), type := 3, pos := "l06_box.go:16", after := #[{ on := 13, ground := Ground.data }, { on := 9, ground := Ground.guard }], guard := some (9, true) }) (v := undef) rfl (by kernel_rfl) (by kernel_rfl) (by kernel_rfl) (fun _ _ _ h => h) (Or.inr ⟨by rfl, rfl⟩) (by assumption) ?_
          try simp only [Act.put, List.setIfInBounds_toArray, List.set_cons_zero, List.set_cons_succ]
          refine wpAnyH_take (i := 15) (oi := { dst := some 27, op := Op.move (Operand.tmp 0), type := 55, pos := "l06_box.go:16", after := #[{ on := 9, ground := Ground.guard }], guard := some (9, true) }) (v := undef) rfl (by kernel_rfl) (by kernel_rfl) (by kernel_rfl) (fun _ _ _ h => h) (Or.inr ⟨by rfl, rfl⟩) (by assumption) ?_
          try simp only [Act.put, List.setIfInBounds_toArray, List.set_cons_zero, List.set_cons_succ]
          refine wpAnyH_take (i := 16) (oi := { dst := some 28, op := Op.move (Operand.tmp 5), type := 3, pos := "l06_box.go:16", after := #[{ on := 9, ground := Ground.guard }], guard := some (9, true) }) (v := undef) rfl (by kernel_rfl) (by kernel_rfl) (by kernel_rfl) (fun _ _ _ h => h) (Or.inr ⟨by rfl, rfl⟩) (by assumption) ?_
          try simp only [Act.put, List.setIfInBounds_toArray, List.set_cons_zero, List.set_cons_succ]
          refine wpAnyH_take (i := 17) (oi := { dst := some 29, op := Op.indexAddr 55 (Operand.tmp 27) (Operand.tmp 28), type := 0, pos := "l06_box.go:16", after := #[{ on := 15, ground := Ground.data }, { on := 16, ground := Ground.data }, { on := 9, ground := Ground.guard }], guard := some (9, true) }) (v := undef) rfl (by kernel_rfl) (by kernel_rfl) (by kernel_rfl) (fun _ _ _ h => h) (Or.inr ⟨by rfl, rfl⟩) (by assumption) ?_
          try simp only [Act.put, List.setIfInBounds_toArray, List.set_cons_zero, List.set_cons_succ]
          refine wpAnyH_take (i := 18) (oi := { dst := some 30, op := Op.load 3 (Operand.tmp 29), type := 3, pos := "l06_box.go:16", after := #[{ on := 17, ground := Ground.data }, { on := 9, ground := Ground.guard }], guard := some (9, true) }) (v := undef) rfl (by kernel_rfl) (by kernel_rfl) (by kernel_rfl) (fun _ _ _ h => h) (Or.inr ⟨by rfl, rfl⟩) (by assumption) ?_
          try simp only [Act.put, List.setIfInBounds_toArray, List.set_cons_zero, List.set_cons_succ]
          refine wpAnyH_take (i := 19) (oi := { dst := some 31, op := Op.binOp BinOp.geq 3 (Operand.tmp 26) (Operand.tmp 30) 3, type := 4, pos := "l06_box.go:16", after := #[{ on := 14, ground := Ground.data }, { on := 18, ground := Ground.data }, { on := 9, ground := Ground.guard }], guard := some (9, true) }) (v := undef) rfl (by kernel_rfl) (by kernel_rfl) (by kernel_rfl) (fun _ _ _ h => h) (Or.inr ⟨by rfl, rfl⟩) (by assumption) ?_
          try simp only [Act.put, List.setIfInBounds_toArray, List.set_cons_zero, List.set_cons_succ]
          refine wpAnyH_take (i := 20) (oi := { dst := some 32, op := Op.pick (Operand.tmp 21) (Operand.tmp 31) (Operand.const (Value.bool false)), type := 4, pos := "l06_box.go:16", after := #[{ on := 9, ground := Ground.data }, { on := 19, ground := Ground.data }, { on := 6, ground := Ground.guard }], guard := some (6, false) }) (v := undef) rfl (by kernel_rfl) (by kernel_rfl) (by kernel_rfl) (fun _ _ _ h => h) (Or.inr ⟨by rfl, rfl⟩) (by assumption) ?_
          try simp only [Act.put, List.setIfInBounds_toArray, List.set_cons_zero, List.set_cons_succ]
          refine wpAnyH_take (i := 21) (oi := { dst := some 33, op := Op.pick (Operand.tmp 18) (Operand.const (Value.bool true)) (Operand.tmp 32), type := 4, pos := "l06_box.go:16", after := #[{ on := 6, ground := Ground.data }, { on := 20, ground := Ground.data }], guard := none }) (v := ?vc22_21) rfl (by kernel_rfl) (by kernel_rfl) (by kernel_rfl) (fun _ _ _ h => h) (Or.inl ⟨by rfl, ?hyc22_21⟩) (by assumption) ?restc22_21
          case hyc22_21 => (intro w hSw; (try dsimp only at hSw); go_simp; try with_reducible rfl)
          try simp only [Act.put, List.setIfInBounds_toArray, List.set_cons_zero, List.set_cons_succ]
          refine wpAnyH_done (by kernel_rfl) ?_ _
          refine NoPanic.normal ?_
          have HE : Hid (gnOk G = false) := gnOk_bad (HBD.out (by simp))
          clear hHeld
          go_wp2
          go_ret
          exact ⟨by rw [HE.out]; rfl, btr HB.out (by repeat (first | exact bre _ | refine bdr ?_ | refine btr ?_ (by assumption)))⟩
        · refine wpAnyH_take (i := 5) (oi := { dst := some 17, op := Op.unOp UnOp.not 4 (Operand.tmp 16), type := 4, pos := "l06_box.go:16", after := #[{ on := 4, ground := Ground.data }], guard := none }) (v := ?vc23_5) rfl (by kernel_rfl) (by kernel_rfl) (by kernel_rfl) (fun _ _ _ h => h) (Or.inl ⟨by rfl, ?hyc23_5⟩) (by assumption) ?restc23_5
          case hyc23_5 => (intro w hSw; (try dsimp only at hSw); go_simp; try with_reducible rfl)
          try simp only [Act.put, List.setIfInBounds_toArray, List.set_cons_zero, List.set_cons_succ]
          refine wpAnyH_take (i := 6) (oi := { dst := some 18, op := Op.move (Operand.tmp 17), type := 4, pos := "l06_box.go:16", after := #[{ on := 5, ground := Ground.data }, { on := 4, ground := Ground.chain }], guard := none }) (v := ?vc24_6) rfl (by kernel_rfl) (by kernel_rfl) (by kernel_rfl) (fun _ _ _ h => h) (Or.inl ⟨by rfl, ?hyc24_6⟩) (by assumption) ?restc24_6
          case hyc24_6 => (intro w hSw; (try dsimp only at hSw); go_simp; try with_reducible rfl)
          try simp only [Act.put, List.setIfInBounds_toArray, List.set_cons_zero, List.set_cons_succ]
          refine wpAnyH_take (i := 7) (oi := { dst := some 19, op := Op.move (Operand.tmp 5), type := 3, pos := "l06_box.go:16", after := #[{ on := 6, ground := Ground.guard }], guard := some (6, false) }) (v := ?vc25_7) rfl (by kernel_rfl) (by kernel_rfl) (by kernel_rfl) (fun _ _ _ h => h) (Or.inl ⟨by rfl, ?hyc25_7⟩) (by assumption) ?restc25_7
          case hyc25_7 => (intro w hSw; (try dsimp only at hSw); go_simp; try with_reducible rfl)
          try simp only [Act.put, List.setIfInBounds_toArray, List.set_cons_zero, List.set_cons_succ]
          · refine wpAnyH_take (i := 8) (oi := { dst := some 20, op := Op.binOp BinOp.gtr 3 (Operand.tmp 19) (Operand.const (Value.int IntKind.i64 0)) 3, type := 4, pos := "l06_box.go:16", after := #[{ on := 7, ground := Ground.data }, { on := 6, ground := Ground.guard }], guard := some (6, false) }) (v := ?vc26_8) rfl (by kernel_rfl) (by kernel_rfl) (by kernel_rfl) (fun _ _ _ h => h) (Or.inl ⟨by rfl, ?hyc26_8⟩) (by assumption) ?restc26_8
            case hyc26_8 => (intro w hSw; (try dsimp only at hSw); go_simp; try with_reducible rfl)
            try simp only [Act.put, List.setIfInBounds_toArray, List.set_cons_zero, List.set_cons_succ]
            refine wpAnyH_take (i := 9) (oi := { dst := some 21, op := Op.move (Operand.tmp 20), type := 4, pos := "l06_box.go:16", after := #[{ on := 8, ground := Ground.data }, { on := 6, ground := Ground.chain }, { on := 6, ground := Ground.guard }], guard := some (6, false) }) (v := ?vc27_9) rfl (by kernel_rfl) (by kernel_rfl) (by kernel_rfl) (fun _ _ _ h => h) (Or.inl ⟨by rfl, ?hyc27_9⟩) (by assumption) ?restc27_9
            case hyc27_9 => (intro w hSw; (try dsimp only at hSw); go_simp; try with_reducible rfl)
            try simp only [Act.put, List.setIfInBounds_toArray, List.set_cons_zero, List.set_cons_succ]
            refine wpAnyH_take (i := 10) (oi := { dst := some 22, op := Op.move (Operand.tmp 0), type := 55, pos := "l06_box.go:16", after := #[{ on := 9, ground := Ground.guard }], guard := some (9, true) }) (v := ?vc28_10) rfl (by kernel_rfl) (by kernel_rfl) (by kernel_rfl) (fun _ _ _ h => h) (Or.inl ⟨by rfl, ?hyc28_10⟩) (by assumption) ?restc28_10
            case hyc28_10 => (intro w hSw; (try dsimp only at hSw); go_simp; try with_reducible rfl)
            try simp only [Act.put, List.setIfInBounds_toArray, List.set_cons_zero, List.set_cons_succ]
            refine wpAnyH_take (i := 11) (oi := { dst := some 23, op := Op.move (Operand.tmp 5), type := 3, pos := "l06_box.go:16", after := #[{ on := 9, ground := Ground.guard }], guard := some (9, true) }) (v := ?vc29_11) rfl (by kernel_rfl) (by kernel_rfl) (by kernel_rfl) (fun _ _ _ h => h) (Or.inl ⟨by rfl, ?hyc29_11⟩) (by assumption) ?restc29_11
            case hyc29_11 => (intro w hSw; (try dsimp only at hSw); go_simp; try with_reducible rfl)
            try simp only [Act.put, List.setIfInBounds_toArray, List.set_cons_zero, List.set_cons_succ]
            refine wpAnyH_take (i := 12) (oi := { dst := some 24, op := Op.binOp BinOp.sub 3 (Operand.tmp 23) (Operand.const (Value.int IntKind.i64 1)) 3, type := 3, pos := "l06_box.go:16", after := #[{ on := 11, ground := Ground.data }, { on := 9, ground := Ground.guard }], guard := some (9, true) }) (v := ?vc30_12) rfl (by kernel_rfl) (by kernel_rfl) (by kernel_rfl) (fun _ _ _ h => h) (Or.inl ⟨by rfl, ?hyc30_12⟩) (by assumption) ?restc30_12
            case hyc30_12 => (intro w hSw; (try dsimp only at hSw); go_simp; try with_reducible rfl)
            try simp only [Act.put, List.setIfInBounds_toArray, List.set_cons_zero, List.set_cons_succ]
            refine wpAnyH_take (i := 13) (oi := { dst := some 25, op := Op.indexAddr 55 (Operand.tmp 22) (Operand.tmp 24), type := 0, pos := "l06_box.go:16", after := #[{ on := 10, ground := Ground.data }, { on := 12, ground := Ground.data }, { on := 9, ground := Ground.guard }], guard := some (9, true) }) (v := ?vc31_13) rfl (by kernel_rfl) (by kernel_rfl) (by kernel_rfl) (fun _ _ _ h => h) (Or.inl ⟨by rfl, ?hyc31_13⟩) (by assumption) ?restc31_13
            case hyc31_13 => (intro w hSw; (try dsimp only at hSw); go_simp; try with_reducible rfl)
            try simp only [Act.put, List.setIfInBounds_toArray, List.set_cons_zero, List.set_cons_succ]
            refine wpAnyH_take (i := 14) (oi := { dst := some 26, op := Op.load 3 (Operand.tmp 25), type := 3, pos := "l06_box.go:16", after := #[{ on := 13, ground := Ground.data }, { on := 9, ground := Ground.guard }], guard := some (9, true) }) (v := ?vc32_14) rfl (by kernel_rfl) (by kernel_rfl) (by kernel_rfl) (fun _ _ _ h => h) (Or.inl ⟨by rfl, ?hyc32_14⟩) (by assumption) ?restc32_14
            case hyc32_14 => (intro w hSw; (try dsimp only at hSw); go_simp; try with_reducible rfl)
            try simp only [Act.put, List.setIfInBounds_toArray, List.set_cons_zero, List.set_cons_succ]
            refine wpAnyH_take (i := 15) (oi := { dst := some 27, op := Op.move (Operand.tmp 0), type := 55, pos := "l06_box.go:16", after := #[{ on := 9, ground := Ground.guard }], guard := some (9, true) }) (v := ?vc33_15) rfl (by kernel_rfl) (by kernel_rfl) (by kernel_rfl) (fun _ _ _ h => h) (Or.inl ⟨by rfl, ?hyc33_15⟩) (by assumption) ?restc33_15
            case hyc33_15 => (intro w hSw; (try dsimp only at hSw); go_simp; try with_reducible rfl)
            try simp only [Act.put, List.setIfInBounds_toArray, List.set_cons_zero, List.set_cons_succ]
            refine wpAnyH_take (i := 16) (oi := { dst := some 28, op := Op.move (Operand.tmp 5), type := 3, pos := "l06_box.go:16", after := #[{ on := 9, ground := Ground.guard }], guard := some (9, true) }) (v := ?vc34_16) rfl (by kernel_rfl) (by kernel_rfl) (by kernel_rfl) (fun _ _ _ h => h) (Or.inl ⟨by rfl, ?hyc34_16⟩) (by assumption) ?restc34_16
            case hyc34_16 => (intro w hSw; (try dsimp only at hSw); go_simp; try with_reducible rfl)
            try simp only [Act.put, List.setIfInBounds_toArray, List.set_cons_zero, List.set_cons_succ]
            refine wpAnyH_take (i := 17) (oi := { dst := some 29, op := Op.indexAddr 55 (Operand.tmp 27) (Operand.tmp 28), type := 0, pos := "l06_box.go:16", after := #[{ on := 15, ground := Ground.data }, { on := 16, ground := Ground.data }, { on := 9, ground := Ground.guard }], guard := some (9, true) }) (v := ?vc35_17) rfl (by kernel_rfl) (by kernel_rfl) (by kernel_rfl) (fun _ _ _ h => h) (Or.inl ⟨by rfl, ?hyc35_17⟩) (by assumption) ?restc35_17
            case hyc35_17 => (intro w hSw; (try dsimp only at hSw); go_simp; try with_reducible rfl)
            try simp only [Act.put, List.setIfInBounds_toArray, List.set_cons_zero, List.set_cons_succ]
            refine wpAnyH_take (i := 18) (oi := { dst := some 30, op := Op.load 3 (Operand.tmp 29), type := 3, pos := "l06_box.go:16", after := #[{ on := 17, ground := Ground.data }, { on := 9, ground := Ground.guard }], guard := some (9, true) }) (v := ?vc36_18) rfl (by kernel_rfl) (by kernel_rfl) (by kernel_rfl) (fun _ _ _ h => h) (Or.inl ⟨by rfl, ?hyc36_18⟩) (by assumption) ?restc36_18
            case hyc36_18 => (intro w hSw; (try dsimp only at hSw); go_simp; try with_reducible rfl)
            try simp only [Act.put, List.setIfInBounds_toArray, List.set_cons_zero, List.set_cons_succ]
            by_cases hle : y < x
            · refine wpAnyH_take (i := 19) (oi := { dst := some 31, op := Op.binOp BinOp.geq 3 (Operand.tmp 26) (Operand.tmp 30) 3, type := 4, pos := "l06_box.go:16", after := #[{ on := 14, ground := Ground.data }, { on := 18, ground := Ground.data }, { on := 9, ground := Ground.guard }], guard := some (9, true) }) (v := ?vc37_19) rfl (by kernel_rfl) (by kernel_rfl) (by kernel_rfl) (fun _ _ _ h => h) (Or.inl ⟨by rfl, ?hyc37_19⟩) (by assumption) ?restc37_19
              case hyc37_19 => (intro w hSw; (try dsimp only at hSw); go_simp; try with_reducible rfl)
              try simp only [Act.put, List.setIfInBounds_toArray, List.set_cons_zero, List.set_cons_succ]
              refine wpAnyH_take (i := 20) (oi := { dst := some 32, op := Op.pick (Operand.tmp 21) (Operand.tmp 31) (Operand.const (Value.bool false)), type := 4, pos := "l06_box.go:16", after := #[{ on := 9, ground := Ground.data }, { on := 19, ground := Ground.data }, { on := 6, ground := Ground.guard }], guard := some (6, false) }) (v := ?vc38_20) rfl (by kernel_rfl) (by kernel_rfl) (by kernel_rfl) (fun _ _ _ h => h) (Or.inl ⟨by rfl, ?hyc38_20⟩) (by assumption) ?restc38_20
              case hyc38_20 => (intro w hSw; (try dsimp only at hSw); go_simp; try with_reducible rfl)
              try simp only [Act.put, List.setIfInBounds_toArray, List.set_cons_zero, List.set_cons_succ]
              refine wpAnyH_take (i := 21) (oi := { dst := some 33, op := Op.pick (Operand.tmp 18) (Operand.const (Value.bool true)) (Operand.tmp 32), type := 4, pos := "l06_box.go:16", after := #[{ on := 6, ground := Ground.data }, { on := 20, ground := Ground.data }], guard := none }) (v := ?vc39_21) rfl (by kernel_rfl) (by kernel_rfl) (by kernel_rfl) (fun _ _ _ h => h) (Or.inl ⟨by rfl, ?hyc39_21⟩) (by assumption) ?restc39_21
              case hyc39_21 => (intro w hSw; (try dsimp only at hSw); go_simp; try with_reducible rfl)
              try simp only [Act.put, List.setIfInBounds_toArray, List.set_cons_zero, List.set_cons_succ]
              refine wpAnyH_done (by kernel_rfl) ?_ _
              refine NoPanic.normal ?_
              have HE : Hid (asc 0 (G.take (i + 1)) = true) := by show _ = _; rw [HST.out, HA.out]; simp [hle]
              clear hHeld
              go_wp2
              go_roundw
              case rel => exact ⟨i + 1, by omega, by go_num, HE, btr HB.out (by repeat (first | exact bre _ | refine bdr ?_ | refine btr ?_ (by assumption)))⟩
              case measure => simp [intOf]; omega
            · refine wpAnyH_take (i := 19) (oi := { dst := some 31, op := Op.binOp BinOp.geq 3 (Operand.tmp 26) (Operand.tmp 30) 3, type := 4, pos := "l06_box.go:16", after := #[{ on := 14, ground := Ground.data }, { on := 18, ground := Ground.data }, { on := 9, ground := Ground.guard }], guard := some (9, true) }) (v := ?vc40_19) rfl (by kernel_rfl) (by kernel_rfl) (by kernel_rfl) (fun _ _ _ h => h) (Or.inl ⟨by rfl, ?hyc40_19⟩) (by assumption) ?restc40_19
              case hyc40_19 => (intro w hSw; (try dsimp only at hSw); go_simp; try with_reducible rfl)
              try simp only [Act.put, List.setIfInBounds_toArray, List.set_cons_zero, List.set_cons_succ]
              refine wpAnyH_take (i := 20) (oi := { dst := some 32, op := Op.pick (Operand.tmp 21) (Operand.tmp 31) (Operand.const (Value.bool false)), type := 4, pos := "l06_box.go:16", after := #[{ on := 9, ground := Ground.data }, { on := 19, ground := Ground.data }, { on := 6, ground := Ground.guard }], guard := some (6, false) }) (v := ?vc41_20) rfl (by kernel_rfl) (by kernel_rfl) (by kernel_rfl) (fun _ _ _ h => h) (Or.inl ⟨by rfl, ?hyc41_20⟩) (by assumption) ?restc41_20
              case hyc41_20 => (intro w hSw; (try dsimp only at hSw); go_simp; try with_reducible rfl)
              try simp only [Act.put, List.setIfInBounds_toArray, List.set_cons_zero, List.set_cons_succ]
              refine wpAnyH_take (i := 21) (oi := { dst := some 33, op := Op.pick (Operand.tmp 18) (Operand.const (Value.bool true)) (Operand.tmp 32), type := 4, pos := "l06_box.go:16", after := #[{ on := 6, ground := Ground.data }, { on := 20, ground := Ground.data }], guard := none }) (v := ?vc42_21) rfl (by kernel_rfl) (by kernel_rfl) (by kernel_rfl) (fun _ _ _ h => h) (Or.inl ⟨by rfl, ?hyc42_21⟩) (by assumption) ?restc42_21
              case hyc42_21 => (intro w hSw; (try dsimp only at hSw); go_simp; try with_reducible rfl)
              try simp only [Act.put, List.setIfInBounds_toArray, List.set_cons_zero, List.set_cons_succ]
              refine wpAnyH_done (by kernel_rfl) ?_ _
              refine NoPanic.normal ?_
              have HE : Hid (gnOk G = false) := gnOk_bad (HBD.out (by simp [hle]))
              clear hHeld
              go_wp2
              go_ret
              exact ⟨by rw [HE.out]; rfl, btr HB.out (by repeat (first | exact bre _ | refine bdr ?_ | refine btr ?_ (by assumption)))⟩

    · have HE : Hid (gnOk G = decide ((n : Int) ≤ 40)) := by
        show _ = _
        have := HA.out
        rw [List.take_of_length_le (by rw [HL.out]; omega)] at this
        rw [gnOk_fin this, HL.out]
      go_wp2
      go_ret
      exact ⟨by rw [HE.out]; rfl, HB.out⟩
end Go.Proofs.YtlhofbnnonljaaaGreatDoor
namespace Go.Proofs.YtlhofbnnonljaaaGreatDoor
open Go.RowKit Go.ChangeMaps
/-- A mail of the map: as it lies, and when it came in. -/
abbrev En := Z5 × Nat
def zv (z : Z5) : Value := .agg #[.int .i64 z.1, .int .i64 z.2.1, z.2.2.1, .string z.2.2.2.2]
def ent (e : En) : MapEntry := { key := .int .i64 e.1.1, val := zv e.1, born := e.2 }
def mde (e : En) : M4 := md e.1
theorem find_no (g : Int) (E : List En) (n : Nat) (h : ∀ e ∈ E, e.1.1 ≠ g) : Instr.findNow (.int .i64) (.int .i64 g) (E.map ent) n = some none := by
  induction E generalizing n with
  | nil => rfl
  | cons e E ih =>
    have h1 : (g == e.1.1) = false := by
      rw [beq_eq_false_iff_ne]; exact fun x => h e (by simp) x.symm
    simp only [List.map_cons, Instr.findNow, ent, Instr.sameNow, if_true, h1]
    exact ih (n + 1) (fun x hx => h x (by simp [hx]))
theorem find_yes (g : Int) (E1 : List En) (e : En) (E2 : List En) (n : Nat) (h : ∀ x ∈ E1, x.1.1 ≠ g) (he : e.1.1 = g) : Instr.findNow (.int .i64) (.int .i64 g) ((E1 ++ e :: E2).map ent) n = some (some (n + E1.length, zv e.1)) := by
  induction E1 generalizing n with
  | nil =>
    have h1 : (g == e.1.1) = true := by rw [beq_iff_eq]; exact he.symm
    simp only [List.nil_append, List.map_cons, Instr.findNow, ent, Instr.sameNow, if_true, h1, List.length_nil, Nat.add_zero]
  | cons x E1 ih =>
    have h1 : (g == x.1.1) = false := by
      rw [beq_eq_false_iff_ne]; exact fun y => h x (by simp) y.symm
    simp only [List.cons_append, List.map_cons, Instr.findNow, ent, Instr.sameNow, if_true, h1]
    have := ih (n + 1) (fun y hy => h y (by simp [hy]))
    simp only [List.map_append, List.map_cons] at this ⊢
    rw [show n + (x :: E1).length = n + 1 + E1.length by simp only [List.length_cons]; omega]
    exact this
theorem run_check (g : Int) (em : Bool) (W : World) : (Instr.checkKey em 10000 3 (.int .i64 g)).run Tryz.prog W = .ok () W := by
  exact MapKept.run_checkKey Tryz.underlying3 (by first | exact ⟨_, rfl⟩ | trivial | constructor | simp [MapKept.IsKey]) em 9999
theorem run_find {g : Int} {es : List MapEntry} {r : Option (Nat × Value)} (W : World) (h : Instr.findNow (.int .i64) (.int .i64 g) es 0 = some r) : (Instr.findKey 3 (.int .i64 g) es).run Tryz.prog W = .ok r W := by
  simp [Instr.findKey, run_underlying Tryz.underlying3, Result.andThen, h]
theorem modify_at (A : List MapEntry) (x : MapEntry) (C : List MapEntry) (f : MapEntry → MapEntry) : (A ++ x :: C).modify A.length f = A ++ f x :: C := by
  induction A with
  | nil => rfl
  | cons a A ih => simpa using ih
theorem run_put_new {W : World} {b c : Nat} {E : List En} (hb : W.heap[b]? = some (.map (E.map ent).toArray c)) (z : Z5) (h : ∀ e ∈ E, e.1.1 ≠ z.1) :
    (Instr.mapUpdate 156 (.map (some b)) (.int .i64 z.1) (zv z)).run Tryz.prog W = .ok () (setBlock W b (.map ((E ++ [(z, c)]).map ent).toArray (c + 1))) := by
  have hf := run_find W (find_no z.1 E 0 h)
  simp [Instr.mapUpdate, run_underlying Tryz.underlying156, MapKept.run_getObj_map hb, run_check, hf, MapKept.run_setObj_map _ hb, Result.andThen, setBlock]
  rfl
theorem run_put_old {W : World} {b c : Nat} {E1 : List En} {e : En} {E2 : List En} (hb : W.heap[b]? = some (.map ((E1 ++ e :: E2).map ent).toArray c)) (z : Z5) (h : ∀ x ∈ E1, x.1.1 ≠ z.1) (he : e.1.1 = z.1) :
    (Instr.mapUpdate 156 (.map (some b)) (.int .i64 z.1) (zv z)).run Tryz.prog W = .ok () (setBlock W b (.map ((E1 ++ (z, e.2) :: E2).map ent).toArray c)) := by
  have hf := run_find W (find_yes z.1 E1 e E2 0 h he)
  rw [Nat.zero_add] at hf
  have hi : ((E1 ++ e :: E2).map ent).toArray[E1.length]? = some (ent e) := by simp
  have hm : ((E1 ++ e :: E2).map ent).toArray.modify E1.length (fun e' => { e' with key := .int .i64 z.1, val := zv z }) = ((E1 ++ (z, e.2) :: E2).map ent).toArray := by
    apply Array.ext'
    rw [Array.toList_modify]
    simp only [List.map_append, List.map_cons]
    have := modify_at (E1.map ent) (ent e) (E2.map ent) (fun e' => { e' with key := .int .i64 z.1, val := zv z })
    rw [List.length_map] at this
    rw [this]
    rfl
  have hk : ∀ W, (Instr.keyThatStays (.int .i64 e.1.1) (.int .i64 z.1)).run Tryz.prog W = .ok (.int .i64 z.1) W := fun W => by
    simp [Instr.keyThatStays, Instr.sameBits, he]
  have hi' : (((((E1 ++ e :: E2).map ent).toArray[E1.length]?).map (·.key)).getD (.int .i64 z.1)) = .int .i64 e.1.1 := by rw [hi]; rfl
  simp only [Instr.mapUpdate, run_underlying Tryz.underlying156, MapKept.run_getObj_map hb, run_check, hf, Result.andThen, Sem.run_bind, hi', hk, hm]
  rw [MapKept.run_setObj_map _ hb]
  rfl
/-- What is put into a list of mails by its Gid. -/
def pt (S : List M4) (m : M4) : List M4 := if S.any (fun x => decide (x.1 = m.1)) = true then S.map (fun x => if x.1 = m.1 then m else x) else S ++ [m]
def shl (L : List M4) : List M4 := L.foldl pt []
theorem pt_new {S : List M4} {m : M4} (h : ∀ x ∈ S, x.1 ≠ m.1) : pt S m = S ++ [m] := by
  unfold pt
  rw [if_neg]
  simp only [List.any_eq_true, decide_eq_true_eq, not_exists, not_and]
  exact h
theorem pt_old {S1 : List M4} {x : M4} {S2 : List M4} {m : M4} (h1 : ∀ y ∈ S1, y.1 ≠ m.1) (h2 : ∀ y ∈ S2, y.1 ≠ m.1) (hx : x.1 = m.1) : pt (S1 ++ x :: S2) m = S1 ++ m :: S2 := by
  unfold pt
  rw [if_pos (by simp [hx])]
  rw [List.map_append, List.map_cons, if_pos hx]
  congr 1
  · exact (List.map_congr_left (fun y hy => if_neg (h1 y hy))).trans (List.map_id _)
  · congr 1
    exact (List.map_congr_left (fun y hy => if_neg (h2 y hy))).trans (List.map_id _)
/-- The map of block b holds the mails of E; their flags lie in rows that the call owns. -/
structure OwMp (W : World) (B b : Nat) (E : List En) (c : Nat) : Prop where
  lies : W.heap[b]? = some (.map (E.map ent).toArray c)
  base : B ≤ b
  old : ∀ e ∈ E, e.2 < c
  births : (E.map (·.2)).Nodup
  keys : (E.map (fun e => e.1.1)).Nodup
  each : ∀ e ∈ E, Ow W B e.1.2.2.1 e.1.2.2.2.1
  apart : E.Pairwise fun x y => Dj x.1.2.2.1 y.1.2.2.1
theorem OwMp.later {W W' : World} {B b c : Nat} {E : List En} (h : OwMp W B b E c) (hb : Below W.heap.size W W') : OwMp W' B b E c :=
  ⟨(hb.block b (Array.getElem?_eq_some_iff.1 h.lies).1).trans h.lies, h.base, h.old, h.births, h.keys, fun e he => own_later (h.each e he) hb, h.apart⟩
/-- No row is the map's own block. -/
theorem OwMp.off {W : World} {B b c : Nat} {E : List En} (h : OwMp W B b E c) {v : Value} {l : List R3} (ho : Ow W B v l) : v.ownBlock ≠ some b := by
  intro e
  rcases ho.2 with ⟨h1, _⟩ | ⟨g, cap, cur, h1, h2, h3, _⟩
  · rw [h1] at e; simp [Value.ownBlock] at e
  · rw [h1] at e
    simp only [Value.ownBlock, Option.some.injEq] at e
    rw [e, h.lies] at h3
    simp at h3
theorem setBlock_grown {W : World} {b : Nat} {es : Array MapEntry} {c : Nat} (hb : W.heap[b]? = some (.map es c)) (o : Obj) : W.grownBy (setBlock W b o) (some b) :=
  ⟨rfl, rfl, rfl, by simp [setBlock], fun i _ hi => heap_setBlock_other hb _ (fun e => hi (by rw [e]))⟩
theorem split_key {E : List En} {g : Int} (h : ¬ ∀ e ∈ E, e.1.1 ≠ g) : ∃ E1 e E2, E = E1 ++ e :: E2 ∧ (∀ x ∈ E1, x.1.1 ≠ g) ∧ e.1.1 = g := by
  induction E with
  | nil => exact absurd (fun e he => by cases he) h
  | cons x E ih =>
    by_cases hx : x.1.1 = g
    · exact ⟨[], x, E, rfl, (fun y hy => by cases hy), hx⟩
    · obtain ⟨E1, e, E2, h1, h2, h3⟩ := ih (fun hh => h (fun e he => by
        rcases List.mem_cons.1 he with rfl | he
        · exact hx
        · exact hh e he))
      refine ⟨x :: E1, e, E2, by rw [h1]; rfl, fun y hy => ?_, h3⟩
      rcases List.mem_cons.1 hy with rfl | hy
      · exact hx
      · exact h2 y hy
/-- A mail put into the map. -/
theorem OwMp.put {W : World} {B b c : Nat} {E : List En} (h : OwMp W B b E c) (z : Z5) (ho : Ow W B z.2.2.1 z.2.2.2.1) (hd : ∀ e ∈ E, Dj z.2.2.1 e.1.2.2.1) :
    ∃ W' E' c', (Instr.mapUpdate 156 (.map (some b)) (.int .i64 z.1) (zv z)).run Tryz.prog W = .ok () W' ∧ OwMp W' B b E' c' ∧ E'.map mde = pt (E.map mde) (md z) ∧ W.grownBy W' (some b) ∧ (∀ e ∈ E', e.1 = z ∨ e ∈ E) := by
  by_cases hn : ∀ e ∈ E, e.1.1 ≠ z.1
  · refine ⟨_, E ++ [(z, c)], c + 1, run_put_new h.lies z hn, ⟨heap_setBlock_same h.lies _, h.base, ?_, ?_, ?_, ?_, ?_⟩, ?_, setBlock_grown h.lies _, ?_⟩
    · intro e he
      rcases List.mem_append.1 he with he | he
      · have := h.old e he; omega
      · simp at he; subst he; simp
    · rw [List.map_append, List.nodup_append]
      refine ⟨h.births, by simp, ?_⟩
      intro x hx y hy
      simp at hy
      subst hy
      obtain ⟨e, he, rfl⟩ := List.mem_map.1 hx
      have := h.old e he
      omega
    · rw [List.map_append, List.nodup_append]
      refine ⟨h.keys, by simp, ?_⟩
      intro x hx y hy
      simp at hy
      subst hy
      obtain ⟨e, he, rfl⟩ := List.mem_map.1 hx
      exact hn e he
    · intro e he
      have hg := setBlock_grown h.lies (.map ((E ++ [(z, c)]).map ent).toArray (c + 1))
      rcases List.mem_append.1 he with he | he
      · exact World.ownsRow.kept (h.each e he) hg (Or.inr (h.off (h.each e he)))
      · simp at he
        subst he
        exact World.ownsRow.kept ho hg (Or.inr (h.off ho))
    · rw [List.pairwise_append]
      refine ⟨h.apart, by simp, ?_⟩
      intro x hx y hy
      simp at hy
      subst hy
      exact (hd x hx).symm
    · rw [List.map_append, pt_new]
      · rfl
      · intro x hx
        obtain ⟨e, he, rfl⟩ := List.mem_map.1 hx
        exact hn e he
    · intro e he
      rcases List.mem_append.1 he with he | he
      · exact .inr he
      · simp at he; subst he; exact .inl rfl
  · obtain ⟨E1, e0, E2, rfl, h1, h2⟩ := split_key hn
    have hk := h.keys
    rw [List.map_append, List.map_cons, List.nodup_append] at hk
    have h3 : ∀ x ∈ E2, x.1.1 ≠ z.1 := fun x hx ex => by
      have := (List.nodup_cons.1 hk.2.1).1
      exact this (by rw [h2, ← ex]; exact List.mem_map.2 ⟨x, hx, rfl⟩)
    have hap := List.pairwise_append.1 h.apart
    have hap2 := List.pairwise_cons.1 hap.2.1
    have hmem : ∀ e ∈ E1 ++ (z, e0.2) :: E2, e = (z, e0.2) ∨ e ∈ E1 ++ e0 :: E2 := by
      intro e he
      rcases List.mem_append.1 he with he | he
      · exact .inr (by simp [he])
      · rcases List.mem_cons.1 he with he | he
        · exact .inl he
        · exact .inr (by simp [he])
    refine ⟨_, E1 ++ (z, e0.2) :: E2, c, run_put_old h.lies z h1 h2, ⟨heap_setBlock_same h.lies _, h.base, ?_, ?_, ?_, ?_, ?_⟩, ?_, setBlock_grown h.lies _, ?_⟩
    · intro e he
      rcases hmem e he with rfl | he
      · exact h.old e0 (by simp)
      · exact h.old e he
    · have := h.births
      simpa using this
    · have := h.keys
      rw [List.map_append, List.map_cons] at this ⊢
      rwa [h2] at this
    · intro e he
      have hg := setBlock_grown h.lies (.map ((E1 ++ (z, e0.2) :: E2).map ent).toArray c)
      rcases hmem e he with rfl | he
      · exact World.ownsRow.kept ho hg (Or.inr (h.off ho))
      · exact World.ownsRow.kept (h.each e he) hg (Or.inr (h.off (h.each e he)))
    · rw [List.pairwise_append, List.pairwise_cons]
      refine ⟨hap.1, ⟨fun y hy => hd y (by simp [hy]), hap2.2⟩, ?_⟩
      intro x hx y hy
      rcases List.mem_cons.1 hy with rfl | hy
      · exact (hd x (by simp [hx])).symm
      · exact hap.2.2 x hx y (by simp [hy])
    · rw [List.map_append, List.map_cons, List.map_append, List.map_cons, pt_old]
      · rfl
      · intro y hy
        obtain ⟨e, he, rfl⟩ := List.mem_map.1 hy
        exact h1 e he
      · intro y hy
        obtain ⟨e, he, rfl⟩ := List.mem_map.1 hy
        exact h3 e he
      · exact h2
    · intro e he
      rcases hmem e he with rfl | he
      · exact .inl rfl
      · exact .inr he
theorem OwMp.made (W : World) : OwMp (W.alloc (.map #[] 0)) W.heap.size W.heap.size [] 0 :=
  ⟨heap_alloc_new W _, Nat.le_refl _, by simp, by simp, by simp, by simp, by simp⟩
end Go.Proofs.YtlhofbnnonljaaaGreatDoor
namespace Go.Proofs.YtlhofbnnonljaaaGreatDoor
open Go.RowKit Go.ChangeMaps
theorem shl_take {L : List M4} {i : Nat} (h : i < L.length) : shl (L.take (i + 1)) = pt (shl (L.take i)) L[i] := by
  unfold shl
  rw [List.take_succ_eq_append_getElem h, List.foldl_append]
  rfl
theorem make_shelf (n : Nat) (W : World) : (Instr.makeMap 156 (some (.int .i64 (n : Int)))).run Tryz.prog W = .ok (.map (some W.heap.size)) (W.alloc (.map #[] 0)) := by
  simp only [Instr.makeMap, Sem.run_bind, run_underlying Tryz.underlying156, Result.andThen]
  rfl
set_option maxHeartbeats 1600000 in
set_option maxRecDepth 100000 in
theorem shelfOf_any (lo hi : Nat) (ma : Option Addr) (mn mc : Nat) (L : List M4) (w : World) (hl : L.length = mn) (hn : mn ≤ 1048576) (hsm : Sm L) (hm : Ms lo hi w ma L) :
    Calls Tryz.prog 131 #[.slice ma mn mc] w fun e w' => e = .returned (.map (some w.heap.size)) ∧ (∃ E c, E.map mde = shl L ∧ OwMp w' w.heap.size w.heap.size E c) ∧ Below w.heap.size w w' := by
  have hmk := make_shelf mn
  have HR := hid hm
  have HL := hid hl
  have HSM := hid hsm
  clear hm hl hsm
  go_enter Tryz.func131, Tryz.ntmps131
  go_wp2
  clear hmk
  go_loopw [11] (fun iv wr => ∃ i : Nat, i ≤ mn ∧ iv = .int .i64 (i : Int) ∧ (∃ E c, E.map mde = shl (L.take i) ∧ OwMp wr w.heap.size w.heap.size E c) ∧ Below w.heap.size w wr) (fun iv _ => mn - (intOf iv).toNat)
  case atStart => exact ⟨0, Nat.zero_le _, rfl, ⟨[], 0, rfl, OwMp.made w⟩, bpush (bre _) _⟩
  case round =>
    obtain ⟨i, hi, rfl, ⟨E, c, hE, hmp⟩, hb⟩ := hrel
    have HMP := hid hmp
    have HE := hid hE
    have HB := hid hb
    have hsz := hb.size
    have HSZ := hid hsz
    clear hmp hE hsz
    by_cases hlt : i < mn
    · have hil : i < L.length := by rw [HL.out]; exact hlt
      obtain ⟨k, o, fa, fc, rfl, hk, ⟨c0, c1, c2, c3⟩, hrs, hz0⟩ := (HR.out.later hb).at hil
      have hmem := HSM.out L[i] (List.getElem_mem hil)
      have hst := shl_take hil
      obtain ⟨p, hp⟩ : ∃ p, L[i] = p := ⟨_, rfl⟩
      rw [hp] at c0 c1 c2 c3 hrs hmem hst
      obtain ⟨g, u, l, t⟩ := p
      have HP := hid hp
      have HRS := hid hrs
      have HMM := hid hmem
      have HZ0 := hid hz0
      have HST := hid hst
      obtain ⟨m, hm⟩ : ∃ m, l.length = m := ⟨_, rfl⟩
      dsimp only at c0 c1 c2 c3
      rw [hm] at c2
      have HM := hid hm
      have hI : (0 : Int) ≤ (i : Int) ∧ (i : Int) < (mn : Int) := by omega
      clear hp hrs hmem hm hz0 hst hb
      go_wp2_with fail
      obtain ⟨W1, hW1⟩ : ∃ W1, wr.alloc (.cells #[.int .i64 g, .int .i64 u, .slice fa m fc, .string t] 103) = W1 := ⟨_, rfl⟩
      have A1 : Hid (Mg W1 wr.heap.size 103 g u (.slice fa m fc) t) := by subst hW1; exact Mg.new _ _ _ _ _ _
      have B1 : Hid (Below wr.heap.size wr W1) := by subst hW1; exact bpush (bre _) _
      rw [hW1]
      have HS : Hid (∀ W, Below W1.heap.size W1 W → W.cell? ⟨wr.heap.size, 0, none⟩ = some (.int .i64 g) ∧ W.cell? ⟨wr.heap.size, 1, none⟩ = some (.int .i64 u) ∧ W.cell? ⟨wr.heap.size, 2, none⟩ = some (.slice fa m fc) ∧ W.cell? ⟨wr.heap.size, 3, none⟩ = some (.string t)) := fun W h => (A1.out.later h).cells
      clear c0 c1 c2 c3 hW1
      go_region_held3 (fun W => W.cell? ⟨wr.heap.size, 0, none⟩ = some (.int .i64 g) ∧ W.cell? ⟨wr.heap.size, 1, none⟩ = some (.int .i64 u) ∧ W.cell? ⟨wr.heap.size, 2, none⟩ = some (.slice fa m fc) ∧ W.cell? ⟨wr.heap.size, 3, none⟩ = some (.string t))
        ((first | exact HS.out _ (bdr (bre _)) | exact HS.out _ (btr (bdr (bre _)) hb2) | exact HS.out _ (bre _) | exact B2'.out))
        ((go_at_call 148; refine (copyOf_any g u fa m fc l t _ HM.out (by rw [← HM.out]; exact HMM.out.1) HMM.out.2 (HRS.out.later (btr B1.out (bdr (bre _)))) HZ0.out).mono ?_; rintro e w2 ⟨v, rfl, how, hb2⟩;
          have B2 := hid (show Below wr.heap.size wr w2 from btr (btr B1.out (bdr (bre _))) hb2);
          obtain ⟨W3, E', c', hrun, hmp3, hE3, hgr, _⟩ := (HMP.out.later B2.out).put (g, u, v, l, t) (own_base how (by have h1 := HSZ.out; have h2 := B1.out.size; show _ ≤ W1.heap.size; omega)) (fun e he j hj hj' => by have h1 := ((HMP.out.each e he).lt j hj').2; have h2 : W1.heap.size ≤ j := (how.lt j hj).1; have h3 := B1.out.size; omega);
          have hrun' : (Instr.mapUpdate 156 (.map (some w.heap.size)) (.int .i64 g) (.agg #[.int .i64 g, .int .i64 u, v, .string t])).run Tryz.prog w2 = .ok () W3 := hrun;
          have HB3 := hid (show Below w.heap.size w W3 from (btr HB.out B2.out).trans (below_of_grown hgr (Nat.le_refl _) (Nat.le_trans HB.out.size B2.out.size))); have B2' := hid (Mg.cells ((A1.out.later (btr (bdr (bre _)) hb2)).grown hgr (fun e => by have h1 := (Array.getElem?_eq_some_iff.1 HMP.out.lies).1; simp only [Option.some.injEq] at e; omega))); have HM3 := hid hmp3; have HE3 := hid hE3; have HG3 := hid hgr; clear hmp3 hE3 hgr hrun how))
      have HE4 : Hid (E'.map mde = shl (L.take (i + 1))) := by show _ = _; rw [HE3.out, HE.out, HST.out]; rfl
      go_wp2
      go_roundw
      case rel => exact ⟨i + 1, by omega, by go_num, ⟨E', c', HE4.out, HM3.out⟩, HB3.out⟩
      case measure => simp [intOf]; omega
    · have HE2 : Hid (E.map mde = shl L) := by show _ = _; rw [HE.out, List.take_of_length_le (by rw [HL.out]; omega)]
      go_wp2
      go_ret
      exact ⟨rfl, ⟨E, c, HE2.out, HMP.out⟩, hb⟩
end Go.Proofs.YtlhofbnnonljaaaGreatDoor
namespace Go.Proofs.YtlhofbnnonljaaaGreatDoor
open Go.RowKit Go.ChangeMaps
def us (L : List M4) (i : Nat) : Int := lst 0 ((L.take i).map (fun m => m.2.1))
def stp (nx : Int) (G : List Int) (L : List M4) (i : Nat) : Bool :=
  match L[i]? with
  | none => true
  | some m => mlOk m.1 m.2.1 m.2.2.1 m.2.2.2 && (decide (m.2.1 < nx) && (decide (us L i < m.2.1) && !inl m.1 G))
def uq (L : List M4) : Bool := decide ((L.map (fun m => m.1)).Nodup)
def alr (nx : Int) (G : List Int) (L : List M4) : Bool := (List.range L.length).all (stp nx G L)
def bxm (nx : Int) (G : List Int) (L : List M4) : Bool := alr nx G L && uq L
def bxOk (g : Int) (nm : ByteArray) (t b nx : Int) (L : List M4) (G : List Int) : Bool :=
  gok g && (nmOk nm && (stOk t b && ((decide (1 ≤ nx) && decide (nx ≤ 10000)) && (decide ((L.length : Int) ≤ 10) && (gnOk G && bxm nx G L)))))
theorem us_succ {L : List M4} {i : Nat} (h : i < L.length) : us L (i + 1) = L[i].2.1 := by
  unfold us
  rw [List.map_take]
  have := lst_take (G := L.map (fun m => m.2.1)) (i := i) (by simpa using h)
  rw [this, List.getElem_map]
theorem stp_at {nx : Int} {G : List Int} {L : List M4} {i : Nat} (h : i < L.length) {g u : Int} {l : List R3} {t : ByteArray} (hp : L[i] = (g, u, l, t)) :
    stp nx G L i = (mlOk g u l t && (decide (u < nx) && (decide (us L i < u) && !inl g G))) := by
  unfold stp
  rw [List.getElem?_eq_getElem h, hp]
theorem alr_bad {nx : Int} {G : List Int} {L : List M4} {i : Nat} (h : i < L.length) (hs : stp nx G L i = false) : alr nx G L = false := by
  unfold alr
  rw [List.all_eq_false]
  exact ⟨i, List.mem_range.2 h, by simp [hs]⟩
theorem bxm_bad {nx : Int} {G : List Int} {L : List M4} {i : Nat} (h : i < L.length) (hs : stp nx G L i = false) : bxm nx G L = false := by
  unfold bxm
  rw [alr_bad h hs, Bool.false_and]
theorem alr_all {nx : Int} {G : List Int} {L : List M4} (h : ∀ i, i < L.length → stp nx G L i = true) : alr nx G L = true := by
  unfold alr
  rw [List.all_eq_true]
  exact fun i hi => h i (List.mem_range.1 hi)
theorem mlOk_pos {g u : Int} {l : List R3} {t : ByteArray} (h : mlOk g u l t = true) : 0 < u := by
  simp only [mlOk, Bool.and_eq_true] at h
  exact gok_pos h.2.1
theorem mat_split {g : Int} (A : List M4) (m : M4) (C : List M4) (k : Nat) (h : ∀ x ∈ A, x.1 ≠ g) (hm : m.1 = g) : mat g (A ++ m :: C) k = ((k + A.length : Nat) : Int) := by
  induction A generalizing k with
  | nil => simp [mat, hm]
  | cons x A ih =>
    rw [List.cons_append, mat, if_neg (h x (by simp)), ih (k + 1) (fun y hy => h y (by simp [hy]))]
    simp only [List.length_cons]
    congr 1
    omega
theorem mat_uniq {L : List M4} (h : uq L = true) {i : Nat} (hi : i < L.length) : mat L[i].1 L 0 = (i : Int) := by
  have hn : (L.map (fun m => m.1)).Nodup := of_decide_eq_true h
  have e : L = L.take i ++ L[i] :: L.drop (i + 1) := by rw [← List.drop_eq_getElem_cons hi, List.take_append_drop]
  have h1 : ∀ x ∈ L.take i, x.1 ≠ L[i].1 := by
    intro x hx ex
    rw [e, List.map_append, List.map_cons, List.nodup_append] at hn
    exact hn.2.2 x.1 (List.mem_map.2 ⟨x, hx, rfl⟩) L[i].1 (by simp) ex
  have := mat_split (g := L[i].1) (L.take i) L[i] (L.drop (i + 1)) 0 h1 rfl
  rw [← e] at this
  rw [this]
  congr 1
  simp
  omega
theorem uq_bad {L : List M4} {i : Nat} (hi : i < L.length) (h : ¬ mat L[i].1 L 0 = (i : Int)) : uq L = false := by
  cases hu : uq L with
  | false => rfl
  | true => exact absurd (mat_uniq hu hi) h
theorem uq_all {L : List M4} (h : ∀ i (hi : i < L.length), mat L[i].1 L 0 = (i : Int)) : uq L = true := by
  unfold uq
  rw [decide_eq_true_eq]
  refine List.pairwise_iff_getElem.2 ?_
  intro i j hi hj hij e
  simp only [List.length_map] at hi hj
  simp only [List.getElem_map] at e
  have h1 := h i hi
  have h2 := h j hj
  rw [e, h2] at h1
  omega
/-! The shelf's size. -/
theorem pt_keys {S : List M4} {m : M4} (h : m.1 ∈ S.map (fun x => x.1)) : (pt S m).map (fun x => x.1) = S.map (fun x => x.1) := by
  obtain ⟨x, hx, e⟩ := List.mem_map.1 h
  unfold pt
  rw [if_pos (List.any_eq_true.2 ⟨x, hx, by simpa using e⟩), List.map_map]
  apply List.map_congr_left
  intro y _
  simp only [Function.comp]
  by_cases hy : y.1 = m.1
  · rw [if_pos hy, hy]
  · rw [if_neg hy]
theorem fold_len (L : List M4) : ∀ S : List M4, (S.map (fun x => x.1)).Nodup → (L.foldl pt S).length ≤ S.length + L.length ∧ ((L.foldl pt S).length = S.length + L.length ↔ ((S ++ L).map (fun x => x.1)).Nodup) ∧ (((S ++ L).map (fun x => x.1)).Nodup → L.foldl pt S = S ++ L) := by
  induction L with
  | nil => intro S hS; simp only [List.foldl_nil, List.append_nil, List.length_nil, Nat.add_zero, Nat.le_refl, true_and]; exact ⟨⟨fun _ => hS, fun _ => trivial⟩, fun _ => trivial⟩
  | cons m L ih =>
    intro S hS
    rw [List.foldl_cons]
    by_cases hm : m.1 ∈ S.map (fun x => x.1)
    · have hk := pt_keys hm
      have hl : (pt S m).length = S.length := by simpa using congrArg List.length hk
      have h1 := ih (pt S m) (by rw [hk]; exact hS)
      have hno : ¬ ((S ++ m :: L).map (fun x => x.1)).Nodup := by
        intro hh
        rw [List.map_append, List.map_cons, List.nodup_append] at hh
        exact hh.2.2 m.1 hm m.1 (by simp) rfl
      rw [hl] at h1
      simp only [List.length_cons]
      exact ⟨by omega, ⟨fun e => by omega, fun hh => absurd hh hno⟩, fun hh => absurd hh hno⟩
    · have hp : pt S m = S ++ [m] := pt_new (fun x hx e => hm (List.mem_map.2 ⟨x, hx, e⟩))
      have h1 := ih (S ++ [m]) (by
        rw [List.map_append, List.nodup_append]
        refine ⟨hS, by simp, ?_⟩
        intro x hx y hy
        simp at hy
        subst hy
        exact fun e => hm (e ▸ hx))
      rw [hp]
      rw [List.append_assoc] at h1
      simp only [List.length_append, List.length_cons, List.length_nil, List.cons_append, List.nil_append] at h1 ⊢
      exact ⟨by omega, by rw [← h1.2.1]; omega, h1.2.2⟩
theorem shl_len (L : List M4) : decide (((shl L).length : Int) = (L.length : Int)) = uq L := by
  have h := (fold_len L [] (by simp)).2.1
  simp only [List.length_nil, Nat.zero_add, List.nil_append] at h
  unfold uq shl
  rw [decide_eq_decide, ← h]
  omega
theorem shl_le (L : List M4) : (shl L).length ≤ L.length := by
  have := (fold_len L [] (by simp)).1
  simpa [shl] using this
/-! The parts in letters. -/
theorem st_l (t b : Int) : ∃ p : Bool, Hid (p = stOk t b) ∧ Hid (∀ w, Calls Tryz.prog 111 #[.agg #[.int .i64 t, .int .i64 b]] w fun e w' => e = .returned (.bool p) ∧ Below w.heap.size w w') ∧ Hid (∀ w, Calls Tryz.prog 136 #[.agg #[.int .i64 t, .int .i64 b]] w fun e w' => e = .returned (.bool p) ∧ Below w.heap.size w w') :=
  ⟨stOk t b, rfl, fun w => (specStampOk_any t b w).mono fun _ _ h => ⟨h.1, h.2 ▸ bpush (bre _) _⟩, implStampOk_any t b⟩
theorem in_range (x a c : Int) : ∃ p : Bool, Hid (p = (decide (a ≤ x) && decide (x ≤ c))) ∧ Hid (∀ w, Calls Tryz.prog 15 #[.int .i64 x, .int .i64 a, .int .i64 c] w fun e w' => e = .returned (.bool p) ∧ w' = w) := by
  refine ⟨_, rfl, fun w => ?_⟩
  by_cases h1 : a ≤ x
  · by_cases h2 : x ≤ c
    · rw [decide_eq_true h1, decide_eq_true h2]
      exact (l01In_yes x a c w h1 h2).mono fun _ _ h => ⟨h.1, h.2.symm⟩
    · rw [decide_eq_true h1, decide_eq_false h2]
      exact (l01In_no x a c w (by omega)).mono fun _ _ h => ⟨h.1, h.2.symm⟩
  · rw [decide_eq_false h1, Bool.false_and]
    exact (l01In_no x a c w (by omega)).mono fun _ _ h => ⟨h.1, h.2.symm⟩
end Go.Proofs.YtlhofbnnonljaaaGreatDoor
