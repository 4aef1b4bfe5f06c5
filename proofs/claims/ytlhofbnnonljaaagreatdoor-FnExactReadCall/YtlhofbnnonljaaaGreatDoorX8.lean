/- Mi, Itz, Srow, SrowB, Stb, Sat. -/
import Derived.Test.YtlhofbnnonljaaaGreatDoorX6
namespace Go.Proofs.YtlhofbnnonljaaaGreatDoor
open Go.RowKit Go.ChangeMaps
theorem len_shelf {W : World} {B b c : Nat} {E : List En} (h : OwMp W B b E c) : (Builtin.len_ #[156] 3 #[.map (some b)]).run Tryz.prog W = .ok (.int .i64 (E.length : Int)) W := by
  simp [Builtin.len_, MapKept.run_getObj_map h.lies, Result.andThen, goInt]
set_option maxHeartbeats 3200000 in
set_option maxRecDepth 100000 in
theorem mailsOk_any (lo hh lo' hh' : Nat) (g : Int) (nm : ByteArray) (t b nx : Int) (ma : Option Addr) (mn mc : Nat) (ga : Option Addr) (gn gc : Nat) (L : List M4) (G : List Int) (w : World) (hl : L.length = mn) (hn : mn ≤ 1048576) (hsm : Sm L) (hm : Ms lo hh w ma L) (hgl : G.length = gn) (hgn : gn ≤ 1048576) (hs : Is lo' hh' w ga G) :
    Calls Tryz.prog 168 #[.agg #[.int .i64 g, .string nm, .int .i64 t, .int .i64 b, .int .i64 nx, .slice ma mn mc, .slice ga gn gc]] w fun e w' => e = .returned (.bool (decide ((mn : Int) ≤ 10) && bxm nx G L)) ∧ Below w.heap.size w w' := by
  obtain ⟨W0, hW0⟩ : ∃ W0, w.alloc (.cells #[.int .i64 g, .string nm, .int .i64 t, .int .i64 b, .int .i64 nx, .slice ma mn mc, .slice ga gn gc] 77) = W0 := ⟨_, rfl⟩
  have a0 : Bx W0 w.heap.size 77 g nm t b nx (.slice ma mn mc) (.slice ga gn gc) := by subst hW0; exact Bx.new w _ g nm t b nx _ _
  have b0 : Below w.heap.size w W0 := by subst hW0; exact bpush (bre _) _
  have c0 := a0.cells
  have HL := hid hl
  have HSM := hid hsm
  have HN := hid hn
  have HR := hid hm
  have HGL := hid hgl
  have HGN := hid hgn
  have HIS := hid hs
  have A0 := hid a0
  have B0 := hid b0
  clear hl hsm hm hgl hgn hs a0 b0
  by_cases h10 : (mn : Int) ≤ 10
  case neg =>
    have HE : Hid ((decide ((mn : Int) ≤ 10) && bxm nx G L) = false) := by show _ = _; simp [h10]
    have h11 : (10 : Int) < (mn : Int) := by omega
    go_enter Tryz.func168, Tryz.ntmps168
    go_wp2
    go_ret
    exact ⟨by rw [HE.out]; rfl, B0.out⟩
  have HX : Hid ((decide ((mn : Int) ≤ 10) && bxm nx G L) = bxm nx G L) := by show _ = _; simp [h10]
  have h11 : ¬ (10 : Int) < (mn : Int) := by omega
  go_enter Tryz.func168, Tryz.ntmps168
  go_wp2
  clear hW0 h10 h11
  go_loopw [3, 13] (fun lv iv wr => ∃ (i : Nat) (q : Int), i ≤ mn ∧ lv = .int .i64 q ∧ iv = .int .i64 (i : Int) ∧ Hid (q = us L i) ∧ Hid (∀ j, j < i → j < L.length → stp nx G L j = true) ∧ Below W0.heap.size W0 wr) (fun _ iv _ => mn - (intOf iv).toNat)
  case atStart => exact ⟨0, 0, Nat.zero_le _, rfl, rfl, rfl, fun j hj => absurd hj (Nat.not_lt_zero _), bre _⟩
  case round =>
    obtain ⟨i, q, hin, rfl, rfl, HQ, HA, hb⟩ := hrel
    have HB5 := hid hb
    have a6 := A0.out.later hb
    have c0 := a6.cells
    have HB := hid (btr B0.out hb)
    have A6 := hid a6
    clear a6 hb
    by_cases hlt : i < mn
    · have hil : i < L.length := by rw [HL.out]; exact hlt
      obtain ⟨k, o, fa, fc, rfl, hk, ⟨d0, d1, d2, d3⟩, hrs, _⟩ := (HR.out.later HB.out).at hil
      have hmem := HSM.out L[i] (List.getElem_mem hil)
      have hus := us_succ hil
      obtain ⟨r, hr⟩ : ∃ r, L[i] = r := ⟨_, rfl⟩
      obtain ⟨g1, u1, l1, t1⟩ := r
      have HST := hid (stp_at (nx := nx) (G := G) hil hr)
      rw [hr] at d0 d1 d2 d3 hrs hmem hus
      have HRS := hid hrs
      obtain ⟨m, hm⟩ : ∃ m, l1.length = m := ⟨_, rfl⟩
      dsimp only at d0 d1 d2 d3 hus
      rw [hm] at d2
      have HM := hid hm
      have HML : Hid (m ≤ 1048576) := by show _ ≤ _; rw [← hm]; exact hmem.1
      obtain ⟨p, hp⟩ : ∃ p, mlOk g1 u1 l1 t1 = p := ⟨_, rfl⟩
      obtain ⟨si, hsi⟩ : ∃ si, inl g1 G = si := ⟨_, rfl⟩
      have HP := hid hp
      have HSI := hid hsi
      have HUS := hid hus
      have hI : (0 : Int) ≤ (i : Int) ∧ (i : Int) < (mn : Int) := by omega
      rw [HP.out, HSI.out, ← HQ.out] at HST
      clear hr hrs hmem hm hp hsi hk hus
      go_wp2_with fail
      obtain ⟨W1, hW1⟩ : ∃ W1, wr.alloc (.cells #[.int .i64 g1, .int .i64 u1, .slice fa m fc, .string t1] 103) = W1 := ⟨_, rfl⟩
      have a1 : Mg W1 wr.heap.size 103 g1 u1 (.slice fa m fc) t1 := by subst hW1; exact Mg.new _ _ _ _ _ _
      have A1 := hid a1
      have B1 : Hid (Below wr.heap.size wr W1) := by subst hW1; exact bpush (bre _) _
      rw [hW1]
      clear hW1 d0 d1 d2 d3 c0 a1
      refine (implMailOk_any g1 u1 fa m fc l1 t1 _ HM.out HML.out (HRS.out.later B1.out)).mono ?_; rintro e w2 ⟨rfl, hb2⟩
      rw [HP.out]
      have c0 := (A6.out.later (btr B1.out hb2)).cells
      have c1 := (A1.out.later hb2).cells
      have B2 := hid (btr B1.out hb2)
      clear hb2
      cases p
      · have HE : Hid ((decide ((mn : Int) ≤ 10) && bxm nx G L) = false) := by show _ = _; rw [HX.out, bxm_bad hil (by rw [HST.out]; rfl)]
        go_wp2
        go_ret
        exact ⟨by rw [HE.out]; rfl, btr HB.out B2.out⟩
      by_cases hq : q < u1
      case neg =>
        have HE : Hid ((decide ((mn : Int) ≤ 10) && bxm nx G L) = false) := by show _ = _; rw [HX.out, bxm_bad hil (by rw [HST.out]; simp [hq])]
        have hq2 : u1 ≤ q := by omega
        go_wp2
        go_ret
        exact ⟨by rw [HE.out]; rfl, btr HB.out B2.out⟩
      have hq2 : ¬ u1 ≤ q := by omega
      by_cases hx : u1 < nx
      case neg =>
        have HE : Hid ((decide ((mn : Int) ≤ 10) && bxm nx G L) = false) := by show _ = _; rw [HX.out, bxm_bad hil (by rw [HST.out]; simp [hx])]
        have hx2 : nx ≤ u1 := by omega
        go_wp2
        go_ret
        exact ⟨by rw [HE.out]; rfl, btr HB.out B2.out⟩
      have hx2 : ¬ nx ≤ u1 := by omega
      go_wp2_with fail
      refine (contains_any lo' hh' ga gn gc G g1 _ HGL.out HGN.out (HIS.out.later (btr HB.out B2.out))).mono ?_; rintro e w3 ⟨rfl, h3⟩
      subst h3
      rw [HSI.out]
      cases si
      · have HE : Hid (∀ j, j < i + 1 → j < L.length → stp nx G L j = true) := by
          intro j hj h
          by_cases hji : j < i
          · exact HA.out j hji h
          · obtain rfl : j = i := by omega
            rw [HST.out]; simp [hq, hx]
        go_wp2
        go_roundw
        case rel => exact ⟨i + 1, u1, by omega, rfl, by go_num, HUS.out.symm, HE, btr HB5.out B2.out⟩
        case measure => simp [intOf]; omega
      · have HE : Hid ((decide ((mn : Int) ≤ 10) && bxm nx G L) = false) := by show _ = _; rw [HX.out, bxm_bad hil (by rw [HST.out]; simp)]
        go_wp2
        go_ret
        exact ⟨by rw [HE.out]; rfl, btr HB.out B2.out⟩
    · obtain ⟨z, hz⟩ : ∃ z : Nat, (shl L).length = z := ⟨_, rfl⟩
      have HE : Hid ((decide ((mn : Int) ≤ 10) && bxm nx G L) = ((z : Int) == (mn : Int))) := by
        show _ = _
        have e := HL.out
        rw [HX.out, bxm, alr_all (fun j hj => HA.out j (by omega) hj), ← shl_len, hz, e, Bool.true_and]
        rfl
      have HZ := hid hz
      have HZL := hid (shl_le L)
      clear hz
      have HS : Hid (∀ W, Below wr.heap.size wr W → W.cell? ⟨w.heap.size, 0, none⟩ = some (.int .i64 g) ∧ W.cell? ⟨w.heap.size, 1, none⟩ = some (.string nm) ∧ W.cell? ⟨w.heap.size, 2, none⟩ = some (.int .i64 t) ∧ W.cell? ⟨w.heap.size, 3, none⟩ = some (.int .i64 b) ∧ W.cell? ⟨w.heap.size, 4, none⟩ = some (.int .i64 nx) ∧ W.cell? ⟨w.heap.size, 5, none⟩ = some (.slice ma mn mc) ∧ W.cell? ⟨w.heap.size, 6, none⟩ = some (.slice ga gn gc)) := fun W h => (A6.out.later h).cells
      go_wp2_with fail
      refine wp_region_noPanic ?_
      refine wp_region_held_drew (S := (fun W => W.cell? ⟨w.heap.size, 0, none⟩ = some (.int .i64 g) ∧ W.cell? ⟨w.heap.size, 1, none⟩ = some (.string nm) ∧ W.cell? ⟨w.heap.size, 2, none⟩ = some (.int .i64 t) ∧ W.cell? ⟨w.heap.size, 3, none⟩ = some (.int .i64 b) ∧ W.cell? ⟨w.heap.size, 4, none⟩ = some (.int .i64 nx) ∧ W.cell? ⟨w.heap.size, 5, none⟩ = some (.slice ma mn mc) ∧ W.cell? ⟨w.heap.size, 6, none⟩ = some (.slice ga gn gc))) (by kernel_rfl) (HS.out _ (bdr (bre _))) (fun hHeld => ?_)
      refine wpAnyH_take (i := 0) (oi := { dst := some 43, op := Op.fieldAddr 77 (Operand.tmp 1) 4, type := 0, pos := "l06_box.go:116", after := #[], guard := none }) (v := ?vb1_0) rfl (by kernel_rfl) (by kernel_rfl) (by kernel_rfl) (fun _ _ _ h => h) (Or.inl ⟨by rfl, ?hyb1_0⟩) (by assumption) ?restb1_0
      case hyb1_0 => (intro w hSw; (try dsimp only at hSw); go_simp; try with_reducible rfl)
      try simp only [Act.put, List.setIfInBounds_toArray, List.set_cons_zero, List.set_cons_succ]
      refine wpAnyH_take (i := 1) (oi := { dst := some 44, op := Op.load 75 (Operand.tmp 43), type := 75, pos := "l06_box.go:116", after := #[{ on := 0, ground := Ground.data }], guard := none }) (v := ?vb2_1) rfl (by kernel_rfl) (by kernel_rfl) (by kernel_rfl) (fun _ _ _ h => h) (Or.inl ⟨by rfl, ?hyb2_1⟩) (by assumption) ?restb2_1
      case hyb2_1 => (intro w hSw; (try dsimp only at hSw); go_simp; try with_reducible rfl)
      try simp only [Act.put, List.setIfInBounds_toArray, List.set_cons_zero, List.set_cons_succ]
      refine wpAnyH_take (i := 4) (oi := { dst := some 47, op := Op.fieldAddr 77 (Operand.tmp 1) 4, type := 0, pos := "l06_box.go:116", after := #[], guard := none }) (v := ?vb3_4) rfl (by kernel_rfl) (by kernel_rfl) (by kernel_rfl) (fun _ _ _ h => h) (Or.inl ⟨by rfl, ?hyb3_4⟩) (by assumption) ?restb3_4
      case hyb3_4 => (intro w hSw; (try dsimp only at hSw); go_simp; try with_reducible rfl)
      try simp only [Act.put, List.setIfInBounds_toArray, List.set_cons_zero, List.set_cons_succ]
      refine wpAnyH_take (i := 5) (oi := { dst := some 48, op := Op.load 75 (Operand.tmp 47), type := 75, pos := "l06_box.go:116", after := #[{ on := 4, ground := Ground.data }], guard := none }) (v := ?vb4_5) rfl (by kernel_rfl) (by kernel_rfl) (by kernel_rfl) (fun _ _ _ h => h) (Or.inl ⟨by rfl, ?hyb4_5⟩) (by assumption) ?restb4_5
      case hyb4_5 => (intro w hSw; (try dsimp only at hSw); go_simp; try with_reducible rfl)
      try simp only [Act.put, List.setIfInBounds_toArray, List.set_cons_zero, List.set_cons_succ]
      refine wpAnyH_take (i := 6) (oi := { dst := some 49, op := Op.call { callee := Callee.builtin Builtin.len, args := #[Operand.tmp 48], argTypes := #[75] }, type := 3, pos := "l06_box.go:116", after := #[{ on := 5, ground := Ground.data }], guard := none }) (v := ?vb5_6) rfl (by kernel_rfl) (by kernel_rfl) (by kernel_rfl) (fun _ _ _ h => h) (Or.inl ⟨by rfl, ?hyb5_6⟩) (by assumption) ?restb5_6
      case hyb5_6 => (intro w hSw; (try dsimp only at hSw); go_simp; try with_reducible rfl)
      try simp only [Act.put, List.setIfInBounds_toArray, List.set_cons_zero, List.set_cons_succ]
      clear hHeld
      refine wpAnyH_ready (rs := [2]) (by kernel_rfl) (by simp) ?_
      refine AllReadyH.cons (o := { dst := some 45, op := Op.call { callee := Callee.value (Operand.func 131), args := #[Operand.tmp 44], argTypes := #[75] }, type := 156, pos := "l06_box.go:116", after := #[{ on := 1, ground := Ground.data }], guard := none }) rfl (fun K hK => ?_) AllReadyH.nil
      go_simp
      refine (shelfOf_any lo hh ma mn mc L _ HL.out HN.out HSM.out (HR.out.later (btr HB.out (bdr (bre _))))).mono ?_; rintro e w2 ⟨rfl, ⟨E, cl, hE, hmp⟩, hb2⟩
      have hEz : E.length = z := by rw [← HZ.out, ← hE, List.length_map]
      have hlen : (Builtin.len_ #[156] 3 #[.map (some wr.heap.size)]).run Tryz.prog w2 = .ok (.int .i64 (z : Int)) w2 := by
        have h := len_shelf hmp
        rw [hEz] at h
        exact h
      have B2 := hid (show Below wr.heap.size wr w2 from btr (bdr (bre _)) hb2)
      clear hE hEz hmp hb2
      go_wp2_with fail
      refine hK.out _ _ (HS.out _ B2.out) (fun hHeld => ?_)
      clear hK K
      try simp only [Act.put, List.setIfInBounds_toArray, List.set_cons_zero, List.set_cons_succ]
      clear hHeld
      refine wpAnyH_ready (rs := [3]) (by kernel_rfl) (by simp) ?_
      refine AllReadyH.cons (o := { dst := some 46, op := Op.call { callee := Callee.builtin Builtin.len, args := #[Operand.tmp 45], argTypes := #[156] }, type := 3, pos := "l06_box.go:116", after := #[{ on := 2, ground := Ground.data }, { on := 2, ground := Ground.chain }], guard := none }) rfl (fun K hK => ?_) AllReadyH.nil
      go_simp
      go_wp2_with fail
      refine hK.out _ _ (HS.out _ B2.out) (fun hHeld => ?_)
      clear hK K
      try simp only [Act.put, List.setIfInBounds_toArray, List.set_cons_zero, List.set_cons_succ]
      refine wpAnyH_take (i := 7) (oi := { dst := some 50, op := Op.binOp BinOp.eql 3 (Operand.tmp 46) (Operand.tmp 49) 3, type := 4, pos := "l06_box.go:116", after := #[{ on := 3, ground := Ground.data }, { on := 6, ground := Ground.data }], guard := none }) (v := ?vb8_7) rfl (by kernel_rfl) (by kernel_rfl) (by kernel_rfl) (fun _ _ _ h => h) (Or.inl ⟨by rfl, ?hyb8_7⟩) (by assumption) ?restb8_7
      case hyb8_7 => (intro w hSw; (try dsimp only at hSw); go_simp; try with_reducible rfl)
      try simp only [Act.put, List.setIfInBounds_toArray, List.set_cons_zero, List.set_cons_succ]
      refine wpAnyH_take (i := 8) (oi := { dst := some 2, op := Op.assign (Operand.tmp 50), type := 4, pos := "l06_box.go:116", after := #[{ on := 7, ground := Ground.data }, { on := 3, ground := Ground.chain }, { on := 0, ground := Ground.phase }, { on := 1, ground := Ground.phase }, { on := 2, ground := Ground.phase }, { on := 3, ground := Ground.phase }, { on := 4, ground := Ground.phase }, { on := 5, ground := Ground.phase }, { on := 6, ground := Ground.phase }, { on := 7, ground := Ground.phase }], guard := none }) (v := ?vb9_8) rfl (by kernel_rfl) (by kernel_rfl) (by kernel_rfl) (fun _ _ _ h => h) (Or.inl ⟨by rfl, ?hyb9_8⟩) (by assumption) ?restb9_8
      case hyb9_8 => (intro w hSw; (try dsimp only at hSw); go_simp; try with_reducible rfl)
      try simp only [Act.put, List.setIfInBounds_toArray, List.set_cons_zero, List.set_cons_succ]
      refine wpAnyH_done (by kernel_rfl) ?_ _
      refine NoPanic.normal ?_
      go_wp2
      go_ret
      exact ⟨by rw [HE.out]; rfl, btr HB.out B2.out⟩
end Go.Proofs.YtlhofbnnonljaaaGreatDoor
namespace Go.Proofs.YtlhofbnnonljaaaGreatDoor
open Go.RowKit Go.ChangeMaps
set_option maxHeartbeats 3200000 in
set_option maxRecDepth 100000 in
theorem implBoxOk_any (lo hh lo' hh' : Nat) (g : Int) (nm : ByteArray) (t b nx : Int) (ma : Option Addr) (mn mc : Nat) (ga : Option Addr) (gn gc : Nat) (L : List M4) (G : List Int) (w : World) (hnm : nm.size ≤ 1048576) (hl : L.length = mn) (hn : mn ≤ 1048576) (hsm : Sm L) (hm : Ms lo hh w ma L) (hgl : G.length = gn) (hgn : gn ≤ 1048576) (hs : Is lo' hh' w ga G) :
    Calls Tryz.prog 132 #[.agg #[.int .i64 g, .string nm, .int .i64 t, .int .i64 b, .int .i64 nx, .slice ma mn mc, .slice ga gn gc]] w fun e w' => e = .returned (.bool (bxOk g nm t b nx L G)) ∧ Below w.heap.size w w' := by
  obtain ⟨p1, hp1, cp1⟩ := gid_l g
  obtain ⟨p2, hp2, _, cp2⟩ := name_l nm hnm
  obtain ⟨p3, hp3, _, cp3⟩ := st_l t b
  obtain ⟨p6, hp6⟩ : ∃ p6, gnOk G = p6 := ⟨_, rfl⟩
  obtain ⟨p7, hp7⟩ : ∃ p7, (decide ((mn : Int) ≤ 10) && bxm nx G L) = p7 := ⟨_, rfl⟩
  have HX : Hid (bxOk g nm t b nx L G = (p1 && (p2 && (p3 && ((decide (1 ≤ nx) && decide (nx ≤ 10000)) && (p6 && p7)))))) := by
    show _ = _
    rw [hp1.out, hp2.out, hp3.out, ← hp6, ← hp7, ← hl]
    unfold bxOk
    generalize gok g = x1
    generalize nmOk nm = x2
    generalize stOk t b = x3
    generalize gnOk G = x4
    generalize bxm nx G L = x5
    generalize decide ((L.length : Int) ≤ 10) = x6
    cases x4 <;> cases x6 <;> simp
  obtain ⟨W0, hW0⟩ : ∃ W0, w.alloc (.cells #[.int .i64 g, .string nm, .int .i64 t, .int .i64 b, .int .i64 nx, .slice ma mn mc, .slice ga gn gc] 77) = W0 := ⟨_, rfl⟩
  have a0 : Bx W0 w.heap.size 77 g nm t b nx (.slice ma mn mc) (.slice ga gn gc) := by subst hW0; exact Bx.new w _ g nm t b nx _ _
  have b0 : Below w.heap.size w W0 := by subst hW0; exact bpush (bre _) _
  have c0 := a0.cells
  have HP6 := hid hp6
  have HP7 := hid hp7
  have HL := hid hl
  have HN := hid hn
  have HSM := hid hsm
  have HR := hid hm
  have HGL := hid hgl
  have HGN := hid hgn
  have HIS := hid hs
  have A0 := hid a0
  have B0 := hid b0
  clear hp1 hp2 hp3 hp6 hp7 hl hsm hm hgl hgn hs a0 b0 hnm
  go_enter Tryz.func132, Tryz.ntmps132
  go_wp2_with fail
  clear hW0
  refine (cp1.out _).mono ?_; rintro e w1 ⟨rfl, h1⟩
  subst h1
  cases p1
  · have HE : Hid (bxOk g nm t b nx L G = false) := by show _ = _; rw [HX.out]; rfl
    go_wp2
    go_ret
    exact ⟨by rw [HE.out]; rfl, B0.out⟩
  go_wp2_with fail
  refine (cp2.out _).mono ?_; rintro e w2 ⟨rfl, hb2⟩
  have a2 := A0.out.later hb2
  have A2 := hid a2
  have B2 := hid (btr B0.out hb2)
  have c0 := a2.cells
  clear a2 hb2 A0 B0
  cases p2
  · have HE : Hid (bxOk g nm t b nx L G = false) := by show _ = _; rw [HX.out]; rfl
    go_wp2
    go_ret
    exact ⟨by rw [HE.out]; rfl, B2.out⟩
  go_wp2_with fail
  refine (cp3.out _).mono ?_; rintro e w3 ⟨rfl, hb3⟩
  have a3 := A2.out.later hb3
  have A3 := hid a3
  have B3 := hid (btr B2.out hb3)
  have c0 := a3.cells
  clear a3 hb3 A2 B2
  cases p3
  · have HE : Hid (bxOk g nm t b nx L G = false) := by show _ = _; rw [HX.out]; rfl
    go_wp2
    go_ret
    exact ⟨by rw [HE.out]; rfl, B3.out⟩
  by_cases h1 : 1 ≤ nx
  case neg =>
    have HE : Hid (bxOk g nm t b nx L G = false) := by show _ = _; rw [HX.out]; simp [h1]
    go_wp2
    go_ret
    exact ⟨by rw [HE.out]; rfl, B3.out⟩
  by_cases h2 : nx ≤ 10000
  case neg =>
    have HE : Hid (bxOk g nm t b nx L G = false) := by show _ = _; rw [HX.out]; simp [h2]
    go_wp2
    go_ret
    exact ⟨by rw [HE.out]; rfl, B3.out⟩
  have HX2 : Hid (bxOk g nm t b nx L G = (p6 && p7)) := by show _ = _; rw [HX.out]; simp [h1, h2]
  go_wp2_with fail
  refine (goneOk_any lo' hh' ga gn gc G _ HGL.out HGN.out (HIS.out.later B3.out)).mono ?_; rintro e w5 ⟨rfl, h5⟩
  subst h5
  rw [HP6.out]
  cases p6
  · have HE : Hid (bxOk g nm t b nx L G = false) := by show _ = _; rw [HX2.out]; rfl
    go_wp2
    go_ret
    exact ⟨by rw [HE.out]; rfl, B3.out⟩
  go_wp2_with fail
  refine (mailsOk_any lo hh lo' hh' g nm t b nx ma mn mc ga gn gc L G _ HL.out HN.out HSM.out (HR.out.later B3.out) HGL.out HGN.out (HIS.out.later B3.out)).mono ?_; rintro e w6 ⟨rfl, hb6⟩
  rw [HP7.out]
  have B6 := hid (btr B3.out hb6)
  have HE : Hid (bxOk g nm t b nx L G = p7) := by show _ = _; rw [HX2.out]; rfl
  clear hb6 c0 HX HX2
  go_wp2
  go_ret
  exact ⟨by rw [HE.out]; rfl, B6.out⟩
end Go.Proofs.YtlhofbnnonljaaaGreatDoor
namespace Go.Proofs.YtlhofbnnonljaaaGreatDoor
open Go.RowKit Go.Shelf Go.ChangeMaps
attribute [local go_sem] Oper.semAt_some
end Go.Proofs.YtlhofbnnonljaaaGreatDoor
namespace Go.Proofs.YtlhofbnnonljaaaGreatDoor
open Go.RowKit Go.Shelf Go.ChangeMaps
attribute [local go_sem] Oper.semAt_some
theorem zc_one {Z : List Z5} (h : ∀ z ∈ Z, ∃ a k c, z.2.2.1 = .slice a k c) : ∀ u ∈ zc Z, u.oneCell' = true := by
  induction Z with
  | nil => intro u hu; cases hu
  | cons z Z ih =>
    intro u hu
    simp only [zc, List.mem_cons] at hu
    rcases hu with rfl | rfl | rfl | rfl | hu
    · rfl
    · rfl
    · obtain ⟨a, k, c, hz⟩ := h z (by simp)
      rw [hz]; rfl
    · rfl
    · exact ih (fun y hy => h y (by simp [hy])) u hu
theorem cells_new4 (w : World) (z : Z5) (e : Nat) : ∀ j u, (zc [z])[j]? = some u → (w.alloc (.cells #[.int .i64 z.1, .int .i64 z.2.1, z.2.2.1, .string z.2.2.2.2] e)).cell? ((⟨w.heap.size, 0, none⟩ : Addr).add j) = some u := by
  intro j u hu
  have h := heap_alloc_new w (.cells #[.int .i64 z.1, .int .i64 z.2.1, z.2.2.1, .string z.2.2.2.2] e)
  rw [addr_add, Nat.zero_add, cell_of_row _ _ _ _ _ _ h]
  simpa [zc] using hu
end Go.Proofs.YtlhofbnnonljaaaGreatDoor
namespace Go.Proofs.YtlhofbnnonljaaaGreatDoor
open Go.RowKit Go.ChangeMaps
end Go.Proofs.YtlhofbnnonljaaaGreatDoor
namespace Go.Proofs.YtlhofbnnonljaaaGreatDoor
open Go.RowKit Go.ChangeMaps
end Go.Proofs.YtlhofbnnonljaaaGreatDoor
namespace Go.Proofs.YtlhofbnnonljaaaGreatDoor
open Go.RowKit Go.ChangeMaps
end Go.Proofs.YtlhofbnnonljaaaGreatDoor
namespace Go.Proofs.YtlhofbnnonljaaaGreatDoor
open Go.RowKit Go.ChangeMaps
/-- What comes of an owned row when a mail is appended: the mail lies in a block of its own, laid just ahead. -/
theorem OwZ.snoc {w w' : World} {B : Nat} {v v' : Value} {Z : List Z5} (hown : OwZ w B v Z) (z : Z5) (ho : Ow w B z.2.2.1 z.2.2.2.1) (hv : Dj v z.2.2.1) (hd : ∀ y ∈ Z, Dj y.2.2.1 z.2.2.1) (o : Obj)
    (hrow : w'.ownsRow B 103 4 v' (Z.length + 1) (zc Z ++ zc [z])) (hg : (w.alloc o).grownBy w' v.ownBlock) (hloc : v'.ownBlock = v.ownBlock ∨ v'.ownBlock = some (w.alloc o).heap.size) : OwZ w' B v' (Z ++ [z]) := by
  have hkeep : ∀ {x : Value} {l : List R3}, Ow w B x l → Dj v x → Ow w' B x l := fun hx hdx => by
    have h1 := hx.alloc o
    refine World.ownsRow.kept h1 hg ?_
    cases hxb : Value.ownBlock _ with
    | none => exact Or.inl rfl
    | some j => exact Or.inr (fun e => hdx j e.symm hxb)
  have hoff : ∀ {x : Value} {l : List R3}, Ow w B x l → Dj v x → Dj v' x := fun hx hdx j hj hj' => by
    rcases hloc with h | h
    · exact hdx j (by rw [← h]; exact hj) hj'
    · rw [h] at hj
      have := (hx.lt j hj').2
      simp at hj
      omega
  refine ⟨?_, fun y hy => ?_, fun y hy => ?_, ?_⟩
  · rw [zc_app]; simpa using hrow
  · rcases List.mem_append.1 hy with hy | hy
    · exact hkeep (hown.each y hy) (hown.off y hy)
    · simp at hy; subst hy; exact hkeep ho hv
  · rcases List.mem_append.1 hy with hy | hy
    · exact hoff (hown.each y hy) (hown.off y hy)
    · simp at hy; subst hy; exact hoff ho hv
  · rw [List.pairwise_append]
    refine ⟨hown.apart, by simp, ?_⟩
    intro x hx y hy
    simp at hy
    subst hy
    exact hd x hx
theorem z_one {z : Z5} {W : World} {B : Nat} (ho : Ow W B z.2.2.1 z.2.2.2.1) : ∀ u ∈ zc [z], u.oneCell' = true :=
  zc_one (fun y hy => by simp at hy; subst hy; obtain ⟨a, c, h, _⟩ := Ow.shape ho; exact ⟨a, _, c, h⟩)
/-- The same where the order is given. -/
theorem wpList_append_ml {ops : Array Oper} {rest : List Oper} {o : Oper} {a : Act} {w : World} {Q : Exit → Act → World → Prop} (hgd : o.guard = none) (s x : Operand)
    (hop : o.op = .call { callee := .builtin .append, args := #[s, x], argTypes := #[75, 75] })
    (B : Nat) (v : Value) (Z : List Z5) (hs : a.eval s = v) (z : Z5) (hown : OwZ w B v Z) (ho : Ow w B z.2.2.1 z.2.2.2.1) (hv : Dj v z.2.2.1) (hd : ∀ y ∈ Z, Dj y.2.2.1 z.2.2.1)
    (hx : a.eval x = .slice (some ⟨w.heap.size, 0, none⟩) 1 1) (hlen : Z.length ≤ 1048576) (hB : B ≤ w.heap.size)
    (hK : ∀ v' w', OwZ w' B v' (Z ++ [z]) → Below B w w' → (w.alloc (.cells #[.int .i64 z.1, .int .i64 z.2.1, z.2.2.1, .string z.2.2.2.2] 103)).grownBy w' v.ownBlock → (∀ j, v'.ownBlock = some j → v.ownBlock = some j ∨ w.heap.size ≤ j) → wpList Tryz.prog ops Q rest (a.put o.dst v') w') :
    wpList Tryz.prog ops Q (o :: rest) a (w.alloc (.cells #[.int .i64 z.1, .int .i64 z.2.1, z.2.2.1, .string z.2.2.2.2] 103)) := by
  obtain ⟨i0, hi, hz0, hz1, hz2⟩ := info_parts3 info_ml
  refine wpList_append_own_at _ hgd s x 75 hop B 103 i0 _ 4 56 Tryz.underlying75 hi hz0 hz1 hz2 rfl (by decide) v _ _ hs (hown.row.alloc _) ⟨w.heap.size, 0, none⟩ 1 1 (zc [z]) hx rfl (cells_new4 w z 103) (z_one ho) (by unfold maxLen; omega) (by omega) (by simp; omega) ?_
  intro v' w' h2 h3 h4 h5
  exact hK v' w' (hown.snoc z ho hv hd _ h2 h3 h5) (((Below.refl B w).alloc hB _).grown h3 (by simp; omega) (fun k hk => (hown.row.lt k hk).1)) h3 (fun j hj => by
    rcases h5 with h5 | h5
    · exact .inl (by rw [← h5]; exact hj)
    · rw [h5] at hj; simp at hj; exact .inr (by omega))
/-! Numbers copied. -/
theorem Is.all {lo hi : Nat} {W : World} {ad : Addr} {G : List Int} (h : Is lo hi W (some ad) G) : ∀ j u, (G.map (Value.int .i64))[j]? = some u → W.cell? (ad.add j) = some u := by
  intro j u hu
  have hj : j < G.length := by have := (List.getElem?_eq_some_iff.1 hu).1; simpa using this
  obtain ⟨k, o, h1, _, _, hc⟩ := h.2 j hj
  simp only [Option.some.injEq] at h1
  subst h1
  rw [addr_add, hc]
  rw [List.getElem?_map, List.getElem?_eq_getElem hj] at hu
  simpa using hu
theorem ownI_empty (W : World) (B : Nat) (hB : B ≤ W.heap.size) : OwI (W.alloc (.cells #[] 3)) B (.slice (some ⟨W.heap.size, 0, none⟩) 0 0) [] :=
  World.ownsRow_lit (base := B) (e := 3) (size := 1) W #[] 0 hB (by unfold maxLen; omega) rfl
theorem info_int : (Tryz.prog.info? 3).map (fun i => (i.zero, i.size, i.bytes)) = some (some (.int .i64 0), 1, 8) := by kernel_rfl
/-- A box as it is meant: Gid, Name, Named, Next, Mails, Gone. -/
abbrev X7 := Int × ByteArray × Int × Int × Int × List M4 × List Int
/-- A box as it lies: its fields, the values of its lists, and the blocks between which they lie. -/
structure Y9 where
  g : Int
  nm : ByteArray
  t : Int
  b : Int
  nx : Int
  mv : Value
  gv : Value
  L : List M4
  G : List Int
  lo : Nat
  hi : Nat
def yd (y : Y9) : X7 := (y.g, y.nm, y.t, y.b, y.nx, y.L, y.G)
/-- The cells of boxes. -/
def yc : List Y9 → List Value
  | [] => []
  | y :: Y => .int .i64 y.g :: .string y.nm :: .int .i64 y.t :: .int .i64 y.b :: .int .i64 y.nx :: y.mv :: y.gv :: yc Y
theorem yc_len (Y : List Y9) : (yc Y).length = Y.length * 7 := by
  induction Y with
  | nil => rfl
  | cons y Y ih => simp only [yc, List.length_cons, ih]; omega
theorem yc_app (Y X : List Y9) : yc (Y ++ X) = yc Y ++ yc X := by
  induction Y with
  | nil => rfl
  | cons y Y ih => simp only [List.cons_append, yc, ih]
theorem yc_at (Y : List Y9) (i : Nat) (h : i < Y.length) :
    (yc Y)[i * 7]? = some (.int .i64 Y[i].g) ∧ (yc Y)[i * 7 + 1]? = some (.string Y[i].nm) ∧ (yc Y)[i * 7 + 2]? = some (.int .i64 Y[i].t) ∧ (yc Y)[i * 7 + 3]? = some (.int .i64 Y[i].b) ∧ (yc Y)[i * 7 + 4]? = some (.int .i64 Y[i].nx) ∧ (yc Y)[i * 7 + 5]? = some Y[i].mv ∧ (yc Y)[i * 7 + 6]? = some Y[i].gv := by
  induction Y generalizing i with
  | nil => simp at h
  | cons y Y ih =>
    cases i with
    | zero => exact ⟨rfl, rfl, rfl, rfl, rfl, rfl, rfl⟩
    | succ i =>
      have h' : i < Y.length := by simpa using h
      have := ih i h'
      have e : (i + 1) * 7 = i * 7 + 1 + 1 + 1 + 1 + 1 + 1 + 1 := by omega
      rw [e]
      simpa [yc] using this
/-- The seven cells of a box. -/
def C7 (W : World) (k o : Nat) (g : Int) (nm : ByteArray) (t b nx : Int) (mv gv : Value) : Prop := W.cell? ⟨k, o, none⟩ = some (.int .i64 g) ∧ W.cell? ⟨k, o + 1, none⟩ = some (.string nm) ∧ W.cell? ⟨k, o + 2, none⟩ = some (.int .i64 t) ∧ W.cell? ⟨k, o + 3, none⟩ = some (.int .i64 b) ∧ W.cell? ⟨k, o + 4, none⟩ = some (.int .i64 nx) ∧ W.cell? ⟨k, o + 5, none⟩ = some mv ∧ W.cell? ⟨k, o + 6, none⟩ = some gv
theorem C7.same {W W' : World} {k o : Nat} {g : Int} {nm : ByteArray} {t b nx : Int} {mv gv : Value} (h : C7 W k o g nm t b nx mv gv) (e : W'.heap[k]? = W.heap[k]?) : C7 W' k o g nm t b nx mv gv :=
  ⟨(cell_same (p := ⟨k, _, none⟩) e).trans h.1, (cell_same (p := ⟨k, _, none⟩) e).trans h.2.1, (cell_same (p := ⟨k, _, none⟩) e).trans h.2.2.1, (cell_same (p := ⟨k, _, none⟩) e).trans h.2.2.2.1, (cell_same (p := ⟨k, _, none⟩) e).trans h.2.2.2.2.1, (cell_same (p := ⟨k, _, none⟩) e).trans h.2.2.2.2.2.1, (cell_same (p := ⟨k, _, none⟩) e).trans h.2.2.2.2.2.2⟩
theorem C7.later {W W' : World} {k o : Nat} {g : Int} {nm : ByteArray} {t b nx : Int} {mv gv : Value} (h : C7 W k o g nm t b nx mv gv) (hk : k < W.heap.size) (hb : Below W.heap.size W W') : C7 W' k o g nm t b nx mv gv := h.same (hb.block k hk)
theorem Is.wid {lo hi lo' hi' : Nat} {W : World} {a : Option Addr} {G : List Int} (h : Is lo hi W a G) (h1 : lo' ≤ lo) (h2 : hi ≤ hi') (h3 : hi' ≤ W.heap.size) : Is lo' hi' W a G := by
  refine ⟨h3, fun i hi' => ?_⟩
  obtain ⟨k, o, e1, e2, e3, e4⟩ := h.2 i hi'
  exact ⟨k, o, e1, by omega, by omega, e4⟩
/-- The slice of address a is the boxes of S, in blocks from lo on, below hi. -/
def Bs (lo hi : Nat) (W : World) (a : Option Addr) (S : List X7) : Prop :=
  hi ≤ W.heap.size ∧ ∀ i (h : i < S.length), ∃ k o ma mc ga gc, a = some ⟨k, o, none⟩ ∧ lo ≤ k ∧ k < hi ∧
    C7 W k (o + i * 7) S[i].1 S[i].2.1 S[i].2.2.1 S[i].2.2.2.1 S[i].2.2.2.2.1 (.slice ma S[i].2.2.2.2.2.1.length mc) (.slice ga S[i].2.2.2.2.2.2.length gc) ∧
    Ms lo hi W ma S[i].2.2.2.2.2.1 ∧ Is lo hi W ga S[i].2.2.2.2.2.2 ∧ (ma = none → mc = 0) ∧ (ga = none → gc = 0)
theorem Bs.same {lo hi : Nat} {W W' : World} {a : Option Addr} {S : List X7} (h : Bs lo hi W a S) (hs : hi ≤ W'.heap.size) (hk : ∀ k, lo ≤ k → k < hi → W'.heap[k]? = W.heap[k]?) : Bs lo hi W' a S := by
  refine ⟨hs, fun i hi' => ?_⟩
  obtain ⟨k, o, ma, mc, ga, gc, h1, h2, h3, c, hm, hg, h4, h5⟩ := h.2 i hi'
  exact ⟨k, o, ma, mc, ga, gc, h1, h2, h3, c.same (hk k h2 h3), hm.same hs hk, hg.same hs hk, h4, h5⟩
theorem Bs.later {lo hi : Nat} {W W' : World} {a : Option Addr} {S : List X7} (h : Bs lo hi W a S) (hb : Below W.heap.size W W') : Bs lo hi W' a S :=
  h.same (Nat.le_trans h.1 hb.size) (fun k _ hk => hb.block k (Nat.lt_of_lt_of_le hk h.1))
theorem Bs.wide {lo hi lo' hi' : Nat} {W : World} {a : Option Addr} {S : List X7} (h : Bs lo hi W a S) (h1 : lo' ≤ lo) (h2 : hi ≤ hi') (h3 : hi' ≤ W.heap.size) : Bs lo' hi' W a S := by
  refine ⟨h3, fun i hi'' => ?_⟩
  obtain ⟨k, o, ma, mc, ga, gc, e1, e2, e3, c, hm, hg, h4, h5⟩ := h.2 i hi''
  exact ⟨k, o, ma, mc, ga, gc, e1, by omega, by omega, c, hm.wide h1 h2 h3, hg.wid h1 h2 h3, h4, h5⟩
/-- What a reader of the i-th box wants. -/
theorem Bs.at {lo hi : Nat} {W : World} {a : Option Addr} {S : List X7} (h : Bs lo hi W a S) {i : Nat} (hi' : i < S.length) : ∃ k o ma mc ga gc, a = some ⟨k, o, none⟩ ∧ k < W.heap.size ∧
    C7 W k (o + i * 7) S[i].1 S[i].2.1 S[i].2.2.1 S[i].2.2.2.1 S[i].2.2.2.2.1 (.slice ma S[i].2.2.2.2.2.1.length mc) (.slice ga S[i].2.2.2.2.2.2.length gc) ∧
    Ms lo hi W ma S[i].2.2.2.2.2.1 ∧ Is lo hi W ga S[i].2.2.2.2.2.2 ∧ (ma = none → mc = 0) ∧ (ga = none → gc = 0) := by
  obtain ⟨k, o, ma, mc, ga, gc, e1, e2, e3, c, hm, hg, h4, h5⟩ := h.2 i hi'
  exact ⟨k, o, ma, mc, ga, gc, e1, Nat.lt_of_lt_of_le e3 h.1, c, hm, hg, h4, h5⟩
/-- The lists of a box that a call owns, all in blocks from lo on, below hi: no two rows in one block. -/
structure OwX (W : World) (lo hi : Nat) (mv gv : Value) (L : List M4) (G : List Int) : Prop where
  own : ∃ Z, Z.map md = L ∧ OwZ W lo mv Z ∧ OwI W lo gv G ∧ Dj gv mv ∧ (∀ z ∈ Z, Dj gv z.2.2.1) ∧ (∀ j, mv.ownBlock = some j → j < hi) ∧ (∀ j, gv.ownBlock = some j → j < hi) ∧ ∀ z ∈ Z, ∀ j, z.2.2.1.ownBlock = some j → j < hi
  top : hi ≤ W.heap.size
theorem ow_at {W W' : World} {B e size n : Nat} {x : Value} {xs : List Value} (ho : W.ownsRow B e size x n xs) (hk : ∀ j, x.ownBlock = some j → W'.heap[j]? = W.heap[j]?) : W'.ownsRow B e size x n xs := by
  refine ⟨ho.1, ho.2.imp id ?_⟩
  rintro ⟨g, cap, cur, h1, h2, h3, h4⟩
  exact ⟨g, cap, cur, h1, h2, (hk g (by rw [h1]; rfl)).trans h3, h4⟩
section
variable {W W' : World} {lo hi : Nat} {mv gv : Value} {L : List M4} {G : List Int}
theorem OwX.same (h : OwX W lo hi mv gv L G) (hs : hi ≤ W'.heap.size) (hk : ∀ k, lo ≤ k → k < hi → W'.heap[k]? = W.heap[k]?) : OwX W' lo hi mv gv L G := by
  obtain ⟨Z, h1, h2, h3, h4, h5, h6, h7, h8⟩ := h.own
  refine ⟨⟨Z, h1, ?_, ?_, h4, h5, h6, h7, h8⟩, hs⟩
  · refine ⟨ow_at h2.row (fun j hj => hk j (h2.row.lt j hj).1 (h6 j hj)), fun z hz => ow_at (h2.each z hz) (fun j hj => hk j ((h2.each z hz).lt j hj).1 (h8 z hz j hj)), h2.off, h2.apart⟩
  · exact ow_at h3 (fun j hj => hk j (h3.lt j hj).1 (h7 j hj))
theorem OwX.later (h : OwX W lo hi mv gv L G) (hb : Below W.heap.size W W') : OwX W' lo hi mv gv L G :=
  h.same (Nat.le_trans h.top hb.size) (fun k _ hk => hb.block k (Nat.lt_of_lt_of_le hk h.top))
theorem OwB.owx (h : OwB W lo mv gv L G) : OwX W lo W.heap.size mv gv L G := by
  obtain ⟨Z, h1, h2, h3, h4, h5⟩ := h
  exact ⟨⟨Z, h1, h2, h3, h4, h5, fun j hj => (h2.row.lt j hj).2, fun j hj => (h3.lt j hj).2, fun z hz j hj => ((h2.each z hz).lt j hj).2⟩, Nat.le_refl _⟩
theorem OwX.reads (h : OwX W lo hi mv gv L G) : ∃ a c a' c', mv = .slice a L.length c ∧ gv = .slice a' G.length c' ∧ Ms lo hi W a L ∧ Is lo hi W a' G ∧ (a = none → c = 0) ∧ (a' = none → c' = 0) := by
  obtain ⟨Z, h1, h2, h3, h4, h5, h6, h7, h8⟩ := h.own
  obtain ⟨a, c, rfl⟩ := h2.shape
  obtain ⟨a', c', rfl, _⟩ := h3.shape
  have hm := h2.ms
  have hi' := OwI.is h3
  have hlen : Z.length = L.length := by rw [← h1, List.length_map]
  have hnone : ∀ {n c m e size : Nat} {a : Option Addr} {xs : List Value}, W.ownsRow lo e size (.slice a n c) m xs → a = none → c = 0 := by
    intro n c m e size a xs ho ha
    subst ha
    rcases ho.2 with ⟨h1, _⟩ | ⟨g, cap, cur, h1, _⟩
    · simpa using congrArg (fun v => match v with | .slice _ _ c => c | _ => 0) h1
    · simp at h1
  refine ⟨a, c, a', c', by rw [hlen], rfl, ?_, ?_, hnone h2.row, hnone h3⟩
  · rw [h1] at hm
    refine ⟨h.top, fun i hi'' => ?_⟩
    obtain ⟨k, o, fa, fc, e1, e2, e3, e4, e5, e6⟩ := hm.2.2 i hi''
    subst e1
    refine ⟨k, o, fa, fc, rfl, e2, h6 k rfl, e4, fun hn => ?_, e6⟩
    obtain ⟨k', o', p1, p2, p3, p4⟩ := e5 hn
    subst p1
    refine ⟨k', o', rfl, p2, ?_, p4⟩
    have hil : i < Z.length := by omega
    have hz := hm.2.1
    -- the flags' value of the i-th mail is this slice
    have hrow := h2.row
    rcases h2.row.2 with ⟨q1, q2⟩ | ⟨g, cap, cur, q1, q2, q3, q4, q5, q6, q7⟩
    · simp at q1
    · simp only [Value.slice.injEq, Option.some.injEq, Addr.mk.injEq] at q1
      obtain ⟨⟨rfl, rfl, _⟩, _, rfl⟩ := q1
      have hc := (hrow.cellAt (i * 4 + 2) (by omega)).trans (zc_at Z i hil).2.2.1
      have hc2 := e4.2.2.1
      rw [show 0 + i * 4 + 2 = i * 4 + 2 by omega, hc] at hc2
      simp only [Option.some.injEq] at hc2
      exact h8 Z[i] (List.getElem_mem hil) k' (by rw [hc2]; rfl)
  · refine ⟨h.top, fun i hi'' => ?_⟩
    obtain ⟨k, o, e1, e2, e3, e4⟩ := hi'.2.2 i hi''
    subst e1
    exact ⟨k, o, rfl, e2, h7 k rfl, e4⟩
end
/-- A row of boxes that a call owns, with all their lists: no two rows in one block. -/
structure OwS (W : World) (B : Nat) (v : Value) (Y : List Y9) : Prop where
  row : W.ownsRow B 77 7 v Y.length (yc Y)
  each : ∀ y ∈ Y, OwX W y.lo y.hi y.mv y.gv y.L y.G ∧ B ≤ y.lo
  off : ∀ y ∈ Y, ∀ j, v.ownBlock = some j → j < y.lo ∨ y.hi ≤ j
  apart : Y.Pairwise fun x y => x.hi ≤ y.lo ∨ y.hi ≤ x.lo
section
variable {W W' : World} {B : Nat} {v : Value} {Y : List Y9}
theorem OwS.kept (h : OwS W B v Y) (hs : W.heap.size ≤ W'.heap.size) (hr : ∀ j, v.ownBlock = some j → W'.heap[j]? = W.heap[j]?) (he : ∀ y ∈ Y, ∀ j, y.lo ≤ j → j < y.hi → W'.heap[j]? = W.heap[j]?) : OwS W' B v Y :=
  ⟨ow_at h.row hr, fun y hy => ⟨(h.each y hy).1.same (Nat.le_trans (h.each y hy).1.top hs) (he y hy), (h.each y hy).2⟩, h.off, h.apart⟩
theorem OwS.later (h : OwS W B v Y) (hb : Below W.heap.size W W') : OwS W' B v Y :=
  h.kept hb.size (fun j hj => hb.block j (h.row.lt j hj).2) (fun y hy j _ hj => hb.block j (Nat.lt_of_lt_of_le hj (h.each y hy).1.top))
theorem OwS.base {B' : Nat} (h : OwS W B' v Y) (hB : B ≤ B') : OwS W B v Y :=
  ⟨own_base h.row hB, fun y hy => ⟨(h.each y hy).1, Nat.le_trans hB (h.each y hy).2⟩, h.off, h.apart⟩
theorem OwS.grown {k : Nat} (h : OwS W B v Y) (hg : W.grownBy W' (some k)) (hk : k < B) : OwS W' B v Y :=
  h.kept hg.size (fun j hj => hg.block j (h.row.lt j hj).2 (fun e => by have := (h.row.lt j hj).1; simp at e; omega)) (fun y hy j h1 h2 => hg.block j (Nat.lt_of_lt_of_le h2 (h.each y hy).1.top) (fun e => by have := (h.each y hy).2; simp at e; omega))
theorem OwS.shape (h : OwS W B v Y) : ∃ a c, v = .slice a Y.length c := by
  rcases h.row.2 with ⟨h1, h2⟩ | ⟨g, cap, cur, h1, _⟩
  · exact ⟨none, 0, by rw [h1, h2]⟩
  · exact ⟨_, _, h1⟩
/-- What it reads as. -/
theorem OwS.bs {n c : Nat} {a : Option Addr} (h : OwS W B (.slice a n c) Y) : n = Y.length ∧ Bs B W.heap.size W a (Y.map yd) := by
  have hw := h.row
  rcases h.row.2 with ⟨h1, h2⟩ | ⟨g, cap, cur, h1, h2, h3, h4, h5, h6, h7⟩
  · simp only [Value.slice.injEq] at h1
    refine ⟨by omega, Nat.le_refl _, fun i hi => ?_⟩
    rw [List.length_map] at hi
    omega
  · simp only [Value.slice.injEq] at h1
    obtain ⟨rfl, rfl, rfl⟩ := h1
    refine ⟨rfl, Nat.le_refl _, fun i hi => ?_⟩
    rw [List.length_map] at hi
    have e := yc_at Y i hi
    obtain ⟨hx, hlo⟩ := h.each Y[i] (List.getElem_mem hi)
    obtain ⟨ma, mc, ga, gc, e1, e2, e3, e4, e5, e6⟩ := hx.reads
    rw [e1, e2] at e
    refine ⟨g, 0, ma, mc, ga, gc, rfl, h2, (Array.getElem?_eq_some_iff.1 h3).1, ?_, ?_, ?_, e5, e6⟩
    · simp only [Nat.zero_add, List.getElem_map, yd]
      exact ⟨(hw.cellAt _ (by omega)).trans e.1, (hw.cellAt _ (by omega)).trans e.2.1, (hw.cellAt _ (by omega)).trans e.2.2.1, (hw.cellAt _ (by omega)).trans e.2.2.2.1, (hw.cellAt _ (by omega)).trans e.2.2.2.2.1, (hw.cellAt _ (by omega)).trans e.2.2.2.2.2.1, (hw.cellAt _ (by omega)).trans e.2.2.2.2.2.2⟩
    · simpa [yd] using e3.wide hlo hx.top (Nat.le_refl _)
    · simpa [yd] using e4.wid hlo hx.top (Nat.le_refl _)
end
/-- What comes of an owned row when a box is appended. -/
theorem OwS.snoc {w w' : World} {B : Nat} {v v' : Value} {Y : List Y9} (hown : OwS w B v Y) (y : Y9) (ho : OwX w y.lo y.hi y.mv y.gv y.L y.G) (hB : B ≤ y.lo) (hv : ∀ j, v.ownBlock = some j → j < y.lo ∨ y.hi ≤ j) (hd : ∀ x ∈ Y, x.hi ≤ y.lo ∨ y.hi ≤ x.lo) (o : Obj)
    (hrow : w'.ownsRow B 77 7 v' (Y ++ [y]).length (yc (Y ++ [y]))) (hg : (w.alloc o).grownBy w' v.ownBlock) (hloc : ∀ j, v'.ownBlock = some j → v.ownBlock = some j ∨ w.heap.size < j) : OwS w' B v' (Y ++ [y]) := by
  have hsz : w.heap.size ≤ w'.heap.size := by have := hg.size; simp at this; omega
  have hkeep : ∀ {x : Y9}, OwX w x.lo x.hi x.mv x.gv x.L x.G → (∀ j, v.ownBlock = some j → j < x.lo ∨ x.hi ≤ j) → OwX w' x.lo x.hi x.mv x.gv x.L x.G := fun hx hf =>
    hx.same (Nat.le_trans hx.top hsz) (fun k k1 k2 => (hg.block k (by have := hx.top; simp; omega) (fun e => by have := hf k e.symm; omega)).trans (Below.heap_alloc w o k (Nat.lt_of_lt_of_le k2 hx.top)))
  refine ⟨hrow, fun x hx => ?_, fun x hx j hj => ?_, ?_⟩
  · rcases List.mem_append.1 hx with hx | hx
    · exact ⟨hkeep (hown.each x hx).1 (hown.off x hx), (hown.each x hx).2⟩
    · simp only [List.mem_cons, List.not_mem_nil, or_false] at hx
      subst hx
      exact ⟨hkeep ho hv, hB⟩
  · have htop : x.hi ≤ w.heap.size := by
      rcases List.mem_append.1 hx with hx | hx
      · exact (hown.each x hx).1.top
      · simp only [List.mem_cons, List.not_mem_nil, or_false] at hx
        subst hx
        exact ho.top
    rcases hloc j hj with h | h
    · rcases List.mem_append.1 hx with hx | hx
      · exact hown.off x hx j h
      · simp only [List.mem_cons, List.not_mem_nil, or_false] at hx
        subst hx
        exact hv j h
    · exact .inr (by omega)
  · rw [List.pairwise_append]
    refine ⟨hown.apart, List.pairwise_singleton _ _, fun x hx z hz => ?_⟩
    simp only [List.mem_cons, List.not_mem_nil, or_false] at hz
    subst hz
    exact hd x hx
theorem info_bx : (Tryz.prog.info? 77).map (fun i => (i.zero, i.size, i.bytes)) = some (some (.agg #[.int .i64 0, .string ⟨#[]⟩, .int .i64 0, .int .i64 0, .int .i64 0, .slice none 0 0, .slice none 0 0]), 7, 96) := by kernel_rfl
theorem cells_new7 (w : World) (y : Y9) (e : Nat) : ∀ j u, (yc [y])[j]? = some u → (w.alloc (.cells #[.int .i64 y.g, .string y.nm, .int .i64 y.t, .int .i64 y.b, .int .i64 y.nx, y.mv, y.gv] e)).cell? ((⟨w.heap.size, 0, none⟩ : Addr).add j) = some u := by
  intro j u hj
  have hh := heap_alloc_new w (.cells #[.int .i64 y.g, .string y.nm, .int .i64 y.t, .int .i64 y.b, .int .i64 y.nx, y.mv, y.gv] e)
  have hlt : j < 7 := by
    have := (List.getElem?_eq_some_iff.1 hj).1
    rw [yc_len] at this
    simpa using this
  have h2 : j = 0 ∨ j = 1 ∨ j = 2 ∨ j = 3 ∨ j = 4 ∨ j = 5 ∨ j = 6 := by omega
  rcases h2 with rfl | rfl | rfl | rfl | rfl | rfl | rfl <;> simp only [yc, List.getElem?_cons_zero, List.getElem?_cons_succ, Option.some.injEq] at hj <;> subst hj
  · exact cell_of_row _ _ 0 _ _ _ hh
  · exact cell_of_row _ _ 1 _ _ _ hh
  · exact cell_of_row _ _ 2 _ _ _ hh
  · exact cell_of_row _ _ 3 _ _ _ hh
  · exact cell_of_row _ _ 4 _ _ _ hh
  · exact cell_of_row _ _ 5 _ _ _ hh
  · exact cell_of_row _ _ 6 _ _ _ hh
/-- Block k holds a store. -/
def Sx (W : World) (k ty : Nat) (y tm : Int) (bv gv : Value) : Prop := W.heap[k]? = some (.cells #[.int .i64 y, .int .i64 tm, bv, gv] ty (0, 0))
theorem Sx.new (w : World) (ty : Nat) (y tm : Int) (bv gv : Value) : Sx (w.alloc (.cells #[.int .i64 y, .int .i64 tm, bv, gv] ty)) w.heap.size ty y tm bv gv := heap_alloc_new w _
section
variable {W W' : World} {k ty : Nat} {y tm : Int} {bv gv : Value}
theorem Sx.lt (h : Sx W k ty y tm bv gv) : k < W.heap.size := (Array.getElem?_eq_some_iff.1 h).1
theorem Sx.later (h : Sx W k ty y tm bv gv) (hb : Below W.heap.size W W') : Sx W' k ty y tm bv gv := (hb.block k h.lt).trans h
theorem Sx.grown {r : Option Nat} (h : Sx W k ty y tm bv gv) (hg : W.grownBy W' r) (hk : some k ≠ r) : Sx W' k ty y tm bv gv := (hg.block k h.lt hk).trans h
theorem Sx.off {c : Nat} (h : Sx W k ty y tm bv gv) (hg : W.grownBy W' (some c)) (hk : k ≠ c) : Sx W' k ty y tm bv gv := h.grown hg (fun e => by simp only [Option.some.injEq] at e; omega)
theorem Sx.cells (h : Sx W k ty y tm bv gv) : W.cell? ⟨k, 0, none⟩ = some (.int .i64 y) ∧ W.cell? ⟨k, 1, none⟩ = some (.int .i64 tm) ∧ W.cell? ⟨k, 2, none⟩ = some bv ∧ W.cell? ⟨k, 3, none⟩ = some gv :=
  ⟨cell_of_row W k 0 _ _ _ h, cell_of_row W k 1 _ _ _ h, cell_of_row W k 2 _ _ _ h, cell_of_row W k 3 _ _ _ h⟩
theorem Sx.loose (h : Sx W k ty y tm bv gv) : W.frozen? ⟨k, 0, none⟩ = false ∧ W.frozen? ⟨k, 1, none⟩ = false ∧ W.frozen? ⟨k, 2, none⟩ = false ∧ W.frozen? ⟨k, 3, none⟩ = false :=
  ⟨frozen_of_row W k 0 _ _ h, frozen_of_row W k 1 _ _ h, frozen_of_row W k 2 _ _ h, frozen_of_row W k 3 _ _ h⟩
theorem Sx.s0 (h : Sx W k ty y tm bv gv) (x : Int) : Sx (W.setCell ⟨k, 0, none⟩ (.int .i64 x)) k ty x tm bv gv := heap_setCell_same W k 0 _ _ (.int .i64 x) h
theorem Sx.s1 (h : Sx W k ty y tm bv gv) (x : Int) : Sx (W.setCell ⟨k, 1, none⟩ (.int .i64 x)) k ty y x bv gv := heap_setCell_same W k 1 _ _ (.int .i64 x) h
theorem Sx.s2 (h : Sx W k ty y tm bv gv) (x : Value) : Sx (W.setCell ⟨k, 2, none⟩ x) k ty y tm x gv := heap_setCell_same W k 2 _ _ x h
theorem Sx.s3 (h : Sx W k ty y tm bv gv) (x : Value) : Sx (W.setCell ⟨k, 3, none⟩ x) k ty y tm bv x := heap_setCell_same W k 3 _ _ x h
end
/-- Four stores into one block. -/
def put4 (W : World) (k : Nat) (y tm : Int) (bv gv : Value) : World :=
  (((W.setCell ⟨k, 0, none⟩ (.int .i64 y)).setCell ⟨k, 1, none⟩ (.int .i64 tm)).setCell ⟨k, 2, none⟩ bv).setCell ⟨k, 3, none⟩ gv
theorem put4_grown (W : World) (k : Nat) (y tm : Int) (bv gv : Value) : W.grownBy (put4 W k y tm bv gv) (some k) := wst (wst (wst (wst (wre _ _) _ _) _ _) _ _) _ _
theorem Sx.put4 {W : World} {k ty : Nat} {y tm : Int} {bv gv : Value} (h : Sx W k ty y tm bv gv) (y' tm' : Int) (bv' gv' : Value) : Sx (Go.Proofs.YtlhofbnnonljaaaGreatDoor.put4 W k y' tm' bv' gv') k ty y' tm' bv' gv' :=
  (((h.s0 y').s1 tm').s2 bv').s3 gv'
/-- The lists of a store that a call owns: no two rows in one block. -/
structure OwT (W : World) (B : Nat) (bv gv : Value) (S : List X7) (G : List Int) : Prop where
  own : ∃ Y, Y.map yd = S ∧ OwS W B bv Y ∧ OwI W B gv G ∧ Dj gv bv ∧ ∀ y ∈ Y, ∀ j, gv.ownBlock = some j → j < y.lo ∨ y.hi ≤ j
theorem OwT.later {W W' : World} {B : Nat} {bv gv : Value} {S : List X7} {G : List Int} (h : OwT W B bv gv S G) (hb : Below W.heap.size W W') : OwT W' B bv gv S G := by
  obtain ⟨Y, h1, h2, h3, h4, h5⟩ := h.own
  exact ⟨Y, h1, h2.later hb, own_later h3 hb, h4, h5⟩
theorem OwT.base {W : World} {B B' : Nat} {bv gv : Value} {S : List X7} {G : List Int} (h : OwT W B' bv gv S G) (hB : B ≤ B') : OwT W B bv gv S G := by
  obtain ⟨Y, h1, h2, h3, h4, h5⟩ := h.own
  exact ⟨Y, h1, h2.base hB, own_base h3 hB, h4, h5⟩
theorem OwT.grown {W W' : World} {B k : Nat} {bv gv : Value} {S : List X7} {G : List Int} (h : OwT W B bv gv S G) (hg : W.grownBy W' (some k)) (hk : k < B) : OwT W' B bv gv S G := by
  obtain ⟨Y, h1, h2, h3, h4, h5⟩ := h.own
  exact ⟨Y, h1, h2.grown hg hk, OwI.grown h3 hg hk, h4, h5⟩
theorem OwT.reads {W : World} {B n c n' c' : Nat} {a a' : Option Addr} {S : List X7} {G : List Int} (h : OwT W B (.slice a n c) (.slice a' n' c') S G) : n = S.length ∧ n' = G.length ∧ Bs B W.heap.size W a S ∧ Is B W.heap.size W a' G := by
  obtain ⟨Y, rfl, h2, h3, _⟩ := h.own
  exact ⟨by rw [List.length_map]; exact h2.bs.1, (OwI.is h3).1, h2.bs.2, (OwI.is h3).2⟩
theorem OwT.shape {W : World} {B : Nat} {bv gv : Value} {S : List X7} {G : List Int} (h : OwT W B bv gv S G) : ∃ a c a' c', bv = .slice a S.length c ∧ gv = .slice a' G.length c' := by
  obtain ⟨Y, rfl, h2, h3, _⟩ := h.own
  obtain ⟨a, c, hv⟩ := h2.shape
  obtain ⟨a', c', hv', _⟩ := h3.shape
  exact ⟨a, c, a', c', by rw [List.length_map]; exact hv, hv'⟩
/-- The place of the first that is so; -1 without one. -/
def fidx {α : Type} (p : α → Bool) : List α → Nat → Int
  | [], _ => -1
  | x :: S, i => if p x = true then (i : Int) else fidx p S (i + 1)
theorem fidx_here {α : Type} {p : α → Bool} {S : List α} {i : Nat} (h : i < S.length) (e : p S[i] = true) : fidx p (S.drop i) i = i := by
  rw [List.drop_eq_getElem_cons h, fidx, if_pos e]
theorem fidx_on {α : Type} {p : α → Bool} {S : List α} {i : Nat} (h : i < S.length) (e : p S[i] = false) : fidx p (S.drop i) i = fidx p (S.drop (i + 1)) (i + 1) := by
  rw [List.drop_eq_getElem_cons h, fidx, if_neg (by rw [e]; decide)]
/-- Boxes of which nothing is too great. -/
def Sb (S : List X7) : Prop := ∀ x ∈ S, x.2.1.size ≤ 1048576 ∧ x.2.2.2.2.2.1.length ≤ 1048576 ∧ Sm x.2.2.2.2.2.1 ∧ x.2.2.2.2.2.2.length ≤ 1048576
def isN (n : ByteArray) (x : X7) : Bool := decide (x.2.1 = n)
set_option maxHeartbeats 800000 in
set_option maxRecDepth 100000 in
theorem specBoxNamed_any (lo hi : Nat) (y tm : Int) (ba : Option Addr) (bn bc : Nat) (gv : Value) (S : List X7) (x : ByteArray) (w : World) (hl : S.length = bn) (hn : bn ≤ 1048576) (hm : Bs lo hi w ba S) :
    Calls Tryz.prog 115 #[.agg #[.int .i64 y, .int .i64 tm, .slice ba bn bc, gv], .string x] w fun e w' => e = .returned (.int .i64 (fidx (isN x) S 0)) ∧ Below w.heap.size w w' := by
  obtain ⟨W0, hW0⟩ : ∃ W0, w.alloc (.cells #[.int .i64 y, .int .i64 tm, .slice ba bn bc, gv] 57) = W0 := ⟨_, rfl⟩
  have a0 : Sx W0 w.heap.size 57 y tm (.slice ba bn bc) gv := by subst hW0; exact Sx.new w _ y tm _ _
  have b0 : Below w.heap.size w W0 := by subst hW0; exact bpush (bre _) _
  have c0 := a0.cells
  have HR := hid (hm.later b0)
  have B0 := hid b0
  have HL := hid hl
  clear a0 b0 hm hl
  go_enter Tryz.func115, Tryz.ntmps115
  go_wp2
  clear hW0
  go_loopw [5] (fun iv wr => ∃ (i : Nat), i ≤ bn ∧ iv = .int .i64 (i : Int) ∧ Hid (fidx (isN x) S 0 = fidx (isN x) (S.drop i) i) ∧ wr = W0) (fun iv _ => bn - (intOf iv).toNat)
  case atStart => exact ⟨0, Nat.zero_le _, rfl, rfl, rfl⟩
  case round =>
    obtain ⟨i, hi, rfl, HQ, hw⟩ := hrel
    subst hw
    by_cases hlt : i < bn
    · have hil : i < S.length := by rw [HL.out]; exact hlt
      obtain ⟨k, o, ma, mc, ga, gc, rfl, hk, c, _⟩ := HR.out.at hil
      obtain ⟨z, hz⟩ : ∃ z, S[i].2.1 = z := ⟨_, rfl⟩
      have c := c.2.1
      rw [hz] at c
      have hI : (0 : Int) ≤ (i : Int) ∧ (i : Int) < (bn : Int) := by omega
      by_cases hxy : z = x
      · have HE : Hid (fidx (isN x) S 0 = i) := by show _ = _; rw [HQ.out, fidx_here hil (by unfold isN; rw [hz, hxy]; simp)]
        subst hxy
        clear hz
        go_wp2
        go_ret
        exact ⟨by rw [HE.out]; rfl, B0.out⟩
      · have HE : Hid (fidx (isN x) S 0 = fidx (isN x) (S.drop (i + 1)) (i + 1)) := by show _ = _; rw [HQ.out, fidx_on hil (by unfold isN; rw [hz]; simp [hxy])]
        have hxy' : (z.toList == x.toList) = false := bytes_ne hxy
        clear hz hxy
        go_wp2
        go_roundw
        case rel => exact ⟨i + 1, by omega, by go_num, HE, by first | rfl | trivial⟩
        case measure => simp [intOf]; omega
    · have HE : Hid (fidx (isN x) S 0 = -1) := by show _ = _; rw [HQ.out, List.drop_of_length_le (by rw [HL.out]; omega)]; rfl
      go_wp2
      go_ret
      exact ⟨by rw [HE.out]; rfl, B0.out⟩
end Go.Proofs.YtlhofbnnonljaaaGreatDoor
