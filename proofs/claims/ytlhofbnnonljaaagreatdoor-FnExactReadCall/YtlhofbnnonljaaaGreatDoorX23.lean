/- Cd, Ce, Cf. -/
import Derived.Test.YtlhofbnnonljaaaGreatDoorX22
namespace Go.Proofs.YtlhofbnnonljaaaGreatDoor
open Go.RowKit Go.ChangeMaps
set_option maxHeartbeats 1600000 in
set_option maxRecDepth 100000 in
theorem rgtNaming_any (kd bx gd fl : Int) (tx : ByteArray) (w : World) (ht : tx.size ≤ 1048576) :
    Calls Tryz.prog 27 #[.agg #[.int .i64 kd, .int .i64 bx, .int .i64 gd, .int .i64 fl, .string tx]] w fun e w' => e = .returned (.bool (gok bx && (nmOk tx && (decide (gd = 0) && decide (fl = 0))))) ∧ Below w.heap.size w w' := by
  have X0 := hid (Cx.new w 26 kd bx gd fl tx)
  have c0 := X0.out.cells
  have B0 := hid (bpush (bre w) (.cells #[.int .i64 kd, .int .i64 bx, .int .i64 gd, .int .i64 fl, .string tx] 26))
  obtain ⟨pb, hpb, CB⟩ := gid_l bx
  obtain ⟨q, hq, -, CN⟩ := name_l tx ht
  rw [← hpb.out, ← hq.out]
  clear ht hpb hq
  cases pb
  · go_enter Tryz.func27, Tryz.ntmps27
    go_wp2_with fail
    refine (CB.out _).mono ?_; rintro e w1 ⟨rfl, rfl⟩
    go_wp2
    all_goals
      go_ret
      exact ⟨ret_bool (by simp_all), B0.out⟩
  cases q
  · go_enter Tryz.func27, Tryz.ntmps27
    go_wp2_with fail
    refine (CB.out _).mono ?_; rintro e w1 ⟨rfl, rfl⟩
    go_wp2_with fail
    refine (CN.out _).mono ?_; rintro e w1 ⟨rfl, hb1⟩
    have B1 := hid (btr B0.out hb1)
    have X1 := hid (X0.out.later hb1)
    have c0 := X1.out.cells
    clear hb1
    go_wp2
    all_goals
      go_ret
      exact ⟨ret_bool (by simp_all), B1.out⟩
  by_cases hgd : gd = 0
  · subst hgd
    by_cases hfl : fl = 0
    · subst hfl
      go_enter Tryz.func27, Tryz.ntmps27
      go_wp2_with fail
      refine (CB.out _).mono ?_; rintro e w1 ⟨rfl, rfl⟩
      go_wp2_with fail
      refine (CN.out _).mono ?_; rintro e w1 ⟨rfl, hb1⟩
      have B1 := hid (btr B0.out hb1)
      have X1 := hid (X0.out.later hb1)
      have c0 := X1.out.cells
      clear hb1
      go_wp2
      all_goals
        go_ret
        exact ⟨ret_bool (by simp), B1.out⟩
    · go_enter Tryz.func27, Tryz.ntmps27
      go_wp2_with fail
      refine (CB.out _).mono ?_; rintro e w1 ⟨rfl, rfl⟩
      go_wp2_with fail
      refine (CN.out _).mono ?_; rintro e w1 ⟨rfl, hb1⟩
      have B1 := hid (btr B0.out hb1)
      have X1 := hid (X0.out.later hb1)
      have c0 := X1.out.cells
      clear hb1
      go_wp2
      all_goals
        go_ret
        exact ⟨ret_bool (by simp [hfl]), B1.out⟩
  · go_enter Tryz.func27, Tryz.ntmps27
    go_wp2_with fail
    refine (CB.out _).mono ?_; rintro e w1 ⟨rfl, rfl⟩
    go_wp2_with fail
    refine (CN.out _).mono ?_; rintro e w1 ⟨rfl, hb1⟩
    have B1 := hid (btr B0.out hb1)
    have X1 := hid (X0.out.later hb1)
    have c0 := X1.out.cells
    clear hb1
    go_wp2
    all_goals
      go_ret
      exact ⟨ret_bool (by simp [hgd]), B1.out⟩
set_option maxHeartbeats 1600000 in
set_option maxRecDepth 100000 in
theorem rgtDrop_any (kd bx gd fl : Int) (tx : ByteArray) (w : World) :
    Calls Tryz.prog 30 #[.agg #[.int .i64 kd, .int .i64 bx, .int .i64 gd, .int .i64 fl, .string tx]] w fun e w' => e = .returned (.bool (gok bx && (decide (gd = 0) && (decide (fl = 0) && decide (tx = ⟨#[]⟩))))) ∧ Below w.heap.size w w' := by
  have X0 := hid (Cx.new w 26 kd bx gd fl tx)
  have c0 := X0.out.cells
  have B0 := hid (bpush (bre w) (.cells #[.int .i64 kd, .int .i64 bx, .int .i64 gd, .int .i64 fl, .string tx] 26))
  obtain ⟨pb, hpb, CB⟩ := gid_l bx
  rw [← hpb.out]
  clear hpb
  cases pb
  · go_enter Tryz.func30, Tryz.ntmps30
    go_wp2_with fail
    refine (CB.out _).mono ?_; rintro e w1 ⟨rfl, rfl⟩
    go_wp2
    all_goals
      go_ret
      exact ⟨ret_bool (by simp_all), B0.out⟩
  by_cases hgd : gd = 0
  · subst hgd
    by_cases hfl : fl = 0
    · subst hfl
      by_cases hz : tx = ⟨#[]⟩
      · subst hz
        go_enter Tryz.func30, Tryz.ntmps30
        go_wp2_with fail
        refine (CB.out _).mono ?_; rintro e w1 ⟨rfl, rfl⟩
        go_wp2
        all_goals
          go_ret
          exact ⟨ret_bool (by simp), B0.out⟩
      · go_enter Tryz.func30, Tryz.ntmps30
        go_wp2_with fail
        refine (CB.out _).mono ?_; rintro e w1 ⟨rfl, rfl⟩
        go_wp2
        all_goals
          go_ret
          exact ⟨by first | exact (hz (bytes_eq (by rw [(by assumption : tx.toList = [])]; simp))).elim | simp [hz], B0.out⟩
    · go_enter Tryz.func30, Tryz.ntmps30
      go_wp2_with fail
      refine (CB.out _).mono ?_; rintro e w1 ⟨rfl, rfl⟩
      go_wp2
      all_goals
        go_ret
        exact ⟨ret_bool (by simp [hfl]), B0.out⟩
  · go_enter Tryz.func30, Tryz.ntmps30
    go_wp2_with fail
    refine (CB.out _).mono ?_; rintro e w1 ⟨rfl, rfl⟩
    go_wp2
    all_goals
      go_ret
      exact ⟨ret_bool (by simp [hgd]), B0.out⟩
set_option maxHeartbeats 1600000 in
set_option maxRecDepth 100000 in
theorem rgtPut_any (kd bx gd fl : Int) (tx : ByteArray) (w : World) :
    Calls Tryz.prog 32 #[.agg #[.int .i64 kd, .int .i64 bx, .int .i64 gd, .int .i64 fl, .string tx]] w fun e w' => e = .returned (.bool (gok bx && (gok gd && (decide (0 ≤ fl ∧ fl ≤ 7) && decide (tx.size ≤ 60))))) ∧ Below w.heap.size w w' := by
  have X0 := hid (Cx.new w 26 kd bx gd fl tx)
  have c0 := X0.out.cells
  have B0 := hid (bpush (bre w) (.cells #[.int .i64 kd, .int .i64 bx, .int .i64 gd, .int .i64 fl, .string tx] 26))
  obtain ⟨pb, hpb, CB⟩ := gid_l bx
  obtain ⟨pg, hpg, CG⟩ := gid_l gd
  have CF := hid (right_flags fl)
  obtain ⟨pf, hpf⟩ : ∃ p, decide (0 ≤ fl ∧ fl ≤ 7) = p := ⟨_, rfl⟩
  rw [hpf] at CF
  rw [← hpb.out, ← hpg.out, hpf]
  clear hpb hpg hpf
  cases pb
  · go_enter Tryz.func32, Tryz.ntmps32
    go_wp2_with fail
    refine (CB.out _).mono ?_; rintro e w1 ⟨rfl, rfl⟩
    go_wp2
    all_goals
      go_ret
      exact ⟨ret_bool (by simp_all), B0.out⟩
  cases pg
  · go_enter Tryz.func32, Tryz.ntmps32
    go_wp2_with fail
    refine (CB.out _).mono ?_; rintro e w1 ⟨rfl, rfl⟩
    go_wp2_with fail
    refine (CG.out _).mono ?_; rintro e w1 ⟨rfl, rfl⟩
    go_wp2
    all_goals
      go_ret
      exact ⟨ret_bool (by simp_all), B0.out⟩
  cases pf
  · go_enter Tryz.func32, Tryz.ntmps32
    go_wp2_with fail
    refine (CB.out _).mono ?_; rintro e w1 ⟨rfl, rfl⟩
    go_wp2_with fail
    refine (CG.out _).mono ?_; rintro e w1 ⟨rfl, rfl⟩
    go_wp2_with fail
    refine (CF.out _).mono ?_; rintro e w1 ⟨rfl, rfl⟩
    go_wp2
    all_goals
      go_ret
      exact ⟨ret_bool (by simp_all), B0.out⟩
  by_cases hz : (tx.size : Int) ≤ 60
  · go_enter Tryz.func32, Tryz.ntmps32
    go_wp2_with fail
    refine (CB.out _).mono ?_; rintro e w1 ⟨rfl, rfl⟩
    go_wp2_with fail
    refine (CG.out _).mono ?_; rintro e w1 ⟨rfl, rfl⟩
    go_wp2_with fail
    refine (CF.out _).mono ?_; rintro e w1 ⟨rfl, rfl⟩
    go_wp2
    all_goals
      go_ret
      exact ⟨ret_bool (by simp; omega), B0.out⟩
  · go_enter Tryz.func32, Tryz.ntmps32
    go_wp2_with fail
    refine (CB.out _).mono ?_; rintro e w1 ⟨rfl, rfl⟩
    go_wp2_with fail
    refine (CG.out _).mono ?_; rintro e w1 ⟨rfl, rfl⟩
    go_wp2_with fail
    refine (CF.out _).mono ?_; rintro e w1 ⟨rfl, rfl⟩
    go_wp2
    all_goals
      go_ret
      exact ⟨ret_bool (by simp; omega), B0.out⟩
set_option maxHeartbeats 1600000 in
set_option maxRecDepth 100000 in
theorem rgtMark_any (kd bx gd fl : Int) (tx : ByteArray) (w : World) :
    Calls Tryz.prog 34 #[.agg #[.int .i64 kd, .int .i64 bx, .int .i64 gd, .int .i64 fl, .string tx]] w fun e w' => e = .returned (.bool (gok bx && (gok gd && (decide (0 ≤ fl ∧ fl ≤ 7) && decide (tx = ⟨#[]⟩))))) ∧ Below w.heap.size w w' := by
  have X0 := hid (Cx.new w 26 kd bx gd fl tx)
  have c0 := X0.out.cells
  have B0 := hid (bpush (bre w) (.cells #[.int .i64 kd, .int .i64 bx, .int .i64 gd, .int .i64 fl, .string tx] 26))
  obtain ⟨pb, hpb, CB⟩ := gid_l bx
  obtain ⟨pg, hpg, CG⟩ := gid_l gd
  have CF := hid (right_flags fl)
  obtain ⟨pf, hpf⟩ : ∃ p, decide (0 ≤ fl ∧ fl ≤ 7) = p := ⟨_, rfl⟩
  rw [hpf] at CF
  rw [← hpb.out, ← hpg.out, hpf]
  clear hpb hpg hpf
  cases pb
  · go_enter Tryz.func34, Tryz.ntmps34
    go_wp2_with fail
    refine (CB.out _).mono ?_; rintro e w1 ⟨rfl, rfl⟩
    go_wp2
    all_goals
      go_ret
      exact ⟨ret_bool (by simp_all), B0.out⟩
  cases pg
  · go_enter Tryz.func34, Tryz.ntmps34
    go_wp2_with fail
    refine (CB.out _).mono ?_; rintro e w1 ⟨rfl, rfl⟩
    go_wp2_with fail
    refine (CG.out _).mono ?_; rintro e w1 ⟨rfl, rfl⟩
    go_wp2
    all_goals
      go_ret
      exact ⟨ret_bool (by simp_all), B0.out⟩
  cases pf
  · go_enter Tryz.func34, Tryz.ntmps34
    go_wp2_with fail
    refine (CB.out _).mono ?_; rintro e w1 ⟨rfl, rfl⟩
    go_wp2_with fail
    refine (CG.out _).mono ?_; rintro e w1 ⟨rfl, rfl⟩
    go_wp2_with fail
    refine (CF.out _).mono ?_; rintro e w1 ⟨rfl, rfl⟩
    go_wp2
    all_goals
      go_ret
      exact ⟨ret_bool (by simp_all), B0.out⟩
  by_cases hz : tx = ⟨#[]⟩
  · subst hz
    go_enter Tryz.func34, Tryz.ntmps34
    go_wp2_with fail
    refine (CB.out _).mono ?_; rintro e w1 ⟨rfl, rfl⟩
    go_wp2_with fail
    refine (CG.out _).mono ?_; rintro e w1 ⟨rfl, rfl⟩
    go_wp2_with fail
    refine (CF.out _).mono ?_; rintro e w1 ⟨rfl, rfl⟩
    go_wp2
    all_goals
      go_ret
      exact ⟨ret_bool (by simp_all), B0.out⟩
  · go_enter Tryz.func34, Tryz.ntmps34
    go_wp2_with fail
    refine (CB.out _).mono ?_; rintro e w1 ⟨rfl, rfl⟩
    go_wp2_with fail
    refine (CG.out _).mono ?_; rintro e w1 ⟨rfl, rfl⟩
    go_wp2_with fail
    refine (CF.out _).mono ?_; rintro e w1 ⟨rfl, rfl⟩
    go_wp2
    all_goals
      go_ret
      exact ⟨by simp [hz]; exact fun h => hz (bytes_eq (by rw [h]; simp)), B0.out⟩
set_option maxHeartbeats 1600000 in
set_option maxRecDepth 100000 in
theorem rgtOut_any (kd bx gd fl : Int) (tx : ByteArray) (w : World) :
    Calls Tryz.prog 36 #[.agg #[.int .i64 kd, .int .i64 bx, .int .i64 gd, .int .i64 fl, .string tx]] w fun e w' => e = .returned (.bool (gok bx && (gok gd && (decide (fl = 0) && decide (tx = ⟨#[]⟩))))) ∧ Below w.heap.size w w' := by
  have X0 := hid (Cx.new w 26 kd bx gd fl tx)
  have c0 := X0.out.cells
  have B0 := hid (bpush (bre w) (.cells #[.int .i64 kd, .int .i64 bx, .int .i64 gd, .int .i64 fl, .string tx] 26))
  obtain ⟨pb, hpb, CB⟩ := gid_l bx
  obtain ⟨pg, hpg, CG⟩ := gid_l gd
  rw [← hpb.out, ← hpg.out]
  clear hpb hpg
  cases pb
  · go_enter Tryz.func36, Tryz.ntmps36
    go_wp2_with fail
    refine (CB.out _).mono ?_; rintro e w1 ⟨rfl, rfl⟩
    go_wp2
    all_goals
      go_ret
      exact ⟨ret_bool (by simp_all), B0.out⟩
  cases pg
  · go_enter Tryz.func36, Tryz.ntmps36
    go_wp2_with fail
    refine (CB.out _).mono ?_; rintro e w1 ⟨rfl, rfl⟩
    go_wp2_with fail
    refine (CG.out _).mono ?_; rintro e w1 ⟨rfl, rfl⟩
    go_wp2
    all_goals
      go_ret
      exact ⟨ret_bool (by simp_all), B0.out⟩
  by_cases hfl : fl = 0
  · subst hfl
    by_cases hz : tx = ⟨#[]⟩
    · subst hz
      go_enter Tryz.func36, Tryz.ntmps36
      go_wp2_with fail
      refine (CB.out _).mono ?_; rintro e w1 ⟨rfl, rfl⟩
      go_wp2_with fail
      refine (CG.out _).mono ?_; rintro e w1 ⟨rfl, rfl⟩
      go_wp2
      all_goals
        go_ret
        exact ⟨ret_bool (by simp), B0.out⟩
    · go_enter Tryz.func36, Tryz.ntmps36
      go_wp2_with fail
      refine (CB.out _).mono ?_; rintro e w1 ⟨rfl, rfl⟩
      go_wp2_with fail
      refine (CG.out _).mono ?_; rintro e w1 ⟨rfl, rfl⟩
      go_wp2
      all_goals
        go_ret
        exact ⟨by first | exact (hz (bytes_eq (by rw [(by assumption : tx.toList = [])]; simp))).elim | simp [hz], B0.out⟩
  · go_enter Tryz.func36, Tryz.ntmps36
    go_wp2_with fail
    refine (CB.out _).mono ?_; rintro e w1 ⟨rfl, rfl⟩
    go_wp2_with fail
    refine (CG.out _).mono ?_; rintro e w1 ⟨rfl, rfl⟩
    go_wp2
    all_goals
      go_ret
      exact ⟨ret_bool (by simp [hfl]), B0.out⟩
theorem reads_l (s : ByteArray) (hs : s.size ≤ 1048576) : ∃ p : Bool, Hid (p = (rst s).isSome) ∧ Hid (∀ w, Nib w → Calls Tryz.prog 60 #[.string s] w fun e w' => ∃ y tm a n c a' n' c', e = .returned (.tuple #[.agg #[.int .i64 y, .int .i64 tm, .slice a n c, .slice a' n' c'], .bool p]) ∧ Below w.heap.size w w') := by
  refine ⟨(rst s).isSome, rfl, fun w hn => (implReadStore_any s w hs hn).mono ?_⟩
  rintro e w' (⟨h, rfl, hb⟩ | ⟨y, tm, S, G, bv, gv, h, -, rfl, ho, hb⟩)
  · exact ⟨0, 0, none, 0, 0, none, 0, 0, by rw [h]; rfl, hb⟩
  · obtain ⟨a, c, a', c', rfl, rfl⟩ := ho.shape
    exact ⟨y, tm, a, _, c, a', _, c', by rw [h]; rfl, hb⟩
set_option maxHeartbeats 1600000 in
set_option maxRecDepth 100000 in
theorem rgtJoin_any (kd bx gd fl : Int) (tx : ByteArray) (w : World) (ht : tx.size ≤ 1048576) (hn : Nib w) :
    Calls Tryz.prog 38 #[.agg #[.int .i64 kd, .int .i64 bx, .int .i64 gd, .int .i64 fl, .string tx]] w fun e w' => e = .returned (.bool ((rst tx).isSome && (decide (bx = 0) && (decide (gd = 0) && decide (fl = 0))))) ∧ Below w.heap.size w w' := by
  have X0 := hid (Cx.new w 26 kd bx gd fl tx)
  have c0 := X0.out.cells
  have B0 := hid (bpush (bre w) (.cells #[.int .i64 kd, .int .i64 bx, .int .i64 gd, .int .i64 fl, .string tx] 26))
  obtain ⟨q, hq, CR⟩ := reads_l tx ht
  have HN := hid (hn.on B0.out)
  rw [← hq.out]
  clear hq hn ht
  cases q
  · go_enter Tryz.func38, Tryz.ntmps38
    go_wp2_with fail
    refine (CR.out _ HN.out).mono ?_; rintro e w1 ⟨y, tm, a, n, c, a', n', c', rfl, hb1⟩
    have B1 := hid (bpush (btr B0.out hb1) (.cells #[.int .i64 y, .int .i64 tm, .slice a n c, .slice a' n' c'] 57))
    have X1 := hid (X0.out.later (bpush hb1 (.cells #[.int .i64 y, .int .i64 tm, .slice a n c, .slice a' n' c'] 57)))
    have c0 := X1.out.cells
    clear hb1
    go_wp2
    all_goals
      go_ret
      exact ⟨ret_bool (by simp_all), B1.out⟩
  by_cases hbx : bx = 0
  · subst hbx
    by_cases hgd : gd = 0
    · subst hgd
      by_cases hfl : fl = 0
      · subst hfl
        go_enter Tryz.func38, Tryz.ntmps38
        go_wp2_with fail
        refine (CR.out _ HN.out).mono ?_; rintro e w1 ⟨y, tm, a, n, c, a', n', c', rfl, hb1⟩
        have B1 := hid (bpush (btr B0.out hb1) (.cells #[.int .i64 y, .int .i64 tm, .slice a n c, .slice a' n' c'] 57))
        have X1 := hid (X0.out.later (bpush hb1 (.cells #[.int .i64 y, .int .i64 tm, .slice a n c, .slice a' n' c'] 57)))
        have c0 := X1.out.cells
        clear hb1
        go_wp2
        all_goals
          go_ret
          exact ⟨ret_bool (by simp), B1.out⟩
      · go_enter Tryz.func38, Tryz.ntmps38
        go_wp2_with fail
        refine (CR.out _ HN.out).mono ?_; rintro e w1 ⟨y, tm, a, n, c, a', n', c', rfl, hb1⟩
        have B1 := hid (bpush (btr B0.out hb1) (.cells #[.int .i64 y, .int .i64 tm, .slice a n c, .slice a' n' c'] 57))
        have X1 := hid (X0.out.later (bpush hb1 (.cells #[.int .i64 y, .int .i64 tm, .slice a n c, .slice a' n' c'] 57)))
        have c0 := X1.out.cells
        clear hb1
        go_wp2
        all_goals
          go_ret
          exact ⟨ret_bool (by simp [hfl]), B1.out⟩
    · go_enter Tryz.func38, Tryz.ntmps38
      go_wp2_with fail
      refine (CR.out _ HN.out).mono ?_; rintro e w1 ⟨y, tm, a, n, c, a', n', c', rfl, hb1⟩
      have B1 := hid (bpush (btr B0.out hb1) (.cells #[.int .i64 y, .int .i64 tm, .slice a n c, .slice a' n' c'] 57))
      have X1 := hid (X0.out.later (bpush hb1 (.cells #[.int .i64 y, .int .i64 tm, .slice a n c, .slice a' n' c'] 57)))
      have c0 := X1.out.cells
      clear hb1
      go_wp2
      all_goals
        go_ret
        exact ⟨ret_bool (by simp [hgd]), B1.out⟩
  · go_enter Tryz.func38, Tryz.ntmps38
    go_wp2_with fail
    refine (CR.out _ HN.out).mono ?_; rintro e w1 ⟨y, tm, a, n, c, a', n', c', rfl, hb1⟩
    have B1 := hid (bpush (btr B0.out hb1) (.cells #[.int .i64 y, .int .i64 tm, .slice a n c, .slice a' n' c'] 57))
    have X1 := hid (X0.out.later (bpush hb1 (.cells #[.int .i64 y, .int .i64 tm, .slice a n c, .slice a' n' c'] 57)))
    have c0 := X1.out.cells
    clear hb1
    go_wp2
    all_goals
      go_ret
      exact ⟨ret_bool (by simp [hbx]), B1.out⟩
set_option maxHeartbeats 1600000 in
set_option maxRecDepth 100000 in
theorem implCall1_any (bx gd fl : Int) (tx : ByteArray) (w : World) (ht : tx.size ≤ 1048576) (hn : Nib w) :
    Calls Tryz.prog 9 #[.agg #[.int .i64 1, .int .i64 bx, .int .i64 gd, .int .i64 fl, .string tx]] w fun e w' => e = .returned (.bool (cok 1 bx gd fl tx)) ∧ Below w.heap.size w w' := by
  have HS := hid ht
  have HN := hid hn
  have X0 := hid (Cx.new w 26 1 bx gd fl tx)
  have c0 := X0.out.cells
  have B0 := hid (bpush (bre w) (.cells #[.int .i64 1, .int .i64 bx, .int .i64 gd, .int .i64 fl, .string tx] 26))
  have CR : ∀ W, Hid (Below w.heap.size w W) → Calls Tryz.prog 27 #[.agg #[.int .i64 1, .int .i64 bx, .int .i64 gd, .int .i64 fl, .string tx]] W fun e w' => e = .returned (.bool (cok 1 bx gd fl tx)) ∧ Below W.heap.size W w' := fun W hb => by
    have hn := HN.out.on hb.out
    have ht := HS.out
    refine (rgtNaming_any 1 bx gd fl tx W ht).mono ?_
    rintro e w' ⟨rfl, h⟩
    exact ⟨ret_bool (by simp [cok, bxIn, gdIn, flIn, txOk]; cases gok bx <;> cases nmOk tx <;> cases decide (gd = 0) <;> cases decide (fl = 0) <;> rfl), h⟩
  obtain ⟨q, hq⟩ : ∃ q, cok 1 bx gd fl tx = q := ⟨_, rfl⟩
  rw [hq] at CR
  rw [hq]
  have HCR := hid CR
  clear CR ht hn hq
  go_enter Tryz.func9, Tryz.ntmps9
  go_wp2_with fail
  refine (wayOf_1 _).mono ?_; rintro e w1 ⟨rfl, hb1⟩
  have hb2 := bpush hb1 (.cells #[.func (.func 27) #[] #[], .func (.func 28) #[] #[]] 38)
  have B1 := hid (btr B0.out hb2)
  have X1 := hid (X0.out.later hb2)
  have c1 := X1.out.cells
  clear hb1 hb2 c0 X0
  go_wp2_with fail
  refine (HCR.out _ B1).mono ?_; rintro e w2 ⟨rfl, hb2⟩
  have B2 := hid (btr B1.out hb2)
  clear hb2 c1
  go_wp2
  go_ret
  exact ⟨rfl, B2.out⟩
set_option maxHeartbeats 1600000 in
set_option maxRecDepth 100000 in
theorem implCall2_any (bx gd fl : Int) (tx : ByteArray) (w : World) (ht : tx.size ≤ 1048576) (hn : Nib w) :
    Calls Tryz.prog 9 #[.agg #[.int .i64 2, .int .i64 bx, .int .i64 gd, .int .i64 fl, .string tx]] w fun e w' => e = .returned (.bool (cok 2 bx gd fl tx)) ∧ Below w.heap.size w w' := by
  have HS := hid ht
  have HN := hid hn
  have X0 := hid (Cx.new w 26 2 bx gd fl tx)
  have c0 := X0.out.cells
  have B0 := hid (bpush (bre w) (.cells #[.int .i64 2, .int .i64 bx, .int .i64 gd, .int .i64 fl, .string tx] 26))
  have CR : ∀ W, Hid (Below w.heap.size w W) → Calls Tryz.prog 27 #[.agg #[.int .i64 2, .int .i64 bx, .int .i64 gd, .int .i64 fl, .string tx]] W fun e w' => e = .returned (.bool (cok 2 bx gd fl tx)) ∧ Below W.heap.size W w' := fun W hb => by
    have hn := HN.out.on hb.out
    have ht := HS.out
    refine (rgtNaming_any 2 bx gd fl tx W ht).mono ?_
    rintro e w' ⟨rfl, h⟩
    exact ⟨ret_bool (by simp [cok, bxIn, gdIn, flIn, txOk]; cases gok bx <;> cases nmOk tx <;> cases decide (gd = 0) <;> cases decide (fl = 0) <;> rfl), h⟩
  obtain ⟨q, hq⟩ : ∃ q, cok 2 bx gd fl tx = q := ⟨_, rfl⟩
  rw [hq] at CR
  rw [hq]
  have HCR := hid CR
  clear CR ht hn hq
  go_enter Tryz.func9, Tryz.ntmps9
  go_wp2_with fail
  refine (wayOf_2 _).mono ?_; rintro e w1 ⟨rfl, hb1⟩
  have hb2 := bpush hb1 (.cells #[.func (.func 27) #[] #[], .func (.func 29) #[] #[]] 38)
  have B1 := hid (btr B0.out hb2)
  have X1 := hid (X0.out.later hb2)
  have c1 := X1.out.cells
  clear hb1 hb2 c0 X0
  go_wp2_with fail
  refine (HCR.out _ B1).mono ?_; rintro e w2 ⟨rfl, hb2⟩
  have B2 := hid (btr B1.out hb2)
  clear hb2 c1
  go_wp2
  go_ret
  exact ⟨rfl, B2.out⟩
set_option maxHeartbeats 1600000 in
set_option maxRecDepth 100000 in
theorem implCall3_any (bx gd fl : Int) (tx : ByteArray) (w : World) (ht : tx.size ≤ 1048576) (hn : Nib w) :
    Calls Tryz.prog 9 #[.agg #[.int .i64 3, .int .i64 bx, .int .i64 gd, .int .i64 fl, .string tx]] w fun e w' => e = .returned (.bool (cok 3 bx gd fl tx)) ∧ Below w.heap.size w w' := by
  have HS := hid ht
  have HN := hid hn
  have X0 := hid (Cx.new w 26 3 bx gd fl tx)
  have c0 := X0.out.cells
  have B0 := hid (bpush (bre w) (.cells #[.int .i64 3, .int .i64 bx, .int .i64 gd, .int .i64 fl, .string tx] 26))
  have CR : ∀ W, Hid (Below w.heap.size w W) → Calls Tryz.prog 30 #[.agg #[.int .i64 3, .int .i64 bx, .int .i64 gd, .int .i64 fl, .string tx]] W fun e w' => e = .returned (.bool (cok 3 bx gd fl tx)) ∧ Below W.heap.size W w' := fun W hb => by
    have hn := HN.out.on hb.out
    have ht := HS.out
    refine (rgtDrop_any 3 bx gd fl tx W).mono ?_
    rintro e w' ⟨rfl, h⟩
    exact ⟨ret_bool (by simp [cok, bxIn, gdIn, flIn, txOk]), h⟩
  obtain ⟨q, hq⟩ : ∃ q, cok 3 bx gd fl tx = q := ⟨_, rfl⟩
  rw [hq] at CR
  rw [hq]
  have HCR := hid CR
  clear CR ht hn hq
  go_enter Tryz.func9, Tryz.ntmps9
  go_wp2_with fail
  refine (wayOf_3 _).mono ?_; rintro e w1 ⟨rfl, hb1⟩
  have hb2 := bpush hb1 (.cells #[.func (.func 30) #[] #[], .func (.func 31) #[] #[]] 38)
  have B1 := hid (btr B0.out hb2)
  have X1 := hid (X0.out.later hb2)
  have c1 := X1.out.cells
  clear hb1 hb2 c0 X0
  go_wp2_with fail
  refine (HCR.out _ B1).mono ?_; rintro e w2 ⟨rfl, hb2⟩
  have B2 := hid (btr B1.out hb2)
  clear hb2 c1
  go_wp2
  go_ret
  exact ⟨rfl, B2.out⟩
set_option maxHeartbeats 1600000 in
set_option maxRecDepth 100000 in
theorem implCall4_any (bx gd fl : Int) (tx : ByteArray) (w : World) (ht : tx.size ≤ 1048576) (hn : Nib w) :
    Calls Tryz.prog 9 #[.agg #[.int .i64 4, .int .i64 bx, .int .i64 gd, .int .i64 fl, .string tx]] w fun e w' => e = .returned (.bool (cok 4 bx gd fl tx)) ∧ Below w.heap.size w w' := by
  have HS := hid ht
  have HN := hid hn
  have X0 := hid (Cx.new w 26 4 bx gd fl tx)
  have c0 := X0.out.cells
  have B0 := hid (bpush (bre w) (.cells #[.int .i64 4, .int .i64 bx, .int .i64 gd, .int .i64 fl, .string tx] 26))
  have CR : ∀ W, Hid (Below w.heap.size w W) → Calls Tryz.prog 32 #[.agg #[.int .i64 4, .int .i64 bx, .int .i64 gd, .int .i64 fl, .string tx]] W fun e w' => e = .returned (.bool (cok 4 bx gd fl tx)) ∧ Below W.heap.size W w' := fun W hb => by
    have hn := HN.out.on hb.out
    have ht := HS.out
    refine (rgtPut_any 4 bx gd fl tx W).mono ?_
    rintro e w' ⟨rfl, h⟩
    exact ⟨ret_bool (by simp [cok, bxIn, gdIn, flIn, txOk]), h⟩
  obtain ⟨q, hq⟩ : ∃ q, cok 4 bx gd fl tx = q := ⟨_, rfl⟩
  rw [hq] at CR
  rw [hq]
  have HCR := hid CR
  clear CR ht hn hq
  go_enter Tryz.func9, Tryz.ntmps9
  go_wp2_with fail
  refine (wayOf_4 _).mono ?_; rintro e w1 ⟨rfl, hb1⟩
  have hb2 := bpush hb1 (.cells #[.func (.func 32) #[] #[], .func (.func 33) #[] #[]] 38)
  have B1 := hid (btr B0.out hb2)
  have X1 := hid (X0.out.later hb2)
  have c1 := X1.out.cells
  clear hb1 hb2 c0 X0
  go_wp2_with fail
  refine (HCR.out _ B1).mono ?_; rintro e w2 ⟨rfl, hb2⟩
  have B2 := hid (btr B1.out hb2)
  clear hb2 c1
  go_wp2
  go_ret
  exact ⟨rfl, B2.out⟩
set_option maxHeartbeats 1600000 in
set_option maxRecDepth 100000 in
theorem implCall5_any (bx gd fl : Int) (tx : ByteArray) (w : World) (ht : tx.size ≤ 1048576) (hn : Nib w) :
    Calls Tryz.prog 9 #[.agg #[.int .i64 5, .int .i64 bx, .int .i64 gd, .int .i64 fl, .string tx]] w fun e w' => e = .returned (.bool (cok 5 bx gd fl tx)) ∧ Below w.heap.size w w' := by
  have HS := hid ht
  have HN := hid hn
  have X0 := hid (Cx.new w 26 5 bx gd fl tx)
  have c0 := X0.out.cells
  have B0 := hid (bpush (bre w) (.cells #[.int .i64 5, .int .i64 bx, .int .i64 gd, .int .i64 fl, .string tx] 26))
  have CR : ∀ W, Hid (Below w.heap.size w W) → Calls Tryz.prog 34 #[.agg #[.int .i64 5, .int .i64 bx, .int .i64 gd, .int .i64 fl, .string tx]] W fun e w' => e = .returned (.bool (cok 5 bx gd fl tx)) ∧ Below W.heap.size W w' := fun W hb => by
    have hn := HN.out.on hb.out
    have ht := HS.out
    refine (rgtMark_any 5 bx gd fl tx W).mono ?_
    rintro e w' ⟨rfl, h⟩
    exact ⟨ret_bool (by simp [cok, bxIn, gdIn, flIn, txOk]), h⟩
  obtain ⟨q, hq⟩ : ∃ q, cok 5 bx gd fl tx = q := ⟨_, rfl⟩
  rw [hq] at CR
  rw [hq]
  have HCR := hid CR
  clear CR ht hn hq
  go_enter Tryz.func9, Tryz.ntmps9
  go_wp2_with fail
  refine (wayOf_5 _).mono ?_; rintro e w1 ⟨rfl, hb1⟩
  have hb2 := bpush hb1 (.cells #[.func (.func 34) #[] #[], .func (.func 35) #[] #[]] 38)
  have B1 := hid (btr B0.out hb2)
  have X1 := hid (X0.out.later hb2)
  have c1 := X1.out.cells
  clear hb1 hb2 c0 X0
  go_wp2_with fail
  refine (HCR.out _ B1).mono ?_; rintro e w2 ⟨rfl, hb2⟩
  have B2 := hid (btr B1.out hb2)
  clear hb2 c1
  go_wp2
  go_ret
  exact ⟨rfl, B2.out⟩
set_option maxHeartbeats 1600000 in
set_option maxRecDepth 100000 in
theorem implCall6_any (bx gd fl : Int) (tx : ByteArray) (w : World) (ht : tx.size ≤ 1048576) (hn : Nib w) :
    Calls Tryz.prog 9 #[.agg #[.int .i64 6, .int .i64 bx, .int .i64 gd, .int .i64 fl, .string tx]] w fun e w' => e = .returned (.bool (cok 6 bx gd fl tx)) ∧ Below w.heap.size w w' := by
  have HS := hid ht
  have HN := hid hn
  have X0 := hid (Cx.new w 26 6 bx gd fl tx)
  have c0 := X0.out.cells
  have B0 := hid (bpush (bre w) (.cells #[.int .i64 6, .int .i64 bx, .int .i64 gd, .int .i64 fl, .string tx] 26))
  have CR : ∀ W, Hid (Below w.heap.size w W) → Calls Tryz.prog 36 #[.agg #[.int .i64 6, .int .i64 bx, .int .i64 gd, .int .i64 fl, .string tx]] W fun e w' => e = .returned (.bool (cok 6 bx gd fl tx)) ∧ Below W.heap.size W w' := fun W hb => by
    have hn := HN.out.on hb.out
    have ht := HS.out
    refine (rgtOut_any 6 bx gd fl tx W).mono ?_
    rintro e w' ⟨rfl, h⟩
    exact ⟨ret_bool (by simp [cok, bxIn, gdIn, flIn, txOk]), h⟩
  obtain ⟨q, hq⟩ : ∃ q, cok 6 bx gd fl tx = q := ⟨_, rfl⟩
  rw [hq] at CR
  rw [hq]
  have HCR := hid CR
  clear CR ht hn hq
  go_enter Tryz.func9, Tryz.ntmps9
  go_wp2_with fail
  refine (wayOf_6 _).mono ?_; rintro e w1 ⟨rfl, hb1⟩
  have hb2 := bpush hb1 (.cells #[.func (.func 36) #[] #[], .func (.func 37) #[] #[]] 38)
  have B1 := hid (btr B0.out hb2)
  have X1 := hid (X0.out.later hb2)
  have c1 := X1.out.cells
  clear hb1 hb2 c0 X0
  go_wp2_with fail
  refine (HCR.out _ B1).mono ?_; rintro e w2 ⟨rfl, hb2⟩
  have B2 := hid (btr B1.out hb2)
  clear hb2 c1
  go_wp2
  go_ret
  exact ⟨rfl, B2.out⟩
set_option maxHeartbeats 1600000 in
set_option maxRecDepth 100000 in
theorem implCall7_any (bx gd fl : Int) (tx : ByteArray) (w : World) (ht : tx.size ≤ 1048576) (hn : Nib w) :
    Calls Tryz.prog 9 #[.agg #[.int .i64 7, .int .i64 bx, .int .i64 gd, .int .i64 fl, .string tx]] w fun e w' => e = .returned (.bool (cok 7 bx gd fl tx)) ∧ Below w.heap.size w w' := by
  have HS := hid ht
  have HN := hid hn
  have X0 := hid (Cx.new w 26 7 bx gd fl tx)
  have c0 := X0.out.cells
  have B0 := hid (bpush (bre w) (.cells #[.int .i64 7, .int .i64 bx, .int .i64 gd, .int .i64 fl, .string tx] 26))
  have CR : ∀ W, Hid (Below w.heap.size w W) → Calls Tryz.prog 38 #[.agg #[.int .i64 7, .int .i64 bx, .int .i64 gd, .int .i64 fl, .string tx]] W fun e w' => e = .returned (.bool (cok 7 bx gd fl tx)) ∧ Below W.heap.size W w' := fun W hb => by
    have hn := HN.out.on hb.out
    have ht := HS.out
    refine (rgtJoin_any 7 bx gd fl tx W ht hn).mono ?_
    rintro e w' ⟨rfl, h⟩
    exact ⟨ret_bool (by simp [cok, bxIn, gdIn, flIn, txOk]; cases (rst tx).isSome <;> cases decide (bx = 0) <;> cases decide (gd = 0) <;> cases decide (fl = 0) <;> rfl), h⟩
  obtain ⟨q, hq⟩ : ∃ q, cok 7 bx gd fl tx = q := ⟨_, rfl⟩
  rw [hq] at CR
  rw [hq]
  have HCR := hid CR
  clear CR ht hn hq
  go_enter Tryz.func9, Tryz.ntmps9
  go_wp2_with fail
  refine (wayOf_7 _).mono ?_; rintro e w1 ⟨rfl, hb1⟩
  have hb2 := bpush hb1 (.cells #[.func (.func 38) #[] #[], .func (.func 39) #[] #[]] 38)
  have B1 := hid (btr B0.out hb2)
  have X1 := hid (X0.out.later hb2)
  have c1 := X1.out.cells
  clear hb1 hb2 c0 X0
  go_wp2_with fail
  refine (HCR.out _ B1).mono ?_; rintro e w2 ⟨rfl, hb2⟩
  have B2 := hid (btr B1.out hb2)
  clear hb2 c1
  go_wp2
  go_ret
  exact ⟨rfl, B2.out⟩
set_option maxHeartbeats 1600000 in
set_option maxRecDepth 100000 in
theorem implCallOk_any (kd bx gd fl : Int) (tx : ByteArray) (w : World) (ht : tx.size ≤ 1048576) (hn : Nib w) :
    Calls Tryz.prog 9 #[.agg #[.int .i64 kd, .int .i64 bx, .int .i64 gd, .int .i64 fl, .string tx]] w fun e w' => e = .returned (.bool (cok kd bx gd fl tx)) ∧ Below w.heap.size w w' := by
  by_cases hk : 1 ≤ kd ∧ kd ≤ 7
  · rcases (by omega : kd = 1 ∨ kd = 2 ∨ kd = 3 ∨ kd = 4 ∨ kd = 5 ∨ kd = 6 ∨ kd = 7) with rfl | rfl | rfl | rfl | rfl | rfl | rfl
    · exact implCall1_any bx gd fl tx w ht hn
    · exact implCall2_any bx gd fl tx w ht hn
    · exact implCall3_any bx gd fl tx w ht hn
    · exact implCall4_any bx gd fl tx w ht hn
    · exact implCall5_any bx gd fl tx w ht hn
    · exact implCall6_any bx gd fl tx w ht hn
    · exact implCall7_any bx gd fl tx w ht hn
  · have X0 := hid (Cx.new w 26 kd bx gd fl tx)
    have c0 := X0.out.cells
    have B0 := hid (bpush (bre w) (.cells #[.int .i64 kd, .int .i64 bx, .int .i64 gd, .int .i64 fl, .string tx] 26))
    have HE : cok kd bx gd fl tx = false := by unfold cok; rw [show decide (1 ≤ kd ∧ kd ≤ 7) = false by simpa using hk]; simp
    have CW := hid (fun (W : World) => wayOf_no kd W (by omega))
    rw [HE]
    clear hk HE ht hn
    go_enter Tryz.func9, Tryz.ntmps9
    go_wp2_with fail
    refine (CW.out _).mono ?_; rintro e w1 ⟨rfl, hb1⟩
    have B1 := hid (bpush (btr B0.out hb1) (.cells #[.nilFunc, .nilFunc] 38))
    clear hb1 c0
    go_wp2
    go_ret
    exact ⟨rfl, B1.out⟩
/-- A call's text. -/
def ctx (kd bx gd fl : Int) (tx : ByteArray) : ByteArray := vi kd ++ vi bx ++ vi gd ++ vi fl ++ vi tx.size ++ tx
theorem txOk_size {kd : Int} {tx : ByteArray} (h : txOk kd tx = true) : tx.size ≤ 20000 := by
  unfold txOk at h
  by_cases h1 : kd = 1 ∨ kd = 2
  · rw [if_pos h1] at h
    simp only [nmOk, Bool.and_eq_true, decide_eq_true_eq] at h
    omega
  · rw [if_neg h1] at h
    by_cases h4 : kd = 4
    · rw [if_pos h4] at h
      have := of_decide_eq_true h
      omega
    · rw [if_neg h4] at h
      by_cases h7 : kd = 7
      · rw [if_pos h7] at h
        obtain ⟨⟨y, tm, S, G⟩, hp⟩ := Option.isSome_iff_exists.1 h
        obtain ⟨h8, h9⟩ := rst_stood hp
        have h10 := stx_size h8
        have h11 := tail4_size (stx y tm S G)
        rw [← h9, ByteArray.size_append, h11]
        omega
      · rw [if_neg h7] at h
        have := of_decide_eq_true h
        rw [this]
        decide
theorem cok_in {kd bx gd fl : Int} {tx : ByteArray} (h : cok kd bx gd fl tx = true) : (1 ≤ kd ∧ kd ≤ 7) ∧ (0 ≤ bx ∧ bx ≤ 9999) ∧ (0 ≤ gd ∧ gd ≤ 9999) ∧ (0 ≤ fl ∧ fl ≤ 7) ∧ tx.size ≤ 20000 := by
  unfold cok at h
  simp only [Bool.and_eq_true, decide_eq_true_eq] at h
  obtain ⟨hk, hb, hg, hf, ht⟩ := h
  refine ⟨hk, ?_, ?_, ?_, txOk_size ht⟩
  · unfold bxIn at hb
    by_cases h7 : kd = 7
    · rw [if_pos h7] at hb; have := of_decide_eq_true hb; omega
    · rw [if_neg h7] at hb; simp only [gok, Bool.and_eq_true, decide_eq_true_eq] at hb; omega
  · unfold gdIn at hg
    by_cases h7 : kd = 4 ∨ kd = 5 ∨ kd = 6
    · rw [if_pos h7] at hg; simp only [gok, Bool.and_eq_true, decide_eq_true_eq] at hg; omega
    · rw [if_neg h7] at hg; have := of_decide_eq_true hg; omega
  · unfold flIn at hf
    by_cases h7 : kd = 4 ∨ kd = 5
    · rw [if_pos h7] at hf; have := of_decide_eq_true hf; omega
    · rw [if_neg h7] at hf; have := of_decide_eq_true hf; omega
/-- What CallText answers. -/
def ctR (kd bx gd fl : Int) (tx : ByteArray) : Value := if cok kd bx gd fl tx = true then .tuple #[.string (ctx kd bx gd fl tx), .bool true] else .tuple #[.string ⟨#[]⟩, .bool false]
theorem In4.cells {W : World} {k : Nat} {a b c d : Int} (h : W.heap[k]? = some (.cells #[.int .i64 a, .int .i64 b, .int .i64 c, .int .i64 d] 3 (0, 0))) : ∀ i (h : i < [a, b, c, d].length), W.cell? ⟨k, i, none⟩ = some (.int .i64 [a, b, c, d][i]) := by
  intro i hi
  have h2 : i = 0 ∨ i = 1 ∨ i = 2 ∨ i = 3 := by simp at hi; omega
  rcases h2 with rfl | rfl | rfl | rfl
  · exact cell_of_row _ _ 0 _ _ _ h
  · exact cell_of_row _ _ 1 _ _ _ h
  · exact cell_of_row _ _ 2 _ _ _ h
  · exact cell_of_row _ _ 3 _ _ _ h
theorem texts4 (a b c d : Int) (ha : 0 ≤ a ∧ a ≤ 1000000000) (hb : 0 ≤ b ∧ b ≤ 1000000000) (hc : 0 ≤ c ∧ c ≤ 1000000000) (hd : 0 ≤ d ∧ d ≤ 1000000000) : ∃ s : ByteArray, Hid (s = vi a ++ vi b ++ vi c ++ vi d) ∧ s.size ≤ 4000000004 ∧ Hid (∀ w k, k = w.heap.size → Calls Tryz.prog 20 #[.slice (some ⟨k, 0, none⟩) 4 4] (w.alloc (.cells #[.int .i64 a, .int .i64 b, .int .i64 c, .int .i64 d] 3)) fun e w' => e = .returned (.string s) ∧ Below w.heap.size w w') := by
  refine ⟨vis [a, b, c, d], ?_, ?_, ?_⟩
  · show _ = _
    simp only [vis, nil_ba, ByteArray.append_assoc]
  · have := vi_size a ha.2
    have := vi_size b hb.2
    have := vi_size c hc.2
    have := vi_size d hd.2
    simp only [vis, nil_ba, ByteArray.size_append]
    omega
  · rintro w k rfl
    refine (varTexts_any w.heap.size [a, b, c, d] 4 _ rfl (by omega) ?_ (by simp) (In4.cells (heap_alloc_new w _))).mono ?_
    · intro x hx
      simp only [List.mem_cons, List.not_mem_nil, or_false] at hx
      rcases hx with rfl | rfl | rfl | rfl <;> assumption
    · rintro e w' ⟨rfl, h⟩
      exact ⟨rfl, btr (bpush (bre w) _) h⟩
set_option maxHeartbeats 1600000 in
set_option maxRecDepth 100000 in
theorem implCallText_any (kd bx gd fl : Int) (tx : ByteArray) (w : World) (ht : tx.size ≤ 1048576) (hn : Nib w) :
    Calls Tryz.prog 11 #[.agg #[.int .i64 kd, .int .i64 bx, .int .i64 gd, .int .i64 fl, .string tx]] w fun e w' => e = .returned (ctR kd bx gd fl tx) ∧ Below w.heap.size w w' := by
  have X0 := hid (Cx.new w 26 kd bx gd fl tx)
  have c0 := X0.out.cells
  have B0 := hid (bpush (bre w) (.cells #[.int .i64 kd, .int .i64 bx, .int .i64 gd, .int .i64 fl, .string tx] 26))
  have CO := hid (implCallOk_any kd bx gd fl tx _ ht (hn.on B0.out))
  by_cases hc : cok kd bx gd fl tx = true
  · obtain ⟨h1, h2, h3, h4, h5⟩ := cok_in hc
    have HA : Hid (ctR kd bx gd fl tx = .tuple #[.string (ctx kd bx gd fl tx), .bool true]) := hid (if_pos hc)
    obtain ⟨s4, HS4, hz4, C4⟩ := texts4 kd bx gd fl (by omega) (by omega) (by omega) (by omega)
    obtain ⟨st, HST, CS⟩ : ∃ s : ByteArray, Hid (s = vi tx.size ++ tx) ∧ Hid (∀ w, Calls Tryz.prog 19 #[.string tx] w fun e w' => e = .returned (.tuple #[.string s, .bool true]) ∧ Below w.heap.size w w') := ⟨_, rfl, fun w => implShort_yes tx w h5⟩
    have hzt : st.size ≤ 1000100000 := by
      rw [HST.out, ByteArray.size_append]
      have := vi_size tx.size (by omega)
      omega
    rw [hc] at CO
    clear hc h1 h2 h3 h4 h5 ht hn
    rw [HA.out]
    go_enter Tryz.func11, Tryz.ntmps11
    go_wp2_with fail
    refine CO.out.mono ?_; rintro e w1 ⟨rfl, hb1⟩
    have B1 := hid (btr B0.out hb1)
    have X1 := hid (X0.out.later hb1)
    have c1 := X1.out.cells
    clear hb1 c0 X0 CO
    go_wp2_with fail
    refine (CS.out _).mono ?_; rintro e w2 ⟨rfl, hb2⟩
    have B2 := hid (btr B1.out hb2)
    have X2 := hid (X1.out.later hb2)
    have c2 := X2.out.cells
    clear hb2 c1 X1
    go_wp2_with fail
    refine (C4.out _ _ rfl).mono ?_; rintro e w3 ⟨rfl, hb3⟩
    have B3 := hid (btr B2.out hb3)
    clear hb3 c2
    go_wp2
    refine bodyPost_ret (v := .tuple #[.string (s4 ++ st), .bool true]) (by simp [results, Tryz.results11, go_sem]) rfl ⟨?_, B3.out⟩
    rw [HS4.out, HST.out]
    unfold ctx
    simp only [ByteArray.append_assoc]
  · have HA : Hid (ctR kd bx gd fl tx = .tuple #[.string ⟨#[]⟩, .bool false]) := hid (if_neg hc)
    rw [show cok kd bx gd fl tx = false by simpa using hc] at CO
    clear hc ht hn
    rw [HA.out]
    go_enter Tryz.func11, Tryz.ntmps11
    go_wp2_with fail
    refine CO.out.mono ?_; rintro e w1 ⟨rfl, hb1⟩
    have B1 := hid (btr B0.out hb1)
    clear hb1 c0 X0 CO
    go_wp2
    exact bodyPost_ret (v := .tuple #[.string ⟨#[]⟩, .bool false]) (by simp [results, Tryz.results11, go_sem]) rfl ⟨rfl, B1.out⟩
end Go.Proofs.YtlhofbnnonljaaaGreatDoor
