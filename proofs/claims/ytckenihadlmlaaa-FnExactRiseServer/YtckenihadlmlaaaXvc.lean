/- Servers: the copies. -/
import Derived.Test.YtckenihadlmlaaaXvb
namespace Go.Proofs.Ytckenihadlmlaaa
open Go.RowKit Go.ChangeMaps

set_option maxHeartbeats 3200000 in
set_option maxRecDepth 100000 in
theorem specCopy16_any (y tm : Int) (km bn kg gn : Nat) (jr : ByteArray) (sv : Int) (i o : ByteArray) (n r : Bool) (b : Int) (kv vn : Nat) (u : Bool) (S : List X7) (G V : List Int) (w : World) (H : Sm16 bn gn vn S G V) (R : Rv w (some ⟨km, 0, none⟩) (some ⟨kg, 0, none⟩) (some ⟨kv, 0, none⟩) S G V) :
    Calls Try.prog 29 #[svw y tm (.slice (some ⟨km, 0, none⟩) bn bn) (.slice (some ⟨kg, 0, none⟩) gn gn) jr sv i o n r b (.slice (some ⟨kv, 0, none⟩) vn vn) u] w fun e w' => ∃ a c a' c' x z, e = .returned (svw y tm (.slice a bn c) (.slice a' gn c') jr sv i o n r b (.slice x vn z) u) ∧ OwR w' w.heap.size w'.heap.size (.slice a bn c) (.slice a' gn c') (.slice x vn z) S G V ∧ Below w.heap.size w w' := by
  obtain ⟨W0, hW0⟩ : ∃ W0, (w.alloc (.cells #[.int .i64 y, .int .i64 tm, .slice (some ⟨km, 0, none⟩) bn bn, .slice (some ⟨kg, 0, none⟩) gn gn, .string jr, .int .i64 sv, .string i, .string o, .bool n, .bool r, .int .i64 b, .slice (some ⟨kv, 0, none⟩) vn vn, .bool u] 31)).alloc (.cells sv0 31) = W0 := ⟨_, rfl⟩
  have b0 : Below w.heap.size w W0 := by subst hW0; exact bpush (bpush (bre _) _) _
  have a0 : Vx W0 w.heap.size 31 y tm (.slice (some ⟨km, 0, none⟩) bn bn) (.slice (some ⟨kg, 0, none⟩) gn gn) jr sv i o n r b (.slice (some ⟨kv, 0, none⟩) vn vn) u := by subst hW0; exact (Vx.new w _ _ _ _ _ _ _ _ _ _ _ _ _ _ ).later (bpush (bre _) _)
  have a1 : Vx W0 (w.heap.size + 1) 31 0 0 (.slice none 0 0) (.slice none 0 0) ⟨#[]⟩ 0 ⟨#[]⟩ ⟨#[]⟩ false false 0 (.slice none 0 0) false := by
    have h := Vx.new (w.alloc (.cells #[.int .i64 y, .int .i64 tm, .slice (some ⟨km, 0, none⟩) bn bn, .slice (some ⟨kg, 0, none⟩) gn gn, .string jr, .int .i64 sv, .string i, .string o, .bool n, .bool r, .int .i64 b, .slice (some ⟨kv, 0, none⟩) vn vn, .bool u] 31)) 31 0 0 (.slice none 0 0) (.slice none 0 0) ⟨#[]⟩ 0 ⟨#[]⟩ ⟨#[]⟩ false false 0 (.slice none 0 0) false
    rw [hW0] at h
    simpa using h
  have HC := hid (fun (W : World) (hb : Below w.heap.size w W) => by
    obtain ⟨⟨_, _, x1⟩, ⟨_, _, x2⟩, _⟩ := R.later hb
    exact specCopy12_any _ _ _ _ y tm (some ⟨km, 0, none⟩) bn bn (some ⟨kg, 0, none⟩) gn gn jr sv S G W H.bl H.bs H.sb x1 H.gl H.gs x2 (by intro h; cases h))
  have HV := hid (fun (W : World) (hb : Below w.heap.size w W) => by
    obtain ⟨_, _, ⟨_, _, x3⟩⟩ := R.later hb
    exact copy15_any _ _ i o n r b (some ⟨kv, 0, none⟩) vn vn V W H.vl H.vs x3 (by intro h; cases h))
  have HL := hid (And.intro H.bl (And.intro H.gl H.vl))
  have A0 := hid a0
  have A1 := hid a1
  have B0 := hid b0
  have HW := hid hW0
  have HSS : Hid (∀ W, Vx W w.heap.size 31 y tm (.slice (some ⟨km, 0, none⟩) bn bn) (.slice (some ⟨kg, 0, none⟩) gn gn) jr sv i o n r b (.slice (some ⟨kv, 0, none⟩) vn vn) u → (W.cell? ⟨w.heap.size, 0, none⟩ = some (.int .i64 y) ∧ W.cell? ⟨w.heap.size, 1, none⟩ = some (.int .i64 tm) ∧ W.cell? ⟨w.heap.size, 2, none⟩ = some (.slice (some ⟨km, 0, none⟩) bn bn) ∧ W.cell? ⟨w.heap.size, 3, none⟩ = some (.slice (some ⟨kg, 0, none⟩) gn gn) ∧ W.cell? ⟨w.heap.size, 4, none⟩ = some (.string jr) ∧ W.cell? ⟨w.heap.size, 5, none⟩ = some (.int .i64 sv) ∧ W.cell? ⟨w.heap.size, 6, none⟩ = some (.string i) ∧ W.cell? ⟨w.heap.size, 7, none⟩ = some (.string o) ∧ W.cell? ⟨w.heap.size, 8, none⟩ = some (.bool n) ∧ W.cell? ⟨w.heap.size, 9, none⟩ = some (.bool r) ∧ W.cell? ⟨w.heap.size, 10, none⟩ = some (.int .i64 b) ∧ W.cell? ⟨w.heap.size, 11, none⟩ = some (.slice (some ⟨kv, 0, none⟩) vn vn) ∧ W.cell? ⟨w.heap.size, 12, none⟩ = some (.bool u))) := hid (fun W h => h.cells)
  clear a0 a1 b0 H R hW0
  go_enter Try.func29, Try.ntmps29
  go_upto_region 1 with fail
  rw [HW.out]
  clear HW
  refine wp_region_noPanic ?_
  refine wp_region_held_drew (S := (fun W => (W.cell? ⟨w.heap.size, 0, none⟩ = some (.int .i64 y) ∧ W.cell? ⟨w.heap.size, 1, none⟩ = some (.int .i64 tm) ∧ W.cell? ⟨w.heap.size, 2, none⟩ = some (.slice (some ⟨km, 0, none⟩) bn bn) ∧ W.cell? ⟨w.heap.size, 3, none⟩ = some (.slice (some ⟨kg, 0, none⟩) gn gn) ∧ W.cell? ⟨w.heap.size, 4, none⟩ = some (.string jr) ∧ W.cell? ⟨w.heap.size, 5, none⟩ = some (.int .i64 sv) ∧ W.cell? ⟨w.heap.size, 6, none⟩ = some (.string i) ∧ W.cell? ⟨w.heap.size, 7, none⟩ = some (.string o) ∧ W.cell? ⟨w.heap.size, 8, none⟩ = some (.bool n) ∧ W.cell? ⟨w.heap.size, 9, none⟩ = some (.bool r) ∧ W.cell? ⟨w.heap.size, 10, none⟩ = some (.int .i64 b) ∧ W.cell? ⟨w.heap.size, 11, none⟩ = some (.slice (some ⟨kv, 0, none⟩) vn vn) ∧ W.cell? ⟨w.heap.size, 12, none⟩ = some (.bool u)))) (by kernel_rfl) (HSS.out _ A0.out) (fun hHeld => ?_)
  obtain ⟨v0, hv0⟩ : ∃ x, W0.drew = x := ⟨_, rfl⟩
  replace A0 := hid (A0.out.later (bdr (bre _)))
  replace A1 := hid (A1.out.later (bdr (bre _)))
  replace B0 := hid (btr B0.out (bdr (bre _)))
  rw [hv0] at A0 A1 B0 hHeld
  rw [hv0]
  clear hv0
  refine tk 0 ?_
  refine tk 1 ?_
  refine tk 3 ?_
  refine tk 4 ?_
  refine tk 6 ?_
  refine tk 7 ?_
  clear hHeld
  refine ry 2 (fun K hK => ?_)
  go_simp
  have LW : Hid (w.heap.size + 1 < v0.heap.size) := hid A1.out.lt
  refine (HC.out _ B0.out).mono ?_; rintro e w1 ⟨bv, gv, rfl, ho, hb⟩
  obtain ⟨a, c, a', c', rfl, rfl⟩ := ho.shape
  rw [HL.out.1, HL.out.2.1] at ho
  rw [HL.out.1, HL.out.2.1]
  have A0 := hid (A0.out.later hb)
  have A1 := hid (A1.out.later hb)
  have B0 := hid (btr B0.out hb)
  have HO := hid ho
  have L1 : Hid (v0.heap.size ≤ w1.heap.size) := hid hb.size
  clear ho hb HC
  go_wp2_with fail
  refine hK.out _ _ (HSS.out _ A0.out) (fun hHeld => ?_)
  clear hK K
  try simp only [Act.put, List.setIfInBounds_toArray, List.set_cons_zero, List.set_cons_succ]
  clear hHeld
  refine ry 5 (fun K hK => ?_)
  go_simp
  refine (HV.out _ B0.out).mono ?_; rintro e w2 ⟨x, z, rfl, ho, hb⟩
  have A0 := hid (A0.out.later hb)
  have A1 := hid (A1.out.later hb)
  have B0 := hid (btr B0.out hb)
  have OR : Hid (OwR w2 v0.heap.size w2.heap.size (.slice a bn c) (.slice a' gn c') (.slice x vn z) S G V) := hid (owr_two HO.out L1.out hb (Nat.le_refl _) ho)
  clear ho hb HO HV
  go_wp2_with fail
  refine hK.out _ _ (HSS.out _ A0.out) (fun hHeld => ?_)
  clear hK K
  try simp only [Act.put, List.setIfInBounds_toArray, List.set_cons_zero, List.set_cons_succ]
  refine tk 8 ?_
  clear hHeld
  have c1 := A1.out.cells
  have f1 := A1.out.loose
  refine ry 9 (fun K hK => ?_)
  go_simp
  obtain ⟨V1, hV1⟩ : ∃ W, putV w2 (w.heap.size + 1) y tm (.slice a bn c) (.slice a' gn c') jr sv i o n r b (.slice x vn z) u = W := ⟨_, rfl⟩
  have g1 := putV_grown w2 (w.heap.size + 1) y tm (.slice a bn c) (.slice a' gn c') jr sv i o n r b (.slice x vn z) u
  have x1 := A1.out.putV y tm (.slice a bn c) (.slice a' gn c') jr sv i o n r b (.slice x vn z) u
  rw [hV1] at g1 x1
  unfold putV at hV1
  rw [hV1]
  clear hV1 c1 f1
  have x0 := A0.out.grown g1 (by simp)
  have O1 := hid (OR.out.grown g1 (Or.inl LW.out))
  have B1 := hid (B0.out.trans (below_of_grown g1 (by omega) B0.out.size))
  have S1 : Hid (w2.heap.size ≤ V1.heap.size) := hid g1.size
  refine hK.out _ _ (HSS.out _ x0) (fun hHeld => ?_)
  clear hK K hHeld
  refine wpAnyH_done (by kernel_rfl) ?_ _
  refine NoPanic.normal ?_
  go_wp2
  have d := x1.cells
  refine bodyPost_ret (v := svw y tm (.slice a bn c) (.slice a' gn c') jr sv i o n r b (.slice x vn z) u) (by simp [results, Try.results29, go_sem, d]) rfl ⟨_, _, _, _, _, _, rfl, (O1.out.base (by have := LW.out; omega)).top S1.out, B1.out⟩

set_option maxHeartbeats 3200000 in
set_option maxRecDepth 100000 in
theorem implCopy16_any (y tm : Int) (km bn kg gn : Nat) (jr : ByteArray) (sv : Int) (i o : ByteArray) (n r : Bool) (b : Int) (kv vn : Nat) (u : Bool) (S : List X7) (G V : List Int) (w : World) (H : Sm16 bn gn vn S G V) (R : Rv w (some ⟨km, 0, none⟩) (some ⟨kg, 0, none⟩) (some ⟨kv, 0, none⟩) S G V) (hjr : jr.size ≤ 1048576) (hi1 : i.size ≤ 1048576) (ho1 : o.size ≤ 1048576) :
    Calls Try.prog 33 #[svw y tm (.slice (some ⟨km, 0, none⟩) bn bn) (.slice (some ⟨kg, 0, none⟩) gn gn) jr sv i o n r b (.slice (some ⟨kv, 0, none⟩) vn vn) u] w fun e w' => ∃ a c a' c' x z, e = .returned (svw y tm (.slice a bn c) (.slice a' gn c') jr sv i o n r b (.slice x vn z) u) ∧ OwR w' w.heap.size w'.heap.size (.slice a bn c) (.slice a' gn c') (.slice x vn z) S G V ∧ Below w.heap.size w w' := by
  obtain ⟨W0, hW0⟩ : ∃ W0, (w.alloc (.cells #[.int .i64 y, .int .i64 tm, .slice (some ⟨km, 0, none⟩) bn bn, .slice (some ⟨kg, 0, none⟩) gn gn, .string jr, .int .i64 sv, .string i, .string o, .bool n, .bool r, .int .i64 b, .slice (some ⟨kv, 0, none⟩) vn vn, .bool u] 31)).alloc (.cells sv0 31) = W0 := ⟨_, rfl⟩
  have b0 : Below w.heap.size w W0 := by subst hW0; exact bpush (bpush (bre _) _) _
  have a0 : Vx W0 w.heap.size 31 y tm (.slice (some ⟨km, 0, none⟩) bn bn) (.slice (some ⟨kg, 0, none⟩) gn gn) jr sv i o n r b (.slice (some ⟨kv, 0, none⟩) vn vn) u := by subst hW0; exact (Vx.new w _ _ _ _ _ _ _ _ _ _ _ _ _ _ ).later (bpush (bre _) _)
  have a1 : Vx W0 (w.heap.size + 1) 31 0 0 (.slice none 0 0) (.slice none 0 0) ⟨#[]⟩ 0 ⟨#[]⟩ ⟨#[]⟩ false false 0 (.slice none 0 0) false := by
    have h := Vx.new (w.alloc (.cells #[.int .i64 y, .int .i64 tm, .slice (some ⟨km, 0, none⟩) bn bn, .slice (some ⟨kg, 0, none⟩) gn gn, .string jr, .int .i64 sv, .string i, .string o, .bool n, .bool r, .int .i64 b, .slice (some ⟨kv, 0, none⟩) vn vn, .bool u] 31)) 31 0 0 (.slice none 0 0) (.slice none 0 0) ⟨#[]⟩ 0 ⟨#[]⟩ ⟨#[]⟩ false false 0 (.slice none 0 0) false
    rw [hW0] at h
    simpa using h
  have HC := hid (fun (W : World) (hb : Below w.heap.size w W) => by
    obtain ⟨⟨_, _, x1⟩, ⟨_, _, x2⟩, _⟩ := R.later hb
    exact copyKept_any _ _ _ _ y tm (some ⟨km, 0, none⟩) bn bn (some ⟨kg, 0, none⟩) gn gn jr sv S G W H.bl H.bs H.sb x1 (by intro h; cases h) H.gl H.gs x2 (by intro h; cases h) hjr)
  have HV := hid (fun (W : World) (hb : Below w.heap.size w W) => by
    obtain ⟨_, _, ⟨_, _, x3⟩⟩ := R.later hb
    exact copyOfSession_any _ _ i o n r b (some ⟨kv, 0, none⟩) vn vn V W hi1 ho1 H.vl H.vs x3 (by intro h; cases h))
  have HL := hid (And.intro H.bl (And.intro H.gl H.vl))
  have A0 := hid a0
  have A1 := hid a1
  have B0 := hid b0
  have HW := hid hW0
  have c0 := a0.cells
  clear a0 a1 b0 H R hW0 hjr hi1 ho1
  go_enter Try.func33, Try.ntmps33
  go_wp2_with fail
  rw [HW.out]
  clear HW
  have LW : Hid (w.heap.size + 1 < W0.heap.size) := hid A1.out.lt
  refine (HC.out _ B0.out).mono ?_; rintro e w1 ⟨bv, gv, rfl, ho, hb⟩
  obtain ⟨a, c, a', c', rfl, rfl⟩ := ho.shape
  rw [HL.out.1, HL.out.2.1] at ho
  rw [HL.out.1, HL.out.2.1]
  have A0 := hid (A0.out.later hb)
  have A1 := hid (A1.out.later hb)
  have B0 := hid (btr B0.out hb)
  have HO := hid ho
  have L1 : Hid (W0.heap.size ≤ w1.heap.size) := hid hb.size
  have c0 := A0.out.cells
  have f0 := A0.out.loose
  clear ho hb HC
  go_wp2_with fail
  obtain ⟨V1, hV1⟩ : ∃ W, putK w1 w.heap.size y tm (.slice a bn c) (.slice a' gn c') jr sv = W := ⟨_, rfl⟩
  have g1 := putK_grown w1 w.heap.size y tm (.slice a bn c) (.slice a' gn c') jr sv
  have x0 := A0.out.putK y tm (.slice a bn c) (.slice a' gn c') jr sv
  rw [hV1] at g1 x0
  unfold putK at hV1
  rw [hV1]
  clear hV1 c0 f0
  have A0 := hid x0
  have A1 := hid (A1.out.grown g1 (by simp))
  have B0 := hid (B0.out.trans (below_of_grown g1 (by omega) B0.out.size))
  have HU := hid (HO.out.u.chg (P := fun j => j = w.heap.size) (Chg.of_grown g1 (fun j e => by simpa using e.symm)) (fun j a c e => by have := LW.out; omega))
  have L2 : Hid (w1.heap.size ≤ V1.heap.size) := hid g1.size
  clear g1 x0 HO
  refine (HV.out _ B0.out).mono ?_; rintro e w2 ⟨x, z, rfl, ho, hb⟩
  have A0 := hid (A0.out.later hb)
  have A1 := hid (A1.out.later hb)
  have B0 := hid (btr B0.out hb)
  have OR : Hid (OwR w2 W0.heap.size w2.heap.size (.slice a bn c) (.slice a' gn c') (.slice x vn z) S G V) := hid ⟨w1.heap.size, HU.out.later hb, own_base ho L2.out, L1.out, Nat.le_trans L2.out hb.size, fun j hj => (World.ownsRow.lt ho j hj).2⟩
  have c0 := A0.out.cells
  have f0 := A0.out.loose
  have c1 := A1.out.cells
  have f1 := A1.out.loose
  clear hb ho HU HV
  go_wp2
  have g2 := putS_grown w2 w.heap.size i o n r b (.slice x vn z)
  have g3 := putV_grown (putS w2 w.heap.size i o n r b (.slice x vn z)) (w.heap.size + 1) y tm (.slice a bn c) (.slice a' gn c') jr sv i o n r b (.slice x vn z) u
  have d := ((A1.out.grown g2 (by simp)).putV y tm (.slice a bn c) (.slice a' gn c') jr sv i o n r b (.slice x vn z) u).cells
  have hl := LW.out
  unfold putS at g2 g3 d
  unfold putV at g3 d
  refine bodyPost_ret (v := svw y tm (.slice a bn c) (.slice a' gn c') jr sv i o n r b (.slice x vn z) u) (by simp [results, Try.results33, go_sem, d]) rfl ⟨_, _, _, _, _, _, rfl, ?_, ?_⟩
  · exact (((OR.out.grown g2 (Or.inl (by omega))).grown g3 (Or.inl (by omega))).base (by omega)).top (Nat.le_trans g2.size g3.size)
  · exact B0.out.trans ((below_of_grown g2 (by omega) B0.out.size).trans (below_of_grown g3 (by omega) (Nat.le_trans B0.out.size g2.size)))

end Go.Proofs.Ytckenihadlmlaaa
