/- Servers: as the program's own; the copies; what is fed, and risen. -/
import Derived.Test.YtckenihadlmlaaaXva
namespace Go.Proofs.Ytckenihadlmlaaa
open Go.RowKit Go.ChangeMaps

set_option maxHeartbeats 3200000 in
set_option maxRecDepth 100000 in
theorem toSv_any (lo hh lo' hh' lv hv : Nat) (y tm : Int) (ba : Option Addr) (bn bc : Nat) (ga : Option Addr) (gn gc : Nat) (jr : ByteArray) (sv : Int) (i o : ByteArray) (n r : Bool) (b : Int) (va : Option Addr) (vn vc : Nat) (u : Bool) (S : List X7) (G V : List Int) (w : World) (H : Sm16 bn gn vn S G V) (hm : Bs lo hh w ba S) (hs : Is lo' hh' w ga G) (hx : Is lv hv w va V) (hhv : hv ≤ w.heap.size) :
    Calls Try.prog 13 #[svw y tm (.slice ba bn bc) (.slice ga gn gc) jr sv i o n r b (.slice va vn vc) u] w fun e w' => ∃ km kg kv, e = .returned (svw y tm (.slice (some ⟨km, 0, none⟩) bn bn) (.slice (some ⟨kg, 0, none⟩) gn gn) jr sv i o n r b (.slice (some ⟨kv, 0, none⟩) vn vn) u) ∧ OwR w' w.heap.size w'.heap.size (.slice (some ⟨km, 0, none⟩) bn bn) (.slice (some ⟨kg, 0, none⟩) gn gn) (.slice (some ⟨kv, 0, none⟩) vn vn) S G V ∧ Below w.heap.size w w' := by
  obtain ⟨W0, hW0⟩ : ∃ W0, ((w.alloc (.cells #[.int .i64 y, .int .i64 tm, .slice ba bn bc, .slice ga gn gc, .string jr, .int .i64 sv, .string i, .string o, .bool n, .bool r, .int .i64 b, .slice va vn vc, .bool u] 43)).alloc (.cells sv0 31)).alloc (.cells sv0 31) = W0 := ⟨_, rfl⟩
  have b0 : Below w.heap.size w W0 := by subst hW0; exact bpush (bpush (bpush (bre _) _) _) _
  have a0 : Vx W0 w.heap.size 43 y tm (.slice ba bn bc) (.slice ga gn gc) jr sv i o n r b (.slice va vn vc) u := by subst hW0; exact ((Vx.new w _ _ _ _ _ _ _ _ _ _ _ _ _ _ ).later (bpush (bre _) _)).later (bpush (bre _) _)
  have a1 : Vx W0 (w.heap.size + 1) 31 0 0 (.slice none 0 0) (.slice none 0 0) ⟨#[]⟩ 0 ⟨#[]⟩ ⟨#[]⟩ false false 0 (.slice none 0 0) false := by
    subst hW0
    have h := Vx.new (w.alloc (.cells #[.int .i64 y, .int .i64 tm, .slice ba bn bc, .slice ga gn gc, .string jr, .int .i64 sv, .string i, .string o, .bool n, .bool r, .int .i64 b, .slice va vn vc, .bool u] 43)) 31 0 0 (.slice none 0 0) (.slice none 0 0) ⟨#[]⟩ 0 ⟨#[]⟩ ⟨#[]⟩ false false 0 (.slice none 0 0) false
    simp at h
    exact h.later (bpush (bre _) _)
  have a2 : Vx W0 (w.heap.size + 1 + 1) 31 0 0 (.slice none 0 0) (.slice none 0 0) ⟨#[]⟩ 0 ⟨#[]⟩ ⟨#[]⟩ false false 0 (.slice none 0 0) false := by
    subst hW0
    have h := Vx.new ((w.alloc (.cells #[.int .i64 y, .int .i64 tm, .slice ba bn bc, .slice ga gn gc, .string jr, .int .i64 sv, .string i, .string o, .bool n, .bool r, .int .i64 b, .slice va vn vc, .bool u] 43)).alloc (.cells sv0 31)) 31 0 0 (.slice none 0 0) (.slice none 0 0) ⟨#[]⟩ 0 ⟨#[]⟩ ⟨#[]⟩ false false 0 (.slice none 0 0) false
    simpa using h
  have HK := hid (toKept_any lo hh lo' hh' y tm ba bn bc ga gn gc jr sv S G W0 H.bl H.bs H.sb (hm.later b0) H.gl H.gs (hs.later b0))
  have HV := hid (fun (W : World) (hq : Is lv hv W va V) (hl : hv ≤ W.heap.size) => toSn_any lv hv i o n r b va vn vc V W H.vl H.vs hq hl)
  have HX := hid (hx.later b0)
  have HHV := hid hhv
  have A0 := hid a0
  have A1 := hid a1
  have A2 := hid a2
  have B0 := hid b0
  have HW := hid hW0
  have c0 := a0.cells
  clear a0 a1 a2 b0 hW0 H hm hs hx hhv
  go_enter Try.func13, Try.ntmps13
  go_wp2_with fail
  rw [HW.out]
  clear HW
  have LW : Hid (w.heap.size + 1 + 1 < W0.heap.size) := hid A2.out.lt
  refine HK.out.mono ?_; rintro e w1 ⟨km, kg, rfl, ho, hb⟩
  have A0 := hid (A0.out.later hb)
  have A1 := hid (A1.out.later hb)
  have A2 := hid (A2.out.later hb)
  have HX := hid (HX.out.later hb)
  have L1 : Hid (W0.heap.size ≤ w1.heap.size) := hid hb.size
  have B0 := hid (btr B0.out hb)
  have HO := hid ho
  have c0 := A0.out.cells
  have c2 := A2.out.cells
  have f2 := A2.out.loose
  clear hb ho HK
  go_wp2_with fail
  obtain ⟨V1, hV1⟩ : ∃ W, putK w1 (w.heap.size + 1 + 1) y tm (.slice (some ⟨km, 0, none⟩) bn bn) (.slice (some ⟨kg, 0, none⟩) gn gn) jr sv = W := ⟨_, rfl⟩
  have g1 := putK_grown w1 (w.heap.size + 1 + 1) y tm (.slice (some ⟨km, 0, none⟩) bn bn) (.slice (some ⟨kg, 0, none⟩) gn gn) jr sv
  have x2 := A2.out.putK y tm (.slice (some ⟨km, 0, none⟩) bn bn) (.slice (some ⟨kg, 0, none⟩) gn gn) jr sv
  rw [hV1] at g1 x2
  unfold putK at hV1
  rw [hV1]
  clear hV1 c0 c2 f2
  have A0 := hid (A0.out.grown g1 (by simp; omega))
  have A1 := hid (A1.out.grown g1 (by simp))
  have A2 := hid x2
  have B0 := hid (B0.out.trans (below_of_grown g1 (by omega) B0.out.size))
  have HX := hid (is_off15 HX.out g1 (by have := HHV.out; omega))
  have HU := hid (HO.out.u.chg (P := fun j => j = w.heap.size + 1 + 1) (Chg.of_grown g1 (fun j e => by simpa using e.symm)) (fun j a c e => by have := LW.out; omega))
  have L2 : Hid (w1.heap.size ≤ V1.heap.size) := hid g1.size
  clear g1 x2 HO
  refine (HV.out _ HX.out (by have := HHV.out; have := L1.out; have := L2.out; have := LW.out; omega)).mono ?_; rintro e w2 ⟨kv, rfl, ho, hb⟩
  have A0 := hid (A0.out.later hb)
  have A1 := hid (A1.out.later hb)
  have A2 := hid (A2.out.later hb)
  have B0 := hid (btr B0.out hb)
  have OR : Hid (OwR w2 W0.heap.size w2.heap.size (.slice (some ⟨km, 0, none⟩) bn bn) (.slice (some ⟨kg, 0, none⟩) gn gn) (.slice (some ⟨kv, 0, none⟩) vn vn) S G V) := hid ⟨w1.heap.size, HU.out.later hb, own_base ho L2.out, L1.out, Nat.le_trans L2.out hb.size, fun j hj => (World.ownsRow.lt ho j hj).2⟩
  have c0 := A0.out.cells
  have c1 := A1.out.cells
  have f1 := A1.out.loose
  have c2 := A2.out.cells
  have f2 := A2.out.loose
  clear hb ho HX HU HV
  go_wp2
  have g2 := wst (putS_grown w2 (w.heap.size + 1 + 1) i o n r b (.slice (some ⟨kv, 0, none⟩) vn vn)) 12 (.bool u)
  have x2 := (A2.out.putS i o n r b (.slice (some ⟨kv, 0, none⟩) vn vn)).s12 u
  have g3 := putV_grown ((putS w2 (w.heap.size + 1 + 1) i o n r b (.slice (some ⟨kv, 0, none⟩) vn vn)).setCell ⟨w.heap.size + 1 + 1, 12, none⟩ (.bool u)) (w.heap.size + 1) y tm (.slice (some ⟨km, 0, none⟩) bn bn) (.slice (some ⟨kg, 0, none⟩) gn gn) jr sv i o n r b (.slice (some ⟨kv, 0, none⟩) vn vn) u
  have d := ((A1.out.grown g2 (by simp)).putV y tm (.slice (some ⟨km, 0, none⟩) bn bn) (.slice (some ⟨kg, 0, none⟩) gn gn) jr sv i o n r b (.slice (some ⟨kv, 0, none⟩) vn vn) u).cells
  have hl := LW.out
  unfold putS at g2 g3 d
  unfold putV at g3 d
  refine bodyPost_ret (v := svw y tm (.slice (some ⟨km, 0, none⟩) bn bn) (.slice (some ⟨kg, 0, none⟩) gn gn) jr sv i o n r b (.slice (some ⟨kv, 0, none⟩) vn vn) u) (by simp [results, Try.results13, go_sem, d]) rfl ⟨km, kg, kv, rfl, ?_, ?_⟩
  · exact (((OR.out.grown g2 (Or.inl (by omega))).grown g3 (Or.inl (by omega))).base (by omega)).top (Nat.le_trans g2.size g3.size)
  · exact B0.out.trans ((below_of_grown g2 (by omega) B0.out.size).trans (below_of_grown g3 (by omega) (Nat.le_trans B0.out.size g2.size)))

end Go.Proofs.Ytckenihadlmlaaa
