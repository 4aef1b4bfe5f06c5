/- Servers: the law of FeedServer. -/
import Derived.Test.YtckenihadlmlaaaXve
namespace Go.Proofs.Ytckenihadlmlaaa
open Go.RowKit Go.ChangeMaps

set_option maxHeartbeats 16000000 in
set_option maxRecDepth 100000 in
theorem lawFeedServer_any (y tm : Int) (ba : Option Addr) (bn bc : Nat) (ga : Option Addr) (gn gc : Nat) (jr : ByteArray) (sv : Int) (i o : ByteArray) (n r : Bool) (b : Int) (va : Option Addr) (vn vc : Nat) (u : Bool) (S : List X7) (G V : List Int) (t : ByteArray) (w : World) (J : In16 w ba ga va bn gn vn S G V jr i o) (ht1 : (t.size : Int) ≤ 9223372036854775807) :
    Calls Try.prog 4 #[svw y tm (.slice ba bn bc) (.slice ga gn gc) jr sv i o n r b (.slice va vn vc) u, .string t] w fun e w' => e = .returned (.bool true) ∧ Below w.heap.size w w' := by
  obtain ⟨W0, hW0⟩ : ∃ W0, w.alloc (.cells #[.int .i64 y, .int .i64 tm, .slice ba bn bc, .slice ga gn gc, .string jr, .int .i64 sv, .string i, .string o, .bool n, .bool r, .int .i64 b, .slice va vn vc, .bool u] 43) = W0 := ⟨_, rfl⟩
  have a0 : Vx W0 w.heap.size 43 y tm (.slice ba bn bc) (.slice ga gn gc) jr sv i o n r b (.slice va vn vc) u := by subst hW0; exact Vx.new w _ _ _ _ _ _ _ _ _ _ _ _ _ _ 
  have b0 : Below w.heap.size w W0 := by subst hW0; exact bpush (bre _) _
  have c0 := a0.cells
  have A0 := hid a0
  have B0 := hid b0
  have HJ := hid J
  clear a0 b0 J
  by_cases ht : t.size ≤ 1048576
  rotate_left
  · have h2 : (1048576 : Int) < (t.size : Int) := by omega
    go_enter Try.func4, Try.ntmps4
    go_wp2
    clear hW0
    go_ret
    exact ⟨rfl, B0.out⟩
  have h2 : ¬ (1048576 : Int) < (t.size : Int) := by omega
  have HT := hid ht
  clear ht ht1
  go_enter Try.func4, Try.ntmps4
  go_wp2_with fail
  clear hW0 h2
  refine (szSv_any 0 w.heap.size y tm ba bn bc ga gn gc jr sv i o n r b va vn vc u S _ HJ.out.bl HJ.out.bs HJ.out.ft (HJ.out.bm.later B0.out) HJ.out.gs HJ.out.js HJ.out.is HJ.out.os HJ.out.vs).mono ?_; rintro e w1 ⟨q, rfl, hz, hb1⟩
  have A0 := hid (A0.out.later hb1)
  have B1 := hid (btr B0.out hb1)
  clear hb1 B0 c0
  by_cases h0 : q < 0
  · go_wp2
    go_ret
    exact ⟨rfl, B1.out⟩
  obtain ⟨z1, z2, z3, z4, z5⟩ := hz h0
  obtain ⟨s2, s3, s4⟩ := small16 z1
  have H : Sm16 bn gn vn S G V := ⟨HJ.out.bl, by rw [← HJ.out.bl]; exact s2, s4, HJ.out.gl, s3, HJ.out.vl, z5, by have := kx_sz16 1 S; omega⟩
  have HH := hid H
  obtain ⟨I, hI⟩ : ∃ I, vfi i t r u = I := ⟨_, rfl⟩
  obtain ⟨k, hk⟩ : ∃ k, vfo i t r u = k := ⟨_, rfl⟩
  have CSP : Hid (∀ (km kg kv : Nat) (W : World), Rv W (some ⟨km, 0, none⟩) (some ⟨kg, 0, none⟩) (some ⟨kv, 0, none⟩) S G V → Calls Try.prog 12 #[svw y tm (.slice (some ⟨km, 0, none⟩) bn bn) (.slice (some ⟨kg, 0, none⟩) gn gn) jr sv i o n r b (.slice (some ⟨kv, 0, none⟩) vn vn) u, .string t] W fun e w' => ∃ a c a' c' x z, e = .returned (.tuple #[svw y tm (.slice a bn c) (.slice a' gn c') jr sv I o n r b (.slice x vn z) u, .bool k]) ∧ OwR w' W.heap.size w'.heap.size (.slice a bn c) (.slice a' gn c') (.slice x vn z) S G V ∧ Below W.heap.size W w') := by
    intro km kg kv W R
    rw [← hI, ← hk]
    exact specFeedV y tm km bn kg gn jr sv i o n r b kv vn u t S G V W H R z3 HT.out
  have CIM : Hid (∀ (km kg kv : Nat) (W : World), Rv W (some ⟨km, 0, none⟩) (some ⟨kg, 0, none⟩) (some ⟨kv, 0, none⟩) S G V → Calls Try.prog 14 #[svw y tm (.slice (some ⟨km, 0, none⟩) bn bn) (.slice (some ⟨kg, 0, none⟩) gn gn) jr sv i o n r b (.slice (some ⟨kv, 0, none⟩) vn vn) u, .string t] W fun e w' => ∃ a c a' c' x z, e = .returned (.tuple #[svw y tm (.slice a bn c) (.slice a' gn c') jr sv I o n r b (.slice x vn z) u, .bool k]) ∧ OwR w' W.heap.size w'.heap.size (.slice a bn c) (.slice a' gn c') (.slice x vn z) S G V ∧ Below W.heap.size W w') := by
    intro km kg kv W R
    rw [← hI, ← hk]
    exact implFeedV y tm km bn kg gn jr sv i o n r b kv vn u t S G V W H R z2 z3 z4 HT.out
  clear hI hk
  clear H z1 z2 z3 z4 z5 s2 s3 s4 hz
  have e9 := A0.out.cells
  go_wp2_with fail
  refine (toSv_in HH.out HJ.out _ B1.out).mono ?_; rintro e v1 ⟨km, kg, kv, rfl, how, hb1⟩
  have P1 := hid how.reads
  clear how e9
  go_wp2_with fail
  refine (CSP.out _ _ _ _ P1.out).mono ?_; rintro e v3 ⟨av, cv, av', cv', xv, zv, rfl, ho3, hb3⟩
  have hb4 := btr hb1 hb3
  have hle : w1.heap.size ≤ v1.heap.size := hb1.size
  clear P1 hb1 hb3
  obtain ⟨kv, hkv⟩ : ∃ kv, v3.heap.size = kv := ⟨_, rfl⟩
  obtain ⟨w2, hw2⟩ : ∃ w2, v3.alloc (.cells #[.int .i64 y, .int .i64 tm, .slice av bn cv, .slice av' gn cv', .string jr, .int .i64 sv, .string I, .string o, .bool n, .bool r, .int .i64 b, .slice xv vn zv, .bool u] 31) = w2 := ⟨_, rfl⟩
  have hv : AnsV w1 w2 kv y tm (.slice av bn cv) (.slice av' gn cv') jr sv I o n r b (.slice xv vn zv) u S G V := by rw [← hw2, ← hkv]; exact ansv_last ho3 hle hb4
  clear ho3 hb4 hle
  obtain ⟨BV, HV, ov, bv, tv, dv⟩ := hv.own
  have Q1 := hid tv
  have Q2 : Hid (kv < w2.heap.size) := hv.box.lt
  have Q6 : Hid (w.heap.size < w1.heap.size) := A0.out.lt
  have Q7 : Hid (w1.heap.size ≤ w2.heap.size) := hv.bel.size
  have V2 := hid hv.box
  have OV2 := hid ov
  have hb := hv.bel
  have A2 := hid (A0.out.later hb)
  have B2 := hid (btr B1.out hb)
  have e0 := A2.out.cells
  clear hb hv ov bv tv dv A0 B1
  go_wp2_with fail
  clear hw2 hkv
  refine (toSv_in HH.out HJ.out _ B2.out).mono ?_; rintro e w4 ⟨km4, kg4, kv4, rfl, how, hb4⟩
  obtain ⟨W5, hW5⟩ : ∃ W5, w4.alloc (.cells #[.int .i64 y, .int .i64 tm, .slice (some ⟨km4, 0, none⟩) bn bn, .slice (some ⟨kg4, 0, none⟩) gn gn, .string jr, .int .i64 sv, .string i, .string o, .bool n, .bool r, .int .i64 b, .slice (some ⟨kv4, 0, none⟩) vn vn, .bool u] 31) = W5 := ⟨_, rfl⟩
  have n5 : Below w4.heap.size w4 W5 := by rw [← hW5]; exact bpush (bre _) _
  have x5 : Vx W5 w4.heap.size 31 y tm (.slice (some ⟨km4, 0, none⟩) bn bn) (.slice (some ⟨kg4, 0, none⟩) gn gn) jr sv i o n r b (.slice (some ⟨kv4, 0, none⟩) vn vn) u := by rw [← hW5]; exact Vx.new _ _ _ _ _ _ _ _ _ _ _ _ _ _ _ 
  have hb5 := btr hb4 n5
  have X5 := hid x5
  have OX5 := hid (how.later n5)
  have Q3 : Hid (w2.heap.size ≤ w4.heap.size) := hb4.size
  have Q4 : Hid (w4.heap.size < W5.heap.size) := x5.lt
  have A5 := hid (A2.out.later hb5)
  have B5 := hid (btr B2.out hb5)
  have V5 := hid (V2.out.later hb5)
  have OV5 := hid (OV2.out.later hb5)
  have PM := hid OX5.out.reads
  clear e0 hb4 n5 x5 hb5 how A2 B2 V2 OV2
  have e9 := X5.out.cells
  go_wp2_with fail
  clear hW5
  refine (CIM.out _ _ _ _ PM.out).mono ?_; rintro e v3 ⟨ag, cg, ag', cg', xg, zg, rfl, ho3, hb4⟩
  have hle : W5.heap.size ≤ W5.heap.size := Nat.le_refl _
  clear e9
  obtain ⟨kg, hkg⟩ : ∃ kg, v3.heap.size = kg := ⟨_, rfl⟩
  obtain ⟨w6, hw6⟩ : ∃ w6, v3.alloc (.cells #[.int .i64 y, .int .i64 tm, .slice ag bn cg, .slice ag' gn cg', .string jr, .int .i64 sv, .string I, .string o, .bool n, .bool r, .int .i64 b, .slice xg vn zg, .bool u] 31) = w6 := ⟨_, rfl⟩
  have hv : AnsV W5 w6 kg y tm (.slice ag bn cg) (.slice ag' gn cg') jr sv I o n r b (.slice xg vn zg) u S G V := by rw [← hw6, ← hkg]; exact ansv_last ho3 hle hb4
  clear ho3 hb4 hle
  obtain ⟨BG, HG, ov, bv, tv, dv⟩ := hv.own
  have Q5 := hid bv
  have Q8 := hid dv
  have Q10 := hid tv
  have Q9 : Hid (W5.heap.size ≤ kg) := hv.le
  have Gb6 := hid hv.box
  have OG6 := hid ov
  have hb := hv.bel
  have A6 := hid (A5.out.later hb)
  have B6 := hid (btr B5.out hb)
  have V6 := hid (V5.out.later hb)
  have OV6 := hid (OV5.out.later hb)
  have X6 := hid (X5.out.later hb)
  have OX6 := hid (OX5.out.later hb)
  have R6 : Hid (w6.heap.size ≤ w6.heap.size) := Nat.le_refl _
  clear hb hv ov bv tv dv A5 B5 V5 OV5 X5 OX5 PM
  have hkk : (k != k) = false := by simp
  have e0 := Gb6.out.cells
  have e2 := V6.out.cells
  go_wp2_with fail
  clear hw6 hkg
  refine (eqSv_any y tm _ bn _ _ gn _ _ _ _ _ jr sv I o n r b _ vn _ _ _ u S G V _ HH.out OG6.out.reads OV6.out.reads).mono ?_; rintro e w7 ⟨rfl, hb⟩
  clear e0 e2
  have A7 := hid (A6.out.later hb)
  have B7 := hid (btr B6.out hb)
  have V7 := hid (V6.out.later hb)
  have OV7 := hid (OV6.out.later hb)
  have X7 := hid (X6.out.later hb)
  have OX7 := hid (OX6.out.later hb)
  have Gb7 := hid (Gb6.out.later hb)
  have OG7 := hid (OG6.out.later hb)
  have R7 : Hid (w6.heap.size ≤ w7.heap.size) := hb.size
  clear A6 B6 V6 OV6 X6 OX6 Gb6 OG6 hb
  have HSX : Hid (∀ W, Below w7.heap.size w7 W → (W.cell? ⟨w4.heap.size, 0, none⟩ = some (.int .i64 y) ∧ W.cell? ⟨w4.heap.size, 1, none⟩ = some (.int .i64 tm) ∧ W.cell? ⟨w4.heap.size, 2, none⟩ = some (.slice (some ⟨km4, 0, none⟩) bn bn) ∧ W.cell? ⟨w4.heap.size, 3, none⟩ = some (.slice (some ⟨kg4, 0, none⟩) gn gn) ∧ W.cell? ⟨w4.heap.size, 4, none⟩ = some (.string jr) ∧ W.cell? ⟨w4.heap.size, 5, none⟩ = some (.int .i64 sv) ∧ W.cell? ⟨w4.heap.size, 6, none⟩ = some (.string i) ∧ W.cell? ⟨w4.heap.size, 7, none⟩ = some (.string o) ∧ W.cell? ⟨w4.heap.size, 8, none⟩ = some (.bool n) ∧ W.cell? ⟨w4.heap.size, 9, none⟩ = some (.bool r) ∧ W.cell? ⟨w4.heap.size, 10, none⟩ = some (.int .i64 b) ∧ W.cell? ⟨w4.heap.size, 11, none⟩ = some (.slice (some ⟨kv4, 0, none⟩) vn vn) ∧ W.cell? ⟨w4.heap.size, 12, none⟩ = some (.bool u)) ∧ (W.cell? ⟨w.heap.size, 0, none⟩ = some (.int .i64 y) ∧ W.cell? ⟨w.heap.size, 1, none⟩ = some (.int .i64 tm) ∧ W.cell? ⟨w.heap.size, 2, none⟩ = some (.slice ba bn bc) ∧ W.cell? ⟨w.heap.size, 3, none⟩ = some (.slice ga gn gc) ∧ W.cell? ⟨w.heap.size, 4, none⟩ = some (.string jr) ∧ W.cell? ⟨w.heap.size, 5, none⟩ = some (.int .i64 sv) ∧ W.cell? ⟨w.heap.size, 6, none⟩ = some (.string i) ∧ W.cell? ⟨w.heap.size, 7, none⟩ = some (.string o) ∧ W.cell? ⟨w.heap.size, 8, none⟩ = some (.bool n) ∧ W.cell? ⟨w.heap.size, 9, none⟩ = some (.bool r) ∧ W.cell? ⟨w.heap.size, 10, none⟩ = some (.int .i64 b) ∧ W.cell? ⟨w.heap.size, 11, none⟩ = some (.slice va vn vc) ∧ W.cell? ⟨w.heap.size, 12, none⟩ = some (.bool u))) :=
    fun W h => ⟨(X7.out.later h).cells, (A7.out.later h).cells⟩
  have PM := hid OX7.out.reads
  go_wp2_with fail
  go_region_held3 (fun W => (W.cell? ⟨w4.heap.size, 0, none⟩ = some (.int .i64 y) ∧ W.cell? ⟨w4.heap.size, 1, none⟩ = some (.int .i64 tm) ∧ W.cell? ⟨w4.heap.size, 2, none⟩ = some (.slice (some ⟨km4, 0, none⟩) bn bn) ∧ W.cell? ⟨w4.heap.size, 3, none⟩ = some (.slice (some ⟨kg4, 0, none⟩) gn gn) ∧ W.cell? ⟨w4.heap.size, 4, none⟩ = some (.string jr) ∧ W.cell? ⟨w4.heap.size, 5, none⟩ = some (.int .i64 sv) ∧ W.cell? ⟨w4.heap.size, 6, none⟩ = some (.string i) ∧ W.cell? ⟨w4.heap.size, 7, none⟩ = some (.string o) ∧ W.cell? ⟨w4.heap.size, 8, none⟩ = some (.bool n) ∧ W.cell? ⟨w4.heap.size, 9, none⟩ = some (.bool r) ∧ W.cell? ⟨w4.heap.size, 10, none⟩ = some (.int .i64 b) ∧ W.cell? ⟨w4.heap.size, 11, none⟩ = some (.slice (some ⟨kv4, 0, none⟩) vn vn) ∧ W.cell? ⟨w4.heap.size, 12, none⟩ = some (.bool u)) ∧ (W.cell? ⟨w.heap.size, 0, none⟩ = some (.int .i64 y) ∧ W.cell? ⟨w.heap.size, 1, none⟩ = some (.int .i64 tm) ∧ W.cell? ⟨w.heap.size, 2, none⟩ = some (.slice ba bn bc) ∧ W.cell? ⟨w.heap.size, 3, none⟩ = some (.slice ga gn gc) ∧ W.cell? ⟨w.heap.size, 4, none⟩ = some (.string jr) ∧ W.cell? ⟨w.heap.size, 5, none⟩ = some (.int .i64 sv) ∧ W.cell? ⟨w.heap.size, 6, none⟩ = some (.string i) ∧ W.cell? ⟨w.heap.size, 7, none⟩ = some (.string o) ∧ W.cell? ⟨w.heap.size, 8, none⟩ = some (.bool n) ∧ W.cell? ⟨w.heap.size, 9, none⟩ = some (.bool r) ∧ W.cell? ⟨w.heap.size, 10, none⟩ = some (.int .i64 b) ∧ W.cell? ⟨w.heap.size, 11, none⟩ = some (.slice va vn vc) ∧ W.cell? ⟨w.heap.size, 12, none⟩ = some (.bool u)))
    ((refine HSX.out _ ?_; repeat (first | exact bdr (bre _) | exact C8.out | exact D8.out | refine btr ?_ (by assumption))))
    ((first
      | (go_at_call 13; refine (toSv_in HH.out HJ.out _ (btr B7.out (bdr (bre _)))).mono ?_; rintro e w8 ⟨km8, kg8, kv8, rfl, how8, hb8⟩; have R8 := hid how8; have C8 : Hid (Below w7.heap.size w7 w8) := btr (bdr (bre _)) hb8; clear how8 hb8)
      | (go_at_call 8; refine (eqSv_any y tm _ bn _ _ gn _ _ _ _ _ jr sv i o n r b _ vn _ _ _ u S G V w8 HH.out (PM.out.later C8.out) R8.out.reads).mono ?_; rintro e w9 ⟨rfl, hb9⟩; have D8 : Hid (Below w7.heap.size w7 w9) := btr C8.out hb9; clear hb9)))
  have hb := D8.out
  clear PM HSX C8 D8 R8
  have A8 := hid (A7.out.later hb)
  have B8 := hid (btr B7.out hb)
  have V8 := hid (V7.out.later hb)
  have OV8 := hid (OV7.out.later hb)
  have X8 := hid (X7.out.later hb)
  have OX8 := hid (OX7.out.later hb)
  have Gb8 := hid (Gb7.out.later hb)
  have OG8 := hid (OG7.out.later hb)
  have R8 : Hid (w6.heap.size ≤ w9.heap.size) := by have h := R7.out; exact Nat.le_trans h hb.size
  clear A7 B7 V7 OV7 X7 OX7 Gb7 OG7 R7
  clear hb
  have e0 := X8.out.cells
  go_wp2_with fail
  refine (markSv_any w2.heap.size w4.heap.size y tm _ bn bn _ gn gn jr sv i o n r b _ vn vn u S G V _ HH.out OX8.out (by have q4 := Q4.out; have q5 := Q5.out; have q9 := Q9.out; have q6 := Gb8.out.lt; omega)).mono ?_; rintro e w10 ⟨rfl, -, hc⟩
  have q1 := Q1.out
  have q2 := Q2.out
  have q3 := Q3.out
  have q4 := Q4.out
  have q5 := Q5.out
  have q6 := Q6.out
  have q7 := Q7.out
  have q9 := Q9.out
  have A9 := hid (A8.out.chg hc (by omega))
  have V9 := hid (V8.out.chg hc (by omega))
  have Gb9 := hid (Gb8.out.chg hc (by omega))
  have OV9 := hid (OV8.out.chg hc (by intro j h1 h2; omega))
  have OG9 := hid (OG8.out.chg hc (by intro j h1 h2; omega))
  have B9 : Hid (Below w.heap.size w w10) := B8.out.trans (hc.below16 B8.out.size (by intro j h; omega))
  have R9 : Hid (w6.heap.size ≤ w10.heap.size) := by have h := R8.out; exact Nat.le_trans h hc.size
  obtain ⟨q0, hq0⟩ : ∃ q0 : Nat, kx 1 S + gn + vn = q0 := ⟨_, rfl⟩
  rw [hq0]
  have hq1 : ¬ ((q0 : Nat) : Int) < 0 := by omega
  clear e0 hc q1 q2 q3 q4 q5 q6 q7 q9 hq0 A8 V8 Gb8 OV8 OG8 B8 X8 OX8 R8
  have e0 := Gb9.out.cells
  have e2 := V9.out.cells
  go_wp2_with fail
  refine (eqSv_any y tm _ bn _ _ gn _ _ _ _ _ jr sv I o n r b _ vn _ _ _ u S G V _ HH.out OG9.out.reads OV9.out.reads).mono ?_; rintro e w11 ⟨rfl, hb⟩
  clear e0 e2
  have A10 := hid (A9.out.later hb)
  have B10 := hid (btr B9.out hb)
  have V10 := hid (V9.out.later hb)
  have OV10 := hid (OV9.out.later hb)
  have Gb10 := hid (Gb9.out.later hb)
  have OG10 := hid (OG9.out.later hb)
  have R10 : Hid (w6.heap.size ≤ w11.heap.size) := by have h := R9.out; exact Nat.le_trans h hb.size
  clear A9 B9 V9 OV9 Gb9 OG9 R9
  clear hb
  have e0 := Gb10.out.cells
  go_wp2_with fail
  refine (markSv_any BG HG y tm _ bn _ _ gn _ jr sv I o n r b _ vn _ u S G V _ HH.out OG10.out (by have h := Q10.out; have h2 := R10.out; omega)).mono ?_; rintro e w12 ⟨rfl, hmk, hc⟩
  have q1 := Q1.out
  have q2 := Q2.out
  have q3 := Q3.out
  have q4 := Q4.out
  have q5 := Q5.out
  have q6 := Q6.out
  have q7 := Q7.out
  have q8 := Q8.out
  have A11 := hid (A10.out.chg hc (by omega))
  have V11 := hid (V10.out.chg hc (by omega))
  have Gb11 := hid (Gb10.out.chg hc (by omega))
  have OV11 := hid (OV10.out.chg hc (by intro j h1 h2; omega))
  have MG11 := hid hmk
  have B11 : Hid (Below w.heap.size w w12) := B10.out.trans (hc.below16 B10.out.size (by intro j h; omega))
  obtain ⟨qm, hqm⟩ : ∃ qm : Nat, kx 1 S + gn + vn = qm := ⟨_, rfl⟩
  rw [hqm]
  have HQM := hid hqm
  have hm1 : ¬ ((qm : Nat) : Int) < 0 := by omega
  have hm2 : (((qm : Nat) : Int) != ((qm : Nat) : Int)) = false := by simp
  clear e0 hc hmk q1 q2 q3 q4 q5 q6 q7 q8 hqm A10 V10 Gb10 OV10 OG10 B10 hq1
  have e0 := Gb11.out.cells
  go_wp2_with fail
  refine (heldSv_any _ _ y tm _ bn _ _ gn _ jr sv I o n r b _ vn _ u S G V _ HH.out MG11.out).mono ?_; rintro e w13 ⟨rfl, hb⟩
  rw [HQM.out]
  clear e0
  have A12 := hid (A11.out.later hb)
  have B12 := hid (btr B11.out hb)
  have V12 := hid (V11.out.later hb)
  have OV12 := hid (OV11.out.later hb)
  have Gb12 := hid (Gb11.out.later hb)
  have MG12 := hid (MG11.out.later hb)
  clear A11 B11 V11 OV11 Gb11 MG11
  clear hb
  have e9 := A12.out.cells
  go_wp2_with fail
  refine (toSv_in HH.out HJ.out _ B12.out).mono ?_; rintro e v1 ⟨km, kg, kv, rfl, how, hb1⟩
  have P1 := hid how.reads
  clear how e9
  go_wp2_with fail
  refine (CIM.out _ _ _ _ P1.out).mono ?_; rintro e v3 ⟨ah, ch, ah', ch', xh, zh, rfl, ho3, hb3⟩
  have hb4 := btr hb1 hb3
  have hle : w13.heap.size ≤ v1.heap.size := hb1.size
  clear P1 hb1 hb3
  obtain ⟨kh, hkh⟩ : ∃ kh, v3.heap.size = kh := ⟨_, rfl⟩
  obtain ⟨w14, hw14⟩ : ∃ w14, v3.alloc (.cells #[.int .i64 y, .int .i64 tm, .slice ah bn ch, .slice ah' gn ch', .string jr, .int .i64 sv, .string I, .string o, .bool n, .bool r, .int .i64 b, .slice xh vn zh, .bool u] 31) = w14 := ⟨_, rfl⟩
  have hv : AnsV w13 w14 kh y tm (.slice ah bn ch) (.slice ah' gn ch') jr sv I o n r b (.slice xh vn zh) u S G V := by rw [← hw14, ← hkh]; exact ansv_last ho3 hle hb4
  clear ho3 hb4 hle
  obtain ⟨BH, HH2, ov, bv, tv, dv⟩ := hv.own
  have hb := hv.bel
  have A13 := hid (A12.out.later hb)
  have B13 := hid (btr B12.out hb)
  have V13 := hid (V12.out.later hb)
  have OV13 := hid (OV12.out.later hb)
  have Gb13 := hid (Gb12.out.later hb)
  have MG13 := hid (MG12.out.later hb)
  clear A12 B12 V12 OV12 Gb12 MG12
  have Hb13 := hid hv.box
  have OH13 := hid ov
  clear hb hv ov bv tv dv
  have e0 := Hb13.out.cells
  have e2 := V13.out.cells
  go_wp2_with fail
  clear hw14 hkh
  refine (eqSv_any y tm _ bn _ _ gn _ _ _ _ _ jr sv I o n r b _ vn _ _ _ u S G V _ HH.out OH13.out.reads OV13.out.reads).mono ?_; rintro e w15 ⟨rfl, hb⟩
  clear e0 e2
  have B14 := hid (btr B13.out hb)
  have Gb14 := hid (Gb13.out.later hb)
  have MG14 := hid (MG13.out.later hb)
  clear A13 B13 V13 OV13 Gb13 MG13
  clear hb
  have e0 := Gb14.out.cells
  go_wp2_with fail
  refine (heldSv_any _ _ y tm _ bn _ _ gn _ jr sv I o n r b _ vn _ u S G V _ HH.out MG14.out).mono ?_; rintro e w16 ⟨rfl, hb⟩
  rw [HQM.out]
  clear e0
  go_wp2
  go_ret
  exact ⟨rfl, btr B14.out hb⟩
end Go.Proofs.Ytckenihadlmlaaa
