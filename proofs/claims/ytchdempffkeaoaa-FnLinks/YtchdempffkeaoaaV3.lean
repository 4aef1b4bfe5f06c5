/- K9b, K9c, K9d, K9f, K9g. -/
import Derived.Test.YtchdempffkeaoaaV2
namespace Go.Proofs.Ytchdempffkeaoaa
open Go.RowKit Go.ChangeMaps
set_option maxHeartbeats 3200000 in
set_option maxRecDepth 100000 in
theorem hears17_any (B b : Nat) (ep nx wt : Int) (ga : Option Addr) (gn gc : Nat) (G : List ByteArray) (e s a : Int) (t : ByteArray) (w : World) (hx : Lk w b 28 ep (.slice ga gn gc) nx wt) (hsl : SlV w B ga gn gc G) (hkb : ∀ q, Value.ownBlock (.slice ga gn gc) = some q → q ≠ b) (ht : t.size ≤ 1048576) (ha : 0 - 9223372036854775808 ≤ a ∧ a ≤ 9223372036854775807) (hnx : 1 ≤ nx) :
    Calls Try.prog 21 #[pkv e s a t, lkP b] w fun ex w' => ex = .returned (.tuple #[.string (hText ep wt e s t), .bool (hGot ep wt e s)]) ∧ w.grownBy w' (some b) ∧ ∃ a' c', Lk w' b 28 ep (.slice a' (hWay ep nx G e a).length c') (hNext ep nx G e a) (hWant ep wt e s) ∧ SlV w' B a' (hWay ep nx G e a).length c' (hWay ep nx G e a) ∧ (∀ q, Value.ownBlock (.slice a' (hWay ep nx G e a).length c') = some q → q ≠ b) := by
  obtain ⟨W0, hW0⟩ : ∃ W0, w.alloc (.cells #[.int .i64 e, .int .i64 s, .int .i64 a, .string t] 34) = W0 := ⟨_, rfl⟩
  have b0 : Below w.heap.size w W0 := by subst hW0; exact bpush (bre _) _
  have x0 : Pk W0 w.heap.size 34 e s a t := by subst hW0; exact Pk.new _ _ _ _ _ _
  have HKW : Hid (b < w.heap.size) := hid hx.lt
  have X0 := hid x0
  have L0 := hid (hx.later b0)
  have S0 := hid (hsl.later b0)
  have G0 := hid (gof (some b) b0)
  have HKB := hid hkb
  have HT := hid ht
  have HA := hid ha
  have HNX := hid hnx
  have HGN := hid hsl.1
  have HW := hid hW0
  obtain ⟨T, hT⟩ : ∃ T, hText ep wt e s t = T := ⟨_, rfl⟩
  obtain ⟨Y, hY⟩ : ∃ Y, hGot ep wt e s = Y := ⟨_, rfl⟩
  obtain ⟨L, hL⟩ : ∃ L, hWay ep nx G e a = L := ⟨_, rfl⟩
  obtain ⟨N, hN⟩ : ∃ N, hNext ep nx G e a = N := ⟨_, rfl⟩
  obtain ⟨M, hM⟩ : ∃ M, hWant ep wt e s = M := ⟨_, rfl⟩
  obtain ⟨n, hn⟩ : ∃ n, L.length = n := ⟨_, rfl⟩
  rw [hT, hY, hL, hN, hM, hn]
  have HTT := hid hT
  have HY := hid hY
  have HL := hid hL
  have HN := hid hN
  have HM := hid hM
  have HNL := hid hn
  have c0 := x0.cells
  have c1 := L0.out.cells
  clear hx hsl hkb x0 b0 hT hY hL hN hM ht ha hnx hW0 hn
  by_cases he : e = ep
  rotate_left
  · have hne : (e != ep) = true := by simp [he]
    have q1 : hGot ep wt e s = false := by unfold hGot; simp [he]
    have q2 : hAck ep nx G e a = false := by unfold hAck; simp [he]
    obtain rfl : false = Y := by rw [← HY.out, q1]
    obtain rfl : ⟨#[]⟩ = T := by rw [← HTT.out]; unfold hText; rw [q1]; rfl
    obtain rfl : G = L := by rw [← HL.out]; unfold hWay; rw [q2]; rfl
    obtain rfl : nx = N := by rw [← HN.out]; unfold hNext; rw [q2]; rfl
    obtain rfl : wt = M := by rw [← HM.out]; unfold hWant; rw [q1]; rfl
    obtain rfl : gn = n := HGN.out.symm.trans HNL.out
    clear q1 q2
    go_enter Try.func21, Try.ntmps21
    go_upto_region 1 with fail
    rw [HW.out]
    go_wp2
    go_ret2
    exact ⟨rfl, G0.out, _, _, L0.out, S0.out, HKB.out⟩
  subst he
  have hee : (e != e) = false := by simp
  have CA := hid (fun (W : World) => acksFirst_any e nx wt ga gn gc a W HA.out (by have := HNX.out; omega))
  have HAK : Hid (hAck e nx G e a = ackI nx gn a) := hid (by rw [hAck_ackI HNX.out, HGN.out]; simp)
  go_enter Try.func21, Try.ntmps21
  go_upto_region 1 with fail
  rw [HW.out]
  go_wp2_with fail
  refine (CA.out _).mono ?_; rintro y w1 ⟨rfl, hb1⟩
  obtain ⟨k, hk⟩ : ∃ k, ackI nx gn a = k := ⟨_, rfl⟩
  have HK : Hid (hAck e nx G e a = k) := hid (HAK.out.trans hk)
  have HKI := hid hk
  rw [hk]
  clear hk
  have X1 := hid (X0.out.later hb1)
  have L1 := hid (L0.out.later hb1)
  have S1 := hid (S0.out.later hb1)
  have G1 := hid (wtr G0.out (gof (some b) hb1))
  clear hb1 X0 L0 S0 G0 c0 c1 HAK CA hee
  cases k with
  | false =>
    obtain rfl : G = L := by rw [← HL.out]; unfold hWay; rw [HK.out]; rfl
    obtain rfl : nx = N := by rw [← HN.out]; unfold hNext; rw [HK.out]; rfl
    obtain rfl : gn = n := HGN.out.symm.trans HNL.out
    have X3 := X1
    have L3 := L1
    have S3 := S1
    have G3 := G1
    have K3 := HKB
    clear X1 L1 S1 G1
    have c0 := X3.out.cells
    have c1 := L3.out.cells
    have f1 := L3.out.loose
    by_cases hs0 : s = 0
    · have h0 : (s == 0) = true := by simp [hs0]
      have q1 : hGot e wt e s = false := by unfold hGot; simp [hs0]
      obtain rfl : false = Y := by rw [← HY.out, q1]
      obtain rfl : ⟨#[]⟩ = T := by rw [← HTT.out]; unfold hText; rw [q1]; rfl
      obtain rfl : wt = M := by rw [← HM.out]; unfold hWant; rw [q1]; rfl
      clear q1 hs0
      go_wp2
      go_ret2
      exact ⟨rfl, G3.out, _, _, L3.out, S3.out, K3.out⟩
    have h0 : (s == 0) = false := by simp [hs0]
    by_cases hs1 : s = wt
    rotate_left
    · have h1 : (s != wt) = true := by simp [hs1]
      have q1 : hGot e wt e s = false := by unfold hGot; simp [hs1]
      obtain rfl : false = Y := by rw [← HY.out, q1]
      obtain rfl : ⟨#[]⟩ = T := by rw [← HTT.out]; unfold hText; rw [q1]; rfl
      obtain rfl : wt = M := by rw [← HM.out]; unfold hWant; rw [q1]; rfl
      clear q1 hs0 hs1
      go_wp2
      go_ret2
      exact ⟨rfl, G3.out, _, _, L3.out, S3.out, K3.out⟩
    have h1 : (s != wt) = false := by simp [hs1]
    have q1 : hGot e wt e s = true := by unfold hGot; simp [hs1]; omega
    obtain rfl : true = Y := by rw [← HY.out, q1]
    obtain rfl : t = T := by rw [← HTT.out]; unfold hText; rw [q1]; rfl
    obtain rfl : wrap64 (wt + 1) = M := by rw [← HM.out]; unfold hWant; rw [q1]; rfl
    clear q1 hs0 hs1
    go_upto_region 9 with fail
    clear h0 h1 c1 f1 c0
    have g4 := wst (wre w1 (some b)) 3 (.int .i64 (wrap64 (wt + 1)))
    have x4 := L3.out.s3 (wrap64 (wt + 1))
    obtain ⟨W4, hW4⟩ : ∃ W, w1.setCell ⟨b, 3, none⟩ (.int .i64 (wrap64 (wt + 1))) = W := ⟨_, rfl⟩
    rw [hW4] at g4 x4
    rw [hW4]
    have L4 := hid x4
    have S4 := hid (S3.out.off g4 (fun q hq e => K3.out q hq (by simpa using e.symm)))
    have G4 := hid (wtr G3.out g4)
    have X4 := hid (X3.out.grown g4 (by have := HKW.out; simp; omega))
    clear hW4 g4 x4
    have c0 := X4.out.cells
    go_wp2_with fail
    refine (clone_any t _ HT.out).mono ?_; rintro y w5 ⟨rfl, hb5⟩
    have L5 := hid (L4.out.later hb5)
    have S5 := hid (S4.out.later hb5)
    have G5 := hid (wtr G4.out (gof (some b) hb5))
    clear hb5 c0
    go_wp2
    go_ret2
    exact ⟨rfl, G5.out, _, _, L5.out, S5.out, K3.out⟩
  | true =>
    obtain rfl : G.tail = L := by rw [← HL.out]; unfold hWay; rw [HK.out]; rfl
    obtain rfl : wrap64 (nx + 1) = N := by rw [← HN.out]; unfold hNext; rw [HK.out]; rfl
    have hgn0 : 0 < gn := by have h := HKI.out; unfold ackI at h; simp only [Bool.and_eq_true, decide_eq_true_eq] at h; exact h.1
    obtain rfl : gn - 1 = n := by have h := HNL.out; rw [List.length_tail, HGN.out] at h; exact h
    cases ga with
    | none => exact absurd (S1.out.2.1 rfl) (by have := S1.out.2.2.1; omega)
    | some ad =>
    obtain ⟨k0, o0, e0, _⟩ := S1.out.2.2.2.1 0 (by rw [HGN.out]; exact hgn0)
    simp only [Option.some.injEq] at e0
    subst e0
    have hle : (0 : Int) ≤ 1 ∧ (1 : Int) ≤ (gn : Int) := by omega
    have c1 := L1.out.cells
    have f1 := L1.out.loose
    have T1 := hid (S1.out.tail hgn0)
    obtain ⟨a2, ha2⟩ : ∃ x : Option Addr, (if gc = 1 then some ⟨k0, o0, none⟩ else some ⟨k0, o0 + 1, none⟩) = x := ⟨_, rfl⟩
    have K3 : Hid (∀ q, Value.ownBlock (.slice a2 (gn - 1) (gc - 1)) = some q → q ≠ b) := hid (by
      intro q hq
      refine HKB.out q ?_
      rw [← ha2] at hq
      split at hq
      · exact hq
      · simpa [Value.ownBlock] using hq)
    rw [addr_add, ha2] at T1
    have HA2 := hid ha2
    clear ha2 HKB
    go_upto_region 6 with fail
    rw [HA2.out]
    have g3 := wst (wst (wre w1 (some b)) 1 (.slice a2 (gn - 1) (gc - 1))) 2 (.int .i64 (wrap64 (nx + 1)))
    have x3 := (L1.out.s1 (.slice a2 (gn - 1) (gc - 1))).s2 (wrap64 (nx + 1))
    obtain ⟨w3, hw3⟩ : ∃ W, (w1.setCell ⟨b, 1, none⟩ (.slice a2 (gn - 1) (gc - 1))).setCell ⟨b, 2, none⟩ (.int .i64 (wrap64 (nx + 1))) = W := ⟨_, rfl⟩
    rw [hw3] at g3 x3
    rw [hw3]
    have L3 := hid x3
    have S3 := hid (T1.out.off g3 (fun q hq e => K3.out q hq (by simpa using e.symm)))
    have G3 := hid (wtr G1.out g3)
    have X3 := hid (X1.out.grown g3 (by have := HKW.out; simp; omega))
    clear hw3 g3 x3 X1 L1 S1 G1 T1 c1 f1 hle HA2
    have c0 := X3.out.cells
    have c1 := L3.out.cells
    have f1 := L3.out.loose
    by_cases hs0 : s = 0
    · have h0 : (s == 0) = true := by simp [hs0]
      have q1 : hGot e wt e s = false := by unfold hGot; simp [hs0]
      obtain rfl : false = Y := by rw [← HY.out, q1]
      obtain rfl : ⟨#[]⟩ = T := by rw [← HTT.out]; unfold hText; rw [q1]; rfl
      obtain rfl : wt = M := by rw [← HM.out]; unfold hWant; rw [q1]; rfl
      clear q1 hs0
      go_wp2
      go_ret2
      exact ⟨rfl, G3.out, _, _, L3.out, S3.out, K3.out⟩
    have h0 : (s == 0) = false := by simp [hs0]
    by_cases hs1 : s = wt
    rotate_left
    · have h1 : (s != wt) = true := by simp [hs1]
      have q1 : hGot e wt e s = false := by unfold hGot; simp [hs1]
      obtain rfl : false = Y := by rw [← HY.out, q1]
      obtain rfl : ⟨#[]⟩ = T := by rw [← HTT.out]; unfold hText; rw [q1]; rfl
      obtain rfl : wt = M := by rw [← HM.out]; unfold hWant; rw [q1]; rfl
      clear q1 hs0 hs1
      go_wp2
      go_ret2
      exact ⟨rfl, G3.out, _, _, L3.out, S3.out, K3.out⟩
    have h1 : (s != wt) = false := by simp [hs1]
    have q1 : hGot e wt e s = true := by unfold hGot; simp [hs1]; omega
    obtain rfl : true = Y := by rw [← HY.out, q1]
    obtain rfl : t = T := by rw [← HTT.out]; unfold hText; rw [q1]; rfl
    obtain rfl : wrap64 (wt + 1) = M := by rw [← HM.out]; unfold hWant; rw [q1]; rfl
    clear q1 hs0 hs1
    go_upto_region 9 with fail
    clear h0 h1 c1 f1 c0
    have g4 := wst (wre w3 (some b)) 3 (.int .i64 (wrap64 (wt + 1)))
    have x4 := L3.out.s3 (wrap64 (wt + 1))
    obtain ⟨W4, hW4⟩ : ∃ W, w3.setCell ⟨b, 3, none⟩ (.int .i64 (wrap64 (wt + 1))) = W := ⟨_, rfl⟩
    rw [hW4] at g4 x4
    rw [hW4]
    have L4 := hid x4
    have S4 := hid (S3.out.off g4 (fun q hq e => K3.out q hq (by simpa using e.symm)))
    have G4 := hid (wtr G3.out g4)
    have X4 := hid (X3.out.grown g4 (by have := HKW.out; simp; omega))
    clear hW4 g4 x4
    have c0 := X4.out.cells
    go_wp2_with fail
    refine (clone_any t _ HT.out).mono ?_; rintro y w5 ⟨rfl, hb5⟩
    have L5 := hid (L4.out.later hb5)
    have S5 := hid (S4.out.later hb5)
    have G5 := hid (wtr G4.out (gof (some b) hb5))
    clear hb5 c0
    go_wp2
    go_ret2
    exact ⟨rfl, G5.out, _, _, L5.out, S5.out, K3.out⟩
set_option maxHeartbeats 1600000 in
set_option maxRecDepth 100000 in
theorem implHearsS_any (lo hi : Nat) (ep nx wt : Int) (ga : Option Addr) (gn gc : Nat) (G : List ByteArray) (e s a : Int) (t : ByteArray) (w : World) (hgl : G.length = gn) (hgn : gn ≤ 1048576) (hz : ∀ x ∈ G, x.size ≤ 1048576) (hs : Ss lo hi w ga G) (hg0 : ga = none → gc = 0) (ht : t.size ≤ 1048576) (ha : 0 - 9223372036854775808 ≤ a ∧ a ≤ 9223372036854775807) (hnx : 1 ≤ nx) :
    Calls Try.prog 10 #[lkv ep (.slice ga gn gc) nx wt, pkv e s a t] w fun ex w' => ∃ ag cg, ex = .returned (.tuple #[lkv ep (.slice ag (hWay ep nx G e a).length cg) (hNext ep nx G e a) (hWant ep wt e s), .string (hText ep wt e s t), .bool (hGot ep wt e s)]) ∧ SlV w' w.heap.size ag (hWay ep nx G e a).length cg (hWay ep nx G e a) ∧ Below w.heap.size w w' := by
  obtain ⟨W0, hW0⟩ : ∃ W0, ((w.alloc (.cells #[.int .i64 ep, .slice ga gn gc, .int .i64 nx, .int .i64 wt] 28)).alloc (.cells #[.int .i64 e, .int .i64 s, .int .i64 a, .string t] 34)).alloc (.cells lk0 28) = W0 := ⟨_, rfl⟩
  have b0 : Below w.heap.size w W0 := by subst hW0; exact bpush (bpush (bpush (bre _) _) _) _
  have x0 : Lk W0 w.heap.size 28 ep (.slice ga gn gc) nx wt := by subst hW0; exact ((Lk.new w _ _ _ _ _).later (bpush (bre _) _)).later (bpush (bre _) _)
  have x1 : Pk W0 (w.heap.size + 1) 34 e s a t := by
    subst hW0
    have h := Pk.new (w.alloc (.cells #[.int .i64 ep, .slice ga gn gc, .int .i64 nx, .int .i64 wt] 28)) 34 e s a t
    simp at h
    exact h.later (bpush (bre _) _)
  have x2 : Lk W0 (w.heap.size + 1 + 1) 28 0 (.slice none 0 0) 0 0 := by
    subst hW0
    have h := Lk.new ((w.alloc (.cells #[.int .i64 ep, .slice ga gn gc, .int .i64 nx, .int .i64 wt] 28)).alloc (.cells #[.int .i64 e, .int .i64 s, .int .i64 a, .string t] 34)) 28 0 (.slice none 0 0) 0 0
    simpa using h
  have HC := hid (linkOf_any lo hi ep nx wt ga gn gc G W0 hgl hgn hz (hs.later b0) hg0)
  have HE := hid (fun (B b : Nat) (ga : Option Addr) (gc : Nat) (W : World) h1 h2 h3 => hears17_any B b ep nx wt ga gn gc G e s a t W h1 h2 h3 ht ha hnx)
  have A1 := hid x1
  have A2 := hid x2
  have B0 := hid b0
  have HW := hid hW0
  have c0 := x0.cells
  obtain ⟨T, hT⟩ : ∃ T, hText ep wt e s t = T := ⟨_, rfl⟩
  obtain ⟨Y, hY⟩ : ∃ Y, hGot ep wt e s = Y := ⟨_, rfl⟩
  obtain ⟨L, hL⟩ : ∃ L, hWay ep nx G e a = L := ⟨_, rfl⟩
  obtain ⟨N, hN⟩ : ∃ N, hNext ep nx G e a = N := ⟨_, rfl⟩
  obtain ⟨M, hM⟩ : ∃ M, hWant ep wt e s = M := ⟨_, rfl⟩
  rw [hT, hY, hL, hN, hM] at HE ⊢
  obtain ⟨n, hn⟩ : ∃ n, L.length = n := ⟨_, rfl⟩
  rw [hn] at HE ⊢
  have hsf : ∀ (a : Addr) (fn : Fn) (first cap : Array Value) (m : Mode) (w : World), (store a (.func fn first cap) m).run Try.prog w = stored Try.prog w a (.func fn first cap) m := fun a fn first cap m w => run_store Try.prog w a _ m rfl
  clear x0 x1 x2 b0 hW0 hs hg0 hgn hgl hT hY hL hN hM hn ha hnx hz ht
  go_enter Try.func10, Try.ntmps10
  go_wp2_with fail
  rw [HW.out]
  clear HW
  refine HC.out.mono ?_; rintro ex w1 ⟨ag, cg, rfl, hx, ho, hb⟩
  have LW : Hid (w.heap.size + 1 + 1 < W0.heap.size ∧ W0.heap.size < w1.heap.size) := hid ⟨A2.out.lt, hx.lt⟩
  obtain ⟨w2, hw2⟩ : ∃ x, w1.alloc (.cells #[lkF1 W0.heap.size, lkF2 W0.heap.size, lkF3 W0.heap.size, lkF4 W0.heap.size] 49) = x := ⟨_, rfl⟩
  have b2 : Below w1.heap.size w1 w2 := by subst hw2; exact bpush (bre _) _
  have e2 : Lf w2 w1.heap.size 49 (lkF1 W0.heap.size) (lkF2 W0.heap.size) (lkF3 W0.heap.size) (lkF4 W0.heap.size) := by subst hw2; exact Lf.new _ _ _ _ _ _
  have P2 := hid ((A1.out.later hb).later b2)
  have A2 := hid ((A2.out.later hb).later b2)
  have B2 := hid (btr (btr B0.out hb) b2)
  have NB : ∀ j, Value.ownBlock (.slice ag gn cg) = some j → W0.heap.size < j ∧ j < w1.heap.size := fun j hj => World.ownsRow.lt ho j hj
  have HEE := hid (HE.out (W0.heap.size + 1) W0.heap.size ag cg w2 (hx.later b2) ((SlV.of ho).later b2) (fun q hq => by have := NB q hq; omega))
  have E2 := hid e2
  clear hx ho hb A1 B0 HC c0 HE b2 e2 NB
  go_upto_region 2 with fail
  clear hw2
  have ce := E2.out.cells
  have cp := P2.out.cells
  go_wp2_with fail
  refine HEE.out.mono ?_; rintro ex w3 ⟨rfl, hg, a', c', hx3, hs3, hk3⟩
  have lw := LW.out
  have hA := A2.out.grown hg (by simp; omega)
  have hE := E2.out.grown hg (by simp; omega)
  have hB : Below w.heap.size w w3 := B2.out.trans (below_of_grown hg (by omega) B2.out.size)
  have HN := hid (now17_any W0.heap.size ep N M a' n c' w3 hx3)
  have A3 := hid hA
  have S3 := hid hs3
  have B3 := hid hB
  clear ce cp
  have ce := hE.cells
  clear hA hE hB hx3 hs3 hg A2 B2 E2 HEE lw P2 hk3
  go_wp2_with fail
  refine HN.out.mono ?_; rintro ex w4 ⟨rfl, hb4⟩
  have A4 := A3.out.later hb4
  have S4 := hid (S3.out.later hb4)
  have B4 := hid (btr B3.out hb4)
  have c1 := A4.cells
  have f1 := A4.loose
  have A5 := hid A4
  clear A4 hb4 A3 S3 B3 ce
  go_wp2
  have lw := LW.out
  have g3 := putL_grown w4 (w.heap.size + 1 + 1) ep (.slice a' n c') N M
  have d := (A5.out.put ep (.slice a' n c') N M).cells
  have o5 := (S4.out.off g3 (fun q hq e => by have := (S4.out.2.2.2.2 q hq).1; simp at e; omega)).base (show w.heap.size ≤ W0.heap.size + 1 by omega)
  have b5 := B4.out.trans (below_of_grown g3 (by omega) B4.out.size)
  unfold putL at g3 d o5 b5
  exact bodyPost_ret (v := .tuple #[lkv ep (.slice a' n c') N M, .string T, .bool Y]) (by simp [results, Try.results10, go_sem, d]) rfl ⟨_, _, rfl, o5, b5⟩
theorem big17_no (ao : Option Addr) (n cap : Nat) (w : World) (h : n ≤ 1048576) :
    Calls Try.prog 4 #[.slice ao n cap] w fun e w' => e = .returned (.bool false) ∧ w' = w := by
  go_enter Try.func4, Try.ntmps4
  go_wp2
  go_ret
  exact ⟨by simp; omega, rfl⟩
theorem big17_yes (ao : Option Addr) (n cap : Nat) (w : World) (h : 1048576 < n) :
    Calls Try.prog 4 #[.slice ao n cap] w fun e w' => e = .returned (.bool true) ∧ w' = w := by
  go_enter Try.func4, Try.ntmps4
  go_wp2
  go_ret
  exact ⟨by simp; omega, rfl⟩
/-- A text that is put on the way. -/
def tx17 (z : Nat) : ByteArray := ⟨#[116, 101, 120, 116]⟩ ++ ⟨(dg z).toArray⟩
theorem tx17_size (z : Nat) (h : z < 10000) : 1 ≤ (tx17 z).size ∧ (tx17 z).size ≤ 400 := by
  have h1 := dg_len 3 z (by omega)
  unfold tx17
  rw [ByteArray.size_append]
  have h2 : (⟨(dg z).toArray⟩ : ByteArray).size = (dg z).length := by show (dg z).toArray.size = _; simp
  rw [h2]
  have h3 : (⟨#[116, 101, 120, 116]⟩ : ByteArray).size = 4 := rfl
  rw [h3]
  omega
theorem lpw_put {G : List ByteArray} {t : ByteArray} (h : G.length < 60) (ht : 1 ≤ t.size ∧ t.size ≤ 400) : lpw G t = G ++ [t] ∧ lpo G.length t = true := by
  have e : lpo G.length t = true := by unfold lpo; simp [h, ht.1, ht.2]
  exact ⟨by unfold lpw; rw [if_pos e], e⟩
theorem own_none17 {W : World} {B n c : Nat} {a : Option Addr} {G : List ByteArray} (h : OwV W B (.slice a n c) G) : a = none → c = 0 := by
  intro e
  obtain ⟨a', c', h1, h2⟩ := OwV.shape h
  simp only [Value.slice.injEq] at h1
  obtain ⟨rfl, _, rfl⟩ := h1
  exact h2 e
theorem wtr_far17 {a b c : World} {r q : Option Nat} (h : a.grownBy b r) (k : b.grownBy c q) (hq : ∀ j, q = some j → a.heap.size ≤ j) : a.grownBy c r :=
  ⟨k.os.trans h.os, k.tape.trans h.tape, k.output.trans h.output, Nat.le_trans h.size k.size, fun i hi hr => (k.block i (Nat.lt_of_lt_of_le hi h.size) (fun e => by have := hq i e.symm; omega)).trans (h.block i hi hr)⟩
/-- Two links in a talk: what each holds, and what was heard. -/
structure LnS (wr W : World) (ka kb B : Nat) (S : List ByteArray) (i jb j : Nat) (wa : Option Addr) (wn wc : Nat) (ba : Option Addr) (bc : Nat) (ha : Option Addr) (hc : Nat) : Prop where
  a : Lk W ka 28 3 (.slice wa wn wc) ((i : Int) + 1) 1
  oa : SlV W B wa wn wc (S.drop i)
  b : Lk W kb 28 3 (.slice ba 0 bc) 1 ((jb : Int) + 1)
  ob : SlV W B ba 0 bc []
  h : OwV W wr.heap.size (.slice ha j hc) (S.take j)
  na : ∀ q, Value.ownBlock (.slice wa wn wc) = some q → q ≠ ka ∧ q ≠ kb ∧ Value.ownBlock (.slice ha j hc) ≠ some q
  nb : ∀ q, Value.ownBlock (.slice ba 0 bc) = some q → q ≠ ka ∧ q ≠ kb ∧ Value.ownBlock (.slice ha j hc) ≠ some q
  lt : ka < wr.heap.size ∧ kb < wr.heap.size ∧ ka ≠ kb ∧ B ≤ wr.heap.size
  os : W.os = wr.os
  tape : W.tape = wr.tape
  output : W.output = wr.output
  size : wr.heap.size ≤ W.heap.size
  fr : ∀ k, k < wr.heap.size → k ≠ ka → k ≠ kb → W.heap[k]? = wr.heap[k]?
section
variable {wr W W' : World} {ka kb B : Nat} {S : List ByteArray} {i jb j : Nat} {wa : Option Addr} {wn wc : Nat} {ba : Option Addr} {bc : Nat} {ha : Option Addr} {hc : Nat}
theorem LnS.later (h : LnS wr W ka kb B S i jb j wa wn wc ba bc ha hc) (hb : Below W.heap.size W W') : LnS wr W' ka kb B S i jb j wa wn wc ba bc ha hc :=
  ⟨h.a.later hb, h.oa.later hb, h.b.later hb, h.ob.later hb, OwV.later h.h hb, h.na, h.nb, h.lt, hb.os.trans h.os, hb.tape.trans h.tape, hb.output.trans h.output, Nat.le_trans h.size hb.size, fun k h1 h2 h3 => (hb.block k (Nat.lt_of_lt_of_le h1 h.size)).trans (h.fr k h1 h2 h3)⟩
theorem LnS.far (h : LnS wr W ka kb B S i jb j wa wn wc ba bc ha hc) (q : Nat) (hq : Value.ownBlock (.slice ha j hc) = some q) : q ≠ ka ∧ q ≠ kb := by
  have h1 := (World.ownsRow.lt h.h q hq).1
  have h2 := h.lt
  omega
/-- The second link is put anew. -/
theorem LnS.hear {v0 : World} (h : LnS wr W ka kb B S i jb j wa wn wc ba bc ha hc) {jb' : Nat} {ba' : Option Addr} {bc' : Nat} (hs : wr.heap.size ≤ v0.heap.size) (hl : ∀ q, Value.ownBlock (.slice ha j hc) = some q → q < v0.heap.size) (ho : SlV W v0.heap.size ba' 0 bc' []) :
    LnS wr (putL W kb 3 (.slice ba' 0 bc') 1 ((jb' : Int) + 1)) ka kb B S i jb' j wa wn wc ba' bc' ha hc := by
  have g := putL_grown W kb 3 (.slice ba' 0 bc') 1 ((jb' : Int) + 1)
  have l := h.lt
  refine ⟨h.a.grown g (by simp; omega), SlV.off h.oa g (fun q hq e => (h.na q hq).2.1 (by simpa using e.symm)), h.b.put _ _ _ _, SlV.base (SlV.off ho g (fun q hq e => by have := (ho.2.2.2.2 q hq).1; simp at e; omega)) (by omega), own_off17 h.h g (fun q hq e => (h.far q hq).2 (by simpa using e.symm)), h.na, fun q hq => ?_, l, g.os.trans h.os, g.tape.trans h.tape, g.output.trans h.output, Nat.le_trans h.size g.size, fun k h1 h2 h3 => (g.block k (Nat.lt_of_lt_of_le h1 h.size) (by simpa using h3)).trans (h.fr k h1 h2 h3)⟩
  have h1 := (ho.2.2.2.2 q hq).1
  exact ⟨by omega, by omega, fun e => by have := hl q e; omega⟩
/-- The first link is put anew. -/
theorem LnS.ack {v0 : World} (h : LnS wr W ka kb B S i jb j wa wn wc ba bc ha hc) {i' : Nat} {wa' : Option Addr} {wn' wc' : Nat} (hs : wr.heap.size ≤ v0.heap.size) (hl : ∀ q, Value.ownBlock (.slice ha j hc) = some q → q < v0.heap.size) (ho : SlV W v0.heap.size wa' wn' wc' (S.drop i')) :
    LnS wr (putL W ka 3 (.slice wa' wn' wc') ((i' : Int) + 1) 1) ka kb B S i' jb j wa' wn' wc' ba bc ha hc := by
  have g := putL_grown W ka 3 (.slice wa' wn' wc') ((i' : Int) + 1) 1
  have l := h.lt
  refine ⟨h.a.put _ _ _ _, SlV.base (SlV.off ho g (fun q hq e => by have := (ho.2.2.2.2 q hq).1; simp at e; omega)) (by omega), h.b.grown g (by simp; omega), SlV.off h.ob g (fun q hq e => (h.nb q hq).1 (by simpa using e.symm)), own_off17 h.h g (fun q hq e => (h.far q hq).1 (by simpa using e.symm)), fun q hq => ?_, h.nb, l, g.os.trans h.os, g.tape.trans h.tape, g.output.trans h.output, Nat.le_trans h.size g.size, fun k h1 h2 h3 => (g.block k (Nat.lt_of_lt_of_le h1 h.size) (by simpa using h2)).trans (h.fr k h1 h2 h3)⟩
  have h1 := (ho.2.2.2.2 q hq).1
  exact ⟨by omega, by omega, fun e => by have := hl q e; omega⟩
/-- One text more is heard. -/
theorem LnS.more (h : LnS wr W ka kb B S i jb j wa wn wc ba bc ha hc) {T : ByteArray} {ha' : Option Addr} {hc' : Nat} (ho : OwV W' wr.heap.size (.slice ha' (j + 1) hc') (S.take (j + 1))) (hg : (W.alloc (.cells #[.string T] 9)).grownBy W' (Value.ownBlock (.slice ha j hc)))
    (h8 : Value.ownBlock (.slice ha' (j + 1) hc') = Value.ownBlock (.slice ha j hc) ∨ Value.ownBlock (.slice ha' (j + 1) hc') = some (W.alloc (.cells #[.string T] 9)).heap.size) (hlo : (∀ q, Value.ownBlock (.slice wa wn wc) = some q → q < W.heap.size) ∧ ∀ q, Value.ownBlock (.slice ba 0 bc) = some q → q < W.heap.size) :
    LnS wr W' ka kb B S i jb (j + 1) wa wn wc ba bc ha' hc' := by
  have x := h.later (bpush (bre W) (.cells #[.string T] 9))
  have hz : (W.alloc (.cells #[.string T] 9)).heap.size = W.heap.size + 1 := by simp
  refine ⟨x.a.grown hg (fun e => (h.far _ e.symm).1 rfl), SlV.off x.oa hg (fun q hq e => (h.na q hq).2.2 e), x.b.grown hg (fun e => (h.far _ e.symm).2 rfl), SlV.off x.ob hg (fun q hq e => (h.nb q hq).2.2 e), ho, fun q hq => ⟨(h.na q hq).1, (h.na q hq).2.1, fun e => ?_⟩, fun q hq => ⟨(h.nb q hq).1, (h.nb q hq).2.1, fun e => ?_⟩, h.lt, hg.os.trans x.os, hg.tape.trans x.tape, hg.output.trans x.output, Nat.le_trans x.size hg.size, fun k h1 h2 h3 => (hg.block k (Nat.lt_of_lt_of_le h1 x.size) (fun e => by have := (World.ownsRow.lt h.h k e.symm).1; omega)).trans (x.fr k h1 h2 h3)⟩
  · rcases h8 with h9 | h9
    · exact (h.na q hq).2.2 (h9.symm.trans e)
    · rw [h9, hz] at e; have := hlo.1 q hq; simp only [Option.some.injEq] at e; omega
  · rcases h8 with h9 | h9
    · exact (h.nb q hq).2.2 (h9.symm.trans e)
    · rw [h9, hz] at e; have := hlo.2 q hq; simp only [Option.some.injEq] at e; omega
end
theorem say_no {S : List ByteArray} {i : Nat} {x : Int} (h : S.length ≤ i) : sayN (S.drop i) x = 0 ∧ sayT (S.drop i) = ⟨#[]⟩ := by
  have e : S.drop i = [] := List.drop_eq_nil_of_le h
  rw [e]; exact ⟨rfl, rfl⟩
theorem say_yes {S : List ByteArray} {i : Nat} {x : Int} (h : i < S.length) : sayN (S.drop i) x = x ∧ sayT (S.drop i) = S[i]'h := by
  have e : S.drop i = S[i]'h :: S.drop (i + 1) := List.drop_eq_getElem_cons h
  rw [e]; exact ⟨(by unfold sayN; exact if_neg (by intro q; cases q)), rfl⟩
/-- What the second link hears of the first. -/
theorem hear_b {S : List ByteArray} {i j : Nat} (hij : i ≤ j ∧ j ≤ i + 1 ∧ j ≤ S.length ∧ j < 1000) : ∃ (ok : Bool) (j' : Nat) (T : ByteArray),
    hWay 3 1 [] 3 1 = [] ∧ hNext 3 1 [] 3 1 = 1 ∧ hWant 3 ((j : Int) + 1) 3 (sayN (S.drop i) ((i : Int) + 1)) = (j' : Int) + 1 ∧ hText 3 ((j : Int) + 1) 3 (sayN (S.drop i) ((i : Int) + 1)) (sayT (S.drop i)) = T ∧ hGot 3 ((j : Int) + 1) 3 (sayN (S.drop i) ((i : Int) + 1)) = ok ∧
    (ok = true → i = j ∧ j < S.length ∧ j' = j + 1 ∧ S.take j ++ [T] = S.take (j + 1)) ∧ (ok = false → j' = j ∧ (i < S.length → j = i + 1)) := by
  by_cases h : i < S.length
  · obtain ⟨e1, e2⟩ := say_yes (x := (i : Int) + 1) h
    rw [e1, e2]
    by_cases hj : i = j
    · subst hj
      have hg : hGot 3 ((i : Int) + 1) 3 ((i : Int) + 1) = true := by unfold hGot; simp; omega
      refine ⟨true, i + 1, S[i], rfl, rfl, ?_, ?_, hg, fun _ => ⟨rfl, h, rfl, (List.take_succ_eq_append_getElem h).symm⟩, fun e => by cases e⟩
      · unfold hWant; rw [if_pos hg]; unfold wrap64; omega
      · unfold hText; rw [if_pos hg]
    · have hg : hGot 3 ((j : Int) + 1) 3 ((i : Int) + 1) = false := by unfold hGot; simp; omega
      refine ⟨false, j, ⟨#[]⟩, rfl, rfl, ?_, ?_, hg, (fun e => by cases e), fun _ => ⟨rfl, fun _ => by omega⟩⟩
      · unfold hWant; rw [hg]; rfl
      · unfold hText; rw [hg]; rfl
  · obtain ⟨e1, e2⟩ := say_no (S := S) (i := i) (x := (i : Int) + 1) (by omega)
    rw [e1, e2]
    have hg : hGot 3 ((j : Int) + 1) 3 0 = false := by unfold hGot; simp
    refine ⟨false, j, ⟨#[]⟩, rfl, rfl, ?_, ?_, hg, (fun e => by cases e), fun _ => ⟨rfl, fun h' => absurd h' h⟩⟩
    · unfold hWant; rw [hg]; rfl
    · unfold hText; rw [hg]; rfl
/-- What the first link hears of the second. -/
theorem hear_a {S : List ByteArray} {i j : Nat} (hij : i ≤ j ∧ j ≤ i + 1 ∧ j ≤ S.length ∧ j < 1000) : ∃ i' : Nat,
    hWay 3 ((i : Int) + 1) (S.drop i) 3 ((j : Int) + 1) = S.drop i' ∧ hNext 3 ((i : Int) + 1) (S.drop i) 3 ((j : Int) + 1) = (i' : Int) + 1 ∧ hWant 3 1 3 0 = 1 ∧ hText 3 1 3 0 ⟨#[]⟩ = ⟨#[]⟩ ∧ hGot 3 1 3 0 = false ∧ i ≤ i' ∧ i' ≤ j ∧ j ≤ i' + 1 ∧ (j = i + 1 → i' = i + 1) := by
  have hg : hGot 3 1 3 0 = false := by decide
  by_cases h : j = i + 1
  · have hk : hAck 3 ((i : Int) + 1) (S.drop i) 3 ((j : Int) + 1) = true := by unfold hAck; simp; omega
    refine ⟨i + 1, ?_, ?_, ?_, ?_, hg, by omega, by omega, by omega, fun _ => rfl⟩
    · unfold hWay; rw [if_pos hk, List.tail_drop]
    · unfold hNext; rw [if_pos hk]; unfold wrap64; omega
    · unfold hWant; rw [hg]; rfl
    · unfold hText; rw [hg]; rfl
  · have hk : hAck 3 ((i : Int) + 1) (S.drop i) 3 ((j : Int) + 1) = false := by unfold hAck; simp; omega
    refine ⟨i, ?_, ?_, ?_, ?_, hg, by omega, by omega, by omega, fun e => absurd e h⟩
    · unfold hWay; rw [hk]; rfl
    · unfold hNext; rw [hk]; rfl
    · unfold hWant; rw [hg]; rfl
    · unfold hText; rw [hg]; rfl
/-- Small texts. -/
def Sm17 (S : List ByteArray) : Prop := S.length ≤ 4 ∧ ∀ x ∈ S, 1 ≤ x.size ∧ x.size ≤ 400
theorem Sm17.drop {S : List ByteArray} (h : Sm17 S) (i : Nat) : (S.drop i).length ≤ 4 ∧ ∀ x ∈ S.drop i, x.size ≤ 400 := ⟨by rw [List.length_drop]; have := h.1; omega, fun x hx => (h.2 x (List.mem_of_mem_drop hx)).2⟩
theorem Sm17.said {S : List ByteArray} (h : Sm17 S) (i : Nat) : (sayT (S.drop i)).size ≤ 400 := by
  unfold sayT
  cases hd : S.drop i with
  | nil => exact Nat.zero_le _
  | cons g L => exact (h.drop i).2 g (by rw [hd]; simp)
section
variable {wr W : World} {ka kb B : Nat} {S : List ByteArray} {i jb j : Nat} {wa : Option Addr} {wn wc : Nat} {ba : Option Addr} {bc : Nat} {ha : Option Addr} {hc : Nat}
theorem LnS.saysA (h : LnS wr W ka kb B S i jb j wa wn wc ba bc ha hc) (hS : Sm17 S) :
    Calls Try.prog 9 #[lkv 3 (.slice wa wn wc) ((i : Int) + 1) 1] W fun e w' => e = .returned (pkv 3 (sayN (S.drop i) ((i : Int) + 1)) 1 (sayT (S.drop i))) ∧ Below W.heap.size W w' :=
  implSays_any B W.heap.size 3 _ 1 wa wn wc (S.drop i) W h.oa.1 (by have := h.oa.1; have := (hS.drop i).1; omega) (fun x hx => by have := (hS.drop i).2 x hx; omega) h.oa.ss h.oa.2.1
theorem LnS.saysB (h : LnS wr W ka kb B S i jb j wa wn wc ba bc ha hc) :
    Calls Try.prog 9 #[lkv 3 (.slice ba 0 bc) 1 ((jb : Int) + 1)] W fun e w' => e = .returned (pkv 3 0 ((jb : Int) + 1) ⟨#[]⟩) ∧ Below W.heap.size W w' :=
  implSays_any B W.heap.size 3 1 _ ba 0 bc [] W h.ob.1 (by omega) (fun x hx => by cases hx) h.ob.ss h.ob.2.1
end
/-- What the second link makes of what the first one says. -/
theorem hearsB {S : List ByteArray} (hS : Sm17 S) {i jb : Nat} (hij : i ≤ jb ∧ jb ≤ i + 1 ∧ jb ≤ S.length) : ∃ (ok : Bool) (j' : Nat) (T : ByteArray),
    ((ok = true → i = jb ∧ jb < S.length ∧ j' = jb + 1 ∧ S.take jb ++ [T] = S.take (jb + 1) ∧ T.size ≤ 400) ∧ (ok = false → j' = jb ∧ (i < S.length → jb = i + 1))) ∧
    ∀ (wr W W' : World) (ka kb B j : Nat) (wa : Option Addr) (wn wc : Nat) (ba : Option Addr) (bc : Nat) (ha : Option Addr) (hc : Nat), LnS wr W ka kb B S i jb j wa wn wc ba bc ha hc → Below W.heap.size W W' →
      Calls Try.prog 10 #[lkv 3 (.slice ba 0 bc) 1 ((jb : Int) + 1), pkv 3 (sayN (S.drop i) ((i : Int) + 1)) 1 (sayT (S.drop i))] W' fun e w' => ∃ a' c', e = .returned (.tuple #[lkv 3 (.slice a' 0 c') 1 ((j' : Int) + 1), .string T, .bool ok]) ∧ SlV w' W'.heap.size a' 0 c' [] ∧ Below W'.heap.size W' w' := by
  have hl := hS.1
  obtain ⟨ok, j', T, e1, e2, e3, e4, e5, h1, h2⟩ := hear_b (S := S) (i := i) (j := jb) ⟨hij.1, hij.2.1, hij.2.2, by omega⟩
  refine ⟨ok, j', T, ⟨fun h => ?_, h2⟩, fun wr W W' ka kb B j wa wn wc ba bc ha hc h hb => ?_⟩
  · obtain ⟨r1, r2, r3, r4⟩ := h1 h
    refine ⟨r1, r2, r3, r4, ?_⟩
    have hm : T ∈ S.take (jb + 1) := by rw [← r4]; simp
    exact (hS.2 T (List.mem_of_mem_take hm)).2
  · have x := h.later hb
    have hc := implHearsS_any B W'.heap.size 3 1 ((jb : Int) + 1) ba 0 bc [] 3 (sayN (S.drop i) ((i : Int) + 1)) 1 (sayT (S.drop i)) W' x.ob.1 (by omega) (fun x hx => by cases hx) x.ob.ss x.ob.2.1 (by have := hS.said i; omega) (by omega) (by omega)
    rw [e1, e2, e3, e4, e5] at hc
    exact hc
/-- What the first link makes of what the second one says. -/
theorem hearsA {S : List ByteArray} (hS : Sm17 S) {i jb : Nat} (hij : i ≤ jb ∧ jb ≤ i + 1 ∧ jb ≤ S.length) : ∃ (i' n' : Nat),
    (i ≤ i' ∧ i' ≤ jb ∧ jb ≤ i' + 1 ∧ (jb = i + 1 → i' = i + 1) ∧ (S.drop i').length = n') ∧
    ∀ (wr W W' : World) (ka kb B j : Nat) (wa : Option Addr) (wn wc : Nat) (ba : Option Addr) (bc : Nat) (ha : Option Addr) (hc : Nat), LnS wr W ka kb B S i jb j wa wn wc ba bc ha hc → Below W.heap.size W W' →
      Calls Try.prog 10 #[lkv 3 (.slice wa wn wc) ((i : Int) + 1) 1, pkv 3 0 ((jb : Int) + 1) ⟨#[]⟩] W' fun e w' => ∃ a' c', e = .returned (.tuple #[lkv 3 (.slice a' n' c') ((i' : Int) + 1) 1, .string ⟨#[]⟩, .bool false]) ∧ SlV w' W'.heap.size a' n' c' (S.drop i') ∧ Below W'.heap.size W' w' := by
  have hl := hS.1
  obtain ⟨i', e1, e2, e3, e4, e5, h1, h2, h3, h4⟩ := hear_a (S := S) (i := i) (j := jb) ⟨hij.1, hij.2.1, hij.2.2, by omega⟩
  refine ⟨i', _, ⟨h1, h2, h3, h4, rfl⟩, fun wr W W' ka kb B j wa wn wc ba bc ha hc h hb => ?_⟩
  have x := h.later hb
  have hd := hS.drop i
  have hc := implHearsS_any B W'.heap.size 3 ((i : Int) + 1) 1 wa wn wc (S.drop i) 3 0 ((jb : Int) + 1) ⟨#[]⟩ W' x.oa.1 (by have := x.oa.1; omega) (fun x hx => by have := hd.2 x hx; omega) x.oa.ss x.oa.2.1 (Nat.zero_le _) (by omega) (by omega)
  rw [e1, e2, e3, e4, e5] at hc
  exact hc
set_option maxHeartbeats 800000 in
set_option maxRecDepth 100000 in
theorem same17_any (l1 h1 l2 h2 : Nat) (ao bo : Option Addr) (n ca cb : Nat) (G : List ByteArray) (w : World) (hl : G.length = n) (hn : n ≤ 1048576) (ha : Ss l1 h1 w ao G) (hb : Ss l2 h2 w bo G) :
    Calls Try.prog 11 #[.slice ao n ca, .slice bo n cb] w fun e w' => e = .returned (.bool true) ∧ Below w.heap.size w w' := by
  have hnn : ((n : Int) != (n : Int)) = false := by simp
  have HA := hid ha
  have HB := hid hb
  have HL := hid hl
  clear ha hb hl
  go_enter Try.func11, Try.ntmps11
  go_wp2
  clear hnn
  go_loopw [5] (fun iv wr => ∃ i : Nat, i ≤ n ∧ iv = .int .i64 (i : Int) ∧ Below w.heap.size w wr) (fun iv _ => n - (intOf iv).toNat)
  case atStart => exact ⟨0, Nat.zero_le _, rfl, bre _⟩
  case round =>
    obtain ⟨i, hi, rfl, hb⟩ := hrel
    have HBE := hid hb
    clear hb
    by_cases hlt : i < n
    · have hil : i < G.length := by rw [HL.out]; exact hlt
      obtain ⟨k, o, rfl, hk, c⟩ := (HA.out.later HBE.out).at hil
      obtain ⟨k', o', rfl, hk', d⟩ := (HB.out.later HBE.out).at hil
      obtain ⟨x, hx⟩ : ∃ x, G[i] = x := ⟨_, rfl⟩
      rw [hx] at c d
      clear hx
      have hI : (0 : Int) ≤ (i : Int) ∧ (i : Int) < (n : Int) := by omega
      have hxx : (!x.toList == x.toList) = false := by simp
      go_wp2_with fail
      go_quiet (fail)
      go_wp2
      go_roundw
      case rel => exact ⟨i + 1, by omega, by go_num, bdn HBE.out _⟩
      case measure => simp [intOf]; omega
    · go_wp2
      go_ret
      exact ⟨rfl, HBE.out⟩
theorem Ss.take17 {lo hi : Nat} {W : World} {a : Option Addr} {G : List ByteArray} (h : Ss lo hi W a G) (j : Nat) : Ss lo hi W a (G.take j) := by
  refine ⟨h.1, fun i hi' => ?_⟩
  have hl : i < G.length := by rw [List.length_take] at hi'; omega
  obtain ⟨k, o, e, h1, h2, h3⟩ := h.2 i hl
  exact ⟨k, o, e, h1, h2, by rw [h3, List.getElem_take]⟩
end Go.Proofs.Ytchdempffkeaoaa
