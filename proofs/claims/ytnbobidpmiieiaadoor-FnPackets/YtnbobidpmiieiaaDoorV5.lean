/- K7g, K7h. -/
import Derived.Test.YtnbobidpmiieiaaDoorV4
namespace Go.Proofs.YtnbobidpmiieiaaDoor
open Go.RowKit Go.ChangeMaps
/-- The first that is on its way has come. -/
def hAck (ep nx : Int) (G : List ByteArray) (e a : Int) : Bool := decide (e = ep) && (decide (0 < G.length) && (decide (1 < a) && decide (a - 1 = nx)))
/-- What comes is what is next. -/
def hGot (ep wt e s : Int) : Bool := decide (e = ep) && (decide (s ≠ 0) && decide (s = wt))
def hWay (ep nx : Int) (G : List ByteArray) (e a : Int) : List ByteArray := if hAck ep nx G e a = true then G.tail else G
def hNext (ep nx : Int) (G : List ByteArray) (e a : Int) : Int := if hAck ep nx G e a = true then wrap64 (nx + 1) else nx
def hWant (ep wt e s : Int) : Int := if hGot ep wt e s = true then wrap64 (wt + 1) else wt
def hText (ep wt e s : Int) (t : ByteArray) : ByteArray := if hGot ep wt e s = true then t else ⟨#[]⟩
theorem hWay_len (ep nx : Int) (G : List ByteArray) (e a : Int) : (hWay ep nx G e a).length ≤ G.length := by unfold hWay; split <;> simp
theorem own_at17 {W : World} {B n c : Nat} {a : Option Addr} {G : List ByteArray} (h : OwV W B (.slice a n c) G) (hn : 0 < G.length) : ∃ g, a = some ⟨g, 0, none⟩ ∧ n ≤ c ∧ ∀ i (hi : i < G.length), W.cell? ⟨g, i, none⟩ = some (.string G[i]) := by
  have hs := (OwV.is h).2
  rcases h.2 with ⟨_, h2⟩ | ⟨g, cap, cur, h1, _, _, h4, _⟩
  · omega
  · simp only [Value.slice.injEq] at h1
    obtain ⟨rfl, rfl, rfl⟩ := h1
    refine ⟨g, rfl, h4, fun i hi => ?_⟩
    obtain ⟨k, o, e, _, hc⟩ := hs.at hi
    simp only [Option.some.injEq, Addr.mk.injEq, and_true] at e
    obtain ⟨rfl, rfl⟩ := e
    simpa using hc
set_option maxHeartbeats 1600000 in
set_option maxRecDepth 100000 in
theorem specHear_any (B k : Nat) (ep nx wt : Int) (ga : Option Addr) (gn gc : Nat) (G : List ByteArray) (e s a : Int) (t : ByteArray) (w : World) (hgl : G.length = gn) (hgn : gn ≤ 1048576) (hx : Lk w k 34 ep (.slice ga gn gc) nx wt) (hown : OwV w B (.slice ga gn gc) G) (hB : B ≤ w.heap.size) (hk : ∀ j, Value.ownBlock (.slice ga gn gc) = some j → j ≠ k) (ha : 0 - 9223372036854775808 ≤ a ∧ a ≤ 9223372036854775807) :
    Calls Tryd.prog 40 #[.pointer (some ⟨k, 0, none⟩), pkv e s a t] w fun ex w' => ex = .returned (.tuple #[.string (hText ep wt e s t), .bool (hGot ep wt e s)]) ∧ w.grownBy w' (some k) ∧ ∃ a' c', Lk w' k 34 ep (.slice a' (hWay ep nx G e a).length c') (hNext ep nx G e a) (hWant ep wt e s) ∧ OwV w' B (.slice a' (hWay ep nx G e a).length c') (hWay ep nx G e a) ∧ (∀ j, Value.ownBlock (.slice a' (hWay ep nx G e a).length c') = some j → j ≠ k) := by
  obtain ⟨W0, hW0⟩ : ∃ W0, w.alloc (.cells #[.int .i64 e, .int .i64 s, .int .i64 a, .string t] 25) = W0 := ⟨_, rfl⟩
  have b0 : Below w.heap.size w W0 := by subst hW0; exact bpush (bre _) _
  have x0 : Pk W0 w.heap.size 25 e s a t := by subst hW0; exact Pk.new _ _ _ _ _ _
  have hkw : k < w.heap.size := hx.lt
  have X0 := hid x0
  have L0 := hid (hx.later b0)
  have O0 := hid (OwV.later hown b0)
  have B0 : Hid (w.grownBy W0 (some k)) := hid (gof _ b0)
  obtain ⟨T, hT⟩ : ∃ T, hText ep wt e s t = T := ⟨_, rfl⟩
  obtain ⟨Y, hY⟩ : ∃ Y, hGot ep wt e s = Y := ⟨_, rfl⟩
  obtain ⟨L, hL⟩ : ∃ L, hWay ep nx G e a = L := ⟨_, rfl⟩
  obtain ⟨N, hN⟩ : ∃ N, hNext ep nx G e a = N := ⟨_, rfl⟩
  obtain ⟨M, hM⟩ : ∃ M, hWant ep wt e s = M := ⟨_, rfl⟩
  rw [hT, hY, hL, hN, hM]
  have HT := hid hT
  have HY := hid hY
  have HL := hid hL
  have HN := hid hN
  have HM := hid hM
  have HGL := hid hgl
  have HGN := hid hgn
  have HKW := hid hkw
  have HK := hid hk
  have HBB := hid hB
  have c0 := x0.cells
  have c1 := L0.out.cells
  have f1 := L0.out.loose
  have HW := hid hW0
  clear hx hown hk hB x0 b0 hT hY hL hN hM hgl hgn hW0
  by_cases he : e = ep
  rotate_left
  · have e1 : (e != ep) = true := by simpa using he
    go_enter Tryd.func40, Tryd.ntmps40
    go_upto_region 1 with fail
    rw [HW.out]
    refine wp_region_noPanic ?_
    refine wp_region_held_drew (S := (fun W => (W.cell? ⟨w.heap.size, 0, none⟩ = some (.int .i64 e) ∧ W.cell? ⟨w.heap.size, 1, none⟩ = some (.int .i64 s) ∧ W.cell? ⟨w.heap.size, 2, none⟩ = some (.int .i64 a) ∧ W.cell? ⟨w.heap.size, 3, none⟩ = some (.string t)) ∧ (W.cell? ⟨k, 0, none⟩ = some (.int .i64 ep) ∧ W.cell? ⟨k, 1, none⟩ = some (.slice ga gn gc) ∧ W.cell? ⟨k, 2, none⟩ = some (.int .i64 (nx)) ∧ W.cell? ⟨k, 3, none⟩ = some (.int .i64 wt)))) (by kernel_rfl) ⟨X0.out.cells, L0.out.cells⟩ (fun hHeld => ?_)
    obtain ⟨v1, hv1⟩ : ∃ x, W0.drew = x := ⟨_, rfl⟩
    replace X0 := hid (X0.out.later (bdr (bre _)))
    replace L0 := hid (L0.out.later (bdr (bre _)))
    replace O0 := hid (OwV.later O0.out (bdr (bre _)))
    replace B0 := hid (wtr B0.out (gof _ (bdr (bre _))))
    rw [hv1] at X0 L0 O0 B0 hHeld
    rw [hv1]
    clear hv1
    refine tk 0 ?_
    refine tk 1 ?_
    refine tk 2 ?_
    refine tk 3 ?_
    refine tk 4 ?_
    refine tk 5 ?_
    refine tk 6 ?_
    clear hHeld
    refine wpAnyH_done (by kernel_rfl) ?_ _
    refine NoPanic.normal ?_
    have c0 := X0.out.cells
    have c1 := L0.out.cells
    have f1 := L0.out.loose
    go_wp2
    have hA : hAck ep nx G e a = false := by unfold hAck; simp [he]
    have hG : hGot ep wt e s = false := by unfold hGot; simp [he]
    obtain rfl : ⟨#[]⟩ = T := by rw [← HT.out]; unfold hText; rw [hG]; rfl
    obtain rfl : false = Y := by rw [← HY.out, hG]
    obtain rfl : G = L := by rw [← HL.out]; unfold hWay; rw [hA]; rfl
    obtain rfl : nx = N := by rw [← HN.out]; unfold hNext; rw [hA]; rfl
    obtain rfl : wt = M := by rw [← HM.out]; unfold hWant; rw [hG]; rfl
    obtain rfl := HGL.out
    refine bodyPost_ret (v := .tuple #[.string ⟨#[]⟩, .bool false]) (by simp [results, Tryd.results40, go_sem]) rfl ⟨rfl, B0.out, ga, gc, L0.out, O0.out, HK.out⟩
  have e1 : (e != ep) = false := by simp [he]
  have HE := hid he
  clear he
  go_enter Tryd.func40, Tryd.ntmps40
  go_upto_region 1 with fail
  rw [HW.out]
  refine wp_region_noPanic ?_
  refine wp_region_held_drew (S := (fun W => (W.cell? ⟨w.heap.size, 0, none⟩ = some (.int .i64 e) ∧ W.cell? ⟨w.heap.size, 1, none⟩ = some (.int .i64 s) ∧ W.cell? ⟨w.heap.size, 2, none⟩ = some (.int .i64 a) ∧ W.cell? ⟨w.heap.size, 3, none⟩ = some (.string t)) ∧ (W.cell? ⟨k, 0, none⟩ = some (.int .i64 ep) ∧ W.cell? ⟨k, 1, none⟩ = some (.slice ga gn gc) ∧ W.cell? ⟨k, 2, none⟩ = some (.int .i64 (nx)) ∧ W.cell? ⟨k, 3, none⟩ = some (.int .i64 wt)))) (by kernel_rfl) ⟨X0.out.cells, L0.out.cells⟩ (fun hHeld => ?_)
  obtain ⟨v2, hv2⟩ : ∃ x, W0.drew = x := ⟨_, rfl⟩
  replace X0 := hid (X0.out.later (bdr (bre _)))
  replace L0 := hid (L0.out.later (bdr (bre _)))
  replace O0 := hid (OwV.later O0.out (bdr (bre _)))
  replace B0 := hid (wtr B0.out (gof _ (bdr (bre _))))
  rw [hv2] at X0 L0 O0 B0 hHeld
  rw [hv2]
  clear hv2
  refine tk 0 ?_
  refine tk 1 ?_
  refine tk 2 ?_
  refine tk 3 ?_
  refine tk 4 ?_
  refine tk 5 ?_
  refine tk 6 ?_
  clear hHeld
  refine wpAnyH_done (by kernel_rfl) ?_ _
  refine NoPanic.normal ?_
  have c0 := X0.out.cells
  have c1 := L0.out.cells
  have f1 := L0.out.loose
  go_upto_region 3 with fail
  by_cases hn : ¬ 0 < gn
  · have hA : hAck ep nx G e a = false := by have h := HGL.out; unfold hAck; rw [h]; simp; omega
    refine wp_region_noPanic ?_
    refine wp_region_held_drew (S := (fun W => (W.cell? ⟨w.heap.size, 0, none⟩ = some (.int .i64 e) ∧ W.cell? ⟨w.heap.size, 1, none⟩ = some (.int .i64 s) ∧ W.cell? ⟨w.heap.size, 2, none⟩ = some (.int .i64 a) ∧ W.cell? ⟨w.heap.size, 3, none⟩ = some (.string t)) ∧ (W.cell? ⟨k, 0, none⟩ = some (.int .i64 ep) ∧ W.cell? ⟨k, 1, none⟩ = some (.slice ga gn gc) ∧ W.cell? ⟨k, 2, none⟩ = some (.int .i64 (nx)) ∧ W.cell? ⟨k, 3, none⟩ = some (.int .i64 wt)))) (by kernel_rfl) ⟨X0.out.cells, L0.out.cells⟩ (fun hHeld => ?_)
    obtain ⟨v3, hv3⟩ : ∃ x, v2.drew = x := ⟨_, rfl⟩
    replace X0 := hid (X0.out.later (bdr (bre _)))
    replace L0 := hid (L0.out.later (bdr (bre _)))
    replace O0 := hid (OwV.later O0.out (bdr (bre _)))
    replace B0 := hid (wtr B0.out (gof _ (bdr (bre _))))
    rw [hv3] at X0 L0 O0 B0 hHeld
    rw [hv3]
    clear hv3
    refine tk 0 ?_
    refine tk 1 ?_
    refine tk 2 ?_
    refine tk 3 ?_
    refine tk 4 ?_
    refine tk 5 ?_
    refine tk 6 ?_
    refine tn 7 ?_
    refine tn 8 ?_
    refine tn 9 ?_
    refine tk 10 ?_
    refine tk 11 ?_
    refine tn 12 ?_
    refine tn 13 ?_
    refine tn 14 ?_
    refine tn 15 ?_
    refine tn 16 ?_
    refine tn 17 ?_
    refine tn 18 ?_
    refine tn 19 ?_
    refine tk 20 ?_
    clear hHeld
    refine wpAnyH_done (by kernel_rfl) ?_ _
    refine NoPanic.normal ?_
    have c0 := X0.out.cells
    have c1 := L0.out.cells
    have f1 := L0.out.loose
    go_upto_region 6 with fail
    by_cases hs0 : s = 0
    · have z1 : (s == 0) = true := by simp [hs0]
      have hG : hGot ep wt e s = false := by unfold hGot; simp [hs0]
      clear hs0
      refine wp_region_noPanic ?_
      refine wp_region_held_drew (S := (fun W => (W.cell? ⟨w.heap.size, 0, none⟩ = some (.int .i64 e) ∧ W.cell? ⟨w.heap.size, 1, none⟩ = some (.int .i64 s) ∧ W.cell? ⟨w.heap.size, 2, none⟩ = some (.int .i64 a) ∧ W.cell? ⟨w.heap.size, 3, none⟩ = some (.string t)) ∧ (W.cell? ⟨k, 0, none⟩ = some (.int .i64 ep) ∧ W.cell? ⟨k, 1, none⟩ = some (.slice ga gn gc) ∧ W.cell? ⟨k, 2, none⟩ = some (.int .i64 (nx)) ∧ W.cell? ⟨k, 3, none⟩ = some (.int .i64 wt)))) (by kernel_rfl) ⟨X0.out.cells, L0.out.cells⟩ (fun hHeld => ?_)
      obtain ⟨v4, hv4⟩ : ∃ x, v3.drew = x := ⟨_, rfl⟩
      replace X0 := hid (X0.out.later (bdr (bre _)))
      replace L0 := hid (L0.out.later (bdr (bre _)))
      replace O0 := hid (OwV.later O0.out (bdr (bre _)))
      replace B0 := hid (wtr B0.out (gof _ (bdr (bre _))))
      rw [hv4] at X0 L0 O0 B0 hHeld
      rw [hv4]
      clear hv4
      refine tk 0 ?_
      refine tk 1 ?_
      refine tk 2 ?_
      refine tk 3 ?_
      refine tn 4 ?_
      refine tn 5 ?_
      refine tn 6 ?_
      refine tn 7 ?_
      refine tn 8 ?_
      refine tn 9 ?_
      refine tn 10 ?_
      refine tk 11 ?_
      clear hHeld
      refine wpAnyH_done (by kernel_rfl) ?_ _
      refine NoPanic.normal ?_
      have c0 := X0.out.cells
      have c1 := L0.out.cells
      have f1 := L0.out.loose
      go_wp2
      obtain rfl : ⟨#[]⟩ = T := by rw [← HT.out]; unfold hText; rw [hG]; rfl
      obtain rfl : false = Y := by rw [← HY.out, hG]
      obtain rfl : G = L := by rw [← HL.out]; unfold hWay; rw [hA]; rfl
      obtain rfl : nx = N := by rw [← HN.out]; unfold hNext; rw [hA]; rfl
      obtain rfl : wt = M := by rw [← HM.out]; unfold hWant; rw [hG]; rfl
      obtain rfl := HGL.out
      refine bodyPost_ret (v := .tuple #[.string ⟨#[]⟩, .bool false]) (by simp [results, Tryd.results40, go_sem]) rfl ⟨rfl, B0.out, ga, gc, L0.out, O0.out, HK.out⟩
    have z1 : (s == 0) = false := by simpa using hs0
    by_cases hsw : s = wt
    rotate_left
    · have e2 : (s != wt) = true := by simpa using hsw
      refine wp_region_noPanic ?_
      refine wp_region_held_drew (S := (fun W => (W.cell? ⟨w.heap.size, 0, none⟩ = some (.int .i64 e) ∧ W.cell? ⟨w.heap.size, 1, none⟩ = some (.int .i64 s) ∧ W.cell? ⟨w.heap.size, 2, none⟩ = some (.int .i64 a) ∧ W.cell? ⟨w.heap.size, 3, none⟩ = some (.string t)) ∧ (W.cell? ⟨k, 0, none⟩ = some (.int .i64 ep) ∧ W.cell? ⟨k, 1, none⟩ = some (.slice ga gn gc) ∧ W.cell? ⟨k, 2, none⟩ = some (.int .i64 (nx)) ∧ W.cell? ⟨k, 3, none⟩ = some (.int .i64 wt)))) (by kernel_rfl) ⟨X0.out.cells, L0.out.cells⟩ (fun hHeld => ?_)
      obtain ⟨v5, hv5⟩ : ∃ x, v3.drew = x := ⟨_, rfl⟩
      replace X0 := hid (X0.out.later (bdr (bre _)))
      replace L0 := hid (L0.out.later (bdr (bre _)))
      replace O0 := hid (OwV.later O0.out (bdr (bre _)))
      replace B0 := hid (wtr B0.out (gof _ (bdr (bre _))))
      rw [hv5] at X0 L0 O0 B0 hHeld
      rw [hv5]
      clear hv5
      refine tk 0 ?_
      refine tk 1 ?_
      refine tk 2 ?_
      refine tk 3 ?_
      refine tk 4 ?_
      refine tk 5 ?_
      refine tk 6 ?_
      refine tk 7 ?_
      refine tk 8 ?_
      refine tk 9 ?_
      refine tk 10 ?_
      refine tk 11 ?_
      clear hHeld
      refine wpAnyH_done (by kernel_rfl) ?_ _
      refine NoPanic.normal ?_
      have c0 := X0.out.cells
      have c1 := L0.out.cells
      have f1 := L0.out.loose
      go_wp2
      have hG : hGot ep wt e s = false := by unfold hGot; simp [hsw]
      obtain rfl : ⟨#[]⟩ = T := by rw [← HT.out]; unfold hText; rw [hG]; rfl
      obtain rfl : false = Y := by rw [← HY.out, hG]
      obtain rfl : G = L := by rw [← HL.out]; unfold hWay; rw [hA]; rfl
      obtain rfl : nx = N := by rw [← HN.out]; unfold hNext; rw [hA]; rfl
      obtain rfl : wt = M := by rw [← HM.out]; unfold hWant; rw [hG]; rfl
      obtain rfl := HGL.out
      refine bodyPost_ret (v := .tuple #[.string ⟨#[]⟩, .bool false]) (by simp [results, Tryd.results40, go_sem]) rfl ⟨rfl, B0.out, ga, gc, L0.out, O0.out, HK.out⟩
    subst hsw
    have e2 : (s != s) = false := by simp
    refine wp_region_noPanic ?_
    refine wp_region_held_drew (S := (fun W => (W.cell? ⟨w.heap.size, 0, none⟩ = some (.int .i64 e) ∧ W.cell? ⟨w.heap.size, 1, none⟩ = some (.int .i64 s) ∧ W.cell? ⟨w.heap.size, 2, none⟩ = some (.int .i64 a) ∧ W.cell? ⟨w.heap.size, 3, none⟩ = some (.string t)) ∧ (W.cell? ⟨k, 0, none⟩ = some (.int .i64 ep) ∧ W.cell? ⟨k, 1, none⟩ = some (.slice ga gn gc) ∧ W.cell? ⟨k, 2, none⟩ = some (.int .i64 (nx)) ∧ W.cell? ⟨k, 3, none⟩ = some (.int .i64 s)))) (by kernel_rfl) ⟨X0.out.cells, L0.out.cells⟩ (fun hHeld => ?_)
    obtain ⟨v6, hv6⟩ : ∃ x, v3.drew = x := ⟨_, rfl⟩
    replace X0 := hid (X0.out.later (bdr (bre _)))
    replace L0 := hid (L0.out.later (bdr (bre _)))
    replace O0 := hid (OwV.later O0.out (bdr (bre _)))
    replace B0 := hid (wtr B0.out (gof _ (bdr (bre _))))
    rw [hv6] at X0 L0 O0 B0 hHeld
    rw [hv6]
    clear hv6
    refine tk 0 ?_
    refine tk 1 ?_
    refine tk 2 ?_
    refine tk 3 ?_
    refine tk 4 ?_
    refine tk 5 ?_
    refine tk 6 ?_
    refine tk 7 ?_
    refine tk 8 ?_
    refine tk 9 ?_
    refine tk 10 ?_
    refine tk 11 ?_
    clear hHeld
    refine wpAnyH_done (by kernel_rfl) ?_ _
    refine NoPanic.normal ?_
    have c0 := X0.out.cells
    have c1 := L0.out.cells
    have f1 := L0.out.loose
    go_wp2
    have hG : hGot ep s e s = true := by unfold hGot; simp [hs0, HE.out]
    obtain rfl : t = T := by rw [← HT.out]; unfold hText; rw [hG]; rfl
    obtain rfl : true = Y := by rw [← HY.out, hG]
    obtain rfl : G = L := by rw [← HL.out]; unfold hWay; rw [hA]; rfl
    obtain rfl : nx = N := by rw [← HN.out]; unfold hNext; rw [hA]; rfl
    obtain rfl : wrap64 (s + 1) = M := by rw [← HM.out]; unfold hWant; rw [hG]; rfl
    obtain rfl := HGL.out
    have g2 := wst (wre v6 (some k)) 3 (.int .i64 (wrap64 (s + 1)))
    refine bodyPost_ret (v := .tuple #[.string t, .bool true]) (by simp [results, Tryd.results40, go_sem]) rfl ⟨rfl, wtr B0.out g2, ga, gc, L0.out.s3 _, own_off17 O0.out g2 (fun j hj e => HK.out j hj (by simpa using e.symm)), HK.out⟩
  replace hn := Decidable.not_not.1 hn
  by_cases h1a : (1 : Int) < a
  rotate_left
  · have hA : hAck ep nx G e a = false := by unfold hAck; simp [h1a]
    refine wp_region_noPanic ?_
    refine wp_region_held_drew (S := (fun W => (W.cell? ⟨w.heap.size, 0, none⟩ = some (.int .i64 e) ∧ W.cell? ⟨w.heap.size, 1, none⟩ = some (.int .i64 s) ∧ W.cell? ⟨w.heap.size, 2, none⟩ = some (.int .i64 a) ∧ W.cell? ⟨w.heap.size, 3, none⟩ = some (.string t)) ∧ (W.cell? ⟨k, 0, none⟩ = some (.int .i64 ep) ∧ W.cell? ⟨k, 1, none⟩ = some (.slice ga gn gc) ∧ W.cell? ⟨k, 2, none⟩ = some (.int .i64 (nx)) ∧ W.cell? ⟨k, 3, none⟩ = some (.int .i64 wt)))) (by kernel_rfl) ⟨X0.out.cells, L0.out.cells⟩ (fun hHeld => ?_)
    obtain ⟨v7, hv7⟩ : ∃ x, v2.drew = x := ⟨_, rfl⟩
    replace X0 := hid (X0.out.later (bdr (bre _)))
    replace L0 := hid (L0.out.later (bdr (bre _)))
    replace O0 := hid (OwV.later O0.out (bdr (bre _)))
    replace B0 := hid (wtr B0.out (gof _ (bdr (bre _))))
    rw [hv7] at X0 L0 O0 B0 hHeld
    rw [hv7]
    clear hv7
    refine tk 0 ?_
    refine tk 1 ?_
    refine tk 2 ?_
    refine tk 3 ?_
    refine tk 4 ?_
    refine tk 5 ?_
    refine tk 6 ?_
    refine tk 7 ?_
    refine tk 8 ?_
    refine tk 9 ?_
    refine tk 10 ?_
    refine tk 11 ?_
    refine tn 12 ?_
    refine tn 13 ?_
    refine tn 14 ?_
    refine tn 15 ?_
    refine tn 16 ?_
    refine tn 17 ?_
    refine tn 18 ?_
    refine tn 19 ?_
    refine tk 20 ?_
    clear hHeld
    refine wpAnyH_done (by kernel_rfl) ?_ _
    refine NoPanic.normal ?_
    have c0 := X0.out.cells
    have c1 := L0.out.cells
    have f1 := L0.out.loose
    go_upto_region 6 with fail
    by_cases hs0 : s = 0
    · have z1 : (s == 0) = true := by simp [hs0]
      have hG : hGot ep wt e s = false := by unfold hGot; simp [hs0]
      clear hs0
      refine wp_region_noPanic ?_
      refine wp_region_held_drew (S := (fun W => (W.cell? ⟨w.heap.size, 0, none⟩ = some (.int .i64 e) ∧ W.cell? ⟨w.heap.size, 1, none⟩ = some (.int .i64 s) ∧ W.cell? ⟨w.heap.size, 2, none⟩ = some (.int .i64 a) ∧ W.cell? ⟨w.heap.size, 3, none⟩ = some (.string t)) ∧ (W.cell? ⟨k, 0, none⟩ = some (.int .i64 ep) ∧ W.cell? ⟨k, 1, none⟩ = some (.slice ga gn gc) ∧ W.cell? ⟨k, 2, none⟩ = some (.int .i64 (nx)) ∧ W.cell? ⟨k, 3, none⟩ = some (.int .i64 wt)))) (by kernel_rfl) ⟨X0.out.cells, L0.out.cells⟩ (fun hHeld => ?_)
      obtain ⟨v8, hv8⟩ : ∃ x, v7.drew = x := ⟨_, rfl⟩
      replace X0 := hid (X0.out.later (bdr (bre _)))
      replace L0 := hid (L0.out.later (bdr (bre _)))
      replace O0 := hid (OwV.later O0.out (bdr (bre _)))
      replace B0 := hid (wtr B0.out (gof _ (bdr (bre _))))
      rw [hv8] at X0 L0 O0 B0 hHeld
      rw [hv8]
      clear hv8
      refine tk 0 ?_
      refine tk 1 ?_
      refine tk 2 ?_
      refine tk 3 ?_
      refine tn 4 ?_
      refine tn 5 ?_
      refine tn 6 ?_
      refine tn 7 ?_
      refine tn 8 ?_
      refine tn 9 ?_
      refine tn 10 ?_
      refine tk 11 ?_
      clear hHeld
      refine wpAnyH_done (by kernel_rfl) ?_ _
      refine NoPanic.normal ?_
      have c0 := X0.out.cells
      have c1 := L0.out.cells
      have f1 := L0.out.loose
      go_wp2
      obtain rfl : ⟨#[]⟩ = T := by rw [← HT.out]; unfold hText; rw [hG]; rfl
      obtain rfl : false = Y := by rw [← HY.out, hG]
      obtain rfl : G = L := by rw [← HL.out]; unfold hWay; rw [hA]; rfl
      obtain rfl : nx = N := by rw [← HN.out]; unfold hNext; rw [hA]; rfl
      obtain rfl : wt = M := by rw [← HM.out]; unfold hWant; rw [hG]; rfl
      obtain rfl := HGL.out
      refine bodyPost_ret (v := .tuple #[.string ⟨#[]⟩, .bool false]) (by simp [results, Tryd.results40, go_sem]) rfl ⟨rfl, B0.out, ga, gc, L0.out, O0.out, HK.out⟩
    have z1 : (s == 0) = false := by simpa using hs0
    by_cases hsw : s = wt
    rotate_left
    · have e2 : (s != wt) = true := by simpa using hsw
      refine wp_region_noPanic ?_
      refine wp_region_held_drew (S := (fun W => (W.cell? ⟨w.heap.size, 0, none⟩ = some (.int .i64 e) ∧ W.cell? ⟨w.heap.size, 1, none⟩ = some (.int .i64 s) ∧ W.cell? ⟨w.heap.size, 2, none⟩ = some (.int .i64 a) ∧ W.cell? ⟨w.heap.size, 3, none⟩ = some (.string t)) ∧ (W.cell? ⟨k, 0, none⟩ = some (.int .i64 ep) ∧ W.cell? ⟨k, 1, none⟩ = some (.slice ga gn gc) ∧ W.cell? ⟨k, 2, none⟩ = some (.int .i64 (nx)) ∧ W.cell? ⟨k, 3, none⟩ = some (.int .i64 wt)))) (by kernel_rfl) ⟨X0.out.cells, L0.out.cells⟩ (fun hHeld => ?_)
      obtain ⟨v9, hv9⟩ : ∃ x, v7.drew = x := ⟨_, rfl⟩
      replace X0 := hid (X0.out.later (bdr (bre _)))
      replace L0 := hid (L0.out.later (bdr (bre _)))
      replace O0 := hid (OwV.later O0.out (bdr (bre _)))
      replace B0 := hid (wtr B0.out (gof _ (bdr (bre _))))
      rw [hv9] at X0 L0 O0 B0 hHeld
      rw [hv9]
      clear hv9
      refine tk 0 ?_
      refine tk 1 ?_
      refine tk 2 ?_
      refine tk 3 ?_
      refine tk 4 ?_
      refine tk 5 ?_
      refine tk 6 ?_
      refine tk 7 ?_
      refine tk 8 ?_
      refine tk 9 ?_
      refine tk 10 ?_
      refine tk 11 ?_
      clear hHeld
      refine wpAnyH_done (by kernel_rfl) ?_ _
      refine NoPanic.normal ?_
      have c0 := X0.out.cells
      have c1 := L0.out.cells
      have f1 := L0.out.loose
      go_wp2
      have hG : hGot ep wt e s = false := by unfold hGot; simp [hsw]
      obtain rfl : ⟨#[]⟩ = T := by rw [← HT.out]; unfold hText; rw [hG]; rfl
      obtain rfl : false = Y := by rw [← HY.out, hG]
      obtain rfl : G = L := by rw [← HL.out]; unfold hWay; rw [hA]; rfl
      obtain rfl : nx = N := by rw [← HN.out]; unfold hNext; rw [hA]; rfl
      obtain rfl : wt = M := by rw [← HM.out]; unfold hWant; rw [hG]; rfl
      obtain rfl := HGL.out
      refine bodyPost_ret (v := .tuple #[.string ⟨#[]⟩, .bool false]) (by simp [results, Tryd.results40, go_sem]) rfl ⟨rfl, B0.out, ga, gc, L0.out, O0.out, HK.out⟩
    subst hsw
    have e2 : (s != s) = false := by simp
    refine wp_region_noPanic ?_
    refine wp_region_held_drew (S := (fun W => (W.cell? ⟨w.heap.size, 0, none⟩ = some (.int .i64 e) ∧ W.cell? ⟨w.heap.size, 1, none⟩ = some (.int .i64 s) ∧ W.cell? ⟨w.heap.size, 2, none⟩ = some (.int .i64 a) ∧ W.cell? ⟨w.heap.size, 3, none⟩ = some (.string t)) ∧ (W.cell? ⟨k, 0, none⟩ = some (.int .i64 ep) ∧ W.cell? ⟨k, 1, none⟩ = some (.slice ga gn gc) ∧ W.cell? ⟨k, 2, none⟩ = some (.int .i64 (nx)) ∧ W.cell? ⟨k, 3, none⟩ = some (.int .i64 s)))) (by kernel_rfl) ⟨X0.out.cells, L0.out.cells⟩ (fun hHeld => ?_)
    obtain ⟨v10, hv10⟩ : ∃ x, v7.drew = x := ⟨_, rfl⟩
    replace X0 := hid (X0.out.later (bdr (bre _)))
    replace L0 := hid (L0.out.later (bdr (bre _)))
    replace O0 := hid (OwV.later O0.out (bdr (bre _)))
    replace B0 := hid (wtr B0.out (gof _ (bdr (bre _))))
    rw [hv10] at X0 L0 O0 B0 hHeld
    rw [hv10]
    clear hv10
    refine tk 0 ?_
    refine tk 1 ?_
    refine tk 2 ?_
    refine tk 3 ?_
    refine tk 4 ?_
    refine tk 5 ?_
    refine tk 6 ?_
    refine tk 7 ?_
    refine tk 8 ?_
    refine tk 9 ?_
    refine tk 10 ?_
    refine tk 11 ?_
    clear hHeld
    refine wpAnyH_done (by kernel_rfl) ?_ _
    refine NoPanic.normal ?_
    have c0 := X0.out.cells
    have c1 := L0.out.cells
    have f1 := L0.out.loose
    go_wp2
    have hG : hGot ep s e s = true := by unfold hGot; simp [hs0, HE.out]
    obtain rfl : t = T := by rw [← HT.out]; unfold hText; rw [hG]; rfl
    obtain rfl : true = Y := by rw [← HY.out, hG]
    obtain rfl : G = L := by rw [← HL.out]; unfold hWay; rw [hA]; rfl
    obtain rfl : nx = N := by rw [← HN.out]; unfold hNext; rw [hA]; rfl
    obtain rfl : wrap64 (s + 1) = M := by rw [← HM.out]; unfold hWant; rw [hG]; rfl
    obtain rfl := HGL.out
    have g2 := wst (wre v10 (some k)) 3 (.int .i64 (wrap64 (s + 1)))
    refine bodyPost_ret (v := .tuple #[.string t, .bool true]) (by simp [results, Tryd.results40, go_sem]) rfl ⟨rfl, wtr B0.out g2, ga, gc, L0.out.s3 _, own_off17 O0.out g2 (fun j hj e => HK.out j hj (by simpa using e.symm)), HK.out⟩
  have ha3 : wrap64 (a - 1) = a - 1 := by unfold wrap64; omega
  have ha4 : IntKind.i64.wrap (a - 1) = a - 1 := by rw [IntKind.wrap_i64]; omega
  by_cases hax : a - 1 = nx
  rotate_left
  · have hA : hAck ep nx G e a = false := by unfold hAck; simp [hax]
    have e3 : (a - 1 == nx) = false := by simpa using hax
    refine wp_region_noPanic ?_
    refine wp_region_held_drew (S := (fun W => (W.cell? ⟨w.heap.size, 0, none⟩ = some (.int .i64 e) ∧ W.cell? ⟨w.heap.size, 1, none⟩ = some (.int .i64 s) ∧ W.cell? ⟨w.heap.size, 2, none⟩ = some (.int .i64 a) ∧ W.cell? ⟨w.heap.size, 3, none⟩ = some (.string t)) ∧ (W.cell? ⟨k, 0, none⟩ = some (.int .i64 ep) ∧ W.cell? ⟨k, 1, none⟩ = some (.slice ga gn gc) ∧ W.cell? ⟨k, 2, none⟩ = some (.int .i64 (nx)) ∧ W.cell? ⟨k, 3, none⟩ = some (.int .i64 wt)))) (by kernel_rfl) ⟨X0.out.cells, L0.out.cells⟩ (fun hHeld => ?_)
    obtain ⟨v11, hv11⟩ : ∃ x, v2.drew = x := ⟨_, rfl⟩
    replace X0 := hid (X0.out.later (bdr (bre _)))
    replace L0 := hid (L0.out.later (bdr (bre _)))
    replace O0 := hid (OwV.later O0.out (bdr (bre _)))
    replace B0 := hid (wtr B0.out (gof _ (bdr (bre _))))
    rw [hv11] at X0 L0 O0 B0 hHeld
    rw [hv11]
    clear hv11
    refine tk 0 ?_
    refine tk 1 ?_
    refine tk 2 ?_
    refine tk 3 ?_
    refine tk 4 ?_
    refine tk 5 ?_
    refine tk 6 ?_
    refine tk 7 ?_
    refine tk 8 ?_
    refine tk 9 ?_
    refine tk 10 ?_
    refine tk 11 ?_
    refine tk 12 ?_
    refine tk 13 ?_
    refine tk 14 ?_
    refine tk 15 ?_
    refine tk 16 ?_
    refine tk 17 ?_
    refine tk 18 ?_
    refine tk 19 ?_
    refine tk 20 ?_
    clear hHeld
    refine wpAnyH_done (by kernel_rfl) ?_ _
    refine NoPanic.normal ?_
    have c0 := X0.out.cells
    have c1 := L0.out.cells
    have f1 := L0.out.loose
    go_upto_region 6 with fail
    by_cases hs0 : s = 0
    · have z1 : (s == 0) = true := by simp [hs0]
      have hG : hGot ep wt e s = false := by unfold hGot; simp [hs0]
      clear hs0
      refine wp_region_noPanic ?_
      refine wp_region_held_drew (S := (fun W => (W.cell? ⟨w.heap.size, 0, none⟩ = some (.int .i64 e) ∧ W.cell? ⟨w.heap.size, 1, none⟩ = some (.int .i64 s) ∧ W.cell? ⟨w.heap.size, 2, none⟩ = some (.int .i64 a) ∧ W.cell? ⟨w.heap.size, 3, none⟩ = some (.string t)) ∧ (W.cell? ⟨k, 0, none⟩ = some (.int .i64 ep) ∧ W.cell? ⟨k, 1, none⟩ = some (.slice ga gn gc) ∧ W.cell? ⟨k, 2, none⟩ = some (.int .i64 (nx)) ∧ W.cell? ⟨k, 3, none⟩ = some (.int .i64 wt)))) (by kernel_rfl) ⟨X0.out.cells, L0.out.cells⟩ (fun hHeld => ?_)
      obtain ⟨v12, hv12⟩ : ∃ x, v11.drew = x := ⟨_, rfl⟩
      replace X0 := hid (X0.out.later (bdr (bre _)))
      replace L0 := hid (L0.out.later (bdr (bre _)))
      replace O0 := hid (OwV.later O0.out (bdr (bre _)))
      replace B0 := hid (wtr B0.out (gof _ (bdr (bre _))))
      rw [hv12] at X0 L0 O0 B0 hHeld
      rw [hv12]
      clear hv12
      refine tk 0 ?_
      refine tk 1 ?_
      refine tk 2 ?_
      refine tk 3 ?_
      refine tn 4 ?_
      refine tn 5 ?_
      refine tn 6 ?_
      refine tn 7 ?_
      refine tn 8 ?_
      refine tn 9 ?_
      refine tn 10 ?_
      refine tk 11 ?_
      clear hHeld
      refine wpAnyH_done (by kernel_rfl) ?_ _
      refine NoPanic.normal ?_
      have c0 := X0.out.cells
      have c1 := L0.out.cells
      have f1 := L0.out.loose
      go_wp2
      obtain rfl : ⟨#[]⟩ = T := by rw [← HT.out]; unfold hText; rw [hG]; rfl
      obtain rfl : false = Y := by rw [← HY.out, hG]
      obtain rfl : G = L := by rw [← HL.out]; unfold hWay; rw [hA]; rfl
      obtain rfl : nx = N := by rw [← HN.out]; unfold hNext; rw [hA]; rfl
      obtain rfl : wt = M := by rw [← HM.out]; unfold hWant; rw [hG]; rfl
      obtain rfl := HGL.out
      refine bodyPost_ret (v := .tuple #[.string ⟨#[]⟩, .bool false]) (by simp [results, Tryd.results40, go_sem]) rfl ⟨rfl, B0.out, ga, gc, L0.out, O0.out, HK.out⟩
    have z1 : (s == 0) = false := by simpa using hs0
    by_cases hsw : s = wt
    rotate_left
    · have e2 : (s != wt) = true := by simpa using hsw
      refine wp_region_noPanic ?_
      refine wp_region_held_drew (S := (fun W => (W.cell? ⟨w.heap.size, 0, none⟩ = some (.int .i64 e) ∧ W.cell? ⟨w.heap.size, 1, none⟩ = some (.int .i64 s) ∧ W.cell? ⟨w.heap.size, 2, none⟩ = some (.int .i64 a) ∧ W.cell? ⟨w.heap.size, 3, none⟩ = some (.string t)) ∧ (W.cell? ⟨k, 0, none⟩ = some (.int .i64 ep) ∧ W.cell? ⟨k, 1, none⟩ = some (.slice ga gn gc) ∧ W.cell? ⟨k, 2, none⟩ = some (.int .i64 (nx)) ∧ W.cell? ⟨k, 3, none⟩ = some (.int .i64 wt)))) (by kernel_rfl) ⟨X0.out.cells, L0.out.cells⟩ (fun hHeld => ?_)
      obtain ⟨v13, hv13⟩ : ∃ x, v11.drew = x := ⟨_, rfl⟩
      replace X0 := hid (X0.out.later (bdr (bre _)))
      replace L0 := hid (L0.out.later (bdr (bre _)))
      replace O0 := hid (OwV.later O0.out (bdr (bre _)))
      replace B0 := hid (wtr B0.out (gof _ (bdr (bre _))))
      rw [hv13] at X0 L0 O0 B0 hHeld
      rw [hv13]
      clear hv13
      refine tk 0 ?_
      refine tk 1 ?_
      refine tk 2 ?_
      refine tk 3 ?_
      refine tk 4 ?_
      refine tk 5 ?_
      refine tk 6 ?_
      refine tk 7 ?_
      refine tk 8 ?_
      refine tk 9 ?_
      refine tk 10 ?_
      refine tk 11 ?_
      clear hHeld
      refine wpAnyH_done (by kernel_rfl) ?_ _
      refine NoPanic.normal ?_
      have c0 := X0.out.cells
      have c1 := L0.out.cells
      have f1 := L0.out.loose
      go_wp2
      have hG : hGot ep wt e s = false := by unfold hGot; simp [hsw]
      obtain rfl : ⟨#[]⟩ = T := by rw [← HT.out]; unfold hText; rw [hG]; rfl
      obtain rfl : false = Y := by rw [← HY.out, hG]
      obtain rfl : G = L := by rw [← HL.out]; unfold hWay; rw [hA]; rfl
      obtain rfl : nx = N := by rw [← HN.out]; unfold hNext; rw [hA]; rfl
      obtain rfl : wt = M := by rw [← HM.out]; unfold hWant; rw [hG]; rfl
      obtain rfl := HGL.out
      refine bodyPost_ret (v := .tuple #[.string ⟨#[]⟩, .bool false]) (by simp [results, Tryd.results40, go_sem]) rfl ⟨rfl, B0.out, ga, gc, L0.out, O0.out, HK.out⟩
    subst hsw
    have e2 : (s != s) = false := by simp
    refine wp_region_noPanic ?_
    refine wp_region_held_drew (S := (fun W => (W.cell? ⟨w.heap.size, 0, none⟩ = some (.int .i64 e) ∧ W.cell? ⟨w.heap.size, 1, none⟩ = some (.int .i64 s) ∧ W.cell? ⟨w.heap.size, 2, none⟩ = some (.int .i64 a) ∧ W.cell? ⟨w.heap.size, 3, none⟩ = some (.string t)) ∧ (W.cell? ⟨k, 0, none⟩ = some (.int .i64 ep) ∧ W.cell? ⟨k, 1, none⟩ = some (.slice ga gn gc) ∧ W.cell? ⟨k, 2, none⟩ = some (.int .i64 (nx)) ∧ W.cell? ⟨k, 3, none⟩ = some (.int .i64 s)))) (by kernel_rfl) ⟨X0.out.cells, L0.out.cells⟩ (fun hHeld => ?_)
    obtain ⟨v14, hv14⟩ : ∃ x, v11.drew = x := ⟨_, rfl⟩
    replace X0 := hid (X0.out.later (bdr (bre _)))
    replace L0 := hid (L0.out.later (bdr (bre _)))
    replace O0 := hid (OwV.later O0.out (bdr (bre _)))
    replace B0 := hid (wtr B0.out (gof _ (bdr (bre _))))
    rw [hv14] at X0 L0 O0 B0 hHeld
    rw [hv14]
    clear hv14
    refine tk 0 ?_
    refine tk 1 ?_
    refine tk 2 ?_
    refine tk 3 ?_
    refine tk 4 ?_
    refine tk 5 ?_
    refine tk 6 ?_
    refine tk 7 ?_
    refine tk 8 ?_
    refine tk 9 ?_
    refine tk 10 ?_
    refine tk 11 ?_
    clear hHeld
    refine wpAnyH_done (by kernel_rfl) ?_ _
    refine NoPanic.normal ?_
    have c0 := X0.out.cells
    have c1 := L0.out.cells
    have f1 := L0.out.loose
    go_wp2
    have hG : hGot ep s e s = true := by unfold hGot; simp [hs0, HE.out]
    obtain rfl : t = T := by rw [← HT.out]; unfold hText; rw [hG]; rfl
    obtain rfl : true = Y := by rw [← HY.out, hG]
    obtain rfl : G = L := by rw [← HL.out]; unfold hWay; rw [hA]; rfl
    obtain rfl : nx = N := by rw [← HN.out]; unfold hNext; rw [hA]; rfl
    obtain rfl : wrap64 (s + 1) = M := by rw [← HM.out]; unfold hWant; rw [hG]; rfl
    obtain rfl := HGL.out
    have g2 := wst (wre v14 (some k)) 3 (.int .i64 (wrap64 (s + 1)))
    refine bodyPost_ret (v := .tuple #[.string t, .bool true]) (by simp [results, Tryd.results40, go_sem]) rfl ⟨rfl, wtr B0.out g2, ga, gc, L0.out.s3 _, own_off17 O0.out g2 (fun j hj e => HK.out j hj (by simpa using e.symm)), HK.out⟩
  have hA : hAck ep nx G e a = true := by have h := HGL.out; unfold hAck; rw [h]; simp [hax, h1a, HE.out]; omega
  have e3 : (a - 1 == nx) = true := by simp [hax]
  clear hax
  refine wp_region_noPanic ?_
  refine wp_region_held_drew (S := (fun W => (W.cell? ⟨w.heap.size, 0, none⟩ = some (.int .i64 e) ∧ W.cell? ⟨w.heap.size, 1, none⟩ = some (.int .i64 s) ∧ W.cell? ⟨w.heap.size, 2, none⟩ = some (.int .i64 a) ∧ W.cell? ⟨w.heap.size, 3, none⟩ = some (.string t)) ∧ (W.cell? ⟨k, 0, none⟩ = some (.int .i64 ep) ∧ W.cell? ⟨k, 1, none⟩ = some (.slice ga gn gc) ∧ W.cell? ⟨k, 2, none⟩ = some (.int .i64 (nx)) ∧ W.cell? ⟨k, 3, none⟩ = some (.int .i64 wt)))) (by kernel_rfl) ⟨X0.out.cells, L0.out.cells⟩ (fun hHeld => ?_)
  obtain ⟨v15, hv15⟩ : ∃ x, v2.drew = x := ⟨_, rfl⟩
  replace X0 := hid (X0.out.later (bdr (bre _)))
  replace L0 := hid (L0.out.later (bdr (bre _)))
  replace O0 := hid (OwV.later O0.out (bdr (bre _)))
  replace B0 := hid (wtr B0.out (gof _ (bdr (bre _))))
  rw [hv15] at X0 L0 O0 B0 hHeld
  rw [hv15]
  clear hv15
  refine tk 0 ?_
  refine tk 1 ?_
  refine tk 2 ?_
  refine tk 3 ?_
  refine tk 4 ?_
  refine tk 5 ?_
  refine tk 6 ?_
  refine tk 7 ?_
  refine tk 8 ?_
  refine tk 9 ?_
  refine tk 10 ?_
  refine tk 11 ?_
  refine tk 12 ?_
  refine tk 13 ?_
  refine tk 14 ?_
  refine tk 15 ?_
  refine tk 16 ?_
  refine tk 17 ?_
  refine tk 18 ?_
  refine tk 19 ?_
  refine tk 20 ?_
  clear hHeld
  refine wpAnyH_done (by kernel_rfl) ?_ _
  refine NoPanic.normal ?_
  have c0 := X0.out.cells
  have c1 := L0.out.cells
  have f1 := L0.out.loose
  obtain ⟨g0, rfl, hcap, hcell⟩ := own_at17 O0.out (by have h := HGL.out; omega)
  obtain ⟨m, hm⟩ : ∃ m, gn - 1 = m := ⟨_, rfl⟩
  have HGT : Hid (G.tail.length = m) := hid (by have h := HGL.out; rw [List.length_tail]; omega)
  have hk2 := L0.out.lt
  have hn1 : (1 : Int) ≤ (gn : Int) := by omega
  obtain ⟨i0, hi0, hz0, hz1, hz2⟩ := info_parts17 info_str17
  clear O0
  by_cases hc1 : gc = 1
  · obtain rfl : m = 0 := by omega
    have hG0 : G.tail = [] := List.eq_nil_of_length_eq_zero HGT.out
    clear hcell
    go_wp2_with fail
    obtain ⟨w6, hw6⟩ : ∃ W, ((v15.setCell ⟨k, 1, none⟩ (.slice (some ⟨v15.heap.size, 0, none⟩) 0 0)).setCell ⟨k, 2, none⟩ (.int .i64 (wrap64 (nx + 1)))).alloc (.cells #[] 9) = W := ⟨_, rfl⟩
    have gg := wst (wst (wre v15 (some k)) 1 (.slice (some ⟨v15.heap.size, 0, none⟩) 0 0)) 2 (.int .i64 (wrap64 (nx + 1)))
    have hx6 := (X0.out.grown gg (by simp; have := X0.out.lt; have := HKW.out; omega)).later (bpush (bre _) (.cells #[] 9))
    have hl6 := ((L0.out.s1 (.slice (some ⟨v15.heap.size, 0, none⟩) 0 0)).s2 (wrap64 (nx + 1))).later (bpush (bre _) (.cells #[] 9))
    have ho6 : OwV (((v15.setCell ⟨k, 1, none⟩ (.slice (some ⟨v15.heap.size, 0, none⟩) 0 0)).setCell ⟨k, 2, none⟩ (.int .i64 (wrap64 (nx + 1)))).alloc (.cells #[] 9)) v15.heap.size (.slice (some ⟨v15.heap.size, 0, none⟩) 0 0) [] := by
      have h := ownV_empty17 ((v15.setCell ⟨k, 1, none⟩ (.slice (some ⟨v15.heap.size, 0, none⟩) 0 0)).setCell ⟨k, 2, none⟩ (.int .i64 (wrap64 (nx + 1)))) v15.heap.size (by simp)
      simpa using h
    have hb6 := wtr (wtr B0.out gg) (gof (some k) (bpush (bre _) (.cells #[] 9)))
    rw [hw6] at hx6 hl6 ho6 hb6
    rw [hw6]
    have HB2 : Hid (B ≤ v15.heap.size) := hid (Nat.le_trans HBB.out (B0.out.size))
    have X0 := hid hx6
    have L0 := hid hl6
    have O0 := hid (own_base ho6 HB2.out)
    have B0 := hid hb6
    have HK : Hid (∀ j, Value.ownBlock (.slice (some ⟨v15.heap.size, 0, none⟩) 0 0) = some j → j ≠ k) := hid (fun j hj e => by simp [Value.ownBlock] at hj; omega)
    clear hx6 hl6 ho6 hb6 gg hw6 hk2 c0 c1 f1
    by_cases hs0 : s = 0
    · have z1 : (s == 0) = true := by simp [hs0]
      have hG : hGot ep wt e s = false := by unfold hGot; simp [hs0]
      clear hs0
      refine wp_region_noPanic ?_
      refine wp_region_held_drew (S := (fun W => (W.cell? ⟨w.heap.size, 0, none⟩ = some (.int .i64 e) ∧ W.cell? ⟨w.heap.size, 1, none⟩ = some (.int .i64 s) ∧ W.cell? ⟨w.heap.size, 2, none⟩ = some (.int .i64 a) ∧ W.cell? ⟨w.heap.size, 3, none⟩ = some (.string t)) ∧ (W.cell? ⟨k, 0, none⟩ = some (.int .i64 ep) ∧ W.cell? ⟨k, 1, none⟩ = some (.slice (some ⟨v15.heap.size, 0, none⟩) 0 0) ∧ W.cell? ⟨k, 2, none⟩ = some (.int .i64 (wrap64 (nx + 1))) ∧ W.cell? ⟨k, 3, none⟩ = some (.int .i64 wt)))) (by kernel_rfl) ⟨X0.out.cells, L0.out.cells⟩ (fun hHeld => ?_)
      obtain ⟨v16, hv16⟩ : ∃ x, w6.drew = x := ⟨_, rfl⟩
      replace X0 := hid (X0.out.later (bdr (bre _)))
      replace L0 := hid (L0.out.later (bdr (bre _)))
      replace O0 := hid (OwV.later O0.out (bdr (bre _)))
      replace B0 := hid (wtr B0.out (gof _ (bdr (bre _))))
      rw [hv16] at X0 L0 O0 B0 hHeld
      rw [hv16]
      clear hv16
      refine tk 0 ?_
      refine tk 1 ?_
      refine tk 2 ?_
      refine tk 3 ?_
      refine tn 4 ?_
      refine tn 5 ?_
      refine tn 6 ?_
      refine tn 7 ?_
      refine tn 8 ?_
      refine tn 9 ?_
      refine tn 10 ?_
      refine tk 11 ?_
      clear hHeld
      refine wpAnyH_done (by kernel_rfl) ?_ _
      refine NoPanic.normal ?_
      have c0 := X0.out.cells
      have c1 := L0.out.cells
      have f1 := L0.out.loose
      go_wp2
      obtain rfl : ⟨#[]⟩ = T := by rw [← HT.out]; unfold hText; rw [hG]; rfl
      obtain rfl : false = Y := by rw [← HY.out, hG]
      obtain rfl : [] = L := by rw [← HL.out]; unfold hWay; rw [hA]; exact hG0.symm
      obtain rfl : wrap64 (nx + 1) = N := by rw [← HN.out]; unfold hNext; rw [hA]; rfl
      obtain rfl : wt = M := by rw [← HM.out]; unfold hWant; rw [hG]; rfl
      refine bodyPost_ret (v := .tuple #[.string ⟨#[]⟩, .bool false]) (by simp [results, Tryd.results40, go_sem]) rfl ⟨rfl, B0.out, (some ⟨v15.heap.size, 0, none⟩), 0, L0.out, O0.out, HK.out⟩
    have z1 : (s == 0) = false := by simpa using hs0
    by_cases hsw : s = wt
    rotate_left
    · have e2 : (s != wt) = true := by simpa using hsw
      refine wp_region_noPanic ?_
      refine wp_region_held_drew (S := (fun W => (W.cell? ⟨w.heap.size, 0, none⟩ = some (.int .i64 e) ∧ W.cell? ⟨w.heap.size, 1, none⟩ = some (.int .i64 s) ∧ W.cell? ⟨w.heap.size, 2, none⟩ = some (.int .i64 a) ∧ W.cell? ⟨w.heap.size, 3, none⟩ = some (.string t)) ∧ (W.cell? ⟨k, 0, none⟩ = some (.int .i64 ep) ∧ W.cell? ⟨k, 1, none⟩ = some (.slice (some ⟨v15.heap.size, 0, none⟩) 0 0) ∧ W.cell? ⟨k, 2, none⟩ = some (.int .i64 (wrap64 (nx + 1))) ∧ W.cell? ⟨k, 3, none⟩ = some (.int .i64 wt)))) (by kernel_rfl) ⟨X0.out.cells, L0.out.cells⟩ (fun hHeld => ?_)
      obtain ⟨v17, hv17⟩ : ∃ x, w6.drew = x := ⟨_, rfl⟩
      replace X0 := hid (X0.out.later (bdr (bre _)))
      replace L0 := hid (L0.out.later (bdr (bre _)))
      replace O0 := hid (OwV.later O0.out (bdr (bre _)))
      replace B0 := hid (wtr B0.out (gof _ (bdr (bre _))))
      rw [hv17] at X0 L0 O0 B0 hHeld
      rw [hv17]
      clear hv17
      refine tk 0 ?_
      refine tk 1 ?_
      refine tk 2 ?_
      refine tk 3 ?_
      refine tk 4 ?_
      refine tk 5 ?_
      refine tk 6 ?_
      refine tk 7 ?_
      refine tk 8 ?_
      refine tk 9 ?_
      refine tk 10 ?_
      refine tk 11 ?_
      clear hHeld
      refine wpAnyH_done (by kernel_rfl) ?_ _
      refine NoPanic.normal ?_
      have c0 := X0.out.cells
      have c1 := L0.out.cells
      have f1 := L0.out.loose
      go_wp2
      have hG : hGot ep wt e s = false := by unfold hGot; simp [hsw]
      obtain rfl : ⟨#[]⟩ = T := by rw [← HT.out]; unfold hText; rw [hG]; rfl
      obtain rfl : false = Y := by rw [← HY.out, hG]
      obtain rfl : [] = L := by rw [← HL.out]; unfold hWay; rw [hA]; exact hG0.symm
      obtain rfl : wrap64 (nx + 1) = N := by rw [← HN.out]; unfold hNext; rw [hA]; rfl
      obtain rfl : wt = M := by rw [← HM.out]; unfold hWant; rw [hG]; rfl
      refine bodyPost_ret (v := .tuple #[.string ⟨#[]⟩, .bool false]) (by simp [results, Tryd.results40, go_sem]) rfl ⟨rfl, B0.out, (some ⟨v15.heap.size, 0, none⟩), 0, L0.out, O0.out, HK.out⟩
    subst hsw
    have e2 : (s != s) = false := by simp
    refine wp_region_noPanic ?_
    refine wp_region_held_drew (S := (fun W => (W.cell? ⟨w.heap.size, 0, none⟩ = some (.int .i64 e) ∧ W.cell? ⟨w.heap.size, 1, none⟩ = some (.int .i64 s) ∧ W.cell? ⟨w.heap.size, 2, none⟩ = some (.int .i64 a) ∧ W.cell? ⟨w.heap.size, 3, none⟩ = some (.string t)) ∧ (W.cell? ⟨k, 0, none⟩ = some (.int .i64 ep) ∧ W.cell? ⟨k, 1, none⟩ = some (.slice (some ⟨v15.heap.size, 0, none⟩) 0 0) ∧ W.cell? ⟨k, 2, none⟩ = some (.int .i64 (wrap64 (nx + 1))) ∧ W.cell? ⟨k, 3, none⟩ = some (.int .i64 s)))) (by kernel_rfl) ⟨X0.out.cells, L0.out.cells⟩ (fun hHeld => ?_)
    obtain ⟨v18, hv18⟩ : ∃ x, w6.drew = x := ⟨_, rfl⟩
    replace X0 := hid (X0.out.later (bdr (bre _)))
    replace L0 := hid (L0.out.later (bdr (bre _)))
    replace O0 := hid (OwV.later O0.out (bdr (bre _)))
    replace B0 := hid (wtr B0.out (gof _ (bdr (bre _))))
    rw [hv18] at X0 L0 O0 B0 hHeld
    rw [hv18]
    clear hv18
    refine tk 0 ?_
    refine tk 1 ?_
    refine tk 2 ?_
    refine tk 3 ?_
    refine tk 4 ?_
    refine tk 5 ?_
    refine tk 6 ?_
    refine tk 7 ?_
    refine tk 8 ?_
    refine tk 9 ?_
    refine tk 10 ?_
    refine tk 11 ?_
    clear hHeld
    refine wpAnyH_done (by kernel_rfl) ?_ _
    refine NoPanic.normal ?_
    have c0 := X0.out.cells
    have c1 := L0.out.cells
    have f1 := L0.out.loose
    go_wp2
    have hG : hGot ep s e s = true := by unfold hGot; simp [hs0, HE.out]
    obtain rfl : t = T := by rw [← HT.out]; unfold hText; rw [hG]; rfl
    obtain rfl : true = Y := by rw [← HY.out, hG]
    obtain rfl : [] = L := by rw [← HL.out]; unfold hWay; rw [hA]; exact hG0.symm
    obtain rfl : wrap64 (nx + 1) = N := by rw [← HN.out]; unfold hNext; rw [hA]; rfl
    obtain rfl : wrap64 (s + 1) = M := by rw [← HM.out]; unfold hWant; rw [hG]; rfl
    have g2 := wst (wre v18 (some k)) 3 (.int .i64 (wrap64 (s + 1)))
    refine bodyPost_ret (v := .tuple #[.string t, .bool true]) (by simp [results, Tryd.results40, go_sem]) rfl ⟨rfl, wtr B0.out g2, (some ⟨v15.heap.size, 0, none⟩), 0, L0.out.s3 _, own_off17 O0.out g2 (fun j hj e => HK.out j hj (by simpa using e.symm)), HK.out⟩
  · have hc2 : ¬ gc - 1 = 0 := by omega
    have HSRC : Hid (∀ j u, (G.tail.map Value.string)[j]? = some u → (v15.alloc (.cells #[] 9)).cell? ((⟨g0, 1, none⟩ : Addr).add j) = some u) := hid (by
      intro j u hu
      have hj : j < G.tail.length := by have := (List.getElem?_eq_some_iff.1 hu).1; simpa using this
      rw [List.getElem?_map, List.getElem?_eq_getElem hj] at hu
      simp only [Option.map_some, Option.some.injEq] at hu
      subst hu
      have h := hcell (j + 1) (by rw [List.length_tail] at hj; omega)
      rw [List.getElem_tail]
      have e : ((⟨g0, 1, none⟩ : Addr).add j) = ⟨g0, j + 1, none⟩ := by rw [addr_add, Nat.add_comm]
      rw [e, ← h]
      exact cell_sameT (by exact (bpush (bre v15) (.cells #[] 9)).block g0 (World.block_lt_of_cell? v15 _ h)))
    have HB2 : Hid (B ≤ v15.heap.size) := hid (Nat.le_trans HBB.out (B0.out.size))
    clear hcell
    go_wp2_with (at_builtin; refine wpList_append_own_at _ rfl (.tmp 35) (.tmp 40) 32 rfl v15.heap.size 9 i0 _ 1 16 Tryd.underlying32 hi0 hz0 hz1 hz2 rfl (by decide) _ 0 [] (by rfl) (ownV_empty17 v15 _ (Nat.le_refl _)) ⟨g0, 1, none⟩ m (gc - 1) (G.tail.map Value.string) (by rfl) (by rw [List.length_map, HGT.out, Nat.mul_one]) HSRC.out (str_one17 _) (by have := HGN.out; unfold maxLen; omega) (by have := HGN.out; omega) (by simp) ?_; intro v2 w5 hown5 hg5 _ _; have own5 : OwV w5 v15.heap.size v2 G.tail := (by unfold OwV; rw [HGT.out]; simpa using hown5); obtain ⟨a1, cw, hv2, _⟩ := own5.shape; rw [HGT.out] at hv2; subst hv2; have b5 : Below v15.heap.size v15 w5 := (bpush (bre v15) _).grown hg5 (by simp) (by intro j hj; simp [Value.ownBlock] at hj; omega); have X0 := hid (X0.out.later b5); have L0 := hid (L0.out.later b5); have B0 := hid (wtr B0.out (gof _ b5)); have O0 := hid own5; have LV : Hid (k < v15.heap.size) := hid hk2; have c0 := X0.out.cells; have c1 := L0.out.cells; have f1 := L0.out.loose; clear hown5 hg5 own5 b5)
    obtain ⟨w6, hw6⟩ : ∃ W, (w5.setCell ⟨k, 1, none⟩ (.slice a1 m cw)).setCell ⟨k, 2, none⟩ (.int .i64 (wrap64 (nx + 1))) = W := ⟨_, rfl⟩
    have gg := wst (wst (wre w5 (some k)) 1 (.slice a1 m cw)) 2 (.int .i64 (wrap64 (nx + 1)))
    have hx6 := X0.out.grown gg (by simp; have := HKW.out; omega)
    have hl6 := (L0.out.s1 (.slice a1 m cw)).s2 (wrap64 (nx + 1))
    have HK : Hid (∀ j, Value.ownBlock (.slice a1 m cw) = some j → j ≠ k) := hid (fun j hj e => by have := (World.ownsRow.lt O0.out j hj).1; have := LV.out; omega)
    have ho6 := own_off17 O0.out gg (fun j hj e => HK.out j hj (by simpa using e.symm))
    have hb6 := wtr B0.out gg
    rw [hw6] at hx6 hl6 ho6 hb6
    rw [hw6]
    have X0 := hid hx6
    have L0 := hid hl6
    have O0 := hid (own_base ho6 HB2.out)
    have B0 := hid hb6
    clear hx6 hl6 ho6 hb6 gg hw6 hk2 c0 c1 f1
    by_cases hs0 : s = 0
    · have z1 : (s == 0) = true := by simp [hs0]
      have hG : hGot ep wt e s = false := by unfold hGot; simp [hs0]
      clear hs0
      refine wp_region_noPanic ?_
      refine wp_region_held_drew (S := (fun W => (W.cell? ⟨w.heap.size, 0, none⟩ = some (.int .i64 e) ∧ W.cell? ⟨w.heap.size, 1, none⟩ = some (.int .i64 s) ∧ W.cell? ⟨w.heap.size, 2, none⟩ = some (.int .i64 a) ∧ W.cell? ⟨w.heap.size, 3, none⟩ = some (.string t)) ∧ (W.cell? ⟨k, 0, none⟩ = some (.int .i64 ep) ∧ W.cell? ⟨k, 1, none⟩ = some (.slice a1 m cw) ∧ W.cell? ⟨k, 2, none⟩ = some (.int .i64 (wrap64 (nx + 1))) ∧ W.cell? ⟨k, 3, none⟩ = some (.int .i64 wt)))) (by kernel_rfl) ⟨X0.out.cells, L0.out.cells⟩ (fun hHeld => ?_)
      obtain ⟨v19, hv19⟩ : ∃ x, w6.drew = x := ⟨_, rfl⟩
      replace X0 := hid (X0.out.later (bdr (bre _)))
      replace L0 := hid (L0.out.later (bdr (bre _)))
      replace O0 := hid (OwV.later O0.out (bdr (bre _)))
      replace B0 := hid (wtr B0.out (gof _ (bdr (bre _))))
      rw [hv19] at X0 L0 O0 B0 hHeld
      rw [hv19]
      clear hv19
      refine tk 0 ?_
      refine tk 1 ?_
      refine tk 2 ?_
      refine tk 3 ?_
      refine tn 4 ?_
      refine tn 5 ?_
      refine tn 6 ?_
      refine tn 7 ?_
      refine tn 8 ?_
      refine tn 9 ?_
      refine tn 10 ?_
      refine tk 11 ?_
      clear hHeld
      refine wpAnyH_done (by kernel_rfl) ?_ _
      refine NoPanic.normal ?_
      have c0 := X0.out.cells
      have c1 := L0.out.cells
      have f1 := L0.out.loose
      go_wp2
      obtain rfl : ⟨#[]⟩ = T := by rw [← HT.out]; unfold hText; rw [hG]; rfl
      obtain rfl : false = Y := by rw [← HY.out, hG]
      obtain rfl : G.tail = L := by rw [← HL.out]; unfold hWay; rw [hA]; rfl
      obtain rfl : wrap64 (nx + 1) = N := by rw [← HN.out]; unfold hNext; rw [hA]; rfl
      obtain rfl : wt = M := by rw [← HM.out]; unfold hWant; rw [hG]; rfl
      obtain rfl := HGT.out
      refine bodyPost_ret (v := .tuple #[.string ⟨#[]⟩, .bool false]) (by simp [results, Tryd.results40, go_sem]) rfl ⟨rfl, B0.out, a1, cw, L0.out, O0.out, HK.out⟩
    have z1 : (s == 0) = false := by simpa using hs0
    by_cases hsw : s = wt
    rotate_left
    · have e2 : (s != wt) = true := by simpa using hsw
      refine wp_region_noPanic ?_
      refine wp_region_held_drew (S := (fun W => (W.cell? ⟨w.heap.size, 0, none⟩ = some (.int .i64 e) ∧ W.cell? ⟨w.heap.size, 1, none⟩ = some (.int .i64 s) ∧ W.cell? ⟨w.heap.size, 2, none⟩ = some (.int .i64 a) ∧ W.cell? ⟨w.heap.size, 3, none⟩ = some (.string t)) ∧ (W.cell? ⟨k, 0, none⟩ = some (.int .i64 ep) ∧ W.cell? ⟨k, 1, none⟩ = some (.slice a1 m cw) ∧ W.cell? ⟨k, 2, none⟩ = some (.int .i64 (wrap64 (nx + 1))) ∧ W.cell? ⟨k, 3, none⟩ = some (.int .i64 wt)))) (by kernel_rfl) ⟨X0.out.cells, L0.out.cells⟩ (fun hHeld => ?_)
      obtain ⟨v20, hv20⟩ : ∃ x, w6.drew = x := ⟨_, rfl⟩
      replace X0 := hid (X0.out.later (bdr (bre _)))
      replace L0 := hid (L0.out.later (bdr (bre _)))
      replace O0 := hid (OwV.later O0.out (bdr (bre _)))
      replace B0 := hid (wtr B0.out (gof _ (bdr (bre _))))
      rw [hv20] at X0 L0 O0 B0 hHeld
      rw [hv20]
      clear hv20
      refine tk 0 ?_
      refine tk 1 ?_
      refine tk 2 ?_
      refine tk 3 ?_
      refine tk 4 ?_
      refine tk 5 ?_
      refine tk 6 ?_
      refine tk 7 ?_
      refine tk 8 ?_
      refine tk 9 ?_
      refine tk 10 ?_
      refine tk 11 ?_
      clear hHeld
      refine wpAnyH_done (by kernel_rfl) ?_ _
      refine NoPanic.normal ?_
      have c0 := X0.out.cells
      have c1 := L0.out.cells
      have f1 := L0.out.loose
      go_wp2
      have hG : hGot ep wt e s = false := by unfold hGot; simp [hsw]
      obtain rfl : ⟨#[]⟩ = T := by rw [← HT.out]; unfold hText; rw [hG]; rfl
      obtain rfl : false = Y := by rw [← HY.out, hG]
      obtain rfl : G.tail = L := by rw [← HL.out]; unfold hWay; rw [hA]; rfl
      obtain rfl : wrap64 (nx + 1) = N := by rw [← HN.out]; unfold hNext; rw [hA]; rfl
      obtain rfl : wt = M := by rw [← HM.out]; unfold hWant; rw [hG]; rfl
      obtain rfl := HGT.out
      refine bodyPost_ret (v := .tuple #[.string ⟨#[]⟩, .bool false]) (by simp [results, Tryd.results40, go_sem]) rfl ⟨rfl, B0.out, a1, cw, L0.out, O0.out, HK.out⟩
    subst hsw
    have e2 : (s != s) = false := by simp
    refine wp_region_noPanic ?_
    refine wp_region_held_drew (S := (fun W => (W.cell? ⟨w.heap.size, 0, none⟩ = some (.int .i64 e) ∧ W.cell? ⟨w.heap.size, 1, none⟩ = some (.int .i64 s) ∧ W.cell? ⟨w.heap.size, 2, none⟩ = some (.int .i64 a) ∧ W.cell? ⟨w.heap.size, 3, none⟩ = some (.string t)) ∧ (W.cell? ⟨k, 0, none⟩ = some (.int .i64 ep) ∧ W.cell? ⟨k, 1, none⟩ = some (.slice a1 m cw) ∧ W.cell? ⟨k, 2, none⟩ = some (.int .i64 (wrap64 (nx + 1))) ∧ W.cell? ⟨k, 3, none⟩ = some (.int .i64 s)))) (by kernel_rfl) ⟨X0.out.cells, L0.out.cells⟩ (fun hHeld => ?_)
    obtain ⟨v21, hv21⟩ : ∃ x, w6.drew = x := ⟨_, rfl⟩
    replace X0 := hid (X0.out.later (bdr (bre _)))
    replace L0 := hid (L0.out.later (bdr (bre _)))
    replace O0 := hid (OwV.later O0.out (bdr (bre _)))
    replace B0 := hid (wtr B0.out (gof _ (bdr (bre _))))
    rw [hv21] at X0 L0 O0 B0 hHeld
    rw [hv21]
    clear hv21
    refine tk 0 ?_
    refine tk 1 ?_
    refine tk 2 ?_
    refine tk 3 ?_
    refine tk 4 ?_
    refine tk 5 ?_
    refine tk 6 ?_
    refine tk 7 ?_
    refine tk 8 ?_
    refine tk 9 ?_
    refine tk 10 ?_
    refine tk 11 ?_
    clear hHeld
    refine wpAnyH_done (by kernel_rfl) ?_ _
    refine NoPanic.normal ?_
    have c0 := X0.out.cells
    have c1 := L0.out.cells
    have f1 := L0.out.loose
    go_wp2
    have hG : hGot ep s e s = true := by unfold hGot; simp [hs0, HE.out]
    obtain rfl : t = T := by rw [← HT.out]; unfold hText; rw [hG]; rfl
    obtain rfl : true = Y := by rw [← HY.out, hG]
    obtain rfl : G.tail = L := by rw [← HL.out]; unfold hWay; rw [hA]; rfl
    obtain rfl : wrap64 (nx + 1) = N := by rw [← HN.out]; unfold hNext; rw [hA]; rfl
    obtain rfl : wrap64 (s + 1) = M := by rw [← HM.out]; unfold hWant; rw [hG]; rfl
    obtain rfl := HGT.out
    have g2 := wst (wre v21 (some k)) 3 (.int .i64 (wrap64 (s + 1)))
    refine bodyPost_ret (v := .tuple #[.string t, .bool true]) (by simp [results, Tryd.results40, go_sem]) rfl ⟨rfl, wtr B0.out g2, a1, cw, L0.out.s3 _, own_off17 O0.out g2 (fun j hj e => HK.out j hj (by simpa using e.symm)), HK.out⟩
set_option maxHeartbeats 1600000 in
set_option maxRecDepth 100000 in
theorem specHears_any (lo hi : Nat) (ep nx wt : Int) (ga : Option Addr) (gn gc : Nat) (G : List ByteArray) (e s a : Int) (t : ByteArray) (w : World) (hgl : G.length = gn) (hgn : gn ≤ 1048576) (hs : Ss lo hi w ga G) (hg0 : ga = none → gc = 0) (ha : 0 - 9223372036854775808 ≤ a ∧ a ≤ 9223372036854775807) :
    Calls Tryd.prog 13 #[lkv ep (.slice ga gn gc) nx wt, pkv e s a t] w fun ex w' => ∃ ag cg, ex = .returned (.tuple #[lkv ep (.slice ag (hWay ep nx G e a).length cg) (hNext ep nx G e a) (hWant ep wt e s), .string (hText ep wt e s t), .bool (hGot ep wt e s)]) ∧ OwV w' w.heap.size (.slice ag (hWay ep nx G e a).length cg) (hWay ep nx G e a) ∧ Below w.heap.size w w' := by
  obtain ⟨W0, hW0⟩ : ∃ W0, ((w.alloc (.cells #[.int .i64 ep, .slice ga gn gc, .int .i64 nx, .int .i64 wt] 34)).alloc (.cells #[.int .i64 e, .int .i64 s, .int .i64 a, .string t] 25)).alloc (.cells lk0 34) = W0 := ⟨_, rfl⟩
  have b0 : Below w.heap.size w W0 := by subst hW0; exact bpush (bpush (bpush (bre _) _) _) _
  have x0 : Lk W0 w.heap.size 34 ep (.slice ga gn gc) nx wt := by subst hW0; exact ((Lk.new w _ _ _ _ _).later (bpush (bre _) _)).later (bpush (bre _) _)
  have x1 : Pk W0 (w.heap.size + 1) 25 e s a t := by
    subst hW0
    have h := Pk.new (w.alloc (.cells #[.int .i64 ep, .slice ga gn gc, .int .i64 nx, .int .i64 wt] 34)) 25 e s a t
    simp at h
    exact h.later (bpush (bre _) _)
  have x2 : Lk W0 (w.heap.size + 1 + 1) 34 0 (.slice none 0 0) 0 0 := by
    subst hW0
    have h := Lk.new ((w.alloc (.cells #[.int .i64 ep, .slice ga gn gc, .int .i64 nx, .int .i64 wt] 34)).alloc (.cells #[.int .i64 e, .int .i64 s, .int .i64 a, .string t] 25)) 34 0 (.slice none 0 0) 0 0
    simpa using h
  have HC := hid (copy17_any lo hi ep nx wt ga gn gc G W0 hgl (by omega) (hs.later b0) hg0)
  have HE := hid (fun (B k : Nat) (ga : Option Addr) (gc : Nat) (W : World) (hx : Lk W k 34 ep (.slice ga gn gc) nx wt) (ho : OwV W B (.slice ga gn gc) G) (hB : B ≤ W.heap.size) (hk : ∀ j, Value.ownBlock (.slice ga gn gc) = some j → j ≠ k) => specHear_any B k ep nx wt ga gn gc G e s a t W hgl hgn hx ho hB hk ha)
  have A0 := hid x0
  have A1 := hid x1
  have A2 := hid x2
  have B0 := hid b0
  have HW := hid hW0
  have c0 := x0.cells
  obtain ⟨T, hT⟩ : ∃ T, hText ep wt e s t = T := ⟨_, rfl⟩
  obtain ⟨Y, hY⟩ : ∃ Y, hGot ep wt e s = Y := ⟨_, rfl⟩
  obtain ⟨L, hL⟩ : ∃ L, hWay ep nx G e a = L := ⟨_, rfl⟩
  obtain ⟨N, hN⟩ : ∃ N, hNext ep nx G e a = N := ⟨_, rfl⟩
  obtain ⟨M, hM⟩ : ∃ M, hWant ep wt e s = M := ⟨_, rfl⟩
  rw [hT, hY, hL, hN, hM] at HE ⊢
  obtain ⟨n, hn⟩ : ∃ n, L.length = n := ⟨_, rfl⟩
  rw [hn] at HE ⊢
  clear x0 x1 x2 b0 hW0 hs hg0 hgn hgl hT hY hL hN hM hn ha
  go_enter Tryd.func13, Tryd.ntmps13
  go_wp2_with fail
  rw [HW.out]
  clear HW
  refine HC.out.mono ?_; rintro ex w1 ⟨ag, cg, rfl, ho, hb⟩
  have LW : Hid (w.heap.size + 1 + 1 < W0.heap.size) := hid A2.out.lt
  have L1 : Hid (W0.heap.size ≤ w1.heap.size) := hid hb.size
  have HLT : Hid (∀ j, Value.ownBlock (.slice ag gn cg) = some j → j ≠ w1.heap.size) := hid (fun j hj => by have := (World.ownsRow.lt ho j hj).2; omega)
  obtain ⟨w2, hw2⟩ : ∃ W, w1.alloc (.cells #[.int .i64 ep, .slice ag gn cg, .int .i64 nx, .int .i64 wt] 34) = W := ⟨_, rfl⟩
  have b2 : Below w1.heap.size w1 w2 := by subst hw2; exact bpush (bre _) _
  have x2 : Lk w2 w1.heap.size 34 ep (.slice ag gn cg) nx wt := by subst hw2; exact Lk.new w1 _ _ _ _ _
  have O2 := hid (show OwV w2 W0.heap.size (.slice ag gn cg) G from OwV.later ho b2)
  have A1 := hid ((A1.out.later hb).later b2)
  have A2 := hid ((A2.out.later hb).later b2)
  have A3 := hid x2
  have L2 : Hid (w1.heap.size < w2.heap.size) := hid x2.lt
  have B0 := hid (btr (btr B0.out hb) b2)
  have c1 := A1.out.cells
  clear ho hb b2 x2 HC c0
  go_wp2_with fail
  clear hw2 c1
  refine (HE.out W0.heap.size w1.heap.size ag cg w2 A3.out O2.out (by have h1 := L1.out; have h2 := L2.out; omega) HLT.out).mono ?_; rintro ex w3 ⟨rfl, hg, a', c', hx3, ho3, hk3⟩
  have l0 := LW.out
  have l1 := L1.out
  have A2 := hid (A2.out.grown hg (by simp; omega))
  have A3 := hid hx3
  have O3 := hid ho3
  have B0 := hid (B0.out.trans (below_of_grown hg (by omega) B0.out.size))
  have c2 := A2.out.cells
  have f2 := A2.out.loose
  have c3 := A3.out.cells
  clear hg hx3 ho3 hk3 l0 l1 HE
  go_wp2
  have l0 := LW.out
  have g3 := putL_grown w3 (w.heap.size + 1 + 1) ep (.slice a' n c') N M
  have d := (A2.out.put ep (.slice a' n c') N M).cells
  unfold putL at g3 d
  exact bodyPost_ret (v := .tuple #[lkv ep (.slice a' n c') N M, .string T, .bool Y]) (by simp [results, Tryd.results13, go_sem, d]) rfl ⟨a', c', rfl, own_base (OwV.grown O3.out g3 (by omega)) (by omega), B0.out.trans (below_of_grown g3 (by omega) B0.out.size)⟩
end Go.Proofs.YtnbobidpmiieiaaDoor
