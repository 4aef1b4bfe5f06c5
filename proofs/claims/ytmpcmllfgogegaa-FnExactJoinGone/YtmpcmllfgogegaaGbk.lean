/- A list of numbers gone through from its end. -/
import Derived.Test.YtmpcmllfgogegaaGsi
namespace Go.Proofs.Ytmpcmllfgogegaa
open Go.RowKit Go.Shelf Go.ChangeMaps

attribute [local go_sem] Oper.semAt_some

/-- Blocks below N stay, but for block m. -/
structure Kb (N m : Nat) (W W' : World) : Prop where
  size : W.heap.size ≤ W'.heap.size
  same : ∀ k, k < N → k ≠ m → W'.heap[k]? = W.heap[k]?
theorem Kb.refl (N m : Nat) (W : World) : Kb N m W W := ⟨Nat.le_refl _, fun _ _ _ => rfl⟩
theorem Kb.trans {N m : Nat} {A B C : World} (h : Kb N m A B) (k : Kb N m B C) : Kb N m A C := ⟨Nat.le_trans h.size k.size, fun i h1 h2 => (k.same i h1 h2).trans (h.same i h1 h2)⟩
theorem kbK_b {N m : Nat} {w : World} (hn : N ≤ w.heap.size) (W : World) (l : Nat) (o o' : Obj) (hl : w.heap.size ≤ l) (h : W.heap[l]? = some o) (_ : o.isCells = false) (_ : o.isWalk = false) : Kb N m W (W.putObj l o') := by
  have hg := grownBy_putObj' W l o'
  have hlt := (Array.getElem?_eq_some_iff.1 h).1
  exact ⟨hg.size, fun k h1 _ => hg.block k (by omega) (fun e => by cases e; omega)⟩
theorem Kb.of_below {N m : Nat} {W W' : World} (h : Below N W W') : Kb N m W W' := ⟨h.size, fun k hk _ => h.block k hk⟩
theorem Kb.of_grown {N m : Nat} {W W' : World} (h : W.grownBy W' (some m)) (hN : N ≤ W.heap.size) : Kb N m W W' := ⟨h.size, fun k hk hm => h.block k (by omega) (fun e => hm (by cases e; rfl))⟩

set_option maxRecDepth 100000 in
set_option maxHeartbeats 4000000 in
theorem back1i_in (F : Fence) (n : Nat) (h7 : F.fn 22) (hro : F.round = none) (hn : 1 ≤ n) (l Bm N m : Nat) (a : Option Addr) (c k : Nat) (lo hh : Nat) (G : List Int) (hk : G.length = k) (hk2 : k ≤ 1048576) (J Jx : List (Int × Int) → World → Prop)
    (hY : ∀ pre x W, J pre W → pre.length < k → YieldAt F (n - 1) Try.prog l #[.int .i64 x.1, .int .i64 x.2] W fun e W' =>
      (e = .returned (.bool true) ∧ J (pre ++ [x]) W' ∧ Kb N m W W') ∨ (e = .returned (.bool false) ∧ Jx (pre ++ [x]) W'))
    (W : World) (hN : N ≤ W.heap.size) (hBm : Bm < N) (hBm2 : Bm ≠ m) (hhm : hh ≤ m) (hhN : hh ≤ N) (hm : W.cell? ⟨Bm, 0, none⟩ = some (.slice a k c)) (his : Is lo hh W a G) (h0 : J [] W) :
    CallsIn F n Try.prog 22 #[.func (.yield l) #[] #[], .pointer (some ⟨Bm, 0, none⟩)] W fun e W' => (∃ v, e = .returned v) ∧
      ((∃ xs, (xs.map (·.2) = G.reverse) ∧ J xs W') ∨ (∃ pre, True ∧ Jx pre W')) := by
  have HY := hid hY
  have H0 := hid h0
  have HI := hid his
  have HM := hid hm
  have HBM := hid hBm
  have HBM2 := hid hBm2
  have HHM := hid hhm
  have HHN := hid hhN
  have HN := hid hN
  have HK := hid hk
  clear hY h0 his hBm hBm2 hhm hhN hN hk
  refine callsIn_of_wp Try.func22 rfl h7 ?_ hro
  simp only [Try.ntmps22, List.size_toArray, List.length_cons, List.length_nil, Nat.reduceAdd, Nat.reduceSub, Array.replicate_succ, Array.replicate_zero, List.push_toArray, List.append_toArray, List.nil_append, List.cons_append]
  gi_wp2
  clear hm
  gi_loopw [3] (fun iv wr => ∃ (j : Nat) (ps : List (Int × Int)), j ≤ k ∧ iv = .int .i64 ((j : Int) - 1) ∧ ps.map (·.2) = (G.drop j).reverse ∧ J ps wr ∧ Kb N m W wr) (fun iv _ => (intOf iv + 1).toNat)
  case atStart =>
    refine ⟨k, [], Nat.le_refl _, by go_num, ?_, H0.out, Kb.refl _ _ _⟩
    rw [← HK.out, List.drop_length]; rfl
  case round =>
    obtain ⟨j, ps, hj, rfl, hP, hJs, hkb⟩ := hrel
    have HP := hid hP
    have HJS := hid hJs
    have HKB := hid hkb
    clear hP hJs hkb
    by_cases hz : j = 0
    · subst hz
      have HZ : Hid (ps.map (·.2) = G.reverse) := by
        show _ = _
        rw [HP.out, List.drop_zero]
      clear hj
      gi_wp2
      go_end0
      exact ⟨⟨_, rfl⟩, .inl ⟨ps, HZ.out, HJS.out⟩⟩
    · obtain ⟨i, rfl⟩ : ∃ i, j = i + 1 := ⟨j - 1, by omega⟩
      clear hz
      have hil : i < G.length := by rw [HK.out]; omega
      obtain ⟨kb, o, rfl, hlo, hkh, cc⟩ := HI.out.2 i hil
      have c1 : wr.cell? ⟨kb, o + i, none⟩ = some (.int .i64 G[i]) := (cell_same (p := ⟨kb, _, none⟩) (HKB.out.same kb (by have := HHN.out; omega) (by have := HHM.out; omega))).trans cc
      have c2 : wr.cell? ⟨Bm, 0, none⟩ = some (.slice (some ⟨kb, o, none⟩) k c) := (cell_same (p := ⟨Bm, 0, none⟩) (HKB.out.same Bm HBM.out HBM2.out)).trans HM.out
      have hlen : ps.length < k := by
        have h1 := congrArg List.length HP.out
        rw [List.length_map, List.length_reverse, List.length_drop, HK.out] at h1
        omega
      obtain ⟨x, hx⟩ : ∃ x, G[i] = x := ⟨_, rfl⟩
      rw [hx] at c1
      obtain ⟨fn, tmps, assign, body, hy, hR⟩ := HY.out ps ((i : Int), x) wr HJS.out hlen
      have HRR := hid hR
      have HX := hid hx
      have hI : (0 : Int) ≤ (i : Int) ∧ (i : Int) < (k : Int) := by omega
      have e1 : ((i + 1 : Nat) : Int) - 1 = (i : Int) := by omega
      rw [e1]
      clear hR hx hlen cc
      dsimp only at hy
      gi_wp2
      refine HRR.out.mono ?_
      rintro e W4 (⟨rfl, hJ4, hk4⟩ | ⟨rfl, hJx4⟩)
      · have HP4 : Hid ((ps ++ [((i : Int), x)]).map (·.2) = (G.drop i).reverse) := by
          show _ = _
          rw [List.map_append, HP.out, List.drop_eq_getElem_cons hil, List.reverse_cons, HX.out]
          rfl
        have HJ4 := hid hJ4
        have HK4 := hid (HKB.out.trans hk4)
        clear hJ4 hk4 c1 c2 hy
        gi_wp2
        go_roundw
        case rel => exact ⟨i, _, by omega, by go_num, HP4.out, HJ4.out, HK4.out⟩
        case measure => simp [intOf]
      · have HX4 := hid hJx4
        clear hJx4 c1 c2 hy
        gi_wp2
        refine bodyPost_ret (results_none rfl _ _ _) rfl ?_
        exact ⟨⟨_, rfl⟩, .inr ⟨_, trivial, HX4.out⟩⟩

theorem backi_stops (F : Fence) (n : Nat) (h7 : F.fn 22) (hro : F.round = none) (hn : 1 ≤ n) (Bm m : Nat) (a : Option Addr) (c k : Nat) (lo hh : Nat) (G : List Int) (hk : G.length = k) (hk2 : k ≤ 1048576) (w : World) (hBm : Bm < w.heap.size) (hBm2 : Bm ≠ m) (hhm : hh ≤ m) (hm : w.cell? ⟨Bm, 0, none⟩ = some (.slice a k c)) (his : Is lo hh w a G) :
    SeqStopsK F n Try.prog 22 #[.pointer (some ⟨Bm, 0, none⟩)] (fun x : Int × Int => #[.int .i64 x.1, .int .i64 x.2]) (Kb w.heap.size m) (fun xs => xs.map (·.2) = G.reverse) (fun _ => True) k w := fun l J Jx W hW _ _ hY h0 =>
  back1i_in F n h7 hro hn l Bm w.heap.size m a c k lo hh G hk hk2 J Jx hY W hW.size hBm hBm2 hhm his.1 ((hW.cell (p := ⟨Bm, 0, none⟩) hBm).trans hm) (his.later hW) h0
theorem backi_any (a : Option Addr) (k c : Nat) (w : World) :
    Calls Try.prog 17 #[.slice a k c] w fun e w' => e = .returned (.func (.func 22) #[] #[.pointer (some ⟨w.heap.size, 0, none⟩)]) ∧ w' = w.alloc (.cells #[.slice a k c] 22) := by
  go_enter Try.func17, Try.ntmps17
  go_wp2
  go_ret
  exact ⟨rfl, rfl⟩
end Go.Proofs.Ytmpcmllfgogegaa
