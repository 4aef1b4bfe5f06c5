/- Ks, Kt, Kw, Ku, Sva, Svb, Svc, Svd, Spa. -/
import Derived.Test.YtckenihadlmlaaaB10
namespace Go.Proofs.Ytckenihadlmlaaa
open Go.RowKit Go.ChangeMaps
theorem Kx.grown {W W' : World} {k ty : Nat} {y tm : Int} {bv gv : Value} {jr : ByteArray} {sv : Int} {r : Option Nat} (h : Kx W k ty y tm bv gv jr sv) (hg : W.grownBy W' r) (hk : some k ≠ r) : Kx W' k ty y tm bv gv jr sv := (hg.block k h.lt hk).trans h
theorem Kx.set6 {W : World} {k ty : Nat} {y0 tm0 : Int} {bv0 gv0 : Value} {jr0 : ByteArray} {sv0 : Int} (h : Kx W k ty y0 tm0 bv0 gv0 jr0 sv0) (y tm : Int) (bv gv : Value) (jr : ByteArray) (sv : Int) :
    Kx ((((((W.setCell ⟨k, 0, none⟩ (.int .i64 y)).setCell ⟨k, 1, none⟩ (.int .i64 tm)).setCell ⟨k, 2, none⟩ bv).setCell ⟨k, 3, none⟩ gv).setCell ⟨k, 4, none⟩ (.string jr)).setCell ⟨k, 5, none⟩ (.int .i64 sv)) k ty y tm bv gv jr sv :=
  heap_setCell_same _ k 5 _ _ _ (heap_setCell_same _ k 4 _ _ _ (heap_setCell_same _ k 3 _ _ _ (heap_setCell_same _ k 2 _ _ _ (heap_setCell_same _ k 1 _ _ _ (heap_setCell_same W k 0 _ _ _ h)))))
/-- What is left of the room. -/
def kzr (n j : Nat) : Int := if n ≤ 1048576 ∧ n + j ≤ 1048576 then 1048576 - (n : Int) - (j : Int) else -1
set_option maxHeartbeats 800000 in
set_option maxRecDepth 100000 in
theorem szKept_any (lo hi : Nat) (y tm : Int) (ba : Option Addr) (bn bc : Nat) (ga : Option Addr) (gn gc : Nat) (jr : ByteArray) (sv : Int) (S : List X7) (w : World) (hl : S.length = bn) (hn : (bn : Int) ≤ 9223372036854775807) (hft : FitB S) (hm : Bs lo hi w ba S) (hgn : (gn : Int) ≤ 9223372036854775807) (hj : (jr.size : Int) ≤ 9223372036854775807) :
    Calls Try.prog 27 #[.agg #[.int .i64 y, .int .i64 tm, .slice ba bn bc, .slice ga gn gc, .string jr, .int .i64 sv], .int .i64 1048576] w fun e w' => e = .returned (.int .i64 (kzr (szB S + gn) jr.size)) ∧ Below w.heap.size w w' := by
  obtain ⟨W0, hW0⟩ : ∃ W0, w.alloc (.cells #[.int .i64 y, .int .i64 tm, .slice ba bn bc, .slice ga gn gc, .string jr, .int .i64 sv] 40) = W0 := ⟨_, rfl⟩
  have a0 : Kx W0 w.heap.size 40 y tm (.slice ba bn bc) (.slice ga gn gc) jr sv := by subst hW0; exact Kx.new w _ _ _ _ _ _ _
  have b0 : Below w.heap.size w W0 := by subst hW0; exact bpush (bre _) _
  have HC := hid (szStore_any lo hi y tm ba bn bc ga gn gc S W0 hl hn hft (hm.later b0) hgn)
  have A0 := hid a0
  have B0 := hid b0
  have c0 := a0.cells
  obtain ⟨z, hz⟩ : ∃ z : Nat, szB S + gn = z := ⟨_, rfl⟩
  obtain ⟨n, hn2⟩ : ∃ n : Int, (jr.size : Int) = n := ⟨_, rfl⟩
  rw [hz] at HC
  rw [hz]
  clear a0 b0 hl hn hft hm hgn hz
  by_cases hbig : (1048576 : Int) < (z : Int)
  · rw [szr_over hbig] at HC
    have hk : kzr z jr.size = -1 := if_neg (by omega)
    rw [hk]
    clear hbig hk hj hn2
    go_enter Try.func27, Try.ntmps27
    go_wp2_with fail
    clear hW0
    refine HC.out.mono ?_; rintro e w1 ⟨rfl, hb⟩
    have B1 := hid (btr B0.out hb)
    clear hb c0
    go_wp2
    go_ret
    exact ⟨rfl, B1.out⟩
  · rw [szr_fits hbig] at HC
    obtain ⟨q, hq⟩ : ∃ q : Int, (1048576 : Int) - (z : Int) = q := ⟨_, rfl⟩
    rw [hq] at HC
    have hq0 : ¬ q < 0 := by omega
    have hw : wrap64 (q - n) = q - n := by unfold wrap64; omega
    by_cases hs : z + jr.size ≤ 1048576
    · have hk : kzr z jr.size = q - n := by unfold kzr; rw [if_pos (by omega)]; omega
      have hs0 : ¬ q - n < 0 := by omega
      have hb1 : 0 ≤ n ∧ n ≤ 1048576 := by omega
      have hb2 : 0 ≤ q ∧ q ≤ 1048576 := by omega
      rw [hk]
      have HN2 := hid hn2
      clear hbig hk hj hq hs
      go_enter Try.func27, Try.ntmps27
      go_wp2_with fail
      clear hW0
      refine HC.out.mono ?_; rintro e w1 ⟨rfl, hb⟩
      have B1 := hid (btr B0.out hb)
      have c1 := (A0.out.later hb).cells
      clear hb c0
      go_wp2
      go_ret
      exact ⟨rfl, B1.out⟩
    · have hk : kzr z jr.size = -1 := if_neg (by omega)
      have hs0 : q - n < 0 := by omega
      rw [hk]
      clear hbig hk hj hq hs
      go_enter Try.func27, Try.ntmps27
      go_wp2_with fail
      clear hW0
      refine HC.out.mono ?_; rintro e w1 ⟨rfl, hb⟩
      have B1 := hid (btr B0.out hb)
      have c1 := (A0.out.later hb).cells
      clear hb c0
      go_wp2
      go_ret
      exact ⟨rfl, B1.out⟩
set_option maxHeartbeats 1600000 in
set_option maxRecDepth 100000 in
theorem toKept_any (lo hh lo' hh' : Nat) (y tm : Int) (ba : Option Addr) (bn bc : Nat) (ga : Option Addr) (gn gc : Nat) (jr : ByteArray) (sv : Int) (S : List X7) (G : List Int) (w : World) (hl : S.length = bn) (hn : bn ≤ 1048576) (hsb : Sb S) (hm : Bs lo hh w ba S) (hg : G.length = gn) (hgn : gn ≤ 1048576) (hs : Is lo' hh' w ga G) :
    Calls Try.prog 31 #[.agg #[.int .i64 y, .int .i64 tm, .slice ba bn bc, .slice ga gn gc, .string jr, .int .i64 sv]] w fun e w' => ∃ km kg, e = .returned (.agg #[.int .i64 y, .int .i64 tm, .slice (some ⟨km, 0, none⟩) bn bn, .slice (some ⟨kg, 0, none⟩) gn gn, .string jr, .int .i64 sv]) ∧
      OwT w' w.heap.size (.slice (some ⟨km, 0, none⟩) bn bn) (.slice (some ⟨kg, 0, none⟩) gn gn) S G ∧ Below w.heap.size w w' := by
  obtain ⟨W0, hW0⟩ : ∃ W0, (((w.alloc (.cells #[.int .i64 y, .int .i64 tm, .slice ba bn bc, .slice ga gn gc, .string jr, .int .i64 sv] 40)).alloc (.cells #[.int .i64 0, .int .i64 0, .slice none 0 0, .slice none 0 0, .string ⟨#[]⟩, .int .i64 0] 27)).alloc (.cells #[.int .i64 0, .int .i64 0, .slice none 0 0, .slice none 0 0, .string ⟨#[]⟩, .int .i64 0] 27)) = W0 := ⟨_, rfl⟩
  have a0 : Kx W0 w.heap.size 40 y tm (.slice ba bn bc) (.slice ga gn gc) jr sv := by subst hW0; exact (Kx.new w _ _ _ _ _ _ _).later (bpush (bpush (bre _) _) _)
  have a1 : Kx W0 (w.heap.size + 1) 27 0 0 (.slice none 0 0) (.slice none 0 0) ⟨#[]⟩ 0 := by
    have h := (Kx.new (w.alloc (.cells #[.int .i64 y, .int .i64 tm, .slice ba bn bc, .slice ga gn gc, .string jr, .int .i64 sv] 40)) 27 0 0 (.slice none 0 0) (.slice none 0 0) ⟨#[]⟩ 0).later (bpush (bre _) (.cells #[.int .i64 0, .int .i64 0, .slice none 0 0, .slice none 0 0, .string ⟨#[]⟩, .int .i64 0] 27))
    rw [hW0] at h
    simpa using h
  have a2 : Kx W0 (w.heap.size + 1 + 1) 27 0 0 (.slice none 0 0) (.slice none 0 0) ⟨#[]⟩ 0 := by
    have h := Kx.new ((w.alloc (.cells #[.int .i64 y, .int .i64 tm, .slice ba bn bc, .slice ga gn gc, .string jr, .int .i64 sv] 40)).alloc (.cells #[.int .i64 0, .int .i64 0, .slice none 0 0, .slice none 0 0, .string ⟨#[]⟩, .int .i64 0] 27)) 27 0 0 (.slice none 0 0) (.slice none 0 0) ⟨#[]⟩ 0
    rw [hW0] at h
    simpa using h
  have b0 : Below w.heap.size w W0 := by subst hW0; exact bpush (bpush (bpush (bre _) _) _) _
  have HC := hid (toStore_any lo hh lo' hh' y tm ba bn bc ga gn gc S G W0 hl hn hsb (hm.later b0) hg hgn (hs.later b0))
  have A0 := hid a0
  have A1 := hid a1
  have A2 := hid a2
  have B0 := hid b0
  have HW := hid hW0
  have c0 := a0.cells
  clear a0 a1 a2 b0 hl hn hsb hm hg hgn hs hW0
  go_enter Try.func31, Try.ntmps31
  go_wp2_with fail
  rw [HW.out]
  clear HW
  refine HC.out.mono ?_; rintro e w1 ⟨km, kg, rfl, ho, hb⟩
  have D0 := hid (A0.out.later hb)
  have D1 := hid (A1.out.later hb)
  have D2 := hid (A2.out.later hb)
  have LW : Hid (w.heap.size + 1 + 1 < W0.heap.size) := hid A2.out.lt
  have B1 := hid (btr B0.out hb)
  have HO := hid ho
  have c0 := D0.out.cells
  have c1 := D1.out.cells
  have c2 := D2.out.cells
  have f1 := D1.out.loose
  have f2 := D2.out.loose
  clear hb ho A0 A1 A2
  go_wp2
  have g1 := wst (wst (wst (wst (wst (wst (wre w1 (some (w.heap.size + 1 + 1))) 0 (.int .i64 y)) 1 (.int .i64 tm)) 2 (.slice (some ⟨km, 0, none⟩) bn bn)) 3 (.slice (some ⟨kg, 0, none⟩) gn gn)) 4 (.string jr)) 5 (.int .i64 sv)
  have x1 := Kx.set6 (D1.out.grown g1 (by simp)) y tm (.slice (some ⟨km, 0, none⟩) bn bn) (.slice (some ⟨kg, 0, none⟩) gn gn) jr sv
  have g2 := wst (wst (wst (wst (wst (wst (wre (((((( w1.setCell ⟨w.heap.size + 1 + 1, 0, none⟩ (.int .i64 y)).setCell ⟨w.heap.size + 1 + 1, 1, none⟩ (.int .i64 tm)).setCell ⟨w.heap.size + 1 + 1, 2, none⟩ (.slice (some ⟨km, 0, none⟩) bn bn)).setCell ⟨w.heap.size + 1 + 1, 3, none⟩ (.slice (some ⟨kg, 0, none⟩) gn gn)).setCell ⟨w.heap.size + 1 + 1, 4, none⟩ (.string jr)).setCell ⟨w.heap.size + 1 + 1, 5, none⟩ (.int .i64 sv)) (some (w.heap.size + 1))) 0 (.int .i64 y)) 1 (.int .i64 tm)) 2 (.slice (some ⟨km, 0, none⟩) bn bn)) 3 (.slice (some ⟨kg, 0, none⟩) gn gn)) 4 (.string jr)) 5 (.int .i64 sv)
  have d := x1.cells
  have l1 := LW.out
  refine bodyPost_ret (v := .agg #[.int .i64 y, .int .i64 tm, .slice (some ⟨km, 0, none⟩) bn bn, .slice (some ⟨kg, 0, none⟩) gn gn, .string jr, .int .i64 sv]) (by simp [results, Try.results31, go_sem, d]) rfl ⟨km, kg, rfl, ?_, ?_⟩
  · exact ((HO.out.grown g1 l1).grown g2 (by omega)).base (by omega)
  · exact (B1.out.trans (below_grownR g1 (by intro j hj; simp at hj; omega) B1.out.size)).trans (below_grownR g2 (by intro j hj; simp at hj; omega) (Nat.le_trans B1.out.size g1.size))
set_option maxHeartbeats 1600000 in
set_option maxRecDepth 100000 in
theorem specCopy12_any (lo hh lo' hh' : Nat) (y tm : Int) (ba : Option Addr) (bn bc : Nat) (ga : Option Addr) (gn gc : Nat) (jr : ByteArray) (sv : Int) (S : List X7) (G : List Int) (w : World) (hl : S.length = bn) (hn : bn ≤ 1048576) (hsm : Sb S) (hm : Bs lo hh w ba S) (hgl : G.length = gn) (hgn : gn ≤ 1048576) (hs : Is lo' hh' w ga G) (hg0 : ga = none → gc = 0) :
    Calls Try.prog 46 #[.agg #[.int .i64 y, .int .i64 tm, .slice ba bn bc, .slice ga gn gc, .string jr, .int .i64 sv]] w fun e w' => ∃ bv gv, e = .returned (.agg #[.int .i64 y, .int .i64 tm, bv, gv, .string jr, .int .i64 sv]) ∧ OwT w' w.heap.size bv gv S G ∧ Below w.heap.size w w' := by
  obtain ⟨W0, hW0⟩ : ∃ W0, (w.alloc (.cells #[.int .i64 y, .int .i64 tm, .slice ba bn bc, .slice ga gn gc, .string jr, .int .i64 sv] 27)).alloc (.cells #[.int .i64 0, .int .i64 0, .slice none 0 0, .slice none 0 0, .string ⟨#[]⟩, .int .i64 0] 27) = W0 := ⟨_, rfl⟩
  have a0 : Kx W0 w.heap.size 27 y tm (.slice ba bn bc) (.slice ga gn gc) jr sv := by subst hW0; exact (Kx.new w _ _ _ _ _ _ _).later (bpush (bre _) _)
  have a1 : Kx W0 (w.heap.size + 1) 27 0 0 (.slice none 0 0) (.slice none 0 0) ⟨#[]⟩ 0 := by
    have h := Kx.new (w.alloc (.cells #[.int .i64 y, .int .i64 tm, .slice ba bn bc, .slice ga gn gc, .string jr, .int .i64 sv] 27)) 27 0 0 (.slice none 0 0) (.slice none 0 0) ⟨#[]⟩ 0
    rw [hW0] at h
    simpa using h
  have b0 : Below w.heap.size w W0 := by subst hW0; exact bpush (bpush (bre _) _) _
  have HC := hid (fun (W : World) (hb : Below w.heap.size w W) => l07Copy_any lo hh lo' hh' y tm ba bn bc ga gn gc S G W hl hn hsm (hm.later hb) hgl hgn (hs.later hb) hg0)
  have A0 := hid a0
  have A1 := hid a1
  have B0 := hid b0
  have HW := hid hW0
  have HSS : Hid (∀ W, Kx W w.heap.size 27 y tm (.slice ba bn bc) (.slice ga gn gc) jr sv → (W.cell? ⟨w.heap.size, 0, none⟩ = some (.int .i64 y) ∧ W.cell? ⟨w.heap.size, 1, none⟩ = some (.int .i64 tm) ∧ W.cell? ⟨w.heap.size, 2, none⟩ = some (.slice ba bn bc) ∧ W.cell? ⟨w.heap.size, 3, none⟩ = some (.slice ga gn gc) ∧ W.cell? ⟨w.heap.size, 4, none⟩ = some (.string jr) ∧ W.cell? ⟨w.heap.size, 5, none⟩ = some (.int .i64 sv))) := hid (fun W h => h.cells)
  clear a0 a1 b0 hl hn hsm hm hgl hgn hs hg0 hW0
  go_enter Try.func46, Try.ntmps46
  go_upto_region 1 with fail
  rw [HW.out]
  clear HW
  refine wp_region_noPanic ?_
  refine wp_region_held_drew (S := (fun W => (W.cell? ⟨w.heap.size, 0, none⟩ = some (.int .i64 y) ∧ W.cell? ⟨w.heap.size, 1, none⟩ = some (.int .i64 tm) ∧ W.cell? ⟨w.heap.size, 2, none⟩ = some (.slice ba bn bc) ∧ W.cell? ⟨w.heap.size, 3, none⟩ = some (.slice ga gn gc) ∧ W.cell? ⟨w.heap.size, 4, none⟩ = some (.string jr) ∧ W.cell? ⟨w.heap.size, 5, none⟩ = some (.int .i64 sv)))) (by kernel_rfl) (HSS.out _ A0.out) (fun hHeld => ?_)
  obtain ⟨v0, hv0⟩ : ∃ x, W0.drew = x := ⟨_, rfl⟩
  replace A0 := hid (A0.out.later (bdr (bre _)))
  replace A1 := hid (A1.out.later (bdr (bre _)))
  replace B0 := hid (btr B0.out (bdr (bre _)))
  rw [hv0] at A0 A1 B0 hHeld
  rw [hv0]
  clear hv0
  refine tk 0 ?_
  refine tk 1 ?_
  refine tk 3 ?_
  refine tk 4 ?_
  refine tk 5 ?_
  refine tk 6 ?_
  clear hHeld
  refine ry 2 (fun K hK => ?_)
  go_simp
  refine (HC.out _ B0.out).mono ?_; rintro e w1 ⟨bv, gv, rfl, ho, hb⟩
  obtain ⟨ma, mc, na, nc, rfl, rfl⟩ := ho.shape
  have D0 := hid (A0.out.later hb)
  have D1 := hid (A1.out.later hb)
  have B1 := hid (btr B0.out hb)
  have HO := hid ho
  have LW : Hid (w.heap.size + 1 < v0.heap.size) := hid A1.out.lt
  obtain ⟨p, hp⟩ : ∃ n, S.length = n := ⟨_, rfl⟩
  obtain ⟨q, hq⟩ : ∃ n, G.length = n := ⟨_, rfl⟩
  rw [hp, hq] at HO
  rw [hp, hq]
  clear ho hb A0 A1 B0 hp hq
  go_wp2_with fail
  refine hK.out _ _ (HSS.out _ D0.out) (fun hHeld => ?_)
  clear hK K
  try simp only [Act.put, List.setIfInBounds_toArray, List.set_cons_zero, List.set_cons_succ]
  refine tk 7 ?_
  clear hHeld
  have c1 := D1.out.cells
  have f1 := D1.out.loose
  refine ry 8 (fun K hK => ?_)
  go_simp
  have g1 := wst (wst (wst (wst (wst (wst (wre w1 (some (w.heap.size + 1))) 0 (.int .i64 y)) 1 (.int .i64 tm)) 2 (.slice ma p mc)) 3 (.slice na q nc)) 4 (.string jr)) 5 (.int .i64 sv)
  have x1 := Kx.set6 D1.out y tm (.slice ma p mc) (.slice na q nc) jr sv
  have x0 := D0.out.grown g1 (by simp)
  have l1 := LW.out
  have o1 := HO.out.grown g1 l1
  have b1 : Below w.heap.size w _ := B1.out.trans (below_grownR g1 (by intro j hj; simp at hj; omega) B1.out.size)
  obtain ⟨W2, hW2⟩ : ∃ W, (((((w1.setCell ⟨w.heap.size + 1, 0, none⟩ (.int .i64 y)).setCell ⟨w.heap.size + 1, 1, none⟩ (.int .i64 tm)).setCell ⟨w.heap.size + 1, 2, none⟩ (.slice ma p mc)).setCell ⟨w.heap.size + 1, 3, none⟩ (.slice na q nc)).setCell ⟨w.heap.size + 1, 4, none⟩ (.string jr)).setCell ⟨w.heap.size + 1, 5, none⟩ (.int .i64 sv) = W := ⟨_, rfl⟩
  rw [hW2] at x1 x0 o1 b1
  rw [hW2]
  clear hW2 c1 f1 g1 D0 D1 HO B1
  refine hK.out _ _ (HSS.out _ x0) (fun hHeld => ?_)
  clear hK K hHeld
  refine wpAnyH_done (by kernel_rfl) ?_ _
  refine NoPanic.normal ?_
  go_wp2
  have d := x1.cells
  refine bodyPost_ret (v := .agg #[.int .i64 y, .int .i64 tm, .slice ma p mc, .slice na q nc, .string jr, .int .i64 sv]) (by simp [results, Try.results46, go_sem, d]) rfl ⟨_, _, rfl, o1.base (by omega), b1⟩
set_option maxHeartbeats 1600000 in
set_option maxRecDepth 100000 in
theorem copyKept_any (lo hh lo' hh' : Nat) (y tm : Int) (ba : Option Addr) (bn bc : Nat) (ga : Option Addr) (gn gc : Nat) (jr : ByteArray) (sv : Int) (S : List X7) (G : List Int) (w : World) (hl : S.length = bn) (hn : bn ≤ 1048576) (hsm : Sb S) (hm : Bs lo hh w ba S) (hm0 : ba = none → bc = 0) (hgl : G.length = gn) (hgn : gn ≤ 1048576) (hs : Is lo' hh' w ga G) (hg0 : ga = none → gc = 0) (hjr : jr.size ≤ 1048576) :
    Calls Try.prog 50 #[.agg #[.int .i64 y, .int .i64 tm, .slice ba bn bc, .slice ga gn gc, .string jr, .int .i64 sv]] w fun e w' => ∃ bv gv, e = .returned (.agg #[.int .i64 y, .int .i64 tm, bv, gv, .string jr, .int .i64 sv]) ∧ OwT w' w.heap.size bv gv S G ∧ Below w.heap.size w w' := by
  obtain ⟨W0, hW0⟩ : ∃ W0, (w.alloc (.cells #[.int .i64 y, .int .i64 tm, .slice ba bn bc, .slice ga gn gc, .string jr, .int .i64 sv] 27)).alloc (.cells #[.int .i64 0, .int .i64 0, .slice none 0 0, .slice none 0 0, .string ⟨#[]⟩, .int .i64 0] 27) = W0 := ⟨_, rfl⟩
  have a0 : Kx W0 w.heap.size 27 y tm (.slice ba bn bc) (.slice ga gn gc) jr sv := by subst hW0; exact (Kx.new w _ _ _ _ _ _ _).later (bpush (bre _) _)
  have a1 : Kx W0 (w.heap.size + 1) 27 0 0 (.slice none 0 0) (.slice none 0 0) ⟨#[]⟩ 0 := by
    have h := Kx.new (w.alloc (.cells #[.int .i64 y, .int .i64 tm, .slice ba bn bc, .slice ga gn gc, .string jr, .int .i64 sv] 27)) 27 0 0 (.slice none 0 0) (.slice none 0 0) ⟨#[]⟩ 0
    rw [hW0] at h
    simpa using h
  have b0 : Below w.heap.size w W0 := by subst hW0; exact bpush (bpush (bre _) _) _
  have HC := hid (opened_any lo hh lo' hh' y tm ba bn bc ga gn gc S G W0 hl hn hsm (hm.later b0) hm0 hgl hgn (hs.later b0) hg0)
  have A0 := hid a0
  have A1 := hid a1
  have B0 := hid b0
  have HW := hid hW0
  have HJ := hid hjr
  have c0 := a0.cells
  clear a0 a1 b0 hl hn hsm hm hgl hgn hs hg0 hW0 hm0 hjr
  go_enter Try.func50, Try.ntmps50
  go_wp2_with fail
  rw [HW.out]
  clear HW
  refine HC.out.mono ?_; rintro e w1 ⟨rfl, bv, gv, hx, ho, hb⟩
  obtain ⟨ma, mc, na, nc, rfl, rfl⟩ := ho.shape
  obtain ⟨p, hp⟩ : ∃ n, S.length = n := ⟨_, rfl⟩
  obtain ⟨q, hq⟩ : ∃ n, G.length = n := ⟨_, rfl⟩
  rw [hp, hq] at ho hx
  have LW : Hid (w.heap.size + 1 < W0.heap.size) := hid A1.out.lt
  have LW1 : Hid (W0.heap.size ≤ w1.heap.size) := hid hb.size
  have D0 := hid (A0.out.later hb)
  have D1 := hid (A1.out.later hb)
  have B1 := hid (btr B0.out hb)
  have HO := hid ho
  have cx := hx.cells
  have c1 := D0.out.cells
  have f1 := D0.out.loose
  clear ho hb hx A0 A1 B0 hp hq c0
  go_wp2_with fail
  have g1 := wst (wst (wst (wst (wre w1 (some w.heap.size)) 0 (.int .i64 y)) 1 (.int .i64 tm)) 2 (.slice ma p mc)) 3 (.slice na q nc)
  have x0 : Kx ((((w1.setCell ⟨w.heap.size, 0, none⟩ (.int .i64 y)).setCell ⟨w.heap.size, 1, none⟩ (.int .i64 tm)).setCell ⟨w.heap.size, 2, none⟩ (.slice ma p mc)).setCell ⟨w.heap.size, 3, none⟩ (.slice na q nc)) w.heap.size 27 y tm (.slice ma p mc) (.slice na q nc) jr sv :=
    heap_setCell_same _ _ 3 _ _ _ (heap_setCell_same _ _ 2 _ _ _ (heap_setCell_same _ _ 1 _ _ _ (heap_setCell_same _ _ 0 _ _ _ D0.out)))
  have x1 := D1.out.grown g1 (by simp)
  have l1 := LW.out
  have o1 := HO.out.grown g1 (by omega)
  have b1 : Below w.heap.size w _ := B1.out.trans (below_grownR g1 (by intro j hj; simp at hj; omega) B1.out.size)
  obtain ⟨V, hV⟩ : ∃ W, (((w1.setCell ⟨w.heap.size, 0, none⟩ (.int .i64 y)).setCell ⟨w.heap.size, 1, none⟩ (.int .i64 tm)).setCell ⟨w.heap.size, 2, none⟩ (.slice ma p mc)).setCell ⟨w.heap.size, 3, none⟩ (.slice na q nc) = W := ⟨_, rfl⟩
  rw [hV] at x0 x1 o1 b1
  rw [hV]
  clear hV g1 cx c1 f1 HO B1 D0 D1
  refine (clone_any jr V HJ.out).mono ?_; rintro e w2 ⟨rfl, hb2⟩
  have X0 := hid (x0.later hb2)
  have X1 := hid (x1.later hb2)
  have O2 := hid (o1.later hb2)
  have B2 := hid (btr b1 hb2)
  have c1 := X0.out.cells
  have f1 := X0.out.loose
  have c2 := X1.out.cells
  have f2 := X1.out.loose
  clear x0 x1 o1 b1 hb2
  go_wp2
  have hX := Kx.set6 (X1.out.grown (wst (wre w2 (some w.heap.size)) 4 (.string jr)) (by simp)) y tm (.slice ma p mc) (.slice na q nc) jr sv
  have d := hX.cells
  have g2 := wst (wst (wst (wst (wst (wst (wre (w2.setCell ⟨w.heap.size, 4, none⟩ (.string jr)) (some (w.heap.size + 1))) 0 (.int .i64 y)) 1 (.int .i64 tm)) 2 (.slice ma p mc)) 3 (.slice na q nc)) 4 (.string jr)) 5 (.int .i64 sv)
  have g3 := wst (wre w2 (some w.heap.size)) 4 (.string jr)
  have hs2 := B2.out.size
  refine bodyPost_ret (v := .agg #[.int .i64 y, .int .i64 tm, .slice ma p mc, .slice na q nc, .string jr, .int .i64 sv]) (by simp [results, Try.results50, go_sem, d]) rfl ⟨_, _, rfl, ?_, ?_⟩
  · exact ((O2.out.grown g3 (by omega)).grown g2 (by omega)).base (by omega)
  · have b3 := B2.out.trans (below_grownR g3 (by intro j hj; simp at hj; omega) hs2)
    exact b3.trans (below_grownR g2 (by intro j hj; simp at hj; omega) b3.size)
theorem eqKept_any (l1 h1 l2 h2 l3 h3 l4 h4 : Nat) (y tm : Int) (ba : Option Addr) (bn bc : Nat) (ga : Option Addr) (gn gc : Nat) (ba' : Option Addr) (bc' : Nat) (ga' : Option Addr) (gc' : Nat) (jr : ByteArray) (sv : Int) (S : List X7) (G : List Int) (w : World) (hl : S.length = bn) (hn : bn ≤ 1048576) (hsb : Sb S) (hm : Bs l1 h1 w ba S) (hm' : Bs l2 h2 w ba' S)
    (hgl : G.length = gn) (hgn : gn ≤ 1048576) (hs : Is l3 h3 w ga G) (hs' : Is l4 h4 w ga' G) :
    Calls Try.prog 21 #[.agg #[.int .i64 y, .int .i64 tm, .slice ba bn bc, .slice ga gn gc, .string jr, .int .i64 sv], .agg #[.int .i64 y, .int .i64 tm, .slice ba' bn bc', .slice ga' gn gc', .string jr, .int .i64 sv]] w fun e w' => e = .returned (.bool true) ∧ Below w.heap.size w w' :=
  eqKept_of y tm ba bn bc ga gn gc ba' bn bc' ga' gn gc' jr sv w (fun W hb => eqStore_any l1 h1 l2 h2 l3 h3 l4 h4 y tm ba bn bc ga gn gc ba' bc' ga' gc' S G W hl hn hsb (hm.later hb) (hm'.later hb) hgl hgn (hs.later hb) (hs'.later hb))
theorem Chg.after {P : Nat → Prop} {a b c : World} (hb : Below a.heap.size a b) (h : Chg P b c) : Chg P a c := by
  exact (Chg.of_below hb).trans h
theorem markKept_any (B hi : Nat) (y tm : Int) (ma : Option Addr) (mn mc : Nat) (ga : Option Addr) (gn gc : Nat) (jr : ByteArray) (sv : Int) (S : List X7) (G : List Int) (w : World) (hown : OwU w B hi (.slice ma mn mc) (.slice ga gn gc) S G) (hl : S.length = mn) (hn : mn ≤ 1048576) (hsm : SmX S) (hgl : G.length = gn) (hgn : gn ≤ 1048576) (hfz : kx 1 S ≤ 6291456) :
    Calls Try.prog 23 #[.agg #[.int .i64 y, .int .i64 tm, .slice ma mn mc, .slice ga gn gc, .string jr, .int .i64 sv], .int .i64 1] w fun e w' => e = .returned (.int .i64 ((kx 1 S + gn : Nat) : Int)) ∧ OwU w' B hi (.slice ma mn mc) (.slice ga gn gc) (mxl 1 S) (mki (kx 1 S) gn) ∧ Chg (fun j => B ≤ j ∧ j < hi) w w' :=
  markKept_of y tm ma mn mc ga gn gc jr sv 1 _ w (fun w' => OwU w' B hi (.slice ma mn mc) (.slice ga gn gc) (mxl 1 S) (mki (kx 1 S) gn) ∧ Chg (fun j => B ≤ j ∧ j < hi) w w') (fun W hb => (markStore_any B hi y tm ma mn mc ga gn gc S G W (hown.later hb) hl hn hsm hgl hgn hfz).mono fun _ _ h => ⟨h.1, h.2.1, h.2.2.after hb⟩)
theorem heldKept_any (B hi : Nat) (y tm : Int) (ma : Option Addr) (mn mc : Nat) (ga : Option Addr) (gn gc : Nat) (jr : ByteArray) (sv : Int) (S : List X7) (w : World) (hown : OwU w B hi (.slice ma mn mc) (.slice ga gn gc) (mxl 1 S) (mki (kx 1 S) gn)) (hl : S.length = mn) (hn : mn ≤ 1048576) (hsm : SmX S) (hgn : gn ≤ 1048576) (hfz : kx 1 S ≤ 6291456) :
    Calls Try.prog 25 #[.agg #[.int .i64 y, .int .i64 tm, .slice ma mn mc, .slice ga gn gc, .string jr, .int .i64 sv], .int .i64 1] w fun e w' => e = .returned (.int .i64 ((kx 1 S + gn : Nat) : Int)) ∧ Below w.heap.size w w' :=
  heldKept_of y tm ma mn mc ga gn gc jr sv 1 _ w (by omega) (fun W hb => heldStore_any B hi y tm ma mn mc ga gn gc S W (hown.later hb) hl hn hsm hgn hfz)
structure AnsK (wn W : World) (k : Nat) (y tm : Int) (bv gv : Value) (jr : ByteArray) (sv : Int) (S : List X7) (G : List Int) : Prop where
  box : Kx W k 27 y tm bv gv jr sv
  le : wn.heap.size ≤ k
  own : ∃ B hi, OwU W B hi bv gv S G ∧ wn.heap.size ≤ B ∧ hi ≤ W.heap.size ∧ (k < B ∨ hi ≤ k)
  bel : Below wn.heap.size wn W
theorem ansk_last {wn v : World} {B : Nat} {y tm : Int} {bv gv : Value} {jr : ByteArray} {sv : Int} {S : List X7} {G : List Int} (ho : OwT v B bv gv S G) (hB : wn.heap.size ≤ B) (hb : Below wn.heap.size wn v) :
    AnsK wn (v.alloc (.cells #[.int .i64 y, .int .i64 tm, bv, gv, .string jr, .int .i64 sv] 27)) v.heap.size y tm bv gv jr sv S G :=
  ⟨Kx.new v _ _ _ _ _ _ _, hb.size, ⟨B, v.heap.size, ho.u.later (bpush (bre _) _), hB, by simp, .inr (Nat.le_refl _)⟩, bpush hb _⟩
theorem Kx.chg {P : Nat → Prop} {W W' : World} {k ty : Nat} {y tm : Int} {bv gv : Value} {jr : ByteArray} {sv : Int} (h : Kx W k ty y tm bv gv jr sv) (hc : Chg P W W') (hk : ¬ P k) : Kx W' k ty y tm bv gv jr sv := (hc.block k h.lt hk).trans h
/-- Block k holds a session. -/
def Sn (W : World) (k ty : Nat) (i o : ByteArray) (n v : Bool) (b : Int) (gv : Value) : Prop := W.heap[k]? = some (.cells #[.string i, .string o, .bool n, .bool v, .int .i64 b, gv] ty (0, 0))
section
variable {W W' : World} {k ty : Nat} {i o : ByteArray} {n v : Bool} {b : Int} {gv : Value}
theorem Sn.new (w : World) (ty : Nat) (i o : ByteArray) (n v : Bool) (b : Int) (gv : Value) : Sn (w.alloc (.cells #[.string i, .string o, .bool n, .bool v, .int .i64 b, gv] ty)) w.heap.size ty i o n v b gv := heap_alloc_new w _
theorem Sn.lt (h : Sn W k ty i o n v b gv) : k < W.heap.size := (Array.getElem?_eq_some_iff.1 h).1
theorem Sn.later (h : Sn W k ty i o n v b gv) (hb : Below W.heap.size W W') : Sn W' k ty i o n v b gv := (hb.block k h.lt).trans h
theorem Sn.grown {r : Option Nat} (h : Sn W k ty i o n v b gv) (hg : W.grownBy W' r) (hk : some k ≠ r) : Sn W' k ty i o n v b gv := (hg.block k h.lt hk).trans h
theorem Sn.cells (h : Sn W k ty i o n v b gv) : W.cell? ⟨k, 0, none⟩ = some (.string i) ∧ W.cell? ⟨k, 1, none⟩ = some (.string o) ∧ W.cell? ⟨k, 2, none⟩ = some (.bool n) ∧ W.cell? ⟨k, 3, none⟩ = some (.bool v) ∧ W.cell? ⟨k, 4, none⟩ = some (.int .i64 b) ∧ W.cell? ⟨k, 5, none⟩ = some gv :=
  ⟨cell_of_row W k 0 _ _ _ h, cell_of_row W k 1 _ _ _ h, cell_of_row W k 2 _ _ _ h, cell_of_row W k 3 _ _ _ h, cell_of_row W k 4 _ _ _ h, cell_of_row W k 5 _ _ _ h⟩
theorem Sn.loose (h : Sn W k ty i o n v b gv) : W.frozen? ⟨k, 0, none⟩ = false ∧ W.frozen? ⟨k, 1, none⟩ = false ∧ W.frozen? ⟨k, 2, none⟩ = false ∧ W.frozen? ⟨k, 3, none⟩ = false ∧ W.frozen? ⟨k, 4, none⟩ = false ∧ W.frozen? ⟨k, 5, none⟩ = false :=
  ⟨frozen_of_row W k 0 _ _ h, frozen_of_row W k 1 _ _ h, frozen_of_row W k 2 _ _ h, frozen_of_row W k 3 _ _ h, frozen_of_row W k 4 _ _ h, frozen_of_row W k 5 _ _ h⟩
theorem Sn.s0 (h : Sn W k ty i o n v b gv) (x : ByteArray) : Sn (W.setCell ⟨k, 0, none⟩ (.string x)) k ty x o n v b gv := heap_setCell_same W k 0 _ _ _ h
theorem Sn.s1 (h : Sn W k ty i o n v b gv) (x : ByteArray) : Sn (W.setCell ⟨k, 1, none⟩ (.string x)) k ty i x n v b gv := heap_setCell_same W k 1 _ _ _ h
theorem Sn.s2 (h : Sn W k ty i o n v b gv) (x : Bool) : Sn (W.setCell ⟨k, 2, none⟩ (.bool x)) k ty i o x v b gv := heap_setCell_same W k 2 _ _ _ h
theorem Sn.s3 (h : Sn W k ty i o n v b gv) (x : Bool) : Sn (W.setCell ⟨k, 3, none⟩ (.bool x)) k ty i o n x b gv := heap_setCell_same W k 3 _ _ _ h
theorem Sn.s4 (h : Sn W k ty i o n v b gv) (x : Int) : Sn (W.setCell ⟨k, 4, none⟩ (.int .i64 x)) k ty i o n v x gv := heap_setCell_same W k 4 _ _ _ h
theorem Sn.s5 (h : Sn W k ty i o n v b gv) (x : Value) : Sn (W.setCell ⟨k, 5, none⟩ x) k ty i o n v b x := heap_setCell_same W k 5 _ _ _ h
end
/-- A block's six cells, all put. -/
def put6 (W : World) (k : Nat) (i o : ByteArray) (n v : Bool) (b : Int) (gv : Value) : World := (((((W.setCell ⟨k, 0, none⟩ (.string i)).setCell ⟨k, 1, none⟩ (.string o)).setCell ⟨k, 2, none⟩ (.bool n)).setCell ⟨k, 3, none⟩ (.bool v)).setCell ⟨k, 4, none⟩ (.int .i64 b)).setCell ⟨k, 5, none⟩ gv
theorem Sn.put {W : World} {k ty : Nat} {i0 o0 : ByteArray} {n0 v0 : Bool} {b0 : Int} {gv0 : Value} (h : Sn W k ty i0 o0 n0 v0 b0 gv0) (i o : ByteArray) (n v : Bool) (b : Int) (gv : Value) : Sn (put6 W k i o n v b gv) k ty i o n v b gv := (((((h.s0 i).s1 o).s2 n).s3 v).s4 b).s5 gv
theorem put6_grown (W : World) (k : Nat) (i o : ByteArray) (n v : Bool) (b : Int) (gv : Value) : W.grownBy (put6 W k i o n v b gv) (some k) := wst (wst (wst (wst (wst (wst (wre W (some k)) 0 _) 1 _) 2 _) 3 _) 4 _) 5 _
abbrev snv (i o : ByteArray) (n v : Bool) (b : Int) (gv : Value) : Value := .agg #[.string i, .string o, .bool n, .bool v, .int .i64 b, gv]
abbrev sn0 : Array Value := #[.string ⟨#[]⟩, .string ⟨#[]⟩, .bool false, .bool false, .int .i64 0, .slice none 0 0]
theorem is_all15 {lo hi : Nat} {W : World} {ad : Addr} {G : List Int} (h : Is lo hi W (some ad) G) : ∀ j u, (G.map (Value.int .i64))[j]? = some u → W.cell? (ad.add j) = some u := by
  intro j u hu
  have hj : j < G.length := by have := (List.getElem?_eq_some_iff.1 hu).1; simpa using this
  obtain ⟨k, o, h1, _, _, hc⟩ := h.2 j hj
  simp only [Option.some.injEq] at h1
  subst h1
  rw [addr_add, hc]
  rw [List.getElem?_map, List.getElem?_eq_getElem hj] at hu
  simpa using hu
theorem int_one15 (G : List Int) : ∀ u ∈ G.map (Value.int .i64), u.oneCell' = true := by
  intro u hu
  obtain ⟨x, _, rfl⟩ := List.mem_map.1 hu
  rfl
theorem ownI_empty15 (W : World) (B : Nat) (hB : B ≤ W.heap.size) : OwI (W.alloc (.cells #[] 3)) B (.slice (some ⟨W.heap.size, 0, none⟩) 0 0) [] :=
  World.ownsRow_lit (base := B) (e := 3) (size := 1) W #[] 0 hB (by unfold maxLen; omega) rfl
theorem info_int15 : (Try.prog.info? 3).map (fun i => (i.zero, i.size, i.bytes)) = some (some (.int .i64 0), 1, 8) := by kernel_rfl
set_option maxHeartbeats 1600000 in
set_option maxRecDepth 100000 in
theorem copy15_any (lo hi : Nat) (i o : ByteArray) (n v : Bool) (b : Int) (ga : Option Addr) (gn gc : Nat) (G : List Int) (w : World) (hgl : G.length = gn) (hgn : gn ≤ 1048576) (hs : Is lo hi w ga G) (hg0 : ga = none → gc = 0) :
    Calls Try.prog 47 #[snv i o n v b (.slice ga gn gc)] w fun e w' => ∃ ag cg, e = .returned (snv i o n v b (.slice ag gn cg)) ∧ OwI w' w.heap.size (.slice ag gn cg) G ∧ Below w.heap.size w w' := by
  obtain ⟨W0, hW0⟩ : ∃ W0, ((w.alloc (.cells #[.string i, .string o, .bool n, .bool v, .int .i64 b, .slice ga gn gc] 29)).alloc (.cells sn0 29)).alloc (.cells #[.string i, .string o, .bool n, .bool v, .int .i64 b, .slice ga gn gc] 29) = W0 := ⟨_, rfl⟩
  have b0 : Below w.heap.size w W0 := by subst hW0; exact bpush (bpush (bpush (bre _) _) _) _
  have x0 : Sn W0 w.heap.size 29 i o n v b (.slice ga gn gc) := by subst hW0; exact ((Sn.new w _ _ _ _ _ _ _).later (bpush (bre _) _)).later (bpush (bre _) _)
  have x1 : Sn W0 (w.heap.size + 1) 29 ⟨#[]⟩ ⟨#[]⟩ false false 0 (.slice none 0 0) := by
    subst hW0
    have h := Sn.new (w.alloc (.cells #[.string i, .string o, .bool n, .bool v, .int .i64 b, .slice ga gn gc] 29)) 29 ⟨#[]⟩ ⟨#[]⟩ false false 0 (.slice none 0 0)
    simp at h
    exact h.later (bpush (bre _) _)
  have x2 : Sn W0 (w.heap.size + 1 + 1) 29 i o n v b (.slice ga gn gc) := by
    subst hW0
    have h := Sn.new ((w.alloc (.cells #[.string i, .string o, .bool n, .bool v, .int .i64 b, .slice ga gn gc] 29)).alloc (.cells sn0 29)) 29 i o n v b (.slice ga gn gc)
    simpa using h
  have X0 := hid x0
  have X1 := hid x1
  have X2 := hid x2
  have B0 := hid b0
  have HW := hid hW0
  have HIS := hid hs
  have HGL := hid hgl
  have HGN := hid hgn
  have HG0 := hid hg0
  clear x0 x1 x2 b0 hW0 hs hgl hgn hg0
  go_enter Try.func47, Try.ntmps47
  go_upto_region 2 with fail
  rw [HW.out]
  clear HW
  have hlt : Hid (w.heap.size + 1 + 1 < W0.heap.size) := hid X2.out.lt
  cases ga with
  | none =>
    obtain rfl := HG0.out rfl
    have hz : gn = 0 := by
      rcases Nat.eq_zero_or_pos gn with h | h
      · exact h
      · obtain ⟨k, o, h1, _⟩ := HIS.out.at (i := 0) (by rw [HGL.out]; exact h)
        cases h1
    subst hz
    have hge : G = [] := List.eq_nil_of_length_eq_zero HGL.out
    subst hge
    obtain ⟨w1, hw1⟩ : ∃ w1, W0.alloc (.cells #[] 3) = w1 := ⟨_, rfl⟩
    have b1 : Below W0.heap.size W0 w1 := by subst hw1; exact bpush (bre _) _
    have O1 := hid (show OwI w1 W0.heap.size (.slice (some ⟨W0.heap.size, 0, none⟩) 0 0) [] by subst hw1; exact ownI_empty15 W0 _ (Nat.le_refl _))
    have c0 := (X0.out.later b1).cells

    have d2 := (X2.out.later b1).cells
    have f2 := (X2.out.later b1).loose
    have d1 := (X1.out.later b1).cells
    have f1 := (X1.out.later b1).loose
    have D1 := hid (X1.out.later b1)
    have D2 := hid (X2.out.later b1)
    have B1 := hid (btr B0.out b1)
    clear b1 X0 X1 X2 B0
    go_wp2
    clear hw1
    have g2 := wst (wre w1 (some (w.heap.size + 1 + 1))) 5 (.slice (some ⟨W0.heap.size, 0, none⟩) 0 0)
    have g3 := put6_grown (w1.setCell ⟨w.heap.size + 1 + 1, 5, none⟩ (.slice (some ⟨W0.heap.size, 0, none⟩) 0 0)) (w.heap.size + 1) i o n v b (.slice (some ⟨W0.heap.size, 0, none⟩) 0 0)
    have d := ((D1.out.grown g2 (by simp)).put i o n v b (.slice (some ⟨W0.heap.size, 0, none⟩) 0 0)).cells
    have hl := hlt.out
    unfold put6 at d g3
    refine bodyPost_ret (v := snv i o n v b (.slice (some ⟨W0.heap.size, 0, none⟩) 0 0)) (by simp [results, Try.results47, go_sem, d]) rfl ⟨_, _, rfl, own_base (OwI.grown (OwI.grown O1.out g2 (by omega)) g3 (by omega)) (by omega), ?_⟩
    exact B1.out.trans ((below_of_grown g2 (by omega) B1.out.size).trans (below_of_grown g3 (by omega) (Nat.le_trans B1.out.size g2.size)))
  | some ad =>
    obtain ⟨i0, hi0, hz0, hz1, hz2⟩ := info_parts info_int15
    have HSRC : Hid (∀ j u, (G.map (Value.int .i64))[j]? = some u → (W0.alloc (.cells #[] 3)).cell? (ad.add j) = some u) := is_all15 (HIS.out.later (btr B0.out (bpush (bre _) _)))
    have ca := (X0.out.later (bpush (bre W0) (.cells #[] 3))).cells
    go_wp2_with (at_builtin; refine wpList_append_own _ rfl (.tmp 5) (.tmp 7) 23 rfl W0.heap.size 3 i0 _ 1 8 Try.underlying23 hi0 hz0 hz1 hz2 rfl (by decide) _ 0 [] (by rfl) (ownI_empty15 W0 _ (Nat.le_refl _)) ad gn gc (G.map (Value.int .i64)) (by rfl) (by rw [List.length_map, HGL.out, Nat.mul_one]) HSRC.out (int_one15 G) (by have := HGN.out; unfold maxLen; omega) (by have := HGN.out; omega) (by simp) ?_; intro v1 w1 hown1 hg1 _; have own1 : OwI w1 W0.heap.size v1 G := (by simpa [OwI, HGL.out] using hown1); obtain ⟨ag, cg, hvg, _⟩ := own1.shape; rw [HGL.out] at hvg; subst hvg; have b1 : Below W0.heap.size W0 w1 := (bpush (bre W0) _).grown hg1 (by simp) (by intro k hk; simp [Value.ownBlock] at hk; omega); have d2 := (X2.out.later b1).cells; have f2 := (X2.out.later b1).loose; have d1 := (X1.out.later b1).cells; have f1 := (X1.out.later b1).loose; have D1 := hid (X1.out.later b1); have B1 := hid (btr B0.out b1); have O1 := hid own1; clear own1 hown1 hg1 b1)
    have g2 := wst (wre w1 (some (w.heap.size + 1 + 1))) 5 (.slice ag gn cg)
    have g3 := put6_grown (w1.setCell ⟨w.heap.size + 1 + 1, 5, none⟩ (.slice ag gn cg)) (w.heap.size + 1) i o n v b (.slice ag gn cg)
    have d := ((D1.out.grown g2 (by simp)).put i o n v b (.slice ag gn cg)).cells
    have hl := hlt.out
    unfold put6 at d g3
    refine bodyPost_ret (v := snv i o n v b (.slice ag gn cg)) (by simp [results, Try.results47, go_sem, d]) rfl ⟨_, _, rfl, own_base (OwI.grown (OwI.grown O1.out g2 (by omega)) g3 (by omega)) (by omega), ?_⟩
    exact B1.out.trans ((below_of_grown g2 (by omega) B1.out.size).trans (below_of_grown g3 (by omega) (Nat.le_trans B1.out.size g2.size)))
def fso (i t : ByteArray) (v : Bool) : Bool := !v && decide (t.size ≤ 400) && decide (i.size + t.size ≤ 400)
/-- In, behind it. -/
def fsi (i t : ByteArray) (v : Bool) : ByteArray := if fso i t v = true then i ++ t else i
theorem own_apart15 {W W' : World} {B k : Nat} {v : Value} {G : List Int} (h : OwI W B v G) (hg : W.grownBy W' (some k)) (hk : ∀ j, v.ownBlock = some j → j < k) : OwI W' B v G := World.ownsRow.kept h hg (by
  cases hv : Value.ownBlock v with
  | none => exact Or.inl rfl
  | some j => exact Or.inr (fun e => by
      have h1 := hk j hv
      have h2 : j = k := Option.some.inj e
      omega))
theorem fso_ways (i t : ByteArray) (v : Bool) : ∃ I k, fsi i t v = I ∧ fso i t v = k ∧ ((k = true ∧ I = i ++ t ∧ v = false ∧ ¬ (400 : Int) < (t.size : Int) ∧ ¬ (400 : Int) < (i.size : Int) + (t.size : Int)) ∨ (k = false ∧ I = i ∧ (v = true ∨ (v = false ∧ (400 : Int) < (t.size : Int)) ∨ (v = false ∧ ¬ (400 : Int) < (t.size : Int) ∧ (400 : Int) < (i.size : Int) + (t.size : Int))))) := by
  refine ⟨_, _, rfl, rfl, ?_⟩
  by_cases hok : fso i t v = true
  · refine Or.inl ⟨hok, if_pos hok, ?_⟩
    unfold fso at hok
    simp only [Bool.and_eq_true, decide_eq_true_eq, Bool.not_eq_true'] at hok
    exact ⟨hok.1.1, by omega, by omega⟩
  · refine Or.inr ⟨by simpa using hok, if_neg hok, ?_⟩
    unfold fso at hok
    simp only [Bool.and_eq_true, decide_eq_true_eq, Bool.not_eq_true'] at hok
    cases v with
    | true => exact Or.inl rfl
    | false =>
      by_cases h : (400 : Int) < (t.size : Int)
      · exact Or.inr (Or.inl ⟨rfl, h⟩)
      · exact Or.inr (Or.inr ⟨rfl, h, by
          by_cases h2 : (400 : Int) < (i.size : Int) + (t.size : Int)
          · exact h2
          · exact absurd ⟨⟨rfl, by omega⟩, by omega⟩ hok⟩)
set_option maxHeartbeats 1600000 in
set_option maxRecDepth 100000 in
theorem specFeed_any (lo hi : Nat) (i o : ByteArray) (n v : Bool) (b : Int) (ga : Option Addr) (gn gc : Nat) (G : List Int) (t : ByteArray) (w : World) (hi1 : i.size ≤ 1048576) (ht1 : t.size ≤ 1048576) (hgl : G.length = gn) (hgn : gn ≤ 1048576) (hs : Is lo hi w ga G) (hg0 : ga = none → gc = 0) :
    Calls Try.prog 30 #[snv i o n v b (.slice ga gn gc), .string t] w fun e w' => ∃ ag cg, e = .returned (.tuple #[snv (fsi i t v) o n v b (.slice ag gn cg), .bool (fso i t v)]) ∧ OwI w' w.heap.size (.slice ag gn cg) G ∧ Below w.heap.size w w' := by
  obtain ⟨W0, hW0⟩ : ∃ W0, (w.alloc (.cells #[.string i, .string o, .bool n, .bool v, .int .i64 b, .slice ga gn gc] 29)).alloc (.cells sn0 29) = W0 := ⟨_, rfl⟩
  have b0 : Below w.heap.size w W0 := by subst hW0; exact bpush (bpush (bre _) _) _
  have x0 : Sn W0 w.heap.size 29 i o n v b (.slice ga gn gc) := by subst hW0; exact (Sn.new w _ _ _ _ _ _ _).later (bpush (bre _) _)
  have x1 : Sn W0 (w.heap.size + 1) 29 ⟨#[]⟩ ⟨#[]⟩ false false 0 (.slice none 0 0) := by
    subst hW0
    have h := Sn.new (w.alloc (.cells #[.string i, .string o, .bool n, .bool v, .int .i64 b, .slice ga gn gc] 29)) 29 ⟨#[]⟩ ⟨#[]⟩ false false 0 (.slice none 0 0)
    simpa using h
  have HC := hid (copy15_any lo hi i o n v b ga gn gc G W0 hgl hgn (hs.later b0) hg0)
  have X0 := hid x0
  have X1 := hid x1
  have B0 := hid b0
  have HW := hid hW0
  have c0 := x0.cells
  clear x0 x1 b0 hW0 hs hgl hgn hg0
  have hw1 : wrap64 ((i.size : Int) + (t.size : Int)) = (i.size : Int) + (t.size : Int) := by unfold wrap64; omega
  obtain ⟨I, k, e1, e2, hways⟩ := fso_ways i t v
  rw [e1, e2]
  have HY := hid hways
  clear e1 e2 hways
  go_enter Try.func30, Try.ntmps30
  go_wp2_with fail
  rw [HW.out]
  clear HW
  refine HC.out.mono ?_; rintro e w1 ⟨ag, cg, rfl, ho, hb⟩
  have hlt : Hid (w.heap.size + 1 < W0.heap.size) := hid X1.out.lt
  have hle : Hid (W0.heap.size ≤ w1.heap.size) := hid hb.size
  have HLT : Hid (∀ j, Value.ownBlock (.slice ag gn cg) = some j → j < w1.heap.size) := fun j hj => (World.ownsRow.lt ho j hj).2
  obtain ⟨w2, hw2⟩ : ∃ W, w1.alloc (.cells #[.string i, .string o, .bool n, .bool v, .int .i64 b, .slice ag gn cg] 29) = W := ⟨_, rfl⟩
  have b2 : Below w1.heap.size w1 w2 := by subst hw2; exact bpush (bre _) _
  have x2 : Sn w2 w1.heap.size 29 i o n v b (.slice ag gn cg) := by subst hw2; exact Sn.new w1 _ _ _ _ _ _ _
  have O2 := hid (show OwI w2 W0.heap.size (.slice ag gn cg) G from own_later ho b2)
  have Y0 := hid ((X0.out.later hb).later b2)
  have Y1 := hid ((X1.out.later hb).later b2)
  have Y2 := hid x2
  have B2 := hid (btr (btr B0.out hb) b2)
  have c1 := Y0.out.cells
  have c2 := x2.cells
  have f2 := x2.loose
  have c3 := Y1.out.cells
  have f3 := Y1.out.loose
  clear ho hb b2 x2 X0 X1 B0 c0 HC
  rcases HY.out with ⟨rfl, rfl, rfl, h3, h4⟩ | ⟨rfl, rfl, rfl | ⟨rfl, h3⟩ | ⟨rfl, h3, h4⟩⟩
  · clear HY
    have hl : w.heap.size + 1 < w1.heap.size := by have h1 := hlt.out; have h2 := hle.out; omega
    go_wp2
    have g2 := wst (wre w2 (some w1.heap.size)) 0 (.string (i ++ t))
    have g3 := put6_grown (w2.setCell ⟨w1.heap.size, 0, none⟩ (.string (i ++ t))) (w.heap.size + 1) (i ++ t) o n false b (.slice ag gn cg)
    have d := ((Y1.out.grown g2 (by simp; omega)).put (i ++ t) o n false b (.slice ag gn cg)).cells
    unfold put6 at d g3
    have ho2 := OwI.grown (own_apart15 O2.out g2 HLT.out) g3 (by have := hlt.out; omega)
    refine bodyPost_ret (v := .tuple #[snv (i ++ t) o n false b (.slice ag gn cg), .bool true]) (by simp [results, Try.results30, go_sem, d]) rfl ⟨_, _, rfl, own_base ho2 (by have := hlt.out; omega), ?_⟩
    exact B2.out.trans ((below_of_grown g2 (by omega) B2.out.size).trans (below_of_grown g3 (by omega) (Nat.le_trans B2.out.size g2.size)))
  · clear HY
    go_wp2
    have g3 := put6_grown w2 (w.heap.size + 1) I o n true b (.slice ag gn cg)
    have d := (Y1.out.put I o n true b (.slice ag gn cg)).cells
    unfold put6 at d g3
    have ho2 := OwI.grown O2.out g3 (by have := hlt.out; omega)
    refine bodyPost_ret (v := .tuple #[snv I o n true b (.slice ag gn cg), .bool false]) (by simp [results, Try.results30, go_sem, d]) rfl ⟨_, _, rfl, own_base ho2 (by have := hlt.out; omega), ?_⟩
    exact B2.out.trans (below_of_grown g3 (by omega) B2.out.size)
  · clear HY
    go_wp2
    have g3 := put6_grown w2 (w.heap.size + 1) I o n false b (.slice ag gn cg)
    have d := (Y1.out.put I o n false b (.slice ag gn cg)).cells
    unfold put6 at d g3
    have ho2 := OwI.grown O2.out g3 (by have := hlt.out; omega)
    refine bodyPost_ret (v := .tuple #[snv I o n false b (.slice ag gn cg), .bool false]) (by simp [results, Try.results30, go_sem, d]) rfl ⟨_, _, rfl, own_base ho2 (by have := hlt.out; omega), ?_⟩
    exact B2.out.trans (below_of_grown g3 (by omega) B2.out.size)
  · clear HY
    go_wp2
    have g3 := put6_grown w2 (w.heap.size + 1) I o n false b (.slice ag gn cg)
    have d := (Y1.out.put I o n false b (.slice ag gn cg)).cells
    unfold put6 at d g3
    have ho2 := OwI.grown O2.out g3 (by have := hlt.out; omega)
    refine bodyPost_ret (v := .tuple #[snv I o n false b (.slice ag gn cg), .bool false]) (by simp [results, Try.results30, go_sem, d]) rfl ⟨_, _, rfl, own_base ho2 (by have := hlt.out; omega), ?_⟩
    exact B2.out.trans (below_of_grown g3 (by omega) B2.out.size)
set_option maxHeartbeats 800000 in
set_option maxRecDepth 100000 in
theorem eqSn_any (l1 h1 l2 h2 : Nat) (i o : ByteArray) (n v : Bool) (b : Int) (ga ga' : Option Addr) (gn gc gc' : Nat) (G : List Int) (w : World) (hl : G.length = gn) (hn : gn ≤ 1048576) (ha : Is l1 h1 w ga G) (hb : Is l2 h2 w ga' G) :
    Calls Try.prog 22 #[snv i o n v b (.slice ga gn gc), snv i o n v b (.slice ga' gn gc')] w fun e w' => e = .returned (.bool true) ∧ Below w.heap.size w w' := by
  obtain ⟨W0, hW0⟩ : ∃ W0, (w.alloc (.cells #[.string i, .string o, .bool n, .bool v, .int .i64 b, .slice ga gn gc] 29)).alloc (.cells #[.string i, .string o, .bool n, .bool v, .int .i64 b, .slice ga' gn gc'] 29) = W0 := ⟨_, rfl⟩
  have b0 : Below w.heap.size w W0 := by subst hW0; exact bpush (bpush (bre _) _) _
  have x0 : Sn W0 w.heap.size 29 i o n v b (.slice ga gn gc) := by subst hW0; exact (Sn.new w _ _ _ _ _ _ _).later (bpush (bre _) _)
  have x1 : Sn W0 (w.heap.size + 1) 29 i o n v b (.slice ga' gn gc') := by
    subst hW0
    have h := Sn.new (w.alloc (.cells #[.string i, .string o, .bool n, .bool v, .int .i64 b, .slice ga gn gc] 29)) 29 i o n v b (.slice ga' gn gc')
    simpa using h
  have HC := hid (eqIntS_any l1 h1 l2 h2 ga ga' gn gc gc' G W0 hl hn (ha.later b0) (hb.later b0))
  have B0 := hid b0
  have c0 := x0.cells
  have c1 := x1.cells
  clear x0 x1 b0 ha hb hl
  have e1 : (!i.toList == i.toList) = false := by simp
  have e2 : (!o.toList == o.toList) = false := by simp
  have e3 : (b != b) = false := by simp
  have e4 : (n != n) = false := by simp
  have e5 : (v != v) = false := by simp
  go_enter Try.func22, Try.ntmps22
  go_wp2_with fail
  clear hW0
  refine HC.out.mono ?_; rintro e w1 ⟨rfl, hb⟩
  have B1 := hid (btr B0.out hb)
  clear hb c0 c1
  go_wp2
  go_ret
  exact ⟨rfl, B1.out⟩
set_option maxHeartbeats 800000 in
set_option maxRecDepth 100000 in
theorem markSn_any (B : Nat) (i o : ByteArray) (n v : Bool) (b : Int) (ga : Option Addr) (gn gc k : Nat) (G : List Int) (w : World) (hown : OwI w B (.slice ga gn gc) G) (hl : G.length = gn) (hn : gn ≤ 1048576) (hk : k ≤ 8000000) :
    Calls Try.prog 24 #[snv i o n v b (.slice ga gn gc), .int .i64 (k : Int)] w fun e w' => e = .returned (.int .i64 ((k + gn : Nat) : Int)) ∧ OwI w' B (.slice ga gn gc) (mki k gn) ∧ w.grownBy w' (Value.ownBlock (.slice ga gn gc)) := by
  obtain ⟨W0, hW0⟩ : ∃ W0, w.alloc (.cells #[.string i, .string o, .bool n, .bool v, .int .i64 b, .slice ga gn gc] 29) = W0 := ⟨_, rfl⟩
  have b0 : Below w.heap.size w W0 := by subst hW0; exact bpush (bre _) _
  have x0 : Sn W0 w.heap.size 29 i o n v b (.slice ga gn gc) := by subst hW0; exact Sn.new w _ _ _ _ _ _ _
  have G0 := hid (show w.grownBy W0 (Value.ownBlock (.slice ga gn gc)) by subst hW0; exact World.grownBy_alloc _ _ _)
  have HC := hid (markIS_any B ga gn gc k G W0 (own_later hown b0) hl hn hk)
  have c0 := x0.cells
  clear x0 b0 hown hl
  go_enter Try.func24, Try.ntmps24
  go_wp2_with fail
  clear hW0
  refine HC.out.mono ?_; rintro e w1 ⟨rfl, ho, hg⟩
  have HO := hid ho
  have HG := hid (wtr G0.out hg)
  clear ho hg c0
  go_wp2
  go_ret
  exact ⟨rfl, HO.out, HG.out⟩
set_option maxHeartbeats 800000 in
set_option maxRecDepth 100000 in
theorem heldSn_any (B : Nat) (i o : ByteArray) (n v : Bool) (b : Int) (ga : Option Addr) (gn gc k : Nat) (w : World) (hown : OwI w B (.slice ga gn gc) (mki k gn)) (hn : gn ≤ 1048576) (hk : k ≤ 8000000) :
    Calls Try.prog 26 #[snv i o n v b (.slice ga gn gc), .int .i64 (k : Int)] w fun e w' => e = .returned (.int .i64 ((k + gn : Nat) : Int)) ∧ Below w.heap.size w w' := by
  obtain ⟨W0, hW0⟩ : ∃ W0, w.alloc (.cells #[.string i, .string o, .bool n, .bool v, .int .i64 b, .slice ga gn gc] 29) = W0 := ⟨_, rfl⟩
  have b0 : Below w.heap.size w W0 := by subst hW0; exact bpush (bre _) _
  have x0 : Sn W0 w.heap.size 29 i o n v b (.slice ga gn gc) := by subst hW0; exact Sn.new w _ _ _ _ _ _ _
  have HC := hid (heldIS_any B ga gn gc k W0 (own_later hown b0) hn hk)
  have B0 := hid b0
  have c0 := x0.cells
  clear x0 b0 hown
  have h2 : ¬ ((k + gn : Nat) : Int) < 0 := by omega
  go_enter Try.func26, Try.ntmps26
  go_wp2_with fail
  clear hW0
  refine HC.out.mono ?_; rintro e w1 ⟨rfl, rfl⟩
  clear c0
  go_wp2
  go_ret
  exact ⟨rfl, B0.out⟩
theorem markSn1 (B : Nat) (i o : ByteArray) (n v : Bool) (b : Int) (ga : Option Addr) (gn gc : Nat) (G : List Int) (w : World) (hown : OwI w B (.slice ga gn gc) G) (hl : G.length = gn) (hn : gn ≤ 1048576) :
    Calls Try.prog 24 #[snv i o n v b (.slice ga gn gc), .int .i64 1] w fun e w' => e = .returned (.int .i64 ((1 + gn : Nat) : Int)) ∧ OwI w' B (.slice ga gn gc) (mki 1 gn) ∧ w.grownBy w' (Value.ownBlock (.slice ga gn gc)) :=
  markSn_any B i o n v b ga gn gc 1 G w hown hl hn (by decide)
theorem heldSn1 (B : Nat) (i o : ByteArray) (n v : Bool) (b : Int) (ga : Option Addr) (gn gc : Nat) (w : World) (hown : OwI w B (.slice ga gn gc) (mki 1 gn)) (hn : gn ≤ 1048576) :
    Calls Try.prog 26 #[snv i o n v b (.slice ga gn gc), .int .i64 1] w fun e w' => e = .returned (.int .i64 ((1 + gn : Nat) : Int)) ∧ Below w.heap.size w w' :=
  heldSn_any B i o n v b ga gn gc 1 w hown hn (by decide)
theorem own_off15 {W W' : World} {B : Nat} {r : Option Nat} {v : Value} {G : List Int} (h : OwI W B v G) (hg : W.grownBy W' r) (hk : ∀ j, v.ownBlock = some j → r ≠ some j) : OwI W' B v G := World.ownsRow.kept h hg (by
  cases hv : Value.ownBlock v with
  | none => exact Or.inl rfl
  | some j => exact Or.inr (fun e => hk j hv e.symm))
theorem is_far15 {lo hi : Nat} {W W' : World} {ga : Option Addr} {G : List Int} {r : Option Nat} (h : Is lo hi W ga G) (hg : W.grownBy W' r) (hk : ∀ j, r = some j → hi ≤ j) : Is lo hi W' ga G :=
  h.same (Nat.le_trans h.1 hg.size) (fun j _ h2 => hg.block j (Nat.lt_of_lt_of_le h2 h.1) (fun e => by have := hk j e.symm; omega))
theorem is_off15 {lo hi : Nat} {W W' : World} {ga : Option Addr} {G : List Int} {k : Nat} (h : Is lo hi W ga G) (hg : W.grownBy W' (some k)) (hk : hi ≤ k) : Is lo hi W' ga G :=
  h.same (Nat.le_trans h.1 hg.size) (fun j _ h2 => hg.block j (Nat.lt_of_lt_of_le h2 h.1) (by simp; omega))
/-- What is left of the room. -/
def szn (i o n : Nat) : Int := if i + o + n ≤ 1048576 then 1048576 - (i : Int) - (o : Int) - (n : Int) else -1
set_option maxHeartbeats 800000 in
set_option maxRecDepth 100000 in
theorem szSn_any (i o : ByteArray) (n v : Bool) (b : Int) (ga : Option Addr) (gn gc : Nat) (w : World) (hi : (i.size : Int) ≤ 9223372036854775807) (ho : (o.size : Int) ≤ 9223372036854775807) (hn : (gn : Int) ≤ 9223372036854775807) :
    Calls Try.prog 28 #[snv i o n v b (.slice ga gn gc), .int .i64 1048576] w fun e w' => e = .returned (.int .i64 (szn i.size o.size gn)) ∧ Below w.heap.size w w' := by
  obtain ⟨W0, hW0⟩ : ∃ W0, w.alloc (.cells #[.string i, .string o, .bool n, .bool v, .int .i64 b, .slice ga gn gc] 41) = W0 := ⟨_, rfl⟩
  have b0 : Below w.heap.size w W0 := by subst hW0; exact bpush (bre _) _
  have x0 : Sn W0 w.heap.size 41 i o n v b (.slice ga gn gc) := by subst hW0; exact Sn.new w _ _ _ _ _ _ _
  have B0 := hid b0
  have c0 := x0.cells
  have HN := hid hn
  clear x0 b0 hn
  have hw : wrap64 (1048576 - (i.size : Int)) = 1048576 - (i.size : Int) := by unfold wrap64; omega
  by_cases h1 : i.size ≤ 1048576
  · have h1' : ¬ 1048576 - (i.size : Int) < 0 := by omega
    have hw2 : wrap64 (1048576 - (i.size : Int) - (o.size : Int)) = 1048576 - (i.size : Int) - (o.size : Int) := by unfold wrap64; omega
    by_cases h2 : i.size + o.size ≤ 1048576
    · have h2' : ¬ 1048576 - (i.size : Int) - (o.size : Int) < 0 := by omega
      obtain ⟨lf, hlf⟩ : ∃ lf, 1048576 - (i.size : Int) - (o.size : Int) = lf := ⟨_, rfl⟩
      have HC := hid (fun (W : World) => szIntS_any ga gn gc lf W HN.out (by omega))
      rw [hlf] at h2' hw2
      by_cases h3 : i.size + o.size + gn ≤ 1048576
      · have HE : szn i.size o.size gn = lf - gn := by unfold szn; rw [if_pos h3, ← hlf]
        have HF : szr lf gn = lf - gn := szr_fits (by omega)
        have h4 : ¬ lf - (gn : Int) < 0 := by omega
        rw [HE]
        rw [HF] at HC
        clear HE HF h1 h2 h3 hi ho
        go_enter Try.func28, Try.ntmps28
        go_wp2_with fail
        clear hW0
        refine (HC.out _).mono ?_; rintro e w1 ⟨rfl, rfl⟩
        go_wp2
        go_ret
        exact ⟨rfl, B0.out⟩
      · have HE : szn i.size o.size gn = -1 := if_neg h3
        have HF : szr lf gn = -1 := szr_over (by omega)
        rw [HE]
        rw [HF] at HC
        clear HE HF h1 h2 h3 hi ho
        go_enter Try.func28, Try.ntmps28
        go_wp2_with fail
        clear hW0
        refine (HC.out _).mono ?_; rintro e w1 ⟨rfl, rfl⟩
        go_wp2
        go_ret
        exact ⟨rfl, B0.out⟩
    · have HE : szn i.size o.size gn = -1 := if_neg (by omega)
      rw [HE]
      have h2' : 1048576 - (i.size : Int) - (o.size : Int) < 0 := by omega
      clear HE h1 h2 hi ho
      go_enter Try.func28, Try.ntmps28
      go_wp2
      go_ret
      exact ⟨rfl, B0.out⟩
  · have HE : szn i.size o.size gn = -1 := if_neg (by omega)
    rw [HE]
    have h1' : 1048576 - (i.size : Int) < 0 := by omega
    clear HE h1 hi ho
    go_enter Try.func28, Try.ntmps28
    go_wp2
    go_ret
    exact ⟨rfl, B0.out⟩
set_option maxHeartbeats 1600000 in
set_option maxRecDepth 100000 in
theorem toSn_any (lo hi : Nat) (i o : ByteArray) (n v : Bool) (b : Int) (ga : Option Addr) (gn gc : Nat) (G : List Int) (w : World) (hl : G.length = gn) (hn : gn ≤ 1048576) (hs : Is lo hi w ga G) (hhi : hi ≤ w.heap.size) :
    Calls Try.prog 32 #[snv i o n v b (.slice ga gn gc)] w fun e w' => ∃ kg, e = .returned (snv i o n v b (.slice (some ⟨kg, 0, none⟩) gn gn)) ∧ OwI w' w.heap.size (.slice (some ⟨kg, 0, none⟩) gn gn) G ∧ Below w.heap.size w w' := by
  obtain ⟨W0, hW0⟩ : ∃ W0, ((w.alloc (.cells #[.string i, .string o, .bool n, .bool v, .int .i64 b, .slice ga gn gc] 41)).alloc (.cells sn0 29)).alloc (.cells sn0 29) = W0 := ⟨_, rfl⟩
  have b0 : Below w.heap.size w W0 := by subst hW0; exact bpush (bpush (bpush (bre _) _) _) _
  have x0 : Sn W0 w.heap.size 41 i o n v b (.slice ga gn gc) := by subst hW0; exact ((Sn.new w _ _ _ _ _ _ _).later (bpush (bre _) _)).later (bpush (bre _) _)
  have x1 : Sn W0 (w.heap.size + 1) 29 ⟨#[]⟩ ⟨#[]⟩ false false 0 (.slice none 0 0) := by
    subst hW0
    have h := Sn.new (w.alloc (.cells #[.string i, .string o, .bool n, .bool v, .int .i64 b, .slice ga gn gc] 41)) 29 ⟨#[]⟩ ⟨#[]⟩ false false 0 (.slice none 0 0)
    simp at h
    exact h.later (bpush (bre _) _)
  have x2 : Sn W0 (w.heap.size + 1 + 1) 29 ⟨#[]⟩ ⟨#[]⟩ false false 0 (.slice none 0 0) := by
    subst hW0
    have h := Sn.new ((w.alloc (.cells #[.string i, .string o, .bool n, .bool v, .int .i64 b, .slice ga gn gc] 41)).alloc (.cells sn0 29)) 29 ⟨#[]⟩ ⟨#[]⟩ false false 0 (.slice none 0 0)
    simpa using h
  have HIS := hid (hs.later b0)
  have HHI : Hid (hi ≤ w.heap.size + 1 + 1) := hid (by omega)
  have X1 := hid x1
  have X2 := hid x2
  have B0 := hid b0
  have HW := hid hW0
  have c0 := x0.cells
  have c2 := x2.cells
  have f2 := x2.loose
  clear x0 x1 x2 b0 hW0 hs
  go_enter Try.func32, Try.ntmps32
  go_upto_region 2 with fail
  rw [HW.out]
  clear HW
  go_wp2_with fail
  have g1 := wst (wst (wst (wst (wst (wre W0 (some (w.heap.size + 1 + 1))) 0 (.string i)) 1 (.string o)) 2 (.bool n)) 3 (.bool v)) 4 (.int .i64 b)
  have y2 := ((((X2.out.s0 i).s1 o).s2 n).s3 v).s4 b
  have y1 := X1.out.grown g1 (by simp)
  have hlt : w.heap.size + 1 + 1 < W0.heap.size := X2.out.lt
  have hle := B0.out.size
  have b1 : Below w.heap.size w _ := B0.out.trans (below_of_grown g1 (by omega) hle)
  obtain ⟨V, hV⟩ : ∃ W, ((((W0.setCell ⟨w.heap.size + 1 + 1, 0, none⟩ (.string i)).setCell ⟨w.heap.size + 1 + 1, 1, none⟩ (.string o)).setCell ⟨w.heap.size + 1 + 1, 2, none⟩ (.bool n)).setCell ⟨w.heap.size + 1 + 1, 3, none⟩ (.bool v)).setCell ⟨w.heap.size + 1 + 1, 4, none⟩ (.int .i64 b) = W := ⟨_, rfl⟩
  rw [hV] at g1 y2 y1 b1
  rw [hV]
  have hs1 : Is lo hi V ga G := is_off15 HIS.out g1 HHI.out
  have hlv : w.heap.size + 1 + 1 < V.heap.size := y2.lt
  clear hV c0 c2 f2 g1 X1 X2 B0
  refine (toIntS_any lo hi ga gn gc G V hl hn hs1).mono ?_; rintro e w3 ⟨rfl, ho, hb⟩
  have Y1 := hid (y1.later hb)
  have Y2 := hid (y2.later hb)
  have B3 := hid (btr b1 hb)
  have HO := hid ho
  have HL := hid hlv
  have HW0 := hid hle
  have c1 := Y1.out.cells
  have f1 := Y1.out.loose
  have c2 := Y2.out.cells
  have f2 := Y2.out.loose
  clear y1 y2 b1 ho hb hs1 hlv hle hlt hl
  go_wp2
  have g2 := wst (wre w3 (some (w.heap.size + 1 + 1))) 5 (.slice (some ⟨V.heap.size, 0, none⟩) gn gn)
  have g3 := put6_grown (w3.setCell ⟨w.heap.size + 1 + 1, 5, none⟩ (.slice (some ⟨V.heap.size, 0, none⟩) gn gn)) (w.heap.size + 1) i o n v b (.slice (some ⟨V.heap.size, 0, none⟩) gn gn)
  have d := ((Y1.out.grown g2 (by simp)).put i o n v b (.slice (some ⟨V.heap.size, 0, none⟩) gn gn)).cells
  have hl := HL.out
  unfold put6 at d g3
  refine bodyPost_ret (v := snv i o n v b (.slice (some ⟨V.heap.size, 0, none⟩) gn gn)) (by simp [results, Try.results32, go_sem, d]) rfl ⟨_, rfl, own_base (OwI.grown (OwI.grown HO.out g2 (by omega)) g3 (by omega)) (by omega), ?_⟩
  exact B3.out.trans ((below_of_grown g2 (by omega) B3.out.size).trans (below_of_grown g3 (by omega) (Nat.le_trans B3.out.size g2.size)))
set_option maxHeartbeats 1600000 in
set_option maxRecDepth 100000 in
theorem copyOfSession_any (lo hi : Nat) (i o : ByteArray) (n v : Bool) (b : Int) (ga : Option Addr) (gn gc : Nat) (G : List Int) (w : World) (hi1 : i.size ≤ 1048576) (ho1 : o.size ≤ 1048576) (hgl : G.length = gn) (hgn : gn ≤ 1048576) (hs : Is lo hi w ga G) (hg0 : ga = none → gc = 0) :
    Calls Try.prog 51 #[snv i o n v b (.slice ga gn gc)] w fun e w' => ∃ ag cg, e = .returned (snv i o n v b (.slice ag gn cg)) ∧ OwI w' w.heap.size (.slice ag gn cg) G ∧ Below w.heap.size w w' := by
  obtain ⟨W0, hW0⟩ : ∃ W0, (w.alloc (.cells #[.string i, .string o, .bool n, .bool v, .int .i64 b, .slice ga gn gc] 29)).alloc (.cells sn0 29) = W0 := ⟨_, rfl⟩
  have b0 : Below w.heap.size w W0 := by subst hW0; exact bpush (bpush (bre _) _) _
  have x0 : Sn W0 w.heap.size 29 i o n v b (.slice ga gn gc) := by subst hW0; exact (Sn.new w _ _ _ _ _ _ _).later (bpush (bre _) _)
  have x1 : Sn W0 (w.heap.size + 1) 29 ⟨#[]⟩ ⟨#[]⟩ false false 0 (.slice none 0 0) := by
    subst hW0
    have h := Sn.new (w.alloc (.cells #[.string i, .string o, .bool n, .bool v, .int .i64 b, .slice ga gn gc] 29)) 29 ⟨#[]⟩ ⟨#[]⟩ false false 0 (.slice none 0 0)
    simpa using h
  have HS := hid (hs.later b0)
  have HHI : Hid (hi ≤ w.heap.size) := hid hs.1
  have X0 := hid x0
  have X1 := hid x1
  have B0 := hid b0
  have HW := hid hW0
  have HI := hid hi1
  have HO := hid ho1
  have HGL := hid hgl
  have HGN := hid hgn
  have HG0 := hid hg0
  have c0 := x0.cells
  clear x0 x1 b0 hW0 hs hgl hgn hg0 hi1 ho1
  go_enter Try.func51, Try.ntmps51
  go_wp2_with fail
  rw [HW.out]
  clear HW c0
  refine (clone_any i _ HI.out).mono ?_; rintro e w1 ⟨rfl, hb⟩
  have X0 := hid (X0.out.later hb)
  have X1 := hid (X1.out.later hb)
  have HS := hid (HS.out.later hb)
  have B0 := hid (btr B0.out hb)
  have c0 := X0.out.cells
  have f0 := X0.out.loose
  clear hb
  go_wp2_with fail
  obtain ⟨V1, hV1⟩ : ∃ W, w1.setCell ⟨w.heap.size, 0, none⟩ (.string i) = W := ⟨_, rfl⟩
  have g1 := wst (wre w1 (some w.heap.size)) 0 (.string i)
  have y0 := X0.out.s0 i
  rw [hV1] at g1 y0 ⊢
  have X0 := hid y0
  have X1 := hid (X1.out.grown g1 (by simp))
  have HS := hid (is_off15 HS.out g1 HHI.out)
  have B0 := hid (B0.out.trans (below_of_grown g1 (Nat.le_refl _) B0.out.size))
  clear c0 f0 g1 y0 hV1
  refine (clone_any o _ HO.out).mono ?_; rintro e w2 ⟨rfl, hb⟩
  have X0 := hid (X0.out.later hb)
  have X1 := hid (X1.out.later hb)
  have HS := hid (HS.out.later hb)
  have B0 := hid (btr B0.out hb)
  have c0 := X0.out.cells
  have f0 := X0.out.loose
  clear hb
  go_wp2_with fail
  obtain ⟨V2, hV2⟩ : ∃ W, w2.setCell ⟨w.heap.size, 1, none⟩ (.string o) = W := ⟨_, rfl⟩
  have g1 := wst (wre w2 (some w.heap.size)) 1 (.string o)
  have y0 := X0.out.s1 o
  rw [hV2] at g1 y0 ⊢
  have X0 := hid y0
  have X1 := hid (X1.out.grown g1 (by simp))
  have HS := hid (is_off15 HS.out g1 HHI.out)
  have B0 := hid (B0.out.trans (below_of_grown g1 (Nat.le_refl _) B0.out.size))
  clear c0 f0 g1 y0 hV2
  have HLT : Hid (w.heap.size + 1 < V2.heap.size) := hid X1.out.lt
  refine (cloneI_any lo hi ga gn gc G _ HGL.out HGN.out HS.out HG0.out).mono ?_; rintro e w3 ⟨v1, rfl, ho, hb⟩
  obtain ⟨ag, cg, hvg, _⟩ := OwI.shape ho
  rw [HGL.out] at hvg
  subst hvg
  have X0 := hid (X0.out.later hb)
  have X1 := hid (X1.out.later hb)
  have hlt : Hid (w.heap.size + 1 < V2.heap.size) := HLT
  have B0 := hid (btr B0.out hb)
  have O := hid ho
  have c0 := X0.out.cells
  have f0 := X0.out.loose
  have c1 := X1.out.cells
  have f1 := X1.out.loose
  clear ho hb
  go_wp2
  have g2 := wst (wre w3 (some w.heap.size)) 5 (.slice ag gn cg)
  have g3 := put6_grown (w3.setCell ⟨w.heap.size, 5, none⟩ (.slice ag gn cg)) (w.heap.size + 1) i o n v b (.slice ag gn cg)
  have d := ((X1.out.grown g2 (by simp)).put i o n v b (.slice ag gn cg)).cells
  have hl := hlt.out
  unfold put6 at d g3
  refine bodyPost_ret (v := snv i o n v b (.slice ag gn cg)) (by simp [results, Try.results51, go_sem, d]) rfl ⟨_, _, rfl, own_base (OwI.grown (OwI.grown O.out g2 (by omega)) g3 (by omega)) (by omega), ?_⟩
  exact B0.out.trans ((below_of_grown g2 (by omega) B0.out.size).trans (below_of_grown g3 (by omega) (Nat.le_trans B0.out.size g2.size)))
end Go.Proofs.Ytckenihadlmlaaa
