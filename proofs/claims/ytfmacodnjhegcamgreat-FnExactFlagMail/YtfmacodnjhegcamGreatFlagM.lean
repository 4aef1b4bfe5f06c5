/- Flags of a mail in a box set, as the specification does it. -/
import Derived.Test.YtfmacodnjhegcamGreatFlagP
namespace Go.Proofs.YtfmacodnjhegcamGreat
open Go.RowKit Go.ChangeMaps

theorem heap_far (W : World) {k j : Nat} (h : ¬ k = j) (i : Nat) (v : Value) (hj : j < W.heap.size) : (W.setCell ⟨k, i, none⟩ v).heap[j]? = W.heap[j]? := by
  have hg : W.grownBy (W.setCell ⟨k, i, none⟩ v) (some k) := wst (wre _ _) _ _
  exact hg.block j hj (fun e => h (by simpa using e.symm))

set_option maxHeartbeats 16000000 in
set_option maxRecDepth 100000 in
theorem specFlag_any (lo hh lo' hh' : Nat) (g : Int) (nm : ByteArray) (t b nx : Int) (ma : Option Addr) (mn mc : Nat) (ga : Option Addr) (gn gc : Nat) (L : List M4) (G : List Int) (gid n st sb : Int) (w : World) (hnm : nm.size ≤ 1048576) (hl : L.length = mn) (hn : mn ≤ 1048576) (hsm : Sm L) (hm : Ms lo hh w ma L) (hgl : G.length = gn) (hgn : gn ≤ 1048576) (hs : Is lo' hh' w ga G) (hg0 : ga = none → gc = 0) :
    Calls Tryz.prog 6 #[.agg #[.int .i64 g, .string nm, .int .i64 t, .int .i64 b, .int .i64 nx, .slice ma mn mc, .slice ga gn gc], .int .i64 gid, .int .i64 n, .agg #[.int .i64 st, .int .i64 sb]] w fun e w' =>
      ∃ mv gv, e = .returned (.tuple #[.agg #[.int .i64 g, .string nm, .int .i64 t, .int .i64 b, .int .i64 nx, mv, gv], .bool (fmOk g nm t b nx L G gid n st sb)]) ∧ OwB w' w.heap.size mv gv (fmL (fmOk g nm t b nx L G gid n st sb) L gid n st sb) G ∧ Below w.heap.size w w' := by
  obtain ⟨p1, hp1, csp, _⟩ := box_l g nm t b nx mn gn L G hnm hl hn hsm hgl hgn
  obtain ⟨mt, hmt⟩ : ∃ mt, mat gid L 0 = mt := ⟨_, rfl⟩
  obtain ⟨p4, hp4, cp4⟩ := in_range n 0 7
  obtain ⟨p5, hp5, cp5, _⟩ := st_l st sb
  have HX : Hid (fmOk g nm t b nx L G gid n st sb = (p1 && (decide (0 ≤ mt) && (p4 && p5)))) := by show _ = _; rw [hp1.out, ← hmt, mat_any, hp4.out, hp5.out]; rfl
  have HAN : Hid (decide (0 ≤ mt) = L.any (fun m => decide (m.1 = gid))) := by show _ = _; rw [← hmt, mat_any]
  obtain ⟨W0, hW0⟩ : ∃ W0, ((w.alloc (.cells #[.int .i64 g, .string nm, .int .i64 t, .int .i64 b, .int .i64 nx, .slice ma mn mc, .slice ga gn gc] 32)).alloc (.cells #[.int .i64 st, .int .i64 sb] 29)).alloc (.cells #[.int .i64 0, .string ⟨#[]⟩, .int .i64 0, .int .i64 0, .int .i64 0, .slice none 0 0, .slice none 0 0] 32) = W0 := ⟨_, rfl⟩
  obtain ⟨a0, a1, a2, b0, s0⟩ := box_stamp w g nm t b nx (.slice ma mn mc) (.slice ga gn gc) st sb W0 hW0
  have c0 := a0.cells
  have A0 := hid a0
  have A1 := hid a1
  have A2 := hid a2
  have B0 := hid b0
  have S0 := hid s0
  have HP1 := hid hp1.out
  have HMT := hid hmt
  have HL := hid hl
  have HN := hid hn
  have HSM := hid hsm
  have HR := hid hm
  have HGL := hid hgl
  have HGN := hid hgn
  have HIS := hid hs
  have HG0 := hid hg0
  have HNM := hid hnm
  clear a0 a1 a2 b0 s0 hp1 hmt hp4 hp5 hl hsm hm hgl hgn hs hg0 hnm hn
  go_enter Tryz.func6, Tryz.ntmps6
  go_wp2_with fail
  clear hW0
  refine (l06Copy_any lo hh lo' hh' g nm t b nx ma mn mc ga gn gc L G W0 HL.out HN.out HSM.out (HR.out.later B0.out) HGL.out HGN.out (HIS.out.later B0.out) HG0.out).mono ?_; rintro e w1 ⟨mv, gv, rfl, how1, hb1⟩
  obtain ⟨Z, hZ, hoz, hoi, hdj, hde⟩ := how1
  obtain ⟨va, vc, rfl⟩ := hoz.shape
  obtain ⟨ag, cg, hgv, _⟩ := hoi.shape
  rw [HGL.out] at hgv
  subst hgv
  obtain ⟨OB, hOB⟩ : ∃ OB, w1.heap.size = OB := ⟨_, rfl⟩
  obtain ⟨W2, hW2⟩ : ∃ W2, w1.alloc (.cells #[.int .i64 g, .string nm, .int .i64 t, .int .i64 b, .int .i64 nx, .slice va Z.length vc, .slice ag gn cg] 32) = W2 := ⟨_, rfl⟩
  have hs0 := S0.out
  have b2 : Below w1.heap.size w1 W2 := by subst hW2; exact bpush (bre _) _
  have t2 : Stt w W2 OB g nm t b nx (.slice ma mn mc) (.slice ga gn gc) st sb (.slice va Z.length vc) (.slice ag gn cg) Z G := by
    refine ⟨(A0.out.later hb1).later b2, (A1.out.later hb1).later b2, (A2.out.later hb1).later b2, ?_, (hoz.base (by omega)).later b2, own_later (own_base hoi (by omega)) b2, btr (btr B0.out hb1) b2⟩
    rw [← hW2, ← hOB]; exact Bx.new w1 _ g nm t b nx _ _
  have HOBB : Hid (w.heap.size + 1 + 1 + 1 ≤ OB) := by show _ ≤ _; rw [← hOB]; have := hb1.size; omega
  have HRO : Hid (∀ j, Value.ownBlock (.slice va Z.length vc) = some j → j ≠ OB) := fun j hj => by have := (hoz.row.lt j hj).2; omega
  have HEO : Hid (∀ z ∈ Z, ∀ j, z.2.2.1.ownBlock = some j → j ≠ OB) := fun z hz j hj => by have := ((hoz.each z hz).lt j hj).2; omega
  have HGO : Hid (∀ j, Value.ownBlock (.slice ag gn cg) = some j → j ≠ OB) := fun j hj => by have := (hoi.lt j hj).2; omega
  have HDJ := hid hdj
  have HDE := hid hde
  have HZL := hid hZ
  have T2 := hid t2
  have k0 := t2.out.cells
  have q1 := t2.ans.cells
  have q2 := t2.ans.loose
  have c0 := t2.box.cells
  clear b2 t2 hoz hoi hdj hde hZ hb1 A0 A1 A2 B0 hs0
  go_wp2_with fail
  clear hW2
  refine (specMailAt_any lo hh g nm t b nx ma mn mc (.slice ga gn gc) L gid _ HL.out HN.out (HR.out.later T2.out.bel)).mono ?_; rintro e w3 ⟨rfl, hb3⟩
  rw [HMT.out]
  have T3 := hid (T2.out.later hb3)
  have c0 := T3.out.box.cells
  have k0 := T3.out.out.cells
  have q1 := T3.out.ans.cells
  have q2 := T3.out.ans.loose
  clear hb3 T2
  go_wp2_with fail
  refine (csp.out lo hh lo' hh' ma mc ga gc _ (HR.out.later T3.out.bel) (HIS.out.later T3.out.bel)).mono ?_; rintro e w4 ⟨rfl, hb4⟩
  have T4 := hid (T3.out.later hb4)
  have c0 := T4.out.box.cells
  have k0 := T4.out.out.cells
  have q1 := T4.out.ans.cells
  have q2 := T4.out.ans.loose
  clear hb4 T3
  cases p1
  · have HE : Hid (fmOk g nm t b nx L G gid n st sb = false) := by show _ = _; rw [HX.out]; rfl
    go_wp2
    have e2 := set7_grown w4 (w.heap.size + 1 + 1) g nm t b nx (.slice va Z.length vc) (.slice ag gn cg)
    have d1 := (T4.out.ans.set7 g nm t b nx (.slice va Z.length vc) (.slice ag gn cg)).cells
    unfold set7 at d1 e2
    have hbs := T4.out.bel.size
    refine bodyPost_ret (v := .tuple #[.agg #[.int .i64 g, .string nm, .int .i64 t, .int .i64 b, .int .i64 nx, .slice va Z.length vc, .slice ag gn cg], .bool false]) (by simp [results, Tryz.results6, go_sem, d1]) rfl ⟨_, _, by rw [HE.out], ?_, ?_⟩
    · rw [HE.out, fmL_no]
      exact (OwB.grown ⟨Z, HZL.out, T4.out.ml, T4.out.gl, HDJ.out, HDE.out⟩ e2 (by omega)).base (by omega)
    · exact T4.out.bel.trans (below_of_grown e2 (by omega) hbs)
  have HP1' := bx_parts HP1.out.symm
  have HUQ := hid HP1'.2.2.2.1
  have HMN : Hid (mn ≤ 10) := by show _ ≤ _; rw [← HL.out]; exact HP1'.1
  clear HP1'
  by_cases hmt : mt < 0
  · have HE : Hid (fmOk g nm t b nx L G gid n st sb = false) := by show _ = _; rw [HX.out]; rw [decide_eq_false (by omega : ¬ 0 ≤ mt)]; rfl
    go_wp2
    have e2 := set7_grown w4 (w.heap.size + 1 + 1) g nm t b nx (.slice va Z.length vc) (.slice ag gn cg)
    have d1 := (T4.out.ans.set7 g nm t b nx (.slice va Z.length vc) (.slice ag gn cg)).cells
    unfold set7 at d1 e2
    have hbs := T4.out.bel.size
    refine bodyPost_ret (v := .tuple #[.agg #[.int .i64 g, .string nm, .int .i64 t, .int .i64 b, .int .i64 nx, .slice va Z.length vc, .slice ag gn cg], .bool false]) (by simp [results, Tryz.results6, go_sem, d1]) rfl ⟨_, _, by rw [HE.out], ?_, ?_⟩
    · rw [HE.out, fmL_no]
      exact (OwB.grown ⟨Z, HZL.out, T4.out.ml, T4.out.gl, HDJ.out, HDE.out⟩ e2 (by omega)).base (by omega)
    · exact T4.out.bel.trans (below_of_grown e2 (by omega) hbs)
  go_wp2_with fail
  refine (cp4.out _).mono ?_; rintro e w5 ⟨rfl, h5⟩
  subst h5
  cases p4
  · have HE : Hid (fmOk g nm t b nx L G gid n st sb = false) := by show _ = _; rw [HX.out]; simp
    go_wp2
    have e2 := set7_grown w5 (w.heap.size + 1 + 1) g nm t b nx (.slice va Z.length vc) (.slice ag gn cg)
    have d1 := (T4.out.ans.set7 g nm t b nx (.slice va Z.length vc) (.slice ag gn cg)).cells
    unfold set7 at d1 e2
    have hbs := T4.out.bel.size
    refine bodyPost_ret (v := .tuple #[.agg #[.int .i64 g, .string nm, .int .i64 t, .int .i64 b, .int .i64 nx, .slice va Z.length vc, .slice ag gn cg], .bool false]) (by simp [results, Tryz.results6, go_sem, d1]) rfl ⟨_, _, by rw [HE.out], ?_, ?_⟩
    · rw [HE.out, fmL_no]
      exact (OwB.grown ⟨Z, HZL.out, T4.out.ml, T4.out.gl, HDJ.out, HDE.out⟩ e2 (by omega)).base (by omega)
    · exact T4.out.bel.trans (below_of_grown e2 (by omega) hbs)
  have st0 := T4.out.stm.cells
  go_wp2_with fail
  refine (cp5.out _).mono ?_; rintro e w6 ⟨rfl, hb6⟩
  clear st0
  have T6 := hid (T4.out.later hb6)
  have c0 := T6.out.box.cells
  have k0 := T6.out.out.cells
  have q1 := T6.out.ans.cells
  have q2 := T6.out.ans.loose
  clear hb6 T4
  cases p5
  · have HE : Hid (fmOk g nm t b nx L G gid n st sb = false) := by show _ = _; rw [HX.out]; simp
    go_wp2
    have e2 := set7_grown w6 (w.heap.size + 1 + 1) g nm t b nx (.slice va Z.length vc) (.slice ag gn cg)
    have d1 := (T6.out.ans.set7 g nm t b nx (.slice va Z.length vc) (.slice ag gn cg)).cells
    unfold set7 at d1 e2
    have hbs := T6.out.bel.size
    refine bodyPost_ret (v := .tuple #[.agg #[.int .i64 g, .string nm, .int .i64 t, .int .i64 b, .int .i64 nx, .slice va Z.length vc, .slice ag gn cg], .bool false]) (by simp [results, Tryz.results6, go_sem, d1]) rfl ⟨_, _, by rw [HE.out], ?_, ?_⟩
    · rw [HE.out, fmL_no]
      exact (OwB.grown ⟨Z, HZL.out, T6.out.ml, T6.out.gl, HDJ.out, HDE.out⟩ e2 (by omega)).base (by omega)
    · exact T6.out.bel.trans (below_of_grown e2 (by omega) hbs)
  have HE : Hid (fmOk g nm t b nx L G gid n st sb = true) := by show _ = _; rw [HX.out, decide_eq_true (by omega : 0 ≤ mt)]; rfl
  obtain ⟨A, m0, C, hLS, hMG, hNA, hNC⟩ := any_split HUQ.out (by rw [← HAN.out, decide_eq_true (by omega : 0 ≤ mt)])
  obtain ⟨i, hi⟩ : ∃ i, A.length = i := ⟨_, rfl⟩
  have hmi : mt = (i : Int) := by
    rw [← HMT.out, hLS, mat_split A m0 C 0 hNA hMG, ← hi]; simp
  subst hmi
  have hil : i < L.length := by rw [hLS, List.length_append, List.length_cons]; omega
  obtain ⟨kk, o, fa, fc, rfl, hk, ⟨-, -, cf, -⟩, hrs, hf0⟩ := HR.out.at hil
  have hLi : L[i] = m0 := by
    subst hi
    simp only [hLS, List.getElem_append_right (Nat.le_refl _), Nat.sub_self, List.getElem_cons_zero]
  have hsm := HSM.out L[i] (List.getElem_mem hil)
  rw [hLi] at cf hrs hsm
  obtain ⟨g1, u1, l1, t1⟩ := m0
  dsimp only at cf hrs hsm
  obtain ⟨m, hm⟩ : ∃ m, l1.length = m := ⟨_, rfl⟩
  rw [hm] at cf hsm
  have hzl : Z.length = L.length := by rw [← HZL.out, List.length_map]
  rcases T6.out.ml.row.2 with ⟨_, h2⟩ | ⟨gr, cap', cur, h1, hB, -⟩
  · exfalso; omega
  simp only [Value.slice.injEq] at h1
  obtain ⟨rfl, -, rfl⟩ := h1
  have hiz : i < Z.length := by omega
  obtain ⟨zf, hzf⟩ : ∃ zf, Z[i].2.2.1 = zf := ⟨_, rfl⟩
  have hZi : Z[i] = (g1, u1, zf, l1, t1) := by
    have h1 : (Z.map md)[i]'(by rw [List.length_map]; exact hiz) = L[i] := by simp only [HZL.out]
    rw [List.getElem_map, hLi] at h1
    rw [← hzf]
    simp only [md, Prod.mk.injEq] at h1
    obtain ⟨e1, e2, e3, e4⟩ := h1
    rw [← e1, ← e2, ← e3, ← e4]
  have HM := hid hm
  have HMB := hid hsm.1
  have HRS := hid (hrs.later T6.out.bel)
  have HF0 := hid hf0
  have HOZ := hid T6.out.ml
  have HIZ := hid hiz
  have HZI := hid hZi
  have X6 := hid T6.out.out
  have HGB : Hid (w.heap.size + 1 + 1 + 1 ≤ gr) := hB
  have HGO2 : Hid (gr ≠ OB) := HRO.out gr rfl
  have HGL6 : Hid (gr < w6.heap.size) := (T6.out.ml.row.lt gr rfl).2
  have hw6 := T6.out.ans.lt
  have HWB : Hid (w.heap.size + 1 + 1 + 1 ≤ w6.heap.size) := hw6
  have HWB2 : Hid (w.heap.size + 1 + 1 + 1 ≤ w6.heap.size) := hw6
  have HLS := hid hLS
  have HIA : Hid (i = A.length) := hi.symm
  have HMG := hid hMG
  have HNA := hid hNA
  have HNC := hid hNC
  have hmn : i < mn := by have := HL.out; omega
  have hI : (0 : Int) ≤ (i : Int) ∧ (i : Int) < (Z.length : Int) ∧ (i : Int) < (mn : Int) := by omega
  have HSS : Hid (∀ W, Below (w.heap.size + 1 + 1 + 1) w6 W → W.heap[OB]? = w6.heap[OB]? → W.cell? ⟨OB, 5, none⟩ = some (.slice (some ⟨gr, 0, none⟩) Z.length vc) ∧ W.cell? ⟨w.heap.size, 5, none⟩ = some (.slice (some ⟨kk, o, none⟩) mn mc) ∧ (W.cell? ⟨w.heap.size + 1, 0, none⟩ = some (.int .i64 st) ∧ W.cell? ⟨w.heap.size + 1, 1, none⟩ = some (.int .i64 sb)) ∧ W.cell? ⟨kk, o + i * 4 + 2, none⟩ = some (.slice fa m fc)) := fun W h1 h2 =>
    ⟨(cell_same (p := ⟨OB, 5, none⟩) h2).trans T6.out.out.cells.2.2.2.2.2.1, (cell_same (p := ⟨w.heap.size, 5, none⟩) (h1.block w.heap.size (by omega))).trans T6.out.box.cells.2.2.2.2.2.1, ⟨(cell_same (p := ⟨w.heap.size + 1, 0, none⟩) (h1.block (w.heap.size + 1) (by omega))).trans T6.out.stm.cells.1, (cell_same (p := ⟨w.heap.size + 1, 1, none⟩) (h1.block (w.heap.size + 1) (by omega))).trans T6.out.stm.cells.2⟩, ((cell_same (p := ⟨kk, o + i * 4 + 2, none⟩) (h1.block kk (by omega))).trans (cell_same (p := ⟨kk, o + i * 4 + 2, none⟩) (T6.out.bel.block kk hk))).trans cf⟩
  have hz1 : (w.heap.size + 1 + 1 + 1 ≤ w6.heap.size) := hw6
  clear hLS hi hMG hNA hNC hil hk cf hrs hf0 hLi hsm hm hzl hB hzf hZi hw6 hmt
  go_wp2_with fail
  refine wp_region_noPanic ?_
  refine wp_region_held_drew (S := (fun W => W.cell? ⟨OB, 5, none⟩ = some (.slice (some ⟨gr, 0, none⟩) Z.length vc) ∧ W.cell? ⟨w.heap.size, 5, none⟩ = some (.slice (some ⟨kk, o, none⟩) mn mc) ∧ (W.cell? ⟨w.heap.size + 1, 0, none⟩ = some (.int .i64 st) ∧ W.cell? ⟨w.heap.size + 1, 1, none⟩ = some (.int .i64 sb)) ∧ W.cell? ⟨kk, o + i * 4 + 2, none⟩ = some (.slice fa m fc))) (by kernel_rfl) (HSS.out _ (Below.drew (Below.refl _ _)) rfl) (fun hHeld => ?_)
  refine wpAnyH_take (i := 0) (oi := { dst := some 35, op := Op.fieldAddr 32 (Operand.tmp 10) 4, type := 0, pos := "l06_box.go:83", after := #[], guard := none }) (v := ?vb1_0) rfl (by kernel_rfl) (by kernel_rfl) (by kernel_rfl) (fun _ _ _ h => h) (Or.inl ⟨by rfl, ?hyb1_0⟩) (by assumption) ?restb1_0
  case hyb1_0 => (intro w hSw; (try dsimp only at hSw); go_simp; try with_reducible rfl)
  try simp only [Act.put, List.setIfInBounds_toArray, List.set_cons_zero, List.set_cons_succ]
  refine wpAnyH_take (i := 1) (oi := { dst := some 36, op := Op.load 30 (Operand.tmp 35), type := 30, pos := "l06_box.go:83", after := #[{ on := 0, ground := Ground.data }], guard := none }) (v := ?vb2_1) rfl (by kernel_rfl) (by kernel_rfl) (by kernel_rfl) (fun _ _ _ h => h) (Or.inl ⟨by rfl, ?hyb2_1⟩) (by assumption) ?restb2_1
  case hyb2_1 => (intro w hSw; (try dsimp only at hSw); go_simp; try with_reducible rfl)
  try simp only [Act.put, List.setIfInBounds_toArray, List.set_cons_zero, List.set_cons_succ]
  refine wpAnyH_take (i := 2) (oi := { dst := some 37, op := Op.move (Operand.tmp 11), type := 3, pos := "l06_box.go:83", after := #[], guard := none }) (v := ?vb3_2) rfl (by kernel_rfl) (by kernel_rfl) (by kernel_rfl) (fun _ _ _ h => h) (Or.inl ⟨by rfl, ?hyb3_2⟩) (by assumption) ?restb3_2
  case hyb3_2 => (intro w hSw; (try dsimp only at hSw); go_simp; try with_reducible rfl)
  try simp only [Act.put, List.setIfInBounds_toArray, List.set_cons_zero, List.set_cons_succ]
  refine wpAnyH_take (i := 3) (oi := { dst := some 38, op := Op.fieldAddr 32 (Operand.tmp 4) 4, type := 0, pos := "l06_box.go:83", after := #[], guard := none }) (v := ?vb4_3) rfl (by kernel_rfl) (by kernel_rfl) (by kernel_rfl) (fun _ _ _ h => h) (Or.inl ⟨by rfl, ?hyb4_3⟩) (by assumption) ?restb4_3
  case hyb4_3 => (intro w hSw; (try dsimp only at hSw); go_simp; try with_reducible rfl)
  try simp only [Act.put, List.setIfInBounds_toArray, List.set_cons_zero, List.set_cons_succ]
  refine wpAnyH_take (i := 4) (oi := { dst := some 39, op := Op.load 30 (Operand.tmp 38), type := 30, pos := "l06_box.go:83", after := #[{ on := 3, ground := Ground.data }], guard := none }) (v := ?vb5_4) rfl (by kernel_rfl) (by kernel_rfl) (by kernel_rfl) (fun _ _ _ h => h) (Or.inl ⟨by rfl, ?hyb5_4⟩) (by assumption) ?restb5_4
  case hyb5_4 => (intro w hSw; (try dsimp only at hSw); go_simp; try with_reducible rfl)
  try simp only [Act.put, List.setIfInBounds_toArray, List.set_cons_zero, List.set_cons_succ]
  refine wpAnyH_take (i := 5) (oi := { dst := some 40, op := Op.move (Operand.tmp 11), type := 3, pos := "l06_box.go:83", after := #[], guard := none }) (v := ?vb6_5) rfl (by kernel_rfl) (by kernel_rfl) (by kernel_rfl) (fun _ _ _ h => h) (Or.inl ⟨by rfl, ?hyb6_5⟩) (by assumption) ?restb6_5
  case hyb6_5 => (intro w hSw; (try dsimp only at hSw); go_simp; try with_reducible rfl)
  try simp only [Act.put, List.setIfInBounds_toArray, List.set_cons_zero, List.set_cons_succ]
  refine wpAnyH_take (i := 6) (oi := { dst := some 41, op := Op.indexAddr 30 (Operand.tmp 39) (Operand.tmp 40), type := 0, pos := "l06_box.go:83", after := #[{ on := 4, ground := Ground.data }, { on := 5, ground := Ground.data }], guard := none }) (v := ?vb7_6) rfl (by kernel_rfl) (by kernel_rfl) (by kernel_rfl) (fun _ _ _ h => h) (Or.inl ⟨by rfl, ?hyb7_6⟩) (by assumption) ?restb7_6
  case hyb7_6 => (intro w hSw; (try dsimp only at hSw); go_simp; try with_reducible rfl)
  try simp only [Act.put, List.setIfInBounds_toArray, List.set_cons_zero, List.set_cons_succ]
  refine wpAnyH_take (i := 7) (oi := { dst := some 42, op := Op.fieldAddr 51 (Operand.tmp 41) 2, type := 0, pos := "l06_box.go:83", after := #[{ on := 6, ground := Ground.data }], guard := none }) (v := ?vb8_7) rfl (by kernel_rfl) (by kernel_rfl) (by kernel_rfl) (fun _ _ _ h => h) (Or.inl ⟨by rfl, ?hyb8_7⟩) (by assumption) ?restb8_7
  case hyb8_7 => (intro w hSw; (try dsimp only at hSw); go_simp; try with_reducible rfl)
  try simp only [Act.put, List.setIfInBounds_toArray, List.set_cons_zero, List.set_cons_succ]
  refine wpAnyH_take (i := 8) (oi := { dst := some 43, op := Op.load 48 (Operand.tmp 42), type := 48, pos := "l06_box.go:83", after := #[{ on := 7, ground := Ground.data }], guard := none }) (v := ?vb9_8) rfl (by kernel_rfl) (by kernel_rfl) (by kernel_rfl) (fun _ _ _ h => h) (Or.inl ⟨by rfl, ?hyb9_8⟩) (by assumption) ?restb9_8
  case hyb9_8 => (intro w hSw; (try dsimp only at hSw); go_simp; try with_reducible rfl)
  try simp only [Act.put, List.setIfInBounds_toArray, List.set_cons_zero, List.set_cons_succ]
  refine wpAnyH_take (i := 9) (oi := { dst := some 44, op := Op.move (Operand.tmp 2), type := 3, pos := "l06_box.go:83", after := #[], guard := none }) (v := ?vb10_9) rfl (by kernel_rfl) (by kernel_rfl) (by kernel_rfl) (fun _ _ _ h => h) (Or.inl ⟨by rfl, ?hyb10_9⟩) (by assumption) ?restb10_9
  case hyb10_9 => (intro w hSw; (try dsimp only at hSw); go_simp; try with_reducible rfl)
  try simp only [Act.put, List.setIfInBounds_toArray, List.set_cons_zero, List.set_cons_succ]
  refine wpAnyH_take (i := 10) (oi := { dst := some 45, op := Op.load 29 (Operand.tmp 7), type := 29, pos := "l06_box.go:83", after := #[], guard := none }) (v := ?vb11_10) rfl (by kernel_rfl) (by kernel_rfl) (by kernel_rfl) (fun _ _ _ h => h) (Or.inl ⟨by rfl, ?hyb11_10⟩) (by assumption) ?restb11_10
  case hyb11_10 => (intro w hSw; (try dsimp only at hSw); go_simp; try with_reducible rfl)
  try simp only [Act.put, List.setIfInBounds_toArray, List.set_cons_zero, List.set_cons_succ]
  clear hHeld
  refine wpAnyH_ready (rs := [11]) (by kernel_rfl) (by simp) ?_
  refine AllReadyH.cons (o := { dst := some 46, op := Op.call { callee := Callee.value (Operand.func 22), args := #[Operand.tmp 43, Operand.tmp 44, Operand.tmp 45], argTypes := #[48, 3, 29] }, type := 48, pos := "l06_box.go:83", after := #[{ on := 8, ground := Ground.data }, { on := 9, ground := Ground.data }, { on := 10, ground := Ground.data }], guard := none }) rfl (fun K hK => ?_) AllReadyH.nil
  go_simp
  refine (specSetFlags_any fa m fc l1 n st sb _ HM.out HMB.out (HRS.out.later (bdr (bre _))) HF0.out).mono ?_; rintro e w7 ⟨v, rfl, how7, hb7⟩
  have B7 := hid (show Below w6.heap.size w6 w7 from btr (bdr (bre _)) hb7)
  have O7 := hid how7
  obtain ⟨a7, c7, hv7, _⟩ := Ow.shape how7
  rw [sl_len, HM.out] at hv7
  subst hv7
  have z7 := HOZ.out.later B7.out
  obtain ⟨cz, fz7⟩ := z7.spot i HIZ.out
  rw [HZI.out] at cz
  have Z7 := hid z7
  clear hb7 how7 z7
  go_wp2_with fail
  refine hK.out _ _ (HSS.out _ (B7.out.mono HWB.out) (B7.out.block OB X6.out.lt)) (fun hHeld => ?_)
  clear hK K
  try simp only [Act.put, List.setIfInBounds_toArray, List.set_cons_zero, List.set_cons_succ]
  refine wpAnyH_take (i := 12) (oi := { dst := some 47, op := Op.indexAddr 30 (Operand.tmp 36) (Operand.tmp 37), type := 0, pos := "l06_box.go:83", after := #[{ on := 1, ground := Ground.data }, { on := 2, ground := Ground.data }, { on := 0, ground := Ground.phase }, { on := 1, ground := Ground.phase }, { on := 2, ground := Ground.phase }, { on := 3, ground := Ground.phase }, { on := 4, ground := Ground.phase }, { on := 5, ground := Ground.phase }, { on := 6, ground := Ground.phase }, { on := 7, ground := Ground.phase }, { on := 8, ground := Ground.phase }, { on := 9, ground := Ground.phase }, { on := 10, ground := Ground.phase }, { on := 11, ground := Ground.phase }], guard := none }) (v := ?vb12_12) rfl (by kernel_rfl) (by kernel_rfl) (by kernel_rfl) (fun _ _ _ h => h) (Or.inl ⟨by rfl, ?hyb12_12⟩) (by assumption) ?restb12_12
  case hyb12_12 => (intro w hSw; (try dsimp only at hSw); go_simp; try with_reducible rfl)
  try simp only [Act.put, List.setIfInBounds_toArray, List.set_cons_zero, List.set_cons_succ]
  refine wpAnyH_take (i := 13) (oi := { dst := some 48, op := Op.fieldAddr 51 (Operand.tmp 47) 2, type := 0, pos := "l06_box.go:83", after := #[{ on := 12, ground := Ground.data }, { on := 0, ground := Ground.phase }, { on := 1, ground := Ground.phase }, { on := 2, ground := Ground.phase }, { on := 3, ground := Ground.phase }, { on := 4, ground := Ground.phase }, { on := 5, ground := Ground.phase }, { on := 6, ground := Ground.phase }, { on := 7, ground := Ground.phase }, { on := 8, ground := Ground.phase }, { on := 9, ground := Ground.phase }, { on := 10, ground := Ground.phase }, { on := 11, ground := Ground.phase }], guard := none }) (v := ?vb13_13) rfl (by kernel_rfl) (by kernel_rfl) (by kernel_rfl) (fun _ _ _ h => h) (Or.inl ⟨by rfl, ?hyb13_13⟩) (by assumption) ?restb13_13
  case hyb13_13 => (intro w hSw; (try dsimp only at hSw); go_simp; try with_reducible rfl)
  try simp only [Act.put, List.setIfInBounds_toArray, List.set_cons_zero, List.set_cons_succ]
  clear hHeld
  refine wpAnyH_ready (rs := [14]) (by kernel_rfl) (by simp) ?_
  refine AllReadyH.cons (o := { dst := none, op := Op.store 48 (Operand.tmp 48) (Operand.tmp 46), type := 0, pos := "l06_box.go:83", after := #[{ on := 13, ground := Ground.data }, { on := 11, ground := Ground.data }, { on := 11, ground := Ground.chain }, { on := 0, ground := Ground.phase }, { on := 1, ground := Ground.phase }, { on := 2, ground := Ground.phase }, { on := 3, ground := Ground.phase }, { on := 4, ground := Ground.phase }, { on := 5, ground := Ground.phase }, { on := 6, ground := Ground.phase }, { on := 7, ground := Ground.phase }, { on := 8, ground := Ground.phase }, { on := 9, ground := Ground.phase }, { on := 10, ground := Ground.phase }, { on := 11, ground := Ground.phase }], guard := none }) rfl (fun K hK => ?_) AllReadyH.nil
  go_simp
  refine hK.out _ _ (HSS.out _ (B7.out.mono HWB.out |>.trans ((Below.refl _ _).setCell (p := ⟨gr, i * 4 + 2, none⟩) HGB.out _)) ((heap_far w7 (fun e => HGO2.out e) _ _ (Nat.lt_of_lt_of_le X6.out.lt B7.out.size)).trans (B7.out.block OB X6.out.lt))) (fun hHeld => ?_)
  clear hK K
  try simp only [Act.put, List.setIfInBounds_toArray, List.set_cons_zero, List.set_cons_succ]
  refine wpAnyH_done (by kernel_rfl) ?_ _
  refine NoPanic.normal ?_
  obtain ⟨W8, hW8⟩ : ∃ W8, w7.setCell ⟨gr, i * 4 + 2, none⟩ (.slice a7 m c7) = W8 := ⟨_, rfl⟩
  have g8 : w7.grownBy W8 (some gr) := by rw [← hW8]; exact wst (wre _ _) _ _
  have z8 : OwZ W8 (w.heap.size + 1 + 1 + 1) (.slice (some ⟨gr, 0, none⟩) Z.length vc) (Z.set i ((g1, u1, Value.slice a7 m c7, sl l1 n st sb, t1) : Z5)) := by
    rw [← hW8]
    exact OwZ.flags Z7.out i HIZ.out ((g1, u1, Value.slice a7 m c7, sl l1 n st sb, t1) : Z5) (by rw [HZI.out]) (by rw [HZI.out]) (by rw [HZI.out]) (own_base O7.out HWB2.out) (fun e => by have h1 := (O7.out.lt gr e).1; have h2 := HGL6.out; have h3 : w6.heap.size ≤ gr := h1; omega) (fun y hy j hj hj' => by have h1 : w6.heap.size ≤ j := (O7.out.lt j hj).1; have h2 := ((HOZ.out.each y hy).lt j hj').2; omega)
  have i8 : OwI W8 (w.heap.size + 1 + 1 + 1) (.slice ag gn cg) G := row_kept (own_later T6.out.gl B7.out) g8 (fun j hj e => HDJ.out j hj (by rw [← e]; rfl))
  have x8 : Bx W8 OB 32 g nm t b nx (.slice (some ⟨gr, 0, none⟩) Z.length vc) (.slice ag gn cg) := (X6.out.later B7.out).grown g8 (fun e => HGO2.out (by simpa using e.symm))
  have r8 : Bx W8 (w.heap.size + 1 + 1) 32 0 ⟨#[]⟩ 0 0 0 (.slice none 0 0) (.slice none 0 0) := (T6.out.ans.later B7.out).grown g8 (fun e => by have h1 := HGB.out; simp only [Option.some.injEq] at e; omega)
  have b8 : Below w.heap.size w W8 := (btr T6.out.bel B7.out).trans (below_of_grown g8 (by have h1 := HGB.out; omega) (btr T6.out.bel B7.out).size)
  have HDZ : Hid (∀ z ∈ Z.set i ((g1, u1, Value.slice a7 m c7, sl l1 n st sb, t1) : Z5), Dj (.slice ag gn cg) z.2.2.1) := fun z hz j hj hj' => by
    rcases mem_set hz with hz | rfl
    · exact HDE.out z hz j hj hj'
    · have h1 := (T6.out.gl.lt j hj).2
      have h2 : w6.heap.size ≤ j := (O7.out.lt j hj').1
      omega
  have HZ8 : Hid ((Z.set i ((g1, u1, Value.slice a7 m c7, sl l1 n st sb, t1) : Z5)).map md = fmL true L gid n st sb) := by
    show _ = _
    rw [List.map_set, HZL.out, HLS.out, HIA.out, fmL_split HMG.out HNA.out HNC.out, List.set_append_right _ _ (Nat.le_refl _), Nat.sub_self, List.set_cons_zero]
    rfl
  simp only [hW8]
  have Z8 := hid z8
  have I8 := hid i8
  have R8 := hid r8
  have B8 := hid b8
  have k8 := x8.cells
  have q1 := r8.cells
  have q2 := r8.loose
  clear hHeld hW8 g8 z8 i8 x8 r8 b8 cz fz7 c0 k0
  go_wp2
  have e2 := set7_grown W8 (w.heap.size + 1 + 1) g nm t b nx (.slice (some ⟨gr, 0, none⟩) Z.length vc) (.slice ag gn cg)
  have d1 := (R8.out.set7 g nm t b nx (.slice (some ⟨gr, 0, none⟩) Z.length vc) (.slice ag gn cg)).cells
  unfold set7 at d1 e2
  have hbs := B8.out.size
  refine bodyPost_ret (v := .tuple #[.agg #[.int .i64 g, .string nm, .int .i64 t, .int .i64 b, .int .i64 nx, .slice (some ⟨gr, 0, none⟩) Z.length vc, .slice ag gn cg], .bool true]) (by simp [results, Tryz.results6, go_sem, d1]) rfl ⟨_, _, by rw [HE.out], ?_, ?_⟩
  · rw [HE.out]
    exact (OwB.grown ⟨Z.set i ((g1, u1, Value.slice a7 m c7, sl l1 n st sb, t1) : Z5), HZ8.out, Z8.out, I8.out, HDJ.out, HDZ.out⟩ e2 (by omega)).base (by omega)
  · exact B8.out.trans (below_of_grown e2 (by omega) hbs)
end Go.Proofs.YtfmacodnjhegcamGreat
