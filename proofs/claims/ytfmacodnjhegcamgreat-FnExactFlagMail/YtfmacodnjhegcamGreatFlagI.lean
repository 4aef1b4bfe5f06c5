/- Flags of a mail in a box set, as the program does it. -/
import Derived.Test.YtfmacodnjhegcamGreatFlagM
namespace Go.Proofs.YtfmacodnjhegcamGreat
open Go.RowKit Go.ChangeMaps

set_option maxHeartbeats 16000000 in
set_option maxRecDepth 100000 in
theorem implFlag_any (lo hh lo' hh' : Nat) (g : Int) (nm : ByteArray) (t b nx : Int) (ma : Option Addr) (mn mc : Nat) (ga : Option Addr) (gn gc : Nat) (L : List M4) (G : List Int) (gid n st sb : Int) (w : World) (hnm : nm.size ≤ 1048576) (hl : L.length = mn) (hn : mn ≤ 1048576) (hsm : Sm L) (hm : Ms lo hh w ma L) (hm0 : ma = none → mc = 0) (hgl : G.length = gn) (hgn : gn ≤ 1048576) (hs : Is lo' hh' w ga G) (hg0 : ga = none → gc = 0) :
    Calls Tryz.prog 9 #[.agg #[.int .i64 g, .string nm, .int .i64 t, .int .i64 b, .int .i64 nx, .slice ma mn mc, .slice ga gn gc], .int .i64 gid, .int .i64 n, .agg #[.int .i64 st, .int .i64 sb]] w fun e w' =>
      ∃ mv gv, e = .returned (.tuple #[.agg #[.int .i64 g, .string nm, .int .i64 t, .int .i64 b, .int .i64 nx, mv, gv], .bool (fmOk g nm t b nx L G gid n st sb)]) ∧ OwB w' w.heap.size mv gv (fmL (fmOk g nm t b nx L G gid n st sb) L gid n st sb) G ∧ Below w.heap.size w w' := by
  obtain ⟨p1, hp1, _, csp⟩ := box_l g nm t b nx mn gn L G hnm hl hn hsm hgl hgn
  obtain ⟨p2, hp2⟩ : ∃ p2, L.any (fun m => decide (m.1 = gid)) = p2 := ⟨_, rfl⟩
  obtain ⟨p4, hp4⟩ : ∃ p4, decide (0 ≤ n ∧ n ≤ 7) = p4 := ⟨_, rfl⟩
  obtain ⟨p5, hp5, _, cp5⟩ := st_l st sb
  have HX : Hid (fmOk g nm t b nx L G gid n st sb = (p1 && (p2 && (p4 && p5)))) := by
    show _ = _
    rw [hp1.out, ← hp2, ← hp4, hp5.out]
    unfold fmOk flr
    rw [Bool.decide_and]
  obtain ⟨W0, hW0⟩ : ∃ W0, ((w.alloc (.cells #[.int .i64 g, .string nm, .int .i64 t, .int .i64 b, .int .i64 nx, .slice ma mn mc, .slice ga gn gc] 32)).alloc (.cells #[.int .i64 st, .int .i64 sb] 29)).alloc (.cells #[.int .i64 0, .string ⟨#[]⟩, .int .i64 0, .int .i64 0, .int .i64 0, .slice none 0 0, .slice none 0 0] 32) = W0 := ⟨_, rfl⟩
  obtain ⟨a0, a1, a2, b0, s0⟩ := box_stamp w g nm t b nx (.slice ma mn mc) (.slice ga gn gc) st sb W0 hW0
  have c0 := a0.cells
  have A0 := hid a0
  have A1 := hid a1
  have A2 := hid a2
  have B0 := hid b0
  have S0 := hid s0
  have HP1 := hid hp1.out
  have HP2 := hid hp2
  have HP4 := hid hp4
  have HL := hid hl
  have HN := hid hn
  have HSM := hid hsm
  have HR := hid hm
  have HM0 := hid hm0
  have HGL := hid hgl
  have HGN := hid hgn
  have HIS := hid hs
  have HG0 := hid hg0
  have HNM := hid hnm
  clear a0 a1 a2 b0 s0 hp1 hp2 hp4 hp5 hl hsm hm hm0 hgl hgn hs hg0 hnm hn
  go_enter Tryz.func9, Tryz.ntmps9
  go_wp2_with fail
  clear hW0
  refine (shelfOf_any lo hh ma mn mc L W0 HL.out HN.out HSM.out (HR.out.later B0.out)).mono ?_; rintro e w1 ⟨rfl, ⟨E, cl, hE, hmp⟩, hb1⟩
  obtain ⟨MB, hMB⟩ : ∃ MB, W0.heap.size = MB := ⟨_, rfl⟩
  rw [hMB] at hmp ⊢
  have t1 : Shs w w1 MB g nm t b nx (.slice ma mn mc) (.slice ga gn gc) st sb E cl := ⟨A0.out.later hb1, A1.out.later hb1, A2.out.later hb1, by
    have h1 := hmp
    have h2 := S0.out
    rw [hMB] at h2
    rw [h2] at h1 ⊢
    exact h1, btr B0.out hb1⟩
  have T1 := hid t1
  have HE0 := hid hE
  have k0 := t1.box.cells
  clear t1 hmp hE hb1 A0 A1 A2 B0 c0 hMB
  go_wp2_with fail
  refine (csp.out lo hh lo' hh' ma mc ga gc _ (HR.out.later T1.out.bel) (HIS.out.later T1.out.bel)).mono ?_; rintro e w2 ⟨rfl, hb2⟩
  have T2 := hid (T1.out.later hb2)
  have k0 := T2.out.box.cells
  clear hb2 T1
  cases p1
  · have HE : Hid (fmOk g nm t b nx L G gid n st sb = false) := by show _ = _; rw [HX.out]; rfl
    clear k0
    have k1 := T2.out.box.cells
    go_wp2_with fail
    clear k1
    refine (copyOfBox_any lo hh lo' hh' g nm t b nx ma mn mc ga gn gc L G _ HNM.out HL.out HN.out HSM.out (HR.out.later T2.out.bel) HM0.out HGL.out HGN.out (HIS.out.later T2.out.bel) HG0.out).mono ?_; rintro e wz ⟨mv', gv', rfl, howz, hbz⟩
    obtain ⟨Z', hZ', hoz', hoi', hdj', hde'⟩ := howz
    obtain ⟨va', vc', rfl⟩ := hoz'.shape
    obtain ⟨ag', cg', hgv', _⟩ := hoi'.shape
    rw [HGL.out] at hgv'
    subst hgv'
    have rz := T2.out.ans.later hbz
    have q1 := rz.cells
    have q2 := rz.loose
    have RZ := hid rz
    have BZ := hid (btr T2.out.bel hbz)
    have OZ : Hid (OwB wz (w2).heap.size (.slice va' Z'.length vc') (.slice ag' gn cg') L G) := ⟨Z', hZ', hoz', hoi', hdj', hde'⟩
    have HWZ : Hid (w.heap.size + 1 + 1 + 1 ≤ (w2).heap.size) := T2.out.ans.lt
    clear rz hbz hZ' hoz' hoi' hdj' hde'
    go_wp2
    have e2 := set7_grown wz (w.heap.size + 1 + 1) g nm t b nx (.slice va' Z'.length vc') (.slice ag' gn cg')
    have d1 := (RZ.out.set7 g nm t b nx (.slice va' Z'.length vc') (.slice ag' gn cg')).cells
    unfold set7 at d1 e2
    have hbs := BZ.out.size
    have hwz := HWZ.out
    refine bodyPost_ret (v := .tuple #[.agg #[.int .i64 g, .string nm, .int .i64 t, .int .i64 b, .int .i64 nx, .slice va' Z'.length vc', .slice ag' gn cg'], .bool false]) (by simp [results, Tryz.results9, go_sem, d1]) rfl ⟨_, _, by rw [HE.out], ?_, ?_⟩
    · rw [HE.out, fmL_no]
      exact (OwB.grown OZ.out e2 (by omega)).base (by omega)
    · exact BZ.out.trans (below_of_grown e2 (by omega) hbs)
  have hp := bx_parts HP1.out.symm
  have HMN : Hid (mn ≤ 10) := by show _ ≤ _; rw [← HL.out]; exact hp.1
  have HUP := hid (alr_upr hp.2.2.1)
  have HUQ := hid hp.2.2.2.1
  have HEL : Hid (E.map mde = L) := by show _ = _; rw [HE0.out, shl_uniq hp.2.2.2.1]
  clear hp HE0
  go_wp2_with fail
  refine (holds_any _ MB cl E gid _ T2.out.mp).mono ?_; rintro e w3 ⟨rfl, hb3⟩
  rw [any_mde gid E HEL.out, HP2.out]
  have T3 := hid (T2.out.later hb3)
  have k0 := T3.out.box.cells
  clear hb3 T2
  cases p2
  · have HE : Hid (fmOk g nm t b nx L G gid n st sb = false) := by show _ = _; rw [HX.out]; simp
    clear k0
    have k1 := T3.out.box.cells
    go_wp2_with fail
    clear k1
    refine (copyOfBox_any lo hh lo' hh' g nm t b nx ma mn mc ga gn gc L G _ HNM.out HL.out HN.out HSM.out (HR.out.later T3.out.bel) HM0.out HGL.out HGN.out (HIS.out.later T3.out.bel) HG0.out).mono ?_; rintro e wz ⟨mv', gv', rfl, howz, hbz⟩
    obtain ⟨Z', hZ', hoz', hoi', hdj', hde'⟩ := howz
    obtain ⟨va', vc', rfl⟩ := hoz'.shape
    obtain ⟨ag', cg', hgv', _⟩ := hoi'.shape
    rw [HGL.out] at hgv'
    subst hgv'
    have rz := T3.out.ans.later hbz
    have q1 := rz.cells
    have q2 := rz.loose
    have RZ := hid rz
    have BZ := hid (btr T3.out.bel hbz)
    have OZ : Hid (OwB wz (w3).heap.size (.slice va' Z'.length vc') (.slice ag' gn cg') L G) := ⟨Z', hZ', hoz', hoi', hdj', hde'⟩
    have HWZ : Hid (w.heap.size + 1 + 1 + 1 ≤ (w3).heap.size) := T3.out.ans.lt
    clear rz hbz hZ' hoz' hoi' hdj' hde'
    go_wp2
    have e2 := set7_grown wz (w.heap.size + 1 + 1) g nm t b nx (.slice va' Z'.length vc') (.slice ag' gn cg')
    have d1 := (RZ.out.set7 g nm t b nx (.slice va' Z'.length vc') (.slice ag' gn cg')).cells
    unfold set7 at d1 e2
    have hbs := BZ.out.size
    have hwz := HWZ.out
    refine bodyPost_ret (v := .tuple #[.agg #[.int .i64 g, .string nm, .int .i64 t, .int .i64 b, .int .i64 nx, .slice va' Z'.length vc', .slice ag' gn cg'], .bool false]) (by simp [results, Tryz.results9, go_sem, d1]) rfl ⟨_, _, by rw [HE.out], ?_, ?_⟩
    · rw [HE.out, fmL_no]
      exact (OwB.grown OZ.out e2 (by omega)).base (by omega)
    · exact BZ.out.trans (below_of_grown e2 (by omega) hbs)
  go_wp2_with fail
  refine (right_flags n _).mono ?_; rintro e w4 ⟨rfl, h4⟩
  subst h4
  rw [HP4.out]
  cases p4
  · have HE : Hid (fmOk g nm t b nx L G gid n st sb = false) := by show _ = _; rw [HX.out]; simp
    clear k0
    have k1 := T3.out.box.cells
    go_wp2_with fail
    clear k1
    refine (copyOfBox_any lo hh lo' hh' g nm t b nx ma mn mc ga gn gc L G _ HNM.out HL.out HN.out HSM.out (HR.out.later T3.out.bel) HM0.out HGL.out HGN.out (HIS.out.later T3.out.bel) HG0.out).mono ?_; rintro e wz ⟨mv', gv', rfl, howz, hbz⟩
    obtain ⟨Z', hZ', hoz', hoi', hdj', hde'⟩ := howz
    obtain ⟨va', vc', rfl⟩ := hoz'.shape
    obtain ⟨ag', cg', hgv', _⟩ := hoi'.shape
    rw [HGL.out] at hgv'
    subst hgv'
    have rz := T3.out.ans.later hbz
    have q1 := rz.cells
    have q2 := rz.loose
    have RZ := hid rz
    have BZ := hid (btr T3.out.bel hbz)
    have OZ : Hid (OwB wz (w4).heap.size (.slice va' Z'.length vc') (.slice ag' gn cg') L G) := ⟨Z', hZ', hoz', hoi', hdj', hde'⟩
    have HWZ : Hid (w.heap.size + 1 + 1 + 1 ≤ (w4).heap.size) := T3.out.ans.lt
    clear rz hbz hZ' hoz' hoi' hdj' hde'
    go_wp2
    have e2 := set7_grown wz (w.heap.size + 1 + 1) g nm t b nx (.slice va' Z'.length vc') (.slice ag' gn cg')
    have d1 := (RZ.out.set7 g nm t b nx (.slice va' Z'.length vc') (.slice ag' gn cg')).cells
    unfold set7 at d1 e2
    have hbs := BZ.out.size
    have hwz := HWZ.out
    refine bodyPost_ret (v := .tuple #[.agg #[.int .i64 g, .string nm, .int .i64 t, .int .i64 b, .int .i64 nx, .slice va' Z'.length vc', .slice ag' gn cg'], .bool false]) (by simp [results, Tryz.results9, go_sem, d1]) rfl ⟨_, _, by rw [HE.out], ?_, ?_⟩
    · rw [HE.out, fmL_no]
      exact (OwB.grown OZ.out e2 (by omega)).base (by omega)
    · exact BZ.out.trans (below_of_grown e2 (by omega) hbs)
  have st0 := T3.out.stm.cells
  go_wp2_with fail
  refine (cp5.out _).mono ?_; rintro e w5 ⟨rfl, hb5⟩
  clear st0
  have T5 := hid (T3.out.later hb5)
  have k0 := T5.out.box.cells
  clear hb5 T3
  cases p5
  · have HE : Hid (fmOk g nm t b nx L G gid n st sb = false) := by show _ = _; rw [HX.out]; simp
    clear k0
    have k1 := T5.out.box.cells
    go_wp2_with fail
    clear k1
    refine (copyOfBox_any lo hh lo' hh' g nm t b nx ma mn mc ga gn gc L G _ HNM.out HL.out HN.out HSM.out (HR.out.later T5.out.bel) HM0.out HGL.out HGN.out (HIS.out.later T5.out.bel) HG0.out).mono ?_; rintro e wz ⟨mv', gv', rfl, howz, hbz⟩
    obtain ⟨Z', hZ', hoz', hoi', hdj', hde'⟩ := howz
    obtain ⟨va', vc', rfl⟩ := hoz'.shape
    obtain ⟨ag', cg', hgv', _⟩ := hoi'.shape
    rw [HGL.out] at hgv'
    subst hgv'
    have rz := T5.out.ans.later hbz
    have q1 := rz.cells
    have q2 := rz.loose
    have RZ := hid rz
    have BZ := hid (btr T5.out.bel hbz)
    have OZ : Hid (OwB wz (w5).heap.size (.slice va' Z'.length vc') (.slice ag' gn cg') L G) := ⟨Z', hZ', hoz', hoi', hdj', hde'⟩
    have HWZ : Hid (w.heap.size + 1 + 1 + 1 ≤ (w5).heap.size) := T5.out.ans.lt
    clear rz hbz hZ' hoz' hoi' hdj' hde'
    go_wp2
    have e2 := set7_grown wz (w.heap.size + 1 + 1) g nm t b nx (.slice va' Z'.length vc') (.slice ag' gn cg')
    have d1 := (RZ.out.set7 g nm t b nx (.slice va' Z'.length vc') (.slice ag' gn cg')).cells
    unfold set7 at d1 e2
    have hbs := BZ.out.size
    have hwz := HWZ.out
    refine bodyPost_ret (v := .tuple #[.agg #[.int .i64 g, .string nm, .int .i64 t, .int .i64 b, .int .i64 nx, .slice va' Z'.length vc', .slice ag' gn cg'], .bool false]) (by simp [results, Tryz.results9, go_sem, d1]) rfl ⟨_, _, by rw [HE.out], ?_, ?_⟩
    · rw [HE.out, fmL_no]
      exact (OwB.grown OZ.out e2 (by omega)).base (by omega)
    · exact BZ.out.trans (below_of_grown e2 (by omega) hbs)
  have HE : Hid (fmOk g nm t b nx L G gid n st sb = true) := by show _ = _; rw [HX.out]; rfl
  obtain ⟨A, m0, C, hLS, hMG, hNA, hNC⟩ := any_split HUQ.out HP2.out
  have hnk : ¬ ∀ e ∈ E, e.1.1 ≠ gid := fun h => by
    have h1 := HP2.out
    rw [← any_mde gid E HEL.out, List.any_eq_true] at h1
    obtain ⟨e, he, h2⟩ := h1
    exact h e he (by simpa using h2)
  obtain ⟨E1, ⟨z, bo⟩, E2, hES, h1, h2⟩ := split_key hnk
  have hmem : ((z, bo) : En) ∈ E := by rw [hES]; simp
  have hzm : md z = m0 := by
    have h3 : mde (z, bo) ∈ L := by rw [← HEL.out]; exact List.mem_map_of_mem hmem
    rw [hLS] at h3
    rcases List.mem_append.1 h3 with h3 | h3
    · exact absurd h2 (hNA _ h3)
    · rcases List.mem_cons.1 h3 with h3 | h3
      · exact h3
      · exact absurd h2 (hNC _ h3)
  obtain ⟨g1, u1, zf, l1, t1⟩ := z
  dsimp only at h2
  subst h2
  have hoe := T5.out.mp.each _ hmem
  dsimp only at hoe
  obtain ⟨fa, fc, hzf, hrs⟩ := Ow.shape hoe
  subst hzf
  have hsm := (HSM.out m0 (by rw [hLS]; simp)).1
  rw [← hzm] at hsm
  dsimp only [md] at hsm
  obtain ⟨m, hm⟩ : ∃ m, l1.length = m := ⟨_, rfl⟩
  have hf := run_find w5 (find_yes g1 E1 ((g1, u1, Value.slice fa l1.length fc, l1, t1), bo) E2 0 h1 rfl)
  have hlk : (Instr.lookup 55 (.map (some MB)) (.int .i64 g1) false).run Tryz.prog w5 = .ok (.agg #[.int .i64 g1, .int .i64 u1, .slice fa m fc, .string t1]) w5 := by
    simp only [Instr.lookup, Sem.run_bind, run_underlying Tryz.underlying55, Result.andThen, MapKept.run_getObj_map T5.out.mp.lies, Sem.run_pure, run_check]
    rw [hES, hf, ← hm]
    rfl
  rw [hm] at hsm
  have HM := hid hm
  have HMB := hid hsm
  have HRS := hid hrs
  have HLS := hid hLS
  have HMG := hid hMG
  have HNA := hid hNA
  have HNC := hid hNC
  have HZM : Hid (((g1, u1, l1, t1) : M4) = m0) := hzm
  obtain ⟨KM, hKM⟩ : ∃ KM, w5.heap.size = KM := ⟨_, rfl⟩
  obtain ⟨W6, hW6⟩ : ∃ W6, w5.alloc (.cells #[.int .i64 g1, .int .i64 u1, .slice fa m fc, .string t1] 51) = W6 := ⟨_, rfl⟩
  have x6 : Mg W6 KM 51 g1 u1 (.slice fa m fc) t1 := by rw [← hW6, ← hKM]; exact Mg.new w5 _ g1 u1 _ t1
  have b6 : Below w5.heap.size w5 W6 := by rw [← hW6]; exact bpush (bre _) _
  have st6 := (T5.out.later b6).stm.cells
  have k6 := x6.cells
  have X6 := hid x6
  have B6 := hid b6
  have HKM := hid hKM
  clear hnk hES hmem hzm hoe hrs hsm hm hf hLS hMG hNA hNC h1 x6 b6 k0
  go_wp2_with fail
  clear hW6 hKM hlk
  refine (implSetFlags_any fa m fc l1 n st sb W6 HM.out HMB.out (HRS.out.later B6.out)).mono ?_; rintro e w7 ⟨gf, hgf, rfl, how7, hb7⟩
  obtain ⟨W8, hW8⟩ : ∃ W8, w7.setCell ⟨KM, 2, none⟩ (.slice (some ⟨gf, 0, none⟩) m m) = W8 := ⟨_, rfl⟩
  have hk6 : KM < W6.heap.size := X6.out.lt
  have hk5 := HKM.out
  have g8 : w7.grownBy W8 (some KM) := by rw [← hW8]; exact wst (wre _ _) _ _
  have x7 := X6.out.later hb7
  have x8 : Mg W8 KM 51 g1 u1 (.slice (some ⟨gf, 0, none⟩) m m) t1 := by rw [← hW8]; exact x7.s2 _
  have b8 : Below w5.heap.size w5 W8 := (btr B6.out hb7).trans (below_of_grown g8 (by omega) (btr B6.out hb7).size)
  have o8 : Ow W8 W6.heap.size (.slice (some ⟨gf, 0, none⟩) m m) (sl l1 n st sb) := World.ownsRow.kept how7 g8 (Or.inr (by simp only [Value.ownBlock, ne_eq, Option.some.injEq]; omega))
  have t8 := T5.out.later b8
  have k7 := x7.cells
  have f7 := x7.loose
  have k8 := x8.cells
  have hans := T5.out.ans.lt
  obtain ⟨W9, E', c', hrun, hmp9, hE9, hgr, _⟩ := t8.mp.put ((g1, u1, Value.slice (some ⟨gf, 0, none⟩) m m, sl l1 n st sb, t1) : Z5) (own_base o8 (by omega)) (fun e he j hj hj' => by have h1 := ((T5.out.mp.each e he).lt j hj').2; simp [Value.ownBlock] at hj; omega)
  have hrun' : (Instr.mapUpdate 55 (.map (some MB)) (.int .i64 g1) (.agg #[.int .i64 g1, .int .i64 u1, .slice (some ⟨gf, 0, none⟩) m m, .string t1])).run Tryz.prog W8 = .ok () W9 := hrun
  have T9 := hid (t8.put hgr hmp9)
  have HEN : Hid (E'.map mde = A ++ fgm m0 n st sb :: C) := by
    show _ = _
    rw [hE9, HEL.out, HLS.out]
    have e1 : md ((g1, u1, Value.slice (some ⟨gf, 0, none⟩) m m, sl l1 n st sb, t1) : Z5) = fgm m0 n st sb := by rw [← HZM.out]; rfl
    rw [e1]
    exact pt_old (fun y hy => by show y.1 ≠ m0.1; rw [HMG.out]; exact HNA.out y hy) (fun y hy => by show y.1 ≠ m0.1; rw [HMG.out]; exact HNC.out y hy) rfl
  have HUN : Hid (Upr (A ++ fgm m0 n st sb :: C)) := by
    have h1 := HUP.out
    rw [HLS.out] at h1
    exact upr_swap h1 rfl
  have k9 := T9.out.box.cells
  clear hgf how7 hb7 hk6 hk5 g8 x7 x8 b8 o8 t8 hans hrun hmp9 hE9 hgr st6 k6
  go_wp2_with fail
  clear hrun' hW8 k7 f7 k8
  refine (boxWith_any lo' hh' g nm t b nx (.slice ma mn mc) ga gn gc (A ++ fgm m0 n st sb :: C) G _ MB c' E' W9 ma mn mc rfl HNM.out (by have h1 := congrArg List.length HEN.out; have h2 := HL.out; have h3 := HMN.out; rw [HLS.out] at h2; simp at h1 h2; omega) T9.out.mp (List.Perm.of_eq HEN.out) HUN.out HGL.out HGN.out (HIS.out.later T9.out.bel) HG0.out).mono ?_; rintro e w10 ⟨mv, gv, rfl, how10, hb10⟩
  obtain ⟨Z, hZ, hoz, hoi, hdj, hde⟩ := how10
  obtain ⟨va, vc, rfl⟩ := hoz.shape
  obtain ⟨ag, cg, hgv, _⟩ := hoi.shape
  rw [HGL.out] at hgv
  subst hgv
  have r10 := T9.out.ans.later hb10
  have q1 := r10.cells
  have q2 := r10.loose
  have R10 := hid r10
  have B10 := hid (btr T9.out.bel hb10)
  have OZ : Hid (OwB w10 (w.heap.size + 1 + 1 + 1) (.slice va Z.length vc) (.slice ag gn cg) (A ++ fgm m0 n st sb :: C) G) := ⟨Z, hZ, hoz, hoi, hdj, hde⟩
  clear r10 hb10 hZ hoz hoi hdj hde k9
  go_wp2
  have e2 := set7_grown w10 (w.heap.size + 1 + 1) g nm t b nx (.slice va Z.length vc) (.slice ag gn cg)
  have d1 := (R10.out.set7 g nm t b nx (.slice va Z.length vc) (.slice ag gn cg)).cells
  unfold set7 at d1 e2
  have hbs := B10.out.size
  refine bodyPost_ret (v := .tuple #[.agg #[.int .i64 g, .string nm, .int .i64 t, .int .i64 b, .int .i64 nx, .slice va Z.length vc, .slice ag gn cg], .bool true]) (by simp [results, Tryz.results9, go_sem, d1]) rfl ⟨_, _, by rw [HE.out], ?_, ?_⟩
  · rw [HE.out, HLS.out, fmL_split HMG.out HNA.out HNC.out]
    exact (OwB.grown OZ.out e2 (by omega)).base (by omega)
  · exact B10.out.trans (below_of_grown e2 (by omega) hbs)
end Go.Proofs.YtfmacodnjhegcamGreat
