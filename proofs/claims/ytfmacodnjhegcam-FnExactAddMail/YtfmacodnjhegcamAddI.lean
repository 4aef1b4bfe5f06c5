/- A mail added, as the program does it. -/
import Derived.Test.YtfmacodnjhegcamAddS
namespace Go.Proofs.Ytfmacodnjhegcam
open Go.RowKit Go.ChangeMaps

/-- What lies there while a box is worked on by its shelf. -/
structure Shs (w W : World) (mb : Nat) (g : Int) (nm : ByteArray) (t b nx : Int) (m0 g0 : Value) (st sb : Int) (E : List En) (c : Nat) : Prop where
  box : Bx W w.heap.size 33 g nm t b nx m0 g0
  stm : Sg W (w.heap.size + 1) 30 st sb
  ans : Bx W (w.heap.size + 1 + 1) 33 0 ⟨#[]⟩ 0 0 0 (.slice none 0 0) (.slice none 0 0)
  mp : OwMp W (w.heap.size + 1 + 1 + 1) mb E c
  bel : Below w.heap.size w W
theorem Shs.later {w W W' : World} {mb : Nat} {g : Int} {nm : ByteArray} {t b nx : Int} {m0 g0 : Value} {st sb : Int} {E : List En} {c : Nat} (h : Shs w W mb g nm t b nx m0 g0 st sb E c) (hb : Below W.heap.size W W') : Shs w W' mb g nm t b nx m0 g0 st sb E c :=
  ⟨h.box.later hb, h.stm.later hb, h.ans.later hb, h.mp.later hb, btr h.bel hb⟩
/-- The map's block alone is turned. -/
theorem Shs.put {w W W' : World} {mb : Nat} {g : Int} {nm : ByteArray} {t b nx : Int} {m0 g0 : Value} {st sb : Int} {E E' : List En} {c c' : Nat} (h : Shs w W mb g nm t b nx m0 g0 st sb E c) (hg : W.grownBy W' (some mb)) (hm : OwMp W' (w.heap.size + 1 + 1 + 1) mb E' c') : Shs w W' mb g nm t b nx m0 g0 st sb E' c' := by
  have hmb := h.mp.base
  have hw := h.bel.size
  refine ⟨h.box.grown hg (fun e => by simp only [Option.some.injEq] at e; omega), (hg.block _ h.stm.lt (fun e => by simp only [Option.some.injEq] at e; omega)).trans h.stm, h.ans.grown hg (fun e => by simp only [Option.some.injEq] at e; omega), hm, h.bel.trans (below_of_grown hg (by omega) hw)⟩
theorem owmp_lt {W : World} {B b c : Nat} {E : List En} (h : OwMp W B b E c) : b < W.heap.size := (Array.getElem?_eq_some_iff.1 h.lies).1

set_option maxHeartbeats 16000000 in
set_option maxRecDepth 100000 in
theorem implAdd_any (lo hh lo' hh' : Nat) (g : Int) (nm : ByteArray) (t b nx : Int) (ma : Option Addr) (mn mc : Nat) (ga : Option Addr) (gn gc : Nat) (L : List M4) (G : List Int) (gid fl : Int) (tx : ByteArray) (st sb : Int) (w : World) (hnm : nm.size ≤ 1048576) (hl : L.length = mn) (hn : mn ≤ 1048576) (hsm : Sm L) (hm : Ms lo hh w ma L) (hm0 : ma = none → mc = 0) (hgl : G.length = gn) (hgn : gn ≤ 1048576) (hs : Is lo' hh' w ga G) (hg0 : ga = none → gc = 0) (htx : tx.size ≤ 1048576) :
    Calls Try.prog 15 #[.agg #[.int .i64 g, .string nm, .int .i64 t, .int .i64 b, .int .i64 nx, .slice ma mn mc, .slice ga gn gc], .int .i64 gid, .int .i64 fl, .string tx, .agg #[.int .i64 st, .int .i64 sb]] w fun e w' =>
      ∃ mv gv, e = .returned (.tuple #[.agg #[.int .i64 g, .string nm, .int .i64 t, .int .i64 b, .int .i64 (amN (amOk g nm t b nx L G gid fl tx st sb) nx), mv, gv], .bool (amOk g nm t b nx L G gid fl tx st sb)]) ∧ OwB w' w.heap.size mv gv (amL (amOk g nm t b nx L G gid fl tx st sb) L (nwm gid nx fl tx st sb)) G ∧ Below w.heap.size w w' := by
  obtain ⟨p1, hp1, _, csp⟩ := box_l g nm t b nx mn gn L G hnm hl hn hsm hgl hgn
  obtain ⟨p2, hp2⟩ : ∃ p2, L.any (fun m => decide (m.1 = gid)) = p2 := ⟨_, rfl⟩
  obtain ⟨p4, hp4⟩ : ∃ p4, decide (0 ≤ fl ∧ fl ≤ 7) = p4 := ⟨_, rfl⟩
  have HX : Hid (amOk g nm t b nx L G gid fl tx st sb = (p1 && (!p2 && (!(inl gid G) && (p4 && bxOk g nm t b (nx + 1) (L ++ [nwm gid nx fl tx st sb]) G))))) := by
    show _ = _
    rw [hp1.out, ← hp2, ← hp4]
    unfold amOk flr
    rw [Bool.decide_and]
  obtain ⟨W0, hW0⟩ : ∃ W0, ((w.alloc (.cells #[.int .i64 g, .string nm, .int .i64 t, .int .i64 b, .int .i64 nx, .slice ma mn mc, .slice ga gn gc] 33)).alloc (.cells #[.int .i64 st, .int .i64 sb] 30)).alloc (.cells #[.int .i64 0, .string ⟨#[]⟩, .int .i64 0, .int .i64 0, .int .i64 0, .slice none 0 0, .slice none 0 0] 33) = W0 := ⟨_, rfl⟩
  obtain ⟨a0, a1, a2, b0, s0⟩ := box_stamp w g nm t b nx (.slice ma mn mc) (.slice ga gn gc) st sb W0 hW0
  have c0 := a0.cells
  have A0 := hid a0
  have A1 := hid a1
  have A2 := hid a2
  have B0 := hid b0
  have S0 := hid s0
  have HP1 := hid hp1.out
  have HP2 := hid hp2
  have HP4 := hid hp4
  have HL := hid hl
  have HN := hid hn
  have HSM := hid hsm
  have HR := hid hm
  have HM0 := hid hm0
  have HGL := hid hgl
  have HGN := hid hgn
  have HIS := hid hs
  have HG0 := hid hg0
  have HNM := hid hnm
  have HTX := hid htx
  clear a0 a1 a2 b0 s0 hp1 hp2 hp4 hl hsm hm hm0 hgl hgn hs hg0 hnm htx hn
  go_enter Try.func15, Try.ntmps15
  go_wp2_with fail
  clear hW0
  refine (shelfOf_any lo hh ma mn mc L W0 HL.out HN.out HSM.out (HR.out.later B0.out)).mono ?_; rintro e w1 ⟨rfl, ⟨E, cl, hE, hmp⟩, hb1⟩
  obtain ⟨MB, hMB⟩ : ∃ MB, W0.heap.size = MB := ⟨_, rfl⟩
  rw [hMB] at hmp ⊢
  have t1 : Shs w w1 MB g nm t b nx (.slice ma mn mc) (.slice ga gn gc) st sb E cl := ⟨A0.out.later hb1, A1.out.later hb1, A2.out.later hb1, by
    have h1 := hmp
    have h2 := S0.out
    rw [hMB] at h2
    rw [h2] at h1 ⊢
    exact h1, btr B0.out hb1⟩
  have T1 := hid t1
  have HE0 := hid hE
  have k0 := t1.box.cells
  clear t1 hmp hE hb1 A0 A1 A2 B0 c0 hMB
  go_wp2_with fail
  refine (csp.out lo hh lo' hh' ma mc ga gc _ (HR.out.later T1.out.bel) (HIS.out.later T1.out.bel)).mono ?_; rintro e w2 ⟨rfl, hb2⟩
  have T2 := hid (T1.out.later hb2)
  have k0 := T2.out.box.cells
  clear hb2 T1
  cases p1
  · have HE : Hid (amOk g nm t b nx L G gid fl tx st sb = false) := by show _ = _; rw [HX.out]; rfl
    have k1 := k0
    go_wp2_with fail
    clear k1
    refine (copyOfBox_any lo hh lo' hh' g nm t b nx ma mn mc ga gn gc L G _ HNM.out HL.out HN.out HSM.out (HR.out.later T2.out.bel) HM0.out HGL.out HGN.out (HIS.out.later T2.out.bel) HG0.out).mono ?_; rintro e wz ⟨mv', gv', rfl, howz, hbz⟩
    obtain ⟨Z', hZ', hoz', hoi', hdj', hde'⟩ := howz
    obtain ⟨va', vc', rfl⟩ := hoz'.shape
    obtain ⟨ag', cg', hgv', _⟩ := hoi'.shape
    rw [HGL.out] at hgv'
    subst hgv'
    have rz := T2.out.ans.later hbz
    have q1 := rz.cells
    have q2 := rz.loose
    have RZ := hid rz
    have BZ := hid (btr T2.out.bel hbz)
    have OZ : Hid (OwB wz (w2).heap.size (.slice va' Z'.length vc') (.slice ag' gn cg') L G) := ⟨Z', hZ', hoz', hoi', hdj', hde'⟩
    have HWZ : Hid (w.heap.size + 1 + 1 + 1 ≤ (w2).heap.size) := T2.out.ans.lt
    clear rz hbz hZ' hoz' hoi' hdj' hde'
    go_wp2
    have e2 := set7_grown wz (w.heap.size + 1 + 1) g nm t b nx (.slice va' Z'.length vc') (.slice ag' gn cg')
    have d1 := (RZ.out.set7 g nm t b nx (.slice va' Z'.length vc') (.slice ag' gn cg')).cells
    unfold set7 at d1 e2
    have hbs := BZ.out.size
    have hwz := HWZ.out
    refine bodyPost_ret (v := .tuple #[.agg #[.int .i64 g, .string nm, .int .i64 t, .int .i64 b, .int .i64 nx, .slice va' Z'.length vc', .slice ag' gn cg'], .bool false]) (by simp [results, Try.results15, go_sem, d1]) rfl ⟨_, _, by rw [HE.out]; rfl, ?_, ?_⟩
    · rw [HE.out]
      exact (OwB.grown OZ.out e2 (by omega)).base (by omega)
    · exact BZ.out.trans (below_of_grown e2 (by omega) hbs)
  have hp := bx_parts HP1.out.symm
  have HNX := hid hp.2.1
  have HMN : Hid (mn ≤ 10) := by show _ ≤ _; rw [← HL.out]; exact hp.1
  have HAL := hid hp.2.2.1
  have HEL : Hid (E.map mde = L) := by show _ = _; rw [HE0.out, shl_uniq hp.2.2.2.1]
  clear hp HE0
  go_wp2_with fail
  refine (holds_any _ MB cl E gid _ T2.out.mp).mono ?_; rintro e w3 ⟨rfl, hb3⟩
  rw [any_mde gid E HEL.out, HP2.out]
  have T3 := hid (T2.out.later hb3)
  have k0 := T3.out.box.cells
  clear hb3 T2
  cases p2
  case true =>
    have HE : Hid (amOk g nm t b nx L G gid fl tx st sb = false) := by show _ = _; rw [HX.out]; simp
    have k1 := k0
    go_wp2_with fail
    clear k1
    refine (copyOfBox_any lo hh lo' hh' g nm t b nx ma mn mc ga gn gc L G _ HNM.out HL.out HN.out HSM.out (HR.out.later T3.out.bel) HM0.out HGL.out HGN.out (HIS.out.later T3.out.bel) HG0.out).mono ?_; rintro e wz ⟨mv', gv', rfl, howz, hbz⟩
    obtain ⟨Z', hZ', hoz', hoi', hdj', hde'⟩ := howz
    obtain ⟨va', vc', rfl⟩ := hoz'.shape
    obtain ⟨ag', cg', hgv', _⟩ := hoi'.shape
    rw [HGL.out] at hgv'
    subst hgv'
    have rz := T3.out.ans.later hbz
    have q1 := rz.cells
    have q2 := rz.loose
    have RZ := hid rz
    have BZ := hid (btr T3.out.bel hbz)
    have OZ : Hid (OwB wz (w3).heap.size (.slice va' Z'.length vc') (.slice ag' gn cg') L G) := ⟨Z', hZ', hoz', hoi', hdj', hde'⟩
    have HWZ : Hid (w.heap.size + 1 + 1 + 1 ≤ (w3).heap.size) := T3.out.ans.lt
    clear rz hbz hZ' hoz' hoi' hdj' hde'
    go_wp2
    have e2 := set7_grown wz (w.heap.size + 1 + 1) g nm t b nx (.slice va' Z'.length vc') (.slice ag' gn cg')
    have d1 := (RZ.out.set7 g nm t b nx (.slice va' Z'.length vc') (.slice ag' gn cg')).cells
    unfold set7 at d1 e2
    have hbs := BZ.out.size
    have hwz := HWZ.out
    refine bodyPost_ret (v := .tuple #[.agg #[.int .i64 g, .string nm, .int .i64 t, .int .i64 b, .int .i64 nx, .slice va' Z'.length vc', .slice ag' gn cg'], .bool false]) (by simp [results, Try.results15, go_sem, d1]) rfl ⟨_, _, by rw [HE.out]; rfl, ?_, ?_⟩
    · rw [HE.out]
      exact (OwB.grown OZ.out e2 (by omega)).base (by omega)
    · exact BZ.out.trans (below_of_grown e2 (by omega) hbs)
  go_wp2_with fail
  refine (right_flags fl _).mono ?_; rintro e w4 ⟨rfl, h4⟩
  subst h4
  rw [HP4.out]
  cases p4
  · have HE : Hid (amOk g nm t b nx L G gid fl tx st sb = false) := by show _ = _; rw [HX.out]; simp
    have k1 := k0
    go_wp2_with fail
    clear k1
    refine (copyOfBox_any lo hh lo' hh' g nm t b nx ma mn mc ga gn gc L G _ HNM.out HL.out HN.out HSM.out (HR.out.later T3.out.bel) HM0.out HGL.out HGN.out (HIS.out.later T3.out.bel) HG0.out).mono ?_; rintro e wz ⟨mv', gv', rfl, howz, hbz⟩
    obtain ⟨Z', hZ', hoz', hoi', hdj', hde'⟩ := howz
    obtain ⟨va', vc', rfl⟩ := hoz'.shape
    obtain ⟨ag', cg', hgv', _⟩ := hoi'.shape
    rw [HGL.out] at hgv'
    subst hgv'
    have rz := T3.out.ans.later hbz
    have q1 := rz.cells
    have q2 := rz.loose
    have RZ := hid rz
    have BZ := hid (btr T3.out.bel hbz)
    have OZ : Hid (OwB wz (w4).heap.size (.slice va' Z'.length vc') (.slice ag' gn cg') L G) := ⟨Z', hZ', hoz', hoi', hdj', hde'⟩
    have HWZ : Hid (w.heap.size + 1 + 1 + 1 ≤ (w4).heap.size) := T3.out.ans.lt
    clear rz hbz hZ' hoz' hoi' hdj' hde'
    go_wp2
    have e2 := set7_grown wz (w.heap.size + 1 + 1) g nm t b nx (.slice va' Z'.length vc') (.slice ag' gn cg')
    have d1 := (RZ.out.set7 g nm t b nx (.slice va' Z'.length vc') (.slice ag' gn cg')).cells
    unfold set7 at d1 e2
    have hbs := BZ.out.size
    have hwz := HWZ.out
    refine bodyPost_ret (v := .tuple #[.agg #[.int .i64 g, .string nm, .int .i64 t, .int .i64 b, .int .i64 nx, .slice va' Z'.length vc', .slice ag' gn cg'], .bool false]) (by simp [results, Try.results15, go_sem, d1]) rfl ⟨_, _, by rw [HE.out]; rfl, ?_, ?_⟩
    · rw [HE.out]
      exact (OwB.grown OZ.out e2 (by omega)).base (by omega)
    · exact BZ.out.trans (below_of_grown e2 (by omega) hbs)
  have HS : Hid (∀ W, Below w4.heap.size w4 W → (W.cell? ⟨w.heap.size, 0, none⟩ = some (.int .i64 g) ∧ W.cell? ⟨w.heap.size, 1, none⟩ = some (.string nm) ∧ W.cell? ⟨w.heap.size, 2, none⟩ = some (.int .i64 t) ∧ W.cell? ⟨w.heap.size, 3, none⟩ = some (.int .i64 b) ∧ W.cell? ⟨w.heap.size, 4, none⟩ = some (.int .i64 nx) ∧ W.cell? ⟨w.heap.size, 5, none⟩ = some (.slice ma mn mc) ∧ W.cell? ⟨w.heap.size, 6, none⟩ = some (.slice ga gn gc)) ∧ (W.cell? ⟨w.heap.size + 1, 0, none⟩ = some (.int .i64 st) ∧ W.cell? ⟨w.heap.size + 1, 1, none⟩ = some (.int .i64 sb))) := fun W h => ⟨(T3.out.box.later h).cells, (T3.out.stm.later h).cells⟩
  clear k0
  go_wp2_with fail
  go_region_held3 (fun W => (W.cell? ⟨w.heap.size, 0, none⟩ = some (.int .i64 g) ∧ W.cell? ⟨w.heap.size, 1, none⟩ = some (.string nm) ∧ W.cell? ⟨w.heap.size, 2, none⟩ = some (.int .i64 t) ∧ W.cell? ⟨w.heap.size, 3, none⟩ = some (.int .i64 b) ∧ W.cell? ⟨w.heap.size, 4, none⟩ = some (.int .i64 nx) ∧ W.cell? ⟨w.heap.size, 5, none⟩ = some (.slice ma mn mc) ∧ W.cell? ⟨w.heap.size, 6, none⟩ = some (.slice ga gn gc)) ∧ (W.cell? ⟨w.heap.size + 1, 0, none⟩ = some (.int .i64 st) ∧ W.cell? ⟨w.heap.size + 1, 1, none⟩ = some (.int .i64 sb)))
    ((first | exact HS.out _ (bdr (bre _)) | exact HS.out _ (btr (btr (bdr (bre _)) hb5) hb6) | exact HS.out _ (btr (bdr (bre _)) hb5) | exact HS7.out))
    ((first
      | (go_at_call 44; refine (implFlagsNew_any fl st sb _).mono ?_; rintro e w5 ⟨gf, hgf, rfl, how, hb5⟩; have B5 := hid (show Below w4.heap.size w4 w5 from btr (bdr (bre _)) hb5); have HOW := hid how; have HGF := hid hgf; clear how hgf)
      | (go_at_call 45; refine (clone_any tx _ HTX.out).mono ?_; rintro e w6 ⟨rfl, hb6⟩; have B6 := hid (show Below w4.heap.size w4 w6 from btr B5.out hb6); have T6 := hid (T3.out.later B6.out);
          obtain ⟨W7, E', c', hrun, hmp7, hE7, hgr, _⟩ := T6.out.mp.put ((gid, nx, Value.slice (some ⟨gf, 0, none⟩) 3 3, fnew fl st sb, tx) : Z5) (own_later (own_base HOW.out (by have h1 := T3.out.ans.lt; show _ ≤ w4.heap.size; omega)) hb6) (fun e he j hj hj' => by have h1 := ((T3.out.mp.each e he).lt j hj').2; have h2 : w4.heap.size ≤ gf := HGF.out; simp [Value.ownBlock] at hj; omega);
          have hrun' : (Instr.mapUpdate 63 (.map (some MB)) (.int .i64 gid) (.agg #[.int .i64 gid, .int .i64 nx, .slice (some ⟨gf, 0, none⟩) 3 3, .string tx])).run Try.prog w6 = .ok () W7 := hrun;
          have T7 := hid (T6.out.put hgr hmp7);
          have HS7 := hid (And.intro T7.out.box.cells T7.out.stm.cells);
          have HE7 := hid hE7;
          clear hmp7 hE7 hgr hrun)))
  have HEN : Hid (E'.map mde = L ++ [nwm gid nx fl tx st sb]) := by show _ = _; rw [HE7.out, HEL.out]; exact shl_nil_add (by show L.any (fun x => decide (x.1 = gid)) = false; exact HP2.out)
  have k7 := T7.out.box.cells
  clear hrun'
  go_wp2_with fail
  refine (boxWith_any lo' hh' g nm t b nx (.slice ma mn mc) ga gn gc (L ++ [nwm gid nx fl tx st sb]) G _ MB c' E' W7 ma mn mc rfl HNM.out (by have h1 := congrArg List.length HEN.out; have h2 := HL.out; have h3 := HMN.out; simp at h1; omega) T7.out.mp (List.Perm.of_eq HEN.out) (upr_snoc HAL.out _ rfl) HGL.out HGN.out (HIS.out.later T7.out.bel) HG0.out).mono ?_; rintro e w8 ⟨mv, gv, rfl, how8, hb8⟩
  obtain ⟨Z, hZ, hoz, hoi, hdj, hde⟩ := how8
  obtain ⟨va, vc, rfl⟩ := hoz.shape
  obtain ⟨ag, cg, hgv, _⟩ := hoi.shape
  rw [HGL.out] at hgv
  subst hgv
  obtain ⟨OB, hOB⟩ : ∃ OB, w8.heap.size = OB := ⟨_, rfl⟩
  obtain ⟨W9, hW9⟩ : ∃ W9, w8.alloc (.cells #[.int .i64 g, .string nm, .int .i64 t, .int .i64 b, .int .i64 nx, .slice va Z.length vc, .slice ag gn cg] 33) = W9 := ⟨_, rfl⟩
  have b9 : Below w8.heap.size w8 W9 := by subst hW9; exact bpush (bre _) _
  have x9 : Bx W9 OB 33 g nm t b nx (.slice va Z.length vc) (.slice ag gn cg) := by rw [← hW9, ← hOB]; exact Bx.new w8 _ g nm t b nx _ _
  have t9 := (T7.out.later hb8).later b9
  have z9 := hoz.later b9
  have i9 := own_later hoi b9
  have HRO : Hid (∀ j, Value.ownBlock (.slice va Z.length vc) = some j → j ≠ OB) := fun j hj => by have := (hoz.row.lt j hj).2; omega
  have HEO : Hid (∀ z ∈ Z, ∀ j, z.2.2.1.ownBlock = some j → j ≠ OB) := fun z hz j hj => by have := ((hoz.each z hz).lt j hj).2; omega
  have HGO : Hid (∀ j, Value.ownBlock (.slice ag gn cg) = some j → j ≠ OB) := fun j hj => by have := (hoi.lt j hj).2; omega
  have HOBB : Hid (w.heap.size + 1 + 1 + 1 ≤ OB) := by show _ ≤ _; rw [← hOB]; have h1 := T7.out.ans.lt; have h2 := hb8.size; omega
  have HDJ := hid hdj
  have HDE := hid hde
  have HZL := hid hZ
  have X9 := hid x9
  have T9 := hid t9
  have Z9 := hid z9
  have I9 := hid i9
  have k9 := x9.cells
  have f9 := x9.loose
  have hnw : nx + 1 ≤ 10001 ∧ 2 ≤ nx + 1 := by have := HNX.out; omega
  clear hb8 hoz hoi hdj hde hZ b9 x9 t9 z9 i9 k7
  go_wp2_with fail
  clear hW9 hOB
  obtain ⟨W10, hW10⟩ : ∃ W10, W9.setCell ⟨OB, 4, none⟩ (.int .i64 (nx + 1)) = W10 := ⟨_, rfl⟩
  have g10 : W9.grownBy W10 (some OB) := by subst hW10; exact wst (wre _ _) _ _
  have hob := HOBB.out
  have x10 : Bx W10 OB 33 g nm t b (nx + 1) (.slice va Z.length vc) (.slice ag gn cg) := by subst hW10; exact X9.out.s4 _
  have z10 := Z9.out.far2 g10 HRO.out HEO.out
  have i10 : OwI W10 (w.heap.size + 1 + 1 + 1) (.slice ag gn cg) G := World.ownsRow.kept I9.out g10 (by
    cases hgb : Value.ownBlock (.slice ag gn cg) with
    | none => exact Or.inl rfl
    | some j => exact Or.inr (fun e => HGO.out j hgb (by simpa using e)))
  have a10 := T9.out.box.grown g10 (fun e => by simp only [Option.some.injEq] at e; omega)
  have r10 := T9.out.ans.grown g10 (fun e => by simp only [Option.some.injEq] at e; omega)
  have b10 : Below w.heap.size w W10 := T9.out.bel.trans (below_of_grown g10 (by omega) T9.out.bel.size)
  try simp only [hW10]
  obtain ⟨p5, hp5, _, csp5⟩ := box_l g nm t b (nx + 1) (L ++ [nwm gid nx fl tx st sb]).length gn (L ++ [nwm gid nx fl tx st sb]) G HNM.out rfl (by have h1 := HL.out; have h2 := HMN.out; simp; omega) (sm_snoc HSM.out HTX.out) HGL.out HGN.out
  have HX4 : Hid (amOk g nm t b nx L G gid fl tx st sb = p5) := by
    show _ = _
    rw [HX.out, hp5.out]
    cases hin : inl gid G with
    | false => simp
    | true => rw [bx_gone (m := nwm gid nx fl tx st sb) hin]; simp
  have HZLN : Hid ((L ++ [nwm gid nx fl tx st sb]).length = Z.length) := by show _ = _; have := congrArg List.length HZL.out; simp at this ⊢; omega
  have hms : Ms (w.heap.size + 1 + 1 + 1) W10.heap.size W10 va (L ++ [nwm gid nx fl tx st sb]) := by rw [← HZL.out]; exact z10.ms.2
  have his : Is (w.heap.size + 1 + 1 + 1) W10.heap.size W10 ag G := (OwI.is i10).2
  have X10 := hid x10
  have Z10 := hid z10
  have I10 := hid i10
  have A10 := hid a10
  have R10 := hid r10
  have B10 := hid b10
  have HMS := hid hms
  have HIS2 := hid his
  clear hW10 g10 x10 z10 i10 a10 r10 b10 hms his k9 f9 hp5 T9
  rw [← HZLN.out]
  refine (csp5.out _ _ _ _ va vc ag cg W10 HMS.out HIS2.out).mono ?_; rintro e w11 ⟨rfl, hb11⟩
  have x11 := X10.out.later hb11
  have k11 := x11.cells
  have c11 := (A10.out.later hb11).cells
  have r11 := R10.out.later hb11
  have q1 := r11.cells
  have q2 := r11.loose
  have Z11 := hid (Z10.out.later hb11)
  have I11 := hid (own_later I10.out hb11)
  have R11 := hid r11
  have A11 := hid (A10.out.later hb11)
  have B11 := hid (btr B10.out hb11)
  clear x11 r11 hb11 hnw
  cases p5
  · have HE := hid (show amOk g nm t b nx L G gid fl tx st sb = false by rw [HX4.out])
    clear k11 q1 q2
    go_wp2_with fail
    refine (copyOfBox_any lo hh lo' hh' g nm t b nx ma mn mc ga gn gc L G _ HNM.out HL.out HN.out HSM.out (HR.out.later B11.out) HM0.out HGL.out HGN.out (HIS.out.later B11.out) HG0.out).mono ?_; rintro e wz ⟨mv', gv', rfl, howz, hbz⟩
    obtain ⟨Z', hZ', hoz', hoi', hdj', hde'⟩ := howz
    obtain ⟨va', vc', rfl⟩ := hoz'.shape
    obtain ⟨ag', cg', hgv', _⟩ := hoi'.shape
    rw [HGL.out] at hgv'
    subst hgv'
    have rz := R11.out.later hbz
    have q1 := rz.cells
    have q2 := rz.loose
    have RZ := hid rz
    have BZ := hid (btr B11.out hbz)
    have OZ : Hid (OwB wz w11.heap.size (.slice va' Z'.length vc') (.slice ag' gn cg') L G) := ⟨Z', hZ', hoz', hoi', hdj', hde'⟩
    have HWZ : Hid (w.heap.size + 1 + 1 + 1 ≤ w11.heap.size) := R11.out.lt
    clear rz hbz hZ' hoz' hoi' hdj' hde' c11
    go_wp2
    have e2 := set7_grown wz (w.heap.size + 1 + 1) g nm t b nx (.slice va' Z'.length vc') (.slice ag' gn cg')
    have d1 := (RZ.out.set7 g nm t b nx (.slice va' Z'.length vc') (.slice ag' gn cg')).cells
    unfold set7 at d1 e2
    have hbs := BZ.out.size
    have hwz := HWZ.out
    refine bodyPost_ret (v := .tuple #[.agg #[.int .i64 g, .string nm, .int .i64 t, .int .i64 b, .int .i64 nx, .slice va' Z'.length vc', .slice ag' gn cg'], .bool false]) (by simp [results, Try.results15, go_sem, d1]) rfl ⟨_, _, by rw [HE.out]; rfl, ?_, ?_⟩
    · rw [HE.out]
      exact (OwB.grown OZ.out e2 (by omega)).base (by omega)
    · exact BZ.out.trans (below_of_grown e2 (by omega) hbs)
  · have HE := hid (show amOk g nm t b nx L G gid fl tx st sb = true by rw [HX4.out])
    clear c11
    rw [HZLN.out]
    go_wp2
    have e2 := set7_grown w11 (w.heap.size + 1 + 1) g nm t b (nx + 1) (.slice va Z.length vc) (.slice ag gn cg)
    have d1 := (R11.out.set7 g nm t b (nx + 1) (.slice va Z.length vc) (.slice ag gn cg)).cells
    unfold set7 at d1 e2
    have hbs := B11.out.size
    refine bodyPost_ret (v := .tuple #[.agg #[.int .i64 g, .string nm, .int .i64 t, .int .i64 b, .int .i64 (nx + 1), .slice va Z.length vc, .slice ag gn cg], .bool true]) (by simp [results, Try.results15, go_sem, d1]) rfl ⟨_, _, by rw [HE.out]; rfl, ?_, ?_⟩
    · rw [HE.out]
      exact (OwB.grown ⟨_, HZL.out, Z11.out, I11.out, HDJ.out, HDE.out⟩ e2 (by omega)).base (by omega)
    · exact B11.out.trans (below_of_grown e2 (by omega) hbs)
end Go.Proofs.Ytfmacodnjhegcam
