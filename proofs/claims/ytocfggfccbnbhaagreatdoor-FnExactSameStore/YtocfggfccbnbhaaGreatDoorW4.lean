/- Ww, Wh, Wi, Wj, Tx0. -/
import Derived.Test.YtocfggfccbnbhaaGreatDoorW3
namespace Go.Proofs.YtocfggfccbnbhaaGreatDoor
open Go.RowKit Go.ChangeMaps
theorem cat_mts (L : List M4) : cat (L.map mt4) = mts L := by
  induction L with
  | nil => rfl
  | cons m L ih => simp only [List.map_cons, cat, mts, ih]; rfl
theorem cat_vis (G : List Int) : cat (G.map vi) = vis G := by
  induction G with
  | nil => rfl
  | cons x G ih => simp only [List.map_cons, cat, vis, ih]
theorem vi_pos (n : Int) : 0 < (vi n).size := by
  have h : (vi n).size = (vbs n.toNat).length := by show (vbs n.toNat).toArray.size = _; simp
  rw [h]
  by_cases h2 : 127 < n.toNat
  · rw [vbs_big _ h2]; simp
  · rw [vbs_small _ h2]; simp
theorem mt4_pos (m : M4) : 0 < (mt4 m).size := by
  unfold mt4 mtx
  simp only [ByteArray.size_append]
  have := vi_pos m.1
  omega
/-- Block k holds one number, three numbers. -/
def In1 (W : World) (k : Nat) (x : Int) : Prop := W.heap[k]? = some (.cells #[.int .i64 x] 3 (0, 0))
def In3 (W : World) (k : Nat) (x y z : Int) : Prop := W.heap[k]? = some (.cells #[.int .i64 x, .int .i64 y, .int .i64 z] 3 (0, 0))
theorem In1.later {W W' : World} {k : Nat} {x : Int} (h : In1 W k x) (hb : Below W.heap.size W W') : In1 W' k x := (hb.block k (Array.getElem?_eq_some_iff.1 h).1).trans h
theorem In3.later {W W' : World} {k : Nat} {x y z : Int} (h : In3 W k x y z) (hb : Below W.heap.size W W') : In3 W' k x y z := (hb.block k (Array.getElem?_eq_some_iff.1 h).1).trans h
theorem vt1 (x : Int) (hx : 0 ≤ x ∧ x ≤ 1000000000) : ∃ s : ByteArray, Hid (s = vi x) ∧ Hid (∀ W k, In1 W k x → Calls Tryz.prog 34 #[.slice (some ⟨k, 0, none⟩) 1 1] W fun e w' => e = .returned (.string s) ∧ Below W.heap.size W w') := by
  refine ⟨vis [x], ?_, fun W k h => ?_⟩
  · show _ = _; simp only [vis, nil_ba]
  · refine varTexts_any k [x] 1 _ rfl (by omega) (by intro z hz; simp at hz; subst hz; assumption) (Array.getElem?_eq_some_iff.1 h).1 ?_
    intro i hi
    have h2 : i = 0 := by simp at hi; omega
    subst h2
    exact cell_of_row _ _ 0 _ _ _ h
theorem vt3 (x y z : Int) (hx : 0 ≤ x ∧ x ≤ 1000000000) (hy : 0 ≤ y ∧ y ≤ 1000000000) (hz : 0 ≤ z ∧ z ≤ 1000000000) : ∃ s : ByteArray, Hid (s = vi x ++ vi y ++ vi z) ∧ Hid (∀ W k, In3 W k x y z → Calls Tryz.prog 34 #[.slice (some ⟨k, 0, none⟩) 3 3] W fun e w' => e = .returned (.string s) ∧ Below W.heap.size W w') := by
  refine ⟨vis [x, y, z], ?_, fun W k h => ?_⟩
  · show _ = _; simp only [vis, nil_ba, ByteArray.append_assoc]
  · refine varTexts_any k [x, y, z] 3 _ rfl (by omega) (by intro v hv; simp at hv; rcases hv with rfl | rfl | rfl <;> assumption) (Array.getElem?_eq_some_iff.1 h).1 ?_
    intro i hi
    have h2 : i = 0 ∨ i = 1 ∨ i = 2 := by simp at hi; omega
    rcases h2 with rfl | rfl | rfl
    · exact cell_of_row _ _ 0 _ _ _ h
    · exact cell_of_row _ _ 1 _ _ _ h
    · exact cell_of_row _ _ 2 _ _ _ h
theorem ownR_three (w : World) (x y z : ByteArray) : OwR (w.alloc (.cells #[.string x, .string y, .string z] 9)) w.heap.size (.slice (some ⟨w.heap.size, 0, none⟩) 3 3) [x, y, z] := by
  have h := World.ownsRow_lit (base := w.heap.size) (e := 9) (size := 1) w #[.string x, .string y, .string z] 3 (Nat.le_refl _) (by unfold maxLen; omega) rfl
  simpa [OwR] using h
/-- The parts of a box's text are its text. -/
def bparts (g : Int) (nm : ByteArray) (t b nx : Int) (L : List M4) (G : List Int) : List ByteArray := ([vi g, vi nm.size ++ nm, vi t ++ vi b ++ vi nx] ++ (vi L.length :: L.map mt4)) ++ (vi G.length :: G.map vi)
theorem bparts_cat (g : Int) (nm : ByteArray) (t b nx : Int) (L : List M4) (G : List Int) : cat (bparts g nm t b nx L G) = btx g nm t b nx L G := by
  unfold bparts btx bth
  simp only [cat_app, cat, cat_mts, cat_vis, nil_ba, ByteArray.append_assoc]
theorem bparts_pos (g : Int) (nm : ByteArray) (t b nx : Int) (L : List M4) (G : List Int) : ∀ x ∈ bparts g nm t b nx L G, 0 < x.size := by
  intro x hx
  unfold bparts at hx
  have h1 := vi_pos g
  have h2 := vi_pos nm.size
  have h3 := vi_pos t
  simp only [List.mem_append, List.mem_cons, List.mem_map, List.not_mem_nil, or_false] at hx
  rcases hx with ((rfl | rfl | rfl) | rfl | ⟨m, _, rfl⟩) | rfl | ⟨y, _, rfl⟩
  · exact h1
  · rw [ByteArray.size_append]; omega
  · rw [ByteArray.size_append, ByteArray.size_append]; omega
  · exact vi_pos _
  · exact mt4_pos m
  · exact vi_pos _
  · exact vi_pos y
theorem bparts_len (g : Int) (nm : ByteArray) (t b nx : Int) (L : List M4) (G : List Int) : (bparts g nm t b nx L G).length = L.length + G.length + 5 := by
  unfold bparts
  simp only [List.length_append, List.length_cons, List.length_map, List.length_nil]
  omega
set_option maxHeartbeats 16000000 in
set_option maxRecDepth 100000 in
theorem implBoxText_any (l1 h1 l2 h2 : Nat) (g : Int) (nm : ByteArray) (t b nx : Int) (ma : Option Addr) (mn mc : Nat) (ga : Option Addr) (gn gc : Nat) (L : List M4) (G : List Int) (w : World) (hnm : nm.size ≤ 1048576) (hl : L.length = mn) (hn : mn ≤ 1048576) (hsm : Sm L) (hm : Ms l1 h1 w ma L) (hgl : G.length = gn) (hgn : gn ≤ 1048576) (hs : Is l2 h2 w ga G) :
    Calls Tryz.prog 14 #[.agg #[.int .i64 g, .string nm, .int .i64 t, .int .i64 b, .int .i64 nx, .slice ma mn mc, .slice ga gn gc]] w fun e w' => e = .returned (btR g nm t b nx L G) ∧ Below w.heap.size w w' := by
  obtain ⟨W0, hW0⟩ : ∃ W0, w.alloc (.cells #[.int .i64 g, .string nm, .int .i64 t, .int .i64 b, .int .i64 nx, .slice ma mn mc, .slice ga gn gc] 38) = W0 := ⟨_, rfl⟩
  have XB : Hid (Bx W0 w.heap.size 38 g nm t b nx (.slice ma mn mc) (.slice ga gn gc)) := by subst hW0; exact hid (Bx.new w _ _ _ _ _ _ _ _)
  have HB : Hid (Below w.heap.size w W0) := by subst hW0; exact hid (bpush (bre _) _)
  have HM := hid hm
  have HS := hid hs
  have HL := hid hl
  have HG := hid hgl
  have HX := hid hsm
  have c0 := XB.out.cells
  have HOK := hid (implBoxOk_any l1 h1 l2 h2 g nm t b nx ma mn mc ga gn gc L G W0 hnm hl hn hsm (hm.later HB.out) hgl hgn (hs.later HB.out))
  clear hm hs hl hgl hsm
  cases hok : bxOk g nm t b nx L G
  · have hE : btR g nm t b nx L G = .tuple #[.string ⟨#[]⟩, .bool false] := by unfold btR; rw [hok]; rfl
    rw [hE]
    rw [hok] at HOK
    clear hE hok
    go_enter Tryz.func14, Tryz.ntmps14
    go_wp2_with fail
    try rw [hW0]
    clear hW0
    refine HOK.out.mono ?_; rintro e w1 ⟨rfl, hb1⟩
    have B1 := hid (btr HB.out hb1)
    clear hb1 c0
    go_wp2
    go_ret2
    exact ⟨rfl, B1.out⟩
  · have hE : btR g nm t b nx L G = .tuple #[.string (btx g nm t b nx L G), .bool true] := by unfold btR; rw [hok]; rfl
    rw [hE]
    rw [hok] at HOK
    have HZ : Hid ((cat (bparts g nm t b nx L G)).size ≤ 1048576) := hid (by rw [bparts_cat]; have := btx_size hok; omega)
    obtain ⟨p1, p2, p3, p4, p5, p6, p7, p8⟩ := bx_txt hok
    obtain ⟨x1, e1, C1⟩ := vt1 g (by omega)
    obtain ⟨x2, e2, z2, C2⟩ := short_i nm (by omega)
    obtain ⟨x3, e3, C3⟩ := vt3 t b nx (by omega) (by omega) (by omega)
    have P6 := hid p6
    have P8 : Hid (∀ y ∈ G, 0 ≤ y ∧ y ≤ 1000000000) := hid (fun y hy => by have := p8 y hy; omega)
    have HN := hid hn
    have HGN := hid hgn
    have HN2 : Hid (mn + gn ≤ 50) := hid (by rw [HL.out] at p5; rw [HG.out] at p7; omega)
    obtain ⟨lm, hlm⟩ : ∃ l, (vi mn :: L.map mt4) = l := ⟨_, rfl⟩
    obtain ⟨lg, hlg⟩ : ∃ l, (vi gn :: G.map vi) = l := ⟨_, rfl⟩
    have HLM : Hid (lm.length = mn + 1) := hid (by rw [← hlm]; simp only [List.length_cons, List.length_map]; rw [HL.out])
    have HLG : Hid (lg.length = gn + 1) := hid (by rw [← hlg]; simp only [List.length_cons, List.length_map]; rw [HG.out])
    have HP : Hid (([x1, x2, x3] ++ lm) ++ lg = bparts g nm t b nx L G) := hid (by rw [← hlm, ← hlg, e1.out, e2.out, e3.out, ← HL.out, ← HG.out]; rfl)
    have CM := hid (fun (W : World) (h : Ms l1 h1 W ma L) => ltMails_any l1 h1 ma mn mc L W HL.out HN.out HX.out h P6.out)
    have CG := hid (fun (W : World) (h : Is l2 h2 W ga G) => ltInts_any l2 h2 ga gn gc G W HG.out HGN.out h P8.out)
    rw [hlm] at CM
    rw [hlg] at CG
    clear hlm hlg
    clear hE hok hn hgn p1 p3 p4 p5 p6 p7 p8 z2
    go_enter Tryz.func14, Tryz.ntmps14
    go_wp2_with fail
    try rw [hW0]
    clear hW0
    refine HOK.out.mono ?_; rintro e w1 ⟨rfl, hb1⟩
    replace XB := hid (XB.out.later hb1)
    replace HB := hid (btr HB.out hb1)
    clear hb1 c0 HOK
    have c0 := XB.out.cells
    go_wp2_with fail
    refine (C2.out _).mono ?_; rintro e w2 ⟨rfl, hb2⟩
    replace XB := hid (XB.out.later hb2)
    replace HB := hid (btr HB.out hb2)
    clear hb2 c0 C2
    go_wp2_with fail
    have HSS : Hid (∀ W, Bx W w.heap.size 38 g nm t b nx (.slice ma mn mc) (.slice ga gn gc) → (fun W => (W.cell? ⟨w.heap.size, 0, none⟩ = some (.int .i64 g) ∧ W.cell? ⟨w.heap.size, 1, none⟩ = some (.string nm) ∧ W.cell? ⟨w.heap.size, 2, none⟩ = some (.int .i64 t) ∧ W.cell? ⟨w.heap.size, 3, none⟩ = some (.int .i64 b) ∧ W.cell? ⟨w.heap.size, 4, none⟩ = some (.int .i64 nx) ∧ W.cell? ⟨w.heap.size, 5, none⟩ = some (.slice ma mn mc) ∧ W.cell? ⟨w.heap.size, 6, none⟩ = some (.slice ga gn gc))) W) := hid (fun W h => h.cells)
    refine wp_region_noPanic ?_
    refine wp_region_held_drew (S := (fun W => (W.cell? ⟨w.heap.size, 0, none⟩ = some (.int .i64 g) ∧ W.cell? ⟨w.heap.size, 1, none⟩ = some (.string nm) ∧ W.cell? ⟨w.heap.size, 2, none⟩ = some (.int .i64 t) ∧ W.cell? ⟨w.heap.size, 3, none⟩ = some (.int .i64 b) ∧ W.cell? ⟨w.heap.size, 4, none⟩ = some (.int .i64 nx) ∧ W.cell? ⟨w.heap.size, 5, none⟩ = some (.slice ma mn mc) ∧ W.cell? ⟨w.heap.size, 6, none⟩ = some (.slice ga gn gc)))) (by kernel_rfl) (HSS.out _ XB.out) (fun hHeld => ?_)
    obtain ⟨v0, hv0⟩ : ∃ x, w2.drew = x := ⟨_, rfl⟩
    replace XB := hid (XB.out.later (bdr (bre _)))
    replace HB := hid (btr HB.out (bdr (bre _)))
    rw [hv0] at XB HB hHeld
    rw [hv0]
    clear hv0
    refine tk 0 ?_
    refine tk 1 ?_
    refine tk 4 ?_
    refine tk 5 ?_
    refine tk 6 ?_
    refine tk 7 ?_
    refine tk 8 ?_
    refine tk 9 ?_
    refine tk 10 ?_
    refine tk 11 ?_
    refine tk 12 ?_
    clear hHeld
    refine wpAnyH_ready (rs := [2, 13]) (by kernel_rfl) (by simp) ?_
    refine rc (fun K hK => ?_) (rl (fun K hK => ?_))
    · go_simp
      have hbx := bpush (bre v0) (.cells #[.int .i64 g] 3)
      have J1 : Hid (In1 (v0.alloc (.cells #[.int .i64 g] 3)) v0.heap.size g) := hid (heap_alloc_new v0 _)
      replace XB := hid (XB.out.later hbx)
      replace HB := hid (btr HB.out hbx)
      obtain ⟨v1, hv1⟩ : ∃ x, v0.alloc (.cells #[.int .i64 g] 3) = x := ⟨_, rfl⟩
      obtain ⟨k1, hk1⟩ : ∃ x, v0.heap.size = x := ⟨_, rfl⟩
      rw [hv1] at XB HB J1 
      rw [hk1] at J1
      rw [hv1, hk1]
      clear hbx hv1 hk1
      refine hK.out _ _ (HSS.out _ XB.out) (fun hHeld => ?_)
      clear hK K hHeld
      try simp only [Act.put, List.setIfInBounds_toArray, List.set_cons_zero, List.set_cons_succ]
      refine wpAnyH_ready (rs := [3, 13]) (by kernel_rfl) (by simp) ?_
      refine rc (fun K hK => ?_) (rl (fun K hK => ?_))
      · go_simp
        refine (C1.out _ _ J1.out).mono ?_; rintro e v2 ⟨rfl, hbx⟩
        replace XB := hid (XB.out.later hbx)
        replace HB := hid (btr HB.out hbx)
        replace J1 := hid (J1.out.later hbx)
        clear hbx
        go_wp2_with fail
        refine hK.out _ _ (HSS.out _ XB.out) (fun hHeld => ?_)
        clear hK K hHeld
        try simp only [Act.put, List.setIfInBounds_toArray, List.set_cons_zero, List.set_cons_succ]
        refine ry 13 (fun K hK => ?_)
        go_simp
        have hbx := bpush (bre v2) (.cells #[.int .i64 t, .int .i64 b, .int .i64 nx] 3)
        have J3 : Hid (In3 (v2.alloc (.cells #[.int .i64 t, .int .i64 b, .int .i64 nx] 3)) v2.heap.size t b nx) := hid (heap_alloc_new v2 _)
        replace XB := hid (XB.out.later hbx)
        replace HB := hid (btr HB.out hbx)
        replace J1 := hid (J1.out.later hbx)
        obtain ⟨v3, hv3⟩ : ∃ x, v2.alloc (.cells #[.int .i64 t, .int .i64 b, .int .i64 nx] 3) = x := ⟨_, rfl⟩
        obtain ⟨k3, hk3⟩ : ∃ x, v2.heap.size = x := ⟨_, rfl⟩
        rw [hv3] at XB HB J3 J1
        rw [hk3] at J3
        rw [hv3, hk3]
        clear hbx hv3 hk3
        refine hK.out _ _ (HSS.out _ XB.out) (fun hHeld => ?_)
        clear hK K hHeld
        try simp only [Act.put, List.setIfInBounds_toArray, List.set_cons_zero, List.set_cons_succ]
        refine ry 14 (fun K hK => ?_)
        go_simp
        refine (C3.out _ _ J3.out).mono ?_; rintro e v4 ⟨rfl, hbx⟩
        replace XB := hid (XB.out.later hbx)
        replace HB := hid (btr HB.out hbx)
        replace J1 := hid (J1.out.later hbx)
        replace J3 := hid (J3.out.later hbx)
        clear hbx
        go_wp2_with fail
        refine hK.out _ _ (HSS.out _ XB.out) (fun hHeld => ?_)
        clear hK K hHeld
        try simp only [Act.put, List.setIfInBounds_toArray, List.set_cons_zero, List.set_cons_succ]
        refine ry 15 (fun K hK => ?_)
        go_simp
        have hbx := bpush (bre v4) (.cells #[.string x1, .string x2, .string x3] 9)
        have hlt := XB.out.lt
        have OO : Hid (OwR (v4.alloc (.cells #[.string x1, .string x2, .string x3] 9)) (w.heap.size + 1) (.slice (some ⟨v4.heap.size, 0, none⟩) 3 3) [x1, x2, x3]) := hid (own_base (ownR_three v4 x1 x2 x3) (by omega))
        replace XB := hid (XB.out.later hbx)
        replace HB := hid (btr HB.out hbx)
        obtain ⟨u0, hu0⟩ : ∃ x, v4.alloc (.cells #[.string x1, .string x2, .string x3] 9) = x := ⟨_, rfl⟩
        obtain ⟨kp, hkp⟩ : ∃ x, v4.heap.size = x := ⟨_, rfl⟩
        rw [hu0] at XB HB OO
        rw [hkp] at OO
        rw [hu0, hkp]
        clear hbx hu0 hkp hlt
        refine hK.out _ _ (HSS.out _ XB.out) (fun hHeld => ?_)
        clear hK K
        try simp only [Act.put, List.setIfInBounds_toArray, List.set_cons_zero, List.set_cons_succ]
        refine tk 16 ?_
        clear hHeld
        refine wpAnyH_done (by kernel_rfl) ?_ _
        refine NoPanic.normal ?_
        have c5 := XB.out.cells
        go_wp2_with fail
        refine (CM.out _ (HM.out.later HB.out)).mono ?_; rintro e u1 ⟨vm, rfl, hom, hbm⟩
        obtain ⟨gm, cm, hvm, hgm, _, hcm⟩ := hom.shape (by rw [HLM.out]; omega)
        subst hvm
        replace XB := hid (XB.out.later hbm)
        replace HB := hid (btr HB.out hbm)
        replace OO := hid (own_later OO.out hbm)
        have HCM := hid hcm
        have hsz := HB.out.size
        have hxl := XB.out.lt
        rw [HLM.out]
        clear hom hbm hgm hcm c5
        go_wp2_with (at_builtin; refine wpList_append_strs u1 rfl (.tmp 32) (.tmp 35) rfl (w.heap.size + 1) _ [x1, x2, x3] lm (by rfl) OO.out gm (mn + 1) cm HLM.out (by rfl) HCM.out (by simp) (by have := HN.out; omega) (by omega) ?_; intro v5 w5 hown5 hb5; have XB5 : Bx w5 w.heap.size 38 g nm t b nx (.slice ma mn mc) (.slice ga gn gc) := (hb5.block _ (by omega)).trans XB.out; have c5 := XB5.cells; have HO5 := hid hown5; have HB5 := hid (HB.out.trans (hb5.mono (by omega))); clear hown5 hb5)
        refine (CG.out _ (HS.out.later HB5.out)).mono ?_; rintro e u2 ⟨vg, rfl, hog, hbg⟩
        obtain ⟨gg, cg, hvg, hgg, _, hcg⟩ := hog.shape (by rw [HLG.out]; omega)
        subst hvg
        replace XB := hid (XB5.later hbg)
        replace HB := hid (btr HB5.out hbg)
        replace OO := hid (own_later HO5.out hbg)
        have HCG := hid hcg
        replace hsz := HB.out.size
        replace hxl := XB.out.lt
        rw [HLG.out]
        clear hog hbg hgg hcg c5 XB5 HB5 HO5
        go_wp2_with (at_builtin; refine wpList_append_strs u2 rfl (.tmp 37) (.tmp 40) rfl (w.heap.size + 1) _ ([x1, x2, x3] ++ lm) lg (by rfl) OO.out gg (gn + 1) cg HLG.out (by rfl) HCG.out (by rw [List.length_append, HLM.out]; have := HN.out; simp; omega) (by have := HGN.out; omega) (by omega) ?_; intro v6 w6 hown6 hb6; rw [HP.out] at hown6; have HB6 := hid (HB.out.trans (hb6.mono (by omega))); obtain ⟨g6, c6, hv6, hg6, _, hc6⟩ := hown6.shape (by rw [bparts_len]; omega); subst hv6; have HC6 := hid hc6; have HG6 := hid hg6; obtain ⟨n6, hn6⟩ : ∃ n, (bparts g nm t b nx L G).length = n := ⟨_, rfl⟩; rw [hn6]; have HN6 := hid hn6; clear hown6 hb6 hc6 hg6 hn6)
        refine (moved_any g6 n6 c6 (bparts g nm t b nx L G) w6 HN6.out (by rw [← HN6.out, bparts_len, HL.out, HG.out]; have h1 := HN2.out; omega) HG6.out HC6.out (bparts_pos g nm t b nx L G) HZ.out).mono ?_; rintro e w7 ⟨rfl, hb7⟩
        have B7 := hid (btr HB6.out hb7)
        rw [bparts_cat]
        obtain ⟨z, hz⟩ : ∃ z, btx g nm t b nx L G = z := ⟨_, rfl⟩
        rw [hz]
        have HZZ := hid hz
        clear hb7 hz
        go_wp2
        go_ret2
        exact ⟨by rw [HZZ.out]; rfl, B7.out⟩
      · go_simp
        have hbx := bpush (bre v1) (.cells #[.int .i64 t, .int .i64 b, .int .i64 nx] 3)
        have J3 : Hid (In3 (v1.alloc (.cells #[.int .i64 t, .int .i64 b, .int .i64 nx] 3)) v1.heap.size t b nx) := hid (heap_alloc_new v1 _)
        replace XB := hid (XB.out.later hbx)
        replace HB := hid (btr HB.out hbx)
        replace J1 := hid (J1.out.later hbx)
        obtain ⟨v6, hv6⟩ : ∃ x, v1.alloc (.cells #[.int .i64 t, .int .i64 b, .int .i64 nx] 3) = x := ⟨_, rfl⟩
        obtain ⟨k3, hk6⟩ : ∃ x, v1.heap.size = x := ⟨_, rfl⟩
        rw [hv6] at XB HB J3 J1
        rw [hk6] at J3
        rw [hv6, hk6]
        clear hbx hv6 hk6
        refine hK.out _ _ (HSS.out _ XB.out) (fun hHeld => ?_)
        clear hK K hHeld
        try simp only [Act.put, List.setIfInBounds_toArray, List.set_cons_zero, List.set_cons_succ]
        refine ry 3 (fun K hK => ?_)
        go_simp
        refine (C1.out _ _ J1.out).mono ?_; rintro e v7 ⟨rfl, hbx⟩
        replace XB := hid (XB.out.later hbx)
        replace HB := hid (btr HB.out hbx)
        replace J1 := hid (J1.out.later hbx)
        replace J3 := hid (J3.out.later hbx)
        clear hbx
        go_wp2_with fail
        refine hK.out _ _ (HSS.out _ XB.out) (fun hHeld => ?_)
        clear hK K hHeld
        try simp only [Act.put, List.setIfInBounds_toArray, List.set_cons_zero, List.set_cons_succ]
        refine ry 14 (fun K hK => ?_)
        go_simp
        refine (C3.out _ _ J3.out).mono ?_; rintro e v8 ⟨rfl, hbx⟩
        replace XB := hid (XB.out.later hbx)
        replace HB := hid (btr HB.out hbx)
        replace J1 := hid (J1.out.later hbx)
        replace J3 := hid (J3.out.later hbx)
        clear hbx
        go_wp2_with fail
        refine hK.out _ _ (HSS.out _ XB.out) (fun hHeld => ?_)
        clear hK K hHeld
        try simp only [Act.put, List.setIfInBounds_toArray, List.set_cons_zero, List.set_cons_succ]
        refine ry 15 (fun K hK => ?_)
        go_simp
        have hbx := bpush (bre v8) (.cells #[.string x1, .string x2, .string x3] 9)
        have hlt := XB.out.lt
        have OO : Hid (OwR (v8.alloc (.cells #[.string x1, .string x2, .string x3] 9)) (w.heap.size + 1) (.slice (some ⟨v8.heap.size, 0, none⟩) 3 3) [x1, x2, x3]) := hid (own_base (ownR_three v8 x1 x2 x3) (by omega))
        replace XB := hid (XB.out.later hbx)
        replace HB := hid (btr HB.out hbx)
        obtain ⟨u0, hu0⟩ : ∃ x, v8.alloc (.cells #[.string x1, .string x2, .string x3] 9) = x := ⟨_, rfl⟩
        obtain ⟨kp, hkp⟩ : ∃ x, v8.heap.size = x := ⟨_, rfl⟩
        rw [hu0] at XB HB OO
        rw [hkp] at OO
        rw [hu0, hkp]
        clear hbx hu0 hkp hlt
        refine hK.out _ _ (HSS.out _ XB.out) (fun hHeld => ?_)
        clear hK K
        try simp only [Act.put, List.setIfInBounds_toArray, List.set_cons_zero, List.set_cons_succ]
        refine tk 16 ?_
        clear hHeld
        refine wpAnyH_done (by kernel_rfl) ?_ _
        refine NoPanic.normal ?_
        have c5 := XB.out.cells
        go_wp2_with fail
        refine (CM.out _ (HM.out.later HB.out)).mono ?_; rintro e u1 ⟨vm, rfl, hom, hbm⟩
        obtain ⟨gm, cm, hvm, hgm, _, hcm⟩ := hom.shape (by rw [HLM.out]; omega)
        subst hvm
        replace XB := hid (XB.out.later hbm)
        replace HB := hid (btr HB.out hbm)
        replace OO := hid (own_later OO.out hbm)
        have HCM := hid hcm
        have hsz := HB.out.size
        have hxl := XB.out.lt
        rw [HLM.out]
        clear hom hbm hgm hcm c5
        go_wp2_with (at_builtin; refine wpList_append_strs u1 rfl (.tmp 32) (.tmp 35) rfl (w.heap.size + 1) _ [x1, x2, x3] lm (by rfl) OO.out gm (mn + 1) cm HLM.out (by rfl) HCM.out (by simp) (by have := HN.out; omega) (by omega) ?_; intro v5 w5 hown5 hb5; have XB5 : Bx w5 w.heap.size 38 g nm t b nx (.slice ma mn mc) (.slice ga gn gc) := (hb5.block _ (by omega)).trans XB.out; have c5 := XB5.cells; have HO5 := hid hown5; have HB5 := hid (HB.out.trans (hb5.mono (by omega))); clear hown5 hb5)
        refine (CG.out _ (HS.out.later HB5.out)).mono ?_; rintro e u2 ⟨vg, rfl, hog, hbg⟩
        obtain ⟨gg, cg, hvg, hgg, _, hcg⟩ := hog.shape (by rw [HLG.out]; omega)
        subst hvg
        replace XB := hid (XB5.later hbg)
        replace HB := hid (btr HB5.out hbg)
        replace OO := hid (own_later HO5.out hbg)
        have HCG := hid hcg
        replace hsz := HB.out.size
        replace hxl := XB.out.lt
        rw [HLG.out]
        clear hog hbg hgg hcg c5 XB5 HB5 HO5
        go_wp2_with (at_builtin; refine wpList_append_strs u2 rfl (.tmp 37) (.tmp 40) rfl (w.heap.size + 1) _ ([x1, x2, x3] ++ lm) lg (by rfl) OO.out gg (gn + 1) cg HLG.out (by rfl) HCG.out (by rw [List.length_append, HLM.out]; have := HN.out; simp; omega) (by have := HGN.out; omega) (by omega) ?_; intro v6 w6 hown6 hb6; rw [HP.out] at hown6; have HB6 := hid (HB.out.trans (hb6.mono (by omega))); obtain ⟨g6, c6, hv6, hg6, _, hc6⟩ := hown6.shape (by rw [bparts_len]; omega); subst hv6; have HC6 := hid hc6; have HG6 := hid hg6; obtain ⟨n6, hn6⟩ : ∃ n, (bparts g nm t b nx L G).length = n := ⟨_, rfl⟩; rw [hn6]; have HN6 := hid hn6; clear hown6 hb6 hc6 hg6 hn6)
        refine (moved_any g6 n6 c6 (bparts g nm t b nx L G) w6 HN6.out (by rw [← HN6.out, bparts_len, HL.out, HG.out]; have h1 := HN2.out; omega) HG6.out HC6.out (bparts_pos g nm t b nx L G) HZ.out).mono ?_; rintro e w7 ⟨rfl, hb7⟩
        have B7 := hid (btr HB6.out hb7)
        rw [bparts_cat]
        obtain ⟨z, hz⟩ : ∃ z, btx g nm t b nx L G = z := ⟨_, rfl⟩
        rw [hz]
        have HZZ := hid hz
        clear hb7 hz
        go_wp2
        go_ret2
        exact ⟨by rw [HZZ.out]; rfl, B7.out⟩
    · go_simp
      have hbx := bpush (bre v0) (.cells #[.int .i64 t, .int .i64 b, .int .i64 nx] 3)
      have J3 : Hid (In3 (v0.alloc (.cells #[.int .i64 t, .int .i64 b, .int .i64 nx] 3)) v0.heap.size t b nx) := hid (heap_alloc_new v0 _)
      replace XB := hid (XB.out.later hbx)
      replace HB := hid (btr HB.out hbx)
      obtain ⟨v10, hv10⟩ : ∃ x, v0.alloc (.cells #[.int .i64 t, .int .i64 b, .int .i64 nx] 3) = x := ⟨_, rfl⟩
      obtain ⟨k3, hk10⟩ : ∃ x, v0.heap.size = x := ⟨_, rfl⟩
      rw [hv10] at XB HB J3 
      rw [hk10] at J3
      rw [hv10, hk10]
      clear hbx hv10 hk10
      refine hK.out _ _ (HSS.out _ XB.out) (fun hHeld => ?_)
      clear hK K hHeld
      try simp only [Act.put, List.setIfInBounds_toArray, List.set_cons_zero, List.set_cons_succ]
      refine ry 2 (fun K hK => ?_)
      go_simp
      have hbx := bpush (bre v10) (.cells #[.int .i64 g] 3)
      have J1 : Hid (In1 (v10.alloc (.cells #[.int .i64 g] 3)) v10.heap.size g) := hid (heap_alloc_new v10 _)
      replace XB := hid (XB.out.later hbx)
      replace HB := hid (btr HB.out hbx)
      replace J3 := hid (J3.out.later hbx)
      obtain ⟨v11, hv11⟩ : ∃ x, v10.alloc (.cells #[.int .i64 g] 3) = x := ⟨_, rfl⟩
      obtain ⟨k1, hk11⟩ : ∃ x, v10.heap.size = x := ⟨_, rfl⟩
      rw [hv11] at XB HB J1 J3
      rw [hk11] at J1
      rw [hv11, hk11]
      clear hbx hv11 hk11
      refine hK.out _ _ (HSS.out _ XB.out) (fun hHeld => ?_)
      clear hK K hHeld
      try simp only [Act.put, List.setIfInBounds_toArray, List.set_cons_zero, List.set_cons_succ]
      refine ry 3 (fun K hK => ?_)
      go_simp
      refine (C1.out _ _ J1.out).mono ?_; rintro e v12 ⟨rfl, hbx⟩
      replace XB := hid (XB.out.later hbx)
      replace HB := hid (btr HB.out hbx)
      replace J3 := hid (J3.out.later hbx)
      replace J1 := hid (J1.out.later hbx)
      clear hbx
      go_wp2_with fail
      refine hK.out _ _ (HSS.out _ XB.out) (fun hHeld => ?_)
      clear hK K hHeld
      try simp only [Act.put, List.setIfInBounds_toArray, List.set_cons_zero, List.set_cons_succ]
      refine ry 14 (fun K hK => ?_)
      go_simp
      refine (C3.out _ _ J3.out).mono ?_; rintro e v13 ⟨rfl, hbx⟩
      replace XB := hid (XB.out.later hbx)
      replace HB := hid (btr HB.out hbx)
      replace J3 := hid (J3.out.later hbx)
      replace J1 := hid (J1.out.later hbx)
      clear hbx
      go_wp2_with fail
      refine hK.out _ _ (HSS.out _ XB.out) (fun hHeld => ?_)
      clear hK K hHeld
      try simp only [Act.put, List.setIfInBounds_toArray, List.set_cons_zero, List.set_cons_succ]
      refine ry 15 (fun K hK => ?_)
      go_simp
      have hbx := bpush (bre v13) (.cells #[.string x1, .string x2, .string x3] 9)
      have hlt := XB.out.lt
      have OO : Hid (OwR (v13.alloc (.cells #[.string x1, .string x2, .string x3] 9)) (w.heap.size + 1) (.slice (some ⟨v13.heap.size, 0, none⟩) 3 3) [x1, x2, x3]) := hid (own_base (ownR_three v13 x1 x2 x3) (by omega))
      replace XB := hid (XB.out.later hbx)
      replace HB := hid (btr HB.out hbx)
      obtain ⟨u0, hu0⟩ : ∃ x, v13.alloc (.cells #[.string x1, .string x2, .string x3] 9) = x := ⟨_, rfl⟩
      obtain ⟨kp, hkp⟩ : ∃ x, v13.heap.size = x := ⟨_, rfl⟩
      rw [hu0] at XB HB OO
      rw [hkp] at OO
      rw [hu0, hkp]
      clear hbx hu0 hkp hlt
      refine hK.out _ _ (HSS.out _ XB.out) (fun hHeld => ?_)
      clear hK K
      try simp only [Act.put, List.setIfInBounds_toArray, List.set_cons_zero, List.set_cons_succ]
      refine tk 16 ?_
      clear hHeld
      refine wpAnyH_done (by kernel_rfl) ?_ _
      refine NoPanic.normal ?_
      have c5 := XB.out.cells
      go_wp2_with fail
      refine (CM.out _ (HM.out.later HB.out)).mono ?_; rintro e u1 ⟨vm, rfl, hom, hbm⟩
      obtain ⟨gm, cm, hvm, hgm, _, hcm⟩ := hom.shape (by rw [HLM.out]; omega)
      subst hvm
      replace XB := hid (XB.out.later hbm)
      replace HB := hid (btr HB.out hbm)
      replace OO := hid (own_later OO.out hbm)
      have HCM := hid hcm
      have hsz := HB.out.size
      have hxl := XB.out.lt
      rw [HLM.out]
      clear hom hbm hgm hcm c5
      go_wp2_with (at_builtin; refine wpList_append_strs u1 rfl (.tmp 32) (.tmp 35) rfl (w.heap.size + 1) _ [x1, x2, x3] lm (by rfl) OO.out gm (mn + 1) cm HLM.out (by rfl) HCM.out (by simp) (by have := HN.out; omega) (by omega) ?_; intro v5 w5 hown5 hb5; have XB5 : Bx w5 w.heap.size 38 g nm t b nx (.slice ma mn mc) (.slice ga gn gc) := (hb5.block _ (by omega)).trans XB.out; have c5 := XB5.cells; have HO5 := hid hown5; have HB5 := hid (HB.out.trans (hb5.mono (by omega))); clear hown5 hb5)
      refine (CG.out _ (HS.out.later HB5.out)).mono ?_; rintro e u2 ⟨vg, rfl, hog, hbg⟩
      obtain ⟨gg, cg, hvg, hgg, _, hcg⟩ := hog.shape (by rw [HLG.out]; omega)
      subst hvg
      replace XB := hid (XB5.later hbg)
      replace HB := hid (btr HB5.out hbg)
      replace OO := hid (own_later HO5.out hbg)
      have HCG := hid hcg
      replace hsz := HB.out.size
      replace hxl := XB.out.lt
      rw [HLG.out]
      clear hog hbg hgg hcg c5 XB5 HB5 HO5
      go_wp2_with (at_builtin; refine wpList_append_strs u2 rfl (.tmp 37) (.tmp 40) rfl (w.heap.size + 1) _ ([x1, x2, x3] ++ lm) lg (by rfl) OO.out gg (gn + 1) cg HLG.out (by rfl) HCG.out (by rw [List.length_append, HLM.out]; have := HN.out; simp; omega) (by have := HGN.out; omega) (by omega) ?_; intro v6 w6 hown6 hb6; rw [HP.out] at hown6; have HB6 := hid (HB.out.trans (hb6.mono (by omega))); obtain ⟨g6, c6, hv6, hg6, _, hc6⟩ := hown6.shape (by rw [bparts_len]; omega); subst hv6; have HC6 := hid hc6; have HG6 := hid hg6; obtain ⟨n6, hn6⟩ : ∃ n, (bparts g nm t b nx L G).length = n := ⟨_, rfl⟩; rw [hn6]; have HN6 := hid hn6; clear hown6 hb6 hc6 hg6 hn6)
      refine (moved_any g6 n6 c6 (bparts g nm t b nx L G) w6 HN6.out (by rw [← HN6.out, bparts_len, HL.out, HG.out]; have h1 := HN2.out; omega) HG6.out HC6.out (bparts_pos g nm t b nx L G) HZ.out).mono ?_; rintro e w7 ⟨rfl, hb7⟩
      have B7 := hid (btr HB6.out hb7)
      rw [bparts_cat]
      obtain ⟨z, hz⟩ : ∃ z, btx g nm t b nx L G = z := ⟨_, rfl⟩
      rw [hz]
      have HZZ := hid hz
      clear hb7 hz
      go_wp2
      go_ret2
      exact ⟨by rw [HZZ.out]; rfl, B7.out⟩
end Go.Proofs.YtocfggfccbnbhaaGreatDoor

namespace Go.Proofs.YtocfggfccbnbhaaGreatDoor
open Go.RowKit Go.ChangeMaps
def bt7 (x : X7) : ByteArray := btx x.1 x.2.1 x.2.2.1 x.2.2.2.1 x.2.2.2.2.1 x.2.2.2.2.2.1 x.2.2.2.2.2.2
set_option maxHeartbeats 3200000 in
set_option maxRecDepth 100000 in
theorem ltBoxes_any (lo hi : Nat) (ao : Option Addr) (n c : Nat) (S : List X7) (w : World) (hl : S.length = n) (hn : n ≤ 1048576) (hsm : Sb S) (hr : Bs lo hi w ao S) (hg : ∀ x ∈ S, bxx x = true) :
    Calls Tryz.prog 35 #[.slice ao n c, .func (.func 14) #[] #[]] w fun e w' => ∃ v, e = .returned v ∧ OwR w' w.heap.size v (vi n :: S.map bt7) ∧ Below w.heap.size w w' := by
  have HL := hid hl
  have HR := hid hr
  have HG := hid hg
  have HSM := hid hsm
  obtain ⟨x1, e1, C1⟩ := texts1 (n : Int) (by omega)
  clear hl hr hg hsm
  go_enter Tryz.func35, Tryz.ntmps35
  go_wp2_with fail
  refine (C1.out _ _ rfl).mono ?_; rintro e w1 ⟨rfl, hb1⟩
  have O1 := hid (ownR_one w1 x1)
  have B1 := hid hb1
  have B2 := hid (bpush hb1 (.cells #[.string x1] 9))
  have hs1 := hb1.size
  clear hb1
  go_wp2
  obtain ⟨W1, hW1⟩ : ∃ W, w1.alloc (.cells #[.string x1] 9) = W := ⟨_, rfl⟩
  have O2 : Hid (OwR W1 w.heap.size (.slice (some ⟨w1.heap.size, 0, none⟩) 1 1) [x1]) := hid (by rw [← hW1]; exact own_base O1.out hs1)
  rw [hW1] at B2
  rw [hW1]
  clear hW1 O1 B1 hs1
  go_loopw [5, 17] (fun ov iv wr => ∃ (i : Nat), i ≤ n ∧ iv = .int .i64 (i : Int) ∧ OwR wr w.heap.size ov (vi n :: (S.take i).map bt7) ∧ Below w.heap.size w wr) (fun _ iv _ => n - (intOf iv).toNat)
  case atStart => exact ⟨0, Nat.zero_le _, rfl, by rw [← e1.out]; exact O2.out, B2.out⟩
  case round =>
    obtain ⟨i, hi2, rfl, ho, hb⟩ := hrel
    have XO := hid ho
    have XB := hid hb
    clear ho hb O2 B2
    by_cases hlt : i < n
    · have hil : i < S.length := by rw [HL.out]; exact hlt
      have HT : Hid (S.take (i + 1) = S.take i ++ [S[i]]) := take_next S i hil
      obtain ⟨k, o, ma, mc, ga, gc, rfl, hk, d, hms, hgs, _⟩ := (HR.out.later XB.out).at hil
      have hok := HG.out S[i] (List.getElem_mem hil)
      have hsb := HSM.out S[i] (List.getElem_mem hil)
      have HLN : Hid ((vi n :: (S.take i).map bt7).length ≤ 2000000) := hid (by show _ ≤ _; simp only [List.length_cons, List.length_map, List.length_take]; omega)
      obtain ⟨q, hq⟩ : ∃ q, S[i] = q := ⟨_, rfl⟩
      obtain ⟨g, nm, t, b, nx, L, H⟩ := q
      rw [hq] at d hms hgs hok hsb HT
      dsimp only at d hms hgs hsb
      have hb9 := bpush (bre wr) (.cells #[.int .i64 g, .string nm, .int .i64 t, .int .i64 b, .int .i64 nx, .slice ma L.length mc, .slice ga H.length gc] 38)
      have MM := hid (Bx.new wr 38 g nm t b nx (.slice ma L.length mc) (.slice ga H.length gc))
      have CT := implBoxText_any _ _ _ _ g nm t b nx ma L.length mc ga H.length gc L H (wr.alloc (.cells #[.int .i64 g, .string nm, .int .i64 t, .int .i64 b, .int .i64 nx, .slice ma L.length mc, .slice ga H.length gc] 38)) hsb.1 rfl hsb.2.1 hsb.2.2.1 (hms.later hb9) rfl hsb.2.2.2 (hgs.later hb9)
      have hE2 : btR g nm t b nx L H = .tuple #[.string (btx g nm t b nx L H), .bool true] := by unfold btR; rw [show bxOk g nm t b nx L H = true from hok]; rfl
      rw [hE2] at CT
      obtain ⟨xm, hxm⟩ : ∃ x, btx g nm t b nx L H = x := ⟨_, rfl⟩
      have HXM : Hid (xm = bt7 (g, nm, t, b, nx, L, H)) := hid hxm.symm
      obtain ⟨mn, hmn⟩ : ∃ n, L.length = n := ⟨_, rfl⟩
      obtain ⟨gn, hgn⟩ : ∃ n, H.length = n := ⟨_, rfl⟩
      rw [hxm] at CT
      rw [hmn, hgn] at CT d hb9 MM
      unfold C7 at d
      have HCT := hid CT
      have XO9 : Hid (OwR (wr.alloc (.cells #[.int .i64 g, .string nm, .int .i64 t, .int .i64 b, .int .i64 nx, .slice ma mn mc, .slice ga gn gc] 38)) w.heap.size u5 (vi n :: (S.take i).map bt7)) := hid (own_later XO.out hb9)
      have XB9 := hid (btr XB.out hb9)
      have dm := MM.out.cells
      clear hq hok hsb hE2 hxm hmn hgn CT hms hgs hb9
      go_wp2_with fail
      refine HCT.out.mono ?_; rintro e w3 ⟨rfl, hb3⟩
      have O3 : Hid (OwR w3 w.heap.size u5 (vi n :: (S.take i).map bt7)) := hid (own_later XO9.out hb3)
      have B3 := hid (btr XB9.out hb3)
      have hs3 := B3.out.size
      clear d dm hb3 HCT XO9 XB9
      go_wp2_with (at_builtin; refine wpList_append_str w3 rfl (.tmp 27) (.tmp 29) rfl w.heap.size _ _ (by rfl) O3.out xm rfl HLN.out hs3 ?_; intro v4 w4 hown4 hb4; have HO4 := hid hown4; have HB4 := hid hb4; clear hown4 hb4)
      go_roundw
      case rel => exact ⟨i + 1, by omega, by go_num, by rw [HT.out, List.map_append, ← List.cons_append]; rw [HXM.out] at HO4; exact HO4.out, B3.out.trans HB4.out⟩
      case measure => simp [intOf]; omega
    · have HE : Hid (S.take i = S) := List.take_of_length_le (by rw [HL.out]; omega)
      have XO2 : Hid (OwR wr w.heap.size u5 (vi n :: S.map bt7)) := hid (by have h := XO.out; rw [HE.out] at h; exact h)
      go_wp2
      go_ret
      exact ⟨_, rfl, XO2.out, XB.out⟩
end Go.Proofs.YtocfggfccbnbhaaGreatDoor

namespace Go.Proofs.YtocfggfccbnbhaaGreatDoor
open Go.RowKit Go.ChangeMaps
theorem cat_bts (S : List X7) : cat (S.map bt7) = bts S := by
  induction S with
  | nil => rfl
  | cons x S ih => simp only [List.map_cons, cat, bts, ih]; rfl
theorem bt7_pos (x : X7) : 0 < (bt7 x).size := by
  unfold bt7 btx bth
  simp only [ByteArray.size_append]
  have := vi_pos x.1
  omega
/-- The parts of a store's text are its text. -/
def sparts (y tm : Int) (S : List X7) (G : List Int) : List ByteArray := ([vi y ++ vi tm] ++ (vi S.length :: S.map bt7)) ++ (vi G.length :: G.map vi)
theorem sparts_cat (y tm : Int) (S : List X7) (G : List Int) : cat (sparts y tm S G) = stx y tm S G := by
  unfold sparts stx
  simp only [cat_app, cat, cat_bts, cat_vis, nil_ba, ByteArray.append_assoc]
theorem sparts_pos (y tm : Int) (S : List X7) (G : List Int) : ∀ x ∈ sparts y tm S G, 0 < x.size := by
  intro x hx
  unfold sparts at hx
  have h1 := vi_pos y
  simp only [List.mem_append, List.mem_cons, List.mem_map, List.not_mem_nil, or_false] at hx
  rcases hx with (rfl | rfl | ⟨m, _, rfl⟩) | rfl | ⟨z, _, rfl⟩
  · rw [ByteArray.size_append]; omega
  · exact vi_pos _
  · exact bt7_pos m
  · exact vi_pos _
  · exact vi_pos z
theorem sparts_len (y tm : Int) (S : List X7) (G : List Int) : (sparts y tm S G).length = S.length + G.length + 3 := by
  unfold sparts
  simp only [List.length_append, List.length_cons, List.length_map, List.length_nil]
  omega
set_option maxHeartbeats 8000000 in
set_option maxRecDepth 100000 in
theorem implStoreText_any (l1 h1 l2 h2 : Nat) (y tm : Int) (ba : Option Addr) (bn bc : Nat) (ga : Option Addr) (gn gc : Nat) (S : List X7) (G : List Int) (w : World) (hl : S.length = bn) (hn : bn ≤ 1048576) (hsb : Sb S) (hm : Bs l1 h1 w ba S) (hgl : G.length = gn) (hgn : gn ≤ 1048576) (hs : Is l2 h2 w ga G) (hnb : Nib w) :
    Calls Tryz.prog 9 #[.agg #[.int .i64 y, .int .i64 tm, .slice ba bn bc, .slice ga gn gc]] w fun e w' => e = .returned (stR y tm S G) ∧ Below w.heap.size w w' := by
  obtain ⟨W0, hW0⟩ : ∃ W0, w.alloc (.cells #[.int .i64 y, .int .i64 tm, .slice ba bn bc, .slice ga gn gc] 27) = W0 := ⟨_, rfl⟩
  have XB : Hid (Sx W0 w.heap.size 27 y tm (.slice ba bn bc) (.slice ga gn gc)) := by subst hW0; exact hid (Sx.new w _ _ _ _ _)
  have HB : Hid (Below w.heap.size w W0) := by subst hW0; exact hid (bpush (bre _) _)
  have HM := hid hm
  have HS := hid hs
  have HL := hid hl
  have HG := hid hgl
  have HX := hid hsb
  have HNB := hid hnb
  have c0 := XB.out.cells
  have HOK := hid (implStoreOk_any l1 h1 l2 h2 y tm ba bn bc ga gn gc S G W0 hl hn hsb (hm.later HB.out) hgl hgn (hs.later HB.out))
  clear hm hs hl hgl hsb hnb
  cases hok : sOk y tm S G
  · have hE : stR y tm S G = .tuple #[.string ⟨#[]⟩, .bool false] := by unfold stR; rw [hok]; rfl
    rw [hE]
    rw [hok] at HOK
    clear hE hok
    go_enter Tryz.func9, Tryz.ntmps9
    go_wp2_with fail
    try rw [hW0]
    clear hW0
    refine HOK.out.mono ?_; rintro e w1 ⟨rfl, hb1⟩
    have B1 := hid (btr HB.out hb1)
    clear hb1 c0
    go_wp2
    go_ret2
    exact ⟨rfl, B1.out⟩
  · have hE : stR y tm S G = .tuple #[.string (stx y tm S G ++ tail4 (stx y tm S G)), .bool true] := by unfold stR; rw [hok]; rfl
    rw [hE]
    rw [hok] at HOK
    have hstx := stx_size hok
    have HZ : Hid ((cat (sparts y tm S G)).size ≤ 1048576) := hid (by rw [sparts_cat]; omega)
    obtain ⟨p1, p2, p3, p4, p5, p6⟩ := st_txt hok
    obtain ⟨x1, e1, z1, C1⟩ := texts2 y tm (by omega) (by omega)
    have P4 := hid p4
    have P8 : Hid (∀ y ∈ G, 0 ≤ y ∧ y ≤ 1000000000) := hid (fun y hy => by have := p6 y hy; omega)
    have HN := hid hn
    have HGN := hid hgn
    have HN2 : Hid (bn + gn ≤ 25) := hid (by rw [HL.out] at p3; rw [HG.out] at p5; omega)
    obtain ⟨lm, hlm⟩ : ∃ l, (vi bn :: S.map bt7) = l := ⟨_, rfl⟩
    obtain ⟨lg, hlg⟩ : ∃ l, (vi gn :: G.map vi) = l := ⟨_, rfl⟩
    have HLM : Hid (lm.length = bn + 1) := hid (by rw [← hlm]; simp only [List.length_cons, List.length_map]; rw [HL.out])
    have HLG : Hid (lg.length = gn + 1) := hid (by rw [← hlg]; simp only [List.length_cons, List.length_map]; rw [HG.out])
    have HP : Hid (([x1] ++ lm) ++ lg = sparts y tm S G) := hid (by rw [← hlm, ← hlg, e1.out, ← HL.out, ← HG.out]; rfl)
    have CM := hid (fun (W : World) (h : Bs l1 h1 W ba S) => ltBoxes_any l1 h1 ba bn bc S W HL.out HN.out HX.out h P4.out)
    have CG := hid (fun (W : World) (h : Is l2 h2 W ga G) => ltInts_any l2 h2 ga gn gc G W HG.out HGN.out h P8.out)
    rw [hlm] at CM
    rw [hlg] at CG
    obtain ⟨z, hz⟩ : ∃ z, stx y tm S G = z := ⟨_, rfl⟩
    have HZZ := hid hz
    obtain ⟨z2, hz2⟩ : ∃ t, z ++ tail4 z = t := ⟨_, rfl⟩
    have HZ2 := hid hz2
    have CS : Hid (∀ W, Nib W → Calls Tryz.prog 38 #[.string z] W fun e w' => e = .returned (.tuple #[.string z2, .bool true]) ∧ Below W.heap.size W w') := hid (fun W h => by rw [← hz2]; exact implSealed_yes z W (by rw [← hz]; omega) h)
    clear hlm hlg hz hz2
    clear hE hok hn hgn p1 p2 p3 p4 p5 p6 z1 hstx
    go_enter Tryz.func9, Tryz.ntmps9
    go_wp2_with fail
    try rw [hW0]
    clear hW0
    refine HOK.out.mono ?_; rintro e w1 ⟨rfl, hb1⟩
    replace XB := hid (XB.out.later hb1)
    replace HB := hid (btr HB.out hb1)
    clear hb1 c0 HOK
    have c0 := XB.out.cells
    go_wp2_with fail
    refine (C1.out _ _ rfl).mono ?_; rintro e w2 ⟨rfl, hb2⟩
    replace XB := hid (XB.out.later hb2)
    replace HB := hid (btr HB.out hb2)
    have hlt := XB.out.lt
    have OO : Hid (OwR (w2.alloc (.cells #[.string x1] 9)) (w.heap.size + 1) (.slice (some ⟨w2.heap.size, 0, none⟩) 1 1) [x1]) := hid (own_base (ownR_one w2 x1) (by omega))
    replace XB := hid (XB.out.later (bpush (bre w2) (.cells #[.string x1] 9)))
    replace HB := hid (bpush HB.out (.cells #[.string x1] 9))
    clear hb2 c0 hlt
    have c5 := XB.out.cells
    go_wp2_with fail
    refine (CM.out _ (HM.out.later HB.out)).mono ?_; rintro e u1 ⟨vm, rfl, hom, hbm⟩
    obtain ⟨gm, cm, hvm, hgm, _, hcm⟩ := hom.shape (by rw [HLM.out]; omega)
    subst hvm
    replace XB := hid (XB.out.later hbm)
    replace HB := hid (btr HB.out hbm)
    replace OO := hid (own_later OO.out hbm)
    have HCM := hid hcm
    have hsz := HB.out.size
    have hxl := XB.out.lt
    rw [HLM.out]
    clear hom hbm hgm hcm c5
    go_wp2_with (at_builtin; refine wpList_append_strs u1 rfl (.tmp 15) (.tmp 18) rfl (w.heap.size + 1) _ [x1] lm (by rfl) OO.out gm (bn + 1) cm HLM.out (by rfl) HCM.out (by simp) (by have := HN.out; omega) (by omega) ?_; intro v5 w5 hown5 hb5; have XB5 : Sx w5 w.heap.size 27 y tm (.slice ba bn bc) (.slice ga gn gc) := (hb5.block _ (by omega)).trans XB.out; have c5 := XB5.cells; have HO5 := hid hown5; have HB5 := hid (HB.out.trans (hb5.mono (by omega))); clear hown5 hb5)
    refine (CG.out _ (HS.out.later HB5.out)).mono ?_; rintro e u2 ⟨vg, rfl, hog, hbg⟩
    obtain ⟨gg, cg, hvg, hgg, _, hcg⟩ := hog.shape (by rw [HLG.out]; omega)
    subst hvg
    replace XB := hid (XB5.later hbg)
    replace HB := hid (btr HB5.out hbg)
    replace OO := hid (own_later HO5.out hbg)
    have HCG := hid hcg
    replace hsz := HB.out.size
    replace hxl := XB.out.lt
    rw [HLG.out]
    clear hog hbg hgg hcg c5 XB5 HB5 HO5
    go_wp2_with (at_builtin; refine wpList_append_strs u2 rfl (.tmp 20) (.tmp 23) rfl (w.heap.size + 1) _ ([x1] ++ lm) lg (by rfl) OO.out gg (gn + 1) cg HLG.out (by rfl) HCG.out (by rw [List.length_append, HLM.out]; have := HN.out; simp; omega) (by have := HGN.out; omega) (by omega) ?_; intro v6 w6 hown6 hb6; rw [HP.out] at hown6; have HB6 := hid (HB.out.trans (hb6.mono (by omega))); obtain ⟨g6, c6, hv6, hg6, _, hc6⟩ := hown6.shape (by rw [sparts_len]; omega); subst hv6; have HC6 := hid hc6; have HG6 := hid hg6; obtain ⟨n6, hn6⟩ : ∃ n, (sparts y tm S G).length = n := ⟨_, rfl⟩; rw [hn6]; have HN6 := hid hn6; clear hown6 hb6 hc6 hg6 hn6)
    refine (moved_any g6 n6 c6 (sparts y tm S G) w6 HN6.out (by rw [← HN6.out, sparts_len, HL.out, HG.out]; have h1 := HN2.out; omega) HG6.out HC6.out (sparts_pos y tm S G) HZ.out).mono ?_; rintro e w7 ⟨rfl, hb7⟩
    have B7 := hid (btr HB6.out hb7)
    rw [sparts_cat, HZZ.out]
    clear hb7
    go_wp2_with fail
    refine (CS.out _ (HNB.out.on B7.out)).mono ?_; rintro e w8 ⟨rfl, hb8⟩
    have B8 := hid (btr B7.out hb8)
    clear hb8
    go_wp2
    go_ret2
    exact ⟨by rw [HZZ.out, HZ2.out]; rfl, B8.out⟩
end Go.Proofs.YtocfggfccbnbhaaGreatDoor

namespace Go.Proofs.YtocfggfccbnbhaaGreatDoor
open Go.RowKit Go.ChangeMaps
/-- The text of a store, or none. -/
def txo (y tm : Int) (S : List X7) (G : List Int) : ByteArray := if sOk y tm S G = true then stx y tm S G ++ tail4 (stx y tm S G) else ⟨#[]⟩
theorem stR_txo (y tm : Int) (S : List X7) (G : List Int) : stR y tm S G = .tuple #[.string (txo y tm S G), .bool (sOk y tm S G)] := by
  unfold stR txo
  cases sOk y tm S G <;> rfl
theorem txo_same (y tm : Int) (S : List X7) (G : List Int) (y' tm' : Int) (S' : List X7) (G' : List Int) : txo y tm S G = txo y' tm' S' G' ↔ stR y tm S G = stR y' tm' S' G' := by
  rw [stR_txo, stR_txo]
  constructor
  · intro h
    have hk : sOk y tm S G = sOk y' tm' S' G' := by
      have h2 := congrArg ByteArray.size h
      unfold txo at h2
      cases h3 : sOk y tm S G <;> cases h4 : sOk y' tm' S' G' <;> simp only [h3, h4, if_true, Bool.false_eq_true, if_false, ByteArray.size_append] at h2
      · rfl
      · have := tail4_len (stx y' tm' S' G'); have h5 : (⟨#[]⟩ : ByteArray).size = 0 := rfl; omega
      · have := tail4_len (stx y tm S G); have h5 : (⟨#[]⟩ : ByteArray).size = 0 := rfl; omega
      · rfl
    rw [h, hk]
  · intro h
    simp only [Value.tuple.injEq, Array.mk.injEq, List.cons.injEq, Value.string.injEq] at h
    exact h.1
set_option maxHeartbeats 4000000 in
set_option maxRecDepth 100000 in
theorem implSameStore_any (l1 h1 l2 h2 l3 h3 l4 h4 : Nat) (y tm : Int) (ba : Option Addr) (bn bc : Nat) (ga : Option Addr) (gn gc : Nat) (S : List X7) (G : List Int) (y' tm' : Int) (ba' : Option Addr) (bn' bc' : Nat) (ga' : Option Addr) (gn' gc' : Nat) (S' : List X7) (G' : List Int) (w : World)
    (hl : S.length = bn) (hn : bn ≤ 1048576) (hsb : Sb S) (hm : Bs l1 h1 w ba S) (hgl : G.length = gn) (hgn : gn ≤ 1048576) (hs : Is l2 h2 w ga G) (hl' : S'.length = bn') (hn' : bn' ≤ 1048576) (hsb' : Sb S') (hm' : Bs l3 h3 w ba' S') (hgl' : G'.length = gn') (hgn' : gn' ≤ 1048576) (hs' : Is l4 h4 w ga' G') (hnb : Nib w) :
    Calls Tryz.prog 23 #[.agg #[.int .i64 y, .int .i64 tm, .slice ba bn bc, .slice ga gn gc], .agg #[.int .i64 y', .int .i64 tm', .slice ba' bn' bc', .slice ga' gn' gc']] w fun e w' => Rt (stR y tm S G = stR y' tm' S' G') e ∧ Below w.heap.size w w' := by
  obtain ⟨W0, hW0⟩ : ∃ W0, (w.alloc (.cells #[.int .i64 y, .int .i64 tm, .slice ba bn bc, .slice ga gn gc] 27)).alloc (.cells #[.int .i64 y', .int .i64 tm', .slice ba' bn' bc', .slice ga' gn' gc'] 27) = W0 := ⟨_, rfl⟩
  have XA : Hid (Sx W0 w.heap.size 27 y tm (.slice ba bn bc) (.slice ga gn gc)) := by subst hW0; exact hid ((Sx.new w _ _ _ _ _).later (bpush (bre _) _))
  have XB : Hid (Sx W0 (w.heap.size + 1) 27 y' tm' (.slice ba' bn' bc') (.slice ga' gn' gc')) := by
    subst hW0
    have h := Sx.new (w.alloc (.cells #[.int .i64 y, .int .i64 tm, .slice ba bn bc, .slice ga gn gc] 27)) 27 y' tm' (.slice ba' bn' bc') (.slice ga' gn' gc')
    rw [alloc_size w] at h
    exact hid h
  have HB : Hid (Below w.heap.size w W0) := by subst hW0; exact hid (bpush (bpush (bre _) _) _)
  have C1 := implStoreText_any l1 h1 l2 h2 y tm ba bn bc ga gn gc S G W0 hl hn hsb (hm.later HB.out) hgl hgn (hs.later HB.out) (hnb.on HB.out)
  have C2 := hid (fun (W : World) (hb : Below w.heap.size w W) => implStoreText_any l3 h3 l4 h4 y' tm' ba' bn' bc' ga' gn' gc' S' G' W hl' hn' hsb' (hm'.later hb) hgl' hgn' (hs'.later hb) (hnb.on hb))
  have HT := hid (txo_same y tm S G y' tm' S' G')
  rw [stR_txo] at C1
  rw [stR_txo y' tm' S' G'] at C2
  obtain ⟨x1, hx1⟩ : ∃ x, txo y tm S G = x := ⟨_, rfl⟩
  obtain ⟨x2, hx2⟩ : ∃ x, txo y' tm' S' G' = x := ⟨_, rfl⟩
  obtain ⟨q1, hq1⟩ : ∃ q, sOk y tm S G = q := ⟨_, rfl⟩
  obtain ⟨q2, hq2⟩ : ∃ q, sOk y' tm' S' G' = q := ⟨_, rfl⟩
  rw [hx1, hq1] at C1
  rw [hx2, hq2] at C2
  rw [hx1, hx2] at HT
  have HC1 := hid C1
  have c0 := XA.out.cells
  clear hl hn hsb hm hgl hgn hs hl' hn' hsb' hm' hgl' hgn' hs' hnb hx1 hx2 hq1 hq2 C1
  go_enter Tryz.func23, Tryz.ntmps23
  go_wp2_with fail
  try rw [hW0]
  clear hW0
  refine HC1.out.mono ?_; rintro e w1 ⟨rfl, hb1⟩
  replace XB := hid (XB.out.later hb1)
  replace HB := hid (btr HB.out hb1)
  clear hb1 c0 HC1 XA
  have c1 := XB.out.cells
  go_wp2_with fail
  refine (C2.out _ HB.out).mono ?_; rintro e w2 ⟨rfl, hb2⟩
  have B2 := hid (btr HB.out hb2)
  clear hb2 c1 HB
  by_cases hx : x1 = x2
  · go_wp2
    go_ret
    exact ⟨⟨_, rfl, by simpa [hx] using HT.out.1 hx⟩, B2.out⟩
  · go_wp2
    go_ret
    exact ⟨⟨_, rfl, ⟨fun h => absurd (bytes_eq (by simpa using h)) hx, fun h => absurd (HT.out.2 h) hx⟩⟩, B2.out⟩
end Go.Proofs.YtocfggfccbnbhaaGreatDoor

namespace Go.Proofs.YtocfggfccbnbhaaGreatDoor
open Go.RowKit Go.ChangeMaps
theorem stR_k (y tm : Int) (S : List X7) (G : List Int) : ∃ (x : ByteArray) (c : Bool), stR y tm S G = .tuple #[.string x, .bool c] ∧ x.size ≤ 4565 ∧ c = sOk y tm S G ∧ (c = true → x = stx y tm S G ++ tail4 (stx y tm S G)) := by
  unfold stR
  by_cases h : sOk y tm S G = true
  · rw [if_pos h]
    exact ⟨_, _, rfl, by rw [ByteArray.size_append, tail4_size]; have := stx_size h; omega, h.symm, fun _ => rfl⟩
  · rw [if_neg h]
    exact ⟨_, _, rfl, by decide, by simpa using h, fun h => by cases h⟩
end Go.Proofs.YtocfggfccbnbhaaGreatDoor

