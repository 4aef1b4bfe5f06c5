/- Wc, Wk, Wx, Wt, Wu. -/
import Derived.Test.YtocfggfccbnbhaaB11
import Derived.Lib.BufferWrite
import Derived.Laws.IdiomStrings
namespace Go.Proofs.Ytocfggfccbnbhaa
open Go.RowKit Go.ChangeMaps
theorem ibx_right {s : ByteArray} {a : Int} {g : Int} {nm : ByteArray} {t b nx : Int} {L : List M4} {G : List Int} {c : Int} (h : ibx s a = some ((g, nm, t, b, nx, L, G), c)) : bxOk g nm t b nx L G = true := by
  unfold ibx at h
  cases h1 : rd s a with
  | none => rw [h1] at h; cases h
  | some p1 =>
  rw [h1] at h; simp only [Option.bind_some] at h
  cases h2 : rsh s p1.2 with
  | none => rw [h2] at h; cases h
  | some p2 =>
  rw [h2] at h; simp only [Option.bind_some] at h
  cases h3 : rg2 s p2.2 with
  | none => rw [h3] at h; cases h
  | some p3 =>
  rw [h3] at h; simp only [Option.bind_some] at h
  cases h4 : rd s p3.2 with
  | none => rw [h4] at h; cases h
  | some p4 =>
  rw [h4] at h; simp only [Option.bind_some] at h
  cases h5 : ims s p4.2 with
  | none => rw [h5] at h; cases h
  | some p5 =>
  rw [h5] at h; simp only [Option.bind_some] at h
  cases h6 : iis s p5.2 with
  | none => rw [h6] at h; cases h
  | some p6 =>
  rw [h6] at h; simp only [Option.bind_some] at h
  split at h
  · rename_i hb
    simp only [Option.some.injEq, Prod.mk.injEq] at h
    obtain ⟨⟨rfl, rfl, rfl, rfl, rfl, rfl, rfl⟩, rfl⟩ := h
    exact hb
  · cases h
section
variable {s : ByteArray} {a g c1 : Int} {nm : ByteArray} {c2 t b c3 nx c4 : Int} {L : List M4} {c5 : Int} {G : List Int} {c6 : Int}
theorem ibx_n1 (h1 : rd s a = none) : ibx s a = none := by unfold ibx; rw [h1]; rfl
theorem ibx_n2 (h1 : rd s a = some (g, c1)) (h2 : rsh s c1 = none) : ibx s a = none := by unfold ibx; rw [h1]; simp only [Option.bind_some]; rw [h2]; rfl
theorem ibx_n3 (h1 : rd s a = some (g, c1)) (h2 : rsh s c1 = some (nm, c2)) (h3 : rg2 s c2 = none) : ibx s a = none := by unfold ibx; rw [h1]; simp only [Option.bind_some]; rw [h2]; simp only [Option.bind_some]; rw [h3]; rfl
theorem ibx_n4 (h1 : rd s a = some (g, c1)) (h2 : rsh s c1 = some (nm, c2)) (h3 : rg2 s c2 = some ((t, b), c3)) (h4 : rd s c3 = none) : ibx s a = none := by unfold ibx; rw [h1]; simp only [Option.bind_some]; rw [h2]; simp only [Option.bind_some]; rw [h3]; simp only [Option.bind_some]; rw [h4]; rfl
theorem ibx_n5 (h1 : rd s a = some (g, c1)) (h2 : rsh s c1 = some (nm, c2)) (h3 : rg2 s c2 = some ((t, b), c3)) (h4 : rd s c3 = some (nx, c4)) (h5 : ims s c4 = none) : ibx s a = none := by unfold ibx; rw [h1]; simp only [Option.bind_some]; rw [h2]; simp only [Option.bind_some]; rw [h3]; simp only [Option.bind_some]; rw [h4]; simp only [Option.bind_some]; rw [h5]; rfl
theorem ibx_n6 (h1 : rd s a = some (g, c1)) (h2 : rsh s c1 = some (nm, c2)) (h3 : rg2 s c2 = some ((t, b), c3)) (h4 : rd s c3 = some (nx, c4)) (h5 : ims s c4 = some (L, c5)) (h6 : iis s c5 = none) : ibx s a = none := by unfold ibx; rw [h1]; simp only [Option.bind_some]; rw [h2]; simp only [Option.bind_some]; rw [h3]; simp only [Option.bind_some]; rw [h4]; simp only [Option.bind_some]; rw [h5]; simp only [Option.bind_some]; rw [h6]; rfl
theorem ibx_y (h1 : rd s a = some (g, c1)) (h2 : rsh s c1 = some (nm, c2)) (h3 : rg2 s c2 = some ((t, b), c3)) (h4 : rd s c3 = some (nx, c4)) (h5 : ims s c4 = some (L, c5)) (h6 : iis s c5 = some (G, c6)) : ibx s a = if bxOk g nm t b nx L G = true then some ((g, nm, t, b, nx, L, G), c6) else none := by unfold ibx; rw [h1]; simp only [Option.bind_some]; rw [h2]; simp only [Option.bind_some]; rw [h3]; simp only [Option.bind_some]; rw [h4]; simp only [Option.bind_some]; rw [h5]; simp only [Option.bind_some]; rw [h6]; rfl
end
/-- The memory of a call that reads a box. -/
structure Rbi (w W : World) (k : Nat) (s : ByteArray) (g : Int) (nm : ByteArray) (t b nx : Int) (mv gv : Value) (c : Int) : Prop where
  zero : Bx W w.heap.size 34 0 ⟨#[]⟩ 0 0 0 (.slice none 0 0) (.slice none 0 0)
  box : Bx W (w.heap.size + 1) 34 g nm t b nx mv gv
  cur : Dg W k s c
  far : k < w.heap.size
  gr : w.grownBy W (some k)
section
variable {w W W' : World} {k : Nat} {s : ByteArray} {g : Int} {nm : ByteArray} {t b nx : Int} {mv gv : Value} {c : Int}
theorem Rbi.later (h : Rbi w W k s g nm t b nx mv gv c) (hb : Below W.heap.size W W') : Rbi w W' k s g nm t b nx mv gv c :=
  ⟨h.zero.later hb, h.box.later hb, h.cur.later hb, h.far, wtr h.gr (grown_below hb _)⟩
theorem Rbi.read {c' : Int} (h : Rbi w W k s g nm t b nx mv gv c) (hg : W.grownBy W' (some k)) (hc : Dg W' k s c') : Rbi w W' k s g nm t b nx mv gv c' :=
  have hf := h.far
  ⟨h.zero.grown hg (by simp; omega), h.box.grown hg (by simp; omega), hc, h.far, wtr h.gr hg⟩
theorem Rbi.put {i : Nat} {x : Value} {g' : Int} {nm' : ByteArray} {t' b' nx' : Int} {mv' gv' : Value} (h : Rbi w W k s g nm t b nx mv gv c) (hx : Bx (W.setCell ⟨w.heap.size + 1, i, none⟩ x) (w.heap.size + 1) 34 g' nm' t' b' nx' mv' gv') : Rbi w (W.setCell ⟨w.heap.size + 1, i, none⟩ x) k s g' nm' t' b' nx' mv' gv' c :=
  have hf := h.far
  ⟨heap_setCell_far x h.zero (by omega), hx, h.cur.far x (by omega), h.far, wst_new h.gr (by omega) i x⟩
end
def Bxr1 (w : World) (k : Nat) (s : ByteArray) (a : Int) (e : Ending) (w' : World) : Prop :=
  (∃ g nm t b nx L G c ma mc ga gc, ibx s a = some ((g, nm, t, b, nx, L, G), c) ∧ e = .returned (.agg #[.int .i64 g, .string nm, .int .i64 t, .int .i64 b, .int .i64 nx, .slice ma L.length mc, .slice ga G.length gc]) ∧ Dg w' k s c ∧ OwB w' w.heap.size (.slice ma L.length mc) (.slice ga G.length gc) L G ∧ w.grownBy w' (some k)) ∨ (ibx s a = none ∧ e = .panicked notHere ∧ w.grownBy w' (some k))
theorem Bxr1.no {w : World} {k : Nat} {s : ByteArray} {a : Int} {w' : World} (h : ibx s a = none) (hg : w.grownBy w' (some k)) : Bxr1 w k s a (.panicked notHere) w' := Or.inr ⟨h, rfl, hg⟩
set_option maxHeartbeats 8000000 in
set_option maxRecDepth 100000 in
theorem rbox_any (k : Nat) (s : ByteArray) (a : Int) (w : World) (hs : s.size ≤ 1048576) (hc : Dg w k s a) :
    Calls Try.prog 38 #[.pointer (some ⟨k, 0, none⟩)] w fun e w' => Bxr1 w k s a e w' := by
  have HSZ := hid hs
  have R0 : Hid (Rbi w ((w.alloc (.cells #[.int .i64 0, .string ⟨#[]⟩, .int .i64 0, .int .i64 0, .int .i64 0, .slice none 0 0, .slice none 0 0] 34)).alloc (.cells #[.int .i64 0, .string ⟨#[]⟩, .int .i64 0, .int .i64 0, .int .i64 0, .slice none 0 0, .slice none 0 0] 34)) k s 0 ⟨#[]⟩ 0 0 0 (.slice none 0 0) (.slice none 0 0) a) := hid (by
    have h2 := Bx.new (w.alloc (.cells #[.int .i64 0, .string ⟨#[]⟩, .int .i64 0, .int .i64 0, .int .i64 0, .slice none 0 0, .slice none 0 0] 34)) 34 0 ⟨#[]⟩ 0 0 0 (.slice none 0 0) (.slice none 0 0)
    rw [show (w.alloc (.cells #[.int .i64 0, .string ⟨#[]⟩, .int .i64 0, .int .i64 0, .int .i64 0, .slice none 0 0, .slice none 0 0] 34)).heap.size = w.heap.size + 1 by simp] at h2
    exact ⟨(Bx.new w _ _ _ _ _ _ _ _).later (bpush (bre _) _), h2, hc.later (bpush (bpush (bre _) _) _), hc.lt, grown_below (bpush (bpush (bre _) _) _) _⟩)
  obtain ⟨W0, hW0⟩ : ∃ W, ((w.alloc (.cells #[.int .i64 0, .string ⟨#[]⟩, .int .i64 0, .int .i64 0, .int .i64 0, .slice none 0 0, .slice none 0 0] 34)).alloc (.cells #[.int .i64 0, .string ⟨#[]⟩, .int .i64 0, .int .i64 0, .int .i64 0, .slice none 0 0, .slice none 0 0] 34)) = W := ⟨_, rfl⟩
  rw [hW0] at R0
  have HW0 := hid hW0
  clear hs hc hW0
  go_enter Try.func38, Try.ntmps38
  go_wp2_with fail
  rw [HW0.out]
  clear HW0
  refine (numr_any k s a _ HSZ.out R0.out.cur).mono ?_; rintro e w1 (⟨g, c1, hr, rfl, hd, hg⟩ | ⟨hr, rfl, hg⟩)
  case inr =>
    have P := hid (Bxr1.no (ibx_n1 hr) (wtr R0.out.gr hg))
    clear hr hg
    go_wp2_with fail
    exact ⟨rfl, P.out⟩
  have H1 := hid hr
  have R1 := hid (R0.out.read hg hd)
  have d8 := R1.out.box.cells
  have f8 := R1.out.box.loose
  have Q1 := hid (R1.out.put (R1.out.box.s0 g))
  clear hr hd hg R0
  go_wp2_with fail
  clear d8 f8 R1
  refine (short_any k s c1 _ HSZ.out Q1.out.cur).mono ?_; rintro e w2 (⟨nm, c2, hr, rfl, hd, hg⟩ | ⟨hr, rfl, hg⟩)
  case inr =>
    have P := hid (Bxr1.no (ibx_n2 H1.out hr) (wtr Q1.out.gr hg))
    clear hr hg
    go_wp2_with fail
    exact ⟨rfl, P.out⟩
  have H2 := hid hr
  have HNM : Hid (nm.size ≤ 1048576) := hid (by have := rsh_size hr; have := HSZ.out; omega)
  have R2 := hid (Q1.out.read hg hd)
  have d8 := R2.out.box.cells
  have f8 := R2.out.box.loose
  have Q2 := hid (R2.out.put (R2.out.box.s1 nm))
  clear hr hd hg Q1
  go_wp2_with fail
  clear d8 f8 R2
  refine (stmr_any k s c2 _ HSZ.out Q2.out.cur).mono ?_; rintro e w3 (⟨t, b, c3, hr, rfl, hd, hg⟩ | ⟨hr, rfl, hg⟩)
  case inr =>
    have P := hid (Bxr1.no (ibx_n3 H1.out H2.out hr) (wtr Q2.out.gr hg))
    clear hr hg
    go_wp2_with fail
    exact ⟨rfl, P.out⟩
  have H3 := hid hr
  have R3 := hid (Q2.out.read hg hd)
  have d8 := R3.out.box.cells
  have f8 := R3.out.box.loose
  have Q3a := R3.out.put (R3.out.box.s2 t)
  have Q3 := hid (Q3a.put (Q3a.box.s3 b))
  clear hr hd hg Q2 Q3a
  go_wp2_with fail
  clear d8 f8 R3
  refine (numr_any k s c3 _ HSZ.out Q3.out.cur).mono ?_; rintro e w4 (⟨nx, c4, hr, rfl, hd, hg⟩ | ⟨hr, rfl, hg⟩)
  case inr =>
    have P := hid (Bxr1.no (ibx_n4 H1.out H2.out H3.out hr) (wtr Q3.out.gr hg))
    clear hr hg
    go_wp2_with fail
    exact ⟨rfl, P.out⟩
  have H4 := hid hr
  have R4 := hid (Q3.out.read hg hd)
  have d8 := R4.out.box.cells
  have f8 := R4.out.box.loose
  have Q4 := hid (R4.out.put (R4.out.box.s4 nx))
  clear hr hd hg Q3
  go_wp2_with fail
  clear d8 f8 R4
  refine (lmails_any k s c4 _ HSZ.out Q4.out.cur).mono ?_; rintro e w5 (⟨L, Z, v, c5, hr, hZ, rfl, hd, ho, hg⟩ | ⟨hr, rfl, hg⟩)
  case inr =>
    have P := hid (Bxr1.no (ibx_n5 H1.out H2.out H3.out H4.out hr) (wtr Q4.out.gr hg))
    clear hr hg
    go_wp2_with fail
    exact ⟨rfl, P.out⟩
  have H5 := hid hr
  have hlen : Z.length = L.length := by rw [← hZ, List.length_map]
  have HZ := hid hZ
  have hsz4 := Q4.out.box.lt
  obtain ⟨ma, mc, hv⟩ := ho.shape
  subst hv
  rw [hlen] at ho
  rw [hlen]
  have HL : Hid (L.length ≤ 1048576 ∧ Sm L) := hid (by
    have h1 := hr
    unfold ims at h1
    cases h2 : rd s c4 with
    | none => rw [h2] at h1; cases h1
    | some p =>
      rw [h2] at h1
      simp only [Option.bind_some] at h1
      have h3 := rms_end h1
      have h4 := rms_right h1
      have h5 := rd_lt (n := p.1) (c := p.2) h2
      have h6 := HSZ.out
      refine ⟨?_, sm_right h4.2⟩
      by_cases h7 : 0 < p.1.toNat
      · have := h3.2.2 h7; omega
      · omega)
  have R5 := hid (Q4.out.read hg hd)
  have d8 := R5.out.box.cells
  have f8 := R5.out.box.loose
  have Q5 := hid (R5.out.put (R5.out.box.s5 (.slice ma L.length mc)))
  have O5 : Hid (OwZ (w5.setCell ⟨w.heap.size + 1, 5, none⟩ (.slice ma L.length mc)) _ (.slice ma L.length mc) Z) := hid (ho.grown (wst (wre w5 (some (w.heap.size + 1))) 5 (.slice ma L.length mc)) hsz4)
  have S5 : Hid (w.heap.size + 1 < (w4.setCell ⟨w.heap.size + 1, 4, none⟩ (.int .i64 nx)).heap.size) := hid hsz4
  have S45 : Hid ((w4.setCell ⟨w.heap.size + 1, 4, none⟩ (.int .i64 nx)).heap.size ≤ w5.heap.size) := hid hg.size
  obtain ⟨B5, hB5⟩ : ∃ n, (w4.setCell ⟨w.heap.size + 1, 4, none⟩ (.int .i64 nx)).heap.size = n := ⟨_, rfl⟩
  rw [hB5] at O5 S5 S45
  obtain ⟨mn, hmn⟩ : ∃ n, L.length = n := ⟨_, rfl⟩
  rw [hmn] at Q5 O5 HL
  rw [hmn]
  have HMN := hid hmn
  clear hr hd hg ho Q4 hZ hlen hsz4 hB5 hmn
  go_wp2_with fail
  clear d8 f8 R5
  refine (lints_any k s c5 _ HSZ.out Q5.out.cur).mono ?_; rintro e w6 (⟨G, gv, c6, hr, rfl, hd, ho, hg⟩ | ⟨hr, rfl, hg⟩)
  case inr =>
    have P := hid (Bxr1.no (ibx_n6 H1.out H2.out H3.out H4.out H5.out hr) (wtr Q5.out.gr hg))
    clear hr hg
    go_wp2_with fail
    exact ⟨rfl, P.out⟩
  have H6 := hid hr
  have hsz5 := Q5.out.box.lt
  have hk := Q5.out.far
  have hs5 := S5.out
  have O6a := O5.out.grown hg (by omega)
  have hrow : Hid (∀ j, (Value.slice ma mn mc).ownBlock = some j → j < (w5.setCell ⟨w.heap.size + 1, 5, none⟩ (.slice ma mn mc)).heap.size) := hid (fun j hj => (O5.out.row.lt j hj).2)
  have heach : Hid (∀ y ∈ Z, ∀ j, y.2.2.1.ownBlock = some j → j < (w5.setCell ⟨w.heap.size + 1, 5, none⟩ (.slice ma mn mc)).heap.size) := hid (fun y hy j hj => (World.ownsRow.lt (O5.out.each y hy) j hj).2)
  obtain ⟨ga, gc, hv, _⟩ := OwI.shape ho
  subst hv
  have HG : Hid (G.length ≤ 1048576) := hid (by
    have h1 := hr
    unfold iis at h1
    cases h2 : rd s c5 with
    | none => rw [h2] at h1; cases h1
    | some p =>
      rw [h2] at h1
      simp only [Option.bind_some] at h1
      have h3 := rds_lt h1
      have h4 := rds_len h1
      have h5 := rd_lt (n := p.1) (c := p.2) h2
      have h6 := HSZ.out
      by_cases h7 : 0 < p.1.toNat
      · have := h3.2 h7; omega
      · omega)
  have R6 := hid (Q5.out.read hg hd)
  have d8 := R6.out.box.cells
  have f8 := R6.out.box.loose
  have Q6 := hid (R6.out.put (R6.out.box.s6 (.slice ga G.length gc)))
  have O6 : Hid (OwZ (w6.setCell ⟨w.heap.size + 1, 6, none⟩ (.slice ga G.length gc)) B5 (.slice ma mn mc) Z) := hid (O6a.grown (wst (wre w6 (some (w.heap.size + 1))) 6 (.slice ga G.length gc)) hs5)
  have I6 : Hid (OwI (w6.setCell ⟨w.heap.size + 1, 6, none⟩ (.slice ga G.length gc)) (w5.setCell ⟨w.heap.size + 1, 5, none⟩ (.slice ma mn mc)).heap.size (.slice ga G.length gc) G) := hid (ownI_far ho (wst (wre w6 (some (w.heap.size + 1))) 6 (.slice ga G.length gc)) hsz5)
  have HFAR : Hid (∀ j, (Value.slice ga G.length gc).ownBlock = some j → (w5.setCell ⟨w.heap.size + 1, 5, none⟩ (.slice ma mn mc)).heap.size ≤ j) := hid (fun j hj => (World.ownsRow.lt ho j hj).1)
  have S6 : Hid (B5 ≤ (w5.setCell ⟨w.heap.size + 1, 5, none⟩ (.slice ma mn mc)).heap.size) := hid (by have h1 := S45.out; simpa [World.setCell] using h1)
  obtain ⟨B6, hB6⟩ : ∃ n, (w5.setCell ⟨w.heap.size + 1, 5, none⟩ (.slice ma mn mc)).heap.size = n := ⟨_, rfl⟩
  rw [hB6] at I6 HFAR hrow heach S6
  obtain ⟨gn, hgn⟩ : ∃ n, G.length = n := ⟨_, rfl⟩
  rw [hgn] at Q6 O6 I6 HG HFAR
  rw [hgn]
  have HGN := hid hgn
  clear hr hd hg ho Q5 hsz5 hk hs5 hB6 O6a hgn O5
  go_wp2_with fail
  clear d8 f8 R6
  obtain ⟨W6, hW6⟩ : ∃ W, w6.setCell ⟨w.heap.size + 1, 6, none⟩ (.slice ga gn gc) = W := ⟨_, rfl⟩
  rw [hW6] at Q6 O6 I6
  try rw [hW6]
  have e8 := Q6.out.box.cells
  clear hW6
  obtain ⟨q, hq⟩ : ∃ q, bxOk g nm t b nx L G = q := ⟨_, rfl⟩
  have CB := implBoxOk_any _ _ _ _ g nm t b nx ma mn mc ga gn gc L G W6 HNM.out HMN.out HL.out.1 HL.out.2 (HZ.out ▸ (O6.out.ms).2) HGN.out HG.out (OwI.is I6.out).2
  rw [hq] at CB
  have HRB : Hid (ibx s a = if q = true then some ((g, nm, t, b, nx, L, G), c6) else none) := hid (by rw [ibx_y H1.out H2.out H3.out H4.out H5.out H6.out, hq])
  refine CB.mono ?_; rintro e w7 ⟨rfl, hb7⟩
  have R7 := hid (Q6.out.later hb7)
  have O7 := hid (O6.out.later hb7)
  have I7 := hid (own_later I6.out hb7)
  have d8 := R7.out.box.cells
  have d4 := R7.out.zero.cells
  have f4 := R7.out.zero.loose
  clear hb7 CB e8 Q6 O6 I6
  cases q
  · have P := hid (Bxr1.no (by rw [HRB.out]; rfl) R7.out.gr)
    go_wp2_with fail
    refine (must_no _).mono ?_; rintro e w8 ⟨rfl, rfl⟩
    go_wp2_with fail
    exact ⟨rfl, P.out⟩
  · go_wp2_with fail
    refine (must_yes _).mono ?_; rintro e w8 ⟨rfl, rfl⟩
    go_wp2
    have hX := Bx.set7 R7.out.zero g nm t b nx (.slice ma mn mc) (.slice ga gn gc)
    unfold set7 at hX
    have d := hX.cells
    have hmn := HMN.out
    have hgn := HGN.out
    refine bodyPost_ret (v := .agg #[.int .i64 g, .string nm, .int .i64 t, .int .i64 b, .int .i64 nx, .slice ma mn mc, .slice ga gn gc]) (by simp [results, Try.results38, go_sem, d]) rfl ?_
    have hg7 := (wst (wst (wst (wst (wst (wst (wst (wre w8 (some w.heap.size)) 0 (.int .i64 g)) 1 (.string nm)) 2 (.int .i64 t)) 3 (.int .i64 b)) 4 (.int .i64 nx)) 5 (.slice ma mn mc)) 6 (.slice ga gn gc))
    have l1 := R7.out.far
    have l2 := S5.out
    have l3 := S6.out
    refine Or.inl ⟨g, nm, t, b, nx, L, G, c6, ma, mc, ga, gc, by rw [HRB.out]; rfl, by rw [hmn, hgn], ?_, ?_, ?_⟩
    · exact (hg7.block k (by have := R7.out.gr.size; omega) (by simp; omega)).trans R7.out.cur
    · rw [hmn, hgn]
      exact ⟨Z, HZ.out, (O7.out.grown hg7 (by omega)).base (by omega), own_base (ownI_far I7.out hg7 (by omega)) (by omega), fun j h1 h2 => by have h3 := HFAR.out j h1; have h4 := hrow.out j h2; omega, fun y hy j h1 h2 => by have h3 := HFAR.out j h1; have h4 := heach.out y hy j h2; omega⟩
    · exact wst_new (wst_new (wst_new (wst_new (wst_new (wst_new (wst_new R7.out.gr (Nat.le_refl _) 0 _) (Nat.le_refl _) 1 _) (Nat.le_refl _) 2 _) (Nat.le_refl _) 3 _) (Nat.le_refl _) 4 _) (Nat.le_refl _) 5 _) (Nat.le_refl _) 6 _
end Go.Proofs.Ytocfggfccbnbhaa

namespace Go.Proofs.Ytocfggfccbnbhaa
open Go.RowKit
/-- All that was there is as it was, but two blocks. -/
structure Kept2 (w w' : World) (kr km : Nat) : Prop where
  os : w'.os = w.os
  tape : w'.tape = w.tape
  output : w'.output = w.output
  size : w.heap.size ≤ w'.heap.size
  block : ∀ j, j < w.heap.size → j ≠ kr → j ≠ km → w'.heap[j]? = w.heap[j]?
theorem Kept2.of_grown {w w' : World} {kr km : Nat} (h : w.grownBy w' (some kr)) : Kept2 w w' kr km := ⟨h.os, h.tape, h.output, h.size, fun j hj h1 _ => h.block j hj (by simpa using h1)⟩
theorem Kept2.set {w w' : World} {kr km : Nat} (h : Kept2 w w' kr km) (i : Nat) (x : Value) : Kept2 w (w'.setCell ⟨km, i, none⟩ x) kr km :=
  ⟨h.os, h.tape, h.output, by simpa [World.setCell] using h.size, fun j hj h1 h2 => (Below.heap_setCell w' ⟨km, i, none⟩ x j h2).trans (h.block j hj h1 h2)⟩
theorem Kept2.new {w w' : World} {kr km : Nat} (h : Kept2 w w' kr km) {j : Nat} (hj : w.heap.size ≤ j) (i : Nat) (x : Value) : Kept2 w (w'.setCell ⟨j, i, none⟩ x) kr km :=
  ⟨h.os, h.tape, h.output, by simpa [World.setCell] using h.size, fun k hk h1 h2 => (Below.heap_setCell w' ⟨j, i, none⟩ x k (by show k ≠ j; omega)).trans (h.block k hk h1 h2)⟩
theorem Kept2.later {w w' w'' : World} {kr km : Nat} (h : Kept2 w w' kr km) (hb : Below w'.heap.size w' w'') : Kept2 w w'' kr km :=
  ⟨hb.os.trans h.os, hb.tape.trans h.tape, hb.output.trans h.output, Nat.le_trans h.size hb.size, fun k hk h1 h2 => (hb.block k (Nat.lt_of_lt_of_le hk h.size)).trans (h.block k hk h1 h2)⟩
theorem Kept2.push {w w' : World} {o : Obj} {kr km : Nat} (h : Kept2 (w.alloc o) w' kr km) : Kept2 w w' kr km := by
  have hb := bpush (bre w) o
  exact ⟨h.os.trans hb.os, h.tape.trans hb.tape, h.output.trans hb.output, Nat.le_trans hb.size h.size, fun k hk h1 h2 => (h.block k (Nat.lt_of_lt_of_le hk hb.size) h1 h2).trans (hb.block k hk)⟩
theorem Kept2.below {w w' : World} {B kr km : Nat} (h : Kept2 w w' kr km) (hr : B ≤ kr) (hm : B ≤ km) (hB : B ≤ w.heap.size) : Below B w w' :=
  ⟨h.os, h.tape, h.output, h.size, fun j hj => h.block j (by omega) (by omega) (by omega)⟩
theorem alloc_size (w : World) (o : Obj) : (w.alloc o).heap.size = w.heap.size + 1 := by simp
/-- Block k holds a function. -/
def Fg (W : World) (k ty f : Nat) : Prop := W.heap[k]? = some (.cells #[.func (.func f) #[] #[]] ty (0, 0))
theorem Fg.lt {W : World} {k ty f : Nat} (h : Fg W k ty f) : k < W.heap.size := (Array.getElem?_eq_some_iff.1 h).1
theorem Fg.later {W W' : World} {k ty f : Nat} (h : Fg W k ty f) (hb : Below W.heap.size W W') : Fg W' k ty f := (hb.block k h.lt).trans h
theorem Fg.cell {W : World} {k ty f : Nat} (h : Fg W k ty f) : W.cell? ⟨k, 0, none⟩ = some (.func (.func f) #[] #[]) := cell_of_row W k 0 _ _ _ h
end Go.Proofs.Ytocfggfccbnbhaa

namespace Go.Proofs.Ytocfggfccbnbhaa
open Go.RowKit Go.ChangeMaps
theorem drewBox {W : World} {B : Nat} {mv gv : Value} {L : List M4} {G : List Int} (h : OwB W B mv gv L G) : OwB W.drew B mv gv L G := h.later (bdr (bre W))
def CloBox (w : World) (kr km : Nat) (s : ByteArray) (a : Int) (w' : World) : Prop :=
  ∃ g nm t b nx L G c ma mc ga gc, ibx s a = some ((g, nm, t, b, nx, L, G), c) ∧ Dg w' kr s c ∧ Bx w' km 34 g nm t b nx (.slice ma L.length mc) (.slice ga G.length gc) ∧ OwB w' w.heap.size (.slice ma L.length mc) (.slice ga G.length gc) L G ∧ Kept2 w w' kr km
set_option maxHeartbeats 400000 in
set_option maxRecDepth 100000 in
theorem closBox_any (kf kr km ft : Nat) (s : ByteArray) (a : Int) (w : World) (hs : s.size ≤ 1048576) (hf : Fg w kf ft 38) (hd : Dg w kr s a) (hm : Bx w km 34 0 ⟨#[]⟩ 0 0 0 (.slice none 0 0) (.slice none 0 0)) (hne : kr ≠ km) :
    Calls Try.prog 62 #[.pointer (some ⟨kf, 0, none⟩), .pointer (some ⟨kr, 0, none⟩), .pointer (some ⟨km, 0, none⟩)] w fun e w' => (e = .returned (.tuple #[]) ∧ CloBox w kr km s a w') ∨ (e = .panicked notHere ∧ ibx s a = none ∧ w.grownBy w' (some kr)) := by
  have HD := hid hd
  have HM := hid hm
  have HS := hid hs
  have HNE := hid hne
  have cf := hf.cell
  clear hd hm hs hne hf
  go_enter Try.func62, Try.ntmps62
  go_wp2_with fail
  refine (rbox_any kr s a _ HS.out HD.out).mono ?_; rintro e w1 (⟨g, nm, t, b, nx, L, G, c, ma, mc, ga, gc, hr, rfl, hd, ho, hg⟩ | ⟨hr, rfl, hg⟩)
  case inr =>
    have H := hid hr
    have G := hid hg
    clear hr hg
    go_wp2_with fail
    exact ⟨rfl, Or.inr ⟨rfl, H.out, G.out⟩⟩
  have H := hid hr
  have M1 := hid (HM.out.grown hg (by have := HNE.out; simp; omega))
  have D1 := hid hd
  have O1 := hid ho
  have K1 : Hid (Kept2 w w1 kr km) := Kept2.of_grown hg
  have LM : Hid (km < w.heap.size) := HM.out.lt
  have c := M1.out.cells
  have f := M1.out.loose
  clear hr hd ho hg cf
  go_wp2
  go_end0
  have hne := HNE.out
  have hX := Bx.set7 M1.out g nm t b nx (.slice ma L.length mc) (.slice ga G.length gc)
  unfold set7 at hX
  refine Or.inl ⟨rfl, g, nm, t, b, nx, L, G, _, ma, mc, ga, gc, H.out, ?_, hX, ?_, ?_⟩
  · exact ((wst (wst (wst (wst (wst (wst (wst (wre w1 (some km)) _ _) _ _) _ _) _ _) _ _) _ _) _ _).block kr D1.out.lt (by simp; omega)).trans D1.out
  · exact OwB.grown (O1.out) ((wst (wst (wst (wst (wst (wst (wst (wre w1 (some km)) _ _) _ _) _ _) _ _) _ _) _ _) _ _)) (LM.out)
  · exact (((((((K1.out.set _ _).set _ _).set _ _).set _ _).set _ _).set _ _).set _ _)
set_option maxHeartbeats 800000 in
set_option maxRecDepth 100000 in
/-- readWhole over this closure, whatever it is known to leave. -/
theorem wholeBox_any (p1 p2 p3 : Value) (w : World) (Y N : World → Prop) (hF : Calls Try.prog 62 #[p1, p2, p3] (w.alloc (.cells #[.bool false] 4)) fun e w1 => (e = .returned (.tuple #[]) ∧ Y w1) ∨ (e = .panicked notHere ∧ N w1)) (hY : ∀ w1, Y w1 → Bwd w1 w.heap.size false) (hN : ∀ w1, N w1 → Bwd w1 w.heap.size false) :
    Calls Try.prog 61 #[.func (.func 62) #[] #[p1, p2, p3]] w fun e w' => (e = .returned (.bool true) ∧ ∃ w1, Y w1 ∧ w' = (w1.setCell ⟨w.heap.size, 0, none⟩ (.bool true)).alloc (.cells #[] 117)) ∨ (e = .returned (.bool false) ∧ ∃ w1, N w1 ∧ w' = (w1.alloc (.cells #[] 117)).setCell ⟨w.heap.size, 0, none⟩ (.bool false)) := by
  have hmf : ∀ (fn : Fn) (first cap : Array Value) (w : World), (Instr.makeFunc fn first cap).run Try.prog w = .ok (.func fn first cap) w := fun _ _ _ _ => rfl
  have HF := hid hF
  have HY := hid hY
  have HN := hid hN
  have B0 := hid (Bwd.new w false)
  have c0 := B0.out.cell
  clear hF hY hN
  go_enter_defers Try.func61, Try.ntmps61
  go_wp2_with fail
  refine HF.out.mono ?_; rintro e w1 (⟨rfl, hy⟩ | ⟨rfl, hn⟩)
  case inr =>
    have B1 : Hid (Bwd w1 w.heap.size false) := HN.out w1 hn
    have HNN := hid hn
    clear hn c0
    go_wp2_with fail
    refine leaves_cons (f := 81) (args := #[.pointer (some ⟨w.heap.size, 0, none⟩)]) (by simp) (by simp [go_sem]) ?_
    refine (catch_panic w.heap.size false [] _ B1.out).mono ?_
    rintro e u' w'' ⟨rfl, rfl, rfl⟩
    have cc := ((B1.out.later (bpush (bre w1) (.cells #[] 117))).set false).cell
    simp [Leaves, settle, results, Try.results61, go_sem, cc]
    exact ⟨w1, HNN.out, rfl⟩
  have B1 : Hid (Bwd w1 w.heap.size false) := HY.out w1 hy
  have HYY := hid hy
  have c1 := B1.out.cell
  have f1 := B1.out.loose
  clear hy c0
  go_wp2
  have N2 := hid (bpush (bre (w1.setCell ⟨w.heap.size, 0, none⟩ (.bool true))) (.cells #[] 117))
  have cc := ((B1.out.set true).later N2.out).cell
  refine leaves_cons (f := 81) (args := #[.pointer (some ⟨w.heap.size, 0, none⟩)]) (by simp) (by simp [go_sem]) ?_
  refine (catch_idle w.heap.size _).mono ?_
  rintro e u' w'' ⟨rfl, rfl, rfl⟩
  simp [Leaves, settle, results, Try.results61, go_sem, cc]
  exact ⟨w1, HYY.out, rfl⟩
def RaBox (s : ByteArray) (a : Int) (w : World) (e : Ending) (w' : World) : Prop :=
  (∃ g nm t b nx L G c ma mc ga gc, ibx s a = some ((g, nm, t, b, nx, L, G), c) ∧ e = .returned (.tuple #[.agg #[.int .i64 g, .string nm, .int .i64 t, .int .i64 b, .int .i64 nx, .slice ma L.length mc, .slice ga G.length gc], .int .i64 c, .bool true]) ∧ OwB w' w.heap.size (.slice ma L.length mc) (.slice ga G.length gc) L G ∧ Below w.heap.size w w') ∨
  (ibx s a = none ∧ e = .returned (.tuple #[.agg #[.int .i64 0, .string ⟨#[]⟩, .int .i64 0, .int .i64 0, .int .i64 0, .slice none 0 0, .slice none 0 0], .int .i64 0, .bool false]) ∧ Below w.heap.size w w')
theorem blocksBox (w : World) (ft : Nat) (s : ByteArray) (a : Int) (W0 : World) (h : ((w.alloc (.cells #[.func (.func 38) #[] #[]] ft)).alloc (.cells #[.int .i64 0, .string ⟨#[]⟩, .int .i64 0, .int .i64 0, .int .i64 0, .slice none 0 0, .slice none 0 0] 34)).alloc (.cells #[.string s, .int .i64 a] 96) = W0) :
    Fg W0 w.heap.size ft 38 ∧ Bx W0 (w.heap.size + 1) 34 0 ⟨#[]⟩ 0 0 0 (.slice none 0 0) (.slice none 0 0) ∧ Dg W0 (w.heap.size + 1 + 1) s a ∧ Below w.heap.size w W0 := by
  subst h
  have h1 : Fg (w.alloc (.cells #[.func (.func 38) #[] #[]] ft)) w.heap.size ft 38 := heap_alloc_new w _
  have h2 := Bx.new (w.alloc (.cells #[.func (.func 38) #[] #[]] ft)) 34 0 ⟨#[]⟩ 0 0 0 (.slice none 0 0) (.slice none 0 0)
  have h3 := Dg.new ((w.alloc (.cells #[.func (.func 38) #[] #[]] ft)).alloc (.cells #[.int .i64 0, .string ⟨#[]⟩, .int .i64 0, .int .i64 0, .int .i64 0, .slice none 0 0, .slice none 0 0] 34)) s a
  rw [alloc_size w] at h2
  rw [alloc_size (w.alloc _), alloc_size w] at h3
  exact ⟨h1.later (bpush (bpush (bre _) _) _), h2.later (bpush (bre _) _), h3, bpush (bpush (bpush (bre _) _) _) _⟩
set_option maxHeartbeats 1600000 in
set_option maxRecDepth 100000 in
theorem readAtBox_any (s : ByteArray) (a : Int) (w : World) (hs : s.size ≤ 1048576) :
    Calls Try.prog 37 #[.string s, .int .i64 a, .func (.func 38) #[] #[]] w fun e w' => RaBox s a w e w' := by
  have hmf : ∀ (fn : Fn) (first cap : Array Value) (w : World), (Instr.makeFunc fn first cap).run Try.prog w = .ok (.func fn first cap) w := fun _ _ _ _ => rfl
  have HSZ := hid hs
  obtain ⟨W0, hW0⟩ : ∃ W0, ((w.alloc (.cells #[.func (.func 38) #[] #[]] 72)).alloc (.cells #[.int .i64 0, .string ⟨#[]⟩, .int .i64 0, .int .i64 0, .int .i64 0, .slice none 0 0, .slice none 0 0] 34)).alloc (.cells #[.string s, .int .i64 a] 96) = W0 := ⟨_, rfl⟩
  obtain ⟨f0, x0, d0, b0⟩ := blocksBox w _ s a W0 hW0
  have N1 := hid (bpush (bre W0) (.cells #[.bool false] 4))
  have LW : Hid (w.heap.size + 1 + 1 < W0.heap.size) := d0.lt
  have L1 : Hid (W0.heap.size < (W0.alloc (.cells #[.bool false] 4)).heap.size) := hid (by show _ < _; simp)
  have HB := hid b0
  have BG := hid (Bwd.new W0 false)
  have CL := wholeBox_any (.pointer (some ⟨w.heap.size, 0, none⟩)) (.pointer (some ⟨w.heap.size + 1 + 1, 0, none⟩)) (.pointer (some ⟨w.heap.size + 1, 0, none⟩)) W0 _ _ (closBox_any w.heap.size (w.heap.size + 1 + 1) (w.heap.size + 1) _ s a _ hs (f0.later N1.out) (d0.later N1.out) (x0.later N1.out) (by omega)) (by
    rintro w1 ⟨g, nm, t, b, nx, L, G, c, ma, mc, ga, gc, _, _, _, _, hk⟩
    have l1 := LW.out
    exact (hk.block W0.heap.size BG.out.lt (by omega) (by omega)).trans BG.out) (by
    rintro w1 ⟨_, hk⟩
    have l1 := LW.out
    exact BG.out.grown hk (by simp; omega))
  have HCL := hid CL
  have X0 := hid x0
  have HW0 := hid hW0
  clear hs hW0 f0 x0 d0 b0 CL
  go_enter Try.func37, Try.ntmps37
  go_wp2_with fail
  rw [HW0.out]
  refine HCL.out.mono ?_; rintro e w1 (⟨rfl, w2, hy, rfl⟩ | ⟨rfl, w2, ⟨hr, hk⟩, rfl⟩)
  case inr =>
    have H := hid hr
    have l1 := LW.out
    have l2 := L1.out
    have E2 : Hid (Below w.heap.size w ((w2.alloc (.cells #[] 117)).setCell ⟨W0.heap.size, 0, none⟩ (.bool false))) := hid (bsk (btr (HB.out.trans (N1.out.mono (by omega) |>.trans (below_grownR hk (by intro j hj; simp at hj; omega) (by omega)))) (bpush (bre w2) _)) (by omega) 0 _)
    have F2 : Hid (Bx ((w2.alloc (.cells #[] 117)).setCell ⟨W0.heap.size, 0, none⟩ (.bool false)) (w.heap.size + 1) 34 0 ⟨#[]⟩ 0 0 0 (.slice none 0 0) (.slice none 0 0)) := hid (heap_setCell_far _ (((X0.out.later N1.out).grown hk (by simp)).later (bpush (bre w2) _)) (by omega))
    obtain ⟨w3, hw3⟩ : ∃ x, (w2.alloc (.cells #[] 117)).setCell ⟨W0.heap.size, 0, none⟩ (.bool false) = x := ⟨_, rfl⟩
    rw [hw3] at E2 F2
    rw [hw3]
    have d := F2.out.cells
    have f := F2.out.loose
    clear hr hk hw3 l1 l2
    go_wp2
    have hX := Bx.set7 F2.out 0 ⟨#[]⟩ 0 0 0 (.slice none 0 0) (.slice none 0 0)
    unfold set7 at hX
    have d := hX.cells
    exact bodyPost_ret (v := .tuple #[.agg #[.int .i64 0, .string ⟨#[]⟩, .int .i64 0, .int .i64 0, .int .i64 0, .slice none 0 0, .slice none 0 0], .int .i64 0, .bool false]) (by simp [results, Try.results37, go_sem, d]) rfl (Or.inr ⟨H.out, rfl, E2.out.trans (below_grownR (wst (wst (wst (wst (wst (wst (wst (wre w3 (some (w.heap.size + 1))) 0 (.int .i64 0)) 1 (.string ⟨#[]⟩)) 2 (.int .i64 0)) 3 (.int .i64 0)) 4 (.int .i64 0)) 5 (.slice none 0 0)) 6 (.slice none 0 0)) (by intro j hj; simp at hj; omega) E2.out.size)⟩)
  obtain ⟨g, nm, t, b, nx, L, G, c, ma, mc, ga, gc, hr, hd, hx, ho, hk⟩ := hy
  have H := hid hr
  have l1 := LW.out
  have l2 := L1.out
  have K2 : Hid (Kept2 W0 w2 (w.heap.size + 1 + 1) (w.heap.size + 1)) := hid hk.push
  have N3 := hid (bpush (bre (w2.setCell ⟨W0.heap.size, 0, none⟩ (.bool true))) (.cells #[] 117))
  have E2 : Hid (Below w.heap.size w ((w2.setCell ⟨W0.heap.size, 0, none⟩ (.bool true)).alloc (.cells #[] 117))) := hid (HB.out.trans (((K2.out.new (Nat.le_refl _) _ _).later N3.out).below (by omega) (by omega) (by omega)))
  have D2 := hid ((hd.far (j := W0.heap.size) (i := 0) (.bool true) (by omega)).later N3.out)
  have X2 : Hid (Bx ((w2.setCell ⟨W0.heap.size, 0, none⟩ (.bool true)).alloc (.cells #[] 117)) (w.heap.size + 1) 34 g nm t b nx (.slice ma L.length mc) (.slice ga G.length gc)) := hid (((show Bx (w2.setCell ⟨W0.heap.size, 0, none⟩ (.bool true)) (w.heap.size + 1) 34 g nm t b nx (.slice ma L.length mc) (.slice ga G.length gc) from heap_setCell_far _ hx (by omega))).later N3.out)
  have O2 := hid (OwB.later (OwB.grown (ho) (wst (wre w2 (some W0.heap.size)) 0 (.bool true)) (l2)) N3.out)
  obtain ⟨w3, hw3⟩ : ∃ x, (w2.setCell ⟨W0.heap.size, 0, none⟩ (.bool true)).alloc (.cells #[] 117) = x := ⟨_, rfl⟩
  rw [hw3] at E2 D2 X2 O2
  rw [hw3]
  have d := X2.out.cells
  have f := X2.out.loose
  have dd := D2.out.cells
  clear hr hd hx ho hk hw3 l1 l2 K2 N3
  go_wp2_with fail
  go_region
  all_goals go_wp2
  all_goals
    have hX := Bx.set7 X2.out g nm t b nx (.slice ma L.length mc) (.slice ga G.length gc)
    unfold set7 at hX
    have d3 := hX.cells
    have l1 := LW.out
    have l2 := L1.out
    refine bodyPost_ret (v := .tuple #[.agg #[.int .i64 g, .string nm, .int .i64 t, .int .i64 b, .int .i64 nx, .slice ma L.length mc, .slice ga G.length gc], .int .i64 c, .bool true]) (by simp [results, Try.results37, go_sem, d3]) rfl (Or.inl ⟨g, nm, t, b, nx, L, G, c, ma, mc, ga, gc, H.out, rfl, ?_, ?_⟩)
    · first | exact drewBox (OwB.base (OwB.grown (O2.out) ((wst (wst (wst (wst (wst (wst (wst (wre w3 (some (w.heap.size + 1))) 0 (.int .i64 g)) 1 (.string nm)) 2 (.int .i64 t)) 3 (.int .i64 b)) 4 (.int .i64 nx)) 5 (.slice ma L.length mc)) 6 (.slice ga G.length gc))) (by omega)) (show w.heap.size ≤ _ by omega)) | exact OwB.base (OwB.grown (drewBox O2.out) ((wst (wst (wst (wst (wst (wst (wst (wre w3.drew (some (w.heap.size + 1))) 0 (.int .i64 g)) 1 (.string nm)) 2 (.int .i64 t)) 3 (.int .i64 b)) 4 (.int .i64 nx)) 5 (.slice ma L.length mc)) 6 (.slice ga G.length gc))) (by omega)) (show w.heap.size ≤ _ by omega)
    · first | exact bdr (E2.out.trans (below_grownR (wst (wst (wst (wst (wst (wst (wst (wre w3 (some (w.heap.size + 1))) 0 (.int .i64 g)) 1 (.string nm)) 2 (.int .i64 t)) 3 (.int .i64 b)) 4 (.int .i64 nx)) 5 (.slice ma L.length mc)) 6 (.slice ga G.length gc)) (by intro j hj; simp at hj; omega) E2.out.size)) | exact (bdr E2.out).trans (below_grownR (wst (wst (wst (wst (wst (wst (wst (wre w3.drew (some (w.heap.size + 1))) 0 (.int .i64 g)) 1 (.string nm)) 2 (.int .i64 t)) 3 (.int .i64 b)) 4 (.int .i64 nx)) 5 (.slice ma L.length mc)) 6 (.slice ga G.length gc)) (by intro j hj; simp at hj; omega) E2.out.size)
set_option maxHeartbeats 800000 in
set_option maxRecDepth 100000 in
theorem implReadBox_any (s : ByteArray) (a : Int) (w : World) (hs : s.size ≤ 1048576) :
    Calls Try.prog 11 #[.string s, .int .i64 a] w fun e w' => RbPost s a w e w' := by
  have HSZ := hid hs
  have Z0 := hid (Bx.new w 34 0 ⟨#[]⟩ 0 0 0 (.slice none 0 0) (.slice none 0 0))
  have LZ : Hid (w.heap.size < (w.alloc (.cells #[.int .i64 0, .string ⟨#[]⟩, .int .i64 0, .int .i64 0, .int .i64 0, .slice none 0 0, .slice none 0 0] 34)).heap.size) := Z0.out.lt
  clear hs
  go_enter Try.func11, Try.ntmps11
  go_wp2_with fail
  refine (readAtBox_any s a _ HSZ.out).mono ?_; rintro e w1 (⟨g, nm, t, b, nx, L, G, c, ma, mc, ga, gc, hr, rfl, ho, hb⟩ | ⟨hr, rfl, hb⟩)
  · have H := hid hr
    have F := hid (Z0.out.later hb)
    have E := hid (btr (bpush (bre w) _) hb)
    have O := hid ho
    have d := F.out.cells
    have f := F.out.loose
    clear hr ho hb Z0
    go_wp2
    have hX := Bx.set7 F.out g nm t b nx (.slice ma L.length mc) (.slice ga G.length gc)
    unfold set7 at hX
    have d := hX.cells
    have hlz := LZ.out
    refine bodyPost_ret (v := .tuple #[.agg #[.int .i64 g, .string nm, .int .i64 t, .int .i64 b, .int .i64 nx, .slice ma L.length mc, .slice ga G.length gc], .int .i64 c, .bool true]) (by simp [results, Try.results11, go_sem, d]) rfl (Or.inr ⟨g, nm, t, b, nx, L, G, c, _, _, (ibx_rbx s a).symm.trans H.out, ibx_right H.out, rfl, ?_, ?_⟩)
    · have hO := OwB.base (OwB.grown (O.out) ((wst (wst (wst (wst (wst (wst (wst (wre w1 (some (w.heap.size))) 0 (.int .i64 g)) 1 (.string nm)) 2 (.int .i64 t)) 3 (.int .i64 b)) 4 (.int .i64 nx)) 5 (.slice ma L.length mc)) 6 (.slice ga G.length gc))) (hlz)) (show w.heap.size ≤ _ by omega)
      exact hO
    · exact E.out.trans (below_grownR (wst (wst (wst (wst (wst (wst (wst (wre w1 (some (w.heap.size))) 0 (.int .i64 g)) 1 (.string nm)) 2 (.int .i64 t)) 3 (.int .i64 b)) 4 (.int .i64 nx)) 5 (.slice ma L.length mc)) 6 (.slice ga G.length gc)) (by intro j hj; simp at hj; omega) E.out.size)
  · have H := hid hr
    have F := hid (Z0.out.later hb)
    have E := hid (btr (bpush (bre w) _) hb)
    have d := F.out.cells
    have f := F.out.loose
    clear hr hb Z0
    go_wp2
    have hX := Bx.set7 F.out 0 ⟨#[]⟩ 0 0 0 (.slice none 0 0) (.slice none 0 0)
    unfold set7 at hX
    have d := hX.cells
    refine bodyPost_ret (v := .tuple #[.agg #[.int .i64 0, .string ⟨#[]⟩, .int .i64 0, .int .i64 0, .int .i64 0, .slice none 0 0, .slice none 0 0], .int .i64 0, .bool false]) (by simp [results, Try.results11, go_sem, d]) rfl (Or.inl ⟨(ibx_rbx s a).symm.trans H.out, rfl, ?_⟩)
    exact E.out.trans (below_grownR (wst (wst (wst (wst (wst (wst (wst (wre w1 (some (w.heap.size))) 0 (.int .i64 0)) 1 (.string ⟨#[]⟩)) 2 (.int .i64 0)) 3 (.int .i64 0)) 4 (.int .i64 0)) 5 (.slice none 0 0)) 6 (.slice none 0 0)) (by intro j hj; simp at hj; omega) E.out.size)
end Go.Proofs.Ytocfggfccbnbhaa

namespace Go.Proofs.Ytocfggfccbnbhaa
open Go.RowKit Go.ChangeMaps
/-- All texts of a list, one behind the other. -/
def cat : List ByteArray → ByteArray
  | [] => ⟨#[]⟩
  | x :: l => x ++ cat l
theorem cat_app (l k : List ByteArray) : cat (l ++ k) = cat l ++ cat k := by
  induction l with
  | nil => exact (ba_nil _).symm
  | cons x l ih => simp only [List.cons_append, cat, ih]; exact ByteArray.append_assoc.symm
theorem cat_one (x : ByteArray) : cat [x] = x := nil_ba x
theorem cat_next (l : List ByteArray) (i : Nat) (h : i < l.length) : cat (l.take (i + 1)) = cat (l.take i) ++ l[i] := by
  rw [take_next l i h, cat_app, cat_one]
theorem cat_part (l : List ByteArray) (i : Nat) : (cat (l.take i)).size ≤ (cat l).size := by
  have h : cat l = cat (l.take i) ++ cat (l.drop i) := by rw [← cat_app, List.take_append_drop]
  rw [h, ByteArray.size_append]
  omega
/-- A row of texts that a call owns. -/
def OwR (W : World) (B : Nat) (v : Value) (l : List ByteArray) : Prop := W.ownsRow B 9 1 v l.length (l.map Value.string)
theorem OwR.shape {W : World} {B : Nat} {v : Value} {l : List ByteArray} (h : OwR W B v l) (h0 : 0 < l.length) : ∃ g c, v = .slice (some ⟨g, 0, none⟩) l.length c ∧ g < W.heap.size ∧ B ≤ g ∧ ∀ i (hi : i < l.length), W.cell? ⟨g, i, none⟩ = some (.string l[i]) := by
  have h' := h
  rcases h.2 with ⟨_, h1⟩ | ⟨g, c, cur, rfl, hb, hg, _⟩
  · omega
  · refine ⟨g, c, rfl, (Array.getElem?_eq_some_iff.1 hg).1, hb, fun i hi => ?_⟩
    have h2 := World.ownsRow.cells h' (g := g) rfl i (.string l[i]) (by rw [List.getElem?_map, List.getElem?_eq_getElem hi]; rfl)
    cases i with
    | zero => exact h2
    | succ i => simpa [Addr.add] using h2
theorem make_by (n : Nat) (hn : n ≤ 1048576) (W : World) : (Instr.makeSlice 85 (.int .i64 (n : Int)) (.int .i64 (n : Int))).run Try.prog W = .ok (.slice (some ⟨W.heap.size, 0, none⟩) n n) (W.alloc (.cells (List.replicate n (Value.int .u8 0)).toArray 5)) := by
  have hinfo : (Try.prog.info? 5).map (fun i => (i.zero, i.size, i.bytes)) = some (some (.int .u8 0), 1, 1) := by kernel_rfl
  obtain ⟨i0, hi, hz0, hz1, hz2⟩ := info_parts3 hinfo
  have h := run_make (P := Try.prog) W 85 5 i0 (.int .u8 0) Try.underlying85 hi hz0 .i64 .i64 (n : Int) (n : Int) (by omega) (by omega) (by rw [hz2]; omega) (by omega)
  rw [hz1, Int.toNat_natCast] at h
  have e : madeCells #[.int .u8 0] (n * 1) = (List.replicate n (Value.int .u8 0)).toArray := by
    apply Array.toList_inj.1
    apply List.ext_getElem?
    intro j
    by_cases hj : j < n <;> simp [madeCells, hj, Nat.mod_one]
  rw [show (Value.int IntKind.u8 0).cells = #[.int .u8 0] from rfl, e] at h
  exact h
theorem cut_by (g n a e : Nat) (W : World) (h1 : a < e) (h2 : e ≤ n) : (Instr.slice 85 (.slice (some ⟨g, 0, none⟩) n n) (some (.int .i64 (a : Int))) (some (.int .i64 (e : Int))) (some (.int .i64 (e : Int)))).run Try.prog W = .ok (.slice (some ⟨g, a, none⟩) (e - a) (e - a)) W := by
  have hz : ∀ w, (Go.sizeOf 5).run Try.prog w = .ok 1 w := fun w => by kernel_rfl
  have ht' : Try.prog.underlying 85 = some (.slice (Try.prog.elem 85)) := by simp [Program.elem, Try.underlying85]
  have he : Try.prog.elem 85 = 5 := by simp [Program.elem, Try.underlying85]
  rw [run_slice_lhm W 85 _ _ _ ht' .i64 .i64 .i64 _ _ _ (by omega) (by omega) (by omega) (by omega), he, hz]
  have hne : ¬ e = a := by omega
  simp [Result.andThen, sliced, Addr.add, hne]
  intro h; exact h.symm
def zs (n : Nat) : List Value := List.replicate n (Value.int .u8 0)
/-- The first part of a row is written, the rest is not yet. -/
def Half (W : World) (g : Nat) (x : ByteArray) (n : Nat) : Prop := W.heap[g]? = some (.cells (Lib.byteCells x.data.toList ++ zs (n - x.size)).toArray 5 (0, 0))
theorem Half.lt {W : World} {g n : Nat} {x : ByteArray} (h : Half W g x n) : g < W.heap.size := (Array.getElem?_eq_some_iff.1 h).1
theorem half_more (W : World) (g n : Nat) (x p : ByteArray) (h : Half W g x n) (hn : x.size + p.size ≤ n) : ∃ W', (Builtin.copy_ #[85, 9] 3 #[.slice (some ⟨g, x.size, none⟩) p.size p.size, .string p]).run Try.prog W = .ok (.int .i64 (p.size : Int)) W' ∧ Half W' g (x ++ p) n ∧ W.grownBy W' (some g) := by
  have hx : (Lib.byteCells x.data.toList).length = x.size := by rw [Lib.byteCells_length]; simp
  have h1 := Lib.run_copy_row_string (P := Try.prog) W 85 9 3 5 g x.size p.size p.size p (Lib.byteCells x.data.toList ++ zs (n - x.size)).toArray 5 Try.underlying85 (by kernel_rfl) h (Nat.le_refl _) (by simp [zs, hx]; omega)
  refine ⟨_, h1, ?_, ?_⟩
  · have e : ((Lib.byteCells x.data.toList ++ zs (n - x.size)).toArray.toList.take x.size ++ Lib.byteCells p.data.toList ++ (Lib.byteCells x.data.toList ++ zs (n - x.size)).toArray.toList.drop (x.size + p.size)) = Lib.byteCells (x ++ p).data.toList ++ zs (n - (x ++ p).size) := by
      show (Lib.byteCells x.data.toList ++ zs (n - x.size)).take x.size ++ Lib.byteCells p.data.toList ++ (Lib.byteCells x.data.toList ++ zs (n - x.size)).drop (x.size + p.size) = _
      rw [List.take_append_of_le_length (Nat.le_of_eq hx.symm), List.take_of_length_le (Nat.le_of_eq hx), List.drop_append, List.drop_of_length_le (by rw [hx]; omega), hx, ByteArray.data_append, Array.toList_append, ByteArray.size_append]
      have e2 : Lib.byteCells (x.data.toList ++ p.data.toList) = Lib.byteCells x.data.toList ++ Lib.byteCells p.data.toList := by simp [Lib.byteCells]
      have e3 : (zs (n - x.size)).drop (x.size + p.size - x.size) = zs (n - (x.size + p.size)) := by
        unfold zs
        rw [List.drop_replicate, show n - x.size - (x.size + p.size - x.size) = n - (x.size + p.size) by omega]
      rw [e2, e3, List.nil_append]
    have h2 := setRow_heap W g _ ((Lib.byteCells x.data.toList ++ zs (n - x.size)).toArray.toList.take x.size ++ Lib.byteCells p.data.toList ++ (Lib.byteCells x.data.toList ++ zs (n - x.size)).toArray.toList.drop (x.size + p.size)).toArray 5 (0, 0) h
    unfold Half
    rw [h2, e]
  · exact ⟨rfl, rfl, rfl, by simp [World.setRow], fun k hk hr => setRow_other W g k _ (by simp at hr; omega)⟩
theorem half_cells {W : World} {g n : Nat} {x : ByteArray} (h : Half W g x n) : ∀ j (hj : j < x.data.toList.length), W.cell? ((⟨g, 0, none⟩ : Addr).add j) = some (.int .u8 (x.data.toList[j].toNat : Int)) := by
  intro j hj
  have e : (⟨g, 0, none⟩ : Addr).add j = ⟨g, j, none⟩ := by cases j <;> simp [Addr.add]
  rw [e]
  rw [cell_of_row W g j _ _ _ h]
  have hj2 : j < (Lib.byteCells x.data.toList).length := by rw [Lib.byteCells_length]; exact hj
  show ((Lib.byteCells x.data.toList ++ zs (n - x.size)).toArray)[j]? = _
  rw [List.getElem?_toArray, List.getElem?_append_left hj2, Lib.byteCells, List.getElem?_map, List.getElem?_eq_getElem hj]
  rfl
set_option maxHeartbeats 1600000 in
set_option maxRecDepth 100000 in
theorem moved_any (g n c : Nat) (l : List ByteArray) (w : World) (hl : l.length = n) (hn : n ≤ 1048576) (hg : g < w.heap.size) (hc : ∀ i (h : i < l.length), w.cell? ⟨g, i, none⟩ = some (.string l[i])) (hne : ∀ x ∈ l, 0 < x.size) (hz : (cat l).size ≤ 1048576) :
    Calls Try.prog 29 #[.slice (some ⟨g, 0, none⟩) n c] w fun e w' => e = .returned (.string (cat l)) ∧ Below w.heap.size w w' := by
  have HL := hid hl
  have HC := hid hc
  have HG := hid hg
  have HNE := hid hne
  have HZ := hid hz
  clear hl hc hg hne hz
  go_enter Try.func29, Try.ntmps29
  go_wp2
  go_loopw [3, 13] (fun sv iv wr => ∃ (i m : Nat), i ≤ n ∧ iv = .int .i64 (i : Int) ∧ sv = .int .i64 (m : Int) ∧ Hid (m = (cat (l.take i)).size) ∧ m ≤ 1048576 ∧ w = wr) (fun _ iv _ => n - (intOf iv).toNat)
  case atStart => exact ⟨0, 0, Nat.zero_le _, rfl, rfl, rfl, by omega, rfl⟩
  case round =>
    obtain ⟨i, m, hi, rfl, rfl, HM, hm, rfl⟩ := hrel
    by_cases hlt : i < n
    · have hil : i < l.length := by rw [HL.out]; exact hlt
      have hci := HC.out i hil
      have HT := hid (cat_next l i hil)
      obtain ⟨p, hp⟩ : ∃ p, l[i] = p := ⟨_, rfl⟩
      rw [hp] at hci HT
      have hps : m + p.size ≤ 1048576 := by
        have h1 := cat_part l (i + 1)
        rw [HT.out, ByteArray.size_append] at h1
        have h2 := HM.out
        have h3 := HZ.out
        omega
      clear hp
      go_wp2
      go_roundw
      case rel => exact ⟨i + 1, m + p.size, by omega, by go_num, by go_num, hid (by show _ = _; rw [HT.out, ByteArray.size_append, ← HM.out]), hps, trivial⟩
      case measure => simp [intOf]; omega
    · have HE : Hid (l.take i = l) := List.take_of_length_le (by rw [HL.out]; omega)
      have HMZ : Hid (m = (cat l).size) := hid (by rw [← HE.out]; exact HM.out)
      have hmk := make_by m hm w
      have HH : Hid (Half (w.alloc (.cells (List.replicate m (Value.int .u8 0)).toArray 5)) w.heap.size ⟨#[]⟩ m) := hid (heap_alloc_new w _)
      obtain ⟨M, hM⟩ : ∃ M, (List.replicate m (Value.int .u8 0)).toArray = M := ⟨_, rfl⟩
      rw [hM] at hmk HH
      have HB := hid (bpush (bre w) (.cells M 5))
      clear hM
      go_wp2
      clear hmk
      obtain ⟨W1, hW1⟩ : ∃ W, w.alloc (.cells M 5) = W := ⟨_, rfl⟩
      rw [hW1] at HH HB
      rw [hW1]
      clear hW1
      go_loopw [7, 26] (fun av iv wr => ∃ (i a : Nat), i ≤ n ∧ iv = .int .i64 (i : Int) ∧ av = .int .i64 (a : Int) ∧ Hid (a = (cat (l.take i)).size) ∧ a ≤ m ∧ Hid (Half wr w.heap.size (cat (l.take i)) m) ∧ Hid (Below w.heap.size w wr)) (fun _ iv _ => n - (intOf iv).toNat)
      case atStart => exact ⟨0, 0, Nat.zero_le _, rfl, rfl, rfl, Nat.zero_le _, HH, HB⟩
      case round =>
        obtain ⟨i2, a, hi2, rfl, rfl, HA, ha, HQ, HK⟩ := hrel
        by_cases hlt2 : i2 < n
        · have hil : i2 < l.length := by rw [HL.out]; exact hlt2
          have hci := (HK.out.cell (p := ⟨g, i2, none⟩) HG.out).trans (HC.out i2 hil)
          have HT := hid (cat_next l i2 hil)
          have hpos := HNE.out l[i2] (List.getElem_mem hil)
          obtain ⟨p, hp⟩ : ∃ p, l[i2] = p := ⟨_, rfl⟩
          rw [hp] at hci HT hpos
          have hps : a + p.size ≤ m := by
            have h1 := cat_part l (i2 + 1)
            rw [HT.out, ByteArray.size_append] at h1
            have h2 := HA.out
            have h3 := HMZ.out
            omega
          obtain ⟨wn, hcp, hh, hgr⟩ := half_more wr w.heap.size m (cat (l.take i2)) p HQ.out (by rw [← HA.out]; exact hps)
          rw [← HA.out] at hcp
          have HH2 : Hid (Half wn w.heap.size (cat (l.take (i2 + 1))) m) := hid (by rw [HT.out]; exact hh)
          have HB2 : Hid (Below w.heap.size w wn) := hid (HK.out.trans (below_grownR hgr (by intro j hj; simp at hj; omega) HK.out.size))
          have hct := cut_by w.heap.size m a (a + p.size) wr (by omega) hps
          rw [show a + p.size - a = p.size by omega, Int.natCast_add] at hct
          clear hp hh hgr
          go_wp2
          go_roundw
          case rel => exact ⟨i2 + 1, a + p.size, by omega, by go_num, by go_num, hid (by show _ = _; rw [HT.out, ByteArray.size_append, ← HA.out]), hps, HH2, HB2⟩
          case measure => simp [intOf]; omega
        · have HE2 : Hid (l.take i2 = l) := List.take_of_length_le (by rw [HL.out]; omega)
          have hcv := run_convert_bytes_back (P := Try.prog) wr 85 9 5 ⟨w.heap.size, 0, none⟩ m (cat l).data.toList Try.underlying85 (by kernel_rfl) (by kernel_rfl) (half_cells (HE2.out ▸ HQ.out))
          rw [show (cat l).data.toList.length = m by rw [HMZ.out]; simp] at hcv
          have HSE : Hid ((⟨(cat l).data.toList.toArray⟩ : ByteArray) = cat l) := hid (by cases cat l; simp)
          obtain ⟨z, hzz⟩ : ∃ z, (⟨(cat l).data.toList.toArray⟩ : ByteArray) = z := ⟨_, rfl⟩
          rw [hzz] at hcv HSE
          clear hzz
          go_wp2
          go_ret
          exact ⟨by rw [HSE.out]; rfl, HK.out⟩
end Go.Proofs.Ytocfggfccbnbhaa

namespace Go.Proofs.Ytocfggfccbnbhaa
open Go.RowKit Go.ChangeMaps
theorem info_str : (Try.prog.info? 9).map (fun i => (i.zero, i.size, i.bytes)) = some (some (.string ⟨#[]⟩), 1, 16) := by kernel_rfl
theorem cell_one_s (w : World) (x : ByteArray) (e : Nat) : ∀ (j : Nat) (u : Value), ([Value.string x] : List Value)[j]? = some u → (w.alloc (.cells #[.string x] e)).cell? ((⟨w.heap.size, 0, none⟩ : Addr).add j) = some u := by
  intro j u hj
  match j, hj with
  | 0, hj =>
    simp only [List.getElem?_cons_zero, Option.some.injEq] at hj
    subst hj
    exact cell_of_row _ w.heap.size 0 _ _ _ (heap_alloc_new w _)
  | j + 1, hj => simp at hj
theorem ownR_one (w : World) (x : ByteArray) : OwR (w.alloc (.cells #[.string x] 9)) w.heap.size (.slice (some ⟨w.heap.size, 0, none⟩) 1 1) [x] := by
  have h := World.ownsRow_lit (base := w.heap.size) (e := 9) (size := 1) w #[.string x] 1 (Nat.le_refl _) (by unfold maxLen; omega) rfl
  simpa [OwR] using h
theorem wpList_append_str (w : World) {ops : Array Oper} {rest : List Oper} {o : Oper} {a : Act} {Q : Exit → Act → World → Prop} (hgd : o.guard = none) (s x : Operand)
    (ho : o.op = .call { callee := .builtin .append, args := #[s, x], argTypes := #[55, 55] })
    (base : Nat) (v : Value) (l : List ByteArray) (hs : a.eval s = v) (hown : OwR w base v l) (n : ByteArray)
    (hx : a.eval x = .slice (some ⟨w.heap.size, 0, none⟩) 1 1) (hlen : l.length ≤ 2000000) (hbase : base ≤ w.heap.size)
    (h : ∀ v' w', OwR w' base v' (l ++ [n]) → Below base w w' → wpList Try.prog ops Q rest (a.put o.dst v') w') :
    wpList Try.prog ops Q (o :: rest) a (w.alloc (.cells #[.string n] 9)) := by
  obtain ⟨i0, hi, hz0, hz1, hz2⟩ := info_parts3 info_str
  refine wpList_append_own _ hgd s x 55 ho base 9 i0 (.string ⟨#[]⟩) 1 16 Try.underlying55 hi hz0 hz1 hz2 rfl (by decide) v _ _ hs (World.ownsRow.alloc hown _) ⟨w.heap.size, 0, none⟩ 1 1 [.string n] hx rfl (cell_one_s _ _ _) (by intro u hu; simp at hu; subst hu; rfl) (by unfold maxLen; omega) (by omega) (by simp; omega) ?_
  intro v' w' hown' hg _
  refine h v' w' (by simpa [OwR] using hown') (((Below.refl base w).alloc hbase _).grown hg (by simp; omega) (fun k hk => (World.ownsRow.lt hown k hk).1))
/-- A row of texts appended to a row of texts. -/
theorem wpList_append_strs (w : World) {ops : Array Oper} {rest : List Oper} {o : Oper} {a : Act} {Q : Exit → Act → World → Prop} (hgd : o.guard = none) (s x : Operand)
    (ho : o.op = .call { callee := .builtin .append, args := #[s, x], argTypes := #[55, 55] })
    (base : Nat) (v : Value) (l k : List ByteArray) (hs : a.eval s = v) (hown : OwR w base v l) (g n c : Nat) (hk : k.length = n)
    (hx : a.eval x = .slice (some ⟨g, 0, none⟩) n c) (hc : ∀ i (h : i < k.length), w.cell? ⟨g, i, none⟩ = some (.string k[i])) (hlen : l.length ≤ 2000000) (hlen2 : n ≤ 2000000) (hbase : base ≤ w.heap.size)
    (h : ∀ v' w', OwR w' base v' (l ++ k) → Below base w w' → wpList Try.prog ops Q rest (a.put o.dst v') w') :
    wpList Try.prog ops Q (o :: rest) a w := by
  obtain ⟨i0, hi, hz0, hz1, hz2⟩ := info_parts3 info_str
  refine wpList_append_own _ hgd s x 55 ho base 9 i0 (.string ⟨#[]⟩) 1 16 Try.underlying55 hi hz0 hz1 hz2 rfl (by decide) v _ _ hs hown ⟨g, 0, none⟩ n c (k.map Value.string) hx (by rw [List.length_map, hk, Nat.mul_one]) ?_ (by intro u hu; simp only [List.mem_map] at hu; obtain ⟨y, _, rfl⟩ := hu; rfl) (by unfold maxLen; omega) (by omega) hbase ?_
  · intro j u hj
    have e : (⟨g, 0, none⟩ : Addr).add j = ⟨g, j, none⟩ := by cases j <;> simp [Addr.add]
    have hjl : j < k.length := by have := (List.getElem?_eq_some_iff.1 hj).1; simpa using this
    rw [e, hc j hjl]
    rw [List.getElem?_map, List.getElem?_eq_getElem hjl] at hj
    simpa using hj
  · intro v' w' hown' hg _
    refine h v' w' (by unfold OwR; rw [List.length_append, List.map_append, hk]; exact hown') ((Below.refl base w).grown hg hbase (fun k hk => (World.ownsRow.lt hown k hk).1))
theorem texts1 (x : Int) (hx : 0 ≤ x ∧ x ≤ 1000000000) : ∃ s : ByteArray, Hid (s = vi x) ∧ Hid (∀ w k, k = w.heap.size → Calls Try.prog 24 #[.slice (some ⟨k, 0, none⟩) 1 1] (w.alloc (.cells #[.int .i64 x] 3)) fun e w' => e = .returned (.string s) ∧ Below w.heap.size w w') := by
  refine ⟨vis [x], ?_, fun w k hk => ?_⟩
  · show _ = _; simp only [vis, nil_ba]
  · subst hk
    refine (varTexts_any w.heap.size [x] 1 _ rfl (by omega) (by intro z hz; simp at hz; subst hz; assumption) (by simp) ?_).mono fun _ _ h => ⟨h.1, btr (bpush (bre _) _) h.2⟩
    intro i hi
    have h := heap_alloc_new w (.cells #[.int .i64 x] 3)
    have h2 : i = 0 := by simp at hi; omega
    subst h2
    exact cell_of_row _ _ 0 _ _ _ h
set_option maxHeartbeats 1600000 in
set_option maxRecDepth 100000 in
theorem ltInts_any (lo hi : Nat) (ao : Option Addr) (n c : Nat) (G : List Int) (w : World) (hl : G.length = n) (hn : n ≤ 1048576) (hr : Is lo hi w ao G) (hg : ∀ y ∈ G, 0 ≤ y ∧ y ≤ 1000000000) :
    Calls Try.prog 27 #[.slice ao n c, .func (.func 28) #[] #[]] w fun e w' => ∃ v, e = .returned v ∧ OwR w' w.heap.size v (vi n :: G.map vi) ∧ Below w.heap.size w w' := by
  have HL := hid hl
  have HR := hid hr
  have HG := hid hg
  obtain ⟨x1, e1, C1⟩ := texts1 (n : Int) (by omega)
  clear hl hr hg
  go_enter Try.func27, Try.ntmps27
  go_wp2_with fail
  refine (C1.out _ _ rfl).mono ?_; rintro e w1 ⟨rfl, hb1⟩
  have O1 := hid (ownR_one w1 x1)
  have B1 := hid hb1
  have B2 := hid (bpush hb1 (.cells #[.string x1] 9))
  have hs1 := hb1.size
  clear hb1
  go_wp2
  obtain ⟨W1, hW1⟩ : ∃ W, w1.alloc (.cells #[.string x1] 9) = W := ⟨_, rfl⟩
  have O2 : Hid (OwR W1 w.heap.size (.slice (some ⟨w1.heap.size, 0, none⟩) 1 1) [x1]) := hid (by rw [← hW1]; exact own_base O1.out hs1)
  rw [hW1] at B2
  rw [hW1]
  clear hW1 O1 B1 hs1
  go_loopw [5, 17] (fun ov iv wr => ∃ (i : Nat), i ≤ n ∧ iv = .int .i64 (i : Int) ∧ OwR wr w.heap.size ov (vi n :: (G.take i).map vi) ∧ Below w.heap.size w wr) (fun _ iv _ => n - (intOf iv).toNat)
  case atStart => exact ⟨0, Nat.zero_le _, rfl, by rw [← e1.out]; exact O2.out, B2.out⟩
  case round =>
    obtain ⟨i, hi2, rfl, ho, hb⟩ := hrel
    have XO := hid ho
    have XB := hid hb
    clear ho hb O2 B2
    by_cases hlt : i < n
    · have hil : i < G.length := by rw [HL.out]; exact hlt
      have HT : Hid (G.take (i + 1) = G.take i ++ [G[i]]) := take_next G i hil
      obtain ⟨k, o, rfl, hk, d⟩ := (HR.out.later XB.out).at hil
      have hy := HG.out G[i] (List.getElem_mem hil)
      obtain ⟨y, hye⟩ : ∃ y, G[i] = y := ⟨_, rfl⟩
      rw [hye] at d hy HT
      obtain ⟨z, hz, hzs, cz⟩ := var_i y hy.1 hy.2
      have HLN : Hid ((vi n :: (G.take i).map vi).length ≤ 2000000) := hid (by show _ ≤ _; simp only [List.length_cons, List.length_map, List.length_take]; omega)
      clear hye hy hzs
      go_wp2_with fail
      refine (cz.out _).mono ?_; rintro e w3 ⟨rfl, hb3⟩
      have O3 : Hid (OwR w3 w.heap.size u5 (vi n :: (G.take i).map vi)) := hid (own_later XO.out hb3)
      have B3 := hid (btr XB.out hb3)
      have hs3 := B3.out.size
      clear d hb3
      go_wp2_with (at_builtin; refine wpList_append_str w3 rfl (.tmp 27) (.tmp 29) rfl w.heap.size _ _ (by rfl) O3.out z rfl HLN.out hs3 ?_; intro v4 w4 hown4 hb4; have HO4 := hid hown4; have HB4 := hid hb4; clear hown4 hb4)
      go_roundw
      case rel => exact ⟨i + 1, by omega, by go_num, by rw [HT.out, List.map_append, ← List.cons_append]; rw [hz.out] at HO4; exact HO4.out, B3.out.trans HB4.out⟩
      case measure => simp [intOf]; omega
    · have HE : Hid (G.take i = G) := List.take_of_length_le (by rw [HL.out]; omega)
      have XO2 : Hid (OwR wr w.heap.size u5 (vi n :: G.map vi)) := hid (by have h := XO.out; rw [HE.out] at h; exact h)
      go_wp2
      go_ret
      exact ⟨_, rfl, XO2.out, XB.out⟩
end Go.Proofs.Ytocfggfccbnbhaa

