/- Wc, Wk, Wt, Wd, We, Tkz, Tia. -/
import Derived.Test.YtlhofbnnonljaaaGreatDoorX17
import Derived.Shelf.Spec.SlicesInsertGrow
import Derived.Shelf.Slices.SearchI
import Derived.Shelf.Slices.Empties
import Derived.Shelf.Sort.Plain
import Derived.Shelf.Slices.In.SortNone
import Derived.Shelf.Slices.Cells
import Derived.Sort.OwnSortedInts
namespace Go.Proofs.YtlhofbnnonljaaaGreatDoor
open Go.RowKit Go.ChangeMaps
section
variable {s : ByteArray} {a g c1 : Int} {nm : ByteArray} {c2 t b c3 nx c4 : Int} {L : List M4} {c5 : Int} {G : List Int} {c6 : Int}
theorem ibx_n1 (h1 : rd s a = none) : ibx s a = none := by unfold ibx; rw [h1]; rfl
theorem ibx_n2 (h1 : rd s a = some (g, c1)) (h2 : rsh s c1 = none) : ibx s a = none := by unfold ibx; rw [h1]; simp only [Option.bind_some]; rw [h2]; rfl
theorem ibx_n3 (h1 : rd s a = some (g, c1)) (h2 : rsh s c1 = some (nm, c2)) (h3 : rg2 s c2 = none) : ibx s a = none := by unfold ibx; rw [h1]; simp only [Option.bind_some]; rw [h2]; simp only [Option.bind_some]; rw [h3]; rfl
theorem ibx_n4 (h1 : rd s a = some (g, c1)) (h2 : rsh s c1 = some (nm, c2)) (h3 : rg2 s c2 = some ((t, b), c3)) (h4 : rd s c3 = none) : ibx s a = none := by unfold ibx; rw [h1]; simp only [Option.bind_some]; rw [h2]; simp only [Option.bind_some]; rw [h3]; simp only [Option.bind_some]; rw [h4]; rfl
theorem ibx_n5 (h1 : rd s a = some (g, c1)) (h2 : rsh s c1 = some (nm, c2)) (h3 : rg2 s c2 = some ((t, b), c3)) (h4 : rd s c3 = some (nx, c4)) (h5 : ims s c4 = none) : ibx s a = none := by unfold ibx; rw [h1]; simp only [Option.bind_some]; rw [h2]; simp only [Option.bind_some]; rw [h3]; simp only [Option.bind_some]; rw [h4]; simp only [Option.bind_some]; rw [h5]; rfl
theorem ibx_n6 (h1 : rd s a = some (g, c1)) (h2 : rsh s c1 = some (nm, c2)) (h3 : rg2 s c2 = some ((t, b), c3)) (h4 : rd s c3 = some (nx, c4)) (h5 : ims s c4 = some (L, c5)) (h6 : iis s c5 = none) : ibx s a = none := by unfold ibx; rw [h1]; simp only [Option.bind_some]; rw [h2]; simp only [Option.bind_some]; rw [h3]; simp only [Option.bind_some]; rw [h4]; simp only [Option.bind_some]; rw [h5]; simp only [Option.bind_some]; rw [h6]; rfl
theorem ibx_y (h1 : rd s a = some (g, c1)) (h2 : rsh s c1 = some (nm, c2)) (h3 : rg2 s c2 = some ((t, b), c3)) (h4 : rd s c3 = some (nx, c4)) (h5 : ims s c4 = some (L, c5)) (h6 : iis s c5 = some (G, c6)) : ibx s a = if bxOk g nm t b nx L G = true then some ((g, nm, t, b, nx, L, G), c6) else none := by unfold ibx; rw [h1]; simp only [Option.bind_some]; rw [h2]; simp only [Option.bind_some]; rw [h3]; simp only [Option.bind_some]; rw [h4]; simp only [Option.bind_some]; rw [h5]; simp only [Option.bind_some]; rw [h6]; rfl
end
/-- The memory of a call that reads a box. -/
structure Rbi (w W : World) (k : Nat) (s : ByteArray) (g : Int) (nm : ByteArray) (t b nx : Int) (mv gv : Value) (c : Int) : Prop where
  zero : Bx W w.heap.size 77 0 ⟨#[]⟩ 0 0 0 (.slice none 0 0) (.slice none 0 0)
  box : Bx W (w.heap.size + 1) 77 g nm t b nx mv gv
  cur : Dg W k s c
  far : k < w.heap.size
  gr : w.grownBy W (some k)
section
variable {w W W' : World} {k : Nat} {s : ByteArray} {g : Int} {nm : ByteArray} {t b nx : Int} {mv gv : Value} {c : Int}
theorem Rbi.later (h : Rbi w W k s g nm t b nx mv gv c) (hb : Below W.heap.size W W') : Rbi w W' k s g nm t b nx mv gv c :=
  ⟨h.zero.later hb, h.box.later hb, h.cur.later hb, h.far, wtr h.gr (grown_below hb _)⟩
theorem Rbi.read {c' : Int} (h : Rbi w W k s g nm t b nx mv gv c) (hg : W.grownBy W' (some k)) (hc : Dg W' k s c') : Rbi w W' k s g nm t b nx mv gv c' :=
  have hf := h.far
  ⟨h.zero.grown hg (by simp; omega), h.box.grown hg (by simp; omega), hc, h.far, wtr h.gr hg⟩
theorem Rbi.put {i : Nat} {x : Value} {g' : Int} {nm' : ByteArray} {t' b' nx' : Int} {mv' gv' : Value} (h : Rbi w W k s g nm t b nx mv gv c) (hx : Bx (W.setCell ⟨w.heap.size + 1, i, none⟩ x) (w.heap.size + 1) 77 g' nm' t' b' nx' mv' gv') : Rbi w (W.setCell ⟨w.heap.size + 1, i, none⟩ x) k s g' nm' t' b' nx' mv' gv' c :=
  have hf := h.far
  ⟨heap_setCell_far x h.zero (by omega), hx, h.cur.far x (by omega), h.far, wst_new h.gr (by omega) i x⟩
end
def Bxr1 (w : World) (k : Nat) (s : ByteArray) (a : Int) (e : Ending) (w' : World) : Prop :=
  (∃ g nm t b nx L G c ma mc ga gc, ibx s a = some ((g, nm, t, b, nx, L, G), c) ∧ e = .returned (.agg #[.int .i64 g, .string nm, .int .i64 t, .int .i64 b, .int .i64 nx, .slice ma L.length mc, .slice ga G.length gc]) ∧ Dg w' k s c ∧ OwB w' w.heap.size (.slice ma L.length mc) (.slice ga G.length gc) L G ∧ w.grownBy w' (some k)) ∨ (ibx s a = none ∧ e = .panicked notHere ∧ w.grownBy w' (some k))
theorem Bxr1.no {w : World} {k : Nat} {s : ByteArray} {a : Int} {w' : World} (h : ibx s a = none) (hg : w.grownBy w' (some k)) : Bxr1 w k s a (.panicked notHere) w' := Or.inr ⟨h, rfl, hg⟩
set_option maxHeartbeats 8000000 in
set_option maxRecDepth 100000 in
theorem rbox_any (k : Nat) (s : ByteArray) (a : Int) (w : World) (hs : s.size ≤ 1048576) (hc : Dg w k s a) :
    Calls Tryz.prog 142 #[.pointer (some ⟨k, 0, none⟩)] w fun e w' => Bxr1 w k s a e w' := by
  have HSZ := hid hs
  have R0 : Hid (Rbi w ((w.alloc (.cells #[.int .i64 0, .string ⟨#[]⟩, .int .i64 0, .int .i64 0, .int .i64 0, .slice none 0 0, .slice none 0 0] 77)).alloc (.cells #[.int .i64 0, .string ⟨#[]⟩, .int .i64 0, .int .i64 0, .int .i64 0, .slice none 0 0, .slice none 0 0] 77)) k s 0 ⟨#[]⟩ 0 0 0 (.slice none 0 0) (.slice none 0 0) a) := hid (by
    have h2 := Bx.new (w.alloc (.cells #[.int .i64 0, .string ⟨#[]⟩, .int .i64 0, .int .i64 0, .int .i64 0, .slice none 0 0, .slice none 0 0] 77)) 77 0 ⟨#[]⟩ 0 0 0 (.slice none 0 0) (.slice none 0 0)
    rw [show (w.alloc (.cells #[.int .i64 0, .string ⟨#[]⟩, .int .i64 0, .int .i64 0, .int .i64 0, .slice none 0 0, .slice none 0 0] 77)).heap.size = w.heap.size + 1 by simp] at h2
    exact ⟨(Bx.new w _ _ _ _ _ _ _ _).later (bpush (bre _) _), h2, hc.later (bpush (bpush (bre _) _) _), hc.lt, grown_below (bpush (bpush (bre _) _) _) _⟩)
  obtain ⟨W0, hW0⟩ : ∃ W, ((w.alloc (.cells #[.int .i64 0, .string ⟨#[]⟩, .int .i64 0, .int .i64 0, .int .i64 0, .slice none 0 0, .slice none 0 0] 77)).alloc (.cells #[.int .i64 0, .string ⟨#[]⟩, .int .i64 0, .int .i64 0, .int .i64 0, .slice none 0 0, .slice none 0 0] 77)) = W := ⟨_, rfl⟩
  rw [hW0] at R0
  have HW0 := hid hW0
  clear hs hc hW0
  go_enter Tryz.func142, Tryz.ntmps142
  go_wp2_with fail
  rw [HW0.out]
  clear HW0
  refine (numr_any k s a _ HSZ.out R0.out.cur).mono ?_; rintro e w1 (⟨g, c1, hr, rfl, hd, hg⟩ | ⟨hr, rfl, hg⟩)
  case inr =>
    have P := hid (Bxr1.no (ibx_n1 hr) (wtr R0.out.gr hg))
    clear hr hg
    go_wp2_with fail
    exact ⟨rfl, P.out⟩
  have H1 := hid hr
  have R1 := hid (R0.out.read hg hd)
  have d8 := R1.out.box.cells
  have f8 := R1.out.box.loose
  have Q1 := hid (R1.out.put (R1.out.box.s0 g))
  clear hr hd hg R0
  go_wp2_with fail
  clear d8 f8 R1
  refine (short_any k s c1 _ HSZ.out Q1.out.cur).mono ?_; rintro e w2 (⟨nm, c2, hr, rfl, hd, hg⟩ | ⟨hr, rfl, hg⟩)
  case inr =>
    have P := hid (Bxr1.no (ibx_n2 H1.out hr) (wtr Q1.out.gr hg))
    clear hr hg
    go_wp2_with fail
    exact ⟨rfl, P.out⟩
  have H2 := hid hr
  have HNM : Hid (nm.size ≤ 1048576) := hid (by have := rsh_size hr; have := HSZ.out; omega)
  have R2 := hid (Q1.out.read hg hd)
  have d8 := R2.out.box.cells
  have f8 := R2.out.box.loose
  have Q2 := hid (R2.out.put (R2.out.box.s1 nm))
  clear hr hd hg Q1
  go_wp2_with fail
  clear d8 f8 R2
  refine (stmr_any k s c2 _ HSZ.out Q2.out.cur).mono ?_; rintro e w3 (⟨t, b, c3, hr, rfl, hd, hg⟩ | ⟨hr, rfl, hg⟩)
  case inr =>
    have P := hid (Bxr1.no (ibx_n3 H1.out H2.out hr) (wtr Q2.out.gr hg))
    clear hr hg
    go_wp2_with fail
    exact ⟨rfl, P.out⟩
  have H3 := hid hr
  have R3 := hid (Q2.out.read hg hd)
  have d8 := R3.out.box.cells
  have f8 := R3.out.box.loose
  have Q3a := R3.out.put (R3.out.box.s2 t)
  have Q3 := hid (Q3a.put (Q3a.box.s3 b))
  clear hr hd hg Q2 Q3a
  go_wp2_with fail
  clear d8 f8 R3
  refine (numr_any k s c3 _ HSZ.out Q3.out.cur).mono ?_; rintro e w4 (⟨nx, c4, hr, rfl, hd, hg⟩ | ⟨hr, rfl, hg⟩)
  case inr =>
    have P := hid (Bxr1.no (ibx_n4 H1.out H2.out H3.out hr) (wtr Q3.out.gr hg))
    clear hr hg
    go_wp2_with fail
    exact ⟨rfl, P.out⟩
  have H4 := hid hr
  have R4 := hid (Q3.out.read hg hd)
  have d8 := R4.out.box.cells
  have f8 := R4.out.box.loose
  have Q4 := hid (R4.out.put (R4.out.box.s4 nx))
  clear hr hd hg Q3
  go_wp2_with fail
  clear d8 f8 R4
  refine (lmails_any k s c4 _ HSZ.out Q4.out.cur).mono ?_; rintro e w5 (⟨L, Z, v, c5, hr, hZ, rfl, hd, ho, hg⟩ | ⟨hr, rfl, hg⟩)
  case inr =>
    have P := hid (Bxr1.no (ibx_n5 H1.out H2.out H3.out H4.out hr) (wtr Q4.out.gr hg))
    clear hr hg
    go_wp2_with fail
    exact ⟨rfl, P.out⟩
  have H5 := hid hr
  have hlen : Z.length = L.length := by rw [← hZ, List.length_map]
  have HZ := hid hZ
  have hsz4 := Q4.out.box.lt
  obtain ⟨ma, mc, hv⟩ := ho.shape
  subst hv
  rw [hlen] at ho
  rw [hlen]
  have HL : Hid (L.length ≤ 1048576 ∧ Sm L) := hid (by
    have h1 := hr
    unfold ims at h1
    cases h2 : rd s c4 with
    | none => rw [h2] at h1; cases h1
    | some p =>
      rw [h2] at h1
      simp only [Option.bind_some] at h1
      have h3 := rms_end h1
      have h4 := rms_right h1
      have h5 := rd_lt (n := p.1) (c := p.2) h2
      have h6 := HSZ.out
      refine ⟨?_, sm_right h4.2⟩
      by_cases h7 : 0 < p.1.toNat
      · have := h3.2.2 h7; omega
      · omega)
  have R5 := hid (Q4.out.read hg hd)
  have d8 := R5.out.box.cells
  have f8 := R5.out.box.loose
  have Q5 := hid (R5.out.put (R5.out.box.s5 (.slice ma L.length mc)))
  have O5 : Hid (OwZ (w5.setCell ⟨w.heap.size + 1, 5, none⟩ (.slice ma L.length mc)) _ (.slice ma L.length mc) Z) := hid (ho.grown (wst (wre w5 (some (w.heap.size + 1))) 5 (.slice ma L.length mc)) hsz4)
  have S5 : Hid (w.heap.size + 1 < (w4.setCell ⟨w.heap.size + 1, 4, none⟩ (.int .i64 nx)).heap.size) := hid hsz4
  have S45 : Hid ((w4.setCell ⟨w.heap.size + 1, 4, none⟩ (.int .i64 nx)).heap.size ≤ w5.heap.size) := hid hg.size
  obtain ⟨B5, hB5⟩ : ∃ n, (w4.setCell ⟨w.heap.size + 1, 4, none⟩ (.int .i64 nx)).heap.size = n := ⟨_, rfl⟩
  rw [hB5] at O5 S5 S45
  obtain ⟨mn, hmn⟩ : ∃ n, L.length = n := ⟨_, rfl⟩
  rw [hmn] at Q5 O5 HL
  rw [hmn]
  have HMN := hid hmn
  clear hr hd hg ho Q4 hZ hlen hsz4 hB5 hmn
  go_wp2_with fail
  clear d8 f8 R5
  refine (lints_any k s c5 _ HSZ.out Q5.out.cur).mono ?_; rintro e w6 (⟨G, gv, c6, hr, rfl, hd, ho, hg⟩ | ⟨hr, rfl, hg⟩)
  case inr =>
    have P := hid (Bxr1.no (ibx_n6 H1.out H2.out H3.out H4.out H5.out hr) (wtr Q5.out.gr hg))
    clear hr hg
    go_wp2_with fail
    exact ⟨rfl, P.out⟩
  have H6 := hid hr
  have hsz5 := Q5.out.box.lt
  have hk := Q5.out.far
  have hs5 := S5.out
  have O6a := O5.out.grown hg (by omega)
  have hrow : Hid (∀ j, (Value.slice ma mn mc).ownBlock = some j → j < (w5.setCell ⟨w.heap.size + 1, 5, none⟩ (.slice ma mn mc)).heap.size) := hid (fun j hj => (O5.out.row.lt j hj).2)
  have heach : Hid (∀ y ∈ Z, ∀ j, y.2.2.1.ownBlock = some j → j < (w5.setCell ⟨w.heap.size + 1, 5, none⟩ (.slice ma mn mc)).heap.size) := hid (fun y hy j hj => (World.ownsRow.lt (O5.out.each y hy) j hj).2)
  obtain ⟨ga, gc, hv, _⟩ := OwI.shape ho
  subst hv
  have HG : Hid (G.length ≤ 1048576) := hid (by
    have h1 := hr
    unfold iis at h1
    cases h2 : rd s c5 with
    | none => rw [h2] at h1; cases h1
    | some p =>
      rw [h2] at h1
      simp only [Option.bind_some] at h1
      have h3 := rds_lt h1
      have h4 := rds_len h1
      have h5 := rd_lt (n := p.1) (c := p.2) h2
      have h6 := HSZ.out
      by_cases h7 : 0 < p.1.toNat
      · have := h3.2 h7; omega
      · omega)
  have R6 := hid (Q5.out.read hg hd)
  have d8 := R6.out.box.cells
  have f8 := R6.out.box.loose
  have Q6 := hid (R6.out.put (R6.out.box.s6 (.slice ga G.length gc)))
  have O6 : Hid (OwZ (w6.setCell ⟨w.heap.size + 1, 6, none⟩ (.slice ga G.length gc)) B5 (.slice ma mn mc) Z) := hid (O6a.grown (wst (wre w6 (some (w.heap.size + 1))) 6 (.slice ga G.length gc)) hs5)
  have I6 : Hid (OwI (w6.setCell ⟨w.heap.size + 1, 6, none⟩ (.slice ga G.length gc)) (w5.setCell ⟨w.heap.size + 1, 5, none⟩ (.slice ma mn mc)).heap.size (.slice ga G.length gc) G) := hid (ownI_far ho (wst (wre w6 (some (w.heap.size + 1))) 6 (.slice ga G.length gc)) hsz5)
  have HFAR : Hid (∀ j, (Value.slice ga G.length gc).ownBlock = some j → (w5.setCell ⟨w.heap.size + 1, 5, none⟩ (.slice ma mn mc)).heap.size ≤ j) := hid (fun j hj => (World.ownsRow.lt ho j hj).1)
  have S6 : Hid (B5 ≤ (w5.setCell ⟨w.heap.size + 1, 5, none⟩ (.slice ma mn mc)).heap.size) := hid (by have h1 := S45.out; simpa [World.setCell] using h1)
  obtain ⟨B6, hB6⟩ : ∃ n, (w5.setCell ⟨w.heap.size + 1, 5, none⟩ (.slice ma mn mc)).heap.size = n := ⟨_, rfl⟩
  rw [hB6] at I6 HFAR hrow heach S6
  obtain ⟨gn, hgn⟩ : ∃ n, G.length = n := ⟨_, rfl⟩
  rw [hgn] at Q6 O6 I6 HG HFAR
  rw [hgn]
  have HGN := hid hgn
  clear hr hd hg ho Q5 hsz5 hk hs5 hB6 O6a hgn O5
  go_wp2_with fail
  clear d8 f8 R6
  obtain ⟨W6, hW6⟩ : ∃ W, w6.setCell ⟨w.heap.size + 1, 6, none⟩ (.slice ga gn gc) = W := ⟨_, rfl⟩
  rw [hW6] at Q6 O6 I6
  try rw [hW6]
  have e8 := Q6.out.box.cells
  clear hW6
  obtain ⟨q, hq⟩ : ∃ q, bxOk g nm t b nx L G = q := ⟨_, rfl⟩
  have CB := implBoxOk_any _ _ _ _ g nm t b nx ma mn mc ga gn gc L G W6 HNM.out HMN.out HL.out.1 HL.out.2 (HZ.out ▸ (O6.out.ms).2) HGN.out HG.out (OwI.is I6.out).2
  rw [hq] at CB
  have HRB : Hid (ibx s a = if q = true then some ((g, nm, t, b, nx, L, G), c6) else none) := hid (by rw [ibx_y H1.out H2.out H3.out H4.out H5.out H6.out, hq])
  refine CB.mono ?_; rintro e w7 ⟨rfl, hb7⟩
  have R7 := hid (Q6.out.later hb7)
  have O7 := hid (O6.out.later hb7)
  have I7 := hid (own_later I6.out hb7)
  have d8 := R7.out.box.cells
  have d4 := R7.out.zero.cells
  have f4 := R7.out.zero.loose
  clear hb7 CB e8 Q6 O6 I6
  cases q
  · have P := hid (Bxr1.no (by rw [HRB.out]; rfl) R7.out.gr)
    go_wp2_with fail
    refine (must_no _).mono ?_; rintro e w8 ⟨rfl, rfl⟩
    go_wp2_with fail
    exact ⟨rfl, P.out⟩
  · go_wp2_with fail
    refine (must_yes _).mono ?_; rintro e w8 ⟨rfl, rfl⟩
    go_wp2
    have hX := Bx.set7 R7.out.zero g nm t b nx (.slice ma mn mc) (.slice ga gn gc)
    unfold set7 at hX
    have d := hX.cells
    have hmn := HMN.out
    have hgn := HGN.out
    refine bodyPost_ret (v := .agg #[.int .i64 g, .string nm, .int .i64 t, .int .i64 b, .int .i64 nx, .slice ma mn mc, .slice ga gn gc]) (by simp [results, Tryz.results142, go_sem, d]) rfl ?_
    have hg7 := (wst (wst (wst (wst (wst (wst (wst (wre w8 (some w.heap.size)) 0 (.int .i64 g)) 1 (.string nm)) 2 (.int .i64 t)) 3 (.int .i64 b)) 4 (.int .i64 nx)) 5 (.slice ma mn mc)) 6 (.slice ga gn gc))
    have l1 := R7.out.far
    have l2 := S5.out
    have l3 := S6.out
    refine Or.inl ⟨g, nm, t, b, nx, L, G, c6, ma, mc, ga, gc, by rw [HRB.out]; rfl, by rw [hmn, hgn], ?_, ?_, ?_⟩
    · exact (hg7.block k (by have := R7.out.gr.size; omega) (by simp; omega)).trans R7.out.cur
    · rw [hmn, hgn]
      exact ⟨Z, HZ.out, (O7.out.grown hg7 (by omega)).base (by omega), own_base (ownI_far I7.out hg7 (by omega)) (by omega), fun j h1 h2 => by have h3 := HFAR.out j h1; have h4 := hrow.out j h2; omega, fun y hy j h1 h2 => by have h3 := HFAR.out j h1; have h4 := heach.out y hy j h2; omega⟩
    · exact wst_new (wst_new (wst_new (wst_new (wst_new (wst_new (wst_new R7.out.gr (Nat.le_refl _) 0 _) (Nat.le_refl _) 1 _) (Nat.le_refl _) 2 _) (Nat.le_refl _) 3 _) (Nat.le_refl _) 4 _) (Nat.le_refl _) 5 _) (Nat.le_refl _) 6 _
end Go.Proofs.YtlhofbnnonljaaaGreatDoor
namespace Go.Proofs.YtlhofbnnonljaaaGreatDoor
open Go.RowKit
/-- All that was there is as it was, but two blocks. -/
structure Kept2 (w w' : World) (kr km : Nat) : Prop where
  os : w'.os = w.os
  tape : w'.tape = w.tape
  output : w'.output = w.output
  size : w.heap.size ≤ w'.heap.size
  block : ∀ j, j < w.heap.size → j ≠ kr → j ≠ km → w'.heap[j]? = w.heap[j]?
theorem Kept2.of_grown {w w' : World} {kr km : Nat} (h : w.grownBy w' (some kr)) : Kept2 w w' kr km := ⟨h.os, h.tape, h.output, h.size, fun j hj h1 _ => h.block j hj (by simpa using h1)⟩
theorem Kept2.set {w w' : World} {kr km : Nat} (h : Kept2 w w' kr km) (i : Nat) (x : Value) : Kept2 w (w'.setCell ⟨km, i, none⟩ x) kr km :=
  ⟨h.os, h.tape, h.output, by simpa [World.setCell] using h.size, fun j hj h1 h2 => (Below.heap_setCell w' ⟨km, i, none⟩ x j h2).trans (h.block j hj h1 h2)⟩
theorem Kept2.new {w w' : World} {kr km : Nat} (h : Kept2 w w' kr km) {j : Nat} (hj : w.heap.size ≤ j) (i : Nat) (x : Value) : Kept2 w (w'.setCell ⟨j, i, none⟩ x) kr km :=
  ⟨h.os, h.tape, h.output, by simpa [World.setCell] using h.size, fun k hk h1 h2 => (Below.heap_setCell w' ⟨j, i, none⟩ x k (by show k ≠ j; omega)).trans (h.block k hk h1 h2)⟩
theorem Kept2.later {w w' w'' : World} {kr km : Nat} (h : Kept2 w w' kr km) (hb : Below w'.heap.size w' w'') : Kept2 w w'' kr km :=
  ⟨hb.os.trans h.os, hb.tape.trans h.tape, hb.output.trans h.output, Nat.le_trans h.size hb.size, fun k hk h1 h2 => (hb.block k (Nat.lt_of_lt_of_le hk h.size)).trans (h.block k hk h1 h2)⟩
theorem Kept2.push {w w' : World} {o : Obj} {kr km : Nat} (h : Kept2 (w.alloc o) w' kr km) : Kept2 w w' kr km := by
  have hb := bpush (bre w) o
  exact ⟨h.os.trans hb.os, h.tape.trans hb.tape, h.output.trans hb.output, Nat.le_trans hb.size h.size, fun k hk h1 h2 => (h.block k (Nat.lt_of_lt_of_le hk hb.size) h1 h2).trans (hb.block k hk)⟩
theorem Kept2.below {w w' : World} {B kr km : Nat} (h : Kept2 w w' kr km) (hr : B ≤ kr) (hm : B ≤ km) (hB : B ≤ w.heap.size) : Below B w w' :=
  ⟨h.os, h.tape, h.output, h.size, fun j hj => h.block j (by omega) (by omega) (by omega)⟩
theorem alloc_size (w : World) (o : Obj) : (w.alloc o).heap.size = w.heap.size + 1 := by simp
/-- Block k holds a function. -/
def Fg (W : World) (k ty f : Nat) : Prop := W.heap[k]? = some (.cells #[.func (.func f) #[] #[]] ty (0, 0))
theorem Fg.lt {W : World} {k ty f : Nat} (h : Fg W k ty f) : k < W.heap.size := (Array.getElem?_eq_some_iff.1 h).1
theorem Fg.later {W W' : World} {k ty f : Nat} (h : Fg W k ty f) (hb : Below W.heap.size W W') : Fg W' k ty f := (hb.block k h.lt).trans h
theorem Fg.cell {W : World} {k ty f : Nat} (h : Fg W k ty f) : W.cell? ⟨k, 0, none⟩ = some (.func (.func f) #[] #[]) := cell_of_row W k 0 _ _ _ h
end Go.Proofs.YtlhofbnnonljaaaGreatDoor
namespace Go.Proofs.YtlhofbnnonljaaaGreatDoor
open Go.RowKit Go.ChangeMaps
def zs (n : Nat) : List Value := List.replicate n (Value.int .u8 0)
theorem rg2_end {s : ByteArray} {a x y c : Int} (h : rg2 s a = some ((x, y), c)) : (bl s).drop a.toNat = bl (vi x) ++ bl (vi y) ++ (bl s).drop c.toNat ∧ 0 ≤ a ∧ a < c ∧ c ≤ s.size := by
  unfold rg2 at h
  cases h1 : rd s a with
  | none => rw [h1] at h; cases h
  | some p =>
    obtain ⟨x', c1⟩ := p
    rw [h1] at h
    simp only [Option.bind_some] at h
    cases h2 : rd s c1 with
    | none => rw [h2] at h; cases h
    | some q =>
      obtain ⟨y', c2⟩ := q
      rw [h2] at h
      simp only [Option.map_some, Option.some.injEq, Prod.mk.injEq] at h
      obtain ⟨⟨rfl, rfl⟩, rfl⟩ := h
      have h3 := rd_lt h1
      have h4 := rd_lt h2
      refine ⟨?_, h3.1, by omega, h4.2.2.1⟩
      rw [rd_stood h1, rd_stood h2, bl_vi, bl_vi, List.append_assoc]
theorem ims_end {s : ByteArray} {a c : Int} {L : List M4} (h : ims s a = some (L, c)) : (bl s).drop a.toNat = bl (vi L.length) ++ bl (mts L) ++ (bl s).drop c.toNat ∧ 0 ≤ a ∧ a < c ∧ c ≤ s.size := by
  unfold ims at h
  cases h1 : rd s a with
  | none => rw [h1] at h; cases h
  | some p =>
    obtain ⟨n, c1⟩ := p
    rw [h1] at h
    simp only [Option.bind_some] at h
    have h3 := rd_lt h1
    have h4 := rms_end h
    have h5 := (rms_right h).1
    have h6 : (L.length : Int) = n := by omega
    refine ⟨?_, h3.1, by omega, ?_⟩
    · rw [rd_stood h1, h4.1, h6, bl_vi, List.append_assoc]
    · by_cases h7 : 0 < n.toNat
      · exact (h4.2.2 h7).2
      · have h8 : n.toNat = 0 := by omega
        rw [h8] at h
        simp only [rms, Option.some.injEq, Prod.mk.injEq] at h
        omega
theorem iis_end {s : ByteArray} {a c : Int} {G : List Int} (h : iis s a = some (G, c)) : (bl s).drop a.toNat = bl (vi G.length) ++ bl (vis G) ++ (bl s).drop c.toNat ∧ 0 ≤ a ∧ a < c ∧ c ≤ s.size := by
  unfold iis at h
  cases h1 : rd s a with
  | none => rw [h1] at h; cases h
  | some p =>
    obtain ⟨n, c1⟩ := p
    rw [h1] at h
    simp only [Option.bind_some] at h
    have h3 := rd_lt h1
    have h4 := rds_lt h
    have h5 := rds_len h
    have h6 : (G.length : Int) = n := by omega
    refine ⟨?_, h3.1, by omega, ?_⟩
    · rw [rd_stood h1, rds_stood _ h, h6, bl_vi, vil_vis, List.append_assoc]
    · by_cases h7 : 0 < n.toNat
      · exact (h4.2 h7).2
      · have h8 : n.toNat = 0 := by omega
        rw [h8] at h
        simp only [rds, Option.some.injEq, Prod.mk.injEq] at h
        omega
/-- A box that is read: all its bytes stand there, and where it ends. -/
theorem ibx_end {s : ByteArray} {a c : Int} {x : X7} (h : ibx s a = some (x, c)) : bxx x = true ∧ (bl s).drop a.toNat = bl (btx x.1 x.2.1 x.2.2.1 x.2.2.2.1 x.2.2.2.2.1 x.2.2.2.2.2.1 x.2.2.2.2.2.2) ++ (bl s).drop c.toNat ∧ 0 ≤ a ∧ a < c ∧ c ≤ s.size := by
  have hr := rbx_right ((ibx_rbx s a).symm.trans h)
  unfold ibx at h
  cases h1 : rd s a with
  | none => rw [h1] at h; cases h
  | some p1 =>
  obtain ⟨g, c1⟩ := p1
  rw [h1] at h; simp only [Option.bind_some] at h
  cases h2 : rsh s c1 with
  | none => rw [h2] at h; cases h
  | some p2 =>
  obtain ⟨nm, c2⟩ := p2
  rw [h2] at h; simp only [Option.bind_some] at h
  cases h3 : rg2 s c2 with
  | none => rw [h3] at h; cases h
  | some p3 =>
  obtain ⟨⟨t, b⟩, c3⟩ := p3
  rw [h3] at h; simp only [Option.bind_some] at h
  cases h4 : rd s c3 with
  | none => rw [h4] at h; cases h
  | some p4 =>
  obtain ⟨nx, c4⟩ := p4
  rw [h4] at h; simp only [Option.bind_some] at h
  cases h5 : ims s c4 with
  | none => rw [h5] at h; cases h
  | some p5 =>
  obtain ⟨L, c5⟩ := p5
  rw [h5] at h; simp only [Option.bind_some] at h
  cases h6 : iis s c5 with
  | none => rw [h6] at h; cases h
  | some p6 =>
  obtain ⟨G, c6⟩ := p6
  rw [h6] at h; simp only [Option.bind_some] at h
  split at h
  · simp only [Option.some.injEq, Prod.mk.injEq] at h
    obtain ⟨rfl, rfl⟩ := h
    have k1 := rd_lt h1
    have k2 := rsh_lt h2
    have k3 := rg2_end h3
    have k4 := rd_lt h4
    have k5 := ims_end h5
    have k6 := iis_end h6
    refine ⟨hr, ?_, k1.1, by omega, k6.2.2.2⟩
    rw [rd_stood h1, (rsh_stood h2).1, k3.1, rd_stood h4, k5.1, k6.1]
    simp only [btx, bth, bl_app, bl_vi, Int.toNat_natCast, List.append_assoc]
  · cases h
theorem rbs_end {s : ByteArray} {a : Int} : ∀ {k : Nat} {S : List X7} {c : Int}, rbs s a k = some (S, c) → (bl s).drop a.toNat = bl (bts S) ++ (bl s).drop c.toNat ∧ a + k ≤ c ∧ (0 < k → 0 ≤ a ∧ c ≤ s.size) := by
  intro k
  induction k with
  | zero =>
    intro S c h
    simp only [rbs, Option.some.injEq, Prod.mk.injEq] at h
    obtain ⟨rfl, rfl⟩ := h
    exact ⟨by simp [bts, bl], by omega, fun h => by omega⟩
  | succ k ih =>
    intro S c h
    cases hk : rbs s a k with
    | none => rw [show rbs s a (k + 1) = (rbs s a k).bind _ from rfl, hk] at h; cases h
    | some p =>
      obtain ⟨S0, c0⟩ := p
      obtain ⟨h1, h2, h3⟩ := ih hk
      cases hr : rbx s c0 with
      | none => rw [rbs_stop hk hr] at h; cases h
      | some q =>
        obtain ⟨x, c'⟩ := q
        rw [rbs_next hk hr] at h
        simp only [Option.some.injEq, Prod.mk.injEq] at h
        obtain ⟨rfl, rfl⟩ := h
        obtain ⟨-, h4, h5, h6, h7⟩ := ibx_end ((ibx_rbx s c0).trans hr)
        refine ⟨?_, by omega, fun _ => ⟨?_, h7⟩⟩
        · rw [h1, h4, bts_snoc, bl_app]
          simp only [List.append_assoc]
        · cases k with
          | zero =>
            simp only [rbs, Option.some.injEq, Prod.mk.injEq] at hk
            omega
          | succ k => exact (h3 (by omega)).1
/-- Boxes, as many as are told; a store, as the program reads it. -/
def ibs (s : ByteArray) (b : Int) : Option (List X7 × Int) := (rd s b).bind fun p => rbs s p.2 p.1.toNat
def ist (s : ByteArray) (a : Int) : Option ((Int × Int × List X7 × List Int) × Int) :=
  (rd s a).bind fun p1 => (rd s p1.2).bind fun p2 => (ibs s p2.2).bind fun p3 => (iis s p3.2).bind fun p4 =>
    if sOk p1.1 p2.1 p3.1 p4.1 = true then some ((p1.1, p2.1, p3.1, p4.1), p4.2) else none
theorem ibs_end {s : ByteArray} {a c : Int} {S : List X7} (h : ibs s a = some (S, c)) : (bl s).drop a.toNat = bl (vi S.length) ++ bl (bts S) ++ (bl s).drop c.toNat ∧ 0 ≤ a ∧ a < c ∧ c ≤ s.size := by
  unfold ibs at h
  cases h1 : rd s a with
  | none => rw [h1] at h; cases h
  | some p =>
    obtain ⟨n, c1⟩ := p
    rw [h1] at h
    simp only [Option.bind_some] at h
    have h3 := rd_lt h1
    have h4 := rbs_end h
    have h5 := (rbs_right h).1
    have h6 : (S.length : Int) = n := by omega
    refine ⟨?_, h3.1, by omega, ?_⟩
    · rw [rd_stood h1, h4.1, h6, bl_vi, List.append_assoc]
    · by_cases h7 : 0 < n.toNat
      · exact (h4.2.2 h7).2
      · have h8 : n.toNat = 0 := by omega
        rw [h8] at h
        simp only [rbs, Option.some.injEq, Prod.mk.injEq] at h
        omega
theorem ist_end {s : ByteArray} {a : Int} {y tm : Int} {S : List X7} {G : List Int} {c : Int} (h : ist s a = some ((y, tm, S, G), c)) : sOk y tm S G = true ∧ (bl s).drop a.toNat = bl (stx y tm S G) ++ (bl s).drop c.toNat ∧ 0 ≤ c ∧ c ≤ s.size := by
  unfold ist at h
  cases h1 : rd s a with
  | none => rw [h1] at h; cases h
  | some p1 =>
  obtain ⟨y', c1⟩ := p1
  rw [h1] at h; simp only [Option.bind_some] at h
  cases h2 : rd s c1 with
  | none => rw [h2] at h; cases h
  | some p2 =>
  obtain ⟨tm', c2⟩ := p2
  rw [h2] at h; simp only [Option.bind_some] at h
  cases h3 : ibs s c2 with
  | none => rw [h3] at h; cases h
  | some p3 =>
  obtain ⟨S', c3⟩ := p3
  rw [h3] at h; simp only [Option.bind_some] at h
  cases h4 : iis s c3 with
  | none => rw [h4] at h; cases h
  | some p4 =>
  obtain ⟨G', c4⟩ := p4
  rw [h4] at h; simp only [Option.bind_some] at h
  split at h
  · rename_i hk
    simp only [Option.some.injEq, Prod.mk.injEq] at h
    obtain ⟨⟨rfl, rfl, rfl, rfl⟩, rfl⟩ := h
    have k3 := ibs_end h3
    have k4 := iis_end h4
    refine ⟨hk, ?_, by omega, k4.2.2.2⟩
    rw [rd_stood h1, rd_stood h2, k3.1, k4.1]
    simp only [stx, bl_app, bl_vi, Int.toNat_natCast, List.append_assoc]
  · cases h
theorem boxes_either {α : Type} {s : ByteArray} {b n : Int} {F : List X7 × Int → Option α} (hF : ∀ S c, 5 < S.length → F (S, c) = none) : (rbs s b n.toNat).bind F = (rbs s b (min n 6).toNat).bind F := by
  by_cases hn : n ≤ 6
  · rw [show min n 6 = n by omega]
  · have h1 : ((rbs s b (min n 6).toNat).bind F) = none := by
      cases h2 : rbs s b (min n 6).toNat with
      | none => rfl
      | some q =>
        obtain ⟨S, d⟩ := q
        have h3 := (rbs_right h2).1
        exact hF S d (by omega)
    have h4 : ((rbs s b n.toNat).bind F) = none := by
      cases h2 : rbs s b n.toNat with
      | none => rfl
      | some q =>
        obtain ⟨S, d⟩ := q
        have h3 := (rbs_right h2).1
        exact hF S d (by omega)
    rw [h1, h4]
theorem tail4_len (u : ByteArray) : (tail4 u).size = 4 := by unfold tail4; rfl
theorem uns_whole {s u : ByteArray} (h : uns s = (u, true)) : u ++ tail4 u = s ∧ u.size ≤ 20000 := by
  have hz := uns_size s
  rw [h] at hz
  unfold uns at h
  split at h
  · rename_i hc
    simp only [Prod.mk.injEq, and_true] at h
    subst h
    refine ⟨?_, hz⟩
    rw [hc.2.2]
    apply ByteArray.ext
    rw [ByteArray.data_append]
    simp only [ByteArray.data_extract]
    rw [Array.extract_append_extract]
    simp only [Nat.min_eq_left (Nat.zero_le _), Nat.max_eq_right (Nat.sub_le _ _)]
    exact Array.extract_size
  · simp at h
/-- The whole text is read, or it is not the text of what was read. -/
theorem seal_same {u v : ByteArray} : (v ++ tail4 v = u ++ tail4 u) ↔ v = u := by
  constructor
  · intro h
    have h1 := congrArg bl h
    rw [bl_app, bl_app] at h1
    have h2 := congrArg ByteArray.size h
    rw [ByteArray.size_append, ByteArray.size_append, tail4_len, tail4_len] at h2
    exact bl_inj (List.append_inj h1 (by rw [bl_len, bl_len]; omega)).1
  · intro h; rw [h]
def irs (s : ByteArray) : Option (Int × Int × List X7 × List Int) := if (uns s).2 = true then (ist (uns s).1 0).bind fun p => if p.2 = (uns s).1.size then some p.1 else none else none
theorem irs_rst (s : ByteArray) : irs s = rst s := by
  unfold irs rst
  cases hu : uns s with
  | mk u ok =>
  cases ok
  · simp [rt3, rt2, rt1]
  · obtain ⟨hs, hz⟩ := uns_whole hu
    simp only [if_true]
    unfold rt3 rt2 rt1 ist
    simp only [Option.bind_some]
    cases h1 : rd u 0 with
    | none => rfl
    | some p1 =>
    simp only [Option.bind_some, Option.map_some]
    cases h2 : rd u p1.2 with
    | none => rfl
    | some p2 =>
    simp only [Option.bind_some, Option.map_some]
    unfold ibs
    cases h3 : rd u p2.2 with
    | none => rfl
    | some p3 =>
    simp only [Option.bind_some, Option.map_some]
    rw [Option.bind_assoc]
    simp only [Option.bind_assoc]
    have hg : ∀ (S : List X7) (c : Int), ((iis u c).bind fun x => (if sOk p1.1 p2.1 S x.1 = true then some ((p1.1, p2.1, S, x.1), x.2) else none).bind fun p => if p.2 = (u.size : Int) then some p.1 else none) = ((rints u c 20).bind fun x => (if sOk p1.1 p2.1 S x.1 = true then some ((p1.1, p2.1, S, x.1), x.2) else none).bind fun p => if p.2 = (u.size : Int) then some p.1 else none) := fun S c =>
      ints_either (by omega) (fun G d hl => by
        rw [if_neg (fun hb => by
          obtain ⟨-, -, -, -, h7, -⟩ := st_txt hb
          exact absurd h7 (by show ¬ G.length ≤ 20; omega))]
        rfl)
    simp only [hg]
    rw [boxes_either (n := p3.1) (fun S c hl => by
      simp only []
      cases h8 : rints u c 20 with
      | none => rfl
      | some q =>
        simp only [Option.bind_some]
        rw [if_neg (fun hb => by
          obtain ⟨-, -, h7, -⟩ := st_txt hb
          exact absurd h7 (by show ¬ S.length ≤ 5; omega))]
        rfl)]
    cases h4 : rbs u p3.2 (min p3.1 6).toNat with
    | none => rfl
    | some p4 =>
    simp only [Option.bind_some]
    cases h5 : rints u p4.2 20 with
    | none => rfl
    | some p5 =>
    simp only [Option.bind_some]
    by_cases hk : sOk p1.1 p2.1 p4.1 p5.1 = true
    · rw [if_pos hk]
      simp only [Option.bind_some]
      obtain ⟨-, -, k3, -, k5, -⟩ := st_txt hk
      have hn : p3.1 ≤ 6 := by
        have := (rbs_right h4).1
        have := rd_lt (n := p3.1) (c := p3.2) h3
        omega
      have h4' : ibs u p2.2 = some (p4.1, p4.2) := by
        unfold ibs
        rw [h3]
        simp only [Option.bind_some]
        rw [show min p3.1 6 = p3.1 by omega] at h4
        exact h4
      have h5' : iis u p4.2 = some (p5.1, p5.2) := by
        unfold rints at h5
        unfold iis
        cases h6 : rd u p4.2 with
        | none => rw [h6] at h5; cases h5
        | some p6 =>
          rw [h6] at h5
          simp only [Option.bind_some] at h5 ⊢
          have h7 := rds_len h5
          have h8 := rd_lt (n := p6.1) (c := p6.2) h6
          rw [show min p6.1 (20 + 1) = p6.1 by omega] at h5
          exact h5
      have hi : ist u 0 = some ((p1.1, p2.1, p4.1, p5.1), p5.2) := by
        unfold ist
        rw [h1]; simp only [Option.bind_some]
        rw [h2]; simp only [Option.bind_some]
        rw [h4']; simp only [Option.bind_some]
        rw [h5']; simp only [Option.bind_some]
        exact if_pos hk
      obtain ⟨-, e1, e2, e3⟩ := ist_end hi
      have e4 : (p5.2 = (u.size : Int)) ↔ stx p1.1 p2.1 p4.1 p5.1 = u := by
        have e5 := congrArg List.length e1
        rw [List.length_append, List.length_drop, List.length_drop, bl_len, bl_len] at e5
        simp only [Int.toNat_zero, List.drop_zero] at e1
        constructor
        · intro h6
          rw [List.drop_of_length_le (by rw [bl_len]; omega), List.append_nil] at e1
          exact (bl_inj e1).symm
        · intro h6
          rw [h6] at e5
          simp only [Int.toNat_zero] at e5
          omega
      by_cases h9 : p5.2 = (u.size : Int)
      · rw [if_pos h9, if_pos ⟨hk, by rw [e4.1 h9]; exact hs⟩]
      · rw [if_neg h9, if_neg (fun h => h9 (e4.2 (seal_same.1 (h.2.trans hs.symm))))]
    · rw [if_neg hk, if_neg (fun h => hk h.1)]
      rfl
def Lbx1 (w : World) (k : Nat) (s : ByteArray) (b : Int) (e : Ending) (w' : World) : Prop :=
  (∃ S Y v c, ibs s b = some (S, c) ∧ Y.map yd = S ∧ e = .returned v ∧ Dg w' k s c ∧ OwS w' w.heap.size v Y ∧ w.grownBy w' (some k)) ∨ (ibs s b = none ∧ e = .panicked notHere ∧ w.grownBy w' (some k))
theorem ibs_no {s : ByteArray} {b : Int} (h : rd s b = none) : ibs s b = none := by unfold ibs; rw [h]; rfl
theorem ibs_is {s : ByteArray} {b n c : Int} (h : rd s b = some (n, c)) : ibs s b = rbs s c n.toNat := by unfold ibs; rw [h]; rfl
theorem rbs_cut {s : ByteArray} {a : Int} {m n : Nat} (h : rbs s a n = none) (hm : n ≤ m) : rbs s a m = none := by
  obtain ⟨j, rfl⟩ : ∃ j, m = n + j := ⟨m - n, by omega⟩
  exact rbs_dead h j
set_option maxHeartbeats 3200000 in
set_option maxRecDepth 100000 in
theorem lboxes_any (k : Nat) (s : ByteArray) (b0 : Int) (w : World) (hs : s.size ≤ 1048576) (hc : Dg w k s b0) :
    Calls Tryz.prog 141 #[.pointer (some ⟨k, 0, none⟩), .func (.func 142) #[] #[]] w fun e w' => Lbx1 w k s b0 e w' := by
  have HK := hid hc.lt
  have HC := hid hc
  have HSZ := hid hs
  clear hc hs
  go_enter Tryz.func141, Tryz.ntmps141
  go_wp2_with fail
  refine (numr_any k s b0 _ HSZ.out HC.out).mono ?_; rintro e w1 (⟨n, b1, hr, rfl, hd, hg⟩ | ⟨hr, rfl, hg⟩)
  case inr =>
    have H := hid (ibs_no hr)
    have G := hid hg
    clear hr hg
    go_wp2_with fail
    exact ⟨rfl, Or.inr ⟨H.out, rfl, G.out⟩⟩
  have HR := hid hr
  have HN := hid (rd_lt hr)
  have C1 := hid hd
  have G1 := hid hg
  have hnn : 0 ≤ n ∧ n ≤ 1000000000 := ⟨HN.out.2.2.2.1, HN.out.2.2.2.2⟩
  clear hr hd hg HC
  go_wp2
  obtain ⟨mx, hmx⟩ : ∃ m : Nat, (m : Int) = n := ⟨n.toNat, by omega⟩
  have HMX : Hid (mx = n.toNat) := hid (by omega)
  go_loopw [5, 8] (fun ov iv wr => ∃ (i : Nat) (Z : List Y9) (b2 : Int), i ≤ mx ∧ iv = .int .i64 (i : Int) ∧ Hid (Z.length = i) ∧ OwS wr w.heap.size ov Z ∧ Dg wr k s b2 ∧ Hid (rbs s b1 Z.length = some (Z.map yd, b2)) ∧ w.grownBy wr (some k)) (fun _ iv _ => mx - (intOf iv).toNat)
  case atStart => exact ⟨0, [], b1, Nat.zero_le _, rfl, rfl, ownS_nil _ _, C1.out, rfl, G1.out⟩
  case round =>
    obtain ⟨i, Z, b2, hi, rfl, HL, ho, hc, HQ, hg⟩ := hrel
    have XO := hid ho
    have XC := hid hc
    have XG := hid hg
    clear ho hc hg C1 G1
    by_cases hlt : (i : Int) < n
    · go_wp2_with fail
      refine (rbox_any k s b2 _ HSZ.out XC.out).mono ?_; rintro e w3 (⟨g, nm, t, b, nx, L, G, b3, ma, mc, ga, gc, hr3, rfl, hd3, ho3, hg3⟩ | ⟨hr3, rfl, hg3⟩)
      case inr =>
        have H : Hid (ibs s b0 = none) := hid (by
          rw [ibs_is HR.out, ← HMX.out]
          exact rbs_cut (rbs_stop HQ.out ((ibx_rbx s b2).symm.trans hr3)) (by rw [HL.out]; omega))
        have G := hid (wtr XG.out hg3)
        clear hr3 hg3
        go_wp2_with fail
        exact ⟨rfl, Or.inr ⟨H.out, rfl, G.out⟩⟩
      have H3 := hid ((ibx_rbx s b2).symm.trans hr3)
      have C3 := hid hd3
      have G3 := hid (wtr XG.out hg3)
      have hk := HK.out
      have hs0 := XG.out.size
      have hs4 := hg3.size
      have Z3 := hid (XO.out.grown hg3 hk)
      have HMV : Hid (∀ j, u5.ownBlock = some j → j < wr.heap.size ∨ w3.heap.size ≤ j) := hid (fun j hj => .inl (XO.out.row.lt j hj).2)
      have HEV : Hid (∀ y ∈ Z, y.hi ≤ wr.heap.size ∨ w3.heap.size ≤ y.lo) := hid (fun y hy => .inl (XO.out.each y hy).1.top)
      have O3 := hid ho3.owx
      have hs3 := G3.out.size
      have HLE : Hid (Z.length ≤ 1048576) := hid (by have h1 := rbs_end HQ.out; have h2 := HSZ.out; have h3 := HN.out; have h4 := ibx_end hr3; omega)
      obtain ⟨mn, hmn⟩ : ∃ n, L.length = n := ⟨_, rfl⟩
      obtain ⟨gn, hgn⟩ : ∃ n, G.length = n := ⟨_, rfl⟩
      rw [hmn, hgn] at O3
      rw [hmn, hgn]
      clear hr3 hd3 hg3 ho3 hk hmn hgn hs4
      go_wp2_with (at_builtin; refine wpList_append_bx rfl (.tmp 10) (.tmp 14) rfl w.heap.size _ Z (by rfl) ⟨g, nm, t, b, nx, .slice ma mn mc, .slice ga gn gc, L, G, wr.heap.size, w3.heap.size⟩ Z3.out O3.out hs0 HMV.out HEV.out (by rfl) HLE.out hs3 ?_; intro v4 w4 hown4 hb4 _ _; have HO4 := hid hown4; have HB4 := hid hb4; clear hown4 hb4)
      go_roundw
      case rel => exact ⟨i + 1, Z ++ [(⟨g, nm, t, b, nx, .slice ma mn mc, .slice ga gn gc, L, G, wr.heap.size, w3.heap.size⟩ : Y9)], b3, by omega, by go_num, hid (by show (Z ++ [_]).length = i + 1; rw [List.length_append, HL.out]; rfl), HO4.out, (HB4.out.block k HK.out).trans C3.out, hid (by
        have h2 := rbs_next HQ.out H3.out
        rw [List.length_append, List.map_append]
        exact h2), grown_under G3.out HB4.out (Nat.le_refl _)⟩
      case measure => simp [intOf]; omega
    · have HF : Hid (ibs s b0 = some (Z.map yd, b2)) := hid (by rw [ibs_is HR.out, ← HMX.out, show mx = Z.length by rw [HL.out]; omega]; exact HQ.out)
      go_wp2
      go_ret
      exact Or.inl ⟨Z.map yd, Z, _, b2, HF.out, rfl, rfl, XC.out, XO.out, XG.out⟩
theorem OwMp.drop {W : World} {B b c : Nat} {E1 : List En} {e0 : En} {E2 : List En} (h : OwMp W B b (E1 ++ e0 :: E2) c) : OwMp (setBlock W b (.map ((E1 ++ E2).map ent).toArray c)) B b (E1 ++ E2) c := by
  have hsub : (E1 ++ E2).Sublist (E1 ++ e0 :: E2) := (List.Sublist.refl E1).append (List.sublist_cons_self ..)
  refine ⟨heap_setBlock_same h.lies _, h.base, fun e he => h.old e (hsub.subset he), h.births.sublist (hsub.map _), h.keys.sublist (hsub.map _), fun e he => ?_, List.Pairwise.sublist hsub h.apart⟩
  have ho := h.each e (hsub.subset he)
  exact World.ownsRow.kept ho (setBlock_grown h.lies _) (Or.inr (h.off ho))
end Go.Proofs.YtlhofbnnonljaaaGreatDoor
namespace Go.Proofs.YtlhofbnnonljaaaGreatDoor
open Go.RowKit Go.ChangeMaps
end Go.Proofs.YtlhofbnnonljaaaGreatDoor
namespace Go.Proofs.YtlhofbnnonljaaaGreatDoor
open Go.RowKit Go.ChangeMaps
/-- The cells of an owned row of mails. -/
theorem OwZ.cell {W : World} {B g n c : Nat} {Z : List Z5} (h : OwZ W B (.slice (some ⟨g, 0, none⟩) n c) Z) (j : Nat) (hj : j < Z.length * 4) : W.cell? ⟨g, j, none⟩ = (zc Z)[j]? := by
  obtain rfl := h.ms.1
  exact h.row.cellAt j hj
end Go.Proofs.YtlhofbnnonljaaaGreatDoor
namespace Go.Proofs.YtlhofbnnonljaaaGreatDoor
open Go.RowKit Go.ChangeMaps
end Go.Proofs.YtlhofbnnonljaaaGreatDoor
namespace Go.Proofs.YtlhofbnnonljaaaGreatDoor
open Go.RowKit Go.ChangeMaps
theorem atName_any (x : X7) (mv gv : Value) (z : ByteArray) (kb : Nat) (w : World) (hkb : kb < w.heap.size) (hc : w.cell? ⟨kb, 0, none⟩ = some (.string z)) :
    Calls Tryz.prog 121 #[.agg #[.int .i64 x.1, .string x.2.1, .int .i64 x.2.2.1, .int .i64 x.2.2.2.1, .int .i64 x.2.2.2.2.1, mv, gv], .pointer (some ⟨kb, 0, none⟩)] w fun e w' => e = .returned (.bool (isN z x)) ∧ Below w.heap.size w w' := by
  obtain ⟨g, nm, t, b, nx, L, G⟩ := x
  dsimp only
  have A0 := (Bx.new w 77 g nm t b nx mv gv).cells
  have c1 := ((bpush (bre w) (.cells #[.int .i64 g, .string nm, .int .i64 t, .int .i64 b, .int .i64 nx, mv, gv] 77)).cell (p := ⟨kb, 0, none⟩) hkb).trans hc
  have HE : Hid (isN z (g, nm, t, b, nx, L, G) = (nm.toList == z.toList)) := by
    show _ = _
    by_cases h : nm = z
    · subst h; simp [isN]
    · rw [bytes_ne h]; simp [isN, h]
  clear hc
  go_enter Tryz.func121, Tryz.ntmps121
  go_wp2
  go_ret
  exact ⟨by rw [HE.out]; rfl, bpush (bre _) _⟩
set_option maxHeartbeats 800000 in
set_option maxRecDepth 100000 in
theorem idxFunc_any (F : Nat) (p : X7 → Bool) (lo hi : Nat) (ba : Option Addr) (bn bc : Nat) (S : List X7) (kb : Nat) (w : World) (hl : S.length = bn) (hn : bn ≤ 1048576) (hm : Bs lo hi w ba S) (hE : ∀ args W, (callFunc F args).run Tryz.prog W = .ok (.enter F args) W)
    (hF : ∀ (x : X7) (mv gv : Value) (W : World), Below w.heap.size w W → Calls Tryz.prog F #[.agg #[.int .i64 x.1, .string x.2.1, .int .i64 x.2.2.1, .int .i64 x.2.2.2.1, .int .i64 x.2.2.2.2.1, mv, gv], .pointer (some ⟨kb, 0, none⟩)] W fun e W' => e = .returned (.bool (p x)) ∧ Below W.heap.size W W') :
    Calls Tryz.prog 120 #[.slice ba bn bc, .func (.func F) #[] #[.pointer (some ⟨kb, 0, none⟩)]] w fun e w' => e = .returned (.int .i64 (fidx p S 0)) ∧ Below w.heap.size w w' := by
  have HR := hid hm
  have HL := hid hl
  have HF := hid hF
  clear hm hl hF
  go_enter Tryz.func120, Tryz.ntmps120
  go_wp2
  go_loopw [8] (fun iv wr => ∃ (i : Nat), i ≤ bn ∧ iv = .int .i64 (i : Int) ∧ Hid (fidx p S 0 = fidx p (S.drop i) i) ∧ Below w.heap.size w wr) (fun iv _ => bn - (intOf iv).toNat)
  case atStart => exact ⟨0, Nat.zero_le _, rfl, rfl, bre _⟩
  case round =>
    obtain ⟨i, hi, rfl, HQ, hb⟩ := hrel
    by_cases hlt : i < bn
    · have hil : i < S.length := by rw [HL.out]; exact hlt
      obtain ⟨k, o, ma, mc, ga, gc, rfl, hk, d, _⟩ := (HR.out.later hb).at hil
      obtain ⟨q, hq⟩ : ∃ q, S[i] = q := ⟨_, rfl⟩
      rw [hq] at d
      have HP := hid hq
      have HB := hid hb
      have HC := hid (HF.out q)
      obtain ⟨r, hr⟩ : ∃ r, p q = r := ⟨_, rfl⟩
      rw [hr] at HC
      have HRR := hid hr
      obtain ⟨g1, nm1, t1, b1, nx1, L1, G1⟩ := q
      dsimp only at d HC
      obtain ⟨m1, hm1⟩ : ∃ m1, L1.length = m1 := ⟨_, rfl⟩
      obtain ⟨n1, hn1⟩ : ∃ n1, G1.length = n1 := ⟨_, rfl⟩
      rw [hm1, hn1] at d
      unfold C7 at d
      have hI : (0 : Int) ≤ (i : Int) ∧ (i : Int) < (bn : Int) := by omega
      clear hq hb hr hm1 hn1
      go_wp2_with fail
      refine (HC.out _ _ _ HB.out).mono ?_; rintro e w1 ⟨rfl, hb1⟩
      have HB1 := hid (btr HB.out hb1)
      clear hb1 d
      cases r
      · have HE : Hid (fidx p S 0 = fidx p (S.drop (i + 1)) (i + 1)) := by show _ = _; rw [HQ.out, fidx_on hil (by rw [HP.out]; exact HRR.out)]
        go_wp2
        go_roundw
        case rel => exact ⟨i + 1, by omega, by go_num, HE, HB1.out⟩
        case measure => simp [intOf]; omega
      · have HE : Hid (fidx p S 0 = i) := by show _ = _; rw [HQ.out, fidx_here hil (by rw [HP.out]; exact HRR.out)]
        go_wp2
        go_ret
        exact ⟨by rw [HE.out]; rfl, HB1.out⟩
    · have HE : Hid (fidx p S 0 = -1) := by show _ = _; rw [HQ.out, List.drop_of_length_le (by rw [HL.out]; omega)]; rfl
      go_wp2
      go_ret
      exact ⟨by rw [HE.out]; rfl, hb⟩
/-- A store in its block, and a cell beside it. -/
theorem store_cell (w : World) (ta tc : Nat) (y tm : Int) (bv gv v : Value) (W0 : World) (h : (w.alloc (.cells #[.int .i64 y, .int .i64 tm, bv, gv] ta)).alloc (.cells #[v] tc) = W0) :
    Sx W0 w.heap.size ta y tm bv gv ∧ W0.cell? ⟨w.heap.size + 1, 0, none⟩ = some v ∧ Below w.heap.size w W0 ∧ W0.heap.size = w.heap.size + 1 + 1 := by
  subst h
  refine ⟨(Sx.new w _ y tm _ _).later (bpush (bre _) _), ?_, bpush (bpush (bre _) _) _, by simp⟩
  have h := heap_alloc_new (w.alloc (.cells #[.int .i64 y, .int .i64 tm, bv, gv] ta)) (.cells #[v] tc)
  rw [show (w.alloc (.cells #[.int .i64 y, .int .i64 tm, bv, gv] ta)).heap.size = w.heap.size + 1 by simp] at h
  exact cell_of_row _ _ 0 _ _ _ h
set_option maxRecDepth 100000 in
theorem implBoxNamed_any (lo hi : Nat) (y tm : Int) (ba : Option Addr) (bn bc : Nat) (gv : Value) (S : List X7) (x : ByteArray) (w : World) (hl : S.length = bn) (hn : bn ≤ 1048576) (hm : Bs lo hi w ba S) :
    Calls Tryz.prog 78 #[.agg #[.int .i64 y, .int .i64 tm, .slice ba bn bc, gv], .string x] w fun e w' => e = .returned (.int .i64 (fidx (isN x) S 0)) ∧ Below w.heap.size w w' := by
  obtain ⟨W0, hW0⟩ : ∃ W0, (w.alloc (.cells #[.int .i64 y, .int .i64 tm, .slice ba bn bc, gv] 57)).alloc (.cells #[.string x] 9) = W0 := ⟨_, rfl⟩
  obtain ⟨a0, hx, b0, hs⟩ := store_cell w _ _ _ _ _ _ _ W0 hW0
  have c0 := a0.cells
  have HR := hid (hm.later b0)
  have B0 := hid b0
  have HX := hid hx
  have HS := hid hs
  clear a0 b0 hm hx hs
  go_enter Tryz.func78, Tryz.ntmps78
  go_wp2_with fail
  clear hW0 c0
  have hlt : w.heap.size + 1 < W0.heap.size := by have := HS.out; omega
  refine (idxFunc_any 121 (isN x) lo hi ba bn bc S (w.heap.size + 1) _ hl hn HR.out (Go.Proofs.enters_of Tryz.func121 (by kernel_rfl) rfl) (fun q mv gv W hW => atName_any q mv gv x (w.heap.size + 1) W (Nat.lt_of_lt_of_le hlt hW.size) ((hW.cell (p := ⟨w.heap.size + 1, 0, none⟩) hlt).trans HX.out))).mono ?_; rintro e w1 ⟨rfl, hb1⟩
  have B1 := hid (btr B0.out hb1)
  clear hb1
  obtain ⟨q, hq⟩ : ∃ q, fidx (isN x) S 0 = q := ⟨_, rfl⟩
  rw [hq]
  have HQ := hid hq
  clear hq
  go_wp2
  go_ret
  exact ⟨by rw [HQ.out]; rfl, B1.out⟩
end Go.Proofs.YtlhofbnnonljaaaGreatDoor
