/- K7v, K7w, K7x, K7y, K7z, K7i, K7r, DecK, K9a. -/
import Derived.Test.YtchdempffkeaoaaV1
namespace Go.Proofs.Ytchdempffkeaoaa
open Go.RowKit Go.ChangeMaps
abbrev lkP (b : Nat) : Value := .pointer (some ⟨b, 0, none⟩)
abbrev lkF1 (b : Nat) : Value := .func (.func 18) #[] #[lkP b]
abbrev lkF2 (b : Nat) : Value := .func (.func 20) #[] #[lkP b]
abbrev lkF3 (b : Nat) : Value := .func (.func 21) #[] #[lkP b]
abbrev lkF4 (b : Nat) : Value := .func (.func 23) #[] #[lkP b]
/-- A link at work over the block b. -/
abbrev lkF (b : Nat) : Value := .agg #[lkF1 b, lkF2 b, lkF3 b, lkF4 b]
/-- A block of four functions. -/
def Lf (W : World) (k ty : Nat) (a b c d : Value) : Prop := W.heap[k]? = some (.cells #[a, b, c, d] ty (0, 0))
section
variable {W W' : World} {k ty : Nat} {a b c d : Value}
theorem Lf.new (w : World) (ty : Nat) (a b c d : Value) : Lf (w.alloc (.cells #[a, b, c, d] ty)) w.heap.size ty a b c d := heap_alloc_new w _
theorem Lf.lt (h : Lf W k ty a b c d) : k < W.heap.size := (Array.getElem?_eq_some_iff.1 h).1
theorem Lf.later (h : Lf W k ty a b c d) (hb : Below W.heap.size W W') : Lf W' k ty a b c d := (hb.block k h.lt).trans h
theorem Lf.grown {r : Option Nat} (h : Lf W k ty a b c d) (hg : W.grownBy W' r) (hk : some k ≠ r) : Lf W' k ty a b c d := (hg.block k h.lt hk).trans h
theorem Lf.cells (h : Lf W k ty a b c d) : W.cell? ⟨k, 0, none⟩ = some a ∧ W.cell? ⟨k, 1, none⟩ = some b ∧ W.cell? ⟨k, 2, none⟩ = some c ∧ W.cell? ⟨k, 3, none⟩ = some d :=
  ⟨cell_of_row W k 0 _ _ _ h, cell_of_row W k 1 _ _ _ h, cell_of_row W k 2 _ _ _ h, cell_of_row W k 3 _ _ _ h⟩
theorem Lf.loose (h : Lf W k ty a b c d) : W.frozen? ⟨k, 0, none⟩ = false ∧ W.frozen? ⟨k, 1, none⟩ = false ∧ W.frozen? ⟨k, 2, none⟩ = false ∧ W.frozen? ⟨k, 3, none⟩ = false :=
  ⟨frozen_of_row W k 0 _ _ h, frozen_of_row W k 1 _ _ h, frozen_of_row W k 2 _ _ h, frozen_of_row W k 3 _ _ h⟩
end
def putF (W : World) (k : Nat) (a b c d : Value) : World := (((W.setCell ⟨k, 0, none⟩ a).setCell ⟨k, 1, none⟩ b).setCell ⟨k, 2, none⟩ c).setCell ⟨k, 3, none⟩ d
theorem Lf.put {W : World} {k ty : Nat} {a0 b0 c0 d0 : Value} (h : Lf W k ty a0 b0 c0 d0) (a b c d : Value) : Lf (putF W k a b c d) k ty a b c d := by
  have h1 : Lf (W.setCell ⟨k, 0, none⟩ a) k ty a b0 c0 d0 := heap_setCell_same W k 0 _ _ _ h
  have h2 : Lf ((W.setCell ⟨k, 0, none⟩ a).setCell ⟨k, 1, none⟩ b) k ty a b c0 d0 := heap_setCell_same _ k 1 _ _ _ h1
  have h3 : Lf (((W.setCell ⟨k, 0, none⟩ a).setCell ⟨k, 1, none⟩ b).setCell ⟨k, 2, none⟩ c) k ty a b c d0 := heap_setCell_same _ k 2 _ _ _ h2
  exact heap_setCell_same _ k 3 _ _ _ h3
theorem putF_grown (W : World) (k : Nat) (a b c d : Value) : W.grownBy (putF W k a b c d) (some k) := wst (wst (wst (wst (wre W (some k)) 0 _) 1 _) 2 _) 3 _
set_option maxHeartbeats 1600000 in
set_option maxRecDepth 100000 in
theorem linkOf_any (lo hi : Nat) (ep nx wt : Int) (ga : Option Addr) (gn gc : Nat) (G : List ByteArray) (w : World) (hgl : G.length = gn) (hgn : gn ≤ 1048576) (hz : ∀ x ∈ G, x.size ≤ 1048576) (hs : Ss lo hi w ga G) (hg0 : ga = none → gc = 0) :
    Calls Try.prog 16 #[lkv ep (.slice ga gn gc) nx wt] w fun e w' => ∃ ag cg, e = .returned (lkF w.heap.size) ∧ Lk w' w.heap.size 28 ep (.slice ag gn cg) nx wt ∧ OwV w' (w.heap.size + 1) (.slice ag gn cg) G ∧ Below w.heap.size w w' := by
  have hmf : ∀ (fn : Fn) (first cap : Array Value) (w : World), (Instr.makeFunc fn first cap).run Try.prog w = .ok (.func fn first cap) w := fun _ _ _ _ => rfl
  have hsf : ∀ (a : Addr) (fn : Fn) (first cap : Array Value) (m : Mode) (w : World), (store a (.func fn first cap) m).run Try.prog w = stored Try.prog w a (.func fn first cap) m := fun a fn first cap m w => run_store Try.prog w a _ m rfl
  obtain ⟨W0, hW0⟩ : ∃ W0, (w.alloc (.cells #[.int .i64 ep, .slice ga gn gc, .int .i64 nx, .int .i64 wt] 28)).alloc (.cells #[.nilFunc, .nilFunc, .nilFunc, .nilFunc] 49) = W0 := ⟨_, rfl⟩
  have b0 : Below w.heap.size w W0 := by subst hW0; exact bpush (bpush (bre _) _) _
  have x0 : Lk W0 w.heap.size 28 ep (.slice ga gn gc) nx wt := by subst hW0; exact (Lk.new w _ _ _ _ _).later (bpush (bre _) _)
  have x1 : Lf W0 (w.heap.size + 1) 49 .nilFunc .nilFunc .nilFunc .nilFunc := by
    subst hW0
    have h := Lf.new (w.alloc (.cells #[.int .i64 ep, .slice ga gn gc, .int .i64 nx, .int .i64 wt] 28)) 49 .nilFunc .nilFunc .nilFunc .nilFunc
    simpa using h
  have HC := hid (copyLk_any lo hi ep nx wt ga gn gc G W0 hgl hgn hz (hs.later b0) hg0)
  have A0 := hid x0
  have A1 := hid x1
  have B0 := hid b0
  have HW := hid hW0
  have c0 := x0.cells
  have f0 := x0.loose
  clear x0 x1 b0 hW0 hs hg0 hgn hgl hz
  go_enter Try.func16, Try.ntmps16
  go_wp2_with fail
  rw [HW.out]
  clear HW
  refine HC.out.mono ?_; rintro e w1 ⟨ag, cg, rfl, ho, hb⟩
  have LW : Hid (w.heap.size + 1 < W0.heap.size) := hid A1.out.lt
  have hx0 := A0.out.later hb
  have hx1 := A1.out.later hb
  have c0 := hx0.cells
  have f0 := hx0.loose
  have c1 := hx1.cells
  have f1 := hx1.loose
  have HO := hid ho
  have B1 := hid (btr B0.out hb)
  have X0 := hid hx0
  have X1 := hid hx1
  have HBS := hid hb.size
  clear A0 A1 B0 hx0 hx1 ho hb HC
  go_upto_region 2 with fail
  have lw := LW.out
  have hbs := HBS.out
  have b1s := B1.out.size
  have hput := putL_grown w1 w.heap.size ep (.slice ag gn cg) nx wt
  have x2 := X0.out.put ep (.slice ag gn cg) nx wt
  have y2 := X1.out.grown hput (by simp)
  have o2 := OwV.grown HO.out hput (by omega)
  have b2 : Below w.heap.size w (putL w1 w.heap.size ep (.slice ag gn cg) nx wt) := B1.out.trans (below_of_grown hput (Nat.le_refl _) B1.out.size)
  obtain ⟨w2, hw2⟩ : ∃ W, putL w1 w.heap.size ep (.slice ag gn cg) nx wt = W := ⟨_, rfl⟩
  rw [hw2] at x2 y2 o2 b2 hput
  unfold putL at hw2
  rw [hw2]
  have hs2 := hput.size
  have c1 := y2.cells
  have f1 := y2.loose
  have X2 := hid x2
  have Y2 := hid y2
  have O2 := hid o2
  have B2 := hid b2
  have LX : Hid (w.heap.size + 1 < W0.heap.size ∧ W0.heap.size ≤ w2.heap.size) := hid ⟨lw, by omega⟩
  clear hw2 hput x2 y2 o2 b2 c0 f0 X0 X1 HO B1 HBS lw hbs b1s hs2
  go_wp2
  have g3 := putF_grown w2 (w.heap.size + 1) (lkF1 w.heap.size) (lkF2 w.heap.size) (lkF3 w.heap.size) (lkF4 w.heap.size)
  have d := (Y2.out.put (lkF1 w.heap.size) (lkF2 w.heap.size) (lkF3 w.heap.size) (lkF4 w.heap.size)).cells
  unfold putF at g3 d
  have lx := LX.out

  refine bodyPost_ret (v := lkF w.heap.size) (by simp [results, Try.results16, go_sem, d]) rfl ⟨_, _, rfl, X2.out.grown g3 (by simp), own_base (OwV.grown O2.out g3 (by omega)) (by omega), B2.out.trans (below_of_grown g3 (by omega) B2.out.size)⟩
theorem now17_any (b : Nat) (ep nx wt : Int) (ga : Option Addr) (gn gc : Nat) (w : World) (hx : Lk w b 28 ep (.slice ga gn gc) nx wt) :
    Calls Try.prog 23 #[lkP b] w fun e w' => e = .returned (lkv ep (.slice ga gn gc) nx wt) ∧ Below w.heap.size w w' := by
  obtain ⟨W0, hW0⟩ : ∃ W0, w.alloc (.cells lk0 28) = W0 := ⟨_, rfl⟩
  have b0 : Below w.heap.size w W0 := by subst hW0; exact bpush (bre _) _
  have x0 := hx.later b0
  have x1 : Lk W0 w.heap.size 28 0 (.slice none 0 0) 0 0 := by subst hW0; exact Lk.new _ _ _ _ _ _
  have A1 := hid x1
  have B0 := hid b0
  have c0 := x0.cells
  have c1 := x1.cells
  have f1 := x1.loose
  have HW := hid hW0
  clear hx x0 x1 b0 hW0
  go_enter Try.func23, Try.ntmps23
  go_upto_region 1 with fail
  rw [HW.out]
  go_wp2
  have g3 := putL_grown W0 w.heap.size ep (.slice ga gn gc) nx wt
  have d := (A1.out.put ep (.slice ga gn gc) nx wt).cells
  unfold putL at g3 d
  exact bodyPost_ret (v := lkv ep (.slice ga gn gc) nx wt) (by simp [results, Try.results23, go_sem, d]) rfl ⟨rfl, B0.out.trans (below_of_grown g3 (by omega) B0.out.size)⟩
set_option maxHeartbeats 1600000 in
set_option maxRecDepth 100000 in
theorem says17_any (lo hi b : Nat) (ep nx wt : Int) (ga : Option Addr) (gn gc : Nat) (G : List ByteArray) (w : World) (hgl : G.length = gn) (hx : Lk w b 28 ep (.slice ga gn gc) nx wt) (hs : Ss lo hi w ga G) :
    Calls Try.prog 20 #[lkP b] w fun e w' => e = .returned (pkv ep (sayN G nx) wt (sayT G)) ∧ Below w.heap.size w w' := by
  obtain ⟨W0, hW0⟩ : ∃ W0, w.alloc (.cells pk0 34) = W0 := ⟨_, rfl⟩
  have b0 : Below w.heap.size w W0 := by subst hW0; exact bpush (bre _) _
  have hw : W0.heap.size = w.heap.size + 1 := by subst hW0; simp
  have x1 : Pk W0 w.heap.size 34 0 0 0 ⟨#[]⟩ := by subst hW0; exact Pk.new _ _ _ _ _ _
  obtain ⟨W1, hW1⟩ : ∃ W1, W0.alloc (.cells #[.int .i64 ep, .int .i64 0, .int .i64 wt, .string ⟨#[]⟩] 34) = W1 := ⟨_, rfl⟩
  have b1 : Below W0.heap.size W0 W1 := by subst hW1; exact bpush (bre _) _
  have x2 : Pk W1 (w.heap.size + 1) 34 ep 0 wt ⟨#[]⟩ := by rw [← hw]; subst hW1; exact Pk.new _ _ _ _ _ _
  have A1 := hid (x1.later b1)
  have A2 := hid x2
  have B0 := hid (btr b0 b1)
  have HW0 := hid hW0
  have HW1 := hid hW1
  have X0 := hid ((hx.later b0).later b1)
  have XW := hid hx
  have HB := hid hx.lt
  obtain ⟨P, hP⟩ : ∃ P, sayN G nx = P := ⟨_, rfl⟩
  obtain ⟨T, hT⟩ : ∃ T, sayT G = T := ⟨_, rfl⟩
  rw [hP, hT]
  have HP := hid hP
  have HT := hid hT
  have HS := hs.later (btr b0 b1)
  have HAT : Hid (∀ g L, G = g :: L → ∃ k o, ga = some ⟨k, o, none⟩ ∧ k < w.heap.size ∧ W1.cell? ⟨k, o, none⟩ = some (.string g)) := hid (by
    rintro g L rfl
    obtain ⟨k, o, h1, h2, _⟩ := hs.at (i := 0) (by simp)
    obtain ⟨k', o', h1', _, h3⟩ := HS.at (i := 0) (by simp)
    rw [h1] at h1'
    simp only [Option.some.injEq, Addr.mk.injEq, and_true] at h1'
    obtain ⟨rfl, rfl⟩ := h1'
    exact ⟨k, o, h1, h2, by simpa using h3⟩)
  have c0 := hid (hx.later b0).cells
  have HW := hid hw
  clear hx x1 x2 b0 b1 hP hT hW0 hW1 hw hs HS
  go_enter Try.func20, Try.ntmps20
  go_upto_region 1 with fail
  rw [HW0.out]
  replace c0 := c0.out
  go_upto_region 2 with fail
  rw [HW1.out, HW.out]
  have hb := HB.out
  clear HW0 HW1 HW HB c0
  have c0 := X0.out.cells
  have c1 := A1.out.cells
  have f1 := A1.out.loose
  have c2 := A2.out.cells
  have f2 := A2.out.loose
  cases G with
  | nil =>
    obtain rfl : 0 = gn := by simpa using hgl
    go_wp2
    have g3 := putP_grown W1 w.heap.size ep 0 wt ⟨#[]⟩
    have d := (A1.out.put ep 0 wt ⟨#[]⟩).cells
    unfold putP at g3 d
    obtain rfl : 0 = P := HP.out
    obtain rfl : ⟨#[]⟩ = T := HT.out
    exact bodyPost_ret (v := pkv ep 0 wt ⟨#[]⟩) (by simp [results, Try.results20, go_sem, d]) rfl ⟨rfl, B0.out.trans (below_of_grown g3 (by omega) B0.out.size)⟩
  | cons g G =>
    obtain ⟨k, o, rfl, hk, hc⟩ := HAT.out g G rfl
    have hn : 0 < gn := by rw [← hgl]; simp
    have hn2 : (0 : Int) < (gn : Int) := by omega
    clear hgl HAT
    have S0 : Hid (W1.cell? ⟨b, 1, none⟩ = some (.slice (some ⟨k, o, none⟩) gn gc) ∧ W1.cell? ⟨b, 2, none⟩ = some (.int .i64 nx) ∧ W1.cell? ⟨k, o, none⟩ = some (.string g)) := hid ⟨c0.2.1, c0.2.2.1, hc⟩
    go_wp2_with fail
    clear c0 c1 hc
    have HS : Hid (∀ W, Below w.heap.size w W → (W.cell? ⟨b, 1, none⟩ = some (.slice (some ⟨k, o, none⟩) gn gc) ∧ W.cell? ⟨b, 2, none⟩ = some (.int .i64 nx) ∧ W.cell? ⟨k, o, none⟩ = some (.string g))) := hid (fun W h => ⟨(XW.out.later h).cells.2.1, (XW.out.later h).cells.2.2.1, ((cell_sameT (p := ⟨k, o, none⟩) (h.block k hk)).trans (cell_sameT (p := ⟨k, o, none⟩) (B0.out.block k hk)).symm).trans S0.out.2.2⟩)
    go_region_held3 (fun W => W.cell? ⟨b, 1, none⟩ = some (.slice (some ⟨k, o, none⟩) gn gc) ∧ W.cell? ⟨b, 2, none⟩ = some (.int .i64 nx) ∧ W.cell? ⟨k, o, none⟩ = some (.string g))
      ((first | exact S0.out | exact HS.out _ (bdr (bset B0.out (by simp) _)) | exact HS.out _ (bset (bdr (bset B0.out (by simp) _)) (by simp) _) | exact HS.out _ (bset (bset (bdr B0.out) (by simp) _) (by simp) _) | exact HS.out _ (bset (bdr B0.out) (by simp) _) | exact HS.out _ (bdr B0.out) | trace_state))
      (fail)
    have g2 := wst (wst (wre W1 (some (w.heap.size + 1))) 1 (.int .i64 nx)) 3 (.string g)
    have y1 := (A1.out.grown g2 (by simp)).later (bdr (bre _))
    have y2 := ((A2.out.s1 nx).s3 g).later (bdr (bre _))
    have b2 := bdr (B0.out.trans (below_of_grown g2 (by omega) B0.out.size))
    obtain ⟨w2, hw2⟩ : ∃ W, ((W1.setCell ⟨w.heap.size + 1, 1, none⟩ (.int .i64 nx)).setCell ⟨w.heap.size + 1, 3, none⟩ (.string g)).drew = W := ⟨_, rfl⟩
    rw [hw2] at y1 y2 b2
    rw [hw2]
    have Y1 := hid y1
    have B2 := hid b2
    clear hw2 g2 A1 A2 B0 f2 c2
    have c1 := y1.cells
    have f1 := y1.loose
    have c2 := y2.cells
    clear y1 y2 b2
    go_wp2
    have g3 := putP_grown w2 w.heap.size ep nx wt g
    have d := (Y1.out.put ep nx wt g).cells
    unfold putP at g3 d
    obtain rfl : nx = P := HP.out
    obtain rfl : g = T := HT.out
    exact bodyPost_ret (v := pkv ep nx wt g) (by simp [results, Try.results20, go_sem, d]) rfl ⟨rfl, B2.out.trans (below_of_grown g3 (by omega) B2.out.size)⟩
set_option maxHeartbeats 1600000 in
set_option maxRecDepth 100000 in
theorem put17_any (B b : Nat) (ep nx wt : Int) (ga : Option Addr) (gn gc : Nat) (G : List ByteArray) (t : ByteArray) (w : World) (hgl : G.length = gn) (hgn : gn ≤ 1048576) (ht : t.size ≤ 1048576) (hx : Lk w b 28 ep (.slice ga gn gc) nx wt) (ho : OwV w B (.slice ga gn gc) G) (hb : b < B) (hBw : B ≤ w.heap.size) :
    Calls Try.prog 18 #[.string t, lkP b] w fun e w' => ∃ ag cg, e = .returned (.bool (lpo gn t)) ∧ Lk w' b 28 ep (.slice ag (lpw G t).length cg) nx wt ∧ OwV w' B (.slice ag (lpw G t).length cg) (lpw G t) ∧ ∃ wm, w.grownBy wm (Value.ownBlock (.slice ga gn gc)) ∧ wm.grownBy w' (some b) := by
  have X0 := hid hx
  have O0 := hid ho
  have HB := hid hb
  have HBW := hid hBw
  have HT := hid ht
  have HGN := hid hgn
  have HGL := hid hgl
  have c0 := hx.cells
  obtain ⟨L, hL⟩ : ∃ L, lpw G t = L := ⟨_, rfl⟩
  obtain ⟨k, hk⟩ : ∃ k, lpo gn t = k := ⟨_, rfl⟩
  rw [hL, hk]
  have HL := hid hL
  have HK := hid hk
  clear hx ho hb hBw hgl hgn ht hL hk
  have hno : (lpo gn t = false) → k = false ∧ L = G := fun h => ⟨by rw [← HK.out]; exact h, by rw [← HL.out]; unfold lpw; rw [HGL.out, if_neg (by simp [h])]⟩
  have HNO := hid hno
  clear hno
  by_cases h60 : (60 : Int) ≤ (gn : Int)
  · go_enter Try.func18, Try.ntmps18
    go_wp2
    go_ret
    obtain ⟨hk0, hl0⟩ := HNO.out (by unfold lpo; simp; omega)
    rw [hk0, hl0, HGL.out]
    exact ⟨ga, gc, rfl, X0.out, O0.out, w, wre _ _, wre _ _⟩
  by_cases h0 : t.size = 0
  · have hte : t.toList = [] := List.eq_nil_of_length_eq_zero (by rw [ByteArray.toList_eq, data_len]; exact h0)
    have hti : t.toList.isEmpty = true := by rw [hte]; rfl
    go_enter Try.func18, Try.ntmps18
    go_wp2
    go_ret
    obtain ⟨hk0, hl0⟩ := HNO.out (by unfold lpo; simp; omega)
    rw [hk0, hl0, HGL.out]
    exact ⟨rfl, ga, gc, X0.out, O0.out, w, wre _ _, wre _ _⟩
  have hte : ¬ t.toList = [] := fun e => h0 (by rw [← data_len, ← ByteArray.toList_eq, e]; rfl)
  have hti : t.toList.isEmpty = false := by cases h : t.toList with | nil => exact absurd h hte | cons _ _ => rfl
  by_cases h4 : (400 : Int) < (t.size : Int)
  · go_enter Try.func18, Try.ntmps18
    go_wp2
    go_ret
    obtain ⟨hk0, hl0⟩ := HNO.out (by unfold lpo; simp; omega)
    rw [hk0, hl0, HGL.out]
    exact ⟨rfl, ga, gc, X0.out, O0.out, w, wre _ _, wre _ _⟩
  · have hyes : lpo gn t = true := by unfold lpo; simp; omega
    obtain rfl : true = k := by rw [← HK.out]; exact hyes.symm
    obtain rfl : G ++ [t] = L := by rw [← HL.out]; unfold lpw; rw [HGL.out, if_pos hyes]
    clear hyes HNO HL HK
    obtain ⟨m, hm⟩ : ∃ m, (G ++ [t]).length = m := ⟨_, rfl⟩
    rw [hm]
    have HM := hid hm
    clear hm
    go_enter Try.func18, Try.ntmps18
    go_upto_region 3 with fail
    clear c0
    refine wp_region_noPanic ?_
    refine wp_region_held_drew (S := (fun W => True)) (by kernel_rfl) trivial (fun hHeld => ?_)
    obtain ⟨v0, hv0⟩ : ∃ x, w.drew = x := ⟨_, rfl⟩
    have B0 : Hid (Below w.heap.size w v0) := hid (by rw [← hv0]; exact bdr (bre _))
    rw [hv0]
    clear hv0
    refine tk 0 ?_
    refine tk 2 ?_
    refine wpAnyH_ready (rs := [1, 3]) (by kernel_rfl) (by simp) ?_
    refine rc (fun K hK => ?_) (rl (fun K hK => ?_))
    · have cl := (X0.out.later B0.out).cells.2.1
      go_simp
      clear cl
      refine hK.out _ _ trivial (fun hHeld => ?_)
      clear hK K
      try simp only [Act.put, List.setIfInBounds_toArray, List.set_cons_zero, List.set_cons_succ]
      refine ry 3 (fun K hK => ?_)
      go_simp
      refine (clone_any t _ HT.out).mono ?_; rintro e v1 ⟨rfl, hb1⟩
      replace B0 := hid (btr B0.out hb1)
      clear hb1
      refine hK.out _ _ trivial (fun hHeld => ?_)
      clear hK K
      try simp only [Act.put, List.setIfInBounds_toArray, List.set_cons_zero, List.set_cons_succ]
      refine ry 4 (fun K hK => ?_)
      go_simp
      have HTX : Hid (∀ j u, (([t] : List ByteArray).map Value.string)[j]? = some u → (v1.alloc (.cells #[.string t] 9)).cell? ((⟨v1.heap.size, 0, none⟩ : Addr).add j) = some u) := by
        intro j u hu
        cases j with
        | zero =>
          simp at hu; subst hu
          have h := heap_alloc_new v1 (.cells #[.string t] 9)
          exact cell_of_row _ _ 0 _ _ _ h
        | succ j => simp at hu
      replace B0 := hid (btr B0.out (bpush (bre v1) (.cells #[.string t] 9)))
      obtain ⟨v2, hv2⟩ : ∃ x, v1.alloc (.cells #[.string t] 9) = x := ⟨_, rfl⟩
      obtain ⟨k2, hk2⟩ : ∃ x, v1.heap.size = x := ⟨_, rfl⟩
      rw [hv2] at B0 HTX
      rw [hk2] at HTX
      rw [hv2, hk2]
      clear hv2 hk2
      refine hK.out _ _ trivial (fun hHeld => ?_)
      clear hK K
      try simp only [Act.put, List.setIfInBounds_toArray, List.set_cons_zero, List.set_cons_succ]
      refine ry 5 (fun K hK => ?_)
      refine step_append_strs17 rfl (.tmp 18) (.tmp 21) rfl B _ G (by rfl) (OwV.later O0.out B0.out) ⟨k2, 0, none⟩ 1 1 [t] (by rfl) rfl HTX.out (by have h1 := HGL.out; have h2 := HGN.out; omega) (by omega) (Nat.le_trans HBW.out B0.out.size) ?_
      intro v3 w3 ho3 hg3
      obtain ⟨a3, c3, hv3, _⟩ := OwV.shape ho3
      rw [HM.out] at hv3
      subst hv3
      have hkb : ∀ j, Value.ownBlock (.slice a3 m c3) = some j → j ≠ b := fun j hj => by have h1 := (World.ownsRow.lt ho3 j hj).1; have h2 := HB.out; omega
      have O3 := hid ho3
      have X3 := hid ((X0.out.later B0.out).grown hg3 (fun e => by have h1 := (World.ownsRow.lt O0.out _ e.symm).1; have h2 := HB.out; omega))
      have G3 := hid (wtr (gof (Value.ownBlock (.slice ga gn gc)) B0.out) hg3)
      have HKB := hid hkb
      clear ho3 hg3 hkb
      refine hK.out _ _ trivial (fun hHeld => ?_)
      clear hK K
      try simp only [Act.put, List.setIfInBounds_toArray, List.set_cons_zero, List.set_cons_succ]
      refine tk 6 ?_
      refine ry 7 (fun K hK => ?_)
      have c3 := X3.out.cells
      have f3 := X3.out.loose
      go_simp
      clear c3 f3
      have g4 := wst (wre w3 (some b)) 1 (.slice a3 m c3)
      have x4 := hid (X3.out.s1 (.slice a3 m c3))
      have o4 := hid (own_off17 O3.out g4 (fun j hj e => HKB.out j hj (by simpa using e.symm)))
      have G4 := hid g4
      clear g4
      refine hK.out _ _ trivial (fun hHeld => ?_)
      clear hK K
      try simp only [Act.put, List.setIfInBounds_toArray, List.set_cons_zero, List.set_cons_succ]
      refine wpAnyH_done (by kernel_rfl) ?_ _
      refine NoPanic.normal ?_
      go_wp2
      go_ret
      exact ⟨rfl, _, _, x4.out, o4.out, w3, G3.out, G4.out⟩
    · go_simp
      refine (clone_any t _ HT.out).mono ?_; rintro e v1 ⟨rfl, hb1⟩
      replace B0 := hid (btr B0.out hb1)
      clear hb1
      refine hK.out _ _ trivial (fun hHeld => ?_)
      clear hK K
      try simp only [Act.put, List.setIfInBounds_toArray, List.set_cons_zero, List.set_cons_succ]
      refine wpAnyH_ready (rs := [1, 4]) (by kernel_rfl) (by simp) ?_
      refine rc (fun K hK => ?_) (rl (fun K hK => ?_))
      · have cl := (X0.out.later B0.out).cells.2.1
        go_simp
        clear cl
        refine hK.out _ _ trivial (fun hHeld => ?_)
        clear hK K
        try simp only [Act.put, List.setIfInBounds_toArray, List.set_cons_zero, List.set_cons_succ]
        refine ry 4 (fun K hK => ?_)
        go_simp
        have HTX : Hid (∀ j u, (([t] : List ByteArray).map Value.string)[j]? = some u → (v1.alloc (.cells #[.string t] 9)).cell? ((⟨v1.heap.size, 0, none⟩ : Addr).add j) = some u) := by
          intro j u hu
          cases j with
          | zero =>
            simp at hu; subst hu
            have h := heap_alloc_new v1 (.cells #[.string t] 9)
            exact cell_of_row _ _ 0 _ _ _ h
          | succ j => simp at hu
        replace B0 := hid (btr B0.out (bpush (bre v1) (.cells #[.string t] 9)))
        obtain ⟨v2, hv2⟩ : ∃ x, v1.alloc (.cells #[.string t] 9) = x := ⟨_, rfl⟩
        obtain ⟨k2, hk2⟩ : ∃ x, v1.heap.size = x := ⟨_, rfl⟩
        rw [hv2] at B0 HTX
        rw [hk2] at HTX
        rw [hv2, hk2]
        clear hv2 hk2
        refine hK.out _ _ trivial (fun hHeld => ?_)
        clear hK K
        try simp only [Act.put, List.setIfInBounds_toArray, List.set_cons_zero, List.set_cons_succ]
        refine ry 5 (fun K hK => ?_)
        refine step_append_strs17 rfl (.tmp 18) (.tmp 21) rfl B _ G (by rfl) (OwV.later O0.out B0.out) ⟨k2, 0, none⟩ 1 1 [t] (by rfl) rfl HTX.out (by have h1 := HGL.out; have h2 := HGN.out; omega) (by omega) (Nat.le_trans HBW.out B0.out.size) ?_
        intro v3 w3 ho3 hg3
        obtain ⟨a3, c3, hv3, _⟩ := OwV.shape ho3
        rw [HM.out] at hv3
        subst hv3
        have hkb : ∀ j, Value.ownBlock (.slice a3 m c3) = some j → j ≠ b := fun j hj => by have h1 := (World.ownsRow.lt ho3 j hj).1; have h2 := HB.out; omega
        have O3 := hid ho3
        have X3 := hid ((X0.out.later B0.out).grown hg3 (fun e => by have h1 := (World.ownsRow.lt O0.out _ e.symm).1; have h2 := HB.out; omega))
        have G3 := hid (wtr (gof (Value.ownBlock (.slice ga gn gc)) B0.out) hg3)
        have HKB := hid hkb
        clear ho3 hg3 hkb
        refine hK.out _ _ trivial (fun hHeld => ?_)
        clear hK K
        try simp only [Act.put, List.setIfInBounds_toArray, List.set_cons_zero, List.set_cons_succ]
        refine tk 6 ?_
        refine ry 7 (fun K hK => ?_)
        have c3 := X3.out.cells
        have f3 := X3.out.loose
        go_simp
        clear c3 f3
        have g4 := wst (wre w3 (some b)) 1 (.slice a3 m c3)
        have x4 := hid (X3.out.s1 (.slice a3 m c3))
        have o4 := hid (own_off17 O3.out g4 (fun j hj e => HKB.out j hj (by simpa using e.symm)))
        have G4 := hid g4
        clear g4
        refine hK.out _ _ trivial (fun hHeld => ?_)
        clear hK K
        try simp only [Act.put, List.setIfInBounds_toArray, List.set_cons_zero, List.set_cons_succ]
        refine wpAnyH_done (by kernel_rfl) ?_ _
        refine NoPanic.normal ?_
        go_wp2
        go_ret
        exact ⟨rfl, _, _, x4.out, o4.out, w3, G3.out, G4.out⟩
      · go_simp
        have HTX : Hid (∀ j u, (([t] : List ByteArray).map Value.string)[j]? = some u → (v1.alloc (.cells #[.string t] 9)).cell? ((⟨v1.heap.size, 0, none⟩ : Addr).add j) = some u) := by
          intro j u hu
          cases j with
          | zero =>
            simp at hu; subst hu
            have h := heap_alloc_new v1 (.cells #[.string t] 9)
            exact cell_of_row _ _ 0 _ _ _ h
          | succ j => simp at hu
        replace B0 := hid (btr B0.out (bpush (bre v1) (.cells #[.string t] 9)))
        obtain ⟨v2, hv2⟩ : ∃ x, v1.alloc (.cells #[.string t] 9) = x := ⟨_, rfl⟩
        obtain ⟨k2, hk2⟩ : ∃ x, v1.heap.size = x := ⟨_, rfl⟩
        rw [hv2] at B0 HTX
        rw [hk2] at HTX
        rw [hv2, hk2]
        clear hv2 hk2
        refine hK.out _ _ trivial (fun hHeld => ?_)
        clear hK K
        try simp only [Act.put, List.setIfInBounds_toArray, List.set_cons_zero, List.set_cons_succ]
        refine ry 1 (fun K hK => ?_)
        have cl := (X0.out.later B0.out).cells.2.1
        go_simp
        clear cl
        refine hK.out _ _ trivial (fun hHeld => ?_)
        clear hK K
        try simp only [Act.put, List.setIfInBounds_toArray, List.set_cons_zero, List.set_cons_succ]
        refine ry 5 (fun K hK => ?_)
        refine step_append_strs17 rfl (.tmp 18) (.tmp 21) rfl B _ G (by rfl) (OwV.later O0.out B0.out) ⟨k2, 0, none⟩ 1 1 [t] (by rfl) rfl HTX.out (by have h1 := HGL.out; have h2 := HGN.out; omega) (by omega) (Nat.le_trans HBW.out B0.out.size) ?_
        intro v3 w3 ho3 hg3
        obtain ⟨a3, c3, hv3, _⟩ := OwV.shape ho3
        rw [HM.out] at hv3
        subst hv3
        have hkb : ∀ j, Value.ownBlock (.slice a3 m c3) = some j → j ≠ b := fun j hj => by have h1 := (World.ownsRow.lt ho3 j hj).1; have h2 := HB.out; omega
        have O3 := hid ho3
        have X3 := hid ((X0.out.later B0.out).grown hg3 (fun e => by have h1 := (World.ownsRow.lt O0.out _ e.symm).1; have h2 := HB.out; omega))
        have G3 := hid (wtr (gof (Value.ownBlock (.slice ga gn gc)) B0.out) hg3)
        have HKB := hid hkb
        clear ho3 hg3 hkb
        refine hK.out _ _ trivial (fun hHeld => ?_)
        clear hK K
        try simp only [Act.put, List.setIfInBounds_toArray, List.set_cons_zero, List.set_cons_succ]
        refine tk 6 ?_
        refine ry 7 (fun K hK => ?_)
        have c3 := X3.out.cells
        have f3 := X3.out.loose
        go_simp
        clear c3 f3
        have g4 := wst (wre w3 (some b)) 1 (.slice a3 m c3)
        have x4 := hid (X3.out.s1 (.slice a3 m c3))
        have o4 := hid (own_off17 O3.out g4 (fun j hj e => HKB.out j hj (by simpa using e.symm)))
        have G4 := hid g4
        clear g4
        refine hK.out _ _ trivial (fun hHeld => ?_)
        clear hK K
        try simp only [Act.put, List.setIfInBounds_toArray, List.set_cons_zero, List.set_cons_succ]
        refine wpAnyH_done (by kernel_rfl) ?_ _
        refine NoPanic.normal ?_
        go_wp2
        go_ret
        exact ⟨rfl, _, _, x4.out, o4.out, w3, G3.out, G4.out⟩
theorem implLinkNew_any (ep : Int) (w : World) : Calls Try.prog 6 #[.int .i64 ep] w fun e w' => ∃ a c, e = .returned (lkv ep (.slice a 0 c) 1 1) ∧ OwV w' w.heap.size (.slice a 0 c) [] ∧ Below w.heap.size w w' := by
  obtain ⟨W0, hW0⟩ : ∃ W0, w.alloc (.cells lk0 28) = W0 := ⟨_, rfl⟩
  have b0 : Below w.heap.size w W0 := by subst hW0; exact bpush (bre _) _
  have x0 : Lk W0 w.heap.size 28 0 (.slice none 0 0) 0 0 := by subst hW0; exact Lk.new _ _ _ _ _ _
  have A0 := hid x0
  have B0 := hid b0
  have c0 := x0.cells
  have f0 := x0.loose
  have HW := hid hW0
  clear x0 b0 hW0
  go_enter Try.func6, Try.ntmps6
  go_upto_region 1 with fail
  rw [HW.out]
  go_wp2
  have g3 := putL_grown W0 w.heap.size ep (.slice none 0 0) 1 1
  have d := (A0.out.put ep (.slice none 0 0) 1 1).cells
  have b3 := B0.out.trans (below_of_grown g3 (by omega) B0.out.size)
  unfold putL at g3 d b3
  exact bodyPost_ret (v := lkv ep (.slice none 0 0) 1 1) (by simp [results, Try.results6, go_sem, d]) rfl ⟨_, _, rfl, ⟨rfl, .inl ⟨rfl, rfl⟩⟩, b3⟩
set_option maxHeartbeats 1600000 in
set_option maxRecDepth 100000 in
theorem implSays_any (lo hi : Nat) (ep nx wt : Int) (ga : Option Addr) (gn gc : Nat) (G : List ByteArray) (w : World) (hgl : G.length = gn) (hgn : gn ≤ 1048576) (hz : ∀ x ∈ G, x.size ≤ 1048576) (hs : Ss lo hi w ga G) (hg0 : ga = none → gc = 0) :
    Calls Try.prog 9 #[lkv ep (.slice ga gn gc) nx wt] w fun e w' => e = .returned (pkv ep (sayN G nx) wt (sayT G)) ∧ Below w.heap.size w w' := by
  obtain ⟨W0, hW0⟩ : ∃ W0, (w.alloc (.cells #[.int .i64 ep, .slice ga gn gc, .int .i64 nx, .int .i64 wt] 28)).alloc (.cells pk0 34) = W0 := ⟨_, rfl⟩
  have b0 : Below w.heap.size w W0 := by subst hW0; exact bpush (bpush (bre _) _) _
  have x0 : Lk W0 w.heap.size 28 ep (.slice ga gn gc) nx wt := by subst hW0; exact (Lk.new w _ _ _ _ _).later (bpush (bre _) _)
  have x1 : Pk W0 (w.heap.size + 1) 34 0 0 0 ⟨#[]⟩ := by
    subst hW0
    have h := Pk.new (w.alloc (.cells #[.int .i64 ep, .slice ga gn gc, .int .i64 nx, .int .i64 wt] 28)) 34 0 0 0 ⟨#[]⟩
    simpa using h
  have HC := hid (linkOf_any lo hi ep nx wt ga gn gc G W0 hgl hgn hz (hs.later b0) hg0)
  have A1 := hid x1
  have B0 := hid b0
  have HW := hid hW0
  have HGL := hid hgl
  have c0 := x0.cells
  obtain ⟨P, hP⟩ : ∃ P, pkv ep (sayN G nx) wt (sayT G) = P := ⟨_, rfl⟩
  obtain ⟨p1, hp1⟩ : ∃ P, sayN G nx = P := ⟨_, rfl⟩
  obtain ⟨p2, hp2⟩ : ∃ P, sayT G = P := ⟨_, rfl⟩
  rw [hp1, hp2] at hP
  have HP1 := hid hp1
  have HP2 := hid hp2
  rw [hp1, hp2]
  clear hP P hp1 hp2 x0 x1 b0 hW0 hs hg0 hgn hgl hz
  go_enter Try.func9, Try.ntmps9
  go_wp2_with fail
  rw [HW.out]
  clear HW
  refine HC.out.mono ?_; rintro e w1 ⟨ag, cg, rfl, hx, ho, hb⟩
  have A2 := hid (A1.out.later hb)
  have B1 := hid (btr B0.out hb)
  have HS := hid (says17_any _ _ _ ep nx wt ag gn cg G w1 HGL.out hx (OwV.is ho).2)
  clear hx ho hb A1 B0 HC c0
  have hfl : ∀ W : World, (Instr.field 49 (lkF W0.heap.size) 1).run Try.prog W = .ok (lkF2 W0.heap.size) W := fun _ => rfl
  go_wp2_with fail
  refine HS.out.mono ?_; rintro e w2 ⟨rfl, hb2⟩
  rw [HP1.out, HP2.out]
  have hA := A2.out.later hb2
  have c1 := hA.cells
  have f1 := hA.loose
  have A3 := hid hA
  have B2 := hid (btr B1.out hb2)
  clear hA hb2 A2 B1 HS
  go_wp2
  have g3 := putP_grown w2 (w.heap.size + 1) ep p1 wt p2
  have d := (A3.out.put ep p1 wt p2).cells
  unfold putP at g3 d
  exact bodyPost_ret (v := pkv ep p1 wt p2) (by simp [results, Try.results9, go_sem, d]) rfl ⟨rfl, B2.out.trans (below_of_grown g3 (by omega) B2.out.size)⟩
set_option maxHeartbeats 1600000 in
set_option maxRecDepth 100000 in
theorem implLinkPut_any (lo hi : Nat) (ep nx wt : Int) (ga : Option Addr) (gn gc : Nat) (G : List ByteArray) (t : ByteArray) (w : World) (hgl : G.length = gn) (hgn : gn ≤ 1048576) (hz : ∀ x ∈ G, x.size ≤ 1048576) (hs : Ss lo hi w ga G) (hg0 : ga = none → gc = 0) (ht : t.size ≤ 1048576) :
    Calls Try.prog 8 #[lkv ep (.slice ga gn gc) nx wt, .string t] w fun e w' => ∃ ag cg, e = .returned (.tuple #[lkv ep (.slice ag (lpw G t).length cg) nx wt, .bool (lpo gn t)]) ∧ OwV w' w.heap.size (.slice ag (lpw G t).length cg) (lpw G t) ∧ Below w.heap.size w w' := by
  obtain ⟨W0, hW0⟩ : ∃ W0, (w.alloc (.cells #[.int .i64 ep, .slice ga gn gc, .int .i64 nx, .int .i64 wt] 28)).alloc (.cells lk0 28) = W0 := ⟨_, rfl⟩
  have b0 : Below w.heap.size w W0 := by subst hW0; exact bpush (bpush (bre _) _) _
  have x0 : Lk W0 w.heap.size 28 ep (.slice ga gn gc) nx wt := by subst hW0; exact (Lk.new w _ _ _ _ _).later (bpush (bre _) _)
  have x1 : Lk W0 (w.heap.size + 1) 28 0 (.slice none 0 0) 0 0 := by
    subst hW0
    have h := Lk.new (w.alloc (.cells #[.int .i64 ep, .slice ga gn gc, .int .i64 nx, .int .i64 wt] 28)) 28 0 (.slice none 0 0) 0 0
    simpa using h
  have HC := hid (linkOf_any lo hi ep nx wt ga gn gc G W0 hgl hgn hz (hs.later b0) hg0)
  have HP := hid (fun (w1 : World) (ag : Option Addr) (cg : Nat) h1 h2 h3 => put17_any (W0.heap.size + 1) W0.heap.size ep nx wt ag gn cg G t w1 hgl hgn ht h1 h2 (by omega) h3)
  have A1 := hid x1
  have B0 := hid b0
  have HW := hid hW0
  have HGL := hid hgl
  have c0 := x0.cells
  obtain ⟨L, hL⟩ : ∃ L, lpw G t = L := ⟨_, rfl⟩
  obtain ⟨k, hk⟩ : ∃ k, lpo gn t = k := ⟨_, rfl⟩
  rw [hL, hk]
  have HL := hid hL
  have HK := hid hk
  obtain ⟨m, hm⟩ : ∃ m, L.length = m := ⟨_, rfl⟩
  rw [hm]
  have HM := hid hm
  clear hL hk hm x0 x1 b0 hW0 hs hg0 hgn hgl hz ht
  go_enter Try.func8, Try.ntmps8
  go_wp2_with fail
  rw [HW.out]
  clear HW
  refine HC.out.mono ?_; rintro e w1 ⟨ag, cg, rfl, hx, ho, hb⟩
  have LW : Hid (w.heap.size + 1 < W0.heap.size ∧ W0.heap.size < w1.heap.size) := hid ⟨A1.out.lt, hx.lt⟩
  obtain ⟨w2, hw2⟩ : ∃ x, w1.alloc (.cells #[lkF1 W0.heap.size, lkF2 W0.heap.size, lkF3 W0.heap.size, lkF4 W0.heap.size] 49) = x := ⟨_, rfl⟩
  have b2 : Below w1.heap.size w1 w2 := by subst hw2; exact bpush (bre _) _
  have e2 : Lf w2 w1.heap.size 49 (lkF1 W0.heap.size) (lkF2 W0.heap.size) (lkF3 W0.heap.size) (lkF4 W0.heap.size) := by subst hw2; exact Lf.new _ _ _ _ _ _
  have A2 := hid ((A1.out.later hb).later b2)
  have B2 := hid (btr (btr B0.out hb) b2)
  have HPP := hid (HP.out w2 ag cg (hx.later b2) (OwV.later ho b2) (Nat.le_trans hx.lt b2.size))
  have NB : Hid (∀ j, Value.ownBlock (.slice ag gn cg) = some j → W0.heap.size < j ∧ j < w1.heap.size) := hid (fun j hj => World.ownsRow.lt ho j hj)
  have E2 := hid e2
  clear hx ho hb A1 B0 HC c0 HP b2 e2
  have hsf : ∀ (a : Addr) (fn : Fn) (first cap : Array Value) (m : Mode) (w : World), (store a (.func fn first cap) m).run Try.prog w = stored Try.prog w a (.func fn first cap) m := fun a fn first cap m w => run_store Try.prog w a _ m rfl
  go_upto_region 2 with fail
  clear hw2
  have ce := E2.out.cells
  go_wp2_with fail
  refine HPP.out.mono ?_; rintro e w3 ⟨ap, cp, hpe, hpx, hpo, wm, hg1, hg2⟩
  rw [HL.out, HM.out] at hpx hpo
  rw [HK.out] at hpe
  subst hpe
  have lw := LW.out
  have hA := (A2.out.grown hg1 (fun e => by have := NB.out _ e.symm; omega)).grown hg2 (by simp; omega)
  have hE := (E2.out.grown hg1 (fun e => by have := NB.out _ e.symm; omega)).grown hg2 (by simp; omega)
  have hB : Below w.heap.size w w3 := (B2.out.trans (below_grownR hg1 (fun j hj => by have := NB.out j hj; omega) B2.out.size)).trans (below_of_grown hg2 (by omega) (Nat.le_trans B2.out.size hg1.size))
  have HN := hid (now17_any W0.heap.size ep nx wt ap m cp w3 hpx)
  have A3 := hid hA
  have O3 := hid hpo
  have B3 := hid hB
  have c1 := hA.cells
  clear ce
  have ce := hE.cells
  clear hA hE hB hpx hpo hg1 hg2 A2 B2 E2 NB HPP c1 lw
  go_wp2_with fail
  refine HN.out.mono ?_; rintro e w4 ⟨rfl, hb4⟩
  have A4 := A3.out.later hb4
  have O4 := hid (OwV.later O3.out hb4)
  have B4 := hid (btr B3.out hb4)
  have c1 := A4.cells
  have f1 := A4.loose
  have A5 := hid A4
  clear A4 hb4 A3 O3 B3 ce
  go_wp2
  have lw := LW.out
  have g3 := putL_grown w4 (w.heap.size + 1) ep (.slice ap m cp) nx wt
  have d := (A5.out.put ep (.slice ap m cp) nx wt).cells
  have o5 := own_base (OwV.grown O4.out g3 (by omega)) (show w.heap.size ≤ W0.heap.size + 1 by omega)
  have b5 := B4.out.trans (below_of_grown g3 (by omega) B4.out.size)
  unfold putL at g3 d o5 b5
  exact bodyPost_ret (v := .tuple #[lkv ep (.slice ap m cp) nx wt, .bool k]) (by simp [results, Try.results8, go_sem, d]) rfl ⟨_, _, rfl, o5, b5⟩
theorem Lk.newest {W : World} {ep nx wt : Int} {gv : Value} {v : World} {ty : Nat} (h : v.alloc (.cells #[.int .i64 ep, gv, .int .i64 nx, .int .i64 wt] ty) = W) : Lk W v.heap.size ty ep gv nx wt := by subst h; exact Lk.new _ _ _ _ _ _
theorem wpush {W v : World} {o : Obj} (h : v.alloc o = W) : Below v.heap.size v W := by subst h; exact bpush (bre _) _
theorem row_all17 {W : World} {B : Nat} {v : Value} {zs : List Nat} (h : W.ownsRow B 3 1 v zs.length (zs.map ic)) (hz : 0 < zs.length) : ∃ g cp, v = .slice (some ⟨g, 0, none⟩) zs.length cp ∧ B ≤ g ∧ g < W.heap.size ∧ ∀ i (hi : i < zs.length), W.cell? ⟨g, i, none⟩ = some (.int .i64 (zs[i] : Int)) := by
  rcases h.2 with ⟨_, h2⟩ | ⟨g, cap, cur, h1, h2, h3, h4, _⟩
  · omega
  · refine ⟨g, cap, h1, h2, (Array.getElem?_eq_some_iff.1 h3).1, fun i hi => ?_⟩
    subst h1
    have c := World.ownsRow.cells h (g := g) rfl i (ic zs[i]) (by rw [List.getElem?_map, List.getElem?_eq_getElem hi]; rfl)
    have e : (⟨g, 0, none⟩ : Addr).add i = ⟨g, i, none⟩ := by rw [addr_add, Nat.zero_add]
    rw [e] at c
    exact c
set_option maxHeartbeats 400000 in
set_option maxRecDepth 100000 in
theorem drawPlaces17_any (ao : Option Addr) (n cap : Nat) (w : World) (hn : n ≤ 1048576) (hcode : Code w w.heap.size ao n) :
    Calls Try.prog 5 #[.slice ao n cap] w fun e w' => ∃ (g cp : Nat) (Z : List Nat), e = .returned (.slice (some ⟨g, 0, none⟩) 12 cp) ∧ Z.length = 12 ∧ (∀ z ∈ Z, z < 10000) ∧ w.heap.size ≤ g ∧ g < w'.heap.size ∧ (∀ i (h : i < Z.length), w'.cell? ⟨g, i, none⟩ = some (.int .i64 (Z[i] : Int))) ∧ Below w.heap.size w w' := by
  have HO := hide hcode
  clear hcode
  go_enter Try.func5, Try.ntmps5
  go_wp2_with fail
  refine (new_any ao n cap _ hn (unhide HO)).mono ?_; rintro e w1 ⟨rfl, hc1, ho1, hb1⟩
  have HC1 := hide hc1
  have HO1 := hide ho1
  have hs1 := hc1.lt
  clear hc1 ho1
  go_wp2_with fail
  refine (byte_any w.heap.size ao n cap _ hn (unhide HC1) (unhide HO1)).mono ?_; rintro e w2 ⟨x0, hx0, rfl, hc2, hb2⟩
  have HC2 := hide hc2
  have HO2 := hide ((unhide HO1).later hb2)
  have hb12 : Below w.heap.size w w2 := hb1.trans (only_below hb2 (Nat.le_refl _) hb1.size)
  have hs2 := hc2.lt
  clear hc2
  go_wp2
  go_loopw [4, 5] (fun v iv wr => ∃ (k : Nat) (zs : List Nat), k ≤ 12 ∧ zs.length = k ∧ (∀ z ∈ zs, z < 10000) ∧ iv = .int .i64 (k : Int) ∧ wr.ownsRow w2.heap.size 3 1 v zs.length (zs.map ic) ∧ Cur wr w.heap.size ao n cap ∧ w2.grownBy wr (some w.heap.size)) (fun _ iv _ => 12 - (intOf iv).toNat)
  case atStart => exact ⟨0, [], Nat.zero_le _, rfl, by simp, rfl, World.ownsRow_made w2 #[] 0 (Nat.le_refl _) (by decide) rfl, (unhide HC2).alloc _, World.grownBy_alloc _ _ _⟩
  case round =>
    obtain ⟨k, zs, hk, hzl, hzs, rfl, hown, hcu, hg⟩ := hrel
    have HZL := hide hzl
    have HZS := hide hzs
    have HCU := hide hcu
    have HOWN := hide hown
    have HG := hide hg
    have hsz := hg.size
    clear hzl hzs hcu hown hg
    by_cases hlt : k < 12
    · go_wp2_with fail
      refine (below4 w.heap.size ao n cap _ hn (unhide HCU) ((unhide HO2).later (unhide HG)) 10000 (by omega) (by omega)).mono ?_; rintro e w3 ⟨x, hx, rfl, hc3, hb3⟩
      have hown3 : w3.ownsRow w2.heap.size 3 1 _ zs.length (zs.map ic) := (unhide HOWN).kept hb3 (by
        cases hv : Value.ownBlock _ with
        | none => left; rfl
        | some b => right; have := ((unhide HOWN).lt b hv).1; simp; omega)
      have HC3 := hide hc3
      have hs3 := hb3.size
      clear hc3
      go_wp2_with (at_builtin; refine wpList_append_nat w3 rfl (.tmp 15) (.tmp 18) 24 rfl w2.heap.size 3 Try.info3 Try.underlying24 _ zs (by rfl) hown3 _ x rfl rfl (by have := unhide HZL; omega) (by omega) ?_; rotate_right; intro v4 w4 hown4 hb4)
      go_roundw
      case rel => exact ⟨k + 1, zs ++ [x], hlt, by simp [unhide HZL], by intro z hz; simp at hz; rcases hz with hz | rfl; exact unhide HZS z hz; omega, by go_num, hown4, (unhide HC3).later hb4 hs2, only_add (only_trans (unhide HG) hb3) hb4⟩
      case measure => simp [intOf]; omega
    · have h12 : zs.length = 12 := by have := unhide HZL; omega
      obtain ⟨g, cp, rfl, hgB, hg, hcs⟩ := row_all17 (unhide HOWN) (by omega)
      rw [h12]
      go_wp2
      go_ret
      exact ⟨g, cp, zs, rfl, h12, unhide HZS, by have := hb12.size; omega, hg, hcs, hb12.trans (only_below (unhide HG) (Nat.le_refl _) hb12.size)⟩
end Go.Proofs.Ytchdempffkeaoaa
namespace Go.Proofs.Ytchdempffkeaoaa
open Go.RowKit
/-- Decimal figures of a number: the library's own word for them. -/
def dg (n : Nat) : List UInt8 := Lib.decDigits n
theorem dg_small (n : Nat) (h : n < 10) : dg n = [UInt8.ofNat (48 + n)] := by unfold dg; rw [Lib.decDigits, dif_pos h]
theorem dg_big (n : Nat) (h : ¬ n < 10) : dg n = dg (n / 10) ++ [UInt8.ofNat (48 + n % 10)] := by unfold dg; rw [Lib.decDigits, dif_neg h]
theorem dg_len : ∀ (k n : Nat), n < 10 ^ (k + 1) → (dg n).length ≤ k + 1
  | 0, n, h => by rw [dg_small n (by simpa using h)]; simp
  | k + 1, n, h => by
    by_cases hn : n < 10
    · rw [dg_small n hn]; simp
    · rw [dg_big n hn]
      have := dg_len k (n / 10) (by rw [Nat.pow_succ] at h; omega)
      simp; omega
def dgz (n : Nat) : List UInt8 := if n = 0 then [] else dg n
theorem dgz_zero : dgz 0 = [] := rfl
theorem dgz_pos (n : Nat) (h : n ≠ 0) : dgz n = dg n := by simp [dgz, h]
theorem dgz_step (m : Nat) (h : m ≠ 0) : dgz m = dgz (m / 10) ++ [UInt8.ofNat (48 + m % 10)] := by
  rw [dgz_pos m h]
  by_cases h1 : m < 10
  · rw [dg_small m h1, show m / 10 = 0 by omega, dgz_zero, show m % 10 = m by omega]; rfl
  · rw [dg_big m h1, dgz_pos _ (by omega)]
theorem u8_48 (x : Nat) (h : x < 10) : ((UInt8.ofNat (48 + x)).toNat : Int) = 48 + (x : Int) := by rw [u8_nat _ (by omega)]; omega
theorem figure_dec (x : Nat) (b : UInt8) (w : World) (h : x < 10) (hb : b = UInt8.ofNat (48 + x)) :
    Calls Try.prog 15 #[.int .i64 x] w fun e w' => e = .returned (.int .u8 b.toNat) ∧ w = w' := by
  subst hb
  go_enter Try.func15, Try.ntmps15
  go_wp2
  go_ret
  exact ⟨ret_int (by rw [u8_48 x h]), rfl⟩
theorem run_one (b : UInt8) (w : World) : (convert 22 9 (.slice (some ⟨w.heap.size, 0, none⟩) 1 1)).run Try.prog (w.alloc (.cells #[.int .u8 (b.toNat : Int)] 5)) = .ok (.string ⟨#[b]⟩) (w.alloc (.cells #[.int .u8 (b.toNat : Int)] 5)) :=
  run_string_own (P := Try.prog) _ 22 9 5 Try.underlying22 Try.underlying5 Try.underlying9 [b] (World.ownsRow_lit (base := 0) w #[bv b] 1 (Nat.zero_le _) (by decide) rfl)
theorem ba_cons (b : UInt8) (t : List UInt8) : (⟨#[b]⟩ ++ ⟨t.toArray⟩ : ByteArray) = ⟨(b :: t).toArray⟩ := by
  apply ByteArray.ext
  rw [ByteArray.data_append]
  simp
set_option maxHeartbeats 4000000 in
set_option maxRecDepth 100000 in
theorem decimal_pos (n : Nat) (w : World) (hn : n ≤ 9223372036854775807) :
    Calls Try.prog 7 #[.int .i64 n] w fun e w' => e = .returned (.string ⟨(dg n).toArray⟩) ∧ Below w.heap.size w w' := by
  by_cases h0 : n = 0
  · subst h0
    go_enter Try.func7, Try.ntmps7
    go_wp2
    go_ret
    exact ⟨ret_str (by rw [dg_small 0 (by decide)]; rfl), Below.refl _ _⟩
  · have h0' : ((n : Int) == 0) = false := by simp; omega
    have hl := dg_len 18 n (by omega)
    go_enter Try.func7, Try.ntmps7
    go_wp2
    go_loopw [0, 4] (fun nv sv wr => ∃ (m : Nat) (t : List UInt8), nv = .int .i64 (m : Int) ∧ sv = .string ⟨t.toArray⟩ ∧ m ≤ n ∧ dgz m ++ t = dg n ∧ Below w.heap.size w wr) (fun nv _ _ => (intOf nv).toNat)
    case atStart => exact ⟨n, [], rfl, rfl, Nat.le_refl _, by rw [dgz_pos n h0]; simp, Below.refl _ _⟩
    case round =>
      clear h0'
      obtain ⟨m, t, rfl, rfl, hm, ht, hb⟩ := hrel
      have hsz := hb.size
      have htl : t.length ≤ 19 := by have := congrArg List.length ht; simp at this; omega
      have HT := (show Hid (dgz m ++ t = dg n) from ht)
      clear ht hl
      by_cases hz : m = 0
      · have hz' : ((m : Int) != 0) = false := by simp; omega
        have HZ := (show Hid (m = 0) from hz)
        clear hz
        go_wp2
        go_ret
        exact ⟨ret_str (by rw [← HT.out, HZ.out]; rfl), hb⟩
      · have hz' : ((m : Int) != 0) = true := by simp; omega
        obtain ⟨d, hd⟩ : ∃ d : Nat, m % 10 = d := ⟨_, rfl⟩
        have hdi : (m : Int) % 10 = (d : Int) := by omega
        have hdb : d < 10 := by omega
        have HD := (show Hid (m % 10 = d) from hd)
        obtain ⟨b, hbb⟩ : ∃ b, b = UInt8.ofNat (48 + d) := ⟨_, rfl⟩
        have HBB := (show Hid (b = UInt8.ofNat (48 + d)) from hbb)
        have hone := run_one b wr
        clear hd hbb
        go_wp2_with fail
        refine (figure_dec d b _ hdb HBB.out).mono ?_; rintro e w1 ⟨rfl, rfl⟩
        go_wp2
        go_roundw
        case rel => exact ⟨m / 10, b :: t, by go_num, by rw [ba_cons], by omega, by rw [← HT.out, dgz_step m hz, HD.out, ← HBB.out]; simp, hb.alloc hsz _⟩
        case measure => simp [intOf]; omega
end Go.Proofs.Ytchdempffkeaoaa
namespace Go.Proofs.Ytchdempffkeaoaa
open Go.RowKit Go.ChangeMaps
/-- The slice reads as these texts, in a block from B on. -/
def SlV (W : World) (B : Nat) (a : Option Addr) (n c : Nat) (G : List ByteArray) : Prop :=
  G.length = n ∧ (a = none → c = 0) ∧ n ≤ c ∧ (∀ i (h : i < G.length), ∃ k o, a = some ⟨k, o, none⟩ ∧ W.cell? ⟨k, o + i, none⟩ = some (.string G[i])) ∧ ∀ q, Value.ownBlock (.slice a n c) = some q → B ≤ q ∧ q < W.heap.size
section
variable {W W' : World} {B n c : Nat} {a : Option Addr} {G : List ByteArray}
theorem SlV.later (h : SlV W B a n c G) (hb : Below W.heap.size W W') : SlV W' B a n c G := by
  refine ⟨h.1, h.2.1, h.2.2.1, fun i hi => ?_, fun q hq => ⟨(h.2.2.2.2 q hq).1, Nat.lt_of_lt_of_le (h.2.2.2.2 q hq).2 hb.size⟩⟩
  obtain ⟨k, o, e, hc⟩ := h.2.2.2.1 i hi
  exact ⟨k, o, e, (cell_sameT (p := ⟨k, o + i, none⟩) (hb.block k (h.2.2.2.2 k (by rw [e]; rfl)).2)).trans hc⟩
theorem SlV.off {r : Option Nat} (h : SlV W B a n c G) (hg : W.grownBy W' r) (hk : ∀ j, Value.ownBlock (.slice a n c) = some j → r ≠ some j) : SlV W' B a n c G := by
  refine ⟨h.1, h.2.1, h.2.2.1, fun i hi => ?_, fun q hq => ⟨(h.2.2.2.2 q hq).1, Nat.lt_of_lt_of_le (h.2.2.2.2 q hq).2 hg.size⟩⟩
  obtain ⟨k, o, e, hc⟩ := h.2.2.2.1 i hi
  exact ⟨k, o, e, (cell_sameT (p := ⟨k, o + i, none⟩) (hg.block k (h.2.2.2.2 k (by rw [e]; rfl)).2 (fun q => hk k (by rw [e]; rfl) q.symm))).trans hc⟩
theorem SlV.base (h : SlV W B a n c G) {B' : Nat} (hB : B' ≤ B) : SlV W B' a n c G := ⟨h.1, h.2.1, h.2.2.1, h.2.2.2.1, fun q hq => ⟨Nat.le_trans hB (h.2.2.2.2 q hq).1, (h.2.2.2.2 q hq).2⟩⟩
theorem SlV.ss (h : SlV W B a n c G) : Ss B W.heap.size W a G := by
  refine ⟨Nat.le_refl _, fun i hi => ?_⟩
  obtain ⟨k, o, e, hc⟩ := h.2.2.2.1 i hi
  have := h.2.2.2.2 k (by rw [e]; rfl)
  exact ⟨k, o, e, this.1, this.2, hc⟩
theorem SlV.of (h : OwV W B (.slice a n c) G) : SlV W B a n c G := by
  obtain ⟨hn, hs⟩ := OwV.is h
  refine ⟨hn.symm, fun e => ?_, ?_, fun i hi => ?_, fun q hq => World.ownsRow.lt h q hq⟩
  · obtain ⟨a', c', h1, h2⟩ := OwV.shape h
    simp only [Value.slice.injEq] at h1
    obtain ⟨rfl, _, rfl⟩ := h1
    exact h2 e
  · rcases Nat.eq_zero_or_pos G.length with h0 | h0
    · omega
    · obtain ⟨_, _, h4, _⟩ := own_at17 h h0
      exact h4
  · obtain ⟨k, o, e, _, hc⟩ := hs.at hi
    exact ⟨k, o, e, hc⟩
/-- Behind the first. -/
theorem SlV.tail {ad : Addr} {n c : Nat} (h : SlV W B (some ad) n c G) (hn : 0 < n) : SlV W B (if c = 1 then some ad else some (ad.add 1)) (n - 1) (c - 1) G.tail := by
  obtain ⟨h1, h2, h3, h4, h5⟩ := h
  obtain ⟨k0, o0, e0, _⟩ := h4 0 (by omega)
  simp only [Option.some.injEq] at e0
  subst e0
  have hown := h5 k0 rfl
  refine ⟨by rw [List.length_tail, h1], fun e => (by split at e <;> cases e), by omega, fun i hi => ?_, fun q hq => ?_⟩
  · rw [List.length_tail] at hi
    obtain ⟨k, o, e, hc⟩ := h4 (i + 1) (by omega)
    simp only [Option.some.injEq, Addr.mk.injEq, and_true] at e
    obtain ⟨rfl, rfl⟩ := e
    rw [if_neg (by omega), addr_add]
    refine ⟨_, _, rfl, ?_⟩
    rw [show o0 + 1 + i = o0 + (i + 1) by omega, hc, List.getElem_tail]
  · have : q = k0 := by split at hq <;> simpa [Value.ownBlock, Addr.add] using hq.symm
    subst this
    exact hown
end
/-- Whether the first has come, as the program asks. -/
def ackI (nx : Int) (gn : Nat) (a : Int) : Bool := decide (0 < gn) && (decide (nx < a) && decide (a - 1 = nx))
theorem hAck_ackI {ep nx : Int} {G : List ByteArray} {e a : Int} (h : 1 ≤ nx) : hAck ep nx G e a = (decide (e = ep) && ackI nx G.length a) := by
  unfold hAck ackI
  congr 2
  rw [Bool.eq_iff_iff]
  simp only [Bool.and_eq_true, decide_eq_true_eq]
  omega
set_option maxHeartbeats 800000 in
set_option maxRecDepth 100000 in
theorem acksFirst_any (ep nx wt : Int) (ga : Option Addr) (gn gc : Nat) (a : Int) (w : World) (ha : 0 - 9223372036854775808 ≤ a ∧ a ≤ 9223372036854775807) (hn : 0 - 9223372036854775808 ≤ nx) :
    Calls Try.prog 22 #[lkv ep (.slice ga gn gc) nx wt, .int .i64 a] w fun e w' => e = .returned (.bool (ackI nx gn a)) ∧ Below w.heap.size w w' := by
  obtain ⟨W0, hW0⟩ : ∃ W0, w.alloc (.cells #[.int .i64 ep, .slice ga gn gc, .int .i64 nx, .int .i64 wt] 28) = W0 := ⟨_, rfl⟩
  have b0 : Below w.heap.size w W0 := by subst hW0; exact bpush (bre _) _
  have x0 : Lk W0 w.heap.size 28 ep (.slice ga gn gc) nx wt := by subst hW0; exact Lk.new _ _ _ _ _ _
  have B0 := hid b0
  have c0 := x0.cells
  have HW := hid hW0
  clear x0 b0 hW0
  obtain ⟨k, hk⟩ : ∃ k, ackI nx gn a = k := ⟨_, rfl⟩
  rw [hk]
  have HK := hid hk
  clear hk
  by_cases h0 : 0 < gn
  rotate_left
  · obtain rfl : gn = 0 := by omega
    go_enter Try.func22, Try.ntmps22
    go_upto_region 1 with fail
    rw [HW.out]
    go_wp2
    go_ret
    exact ⟨by rw [← HK.out]; rfl, B0.out⟩
  have h0i : (0 : Int) < (gn : Int) := by omega
  by_cases h1 : nx < a
  rotate_left
  · have hf : k = false := by rw [← HK.out]; unfold ackI; simp [h1]
    subst hf
    go_enter Try.func22, Try.ntmps22
    go_upto_region 1 with fail
    rw [HW.out]
    go_wp2
    go_ret
    exact ⟨rfl, B0.out⟩
  by_cases h2 : a - 1 = nx
  · have hf : k = true := by rw [← HK.out]; unfold ackI; simp [h0, h1, h2]
    subst hf
    have h3 : (a - 1 == nx) = true := by simp [h2]
    go_enter Try.func22, Try.ntmps22
    go_upto_region 1 with fail
    rw [HW.out]
    go_wp2
    go_ret
    exact ⟨rfl, B0.out⟩
  · have hf : k = false := by rw [← HK.out]; unfold ackI; simp [h2]
    subst hf
    have h3 : (a - 1 == nx) = false := by simp [h2]
    go_enter Try.func22, Try.ntmps22
    go_upto_region 1 with fail
    rw [HW.out]
    go_wp2
    go_ret
    exact ⟨rfl, B0.out⟩
end Go.Proofs.Ytchdempffkeaoaa
