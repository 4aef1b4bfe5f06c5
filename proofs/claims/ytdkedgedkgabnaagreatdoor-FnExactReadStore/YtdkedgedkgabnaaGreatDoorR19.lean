/- Wf, Ws, Wg, Lrs, Tkl. -/
import Derived.Test.YtdkedgedkgabnaaGreatDoorR18
namespace Go.Proofs.YtdkedgedkgabnaaGreatDoor
open Go.RowKit Go.ChangeMaps
section
variable {s : ByteArray} {a y c1 tm c2 : Int} {S : List X7} {c3 : Int} {G : List Int} {c4 : Int}
theorem ist_n1 (h1 : rd s a = none) : ist s a = none := by unfold ist; rw [h1]; rfl
theorem ist_n2 (h1 : rd s a = some (y, c1)) (h2 : rd s c1 = none) : ist s a = none := by unfold ist; rw [h1]; simp only [Option.bind_some]; rw [h2]; rfl
theorem ist_n3 (h1 : rd s a = some (y, c1)) (h2 : rd s c1 = some (tm, c2)) (h3 : ibs s c2 = none) : ist s a = none := by unfold ist; rw [h1]; simp only [Option.bind_some]; rw [h2]; simp only [Option.bind_some]; rw [h3]; rfl
theorem ist_n4 (h1 : rd s a = some (y, c1)) (h2 : rd s c1 = some (tm, c2)) (h3 : ibs s c2 = some (S, c3)) (h4 : iis s c3 = none) : ist s a = none := by unfold ist; rw [h1]; simp only [Option.bind_some]; rw [h2]; simp only [Option.bind_some]; rw [h3]; simp only [Option.bind_some]; rw [h4]; rfl
theorem ist_y (h1 : rd s a = some (y, c1)) (h2 : rd s c1 = some (tm, c2)) (h3 : ibs s c2 = some (S, c3)) (h4 : iis s c3 = some (G, c4)) : ist s a = if sOk y tm S G = true then some ((y, tm, S, G), c4) else none := by unfold ist; rw [h1]; simp only [Option.bind_some]; rw [h2]; simp only [Option.bind_some]; rw [h3]; simp only [Option.bind_some]; rw [h4]; rfl
end
structure Rsi (w W : World) (k : Nat) (s : ByteArray) (y tm : Int) (bv gv : Value) (c : Int) : Prop where
 zero : Sx W w.heap.size 27 0 0 (.slice none 0 0) (.slice none 0 0)
 box : Sx W (w.heap.size + 1) 27 y tm bv gv
 cur : Dg W k s c
 far : k < w.heap.size
 gr : w.grownBy W (some k)
section
variable {w W W' : World} {k : Nat} {s : ByteArray} {y tm : Int} {bv gv : Value} {c : Int}
theorem Rsi.later (h : Rsi w W k s y tm bv gv c) (hb : Below W.heap.size W W') : Rsi w W' k s y tm bv gv c :=
 ⟨h.zero.later hb, h.box.later hb, h.cur.later hb, h.far, wtr h.gr (grown_below hb _)⟩
theorem Rsi.read {c' : Int} (h : Rsi w W k s y tm bv gv c) (hg : W.grownBy W' (some k)) (hc : Dg W' k s c') : Rsi w W' k s y tm bv gv c' :=
 have hf := h.far
 ⟨h.zero.grown hg (by simp; omega), h.box.grown hg (by simp; omega), hc, h.far, wtr h.gr hg⟩
theorem Rsi.put {i : Nat} {x : Value} {y' tm' : Int} {bv' gv' : Value} (h : Rsi w W k s y tm bv gv c) (hx : Sx (W.setCell ⟨w.heap.size + 1, i, none⟩ x) (w.heap.size + 1) 27 y' tm' bv' gv') : Rsi w (W.setCell ⟨w.heap.size + 1, i, none⟩ x) k s y' tm' bv' gv' c :=
 have hf := h.far
 ⟨heap_setCell_far x h.zero (by omega), hx, h.cur.far x (by omega), h.far, wst_new h.gr (by omega) i x⟩
end
def Sto1 (w : World) (k : Nat) (s : ByteArray) (a : Int) (e : Ending) (w' : World) : Prop :=
 (∃ y tm S G c ba bc ga gc, ist s a = some ((y, tm, S, G), c) ∧ e = .returned (.agg #[.int .i64 y, .int .i64 tm, .slice ba S.length bc, .slice ga G.length gc]) ∧ Dg w' k s c ∧ OwT w' w.heap.size (.slice ba S.length bc) (.slice ga G.length gc) S G ∧ w.grownBy w' (some k)) ∨ (ist s a = none ∧ e = .panicked notHere ∧ w.grownBy w' (some k))
theorem Sto1.no {w : World} {k : Nat} {s : ByteArray} {a : Int} {w' : World} (h : ist s a = none) (hg : w.grownBy w' (some k)) : Sto1 w k s a (.panicked notHere) w' := Or.inr ⟨h, rfl, hg⟩
set_option maxHeartbeats 8000000 in
set_option maxRecDepth 100000 in
theorem rstore_any (k : Nat) (s : ByteArray) (a : Int) (w : World) (hs : s.size ≤ 1048576) (hc : Dg w k s a) :
  Calls Tryz.prog 37 #[.pointer (some ⟨k, 0, none⟩)] w fun e w' => Sto1 w k s a e w' := by
 have HSZ := hid hs
 have R0 : Hid (Rsi w ((w.alloc (.cells #[.int .i64 0, .int .i64 0, .slice none 0 0, .slice none 0 0] 27)).alloc (.cells #[.int .i64 0, .int .i64 0, .slice none 0 0, .slice none 0 0] 27)) k s 0 0 (.slice none 0 0) (.slice none 0 0) a) := hid (by
   have h2 := Sx.new (w.alloc (.cells #[.int .i64 0, .int .i64 0, .slice none 0 0, .slice none 0 0] 27)) 27 0 0 (.slice none 0 0) (.slice none 0 0)
   rw [show (w.alloc (.cells #[.int .i64 0, .int .i64 0, .slice none 0 0, .slice none 0 0] 27)).heap.size = w.heap.size + 1 by simp] at h2
   exact ⟨(Sx.new w _ _ _ _ _).later (bpush (bre _) _), h2, hc.later (bpush (bpush (bre _) _) _), hc.lt, grown_below (bpush (bpush (bre _) _) _) _⟩)
 obtain ⟨W0, hW0⟩ : ∃ W, ((w.alloc (.cells #[.int .i64 0, .int .i64 0, .slice none 0 0, .slice none 0 0] 27)).alloc (.cells #[.int .i64 0, .int .i64 0, .slice none 0 0, .slice none 0 0] 27)) = W := ⟨_, rfl⟩
 rw [hW0] at R0
 have HW0 := hid hW0
 clear hs hc hW0
 go_enter Tryz.func37, Tryz.ntmps37
 go_wp2_with fail
 rw [HW0.out]
 clear HW0
 refine (numr_any k s a _ HSZ.out R0.out.cur).mono ?_; rintro e w1 (⟨y, c1, hr, rfl, hd, hg⟩ | ⟨hr, rfl, hg⟩)
 case inr =>
  have P := hid (Sto1.no (ist_n1 hr) (wtr R0.out.gr hg))
  clear hr hg
  go_wp2_with fail
  exact ⟨rfl, P.out⟩
 have H1 := hid hr
 have R1 := hid (R0.out.read hg hd)
 have d8 := R1.out.box.cells
 have f8 := R1.out.box.loose
 have Q1 := hid (R1.out.put (R1.out.box.s0 y))
 clear hr hd hg R0
 go_wp2_with fail
 clear d8 f8 R1
 refine (numr_any k s c1 _ HSZ.out Q1.out.cur).mono ?_; rintro e w2 (⟨tm, c2, hr, rfl, hd, hg⟩ | ⟨hr, rfl, hg⟩)
 case inr =>
  have P := hid (Sto1.no (ist_n2 H1.out hr) (wtr Q1.out.gr hg))
  clear hr hg
  go_wp2_with fail
  exact ⟨rfl, P.out⟩
 have H2 := hid hr
 have R2 := hid (Q1.out.read hg hd)
 have d8 := R2.out.box.cells
 have f8 := R2.out.box.loose
 have Q4 := hid (R2.out.put (R2.out.box.s1 tm))
 clear hr hd hg Q1
 go_wp2_with fail
 clear d8 f8 R2
 refine (lboxes_any k s c2 _ HSZ.out Q4.out.cur).mono ?_; rintro e w5 (⟨S, Y, v, c3, hr, hZ, rfl, hd, ho, hg⟩ | ⟨hr, rfl, hg⟩)
 case inr =>
  have P := hid (Sto1.no (ist_n3 H1.out H2.out hr) (wtr Q4.out.gr hg))
  clear hr hg
  go_wp2_with fail
  exact ⟨rfl, P.out⟩
 have H5 := hid hr
 have hlen : Y.length = S.length := by rw [← hZ, List.length_map]
 have HZ := hid hZ
 have hsz4 := Q4.out.box.lt
 obtain ⟨ma, mc, hv⟩ := ho.shape
 subst hv
 rw [hlen] at ho
 rw [hlen]
 have HL : Hid (S.length ≤ 1048576 ∧ Sb S) := hid (by
   have h1 := hr
   unfold ibs at h1
   cases h2 : rd s c2 with
   | none => rw [h2] at h1; cases h1
   | some p =>
     rw [h2] at h1
     simp only [Option.bind_some] at h1
     have h3 := rbs_end h1
     have h4 := rbs_right h1
     have h5 := rd_lt (n := p.1) (c := p.2) h2
     have h6 := HSZ.out
     refine ⟨?_, sb_right h4.2⟩
     by_cases h7 : 0 < p.1.toNat
     · have := h3.2.2 h7; omega
     · omega)
 have R5 := hid (Q4.out.read hg hd)
 have d8 := R5.out.box.cells
 have f8 := R5.out.box.loose
 have Q5 := hid (R5.out.put (R5.out.box.s2 (.slice ma S.length mc)))
 have O5 : Hid (OwS (w5.setCell ⟨w.heap.size + 1, 2, none⟩ (.slice ma S.length mc)) _ (.slice ma S.length mc) Y) := hid (ho.grown (wst (wre w5 (some (w.heap.size + 1))) 2 (.slice ma S.length mc)) hsz4)
 have S5 : Hid (w.heap.size + 1 < (w2.setCell ⟨w.heap.size + 1, 1, none⟩ (.int .i64 tm)).heap.size) := hid hsz4
 have S45 : Hid ((w2.setCell ⟨w.heap.size + 1, 1, none⟩ (.int .i64 tm)).heap.size ≤ w5.heap.size) := hid hg.size
 obtain ⟨B5, hB5⟩ : ∃ n, (w2.setCell ⟨w.heap.size + 1, 1, none⟩ (.int .i64 tm)).heap.size = n := ⟨_, rfl⟩
 rw [hB5] at O5 S5 S45
 obtain ⟨mn, hmn⟩ : ∃ n, S.length = n := ⟨_, rfl⟩
 rw [hmn] at Q5 O5 HL
 rw [hmn]
 have HMN := hid hmn
 clear hr hd hg ho Q4 hZ hlen hsz4 hB5 hmn
 go_wp2_with fail
 clear d8 f8 R5
 refine (lints_any k s c3 _ HSZ.out Q5.out.cur).mono ?_; rintro e w6 (⟨G, gv, c6, hr, rfl, hd, ho, hg⟩ | ⟨hr, rfl, hg⟩)
 case inr =>
  have P := hid (Sto1.no (ist_n4 H1.out H2.out H5.out hr) (wtr Q5.out.gr hg))
  clear hr hg
  go_wp2_with fail
  exact ⟨rfl, P.out⟩
 have H6 := hid hr
 have hsz5 := Q5.out.box.lt
 have hk := Q5.out.far
 have hs5 := S5.out
 have O6a := O5.out.grown hg (by omega)
 have hrow : Hid (∀ j, (Value.slice ma mn mc).ownBlock = some j → j < (w5.setCell ⟨w.heap.size + 1, 2, none⟩ (.slice ma mn mc)).heap.size) := hid (fun j hj => (O5.out.row.lt j hj).2)
 have heach : Hid (∀ y ∈ Y, y.hi ≤ (w5.setCell ⟨w.heap.size + 1, 2, none⟩ (.slice ma mn mc)).heap.size) := hid (fun y hy => (O5.out.each y hy).1.top)
 obtain ⟨ga, gc, hv, _⟩ := OwI.shape ho
 subst hv
 have HG : Hid (G.length ≤ 1048576) := hid (by
   have h1 := hr
   unfold iis at h1
   cases h2 : rd s c3 with
   | none => rw [h2] at h1; cases h1
   | some p =>
     rw [h2] at h1
     simp only [Option.bind_some] at h1
     have h3 := rds_lt h1
     have h4 := rds_len h1
     have h5 := rd_lt (n := p.1) (c := p.2) h2
     have h6 := HSZ.out
     by_cases h7 : 0 < p.1.toNat
     · have := h3.2 h7; omega
     · omega)
 have R6 := hid (Q5.out.read hg hd)
 have d8 := R6.out.box.cells
 have f8 := R6.out.box.loose
 have Q6 := hid (R6.out.put (R6.out.box.s3 (.slice ga G.length gc)))
 have O6 : Hid (OwS (w6.setCell ⟨w.heap.size + 1, 3, none⟩ (.slice ga G.length gc)) B5 (.slice ma mn mc) Y) := hid (O6a.grown (wst (wre w6 (some (w.heap.size + 1))) 3 (.slice ga G.length gc)) hs5)
 have I6 : Hid (OwI (w6.setCell ⟨w.heap.size + 1, 3, none⟩ (.slice ga G.length gc)) (w5.setCell ⟨w.heap.size + 1, 2, none⟩ (.slice ma mn mc)).heap.size (.slice ga G.length gc) G) := hid (ownI_far ho (wst (wre w6 (some (w.heap.size + 1))) 3 (.slice ga G.length gc)) hsz5)
 have HFAR : Hid (∀ j, (Value.slice ga G.length gc).ownBlock = some j → (w5.setCell ⟨w.heap.size + 1, 2, none⟩ (.slice ma mn mc)).heap.size ≤ j) := hid (fun j hj => (World.ownsRow.lt ho j hj).1)
 have S6 : Hid (B5 ≤ (w5.setCell ⟨w.heap.size + 1, 2, none⟩ (.slice ma mn mc)).heap.size) := hid (by have h1 := S45.out; simpa [World.setCell] using h1)
 obtain ⟨B6, hB6⟩ : ∃ n, (w5.setCell ⟨w.heap.size + 1, 2, none⟩ (.slice ma mn mc)).heap.size = n := ⟨_, rfl⟩
 rw [hB6] at I6 HFAR hrow heach S6
 obtain ⟨gn, hgn⟩ : ∃ n, G.length = n := ⟨_, rfl⟩
 rw [hgn] at Q6 O6 I6 HG HFAR
 rw [hgn]
 have HGN := hid hgn
 clear hr hd hg ho Q5 hsz5 hk hs5 hB6 O6a hgn O5
 go_wp2_with fail
 clear d8 f8 R6
 obtain ⟨W6, hW6⟩ : ∃ W, w6.setCell ⟨w.heap.size + 1, 3, none⟩ (.slice ga gn gc) = W := ⟨_, rfl⟩
 rw [hW6] at Q6 O6 I6
 try rw [hW6]
 have e8 := Q6.out.box.cells
 clear hW6
 obtain ⟨q, hq⟩ : ∃ q, sOk y tm S G = q := ⟨_, rfl⟩
 have CB := implStoreOk_any _ _ _ _ y tm ma mn mc ga gn gc S G W6 HMN.out HL.out.1 HL.out.2 (HZ.out ▸ (O6.out.bs).2) HGN.out HG.out (OwI.is I6.out).2
 rw [hq] at CB
 have HRB : Hid (ist s a = if q = true then some ((y, tm, S, G), c6) else none) := hid (by rw [ist_y H1.out H2.out H5.out H6.out, hq])
 refine CB.mono ?_; rintro e w7 ⟨rfl, hb7⟩
 have R7 := hid (Q6.out.later hb7)
 have O7 := hid (O6.out.later hb7)
 have I7 := hid (own_later I6.out hb7)
 have d8 := R7.out.box.cells
 have d4 := R7.out.zero.cells
 have f4 := R7.out.zero.loose
 clear hb7 CB e8 Q6 O6 I6
 cases q
 ·have P := hid (Sto1.no (by rw [HRB.out]; rfl) R7.out.gr)
  go_wp2_with fail
  refine (must_no _).mono ?_; rintro e w8 ⟨rfl, rfl⟩
  go_wp2_with fail
  exact ⟨rfl, P.out⟩
 ·go_wp2_with fail
  refine (must_yes _).mono ?_; rintro e w8 ⟨rfl, rfl⟩
  go_wp2
  have hX := Sx.put4 R7.out.zero y tm (.slice ma mn mc) (.slice ga gn gc)
  unfold put4 at hX
  have d := hX.cells
  have hmn := HMN.out
  have hgn := HGN.out
  refine bodyPost_ret (v := .agg #[.int .i64 y, .int .i64 tm, .slice ma mn mc, .slice ga gn gc]) (by simp [results, Tryz.results37, go_sem, d]) rfl ?_
  have hg7 := (wst (wst (wst (wst (wre w8 (some w.heap.size)) 0 (.int .i64 y)) 1 (.int .i64 tm)) 2 (.slice ma mn mc)) 3 (.slice ga gn gc))
  have l1 := R7.out.far
  have l2 := S5.out
  have l3 := S6.out
  refine Or.inl ⟨y, tm, S, G, c6, ma, mc, ga, gc, by rw [HRB.out]; rfl, by rw [hmn, hgn], ?_, ?_, ?_⟩
  ·exact (hg7.block k (by have := R7.out.gr.size; omega) (by simp; omega)).trans R7.out.cur
  ·rw [hmn, hgn]
   exact ⟨Y, HZ.out, (O7.out.grown hg7 (by omega)).base (by omega), own_base (ownI_far I7.out hg7 (by omega)) (by omega), fun j h1 h2 => by have h3 := HFAR.out j h1; have h4 := hrow.out j h2; omega, fun y hy j h1 => by have h3 := HFAR.out j h1; have h4 := heach.out y hy; omega⟩
  ·exact wst_new (wst_new (wst_new (wst_new R7.out.gr (Nat.le_refl _) 0 _) (Nat.le_refl _) 1 _) (Nat.le_refl _) 2 _) (Nat.le_refl _) 3 _
theorem drewStore {W : World} {B : Nat} {bv gv : Value} {S : List X7} {G : List Int} (h : OwT W B bv gv S G) : OwT W.drew B bv gv S G := h.later (bdr (bre W))
def CloStore (w : World) (kr km : Nat) (s : ByteArray) (a : Int) (w' : World) : Prop :=
 ∃ y tm S G c ba bc ga gc, ist s a = some ((y, tm, S, G), c) ∧ Dg w' kr s c ∧ Sx w' km 27 y tm (.slice ba S.length bc) (.slice ga G.length gc) ∧ OwT w' w.heap.size (.slice ba S.length bc) (.slice ga G.length gc) S G ∧ Kept2 w w' kr km
set_option maxHeartbeats 400000 in
set_option maxRecDepth 100000 in
theorem closStore_any (kf kr km ft : Nat) (s : ByteArray) (a : Int) (w : World) (hs : s.size ≤ 1048576) (hf : Fg w kf ft 37) (hd : Dg w kr s a) (hm : Sx w km 27 0 0 (.slice none 0 0) (.slice none 0 0)) (hne : kr ≠ km) :
  Calls Tryz.prog 125 #[.pointer (some ⟨kf, 0, none⟩), .pointer (some ⟨kr, 0, none⟩), .pointer (some ⟨km, 0, none⟩)] w fun e w' => (e = .returned (.tuple #[]) ∧ CloStore w kr km s a w') ∨ (e = .panicked notHere ∧ ist s a = none ∧ w.grownBy w' (some kr)) := by
 have HD := hid hd
 have HM := hid hm
 have HS := hid hs
 have HNE := hid hne
 have cf := hf.cell
 clear hd hm hs hne hf
 go_enter Tryz.func125, Tryz.ntmps125
 go_wp2_with fail
 refine (rstore_any kr s a _ HS.out HD.out).mono ?_; rintro e w1 (⟨y, tm, S, G, c, ba, bc, ga, gc, hr, rfl, hd, ho, hg⟩ | ⟨hr, rfl, hg⟩)
 case inr =>
  have H := hid hr
  have G := hid hg
  clear hr hg
  go_wp2_with fail
  exact ⟨rfl, Or.inr ⟨rfl, H.out, G.out⟩⟩
 have H := hid hr
 have M1 := hid (HM.out.grown hg (by have := HNE.out; simp; omega))
 have D1 := hid hd
 have O1 := hid ho
 have K1 : Hid (Kept2 w w1 kr km) := Kept2.of_grown hg
 have LM : Hid (km < w.heap.size) := HM.out.lt
 have c := M1.out.cells
 have f := M1.out.loose
 clear hr hd ho hg cf
 go_wp2
 go_end0
 have hne := HNE.out
 have hX := Sx.put4 M1.out y tm (.slice ba S.length bc) (.slice ga G.length gc)
 unfold put4 at hX
 refine Or.inl ⟨rfl, y, tm, S, G, _, ba, bc, ga, gc, H.out, ?_, hX, ?_, ?_⟩
 ·exact ((wst (wst (wst (wst (wre w1 (some km)) _ _) _ _) _ _) _ _).block kr D1.out.lt (by simp; omega)).trans D1.out
 ·exact OwT.grown (O1.out) ((wst (wst (wst (wst (wre w1 (some km)) _ _) _ _) _ _) _ _)) (LM.out)
 ·exact ((((K1.out.set _ _).set _ _).set _ _).set _ _)
set_option maxHeartbeats 800000 in
set_option maxRecDepth 100000 in
theorem wholeStore_any (p1 p2 p3 : Value) (w : World) (Y N : World → Prop) (hF : Calls Tryz.prog 125 #[p1, p2, p3] (w.alloc (.cells #[.bool false] 4)) fun e w1 => (e = .returned (.tuple #[]) ∧ Y w1) ∨ (e = .panicked notHere ∧ N w1)) (hY : ∀ w1, Y w1 → Bwd w1 w.heap.size false) (hN : ∀ w1, N w1 → Bwd w1 w.heap.size false) :
  Calls Tryz.prog 102 #[.func (.func 125) #[] #[p1, p2, p3]] w fun e w' => (e = .returned (.bool true) ∧ ∃ w1, Y w1 ∧ w' = (w1.setCell ⟨w.heap.size, 0, none⟩ (.bool true)).alloc (.cells #[] 146)) ∨ (e = .returned (.bool false) ∧ ∃ w1, N w1 ∧ w' = (w1.alloc (.cells #[] 146)).setCell ⟨w.heap.size, 0, none⟩ (.bool false)) := by
 have hmf : ∀ (fn : Fn) (first cap : Array Value) (w : World), (Instr.makeFunc fn first cap).run Tryz.prog w = .ok (.func fn first cap) w := fun _ _ _ _ => rfl
 have HF := hid hF
 have HY := hid hY
 have HN := hid hN
 have B0 := hid (Bwd.new w false)
 have c0 := B0.out.cell
 clear hF hY hN
 go_enter_defers Tryz.func102, Tryz.ntmps102
 go_wp2_with fail
 refine HF.out.mono ?_; rintro e w1 (⟨rfl, hy⟩ | ⟨rfl, hn⟩)
 case inr =>
  have B1 : Hid (Bwd w1 w.heap.size false) := HN.out w1 hn
  have HNN := hid hn
  clear hn c0
  go_wp2_with fail
  refine leaves_cons (f := 142) (args := #[.pointer (some ⟨w.heap.size, 0, none⟩)]) (by simp) (by simp [go_sem]) ?_
  refine (catch_panic w.heap.size false [] _ B1.out).mono ?_
  rintro e u' w'' ⟨rfl, rfl, rfl⟩
  have cc := ((B1.out.later (bpush (bre w1) (.cells #[] 146))).set false).cell
  simp [Leaves, settle, results, Tryz.results102, go_sem, cc]
  exact ⟨w1, HNN.out, rfl⟩
 have B1 : Hid (Bwd w1 w.heap.size false) := HY.out w1 hy
 have HYY := hid hy
 have c1 := B1.out.cell
 have f1 := B1.out.loose
 clear hy c0
 go_wp2
 have N2 := hid (bpush (bre (w1.setCell ⟨w.heap.size, 0, none⟩ (.bool true))) (.cells #[] 146))
 have cc := ((B1.out.set true).later N2.out).cell
 refine leaves_cons (f := 142) (args := #[.pointer (some ⟨w.heap.size, 0, none⟩)]) (by simp) (by simp [go_sem]) ?_
 refine (catch_idle w.heap.size _).mono ?_
 rintro e u' w'' ⟨rfl, rfl, rfl⟩
 simp [Leaves, settle, results, Tryz.results102, go_sem, cc]
 exact ⟨w1, HYY.out, rfl⟩
def RaStore (s : ByteArray) (a : Int) (w : World) (e : Ending) (w' : World) : Prop :=
 (∃ y tm S G c ba bc ga gc, ist s a = some ((y, tm, S, G), c) ∧ e = .returned (.tuple #[.agg #[.int .i64 y, .int .i64 tm, .slice ba S.length bc, .slice ga G.length gc], .int .i64 c, .bool true]) ∧ OwT w' w.heap.size (.slice ba S.length bc) (.slice ga G.length gc) S G ∧ Below w.heap.size w w') ∨
 (ist s a = none ∧ e = .returned (.tuple #[.agg #[.int .i64 0, .int .i64 0, .slice none 0 0, .slice none 0 0], .int .i64 0, .bool false]) ∧ Below w.heap.size w w')
theorem blocksStore (w : World) (ft : Nat) (s : ByteArray) (a : Int) (W0 : World) (h : ((w.alloc (.cells #[.func (.func 37) #[] #[]] ft)).alloc (.cells #[.int .i64 0, .int .i64 0, .slice none 0 0, .slice none 0 0] 27)).alloc (.cells #[.string s, .int .i64 a] 128) = W0) :
  Fg W0 w.heap.size ft 37 ∧ Sx W0 (w.heap.size + 1) 27 0 0 (.slice none 0 0) (.slice none 0 0) ∧ Dg W0 (w.heap.size + 1 + 1) s a ∧ Below w.heap.size w W0 := by
 subst h
 have h1 : Fg (w.alloc (.cells #[.func (.func 37) #[] #[]] ft)) w.heap.size ft 37 := heap_alloc_new w _
 have h2 := Sx.new (w.alloc (.cells #[.func (.func 37) #[] #[]] ft)) 27 0 0 (.slice none 0 0) (.slice none 0 0)
 have h3 := Dg.new ((w.alloc (.cells #[.func (.func 37) #[] #[]] ft)).alloc (.cells #[.int .i64 0, .int .i64 0, .slice none 0 0, .slice none 0 0] 27)) s a
 rw [alloc_size w] at h2
 rw [alloc_size (w.alloc _), alloc_size w] at h3
 exact ⟨h1.later (bpush (bpush (bre _) _) _), h2.later (bpush (bre _) _), h3, bpush (bpush (bpush (bre _) _) _) _⟩
set_option maxHeartbeats 1600000 in
set_option maxRecDepth 100000 in
theorem readAtStore_any (s : ByteArray) (a : Int) (w : World) (hs : s.size ≤ 1048576) :
  Calls Tryz.prog 82 #[.string s, .int .i64 a, .func (.func 37) #[] #[]] w fun e w' => RaStore s a w e w' := by
 have hmf : ∀ (fn : Fn) (first cap : Array Value) (w : World), (Instr.makeFunc fn first cap).run Tryz.prog w = .ok (.func fn first cap) w := fun _ _ _ _ => rfl
 have HSZ := hid hs
 obtain ⟨W0, hW0⟩ : ∃ W0, ((w.alloc (.cells #[.func (.func 37) #[] #[]] 64)).alloc (.cells #[.int .i64 0, .int .i64 0, .slice none 0 0, .slice none 0 0] 27)).alloc (.cells #[.string s, .int .i64 a] 128) = W0 := ⟨_, rfl⟩
 obtain ⟨f0, x0, d0, b0⟩ := blocksStore w _ s a W0 hW0
 have N1 := hid (bpush (bre W0) (.cells #[.bool false] 4))
 have LW : Hid (w.heap.size + 1 + 1 < W0.heap.size) := d0.lt
 have L1 : Hid (W0.heap.size < (W0.alloc (.cells #[.bool false] 4)).heap.size) := hid (by show _ < _; simp)
 have HB := hid b0
 have BG := hid (Bwd.new W0 false)
 have CL := wholeStore_any (.pointer (some ⟨w.heap.size, 0, none⟩)) (.pointer (some ⟨w.heap.size + 1 + 1, 0, none⟩)) (.pointer (some ⟨w.heap.size + 1, 0, none⟩)) W0 _ _ (closStore_any w.heap.size (w.heap.size + 1 + 1) (w.heap.size + 1) _ s a _ hs (f0.later N1.out) (d0.later N1.out) (x0.later N1.out) (by omega)) (by
   rintro w1 ⟨y, tm, S, G, c, ba, bc, ga, gc, _, _, _, _, hk⟩
   have l1 := LW.out
   exact (hk.block W0.heap.size BG.out.lt (by omega) (by omega)).trans BG.out) (by
   rintro w1 ⟨_, hk⟩
   have l1 := LW.out
   exact BG.out.grown hk (by simp; omega))
 have HCL := hid CL
 have X0 := hid x0
 have HW0 := hid hW0
 clear hs hW0 f0 x0 d0 b0 CL
 go_enter Tryz.func82, Tryz.ntmps82
 go_wp2_with fail
 rw [HW0.out]
 refine HCL.out.mono ?_; rintro e w1 (⟨rfl, w2, hy, rfl⟩ | ⟨rfl, w2, ⟨hr, hk⟩, rfl⟩)
 case inr =>
  have H := hid hr
  have l1 := LW.out
  have l2 := L1.out
  have E2 : Hid (Below w.heap.size w ((w2.alloc (.cells #[] 146)).setCell ⟨W0.heap.size, 0, none⟩ (.bool false))) := hid (bsk (btr (HB.out.trans (N1.out.mono (by omega) |>.trans (below_grownR hk (by intro j hj; simp at hj; omega) (by omega)))) (bpush (bre w2) _)) (by omega) 0 _)
  have F2 : Hid (Sx ((w2.alloc (.cells #[] 146)).setCell ⟨W0.heap.size, 0, none⟩ (.bool false)) (w.heap.size + 1) 27 0 0 (.slice none 0 0) (.slice none 0 0)) := hid (heap_setCell_far _ (((X0.out.later N1.out).grown hk (by simp)).later (bpush (bre w2) _)) (by omega))
  obtain ⟨w3, hw3⟩ : ∃ x, (w2.alloc (.cells #[] 146)).setCell ⟨W0.heap.size, 0, none⟩ (.bool false) = x := ⟨_, rfl⟩
  rw [hw3] at E2 F2
  rw [hw3]
  have d := F2.out.cells
  have f := F2.out.loose
  clear hr hk hw3 l1 l2
  go_wp2
  have hX := Sx.put4 F2.out 0 0 (.slice none 0 0) (.slice none 0 0)
  unfold put4 at hX
  have d := hX.cells
  exact bodyPost_ret (v := .tuple #[.agg #[.int .i64 0, .int .i64 0, .slice none 0 0, .slice none 0 0], .int .i64 0, .bool false]) (by simp [results, Tryz.results82, go_sem, d]) rfl (Or.inr ⟨H.out, rfl, E2.out.trans (below_grownR (wst (wst (wst (wst (wre w3 (some (w.heap.size + 1))) 0 (.int .i64 0)) 1 (.int .i64 0)) 2 (.slice none 0 0)) 3 (.slice none 0 0)) (by intro j hj; simp at hj; omega) E2.out.size)⟩)
 obtain ⟨y, tm, S, G, c, ba, bc, ga, gc, hr, hd, hx, ho, hk⟩ := hy
 have H := hid hr
 have l1 := LW.out
 have l2 := L1.out
 have K2 : Hid (Kept2 W0 w2 (w.heap.size + 1 + 1) (w.heap.size + 1)) := hid hk.push
 have N3 := hid (bpush (bre (w2.setCell ⟨W0.heap.size, 0, none⟩ (.bool true))) (.cells #[] 146))
 have E2 : Hid (Below w.heap.size w ((w2.setCell ⟨W0.heap.size, 0, none⟩ (.bool true)).alloc (.cells #[] 146))) := hid (HB.out.trans (((K2.out.new (Nat.le_refl _) _ _).later N3.out).below (by omega) (by omega) (by omega)))
 have D2 := hid ((hd.far (j := W0.heap.size) (i := 0) (.bool true) (by omega)).later N3.out)
 have X2 : Hid (Sx ((w2.setCell ⟨W0.heap.size, 0, none⟩ (.bool true)).alloc (.cells #[] 146)) (w.heap.size + 1) 27 y tm (.slice ba S.length bc) (.slice ga G.length gc)) := hid (((show Sx (w2.setCell ⟨W0.heap.size, 0, none⟩ (.bool true)) (w.heap.size + 1) 27 y tm (.slice ba S.length bc) (.slice ga G.length gc) from heap_setCell_far _ hx (by omega))).later N3.out)
 have O2 := hid (OwT.later (OwT.grown (ho) (wst (wre w2 (some W0.heap.size)) 0 (.bool true)) (l2)) N3.out)
 obtain ⟨w3, hw3⟩ : ∃ x, (w2.setCell ⟨W0.heap.size, 0, none⟩ (.bool true)).alloc (.cells #[] 146) = x := ⟨_, rfl⟩
 rw [hw3] at E2 D2 X2 O2
 rw [hw3]
 have d := X2.out.cells
 have f := X2.out.loose
 have dd := D2.out.cells
 clear hr hd hx ho hk hw3 l1 l2 K2 N3
 go_wp2_with fail
 go_region
 all_goals go_wp2
 all_goals
  have hX := Sx.put4 X2.out y tm (.slice ba S.length bc) (.slice ga G.length gc)
  unfold put4 at hX
  have d3 := hX.cells
  have l1 := LW.out
  have l2 := L1.out
  refine bodyPost_ret (v := .tuple #[.agg #[.int .i64 y, .int .i64 tm, .slice ba S.length bc, .slice ga G.length gc], .int .i64 c, .bool true]) (by simp [results, Tryz.results82, go_sem, d3]) rfl (Or.inl ⟨y, tm, S, G, c, ba, bc, ga, gc, H.out, rfl, ?_, ?_⟩)
  ·first | exact drewStore (OwT.base (OwT.grown (O2.out) ((wst (wst (wst (wst (wre w3 (some (w.heap.size + 1))) 0 (.int .i64 y)) 1 (.int .i64 tm)) 2 (.slice ba S.length bc)) 3 (.slice ga G.length gc))) (by omega)) (show w.heap.size ≤ _ by omega)) | exact OwT.base (OwT.grown (drewStore O2.out) ((wst (wst (wst (wst (wre w3.drew (some (w.heap.size + 1))) 0 (.int .i64 y)) 1 (.int .i64 tm)) 2 (.slice ba S.length bc)) 3 (.slice ga G.length gc))) (by omega)) (show w.heap.size ≤ _ by omega)
  ·first | exact bdr (E2.out.trans (below_grownR (wst (wst (wst (wst (wre w3 (some (w.heap.size + 1))) 0 (.int .i64 y)) 1 (.int .i64 tm)) 2 (.slice ba S.length bc)) 3 (.slice ga G.length gc)) (by intro j hj; simp at hj; omega) E2.out.size)) | exact (bdr E2.out).trans (below_grownR (wst (wst (wst (wst (wre w3.drew (some (w.heap.size + 1))) 0 (.int .i64 y)) 1 (.int .i64 tm)) 2 (.slice ba S.length bc)) 3 (.slice ga G.length gc)) (by intro j hj; simp at hj; omega) E2.out.size)
theorem Nib.on {w w' : World} (h : Nib w) (hb : Below w.heap.size w w') : Nib w' := h.later hb (World.block_lt_of_cell? _ _ (h 0 (by omega)))
theorem implUnsealed_any (s : ByteArray) (w : World) (hm : s.size ≤ 1048576) (hn : Nib w) :
  Calls Tryz.prog 35 #[.string s] w fun e w' => e = .returned (.tuple #[.string (uns s).1, .bool (uns s).2]) ∧ Below w.heap.size w w' := by
 by_cases h : 4 ≤ s.size ∧ s.size ≤ 20004
 ·by_cases h2 : tail4 (s.extract 0 (s.size - 4)) = s.extract (s.size - 4) s.size
  ·have e : uns s = (s.extract 0 (s.size - 4), true) := by unfold uns; rw [if_pos ⟨h.1, h.2, h2⟩]
   rw [e]
   exact implUnsealed_yes s (s.size - 4) w (by omega) (by omega) hn h2
  ·have e : uns s = (⟨#[]⟩, false) := by unfold uns; rw [if_neg (fun x => h2 x.2.2)]
   rw [e]
   exact implUnsealed_no s (s.size - 4) w (by omega) (by omega) hn h2
 ·have e : uns s = (⟨#[]⟩, false) := by unfold uns; rw [if_neg (fun x => h ⟨x.1, x.2.1⟩)]
  rw [e]
  exact (implUnsealed_size s w hm (by omega)).mono fun _ _ h => ⟨h.1, h.2 ▸ bre _⟩
theorem irs_no {s : ByteArray} (h : (uns s).2 = false) : irs s = none := by unfold irs; rw [h]; rfl
theorem irs_none {s u : ByteArray} (h : uns s = (u, true)) (hi : ist u 0 = none) : irs s = none := by unfold irs; rw [h]; simp only [if_true]; rw [hi]; rfl
theorem irs_some {s u : ByteArray} {y tm : Int} {S : List X7} {G : List Int} {c : Int} (h : uns s = (u, true)) (hi : ist u 0 = some ((y, tm, S, G), c)) : irs s = if c = (u.size : Int) then some (y, tm, S, G) else none := by unfold irs; rw [h]; simp only [if_true]; rw [hi]; rfl
def wh {α : Type} (o : Option (α × Int)) (n : Nat) : Option α := match o with
 | none => none
 | some p => if p.2 = (n : Int) then some p.1 else none
theorem wh_none {α : Type} {o : Option (α × Int)} (n : Nat) (h : o = none) : wh o n = none := by rw [h]; rfl
theorem wh_yes {α : Type} {o : Option (α × Int)} {n : Nat} {x : α} {c : Int} (h : o = some (x, c)) (hc : c = (n : Int)) : wh o n = some x := by rw [h]; exact if_pos hc
theorem wh_no {α : Type} {o : Option (α × Int)} {n : Nat} {x : α} {c : Int} (h : o = some (x, c)) (hc : ¬ c = (n : Int)) : wh o n = none := by rw [h]; exact if_neg hc
def RallStore (s : ByteArray) (w : World) (e : Ending) (w' : World) : Prop :=
 (∃ y tm S G ba bc ga gc, wh (ist s 0) s.size = some (y, tm, S, G) ∧ e = .returned (.tuple #[.agg #[.int .i64 y, .int .i64 tm, .slice ba S.length bc, .slice ga G.length gc], .bool true]) ∧ OwT w' w.heap.size (.slice ba S.length bc) (.slice ga G.length gc) S G ∧ Below w.heap.size w w') ∨
 (wh (ist s 0) s.size = none ∧ e = .returned (.tuple #[.agg #[.int .i64 0, .int .i64 0, .slice none 0 0, .slice none 0 0], .bool false]) ∧ Below w.heap.size w w')
set_option maxHeartbeats 4000000 in
set_option maxRecDepth 100000 in
theorem readAllStore_any (s : ByteArray) (w : World) (hs : s.size ≤ 1048576) :
  Calls Tryz.prog 36 #[.string s, .func (.func 37) #[] #[]] w fun e w' => RallStore s w e w' := by
 have HSZ := hid hs
 have Z0 := hid (Sx.new w 27 0 0 (.slice none 0 0) (.slice none 0 0))
 have LZ : Hid (w.heap.size < (w.alloc (.cells #[.int .i64 0, .int .i64 0, .slice none 0 0, .slice none 0 0] 27)).heap.size) := Z0.out.lt
 have B0 := hid (bpush (bre w) (.cells #[.int .i64 0, .int .i64 0, .slice none 0 0, .slice none 0 0] 27))
 clear hs
 go_enter Tryz.func36, Tryz.ntmps36
 go_wp2_with fail
 refine (readAtStore_any s 0 _ HSZ.out).mono ?_; rintro e w2 (⟨y, tm, S, G, c, ba, bc, ga, gc, hr, rfl, ho, hb2⟩ | ⟨hr, rfl, hb2⟩)
 ·have H := hid hr
  have hb3 := bpush hb2 (.cells #[.int .i64 y, .int .i64 tm, .slice ba S.length bc, .slice ga G.length gc] 27)
  have N3 := hid (Sx.new w2 27 y tm (.slice ba S.length bc) (.slice ga G.length gc))
  have Z3 := hid (Z0.out.later hb3)
  have B3 := hid (btr B0.out hb3)
  have O3 := hid (ho.later (bpush (bre w2) (.cells #[.int .i64 y, .int .i64 tm, .slice ba S.length bc, .slice ga G.length gc] 27)))
  have LW := LZ.out
  obtain ⟨bn, hbn⟩ : ∃ n, S.length = n := ⟨_, rfl⟩
  obtain ⟨gn, hgn⟩ : ∃ n, G.length = n := ⟨_, rfl⟩
  rw [hbn, hgn] at N3 Z3 B3 O3
  rw [hbn, hgn]
  have HL : Hid (S.length = bn ∧ G.length = gn) := hid ⟨hbn, hgn⟩
  have d5 := Z3.out.cells
  have f5 := Z3.out.loose
  have dn := N3.out.cells
  clear hr ho hb2 hb3 Z0 B0 hbn hgn LW
  by_cases hc : c = (s.size : Int)
  ·have HC := hid (wh_yes (H.out) hc)
   go_wp2
   have hX := Sx.put4 Z3.out y tm (.slice ba bn bc) (.slice ga gn gc)
   unfold put4 at hX
   have d := hX.cells
   have hg7 := (wst (wst (wst (wst (wre (w2.alloc (.cells #[.int .i64 y, .int .i64 tm, .slice ba bn bc, .slice ga gn gc] 27)) (some w.heap.size)) 0 (.int .i64 y)) 1 (.int .i64 tm)) 2 (.slice ba bn bc)) 3 (.slice ga gn gc))
   have l1 := LZ.out
   refine bodyPost_ret (v := .tuple #[.agg #[.int .i64 y, .int .i64 tm, .slice ba bn bc, .slice ga gn gc], .bool true]) (by simp [results, Tryz.results36, go_sem, d]) rfl (Or.inl ⟨y, tm, S, G, ba, bc, ga, gc, HC.out, by rw [HL.out.1, HL.out.2], ?_, ?_⟩)
   ·rw [HL.out.1, HL.out.2]; exact (O3.out.grown hg7 (by omega)).base (by omega)
   ·exact B3.out.trans (below_grownR hg7 (by intro j hj; simp at hj; omega) B3.out.size)
  ·have HC := hid (wh_no (H.out) hc)
   have d6 := (Z3.out.later (bpush (bre (w2.alloc (.cells #[.int .i64 y, .int .i64 tm, .slice ba bn bc, .slice ga gn gc] 27))) (.cells #[.int .i64 0, .int .i64 0, .slice none 0 0, .slice none 0 0] 27))).cells
   have f6 := (Z3.out.later (bpush (bre (w2.alloc (.cells #[.int .i64 y, .int .i64 tm, .slice ba bn bc, .slice ga gn gc] 27))) (.cells #[.int .i64 0, .int .i64 0, .slice none 0 0, .slice none 0 0] 27))).loose
   clear d5 f5
   go_wp2
   have hX := Sx.put4 (Z3.out.later (bpush (bre (w2.alloc (.cells #[.int .i64 y, .int .i64 tm, .slice ba bn bc, .slice ga gn gc] 27))) (.cells #[.int .i64 0, .int .i64 0, .slice none 0 0, .slice none 0 0] 27))) 0 0 (.slice none 0 0) (.slice none 0 0)
   unfold put4 at hX
   have d := hX.cells
   have hg7 := (wst (wst (wst (wst (wre ((w2.alloc (.cells #[.int .i64 y, .int .i64 tm, .slice ba bn bc, .slice ga gn gc] 27)).alloc (.cells #[.int .i64 0, .int .i64 0, .slice none 0 0, .slice none 0 0] 27)) (some w.heap.size)) 0 (.int .i64 0)) 1 (.int .i64 0)) 2 (.slice none 0 0)) 3 (.slice none 0 0))
   have B4 := btr B3.out (bpush (bre (w2.alloc (.cells #[.int .i64 y, .int .i64 tm, .slice ba bn bc, .slice ga gn gc] 27))) (.cells #[.int .i64 0, .int .i64 0, .slice none 0 0, .slice none 0 0] 27))
   refine bodyPost_ret (v := .tuple #[.agg #[.int .i64 0, .int .i64 0, .slice none 0 0, .slice none 0 0], .bool false]) (by simp [results, Tryz.results36, go_sem, d]) rfl (Or.inr ⟨HC.out, rfl, ?_⟩)
   exact B4.trans (below_grownR hg7 (by intro j hj; simp at hj; omega) B4.size)
 ·have HC := hid (wh_none s.size hr)
  have hb3 := bpush hb2 (.cells #[.int .i64 0, .int .i64 0, .slice none 0 0, .slice none 0 0] 27)
  have Z3 := hid (Z0.out.later hb3)
  have B3 := hid (btr B0.out hb3)
  have d6 := (Z3.out.later (bpush (bre (w2.alloc (.cells #[.int .i64 0, .int .i64 0, .slice none 0 0, .slice none 0 0] 27))) (.cells #[.int .i64 0, .int .i64 0, .slice none 0 0, .slice none 0 0] 27))).cells
  have f6 := (Z3.out.later (bpush (bre (w2.alloc (.cells #[.int .i64 0, .int .i64 0, .slice none 0 0, .slice none 0 0] 27))) (.cells #[.int .i64 0, .int .i64 0, .slice none 0 0, .slice none 0 0] 27))).loose
  clear hr hb2 hb3 Z0 B0
  go_wp2
  have hX := Sx.put4 (Z3.out.later (bpush (bre (w2.alloc (.cells #[.int .i64 0, .int .i64 0, .slice none 0 0, .slice none 0 0] 27))) (.cells #[.int .i64 0, .int .i64 0, .slice none 0 0, .slice none 0 0] 27))) 0 0 (.slice none 0 0) (.slice none 0 0)
  unfold put4 at hX
  have d := hX.cells
  have hg7 := (wst (wst (wst (wst (wre ((w2.alloc (.cells #[.int .i64 0, .int .i64 0, .slice none 0 0, .slice none 0 0] 27)).alloc (.cells #[.int .i64 0, .int .i64 0, .slice none 0 0, .slice none 0 0] 27)) (some w.heap.size)) 0 (.int .i64 0)) 1 (.int .i64 0)) 2 (.slice none 0 0)) 3 (.slice none 0 0))
  have B4 := btr B3.out (bpush (bre (w2.alloc (.cells #[.int .i64 0, .int .i64 0, .slice none 0 0, .slice none 0 0] 27))) (.cells #[.int .i64 0, .int .i64 0, .slice none 0 0, .slice none 0 0] 27))
  refine bodyPost_ret (v := .tuple #[.agg #[.int .i64 0, .int .i64 0, .slice none 0 0, .slice none 0 0], .bool false]) (by simp [results, Tryz.results36, go_sem, d]) rfl (Or.inr ⟨HC.out, rfl, ?_⟩)
  exact B4.trans (below_grownR hg7 (by intro j hj; simp at hj; omega) B4.size)
theorem irs_wh {s u : ByteArray} (h : uns s = (u, true)) : irs s = wh (ist u 0) u.size := by
 cases hi : ist u 0 with
 | none => rw [irs_none h hi]; rfl
 | some p =>
  obtain ⟨⟨y, tm, S, G⟩, c⟩ := p
  rw [irs_some h hi]
  by_cases hc : c = (u.size : Int)
  ·rw [if_pos hc, wh_yes rfl hc]
  ·rw [if_neg hc, wh_no rfl hc]
set_option maxHeartbeats 4000000 in
set_option maxRecDepth 100000 in
theorem implReadStore_any (s : ByteArray) (w : World) (hs : s.size ≤ 1048576) (hn : Nib w) :
  Calls Tryz.prog 8 #[.string s] w fun e w' => RsPost s w e w' := by
 have hmf : ∀ (fn : Fn) (first cap : Array Value) (w : World), (Instr.makeFunc fn first cap).run Tryz.prog w = .ok (.func fn first cap) w := fun _ _ _ _ => rfl
 have HSZ := hid hs
 have Z0 := hid (Sx.new w 27 0 0 (.slice none 0 0) (.slice none 0 0))
 have LZ : Hid (w.heap.size < (w.alloc (.cells #[.int .i64 0, .int .i64 0, .slice none 0 0, .slice none 0 0] 27)).heap.size) := Z0.out.lt
 have B0 := hid (bpush (bre w) (.cells #[.int .i64 0, .int .i64 0, .slice none 0 0, .slice none 0 0] 27))
 have CU := hid (implUnsealed_any s (w.alloc (.cells #[.int .i64 0, .int .i64 0, .slice none 0 0, .slice none 0 0] 27)) hs (hn.on B0.out))
 cases hu : uns s with
 | mk u ok =>
 have hus := uns_size s
 rw [hu] at CU hus
 dsimp only at CU hus
 have HU := hid hu
 clear hs hn hu
 go_enter Tryz.func8, Tryz.ntmps8
 go_wp2_with fail
 refine CU.out.mono ?_; rintro e w1 ⟨rfl, hb1⟩
 have Z1 := hid (Z0.out.later hb1)
 have B1 := hid (btr B0.out hb1)
 have d4 := Z1.out.cells
 have f4 := Z1.out.loose
 have l1 := Z1.out.lt
 have LW := hid l1
 clear hb1 Z0 B0 CU l1
 cases ok
 ·have HNO : Hid (rst s = none) := hid (by rw [← irs_rst]; exact irs_no (by rw [HU.out]))
  go_wp2
  have hX := Sx.put4 Z1.out 0 0 (.slice none 0 0) (.slice none 0 0)
  unfold put4 at hX
  have d := hX.cells
  exact bodyPost_ret (v := .tuple #[.agg #[.int .i64 0, .int .i64 0, .slice none 0 0, .slice none 0 0], .bool false]) (by simp [results, Tryz.results8, go_sem, d]) rfl (Or.inl ⟨HNO.out, rfl, by have h9 := below_put4 B1.out 0 0 (.slice none 0 0) (.slice none 0 0); unfold put4 at h9; exact h9⟩)
 ·have HW : Hid (irs s = wh (ist u 0) u.size) := hid (irs_wh HU.out)
  have HSU := hid (show u.size ≤ 1048576 by omega)
  go_wp2_with fail
  refine (readAllStore_any u _ HSU.out).mono ?_; rintro e w2 (⟨y, tm, S, G, ba, bc, ga, gc, hr, rfl, ho, hb2⟩ | ⟨hr, rfl, hb2⟩)
  ·have HY : Hid (rst s = some (y, tm, S, G)) := hid (by rw [← irs_rst, HW.out, hr])
   have HK : Hid (sOk y tm S G = true) := hid (by
     cases hi : ist u 0 with
     | none => rw [hi] at hr; cases hr
     | some p =>
       obtain ⟨⟨y', tm', S', G'⟩, c⟩ := p
       rw [hi] at hr
       by_cases hc : c = (u.size : Int)
       · rw [wh_yes rfl hc] at hr
         injection hr with hr
         injection hr with e1 e2
         injection e2 with e2 e3
         injection e3 with e3 e4
         subst e1; subst e2; subst e3; subst e4
         exact (ist_end hi).1
       · rw [wh_no rfl hc] at hr; cases hr)
   obtain ⟨bn, hbn⟩ : ∃ n, S.length = n := ⟨_, rfl⟩
   obtain ⟨gn, hgn⟩ : ∃ n, G.length = n := ⟨_, rfl⟩
   have Z3 := hid (Z1.out.later hb2)
   have B3 := hid (btr B1.out hb2)
   have O3 := hid ho
   rw [hbn, hgn] at O3
   rw [hbn, hgn]
   have HL : Hid (S.length = bn ∧ G.length = gn) := hid ⟨hbn, hgn⟩
   have d5 := Z3.out.cells
   have f5 := Z3.out.loose
   clear hr ho hb2 hbn hgn Z1 B1 d4 f4
   go_wp2
   have hX := Sx.put4 Z3.out y tm (.slice ba bn bc) (.slice ga gn gc)
   unfold put4 at hX
   have d := hX.cells
   have hg7 := (wst (wst (wst (wst (wre w2 (some w.heap.size)) 0 (.int .i64 y)) 1 (.int .i64 tm)) 2 (.slice ba bn bc)) 3 (.slice ga gn gc))
   have l1 := LW.out
   refine bodyPost_ret (v := .tuple #[.agg #[.int .i64 y, .int .i64 tm, .slice ba bn bc, .slice ga gn gc], .bool true]) (by simp [results, Tryz.results8, go_sem, d]) rfl (Or.inr ⟨y, tm, S, G, _, _, HY.out, HK.out, rfl, ?_, by have h9 := below_put4 B3.out y tm (.slice ba bn bc) (.slice ga gn gc); unfold put4 at h9; exact h9⟩)
   exact (O3.out.grown hg7 (by omega)).base (by omega)
  ·have HNO : Hid (rst s = none) := hid (by rw [← irs_rst, HW.out, hr])
   have Z3 := hid (Z1.out.later hb2)
   have B3 := hid (btr B1.out hb2)
   have d5 := Z3.out.cells
   have f5 := Z3.out.loose
   clear hr hb2 Z1 B1 d4 f4
   go_wp2
   have hX := Sx.put4 Z3.out 0 0 (.slice none 0 0) (.slice none 0 0)
   unfold put4 at hX
   have d := hX.cells
   exact bodyPost_ret (v := .tuple #[.agg #[.int .i64 0, .int .i64 0, .slice none 0 0, .slice none 0 0], .bool false]) (by simp [results, Tryz.results8, go_sem, d]) rfl (Or.inl ⟨HNO.out, rfl, by have h9 := below_put4 B3.out 0 0 (.slice none 0 0) (.slice none 0 0); unfold put4 at h9; exact h9⟩)
theorem owT_none (W : World) (B : Nat) : OwT W B (.slice none 0 0) (.slice none 0 0) [] [] :=
 ⟨[], rfl, ⟨⟨rfl, .inl ⟨rfl, rfl⟩⟩, (fun y hy => by cases hy), (fun y hy => by cases hy), .nil⟩, ⟨rfl, .inl ⟨rfl, rfl⟩⟩, (fun j h => by cases h), fun y hy => by cases hy⟩
theorem pairRs (s : ByteArray) (hs : s.size ≤ 1048576) :
  ∃ (p : Bool) (y tnQ : Int) (K : List X7) (H : List Int) (N M : Nat), (K.length = N ∧ N ≤ 1048576 ∧ Sb K ∧ kx 1 K ≤ 6291456) ∧ (H.length = M ∧ M ≤ 1048576) ∧ Hid (∀ (w : World), Calls Tryz.prog 10 #[.string s] w fun e w' => ∃ a c a' c', e = .returned (.tuple #[.agg #[.int .i64 y, .int .i64 tnQ, .slice a N c, .slice a' M c'], .bool p]) ∧ OwT w' w.heap.size (.slice a N c) (.slice a' M c') K H ∧ Below w.heap.size w w') ∧ Hid (∀ (w : World), Nib w → Calls Tryz.prog 8 #[.string s] w fun e w' => ∃ a c a' c', e = .returned (.tuple #[.agg #[.int .i64 y, .int .i64 tnQ, .slice a N c, .slice a' M c'], .bool p]) ∧ OwT w' w.heap.size (.slice a N c) (.slice a' M c') K H ∧ Below w.heap.size w w') := by
 have key : ∃ (p : Bool) (y tnQ : Int) (K : List X7) (H : List Int), (K.length ≤ 1048576 ∧ Sb K ∧ kx 1 K ≤ 6291456) ∧ H.length ≤ 1048576 ∧ ∀ w e w', RsPost s w e w' → ∃ a c a' c', e = .returned (.tuple #[.agg #[.int .i64 y, .int .i64 tnQ, .slice a K.length c, .slice a' H.length c'], .bool p]) ∧ OwT w' w.heap.size (.slice a K.length c) (.slice a' H.length c') K H ∧ Below w.heap.size w w' := by
  cases hr : rst s with
  | none =>
   refine ⟨false, 0, 0, [], [], ⟨by simp, (fun x hx => by cases hx), by decide⟩, by simp, fun w e w' hp => ?_⟩
   rcases hp with ⟨-, rfl, hb⟩ | ⟨y, tm, S, G, bv, gv, h1, -⟩
   ·exact ⟨none, 0, none, 0, rfl, owT_none _ _, hb⟩
   ·rw [hr] at h1; cases h1
  | some r =>
   obtain ⟨y, tm, S, G⟩ := r
   by_cases hok : sOk y tm S G = true
   ·obtain ⟨s1, s2, s3, s4⟩ := sOk_small hok
    refine ⟨true, y, tm, S, G, ⟨by omega, s2, s3⟩, by omega, fun w e w' hp => ?_⟩
    rcases hp with ⟨h1, -⟩ | ⟨y', tm', S', G', bv, gv, h1, -, rfl, ho, hb⟩
    ·rw [hr] at h1; cases h1
    ·rw [hr] at h1
     simp only [Option.some.injEq, Prod.mk.injEq] at h1
     obtain ⟨rfl, rfl, rfl, rfl⟩ := h1
     obtain ⟨a, c, a', c', rfl, rfl⟩ := ho.len
     exact ⟨a, c, a', c', rfl, ho, hb⟩
   ·refine ⟨false, 0, 0, [], [], ⟨by simp, (fun x hx => by cases hx), by decide⟩, by simp, fun w e w' hp => ?_⟩
    rcases hp with ⟨h1, -⟩ | ⟨y', tm', S', G', bv, gv, h1, h2, -⟩
    ·rw [hr] at h1; cases h1
    ·rw [hr] at h1
     simp only [Option.some.injEq, Prod.mk.injEq] at h1
     obtain ⟨rfl, rfl, rfl, rfl⟩ := h1
     exact absurd h2 hok
 obtain ⟨p, y, tnQ, K, H, k1, k2, hk⟩ := key
 exact ⟨p, y, tnQ, K, H, _, _, ⟨rfl, k1⟩, ⟨rfl, k2⟩, fun w => (specReadStore_any s w hs).mono (hk w), fun w hn => (implReadStore_any s w hs hn).mono (hk w)⟩
set_option maxHeartbeats 8000000 in
set_option maxRecDepth 100000 in
theorem lawReadStore_any (s : ByteArray) (w : World) (htx : (s.size : Int) ≤ 9223372036854775807) (hnb : Nib w) :
  Calls Tryz.prog 4 #[.string s] w fun e w' => e = .returned (.bool true) ∧ Below w.heap.size w w' := by
 have HNB := hid hnb
 clear hnb
 by_cases hbt : (1048576 : Int) < (s.size : Int)
 ·go_enter Tryz.func4, Tryz.ntmps4
  go_wp2
  go_ret
  exact ⟨rfl, bre _⟩
 obtain ⟨p, y, tnQ, K, H, N, M, ⟨k1, k2, k3, k4⟩, ⟨k5, k6⟩, CSP, CIM⟩ := pairRs s (by omega)
 have K1 := hid k1
 have K2 := hid k2
 have K3 := hid k3
 have K4 := hid k4
 have K5 := hid k5
 have K6 := hid k6
 clear k1 k2 k3 k4 k5 k6
 have xx : (p != p) = false := by cases p <;> rfl
 go_enter Tryz.func4, Tryz.ntmps4
 go_wp2_with fail
 refine (CSP.out _).mono ?_; rintro e v3 ⟨av, cv, av', cv', rfl, ho3, hb4⟩
 have hle : w.heap.size ≤ w.heap.size := Nat.le_refl _
 obtain ⟨kv, hkv⟩ : ∃ kv, v3.heap.size = kv := ⟨_, rfl⟩
 obtain ⟨w2, hw2⟩ : ∃ w2, v3.alloc (.cells #[.int .i64 y, .int .i64 tnQ, .slice av N cv, .slice av' M cv'] 27) = w2 := ⟨_, rfl⟩
 have hv : AnsS w w2 kv y tnQ (.slice av N cv) (.slice av' M cv') K H := by rw [← hw2, ← hkv]; exact anss_last ho3 hle hb4
 clear ho3 hb4 hle
 obtain ⟨BV, HV, ov, bv, tv, dv⟩ := hv.own
 have Q1 := hid tv
 have Q2 : Hid (kv < w2.heap.size) := hv.box.lt
 have Q7 : Hid (w.heap.size ≤ w2.heap.size) := hv.bel.size
 have V2 := hid hv.box
 have OV2 := hid ov
 have B2 := hid hv.bel
 clear hv ov bv tv dv
 go_wp2_with fail
 clear hw2 hkv
 refine (CIM.out _ (HNB.out.on B2.out)).mono ?_; rintro e v3 ⟨ag, cg, ag', cg', rfl, ho3, hb4⟩
 have hle : w2.heap.size ≤ w2.heap.size := Nat.le_refl _
 obtain ⟨kg, hkg⟩ : ∃ kg, v3.heap.size = kg := ⟨_, rfl⟩
 obtain ⟨w6, hw6⟩ : ∃ w6, v3.alloc (.cells #[.int .i64 y, .int .i64 tnQ, .slice ag N cg, .slice ag' M cg'] 27) = w6 := ⟨_, rfl⟩
 have hv : AnsS w2 w6 kg y tnQ (.slice ag N cg) (.slice ag' M cg') K H := by rw [← hw6, ← hkg]; exact anss_last ho3 hle hb4
 clear ho3 hb4 hle
 obtain ⟨BG, HG, ov, bv, tv, dv⟩ := hv.own
 have Q5 := hid bv
 have Q8 := hid dv
 have Q9 : Hid (w2.heap.size ≤ kg) := hv.le
 have Gb6 := hid hv.box
 have OG6 := hid ov
 have hb := hv.bel
 have B6 := hid (btr B2.out hb)
 have V6 := hid (V2.out.later hb)
 have OV6 := hid (OV2.out.later hb)
 clear hb hv ov bv tv dv B2 V2 OV2
 have e0 := Gb6.out.cells
 have e2 := V6.out.cells
 go_wp2_with fail
 clear hw6 hkg
 refine (eqStore_any _ _ _ _ _ _ _ _ y tnQ _ N _ _ M _ _ _ _ _ K H _ K1.out K2.out K3.out OG6.out.t.reads.2.2.1 OV6.out.t.reads.2.2.1 K5.out K6.out OG6.out.t.reads.2.2.2 OV6.out.t.reads.2.2.2).mono ?_; rintro e w7 ⟨rfl, hb⟩
 clear e0 e2
 have B7 := hid (btr B6.out hb)
 have V7 := hid (V6.out.later hb)
 have OV7 := hid (OV6.out.later hb)
 have Gb7 := hid (Gb6.out.later hb)
 have OG7 := hid (OG6.out.later hb)
 clear B6 V6 OV6 Gb6 OG6
 clear hb
 have e0 := Gb7.out.cells
 go_wp2_with fail
 refine (markStore_any BG HG y tnQ _ N _ _ M _ K H _ OG7.out K1.out K2.out (sb_smx K3.out) K5.out K6.out K4.out).mono ?_; rintro e w12 ⟨rfl, hmk, hc⟩
 have q1 := Q1.out
 have q2 := Q2.out
 have q5 := Q5.out
 have q7 := Q7.out
 have q8 := Q8.out
 have V8 := hid (V7.out.chg hc (by omega))
 have Gb8 := hid (Gb7.out.chg hc (by omega))
 have OV8 := hid (OV7.out.chg hc (by intro j h1 h2; omega))
 have MG8 := hid hmk
 have B8 : Hid (Below w.heap.size w w12) := B7.out.trans (hc.below B7.out.size (by intro j h; omega))
 obtain ⟨qm, hqm⟩ : ∃ qm : Nat, kx 1 K + M = qm := ⟨_, rfl⟩
 rw [hqm]
 have HQM := hid hqm
 have hm1 : ¬ ((qm : Nat) : Int) < 0 := by omega
 have hm2 : (((qm : Nat) : Int) != ((qm : Nat) : Int)) = false := by simp
 clear e0 hc hmk q1 q2 q5 q7 q8 hqm V7 Gb7 OV7 OG7 B7
 have e0 := Gb8.out.cells
 go_wp2_with fail
 refine (heldStore_any _ _ y tnQ _ N _ _ M _ K _ MG8.out K1.out K2.out (sb_smx K3.out) K6.out K4.out).mono ?_; rintro e w13 ⟨rfl, hb⟩
 rw [HQM.out]
 clear e0
 have B9 := hid (btr B8.out hb)
 have V9 := hid (V8.out.later hb)
 have OV9 := hid (OV8.out.later hb)
 have Gb9 := hid (Gb8.out.later hb)
 have MG9 := hid (MG8.out.later hb)
 clear B8 V8 OV8 Gb8 MG8
 clear hb
 go_wp2_with fail
 refine (CIM.out _ (HNB.out.on B9.out)).mono ?_; rintro e v3 ⟨ah, ch, ah', ch', rfl, ho3, hb4⟩
 have hle : w13.heap.size ≤ w13.heap.size := Nat.le_refl _
 obtain ⟨kh, hkh⟩ : ∃ kh, v3.heap.size = kh := ⟨_, rfl⟩
 obtain ⟨w14, hw14⟩ : ∃ w14, v3.alloc (.cells #[.int .i64 y, .int .i64 tnQ, .slice ah N ch, .slice ah' M ch'] 27) = w14 := ⟨_, rfl⟩
 have hv : AnsS w13 w14 kh y tnQ (.slice ah N ch) (.slice ah' M ch') K H := by rw [← hw14, ← hkh]; exact anss_last ho3 hle hb4
 clear ho3 hb4 hle
 obtain ⟨BH, HH, ov, bv, tv, dv⟩ := hv.own
 have hb := hv.bel
 have B10 := hid (btr B9.out hb)
 have V10 := hid (V9.out.later hb)
 have OV10 := hid (OV9.out.later hb)
 have Gb10 := hid (Gb9.out.later hb)
 have MG10 := hid (MG9.out.later hb)
 clear B9 V9 OV9 Gb9 MG9
 have Hb10 := hid hv.box
 have OH10 := hid ov
 clear hb hv ov bv tv dv
 have e0 := Hb10.out.cells
 have e2 := V10.out.cells
 go_wp2_with fail
 clear hw14 hkh
 refine (eqStore_any _ _ _ _ _ _ _ _ y tnQ _ N _ _ M _ _ _ _ _ K H _ K1.out K2.out K3.out OH10.out.t.reads.2.2.1 OV10.out.t.reads.2.2.1 K5.out K6.out OH10.out.t.reads.2.2.2 OV10.out.t.reads.2.2.2).mono ?_; rintro e w15 ⟨rfl, hb⟩
 clear e0 e2
 have B11 := hid (btr B10.out hb)
 have V11 := hid (V10.out.later hb)
 have OV11 := hid (OV10.out.later hb)
 have Gb11 := hid (Gb10.out.later hb)
 have MG11 := hid (MG10.out.later hb)
 clear B10 V10 OV10 Gb10 MG10
 clear hb
 have e0 := Gb11.out.cells
 go_wp2_with fail
 refine (heldStore_any _ _ y tnQ _ N _ _ M _ K _ MG11.out K1.out K2.out (sb_smx K3.out) K6.out K4.out).mono ?_; rintro e w16 ⟨rfl, hb⟩
 rw [HQM.out]
 clear e0
 go_wp2
 go_ret
 exact ⟨rfl, btr B11.out hb⟩
section
variable {P : Program} {ops : Array Oper} {Q : Exit → Act → World → Prop} {md : Region.Mode} {S : World → Prop} {ps : String} {af : Array Edge} {v : Value} {fuel : Nat} {listed : Array Bool} {a : Act} {w : World}
theorem tk4 (i : Nat) (d : Option Tmp) (o : Op) (t : TypeId) (gd : Option (Nat × Bool)) (h : wpAnyH P md ops Q S fuel (listed.setIfInBounds i true) (a.put d v) w)
    (hi : ops[i]? = some ⟨d, o, t, ps, af, gd⟩ := by rfl) (hs : Region.noSelect ops = true := by as_aux_lemma => kernel_rfl) (hf : Region.free md ops listed i = true := by as_aux_lemma => kernel_rfl) (hr : (Region.ready md ops listed).contains i = true := by as_aux_lemma => kernel_rfl)
    (hw : Region.wanted ⟨d, o, t, ps, af, gd⟩ (yielded ops a.tmps) = true := by rfl) (hy : ∀ w, S w → (execOp a.eval ⟨d, o, t, ps, af, gd⟩).run P w = .ok (.value v) w := by (intro w hSw; (try dsimp only at hSw); go_simp; try with_reducible rfl)) (hS : S w := by assumption)
    (hQ : ∀ c a w, Q (.panic c) (a.put d v) w → Q (.panic c) a w := by exact fun _ _ _ h => h) : wpAnyH P md ops Q S (fuel + 1) listed a w :=
  wpAnyH_take hi hs hf hr hQ (Or.inl ⟨hw, hy⟩) hS h
theorem tk5 (i : Nat) (d : Option Tmp) (o : Op) (t : TypeId) (gd : Option (Nat × Bool)) (hy : ∀ w, S w → (execOp a.eval ⟨d, o, t, ps, af, gd⟩).run P w = .ok (.value v) w) (h : wpAnyH P md ops Q S fuel (listed.setIfInBounds i true) (a.put d v) w)
    (hi : ops[i]? = some ⟨d, o, t, ps, af, gd⟩ := by rfl) (hs : Region.noSelect ops = true := by as_aux_lemma => kernel_rfl) (hf : Region.free md ops listed i = true := by as_aux_lemma => kernel_rfl) (hr : (Region.ready md ops listed).contains i = true := by as_aux_lemma => kernel_rfl)
    (hw : Region.wanted ⟨d, o, t, ps, af, gd⟩ (yielded ops a.tmps) = true := by rfl) (hS : S w := by assumption)
    (hQ : ∀ c a w, Q (.panic c) (a.put d v) w → Q (.panic c) a w := by exact fun _ _ _ h => h) : wpAnyH P md ops Q S (fuel + 1) listed a w :=
  wpAnyH_take hi hs hf hr hQ (Or.inl ⟨hw, hy⟩) hS h
theorem ry2 (i : Nat) (d : Option Tmp) (o : Op) (t : TypeId) (gd : Option (Nat × Bool))
    (h : ∀ K' : Act → World → Prop, Shut (∀ a w, S w → (S w → wpAnyH P md ops Q S fuel (listed.setIfInBounds i true) a w) → K' a w) → if Region.wanted ⟨d, o, t, ps, af, gd⟩ (yielded ops a.tmps) = true then Oper.wp P ⟨d, o, t, ps, af, gd⟩ a w K' Q else K' (a.put d undef) w)
    (hr : Region.ready md ops listed = [i] := by as_aux_lemma => kernel_rfl) (hi : ops[i]? = some ⟨d, o, t, ps, af, gd⟩ := by rfl) : wpAnyH P md ops Q S (fuel + 1) listed a w := wpAnyH_ready hr (by simp) (AllReadyH.cons hi h AllReadyH.nil)
end
end Go.Proofs.YtdkedgedkgabnaaGreatDoor
