/- Ws, Wg, Lrs, Te0. -/
import Derived.Test.YtocfggfccbnbhaaGreatDoorR9
namespace Go.Proofs.YtocfggfccbnbhaaGreatDoor
open Go.RowKit Go.ChangeMaps
theorem drewStore {W : World} {B : Nat} {bv gv : Value} {S : List X7} {G : List Int} (h : OwT W B bv gv S G) : OwT W.drew B bv gv S G := h.later (bdr (bre W))
def CloStore (w : World) (kr km : Nat) (s : ByteArray) (a : Int) (w' : World) : Prop :=
  ∃ y tm S G c ba bc ga gc, ist s a = some ((y, tm, S, G), c) ∧ Dg w' kr s c ∧ Sx w' km 27 y tm (.slice ba S.length bc) (.slice ga G.length gc) ∧ OwT w' w.heap.size (.slice ba S.length bc) (.slice ga G.length gc) S G ∧ Kept2 w w' kr km
set_option maxHeartbeats 400000 in
set_option maxRecDepth 100000 in
theorem closStore_any (kf kr km ft : Nat) (s : ByteArray) (a : Int) (w : World) (hs : s.size ≤ 1048576) (hf : Fg w kf ft 42) (hd : Dg w kr s a) (hm : Sx w km 27 0 0 (.slice none 0 0) (.slice none 0 0)) (hne : kr ≠ km) :
    Calls Tryz.prog 92 #[.pointer (some ⟨kf, 0, none⟩), .pointer (some ⟨kr, 0, none⟩), .pointer (some ⟨km, 0, none⟩)] w fun e w' => (e = .returned (.tuple #[]) ∧ CloStore w kr km s a w') ∨ (e = .panicked notHere ∧ ist s a = none ∧ w.grownBy w' (some kr)) := by
  have HD := hid hd
  have HM := hid hm
  have HS := hid hs
  have HNE := hid hne
  have cf := hf.cell
  clear hd hm hs hne hf
  go_enter Tryz.func92, Tryz.ntmps92
  go_wp2_with fail
  refine (rstore_any kr s a _ HS.out HD.out).mono ?_; rintro e w1 (⟨y, tm, S, G, c, ba, bc, ga, gc, hr, rfl, hd, ho, hg⟩ | ⟨hr, rfl, hg⟩)
  case inr =>
    have H := hid hr
    have G := hid hg
    clear hr hg
    go_wp2_with fail
    exact ⟨rfl, Or.inr ⟨rfl, H.out, G.out⟩⟩
  have H := hid hr
  have M1 := hid (HM.out.grown hg (by have := HNE.out; simp; omega))
  have D1 := hid hd
  have O1 := hid ho
  have K1 : Hid (Kept2 w w1 kr km) := Kept2.of_grown hg
  have LM : Hid (km < w.heap.size) := HM.out.lt
  have c := M1.out.cells
  have f := M1.out.loose
  clear hr hd ho hg cf
  go_wp2
  go_end0
  have hne := HNE.out
  have hX := Sx.put4 M1.out y tm (.slice ba S.length bc) (.slice ga G.length gc)
  unfold put4 at hX
  refine Or.inl ⟨rfl, y, tm, S, G, _, ba, bc, ga, gc, H.out, ?_, hX, ?_, ?_⟩
  · exact ((wst (wst (wst (wst (wre w1 (some km)) _ _) _ _) _ _) _ _).block kr D1.out.lt (by simp; omega)).trans D1.out
  · exact OwT.grown (O1.out) ((wst (wst (wst (wst (wre w1 (some km)) _ _) _ _) _ _) _ _)) (LM.out)
  · exact ((((K1.out.set _ _).set _ _).set _ _).set _ _)
set_option maxHeartbeats 800000 in
set_option maxRecDepth 100000 in
/-- readWhole over this closure, whatever it is known to leave. -/
theorem wholeStore_any (p1 p2 p3 : Value) (w : World) (Y N : World → Prop) (hF : Calls Tryz.prog 92 #[p1, p2, p3] (w.alloc (.cells #[.bool false] 4)) fun e w1 => (e = .returned (.tuple #[]) ∧ Y w1) ∨ (e = .panicked notHere ∧ N w1)) (hY : ∀ w1, Y w1 → Bwd w1 w.heap.size false) (hN : ∀ w1, N w1 → Bwd w1 w.heap.size false) :
    Calls Tryz.prog 91 #[.func (.func 92) #[] #[p1, p2, p3]] w fun e w' => (e = .returned (.bool true) ∧ ∃ w1, Y w1 ∧ w' = (w1.setCell ⟨w.heap.size, 0, none⟩ (.bool true)).alloc (.cells #[] 160)) ∨ (e = .returned (.bool false) ∧ ∃ w1, N w1 ∧ w' = (w1.alloc (.cells #[] 160)).setCell ⟨w.heap.size, 0, none⟩ (.bool false)) := by
  have hmf : ∀ (fn : Fn) (first cap : Array Value) (w : World), (Instr.makeFunc fn first cap).run Tryz.prog w = .ok (.func fn first cap) w := fun _ _ _ _ => rfl
  have HF := hid hF
  have HY := hid hY
  have HN := hid hN
  have B0 := hid (Bwd.new w false)
  have c0 := B0.out.cell
  clear hF hY hN
  go_enter_defers Tryz.func91, Tryz.ntmps91
  go_wp2_with fail
  refine HF.out.mono ?_; rintro e w1 (⟨rfl, hy⟩ | ⟨rfl, hn⟩)
  case inr =>
    have B1 : Hid (Bwd w1 w.heap.size false) := HN.out w1 hn
    have HNN := hid hn
    clear hn c0
    go_wp2_with fail
    refine leaves_cons (f := 135) (args := #[.pointer (some ⟨w.heap.size, 0, none⟩)]) (by simp) (by simp [go_sem]) ?_
    refine (catch_panic w.heap.size false [] _ B1.out).mono ?_
    rintro e u' w'' ⟨rfl, rfl, rfl⟩
    have cc := ((B1.out.later (bpush (bre w1) (.cells #[] 160))).set false).cell
    simp [Leaves, settle, results, Tryz.results91, go_sem, cc]
    exact ⟨w1, HNN.out, rfl⟩
  have B1 : Hid (Bwd w1 w.heap.size false) := HY.out w1 hy
  have HYY := hid hy
  have c1 := B1.out.cell
  have f1 := B1.out.loose
  clear hy c0
  go_wp2
  have N2 := hid (bpush (bre (w1.setCell ⟨w.heap.size, 0, none⟩ (.bool true))) (.cells #[] 160))
  have cc := ((B1.out.set true).later N2.out).cell
  refine leaves_cons (f := 135) (args := #[.pointer (some ⟨w.heap.size, 0, none⟩)]) (by simp) (by simp [go_sem]) ?_
  refine (catch_idle w.heap.size _).mono ?_
  rintro e u' w'' ⟨rfl, rfl, rfl⟩
  simp [Leaves, settle, results, Tryz.results91, go_sem, cc]
  exact ⟨w1, HYY.out, rfl⟩
def RaStore (s : ByteArray) (a : Int) (w : World) (e : Ending) (w' : World) : Prop :=
  (∃ y tm S G c ba bc ga gc, ist s a = some ((y, tm, S, G), c) ∧ e = .returned (.tuple #[.agg #[.int .i64 y, .int .i64 tm, .slice ba S.length bc, .slice ga G.length gc], .int .i64 c, .bool true]) ∧ OwT w' w.heap.size (.slice ba S.length bc) (.slice ga G.length gc) S G ∧ Below w.heap.size w w') ∨
  (ist s a = none ∧ e = .returned (.tuple #[.agg #[.int .i64 0, .int .i64 0, .slice none 0 0, .slice none 0 0], .int .i64 0, .bool false]) ∧ Below w.heap.size w w')
theorem blocksStore (w : World) (ft : Nat) (s : ByteArray) (a : Int) (W0 : World) (h : ((w.alloc (.cells #[.func (.func 42) #[] #[]] ft)).alloc (.cells #[.int .i64 0, .int .i64 0, .slice none 0 0, .slice none 0 0] 27)).alloc (.cells #[.string s, .int .i64 a] 121) = W0) :
    Fg W0 w.heap.size ft 42 ∧ Sx W0 (w.heap.size + 1) 27 0 0 (.slice none 0 0) (.slice none 0 0) ∧ Dg W0 (w.heap.size + 1 + 1) s a ∧ Below w.heap.size w W0 := by
  subst h
  have h1 : Fg (w.alloc (.cells #[.func (.func 42) #[] #[]] ft)) w.heap.size ft 42 := heap_alloc_new w _
  have h2 := Sx.new (w.alloc (.cells #[.func (.func 42) #[] #[]] ft)) 27 0 0 (.slice none 0 0) (.slice none 0 0)
  have h3 := Dg.new ((w.alloc (.cells #[.func (.func 42) #[] #[]] ft)).alloc (.cells #[.int .i64 0, .int .i64 0, .slice none 0 0, .slice none 0 0] 27)) s a
  rw [alloc_size w] at h2
  rw [alloc_size (w.alloc _), alloc_size w] at h3
  exact ⟨h1.later (bpush (bpush (bre _) _) _), h2.later (bpush (bre _) _), h3, bpush (bpush (bpush (bre _) _) _) _⟩
set_option maxHeartbeats 1600000 in
set_option maxRecDepth 100000 in
theorem readAtStore_any (s : ByteArray) (a : Int) (w : World) (hs : s.size ≤ 1048576) :
    Calls Tryz.prog 41 #[.string s, .int .i64 a, .func (.func 42) #[] #[]] w fun e w' => RaStore s a w e w' := by
  have hmf : ∀ (fn : Fn) (first cap : Array Value) (w : World), (Instr.makeFunc fn first cap).run Tryz.prog w = .ok (.func fn first cap) w := fun _ _ _ _ => rfl
  have HSZ := hid hs
  obtain ⟨W0, hW0⟩ : ∃ W0, ((w.alloc (.cells #[.func (.func 42) #[] #[]] 72)).alloc (.cells #[.int .i64 0, .int .i64 0, .slice none 0 0, .slice none 0 0] 27)).alloc (.cells #[.string s, .int .i64 a] 121) = W0 := ⟨_, rfl⟩
  obtain ⟨f0, x0, d0, b0⟩ := blocksStore w _ s a W0 hW0
  have N1 := hid (bpush (bre W0) (.cells #[.bool false] 4))
  have LW : Hid (w.heap.size + 1 + 1 < W0.heap.size) := d0.lt
  have L1 : Hid (W0.heap.size < (W0.alloc (.cells #[.bool false] 4)).heap.size) := hid (by show _ < _; simp)
  have HB := hid b0
  have BG := hid (Bwd.new W0 false)
  have CL := wholeStore_any (.pointer (some ⟨w.heap.size, 0, none⟩)) (.pointer (some ⟨w.heap.size + 1 + 1, 0, none⟩)) (.pointer (some ⟨w.heap.size + 1, 0, none⟩)) W0 _ _ (closStore_any w.heap.size (w.heap.size + 1 + 1) (w.heap.size + 1) _ s a _ hs (f0.later N1.out) (d0.later N1.out) (x0.later N1.out) (by omega)) (by
    rintro w1 ⟨y, tm, S, G, c, ba, bc, ga, gc, _, _, _, _, hk⟩
    have l1 := LW.out
    exact (hk.block W0.heap.size BG.out.lt (by omega) (by omega)).trans BG.out) (by
    rintro w1 ⟨_, hk⟩
    have l1 := LW.out
    exact BG.out.grown hk (by simp; omega))
  have HCL := hid CL
  have X0 := hid x0
  have HW0 := hid hW0
  clear hs hW0 f0 x0 d0 b0 CL
  go_enter Tryz.func41, Tryz.ntmps41
  go_wp2_with fail
  rw [HW0.out]
  refine HCL.out.mono ?_; rintro e w1 (⟨rfl, w2, hy, rfl⟩ | ⟨rfl, w2, ⟨hr, hk⟩, rfl⟩)
  case inr =>
    have H := hid hr
    have l1 := LW.out
    have l2 := L1.out
    have E2 : Hid (Below w.heap.size w ((w2.alloc (.cells #[] 160)).setCell ⟨W0.heap.size, 0, none⟩ (.bool false))) := hid (bsk (btr (HB.out.trans (N1.out.mono (by omega) |>.trans (below_grownR hk (by intro j hj; simp at hj; omega) (by omega)))) (bpush (bre w2) _)) (by omega) 0 _)
    have F2 : Hid (Sx ((w2.alloc (.cells #[] 160)).setCell ⟨W0.heap.size, 0, none⟩ (.bool false)) (w.heap.size + 1) 27 0 0 (.slice none 0 0) (.slice none 0 0)) := hid (heap_setCell_far _ (((X0.out.later N1.out).grown hk (by simp)).later (bpush (bre w2) _)) (by omega))
    obtain ⟨w3, hw3⟩ : ∃ x, (w2.alloc (.cells #[] 160)).setCell ⟨W0.heap.size, 0, none⟩ (.bool false) = x := ⟨_, rfl⟩
    rw [hw3] at E2 F2
    rw [hw3]
    have d := F2.out.cells
    have f := F2.out.loose
    clear hr hk hw3 l1 l2
    go_wp2
    have hX := Sx.put4 F2.out 0 0 (.slice none 0 0) (.slice none 0 0)
    unfold put4 at hX
    have d := hX.cells
    exact bodyPost_ret (v := .tuple #[.agg #[.int .i64 0, .int .i64 0, .slice none 0 0, .slice none 0 0], .int .i64 0, .bool false]) (by simp [results, Tryz.results41, go_sem, d]) rfl (Or.inr ⟨H.out, rfl, E2.out.trans (below_grownR (wst (wst (wst (wst (wre w3 (some (w.heap.size + 1))) 0 (.int .i64 0)) 1 (.int .i64 0)) 2 (.slice none 0 0)) 3 (.slice none 0 0)) (by intro j hj; simp at hj; omega) E2.out.size)⟩)
  obtain ⟨y, tm, S, G, c, ba, bc, ga, gc, hr, hd, hx, ho, hk⟩ := hy
  have H := hid hr
  have l1 := LW.out
  have l2 := L1.out
  have K2 : Hid (Kept2 W0 w2 (w.heap.size + 1 + 1) (w.heap.size + 1)) := hid hk.push
  have N3 := hid (bpush (bre (w2.setCell ⟨W0.heap.size, 0, none⟩ (.bool true))) (.cells #[] 160))
  have E2 : Hid (Below w.heap.size w ((w2.setCell ⟨W0.heap.size, 0, none⟩ (.bool true)).alloc (.cells #[] 160))) := hid (HB.out.trans (((K2.out.new (Nat.le_refl _) _ _).later N3.out).below (by omega) (by omega) (by omega)))
  have D2 := hid ((hd.far (j := W0.heap.size) (i := 0) (.bool true) (by omega)).later N3.out)
  have X2 : Hid (Sx ((w2.setCell ⟨W0.heap.size, 0, none⟩ (.bool true)).alloc (.cells #[] 160)) (w.heap.size + 1) 27 y tm (.slice ba S.length bc) (.slice ga G.length gc)) := hid (((show Sx (w2.setCell ⟨W0.heap.size, 0, none⟩ (.bool true)) (w.heap.size + 1) 27 y tm (.slice ba S.length bc) (.slice ga G.length gc) from heap_setCell_far _ hx (by omega))).later N3.out)
  have O2 := hid (OwT.later (OwT.grown (ho) (wst (wre w2 (some W0.heap.size)) 0 (.bool true)) (l2)) N3.out)
  obtain ⟨w3, hw3⟩ : ∃ x, (w2.setCell ⟨W0.heap.size, 0, none⟩ (.bool true)).alloc (.cells #[] 160) = x := ⟨_, rfl⟩
  rw [hw3] at E2 D2 X2 O2
  rw [hw3]
  have d := X2.out.cells
  have f := X2.out.loose
  have dd := D2.out.cells
  clear hr hd hx ho hk hw3 l1 l2 K2 N3
  go_wp2_with fail
  go_region
  all_goals go_wp2
  all_goals
    have hX := Sx.put4 X2.out y tm (.slice ba S.length bc) (.slice ga G.length gc)
    unfold put4 at hX
    have d3 := hX.cells
    have l1 := LW.out
    have l2 := L1.out
    refine bodyPost_ret (v := .tuple #[.agg #[.int .i64 y, .int .i64 tm, .slice ba S.length bc, .slice ga G.length gc], .int .i64 c, .bool true]) (by simp [results, Tryz.results41, go_sem, d3]) rfl (Or.inl ⟨y, tm, S, G, c, ba, bc, ga, gc, H.out, rfl, ?_, ?_⟩)
    · first | exact drewStore (OwT.base (OwT.grown (O2.out) ((wst (wst (wst (wst (wre w3 (some (w.heap.size + 1))) 0 (.int .i64 y)) 1 (.int .i64 tm)) 2 (.slice ba S.length bc)) 3 (.slice ga G.length gc))) (by omega)) (show w.heap.size ≤ _ by omega)) | exact OwT.base (OwT.grown (drewStore O2.out) ((wst (wst (wst (wst (wre w3.drew (some (w.heap.size + 1))) 0 (.int .i64 y)) 1 (.int .i64 tm)) 2 (.slice ba S.length bc)) 3 (.slice ga G.length gc))) (by omega)) (show w.heap.size ≤ _ by omega)
    · first | exact bdr (E2.out.trans (below_grownR (wst (wst (wst (wst (wre w3 (some (w.heap.size + 1))) 0 (.int .i64 y)) 1 (.int .i64 tm)) 2 (.slice ba S.length bc)) 3 (.slice ga G.length gc)) (by intro j hj; simp at hj; omega) E2.out.size)) | exact (bdr E2.out).trans (below_grownR (wst (wst (wst (wst (wre w3.drew (some (w.heap.size + 1))) 0 (.int .i64 y)) 1 (.int .i64 tm)) 2 (.slice ba S.length bc)) 3 (.slice ga G.length gc)) (by intro j hj; simp at hj; omega) E2.out.size)
end Go.Proofs.YtocfggfccbnbhaaGreatDoor

namespace Go.Proofs.YtocfggfccbnbhaaGreatDoor
open Go.RowKit Go.ChangeMaps
theorem implUnsealed_any (s : ByteArray) (w : World) (hm : s.size ≤ 1048576) (hn : Nib w) :
    Calls Tryz.prog 40 #[.string s] w fun e w' => e = .returned (.tuple #[.string (uns s).1, .bool (uns s).2]) ∧ Below w.heap.size w w' := by
  by_cases h : 4 ≤ s.size ∧ s.size ≤ 20004
  · by_cases h2 : tail4 (s.extract 0 (s.size - 4)) = s.extract (s.size - 4) s.size
    · have e : uns s = (s.extract 0 (s.size - 4), true) := by unfold uns; rw [if_pos ⟨h.1, h.2, h2⟩]
      rw [e]
      exact implUnsealed_yes s (s.size - 4) w (by omega) (by omega) hn h2
    · have e : uns s = (⟨#[]⟩, false) := by unfold uns; rw [if_neg (fun x => h2 x.2.2)]
      rw [e]
      exact implUnsealed_no s (s.size - 4) w (by omega) (by omega) hn h2
  · have e : uns s = (⟨#[]⟩, false) := by unfold uns; rw [if_neg (fun x => h ⟨x.1, x.2.1⟩)]
    rw [e]
    exact (implUnsealed_size s w hm (by omega)).mono fun _ _ h => ⟨h.1, h.2 ▸ bre _⟩
theorem irs_no {s : ByteArray} (h : (uns s).2 = false) : irs s = none := by unfold irs; rw [h]; rfl
theorem irs_none {s u : ByteArray} (h : uns s = (u, true)) (hi : ist u 0 = none) : irs s = none := by unfold irs; rw [h]; simp only [if_true]; rw [hi]; rfl
theorem irs_some {s u : ByteArray} {y tm : Int} {S : List X7} {G : List Int} {c : Int} (h : uns s = (u, true)) (hi : ist u 0 = some ((y, tm, S, G), c)) : irs s = if c = (u.size : Int) then some (y, tm, S, G) else none := by unfold irs; rw [h]; simp only [if_true]; rw [hi]; rfl
set_option maxHeartbeats 4000000 in
set_option maxRecDepth 100000 in
theorem implReadStore_any (s : ByteArray) (w : World) (hs : s.size ≤ 1048576) (hn : Nib w) :
    Calls Tryz.prog 10 #[.string s] w fun e w' => RsPost s w e w' := by
  have HSZ := hid hs
  have Z0 := hid (Sx.new w 27 0 0 (.slice none 0 0) (.slice none 0 0))
  have LZ : Hid (w.heap.size < (w.alloc (.cells #[.int .i64 0, .int .i64 0, .slice none 0 0, .slice none 0 0] 27)).heap.size) := Z0.out.lt
  have B0 := hid (bpush (bre w) (.cells #[.int .i64 0, .int .i64 0, .slice none 0 0, .slice none 0 0] 27))
  have CU := hid (implUnsealed_any s (w.alloc (.cells #[.int .i64 0, .int .i64 0, .slice none 0 0, .slice none 0 0] 27)) hs (hn.on B0.out))
  cases hu : uns s with
  | mk u ok =>
  have hus := uns_size s
  rw [hu] at CU hus
  dsimp only at CU hus
  have HU := hid hu
  clear hs hn hu
  go_enter Tryz.func10, Tryz.ntmps10
  go_wp2_with fail
  refine CU.out.mono ?_; rintro e w1 ⟨rfl, hb1⟩
  have Z1 := hid (Z0.out.later hb1)
  have B1 := hid (btr B0.out hb1)
  have d4 := Z1.out.cells
  have f4 := Z1.out.loose
  clear hb1 Z0 B0 CU
  cases ok
  · have HNO : Hid (rst s = none) := hid (by rw [← irs_rst]; exact irs_no (by rw [HU.out]))
    go_wp2
    have hX := Sx.put4 Z1.out 0 0 (.slice none 0 0) (.slice none 0 0)
    unfold put4 at hX
    have d := hX.cells
    exact bodyPost_ret (v := .tuple #[.agg #[.int .i64 0, .int .i64 0, .slice none 0 0, .slice none 0 0], .bool false]) (by simp [results, Tryz.results10, go_sem, d]) rfl (Or.inl ⟨HNO.out, rfl, by have h9 := below_put4 B1.out 0 0 (.slice none 0 0) (.slice none 0 0); unfold put4 at h9; exact h9⟩)
  · go_wp2_with fail
    refine (readAtStore_any u 0 _ (by omega)).mono ?_; rintro e w2 (⟨y, tm, S, G, c, ba, bc, ga, gc, hr, rfl, ho, hb2⟩ | ⟨hr, rfl, hb2⟩)
    · have HI := hid (irs_some HU.out hr)
      have HK := hid (ist_end hr).1
      obtain ⟨bn, hbn⟩ : ∃ n, S.length = n := ⟨_, rfl⟩
      obtain ⟨gn, hgn⟩ : ∃ n, G.length = n := ⟨_, rfl⟩
      have hb3 := bpush hb2 (.cells #[.int .i64 y, .int .i64 tm, .slice ba S.length bc, .slice ga G.length gc] 27)
      have N3 := hid (Sx.new w2 27 y tm (.slice ba S.length bc) (.slice ga G.length gc))
      have Z3 := hid (Z1.out.later hb3)
      have B3 := hid (btr B1.out hb3)
      have O3 := hid (ho.later (bpush (bre w2) (.cells #[.int .i64 y, .int .i64 tm, .slice ba S.length bc, .slice ga G.length gc] 27)))
      have LW : Hid (w.heap.size < w1.heap.size) := hid Z1.out.lt
      rw [hbn, hgn] at N3 Z3 B3 O3
      rw [hbn, hgn]
      have d5 := Z3.out.cells
      have f5 := Z3.out.loose
      have dn := N3.out.cells
      clear hr ho hb2 hb3 hbn hgn Z1 B1 d4 f4
      by_cases hc : c = (u.size : Int)
      · have HY : Hid (rst s = some (y, tm, S, G)) := hid (by rw [← irs_rst, HI.out, if_pos hc])
        go_wp2
        have hX := Sx.put4 Z3.out y tm (.slice ba bn bc) (.slice ga gn gc)
        unfold put4 at hX
        have d := hX.cells
        have hg7 := (wst (wst (wst (wst (wre (w2.alloc (.cells #[.int .i64 y, .int .i64 tm, .slice ba bn bc, .slice ga gn gc] 27)) (some w.heap.size)) 0 (.int .i64 y)) 1 (.int .i64 tm)) 2 (.slice ba bn bc)) 3 (.slice ga gn gc))
        have l1 := LW.out
        exact bodyPost_ret (v := .tuple #[.agg #[.int .i64 y, .int .i64 tm, .slice ba bn bc, .slice ga gn gc], .bool true]) (by simp [results, Tryz.results10, go_sem, d]) rfl (Or.inr ⟨y, tm, S, G, _, _, HY.out, HK.out, rfl, (O3.out.grown hg7 (by omega)).base (by omega), by have h9 := below_put4 B3.out y tm (.slice ba bn bc) (.slice ga gn gc); unfold put4 at h9; exact h9⟩)
      · have HNO : Hid (rst s = none) := hid (by rw [← irs_rst, HI.out, if_neg hc])
        go_wp2
        have hX := Sx.put4 Z3.out 0 0 (.slice none 0 0) (.slice none 0 0)
        unfold put4 at hX
        have d := hX.cells
        exact bodyPost_ret (v := .tuple #[.agg #[.int .i64 0, .int .i64 0, .slice none 0 0, .slice none 0 0], .bool false]) (by simp [results, Tryz.results10, go_sem, d]) rfl (Or.inl ⟨HNO.out, rfl, by have h9 := below_put4 B3.out 0 0 (.slice none 0 0) (.slice none 0 0); unfold put4 at h9; exact h9⟩)
    · have HNO : Hid (rst s = none) := hid (by rw [← irs_rst]; exact irs_none HU.out hr)
      have hb3 := bpush hb2 (.cells #[.int .i64 0, .int .i64 0, .slice none 0 0, .slice none 0 0] 27)
      have Z3 := hid (Z1.out.later hb3)
      have B3 := hid (btr B1.out hb3)
      have d5 := Z3.out.cells
      have f5 := Z3.out.loose
      clear hr hb2 hb3 Z1 B1 d4 f4
      go_wp2
      have hX := Sx.put4 Z3.out 0 0 (.slice none 0 0) (.slice none 0 0)
      unfold put4 at hX
      have d := hX.cells
      exact bodyPost_ret (v := .tuple #[.agg #[.int .i64 0, .int .i64 0, .slice none 0 0, .slice none 0 0], .bool false]) (by simp [results, Tryz.results10, go_sem, d]) rfl (Or.inl ⟨HNO.out, rfl, by have h9 := below_put4 B3.out 0 0 (.slice none 0 0) (.slice none 0 0); unfold put4 at h9; exact h9⟩)
end Go.Proofs.YtocfggfccbnbhaaGreatDoor

namespace Go.Proofs.YtocfggfccbnbhaaGreatDoor
open Go.RowKit Go.ChangeMaps
theorem owT_none (W : World) (B : Nat) : OwT W B (.slice none 0 0) (.slice none 0 0) [] [] :=
  ⟨[], rfl, ⟨⟨rfl, .inl ⟨rfl, rfl⟩⟩, (fun y hy => by cases hy), (fun y hy => by cases hy), .nil⟩, ⟨rfl, .inl ⟨rfl, rfl⟩⟩, (fun j h => by cases h), fun y hy => by cases hy⟩
/-- What comes of reading a store, in letters. -/
theorem pairRs (s : ByteArray) (hs : s.size ≤ 1048576) :
    ∃ (p : Bool) (y tn : Int) (K : List X7) (H : List Int) (N M : Nat), (K.length = N ∧ N ≤ 1048576 ∧ Sb K ∧ kx 1 K ≤ 6291456) ∧ (H.length = M ∧ M ≤ 1048576) ∧ Hid (∀ (w : World), Calls Tryz.prog 12 #[.string s] w fun e w' => ∃ a c a' c', e = .returned (.tuple #[.agg #[.int .i64 y, .int .i64 tn, .slice a N c, .slice a' M c'], .bool p]) ∧ OwT w' w.heap.size (.slice a N c) (.slice a' M c') K H ∧ Below w.heap.size w w') ∧ Hid (∀ (w : World), Nib w → Calls Tryz.prog 10 #[.string s] w fun e w' => ∃ a c a' c', e = .returned (.tuple #[.agg #[.int .i64 y, .int .i64 tn, .slice a N c, .slice a' M c'], .bool p]) ∧ OwT w' w.heap.size (.slice a N c) (.slice a' M c') K H ∧ Below w.heap.size w w') := by
  have key : ∃ (p : Bool) (y tn : Int) (K : List X7) (H : List Int), (K.length ≤ 1048576 ∧ Sb K ∧ kx 1 K ≤ 6291456) ∧ H.length ≤ 1048576 ∧ ∀ w e w', RsPost s w e w' → ∃ a c a' c', e = .returned (.tuple #[.agg #[.int .i64 y, .int .i64 tn, .slice a K.length c, .slice a' H.length c'], .bool p]) ∧ OwT w' w.heap.size (.slice a K.length c) (.slice a' H.length c') K H ∧ Below w.heap.size w w' := by
    cases hr : rst s with
    | none =>
      refine ⟨false, 0, 0, [], [], ⟨by simp, (fun x hx => by cases hx), by decide⟩, by simp, fun w e w' hp => ?_⟩
      rcases hp with ⟨-, rfl, hb⟩ | ⟨y, tm, S, G, bv, gv, h1, -⟩
      · exact ⟨none, 0, none, 0, rfl, owT_none _ _, hb⟩
      · rw [hr] at h1; cases h1
    | some r =>
      obtain ⟨y, tm, S, G⟩ := r
      by_cases hok : sOk y tm S G = true
      · obtain ⟨s1, s2, s3, s4⟩ := sOk_small hok
        refine ⟨true, y, tm, S, G, ⟨by omega, s2, s3⟩, by omega, fun w e w' hp => ?_⟩
        rcases hp with ⟨h1, -⟩ | ⟨y', tm', S', G', bv, gv, h1, -, rfl, ho, hb⟩
        · rw [hr] at h1; cases h1
        · rw [hr] at h1
          simp only [Option.some.injEq, Prod.mk.injEq] at h1
          obtain ⟨rfl, rfl, rfl, rfl⟩ := h1
          obtain ⟨a, c, a', c', rfl, rfl⟩ := ho.len
          exact ⟨a, c, a', c', rfl, ho, hb⟩
      · refine ⟨false, 0, 0, [], [], ⟨by simp, (fun x hx => by cases hx), by decide⟩, by simp, fun w e w' hp => ?_⟩
        rcases hp with ⟨h1, -⟩ | ⟨y', tm', S', G', bv, gv, h1, h2, -⟩
        · rw [hr] at h1; cases h1
        · rw [hr] at h1
          simp only [Option.some.injEq, Prod.mk.injEq] at h1
          obtain ⟨rfl, rfl, rfl, rfl⟩ := h1
          exact absurd h2 hok
  obtain ⟨p, y, tn, K, H, k1, k2, hk⟩ := key
  exact ⟨p, y, tn, K, H, _, _, ⟨rfl, k1⟩, ⟨rfl, k2⟩, fun w => (specReadStore_any s w hs).mono (hk w), fun w hn => (implReadStore_any s w hs hn).mono (hk w)⟩
set_option maxHeartbeats 8000000 in
set_option maxRecDepth 100000 in
theorem lawReadStore_any (s : ByteArray) (w : World) (htx : (s.size : Int) ≤ 9223372036854775807) (hnb : Nib w) :
    Calls Tryz.prog 5 #[.string s] w fun e w' => e = .returned (.bool true) ∧ Below w.heap.size w w' := by
  have HNB := hid hnb
  clear hnb
  by_cases hbt : (1048576 : Int) < (s.size : Int)
  · go_enter Tryz.func5, Tryz.ntmps5
    go_wp2
    go_ret
    exact ⟨rfl, bre _⟩
  obtain ⟨p, y, tn, K, H, N, M, ⟨k1, k2, k3, k4⟩, ⟨k5, k6⟩, CSP, CIM⟩ := pairRs s (by omega)
  have K1 := hid k1
  have K2 := hid k2
  have K3 := hid k3
  have K4 := hid k4
  have K5 := hid k5
  have K6 := hid k6
  clear k1 k2 k3 k4 k5 k6
  have xx : (p != p) = false := by cases p <;> rfl
  go_enter Tryz.func5, Tryz.ntmps5
  go_wp2_with fail
  refine (CSP.out _).mono ?_; rintro e v3 ⟨av, cv, av', cv', rfl, ho3, hb4⟩
  have hle : w.heap.size ≤ w.heap.size := Nat.le_refl _
  obtain ⟨kv, hkv⟩ : ∃ kv, v3.heap.size = kv := ⟨_, rfl⟩
  obtain ⟨w2, hw2⟩ : ∃ w2, v3.alloc (.cells #[.int .i64 y, .int .i64 tn, .slice av N cv, .slice av' M cv'] 27) = w2 := ⟨_, rfl⟩
  have hv : AnsS w w2 kv y tn (.slice av N cv) (.slice av' M cv') K H := by rw [← hw2, ← hkv]; exact anss_last ho3 hle hb4
  clear ho3 hb4 hle
  obtain ⟨BV, HV, ov, bv, tv, dv⟩ := hv.own
  have Q1 := hid tv
  have Q2 : Hid (kv < w2.heap.size) := hv.box.lt
  have Q7 : Hid (w.heap.size ≤ w2.heap.size) := hv.bel.size
  have V2 := hid hv.box
  have OV2 := hid ov
  have B2 := hid hv.bel
  clear hv ov bv tv dv
  go_wp2_with fail
  clear hw2 hkv
  refine (CIM.out _ (HNB.out.on B2.out)).mono ?_; rintro e v3 ⟨ag, cg, ag', cg', rfl, ho3, hb4⟩
  have hle : w2.heap.size ≤ w2.heap.size := Nat.le_refl _
  obtain ⟨kg, hkg⟩ : ∃ kg, v3.heap.size = kg := ⟨_, rfl⟩
  obtain ⟨w6, hw6⟩ : ∃ w6, v3.alloc (.cells #[.int .i64 y, .int .i64 tn, .slice ag N cg, .slice ag' M cg'] 27) = w6 := ⟨_, rfl⟩
  have hv : AnsS w2 w6 kg y tn (.slice ag N cg) (.slice ag' M cg') K H := by rw [← hw6, ← hkg]; exact anss_last ho3 hle hb4
  clear ho3 hb4 hle
  obtain ⟨BG, HG, ov, bv, tv, dv⟩ := hv.own
  have Q5 := hid bv
  have Q8 := hid dv
  have Q9 : Hid (w2.heap.size ≤ kg) := hv.le
  have Gb6 := hid hv.box
  have OG6 := hid ov
  have hb := hv.bel
  have B6 := hid (btr B2.out hb)
  have V6 := hid (V2.out.later hb)
  have OV6 := hid (OV2.out.later hb)
  clear hb hv ov bv tv dv B2 V2 OV2
  have e0 := Gb6.out.cells
  have e2 := V6.out.cells
  go_wp2_with fail
  clear hw6 hkg
  refine (eqStore_any _ _ _ _ _ _ _ _ y tn _ N _ _ M _ _ _ _ _ K H _ K1.out K2.out K3.out OG6.out.t.reads.2.2.1 OV6.out.t.reads.2.2.1 K5.out K6.out OG6.out.t.reads.2.2.2 OV6.out.t.reads.2.2.2).mono ?_; rintro e w7 ⟨rfl, hb⟩
  clear e0 e2
  have B7 := hid (btr B6.out hb)
  have V7 := hid (V6.out.later hb)
  have OV7 := hid (OV6.out.later hb)
  have Gb7 := hid (Gb6.out.later hb)
  have OG7 := hid (OG6.out.later hb)
  clear B6 V6 OV6 Gb6 OG6
  clear hb
  have e0 := Gb7.out.cells
  go_wp2_with fail
  refine (markStore_any BG HG y tn _ N _ _ M _ K H _ OG7.out K1.out K2.out (sb_smx K3.out) K5.out K6.out K4.out).mono ?_; rintro e w12 ⟨rfl, hmk, hc⟩
  have q1 := Q1.out
  have q2 := Q2.out
  have q5 := Q5.out
  have q7 := Q7.out
  have q8 := Q8.out
  have V8 := hid (V7.out.chg hc (by omega))
  have Gb8 := hid (Gb7.out.chg hc (by omega))
  have OV8 := hid (OV7.out.chg hc (by intro j h1 h2; omega))
  have MG8 := hid hmk
  have B8 : Hid (Below w.heap.size w w12) := B7.out.trans (hc.below B7.out.size (by intro j h; omega))
  obtain ⟨qm, hqm⟩ : ∃ qm : Nat, kx 1 K + M = qm := ⟨_, rfl⟩
  rw [hqm]
  have HQM := hid hqm
  have hm1 : ¬ ((qm : Nat) : Int) < 0 := by omega
  have hm2 : (((qm : Nat) : Int) != ((qm : Nat) : Int)) = false := by simp
  clear e0 hc hmk q1 q2 q5 q7 q8 hqm V7 Gb7 OV7 OG7 B7
  have e0 := Gb8.out.cells
  go_wp2_with fail
  refine (heldStore_any _ _ y tn _ N _ _ M _ K _ MG8.out K1.out K2.out (sb_smx K3.out) K6.out K4.out).mono ?_; rintro e w13 ⟨rfl, hb⟩
  rw [HQM.out]
  clear e0
  have B9 := hid (btr B8.out hb)
  have V9 := hid (V8.out.later hb)
  have OV9 := hid (OV8.out.later hb)
  have Gb9 := hid (Gb8.out.later hb)
  have MG9 := hid (MG8.out.later hb)
  clear B8 V8 OV8 Gb8 MG8
  clear hb
  go_wp2_with fail
  refine (CIM.out _ (HNB.out.on B9.out)).mono ?_; rintro e v3 ⟨ah, ch, ah', ch', rfl, ho3, hb4⟩
  have hle : w13.heap.size ≤ w13.heap.size := Nat.le_refl _
  obtain ⟨kh, hkh⟩ : ∃ kh, v3.heap.size = kh := ⟨_, rfl⟩
  obtain ⟨w14, hw14⟩ : ∃ w14, v3.alloc (.cells #[.int .i64 y, .int .i64 tn, .slice ah N ch, .slice ah' M ch'] 27) = w14 := ⟨_, rfl⟩
  have hv : AnsS w13 w14 kh y tn (.slice ah N ch) (.slice ah' M ch') K H := by rw [← hw14, ← hkh]; exact anss_last ho3 hle hb4
  clear ho3 hb4 hle
  obtain ⟨BH, HH, ov, bv, tv, dv⟩ := hv.own
  have hb := hv.bel
  have B10 := hid (btr B9.out hb)
  have V10 := hid (V9.out.later hb)
  have OV10 := hid (OV9.out.later hb)
  have Gb10 := hid (Gb9.out.later hb)
  have MG10 := hid (MG9.out.later hb)
  clear B9 V9 OV9 Gb9 MG9
  have Hb10 := hid hv.box
  have OH10 := hid ov
  clear hb hv ov bv tv dv
  have e0 := Hb10.out.cells
  have e2 := V10.out.cells
  go_wp2_with fail
  clear hw14 hkh
  refine (eqStore_any _ _ _ _ _ _ _ _ y tn _ N _ _ M _ _ _ _ _ K H _ K1.out K2.out K3.out OH10.out.t.reads.2.2.1 OV10.out.t.reads.2.2.1 K5.out K6.out OH10.out.t.reads.2.2.2 OV10.out.t.reads.2.2.2).mono ?_; rintro e w15 ⟨rfl, hb⟩
  clear e0 e2
  have B11 := hid (btr B10.out hb)
  have V11 := hid (V10.out.later hb)
  have OV11 := hid (OV10.out.later hb)
  have Gb11 := hid (Gb10.out.later hb)
  have MG11 := hid (MG10.out.later hb)
  clear B10 V10 OV10 Gb10 MG10
  clear hb
  have e0 := Gb11.out.cells
  go_wp2_with fail
  refine (heldStore_any _ _ y tn _ N _ _ M _ K _ MG11.out K1.out K2.out (sb_smx K3.out) K6.out K4.out).mono ?_; rintro e w16 ⟨rfl, hb⟩
  rw [HQM.out]
  clear e0
  go_wp2
  go_ret
  exact ⟨rfl, btr B11.out hb⟩
end Go.Proofs.YtocfggfccbnbhaaGreatDoor

namespace Go.Proofs.YtocfggfccbnbhaaGreatDoor
open Go.RowKit Go.ChangeMaps
/-- What reading a box answers. -/
def rbF (s : ByteArray) (a : Int) : X7 × Int × Bool := match rbx s a with | none => ((0, ⟨#[]⟩, 0, 0, 0, [], []), 0, false) | some (x, c) => (x, c, true)
/-- What reading a store answers. -/
def rsF (s : ByteArray) : Int × Int × List X7 × List Int × Bool := match rst s with | none => (0, 0, [], [], false) | some (y, tm, S, G) => (y, tm, S, G, true)
def RbF (g : Int) (nm : ByteArray) (t b nx : Int) (L : List M4) (G : List Int) (c : Int) (q : Bool) (w : World) (e : Ending) (w' : World) : Prop :=
  ∃ ma mc ga gc, e = .returned (.tuple #[.agg #[.int .i64 g, .string nm, .int .i64 t, .int .i64 b, .int .i64 nx, .slice ma L.length mc, .slice ga G.length gc], .int .i64 c, .bool q]) ∧ Bz w' ma L.length mc ga G.length gc L G ∧ Below w.heap.size w w'
def RsF (y tm : Int) (S : List X7) (G : List Int) (q : Bool) (w : World) (e : Ending) (w' : World) : Prop :=
  ∃ ba bc ga gc, e = .returned (.tuple #[.agg #[.int .i64 y, .int .i64 tm, .slice ba S.length bc, .slice ga G.length gc], .bool q]) ∧ Tz w' ba S.length bc ga G.length gc S G ∧ Below w.heap.size w w'
theorem bz_nil (W : World) : Bz W none 0 0 none 0 0 [] [] :=
  ⟨rfl, Nat.zero_le _, (fun m hm => by cases hm), ⟨0, 0, Nat.zero_le _, fun i hi => absurd hi (Nat.not_lt_zero _)⟩, fun _ => rfl, rfl, Nat.zero_le _, ⟨0, 0, Nat.zero_le _, fun i hi => absurd hi (Nat.not_lt_zero _)⟩, fun _ => rfl⟩
theorem tz_nil (W : World) : Tz W none 0 0 none 0 0 [] [] :=
  ⟨0, 0, rfl, Nat.zero_le _, (fun m hm => by cases hm), ⟨Nat.zero_le _, fun i hi => absurd hi (Nat.not_lt_zero _)⟩, fun _ => rfl, rfl, Nat.zero_le _, ⟨Nat.zero_le _, fun i hi => absurd hi (Nat.not_lt_zero _)⟩, fun _ => rfl⟩
theorem bx_sm {g : Int} {nm : ByteArray} {t b nx : Int} {L : List M4} {G : List Int} (h : bxOk g nm t b nx L G = true) : L.length ≤ 1048576 ∧ Sm L ∧ G.length ≤ 1048576 ∧ nm.size ≤ 1048576 := by
  obtain ⟨-, p2, -, -, p5, p6, p7, -⟩ := bx_txt h
  refine ⟨by omega, fun m hm => ?_, by omega, by omega⟩
  obtain ⟨-, -, h3, -, h5⟩ := mlOk_in (p6 m hm)
  exact ⟨by omega, by omega⟩
theorem RbPost.f {s : ByteArray} {a : Int} {w w' : World} {e : Ending} {g : Int} {nm : ByteArray} {t b nx : Int} {L : List M4} {G : List Int} {c : Int} {q : Bool} (hq : rbF s a = ((g, nm, t, b, nx, L, G), c, q)) (h : RbPost s a w e w') : RbF g nm t b nx L G c q w e w' := by
  rcases h with ⟨h1, rfl, hb⟩ | ⟨g', nm', t', b', nx', L', G', c', mv, gv, h1, h2, rfl, ho, hb⟩
  · unfold rbF at hq
    rw [h1] at hq
    simp only [Prod.mk.injEq] at hq
    obtain ⟨⟨rfl, rfl, rfl, rfl, rfl, rfl, rfl⟩, rfl, rfl⟩ := hq
    exact ⟨none, 0, none, 0, rfl, bz_nil _, hb⟩
  · unfold rbF at hq
    rw [h1] at hq
    simp only [Prod.mk.injEq] at hq
    obtain ⟨⟨rfl, rfl, rfl, rfl, rfl, rfl, rfl⟩, rfl, rfl⟩ := hq
    obtain ⟨k1, k2, k3, k4⟩ := bx_sm h2
    obtain ⟨a, c, a', c', rfl, rfl, hz⟩ := own_bz ho k1 k2 k3
    exact ⟨a, c, a', c', rfl, hz.bz, hb⟩
theorem RsPost.f {s : ByteArray} {w w' : World} {e : Ending} {y tm : Int} {S : List X7} {G : List Int} {q : Bool} (hq : rsF s = (y, tm, S, G, q)) (h : RsPost s w e w') : RsF y tm S G q w e w' := by
  rcases h with ⟨h1, rfl, hb⟩ | ⟨y', tm', S', G', bv, gv, h1, h2, rfl, ho, hb⟩
  · unfold rsF at hq
    rw [h1] at hq
    simp only [Prod.mk.injEq] at hq
    obtain ⟨rfl, rfl, rfl, rfl, rfl⟩ := hq
    exact ⟨none, 0, none, 0, rfl, tz_nil _, hb⟩
  · unfold rsF at hq
    rw [h1] at hq
    simp only [Prod.mk.injEq] at hq
    obtain ⟨rfl, rfl, rfl, rfl, rfl⟩ := hq
    obtain ⟨k1, k2, k3, -, -⟩ := sOk_sb h2
    obtain ⟨a, c, a', c', rfl, rfl⟩ := ho.shape
    exact ⟨a, c, a', c', rfl, (ho.tg (by omega) k2 (by omega)).tz, hb⟩
end Go.Proofs.YtocfggfccbnbhaaGreatDoor

