/- K8d, K8e, K8f, OpenV. -/
import Derived.Test.YtlopdmledeglbaaDoorV3
namespace Go.Proofs.YtlopdmledeglbaaDoor
open Go.RowKit Go.ChangeMaps
theorem drewPacket (h : True) : True := h
def CloPacket (w : World) (kr km : Nat) (s : ByteArray) (a : Int) (w' : World) : Prop :=
  ∃ ep sq ak tx c, ipk s a = some ((ep, sq, ak, tx), c) ∧ Dg w' kr s c ∧ Pk w' km 27 ep sq ak tx ∧ True ∧ Kept2 w w' kr km
set_option maxHeartbeats 400000 in
set_option maxRecDepth 100000 in
theorem closPacket_any (kf kr km ft : Nat) (s : ByteArray) (a : Int) (w : World) (hs : s.size ≤ 1048576) (hf : Fg w kf ft 24) (hd : Dg w kr s a) (hm : Pk w km 27 0 0 0 ⟨#[]⟩) (hne : kr ≠ km) :
    Calls Tryd.prog 41 #[.pointer (some ⟨kf, 0, none⟩), .pointer (some ⟨kr, 0, none⟩), .pointer (some ⟨km, 0, none⟩)] w fun e w' => (e = .returned (.tuple #[]) ∧ CloPacket w kr km s a w') ∨ (e = .panicked notHere ∧ ipk s a = none ∧ w.grownBy w' (some kr)) := by
  have HD := hid hd
  have HM := hid hm
  have HS := hid hs
  have HNE := hid hne
  have cf := hf.cell
  clear hd hm hs hne hf
  go_enter Tryd.func41, Tryd.ntmps41
  go_wp2_with fail
  refine (rpacket_any kr s a _ HS.out HD.out).mono ?_; rintro e w1 (⟨ep, sq, ak, tx, c, hr, rfl, hd, ho, hg⟩ | ⟨hr, rfl, hg⟩)
  case inr =>
    have H := hid hr
    have G := hid hg
    clear hr hg
    go_wp2_with fail
    exact ⟨rfl, Or.inr ⟨rfl, H.out, G.out⟩⟩
  have H := hid hr
  have M1 := hid (HM.out.grown hg (by have := HNE.out; simp; omega))
  have D1 := hid hd
  have O1 := hid ho
  have K1 : Hid (Kept2 w w1 kr km) := Kept2.of_grown hg
  have LM : Hid (km < w.heap.size) := HM.out.lt
  have c := M1.out.cells
  have f := M1.out.loose
  clear hr hd ho hg cf
  go_wp2
  go_end0
  have hne := HNE.out
  have hX := Pk.put M1.out ep sq ak tx
  unfold putP at hX
  refine Or.inl ⟨rfl, ep, sq, ak, tx, _, H.out, ?_, hX, ?_, ?_⟩
  · exact ((wst (wst (wst (wst (wre w1 (some km)) _ _) _ _) _ _) _ _).block kr D1.out.lt (by simp; omega)).trans D1.out
  · exact trivial
  · exact ((((K1.out.set _ _).set _ _).set _ _).set _ _)
set_option maxHeartbeats 800000 in
set_option maxRecDepth 100000 in
/-- readWhole over this closure, whatever it is known to leave. -/
theorem wholePacket_any (p1 p2 p3 : Value) (w : World) (Y N : World → Prop) (hF : Calls Tryd.prog 41 #[p1, p2, p3] (w.alloc (.cells #[.bool false] 4)) fun e w1 => (e = .returned (.tuple #[]) ∧ Y w1) ∨ (e = .panicked notHere ∧ N w1)) (hY : ∀ w1, Y w1 → Bwd w1 w.heap.size false) (hN : ∀ w1, N w1 → Bwd w1 w.heap.size false) :
    Calls Tryd.prog 40 #[.func (.func 41) #[] #[p1, p2, p3]] w fun e w' => (e = .returned (.bool true) ∧ ∃ w1, Y w1 ∧ w' = (w1.setCell ⟨w.heap.size, 0, none⟩ (.bool true)).alloc (.cells #[] 71)) ∨ (e = .returned (.bool false) ∧ ∃ w1, N w1 ∧ w' = (w1.alloc (.cells #[] 71)).setCell ⟨w.heap.size, 0, none⟩ (.bool false)) := by
  have hmf : ∀ (fn : Fn) (first cap : Array Value) (w : World), (Instr.makeFunc fn first cap).run Tryd.prog w = .ok (.func fn first cap) w := fun _ _ _ _ => rfl
  have HF := hid hF
  have HY := hid hY
  have HN := hid hN
  have B0 := hid (Bwd.new w false)
  have c0 := B0.out.cell
  clear hF hY hN
  go_enter_defers Tryd.func40, Tryd.ntmps40
  go_wp2_with fail
  refine HF.out.mono ?_; rintro e w1 (⟨rfl, hy⟩ | ⟨rfl, hn⟩)
  case inr =>
    have B1 : Hid (Bwd w1 w.heap.size false) := HN.out w1 hn
    have HNN := hid hn
    clear hn c0
    go_wp2_with fail
    refine leaves_cons (f := 45) (args := #[.pointer (some ⟨w.heap.size, 0, none⟩)]) (by simp) (by simp [go_sem]) ?_
    refine (catch_panic w.heap.size false [] _ B1.out).mono ?_
    rintro e u' w'' ⟨rfl, rfl, rfl⟩
    have cc := ((B1.out.later (bpush (bre w1) (.cells #[] 71))).set false).cell
    simp [Leaves, settle, results, Tryd.results40, go_sem, cc]
    exact ⟨w1, HNN.out, rfl⟩
  have B1 : Hid (Bwd w1 w.heap.size false) := HY.out w1 hy
  have HYY := hid hy
  have c1 := B1.out.cell
  have f1 := B1.out.loose
  clear hy c0
  go_wp2
  have N2 := hid (bpush (bre (w1.setCell ⟨w.heap.size, 0, none⟩ (.bool true))) (.cells #[] 71))
  have cc := ((B1.out.set true).later N2.out).cell
  refine leaves_cons (f := 45) (args := #[.pointer (some ⟨w.heap.size, 0, none⟩)]) (by simp) (by simp [go_sem]) ?_
  refine (catch_idle w.heap.size _).mono ?_
  rintro e u' w'' ⟨rfl, rfl, rfl⟩
  simp [Leaves, settle, results, Tryd.results40, go_sem, cc]
  exact ⟨w1, HYY.out, rfl⟩
def RaPacket (s : ByteArray) (a : Int) (w : World) (e : Ending) (w' : World) : Prop :=
  (∃ ep sq ak tx c, ipk s a = some ((ep, sq, ak, tx), c) ∧ e = .returned (.tuple #[.agg #[.int .i64 ep, .int .i64 sq, .int .i64 ak, .string tx], .int .i64 c, .bool true]) ∧ True ∧ Below w.heap.size w w') ∨
  (ipk s a = none ∧ e = .returned (.tuple #[.agg #[.int .i64 0, .int .i64 0, .int .i64 0, .string ⟨#[]⟩], .int .i64 0, .bool false]) ∧ Below w.heap.size w w')
theorem blocksPacket (w : World) (ft : Nat) (s : ByteArray) (a : Int) (W0 : World) (h : ((w.alloc (.cells #[.func (.func 24) #[] #[]] ft)).alloc (.cells #[.int .i64 0, .int .i64 0, .int .i64 0, .string ⟨#[]⟩] 27)).alloc (.cells #[.string s, .int .i64 a] 68) = W0) :
    Fg W0 w.heap.size ft 24 ∧ Pk W0 (w.heap.size + 1) 27 0 0 0 ⟨#[]⟩ ∧ Dg W0 (w.heap.size + 1 + 1) s a ∧ Below w.heap.size w W0 := by
  subst h
  have h1 : Fg (w.alloc (.cells #[.func (.func 24) #[] #[]] ft)) w.heap.size ft 24 := heap_alloc_new w _
  have h2 := Pk.new (w.alloc (.cells #[.func (.func 24) #[] #[]] ft)) 27 0 0 0 ⟨#[]⟩
  have h3 := Dg.new ((w.alloc (.cells #[.func (.func 24) #[] #[]] ft)).alloc (.cells #[.int .i64 0, .int .i64 0, .int .i64 0, .string ⟨#[]⟩] 27)) s a
  rw [alloc_size w] at h2
  rw [alloc_size (w.alloc _), alloc_size w] at h3
  exact ⟨h1.later (bpush (bpush (bre _) _) _), h2.later (bpush (bre _) _), h3, bpush (bpush (bpush (bre _) _) _) _⟩
set_option maxHeartbeats 1600000 in
set_option maxRecDepth 100000 in
theorem readAtPacket_any (s : ByteArray) (a : Int) (w : World) (hs : s.size ≤ 1048576) :
    Calls Tryd.prog 33 #[.string s, .int .i64 a, .func (.func 24) #[] #[]] w fun e w' => RaPacket s a w e w' := by
  have hmf : ∀ (fn : Fn) (first cap : Array Value) (w : World), (Instr.makeFunc fn first cap).run Tryd.prog w = .ok (.func fn first cap) w := fun _ _ _ _ => rfl
  have HSZ := hid hs
  obtain ⟨W0, hW0⟩ : ∃ W0, ((w.alloc (.cells #[.func (.func 24) #[] #[]] 45)).alloc (.cells #[.int .i64 0, .int .i64 0, .int .i64 0, .string ⟨#[]⟩] 27)).alloc (.cells #[.string s, .int .i64 a] 68) = W0 := ⟨_, rfl⟩
  obtain ⟨f0, x0, d0, b0⟩ := blocksPacket w _ s a W0 hW0
  have N1 := hid (bpush (bre W0) (.cells #[.bool false] 4))
  have LW : Hid (w.heap.size + 1 + 1 < W0.heap.size) := d0.lt
  have L1 : Hid (W0.heap.size < (W0.alloc (.cells #[.bool false] 4)).heap.size) := hid (by show _ < _; simp)
  have HB := hid b0
  have BG := hid (Bwd.new W0 false)
  have CL := wholePacket_any (.pointer (some ⟨w.heap.size, 0, none⟩)) (.pointer (some ⟨w.heap.size + 1 + 1, 0, none⟩)) (.pointer (some ⟨w.heap.size + 1, 0, none⟩)) W0 _ _ (closPacket_any w.heap.size (w.heap.size + 1 + 1) (w.heap.size + 1) _ s a _ hs (f0.later N1.out) (d0.later N1.out) (x0.later N1.out) (by omega)) (by
    rintro w1 ⟨ep, sq, ak, tx, c, _, _, _, _, hk⟩
    have l1 := LW.out
    exact (hk.block W0.heap.size BG.out.lt (by omega) (by omega)).trans BG.out) (by
    rintro w1 ⟨_, hk⟩
    have l1 := LW.out
    exact BG.out.grown hk (by simp; omega))
  have HCL := hid CL
  have X0 := hid x0
  have HW0 := hid hW0
  clear hs hW0 f0 x0 d0 b0 CL
  go_enter Tryd.func33, Tryd.ntmps33
  go_wp2_with fail
  rw [HW0.out]
  refine HCL.out.mono ?_; rintro e w1 (⟨rfl, w2, hy, rfl⟩ | ⟨rfl, w2, ⟨hr, hk⟩, rfl⟩)
  case inr =>
    have H := hid hr
    have l1 := LW.out
    have l2 := L1.out
    have E2 : Hid (Below w.heap.size w ((w2.alloc (.cells #[] 71)).setCell ⟨W0.heap.size, 0, none⟩ (.bool false))) := hid (bsk (btr (HB.out.trans (N1.out.mono (by omega) |>.trans (below_grownR hk (by intro j hj; simp at hj; omega) (by omega)))) (bpush (bre w2) _)) (by omega) 0 _)
    have F2 : Hid (Pk ((w2.alloc (.cells #[] 71)).setCell ⟨W0.heap.size, 0, none⟩ (.bool false)) (w.heap.size + 1) 27 0 0 0 ⟨#[]⟩) := hid (heap_setCell_far _ (((X0.out.later N1.out).grown hk (by simp)).later (bpush (bre w2) _)) (by omega))
    obtain ⟨w3, hw3⟩ : ∃ x, (w2.alloc (.cells #[] 71)).setCell ⟨W0.heap.size, 0, none⟩ (.bool false) = x := ⟨_, rfl⟩
    rw [hw3] at E2 F2
    rw [hw3]
    have d := F2.out.cells
    have f := F2.out.loose
    clear hr hk hw3 l1 l2
    go_wp2
    have hX := Pk.put F2.out 0 0 0 ⟨#[]⟩
    unfold putP at hX
    have d := hX.cells
    exact bodyPost_ret (v := .tuple #[.agg #[.int .i64 0, .int .i64 0, .int .i64 0, .string ⟨#[]⟩], .int .i64 0, .bool false]) (by simp [results, Tryd.results33, go_sem, d]) rfl (Or.inr ⟨H.out, rfl, E2.out.trans (below_grownR (wst (wst (wst (wst (wre w3 (some (w.heap.size + 1))) 0 (.int .i64 0)) 1 (.int .i64 0)) 2 (.int .i64 0)) 3 (.string ⟨#[]⟩)) (by intro j hj; simp at hj; omega) E2.out.size)⟩)
  obtain ⟨ep, sq, ak, tx, c, hr, hd, hx, ho, hk⟩ := hy
  have H := hid hr
  have l1 := LW.out
  have l2 := L1.out
  have K2 : Hid (Kept2 W0 w2 (w.heap.size + 1 + 1) (w.heap.size + 1)) := hid hk.push
  have N3 := hid (bpush (bre (w2.setCell ⟨W0.heap.size, 0, none⟩ (.bool true))) (.cells #[] 71))
  have E2 : Hid (Below w.heap.size w ((w2.setCell ⟨W0.heap.size, 0, none⟩ (.bool true)).alloc (.cells #[] 71))) := hid (HB.out.trans (((K2.out.new (Nat.le_refl _) _ _).later N3.out).below (by omega) (by omega) (by omega)))
  have D2 := hid ((hd.far (j := W0.heap.size) (i := 0) (.bool true) (by omega)).later N3.out)
  have X2 : Hid (Pk ((w2.setCell ⟨W0.heap.size, 0, none⟩ (.bool true)).alloc (.cells #[] 71)) (w.heap.size + 1) 27 ep sq ak tx) := hid (((show Pk (w2.setCell ⟨W0.heap.size, 0, none⟩ (.bool true)) (w.heap.size + 1) 27 ep sq ak tx from heap_setCell_far _ hx (by omega))).later N3.out)
  have O2 := hid ((trivial : True))
  obtain ⟨w3, hw3⟩ : ∃ x, (w2.setCell ⟨W0.heap.size, 0, none⟩ (.bool true)).alloc (.cells #[] 71) = x := ⟨_, rfl⟩
  rw [hw3] at E2 D2 X2
  rw [hw3]
  have d := X2.out.cells
  have f := X2.out.loose
  have dd := D2.out.cells
  clear hr hd hx ho hk hw3 l1 l2 K2 N3
  go_wp2_with fail
  go_region
  all_goals go_wp2
  all_goals
    have hX := Pk.put X2.out ep sq ak tx
    unfold putP at hX
    have d3 := hX.cells
    have l1 := LW.out
    have l2 := L1.out
    refine bodyPost_ret (v := .tuple #[.agg #[.int .i64 ep, .int .i64 sq, .int .i64 ak, .string tx], .int .i64 c, .bool true]) (by simp [results, Tryd.results33, go_sem, d3]) rfl (Or.inl ⟨ep, sq, ak, tx, c, H.out, rfl, ?_, ?_⟩)
    · first | exact drewPacket (trivial) | exact trivial
    · first | exact bdr (E2.out.trans (below_grownR (wst (wst (wst (wst (wre w3 (some (w.heap.size + 1))) 0 (.int .i64 ep)) 1 (.int .i64 sq)) 2 (.int .i64 ak)) 3 (.string tx)) (by intro j hj; simp at hj; omega) E2.out.size)) | exact (bdr E2.out).trans (below_grownR (wst (wst (wst (wst (wre w3.drew (some (w.heap.size + 1))) 0 (.int .i64 ep)) 1 (.int .i64 sq)) 2 (.int .i64 ak)) 3 (.string tx)) (by intro j hj; simp at hj; omega) E2.out.size)
/-- What was read to the end. -/
def wh {α : Type} (o : Option (α × Int)) (n : Nat) : Option α := match o with
  | none => none
  | some p => if p.2 = (n : Int) then some p.1 else none
theorem wh_none {α : Type} {o : Option (α × Int)} (n : Nat) (h : o = none) : wh o n = none := by rw [h]; rfl
theorem wh_yes {α : Type} {o : Option (α × Int)} {n : Nat} {x : α} {c : Int} (h : o = some (x, c)) (hc : c = (n : Int)) : wh o n = some x := by rw [h]; exact if_pos hc
theorem wh_no {α : Type} {o : Option (α × Int)} {n : Nat} {x : α} {c : Int} (h : o = some (x, c)) (hc : ¬ c = (n : Int)) : wh o n = none := by rw [h]; exact if_neg hc
def RallPacket (s : ByteArray) (w : World) (e : Ending) (w' : World) : Prop :=
  (∃ ep sq ak tx, wh (ipk s 0) s.size = some (ep, sq, ak, tx) ∧ e = .returned (.tuple #[.agg #[.int .i64 ep, .int .i64 sq, .int .i64 ak, .string tx], .bool true]) ∧ True ∧ Below w.heap.size w w') ∨
  (wh (ipk s 0) s.size = none ∧ e = .returned (.tuple #[.agg #[.int .i64 0, .int .i64 0, .int .i64 0, .string ⟨#[]⟩], .bool false]) ∧ Below w.heap.size w w')
set_option maxHeartbeats 4000000 in
set_option maxRecDepth 100000 in
theorem readAllPacket_any (s : ByteArray) (w : World) (hs : s.size ≤ 1048576) :
    Calls Tryd.prog 23 #[.string s, .func (.func 24) #[] #[]] w fun e w' => RallPacket s w e w' := by
  have HSZ := hid hs
  have Z0 := hid (Pk.new w 27 0 0 0 ⟨#[]⟩)
  have LZ : Hid (w.heap.size < (w.alloc (.cells #[.int .i64 0, .int .i64 0, .int .i64 0, .string ⟨#[]⟩] 27)).heap.size) := Z0.out.lt
  have B0 := hid (bpush (bre w) (.cells #[.int .i64 0, .int .i64 0, .int .i64 0, .string ⟨#[]⟩] 27))
  clear hs
  go_enter Tryd.func23, Tryd.ntmps23
  go_wp2_with fail
  refine (readAtPacket_any s 0 _ HSZ.out).mono ?_; rintro e w2 (⟨ep, sq, ak, tx, c, hr, rfl, ho, hb2⟩ | ⟨hr, rfl, hb2⟩)
  · have H := hid hr
    have hb3 := bpush hb2 (.cells #[.int .i64 ep, .int .i64 sq, .int .i64 ak, .string tx] 27)
    have N3 := hid (Pk.new w2 27 ep sq ak tx)
    have Z3 := hid (Z0.out.later hb3)
    have B3 := hid (btr B0.out hb3)
    have O3 := hid (trivial : True)
    have LW := LZ.out
    have d5 := Z3.out.cells
    have f5 := Z3.out.loose
    have dn := N3.out.cells
    clear hr ho hb2 hb3 Z0 B0 LW
    by_cases hc : c = (s.size : Int)
    · have HC := hid (wh_yes (H.out) hc)
      go_wp2
      have hX := Pk.put Z3.out ep sq ak tx
      unfold putP at hX
      have d := hX.cells
      have hg7 := (wst (wst (wst (wst (wre (w2.alloc (.cells #[.int .i64 ep, .int .i64 sq, .int .i64 ak, .string tx] 27)) (some w.heap.size)) 0 (.int .i64 ep)) 1 (.int .i64 sq)) 2 (.int .i64 ak)) 3 (.string tx))
      have l1 := LZ.out
      refine bodyPost_ret (v := .tuple #[.agg #[.int .i64 ep, .int .i64 sq, .int .i64 ak, .string tx], .bool true]) (by simp [results, Tryd.results23, go_sem, d]) rfl (Or.inl ⟨ep, sq, ak, tx, HC.out, rfl, ?_, ?_⟩)
      · exact trivial
      · exact B3.out.trans (below_grownR hg7 (by intro j hj; simp at hj; omega) B3.out.size)
    · have HC := hid (wh_no (H.out) hc)
      have d6 := (Z3.out.later (bpush (bre (w2.alloc (.cells #[.int .i64 ep, .int .i64 sq, .int .i64 ak, .string tx] 27))) (.cells #[.int .i64 0, .int .i64 0, .int .i64 0, .string ⟨#[]⟩] 27))).cells
      have f6 := (Z3.out.later (bpush (bre (w2.alloc (.cells #[.int .i64 ep, .int .i64 sq, .int .i64 ak, .string tx] 27))) (.cells #[.int .i64 0, .int .i64 0, .int .i64 0, .string ⟨#[]⟩] 27))).loose
      clear d5 f5
      go_wp2
      have hX := Pk.put (Z3.out.later (bpush (bre (w2.alloc (.cells #[.int .i64 ep, .int .i64 sq, .int .i64 ak, .string tx] 27))) (.cells #[.int .i64 0, .int .i64 0, .int .i64 0, .string ⟨#[]⟩] 27))) 0 0 0 ⟨#[]⟩
      unfold putP at hX
      have d := hX.cells
      have hg7 := (wst (wst (wst (wst (wre ((w2.alloc (.cells #[.int .i64 ep, .int .i64 sq, .int .i64 ak, .string tx] 27)).alloc (.cells #[.int .i64 0, .int .i64 0, .int .i64 0, .string ⟨#[]⟩] 27)) (some w.heap.size)) 0 (.int .i64 0)) 1 (.int .i64 0)) 2 (.int .i64 0)) 3 (.string ⟨#[]⟩))
      have B4 := btr B3.out (bpush (bre (w2.alloc (.cells #[.int .i64 ep, .int .i64 sq, .int .i64 ak, .string tx] 27))) (.cells #[.int .i64 0, .int .i64 0, .int .i64 0, .string ⟨#[]⟩] 27))
      refine bodyPost_ret (v := .tuple #[.agg #[.int .i64 0, .int .i64 0, .int .i64 0, .string ⟨#[]⟩], .bool false]) (by simp [results, Tryd.results23, go_sem, d]) rfl (Or.inr ⟨HC.out, rfl, ?_⟩)
      exact B4.trans (below_grownR hg7 (by intro j hj; simp at hj; omega) B4.size)
  · have HC := hid (wh_none s.size hr)
    have hb3 := bpush hb2 (.cells #[.int .i64 0, .int .i64 0, .int .i64 0, .string ⟨#[]⟩] 27)
    have Z3 := hid (Z0.out.later hb3)
    have B3 := hid (btr B0.out hb3)
    have d6 := (Z3.out.later (bpush (bre (w2.alloc (.cells #[.int .i64 0, .int .i64 0, .int .i64 0, .string ⟨#[]⟩] 27))) (.cells #[.int .i64 0, .int .i64 0, .int .i64 0, .string ⟨#[]⟩] 27))).cells
    have f6 := (Z3.out.later (bpush (bre (w2.alloc (.cells #[.int .i64 0, .int .i64 0, .int .i64 0, .string ⟨#[]⟩] 27))) (.cells #[.int .i64 0, .int .i64 0, .int .i64 0, .string ⟨#[]⟩] 27))).loose
    clear hr hb2 hb3 Z0 B0
    go_wp2
    have hX := Pk.put (Z3.out.later (bpush (bre (w2.alloc (.cells #[.int .i64 0, .int .i64 0, .int .i64 0, .string ⟨#[]⟩] 27))) (.cells #[.int .i64 0, .int .i64 0, .int .i64 0, .string ⟨#[]⟩] 27))) 0 0 0 ⟨#[]⟩
    unfold putP at hX
    have d := hX.cells
    have hg7 := (wst (wst (wst (wst (wre ((w2.alloc (.cells #[.int .i64 0, .int .i64 0, .int .i64 0, .string ⟨#[]⟩] 27)).alloc (.cells #[.int .i64 0, .int .i64 0, .int .i64 0, .string ⟨#[]⟩] 27)) (some w.heap.size)) 0 (.int .i64 0)) 1 (.int .i64 0)) 2 (.int .i64 0)) 3 (.string ⟨#[]⟩))
    have B4 := btr B3.out (bpush (bre (w2.alloc (.cells #[.int .i64 0, .int .i64 0, .int .i64 0, .string ⟨#[]⟩] 27))) (.cells #[.int .i64 0, .int .i64 0, .int .i64 0, .string ⟨#[]⟩] 27))
    refine bodyPost_ret (v := .tuple #[.agg #[.int .i64 0, .int .i64 0, .int .i64 0, .string ⟨#[]⟩], .bool false]) (by simp [results, Tryd.results23, go_sem, d]) rfl (Or.inr ⟨HC.out, rfl, ?_⟩)
    exact B4.trans (below_grownR hg7 (by intro j hj; simp at hj; omega) B4.size)
theorem implUnsealedK_any (s : ByteArray) (w : World) (hm : s.size ≤ 1048576) (hn : Nib w) :
    Calls Tryd.prog 22 #[.string s] w fun e w' => e = .returned (.tuple #[.string (unsK s).1, .bool (unsK s).2]) ∧ Below w.heap.size w w' := by
  by_cases h : 4 ≤ s.size ∧ s.size ≤ 20004
  · by_cases h2 : tail4 (s.extract 0 (s.size - 4)) = s.extract (s.size - 4) s.size
    · have e : unsK s = (s.extract 0 (s.size - 4), true) := by unfold unsK; rw [if_pos ⟨h.1, h.2, h2⟩]
      rw [e]
      exact implUnsealed_yes s (s.size - 4) w (by omega) (by omega) hn h2
    · have e : unsK s = (⟨#[]⟩, false) := by unfold unsK; rw [if_neg (fun x => h2 x.2.2)]
      rw [e]
      exact implUnsealed_no s (s.size - 4) w (by omega) (by omega) hn h2
  · have e : unsK s = (⟨#[]⟩, false) := by unfold unsK; rw [if_neg (fun x => h ⟨x.1, x.2.1⟩)]
    rw [e]
    exact (implUnsealed_size s w hm (by omega)).mono fun _ _ h => ⟨h.1, h.2 ▸ bre _⟩
theorem unsK_whole {s u : ByteArray} (h : unsK s = (u, true)) : u ++ tail4 u = s ∧ u.size ≤ 20000 := by
  have hz := unsK_size s
  rw [h] at hz
  unfold unsK at h
  split at h
  · rename_i hc
    simp only [Prod.mk.injEq, and_true] at h
    subst h
    refine ⟨?_, hz⟩
    rw [hc.2.2]
    apply ByteArray.ext
    rw [ByteArray.data_append]
    simp only [ByteArray.data_extract]
    rw [Array.extract_append_extract]
    simp only [Nat.min_eq_left (Nat.zero_le _), Nat.max_eq_right (Nat.sub_le _ _)]
    exact Array.extract_size
  · simp at h
/-- The whole text is read, or it is not the text of what was read. -/

theorem ipk_stood {u : ByteArray} {e x y c : Int} {t : ByteArray} (h : ipk u 0 = some ((e, x, y, t), c)) (hc : c = (u.size : Int)) : pkOk e x y t = true ∧ u = pkt e x y t := by
  cases h1 : rd u 0 with
  | none => rw [ipk_n1 h1] at h; cases h
  | some p1 =>
    obtain ⟨e1, c1⟩ := p1
    cases h2 : rd u c1 with
    | none => rw [ipk_n2 h1 h2] at h; cases h
    | some p2 =>
      obtain ⟨x1, c2⟩ := p2
      cases h3 : rd u c2 with
      | none => rw [ipk_n3 h1 h2 h3] at h; cases h
      | some p3 =>
        obtain ⟨y1, c3⟩ := p3
        cases h4 : rsh u c3 with
        | none => rw [ipk_n4 h1 h2 h3 h4] at h; cases h
        | some p4 =>
          obtain ⟨t1, c4⟩ := p4
          rw [ipk_y h1 h2 h3 h4] at h
          split at h
          · rename_i hok
            simp only [Option.some.injEq, Prod.mk.injEq] at h
            obtain ⟨⟨rfl, rfl, rfl, rfl⟩, rfl⟩ := h
            refine ⟨hok, bl_inj ?_⟩
            have s1 := rd_stood h1
            have s2 := rd_stood h2
            have s3 := rd_stood h3
            have s4 := (rsh_stood h4).1
            have hz : (bl u).drop c4.toNat = [] := by
              rw [hc, Int.toNat_natCast]
              exact List.drop_of_length_le (by rw [bl_len]; omega)
            rw [s2, s3, s4, hz] at s1
            simp only [Int.toNat_zero, List.drop_zero, List.append_nil] at s1
            rw [s1]
            unfold pkt
            simp only [bl_app, bl_vi, List.append_assoc, Int.toNat_natCast]
          · cases h
theorem pkt_whole {e x y : Int} {t : ByteArray} (h : pkOk e x y t = true) : wh (ipk (pkt e x y t) 0) (pkt e x y t).size = some (e, x, y, t) := by
  have a0 := pkt_at e x y t
  have hk := h
  simp only [pkOk, Bool.and_eq_true, decide_eq_true_eq] at h
  obtain ⟨r1, r2, r3, r4⟩ := h
  have v1 := AtK.var a0.here r1
  have a1 := a0.next
  rw [bl_len] at a1
  have v2 := AtK.var a1.here r2
  have a2 := a1.next
  rw [bl_len] at a2
  have v3 := AtK.var a2.here r3
  have a3 := a2.next
  rw [bl_len] at a3
  have v4 := AtK.short a3 (by omega)
  have hi := ipk_y v1 v2 v3 v4
  rw [if_pos hk] at hi
  refine wh_yes hi ?_
  unfold pkt
  simp only [ByteArray.size_append]
  omega
theorem rp_impl (t : ByteArray) (x : Ending) (h : (∃ e s a u, wh (ipk (unsK t).1 0) (unsK t).1.size = some (e, s, a, u) ∧ x = .returned (.tuple #[pkv e s a u, .bool true])) ∨ (wh (ipk (unsK t).1 0) (unsK t).1.size = none ∧ x = .returned (.tuple #[pkv 0 0 0 ⟨#[]⟩, .bool false]))) : RpPost t x := by
  rcases h with ⟨e, s, a, u, h, rfl⟩ | ⟨h, rfl⟩
  · left
    cases hi : ipk (unsK t).1 0 with
    | none => rw [wh_none _ hi] at h; cases h
    | some p =>
      obtain ⟨⟨e1, s1, a1, u1⟩, c⟩ := p
      by_cases hc : c = ((unsK t).1.size : Int)
      · rw [wh_yes hi hc] at h
        simp only [Option.some.injEq, Prod.mk.injEq] at h
        obtain ⟨rfl, rfl, rfl, rfl⟩ := h
        obtain ⟨hok, hu⟩ := ipk_stood hi hc
        refine ⟨_, _, _, _, hok, ?_, rfl⟩
        cases hb : (unsK t).2 with
        | true =>
          have := (unsK_whole (s := t) (u := (unsK t).1) (by rw [← hb])).1
          rw [hu] at this
          exact this
        | false =>
          have he : (unsK t).1 = ⟨#[]⟩ := by
            unfold unsK at hb ⊢
            split at hb
            · cases hb
            · rename_i hn
              rw [if_neg hn]
          rw [he] at hi
          rw [ipk_n1 rfl] at hi
          cases hi
      · rw [wh_no hi hc] at h; cases h
  · right
    refine ⟨fun e s a u hok hS => ?_, rfl⟩
    have hz := pkt_size hok
    have hu : unsK t = (pkt e s a u, true) := by rw [← hS]; exact unsK_sealed _ (by omega)
    rw [hu] at h
    rw [pkt_whole hok] at h
    cases h
set_option maxHeartbeats 1600000 in
set_option maxRecDepth 100000 in
theorem implReadPacket_any (t : ByteArray) (w : World) (ht : t.size ≤ 1048576) (hn : Nib w) :
    Calls Tryd.prog 10 #[.string t] w fun x w' => RpPost t x ∧ Below w.heap.size w w' := by
  obtain ⟨W0, hW0⟩ : ∃ W0, w.alloc (.cells #[.int .i64 0, .int .i64 0, .int .i64 0, .string ⟨#[]⟩] 27) = W0 := ⟨_, rfl⟩
  have b0 : Below w.heap.size w W0 := by subst hW0; exact bpush (bre _) _
  have x0 : Pk W0 w.heap.size 27 0 0 0 ⟨#[]⟩ := by subst hW0; exact Pk.new _ _ _ _ _ _
  have X0 := hid x0
  have B0 := hid b0
  have HW0 := hid hW0
  have CU := hid (implUnsealedK_any t W0 ht (hn.on17 b0))
  have HU := hid (unsK_size t)
  have HRP := hid (rp_impl t)
  obtain ⟨u, hu⟩ : ∃ u, (unsK t).1 = u := ⟨_, rfl⟩
  obtain ⟨k, hk⟩ : ∃ u, (unsK t).2 = u := ⟨_, rfl⟩
  rw [hu, hk] at CU
  rw [hu] at HU HRP
  clear x0 b0 hW0 hn hu hk ht
  go_enter Tryd.func10, Tryd.ntmps10
  go_wp2_with fail
  rw [HW0.out]
  refine CU.out.mono ?_; rintro z w1 ⟨rfl, hb1⟩
  have X1 := hid (X0.out.later hb1)
  have B1 := hid (btr B0.out hb1)
  clear hb1 X0 B0 CU
  go_wp2_with fail
  refine (readAllPacket_any u w1 (by have := HU.out; omega)).mono ?_; rintro z w2 (⟨e, s, a, v, hr, rfl, -, hb2⟩ | ⟨hr, rfl, hb2⟩)
  · have P := hid (HRP.out (.returned (.tuple #[pkv e s a v, .bool true])) (Or.inl ⟨e, s, a, v, hr, rfl⟩))
    have X2 := hid (X1.out.later hb2)
    have B2 := hid (btr B1.out hb2)
    have d5 := X2.out.cells
    have f5 := X2.out.loose
    clear hr hb2 X1 B1
    go_wp2
    have g3 := putP_grown w2 w.heap.size e s a v
    have d := (X2.out.put e s a v).cells
    have b3 := B2.out.trans (below_of_grown g3 (by omega) B2.out.size)
    unfold putP at g3 d b3
    exact bodyPost_ret (v := .tuple #[pkv e s a v, .bool true]) (by simp [results, Tryd.results10, go_sem, d]) rfl ⟨P.out, b3⟩
  · have P := hid (HRP.out (.returned (.tuple #[pkv 0 0 0 ⟨#[]⟩, .bool false])) (Or.inr ⟨hr, rfl⟩))
    have X2 := hid (X1.out.later hb2)
    have B2 := hid (btr B1.out hb2)
    have d5 := X2.out.cells
    have f5 := X2.out.loose
    clear hr hb2 X1 B1
    go_wp2
    have g3 := putP_grown w2 w.heap.size 0 0 0 ⟨#[]⟩
    have d := (X2.out.put 0 0 0 ⟨#[]⟩).cells
    have b3 := B2.out.trans (below_of_grown g3 (by omega) B2.out.size)
    unfold putP at g3 d b3
    exact bodyPost_ret (v := .tuple #[pkv 0 0 0 ⟨#[]⟩, .bool false]) (by simp [results, Tryd.results10, go_sem, d]) rfl ⟨P.out, b3⟩
theorem lawPacketTextN_any (e s a : Int) (t : ByteArray) (w : World) (ht : (t.size : Int) ≤ 9223372036854775807) (hn : Nib w) :
    Calls Tryd.prog 3 #[pkv e s a t] w fun x w' => x = .returned (.bool true) ∧ Below w.heap.size w w' :=
  lawPacketText_any e s a t w ht (fun _ W hb => implPacketText_any e s a t W (hn.on17 hb))
theorem lawReadPacketN_any (t : ByteArray) (w : World) (hn : Nib w) :
    Calls Tryd.prog 4 #[.string t] w fun x w' => x = .returned (.bool true) ∧ Below w.heap.size w w' :=
  lawReadPacket_any t w (fun ht W hb => implReadPacket_any t W ht (hn.on17 hb))
end Go.Proofs.YtlopdmledeglbaaDoor
namespace Go.Proofs.YtlopdmledeglbaaDoor
open Go.ChangeShapes Go.WideShapes Go.ChangeAt Go.RowKit Go.Joins
theorem wf_in17 {a : Int} (h : (Lit.int .i64 a).wf = true) : 0 - 9223372036854775808 ≤ a ∧ a ≤ 9223372036854775807 := by
  have h2 : IntKind.i64.min ≤ a ∧ a ≤ 9223372036854775807 := by simpa [Lit.wf] using h
  exact ⟨Int.le_trans (by decide) h2.1, h2.2⟩
theorem cellsPk17 : Tryd.prog.cellsOf 23 = 4 := by kernel_rfl
theorem cellsTx17 : Tryd.prog.cellsOf 9 = 1 := by kernel_rfl
theorem cellsIn17 : Tryd.prog.cellsOf 3 = 1 := by kernel_rfl
theorem array4_17 {α : Type} {cs : Array α} (h : cs.size = 4) : ∃ c0 c1 c2 c3, cs = #[c0, c1, c2, c3] := by
  obtain ⟨l, rfl⟩ : ∃ l : List α, cs = l.toArray := ⟨cs.toList, by simp⟩
  have hl : l.length = 4 := by simpa using h
  match l, hl with
  | [c0, c1, c2, c3], _ => exact ⟨c0, c1, c2, c3, rfl⟩
section
variable {H : Type} {enc : TypeId × Value → H} {w : World} {spr : Nat → Bool} {held : Bool}
theorem addr_at17 {a : Addr} {u : Value} (h : w.cell? (a.add 0) = some u) : ∃ k o, a = ⟨k, o, none⟩ := by
  obtain ⟨k, o, s⟩ := a
  have hs : s = none := by simpa [Addr.add] using World.cell?_spot h
  exact ⟨k, o, by rw [hs]⟩
theorem trod_struct4_17 {P : Program} {base : Nat} {spare : Nat → Bool} {t : TypeId} {f0 f1 f2 f3 : Field} {fuel : Nat} {cs : List Value} {x : DataW H × List MemPlace} (ht : P.underlying t = some (.struct #[f0, f1, f2, f3])) (h : DataW.trod enc P w base spare held fuel t cs = some x) :
    ∃ y0 y1 y2 y3 n, cs.length = P.cellsOf t ∧ DataW.trod enc P w base spare held n f0.type ((cs.drop f0.offset).take (P.cellsOf f0.type)) = some y0 ∧
      DataW.trod enc P w base spare held n f1.type ((cs.drop f1.offset).take (P.cellsOf f1.type)) = some y1 ∧ DataW.trod enc P w base spare held n f2.type ((cs.drop f2.offset).take (P.cellsOf f2.type)) = some y2 ∧
      DataW.trod enc P w base spare held n f3.type ((cs.drop f3.offset).take (P.cellsOf f3.type)) = some y3 := by
  obtain ⟨xs, n, _, rfl, hl, hlen, hf⟩ := DataW.trod_struct ht h
  match xs, hlen with
  | [y0, y1, y2, y3], _ => exact ⟨y0, y1, y2, y3, n, hl, by simpa using hf 0 f0 rfl, by simpa using hf 1 f1 rfl, by simpa using hf 2 f2 rfl, by simpa using hf 3 f3 rfl⟩
set_option maxRecDepth 100000 in
theorem openPk {base : Nat} {v : Value} {d : DataW H} {p : List MemPlace} (hv : Value.okWide Tryd.prog w .any base 23 v) (h : DataW.Trod enc Tryd.prog w 0 spr held 23 v d p) :
    ∃ (e s a : Int) (t : ByteArray), v = pkv e s a t ∧ (t.size : Int) ≤ 9223372036854775807 ∧ (0 - 9223372036854775808 ≤ e ∧ e ≤ 9223372036854775807) ∧ (0 - 9223372036854775808 ≤ s ∧ s ≤ 9223372036854775807) ∧ (0 - 9223372036854775808 ≤ a ∧ a ≤ 9223372036854775807) := by
  obtain ⟨cs, rfl, hsz⟩ := okWide_struct Tryd.underlying23 hv
  obtain ⟨fuel, hf⟩ := h
  rw [cellsPk17] at hsz
  obtain ⟨c0, c1, c2, c3, rfl⟩ := array4_17 hsz
  obtain ⟨y0, y1, y2, y3, n, hl, h0, h1, h2, h3⟩ := trod_struct4_17 Tryd.underlying23 hf
  have k0 : DataW.trod enc Tryd.prog w 0 spr held n 3 [c0] = some y0 := by simpa [cellsIn17, Value.cells] using h0
  have k1 : DataW.trod enc Tryd.prog w 0 spr held n 3 [c1] = some y1 := by simpa [cellsIn17, Value.cells] using h1
  have k2 : DataW.trod enc Tryd.prog w 0 spr held n 3 [c2] = some y2 := by simpa [cellsIn17, Value.cells] using h2
  have k3 : DataW.trod enc Tryd.prog w 0 spr held n 9 [c3] = some y3 := by simpa [cellsTx17, Value.cells] using h3
  obtain ⟨e, e0, w0, x0⟩ := DataW.trod_int Tryd.underlying3 k0
  obtain ⟨s, e1, w1, x1⟩ := DataW.trod_int Tryd.underlying3 k1
  obtain ⟨a, e2, w2, x2⟩ := DataW.trod_int Tryd.underlying3 k2
  obtain ⟨t, e3, _, t3⟩ := DataW.trod_string Tryd.underlying9 k3
  simp only [List.cons.injEq, and_true] at e0 e1 e2 e3
  subst e0 e1 e2 e3
  exact ⟨e, s, a, t, rfl, by unfold maxLen at t3; omega, wf_in17 x0, wf_in17 x1, wf_in17 x2⟩
end
end Go.Proofs.YtlopdmledeglbaaDoor
