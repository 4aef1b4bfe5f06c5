/- What the program reads whole or not at all: mail. -/
import Derived.Test.YtldcmfkmnjdfiaaWk
namespace Go.Proofs.Ytldcmfkmnjdfiaa
open Go.RowKit

theorem drewMail {W : World} {B : Nat} {v : Value} {l : List R3} (h : Ow W B v l) : Ow W.drew B v l := h
def CloMail (w : World) (kr km : Nat) (s : ByteArray) (a : Int) (w' : World) : Prop :=
  ∃ g u l t c fa fc, rm6 s a = (g, u, l, t, c, true) ∧ Dg w' kr s c ∧ Mg w' km 26 g u (.slice fa l.length fc) t ∧ Ow w' w.heap.size (.slice fa l.length fc) l ∧ Kept2 w w' kr km

set_option maxHeartbeats 400000 in
set_option maxRecDepth 100000 in
theorem closMail_any (kf kr km ft : Nat) (s : ByteArray) (a : Int) (w : World) (hs : s.size ≤ 1048576) (hf : Fg w kf ft 27) (hd : Dg w kr s a) (hm : Mg w km 26 0 0 (.slice none 0 0) ⟨#[]⟩) (hne : kr ≠ km) :
    Calls Try.prog 52 #[.pointer (some ⟨kf, 0, none⟩), .pointer (some ⟨kr, 0, none⟩), .pointer (some ⟨km, 0, none⟩)] w fun e w' => (e = .returned (.tuple #[]) ∧ CloMail w kr km s a w') ∨ (e = .panicked notHere ∧ rm6 s a = zero6 ∧ w.grownBy w' (some kr)) := by
  have HD := hid hd
  have HM := hid hm
  have HS := hid hs
  have HNE := hid hne
  have cf := hf.cell
  clear hd hm hs hne hf
  go_enter Try.func52, Try.ntmps52
  go_wp2_with fail
  refine (mail_any kr s a _ HS.out HD.out).mono ?_; rintro e w1 (⟨g, u, l, t, c, v, hr, rfl, hd, ho, hg⟩ | ⟨hr, rfl, hg⟩)
  case inr =>
    have H := hid hr
    have G := hid hg
    clear hr hg
    go_wp2_with fail
    exact ⟨rfl, Or.inr ⟨rfl, H.out, G.out⟩⟩
  obtain ⟨fa, fc, hv, _⟩ := Ow.shape ho
  subst hv
  have H := hid hr
  have M1 := hid (HM.out.grown hg (by have := HNE.out; simp; omega))
  have D1 := hid hd
  have O1 := hid ho
  have K1 : Hid (Kept2 w w1 kr km) := Kept2.of_grown hg
  have LM : Hid (km < w.heap.size) := HM.out.lt
  have c := M1.out.cells
  have f := M1.out.loose
  clear hr hd ho hg cf
  go_wp2
  go_end0
  have hne := HNE.out
  have hX := set4 M1.out g u (.slice fa l.length fc) t
  refine Or.inl ⟨rfl, g, u, l, t, _, fa, fc, H.out, ?_, hX, ?_, ?_⟩
  · exact ((wst (wst (wst (wst (wre w1 (some km)) _ _) _ _) _ _) _ _).block kr D1.out.lt (by simp; omega)).trans D1.out
  · exact own_grown1 (O1.out) ((wst (wst (wst (wst (wre w1 (some km)) _ _) _ _) _ _) _ _)) (LM.out)
  · exact ((((K1.out.set _ _).set _ _).set _ _).set _ _)

set_option maxHeartbeats 800000 in
set_option maxRecDepth 100000 in
/-- readWhole over this closure, whatever it is known to leave. -/
theorem wholeMail_any (p1 p2 p3 : Value) (w : World) (Y N : World → Prop) (hF : Calls Try.prog 52 #[p1, p2, p3] (w.alloc (.cells #[.bool false] 4)) fun e w1 => (e = .returned (.tuple #[]) ∧ Y w1) ∨ (e = .panicked notHere ∧ N w1)) (hY : ∀ w1, Y w1 → Bwd w1 w.heap.size false) (hN : ∀ w1, N w1 → Bwd w1 w.heap.size false) :
    Calls Try.prog 51 #[.func (.func 52) #[] #[p1, p2, p3]] w fun e w' => (e = .returned (.bool true) ∧ ∃ w1, Y w1 ∧ w' = (w1.setCell ⟨w.heap.size, 0, none⟩ (.bool true)).alloc (.cells #[] 97)) ∨ (e = .returned (.bool false) ∧ ∃ w1, N w1 ∧ w' = (w1.alloc (.cells #[] 97)).setCell ⟨w.heap.size, 0, none⟩ (.bool false)) := by
  have hmf : ∀ (fn : Fn) (first cap : Array Value) (w : World), (Instr.makeFunc fn first cap).run Try.prog w = .ok (.func fn first cap) w := fun _ _ _ _ => rfl
  have HF := hid hF
  have HY := hid hY
  have HN := hid hN
  have B0 := hid (Bwd.new w false)
  have c0 := B0.out.cell
  clear hF hY hN
  go_enter_defers Try.func51, Try.ntmps51
  go_wp2_with fail
  refine HF.out.mono ?_; rintro e w1 (⟨rfl, hy⟩ | ⟨rfl, hn⟩)
  case inr =>
    have B1 : Hid (Bwd w1 w.heap.size false) := HN.out w1 hn
    have HNN := hid hn
    clear hn c0
    go_wp2_with fail
    refine leaves_cons (f := 73) (args := #[.pointer (some ⟨w.heap.size, 0, none⟩)]) (by simp) (by simp [go_sem]) ?_
    refine (catch_panic w.heap.size false [] _ B1.out).mono ?_
    rintro e u' w'' ⟨rfl, rfl, rfl⟩
    have cc := ((B1.out.later (bpush (bre w1) (.cells #[] 97))).set false).cell
    simp [Leaves, settle, results, Try.results51, go_sem, cc]
    exact ⟨w1, HNN.out, rfl⟩
  have B1 : Hid (Bwd w1 w.heap.size false) := HY.out w1 hy
  have HYY := hid hy
  have c1 := B1.out.cell
  have f1 := B1.out.loose
  clear hy c0
  go_wp2
  have N2 := hid (bpush (bre (w1.setCell ⟨w.heap.size, 0, none⟩ (.bool true))) (.cells #[] 97))
  have cc := ((B1.out.set true).later N2.out).cell
  refine leaves_cons (f := 73) (args := #[.pointer (some ⟨w.heap.size, 0, none⟩)]) (by simp) (by simp [go_sem]) ?_
  refine (catch_idle w.heap.size _).mono ?_
  rintro e u' w'' ⟨rfl, rfl, rfl⟩
  simp [Leaves, settle, results, Try.results51, go_sem, cc]
  exact ⟨w1, HYY.out, rfl⟩

def RaMail (s : ByteArray) (a : Int) (w : World) (e : Ending) (w' : World) : Prop :=
  (∃ g u l t c fa fc, rm6 s a = (g, u, l, t, c, true) ∧ e = .returned (.tuple #[.agg #[.int .i64 g, .int .i64 u, .slice fa l.length fc, .string t], .int .i64 c, .bool true]) ∧ Ow w' w.heap.size (.slice fa l.length fc) l ∧ Below w.heap.size w w') ∨
  (rm6 s a = zero6 ∧ e = .returned (.tuple #[.agg #[.int .i64 0, .int .i64 0, .slice none 0 0, .string ⟨#[]⟩], .int .i64 0, .bool false]) ∧ Below w.heap.size w w')
theorem blocksMail (w : World) (ft : Nat) (s : ByteArray) (a : Int) (W0 : World) (h : ((w.alloc (.cells #[.func (.func 27) #[] #[]] ft)).alloc (.cells #[.int .i64 0, .int .i64 0, .slice none 0 0, .string ⟨#[]⟩] 26)).alloc (.cells #[.string s, .int .i64 a] 77) = W0) :
    Fg W0 w.heap.size ft 27 ∧ Mg W0 (w.heap.size + 1) 26 0 0 (.slice none 0 0) ⟨#[]⟩ ∧ Dg W0 (w.heap.size + 1 + 1) s a ∧ Below w.heap.size w W0 := by
  subst h
  have h1 : Fg (w.alloc (.cells #[.func (.func 27) #[] #[]] ft)) w.heap.size ft 27 := heap_alloc_new w _
  have h2 := Mg.new (w.alloc (.cells #[.func (.func 27) #[] #[]] ft)) 26 0 0 (.slice none 0 0) ⟨#[]⟩
  have h3 := Dg.new ((w.alloc (.cells #[.func (.func 27) #[] #[]] ft)).alloc (.cells #[.int .i64 0, .int .i64 0, .slice none 0 0, .string ⟨#[]⟩] 26)) s a
  rw [alloc_size w] at h2
  rw [alloc_size (w.alloc _), alloc_size w] at h3
  exact ⟨h1.later (bpush (bpush (bre _) _) _), h2.later (bpush (bre _) _), h3, bpush (bpush (bpush (bre _) _) _) _⟩

set_option maxHeartbeats 1600000 in
set_option maxRecDepth 100000 in
theorem readAtMail_any (s : ByteArray) (a : Int) (w : World) (hs : s.size ≤ 1048576) :
    Calls Try.prog 26 #[.string s, .int .i64 a, .func (.func 27) #[] #[]] w fun e w' => RaMail s a w e w' := by
  have hmf : ∀ (fn : Fn) (first cap : Array Value) (w : World), (Instr.makeFunc fn first cap).run Try.prog w = .ok (.func fn first cap) w := fun _ _ _ _ => rfl
  have HSZ := hid hs
  obtain ⟨W0, hW0⟩ : ∃ W0, ((w.alloc (.cells #[.func (.func 27) #[] #[]] 52)).alloc (.cells #[.int .i64 0, .int .i64 0, .slice none 0 0, .string ⟨#[]⟩] 26)).alloc (.cells #[.string s, .int .i64 a] 77) = W0 := ⟨_, rfl⟩
  obtain ⟨f0, x0, d0, b0⟩ := blocksMail w _ s a W0 hW0
  have N1 := hid (bpush (bre W0) (.cells #[.bool false] 4))
  have LW : Hid (w.heap.size + 1 + 1 < W0.heap.size) := d0.lt
  have L1 : Hid (W0.heap.size < (W0.alloc (.cells #[.bool false] 4)).heap.size) := hid (by show _ < _; simp)
  have HB := hid b0
  have BG := hid (Bwd.new W0 false)
  have CL := wholeMail_any (.pointer (some ⟨w.heap.size, 0, none⟩)) (.pointer (some ⟨w.heap.size + 1 + 1, 0, none⟩)) (.pointer (some ⟨w.heap.size + 1, 0, none⟩)) W0 _ _ (closMail_any w.heap.size (w.heap.size + 1 + 1) (w.heap.size + 1) _ s a _ hs (f0.later N1.out) (d0.later N1.out) (x0.later N1.out) (by omega)) (by
    rintro w1 ⟨g, u, l, t, c, fa, fc, _, _, _, _, hk⟩
    have l1 := LW.out
    exact (hk.block W0.heap.size BG.out.lt (by omega) (by omega)).trans BG.out) (by
    rintro w1 ⟨_, hk⟩
    have l1 := LW.out
    exact BG.out.grown hk (by simp; omega))
  have HCL := hid CL
  have X0 := hid x0
  have HW0 := hid hW0
  clear hs hW0 f0 x0 d0 b0 CL
  go_enter Try.func26, Try.ntmps26
  go_wp2_with fail
  rw [HW0.out]
  refine HCL.out.mono ?_; rintro e w1 (⟨rfl, w2, hy, rfl⟩ | ⟨rfl, w2, ⟨hr, hk⟩, rfl⟩)
  case inr =>
    have H := hid hr
    have l1 := LW.out
    have l2 := L1.out
    have E2 : Hid (Below w.heap.size w ((w2.alloc (.cells #[] 97)).setCell ⟨W0.heap.size, 0, none⟩ (.bool false))) := hid (bsk (btr (HB.out.trans (N1.out.mono (by omega) |>.trans (below_grownR hk (by intro j hj; simp at hj; omega) (by omega)))) (bpush (bre w2) _)) (by omega) 0 _)
    have F2 : Hid (Mg ((w2.alloc (.cells #[] 97)).setCell ⟨W0.heap.size, 0, none⟩ (.bool false)) (w.heap.size + 1) 26 0 0 (.slice none 0 0) ⟨#[]⟩) := hid (heap_setCell_far _ (((X0.out.later N1.out).grown hk (by simp)).later (bpush (bre w2) _)) (by omega))
    obtain ⟨w3, hw3⟩ : ∃ x, (w2.alloc (.cells #[] 97)).setCell ⟨W0.heap.size, 0, none⟩ (.bool false) = x := ⟨_, rfl⟩
    rw [hw3] at E2 F2
    rw [hw3]
    have d := F2.out.cells
    have f := F2.out.loose
    clear hr hk hw3 l1 l2
    go_wp2
    have hX := set4 F2.out 0 0 (.slice none 0 0) ⟨#[]⟩
    have d := hX.cells
    exact bodyPost_ret (v := .tuple #[.agg #[.int .i64 0, .int .i64 0, .slice none 0 0, .string ⟨#[]⟩], .int .i64 0, .bool false]) (by simp [results, Try.results26, go_sem, d]) rfl (Or.inr ⟨H.out, rfl, E2.out.trans (below_grownR (wst (wst (wst (wst (wre w3 (some (w.heap.size + 1))) 0 (.int .i64 0)) 1 (.int .i64 0)) 2 (.slice none 0 0)) 3 (.string ⟨#[]⟩)) (by intro j hj; simp at hj; omega) E2.out.size)⟩)
  obtain ⟨g, u, l, t, c, fa, fc, hr, hd, hx, ho, hk⟩ := hy
  have H := hid hr
  have l1 := LW.out
  have l2 := L1.out
  have K2 : Hid (Kept2 W0 w2 (w.heap.size + 1 + 1) (w.heap.size + 1)) := hid hk.push
  have N3 := hid (bpush (bre (w2.setCell ⟨W0.heap.size, 0, none⟩ (.bool true))) (.cells #[] 97))
  have E2 : Hid (Below w.heap.size w ((w2.setCell ⟨W0.heap.size, 0, none⟩ (.bool true)).alloc (.cells #[] 97))) := hid (HB.out.trans (((K2.out.new (Nat.le_refl _) _ _).later N3.out).below (by omega) (by omega) (by omega)))
  have D2 := hid ((hd.far (j := W0.heap.size) (i := 0) (.bool true) (by omega)).later N3.out)
  have X2 : Hid (Mg ((w2.setCell ⟨W0.heap.size, 0, none⟩ (.bool true)).alloc (.cells #[] 97)) (w.heap.size + 1) 26 g u (.slice fa l.length fc) t) := hid (((show Mg (w2.setCell ⟨W0.heap.size, 0, none⟩ (.bool true)) (w.heap.size + 1) 26 g u (.slice fa l.length fc) t from heap_setCell_far _ hx (by omega))).later N3.out)
  have O2 := hid (own_later (own_grown1 (ho) (wst (wre w2 (some W0.heap.size)) 0 (.bool true)) (l2)) N3.out)
  obtain ⟨w3, hw3⟩ : ∃ x, (w2.setCell ⟨W0.heap.size, 0, none⟩ (.bool true)).alloc (.cells #[] 97) = x := ⟨_, rfl⟩
  rw [hw3] at E2 D2 X2 O2
  rw [hw3]
  have d := X2.out.cells
  have f := X2.out.loose
  have dd := D2.out.cells
  clear hr hd hx ho hk hw3 l1 l2 K2 N3
  go_wp2_with fail
  go_region
  all_goals go_wp2
  all_goals
    have hX := set4 X2.out g u (.slice fa l.length fc) t
    have d3 := hX.cells
    have l1 := LW.out
    have l2 := L1.out
    refine bodyPost_ret (v := .tuple #[.agg #[.int .i64 g, .int .i64 u, .slice fa l.length fc, .string t], .int .i64 c, .bool true]) (by simp [results, Try.results26, go_sem, d3]) rfl (Or.inl ⟨g, u, l, t, c, fa, fc, H.out, rfl, ?_, ?_⟩)
    · first | exact drewMail (own_base (own_grown1 (O2.out) ((wst (wst (wst (wst (wre w3 (some (w.heap.size + 1))) 0 (.int .i64 g)) 1 (.int .i64 u)) 2 (.slice fa l.length fc)) 3 (.string t))) (by omega)) (show w.heap.size ≤ _ by omega)) | exact own_base (own_grown1 (drewMail O2.out) ((wst (wst (wst (wst (wre w3.drew (some (w.heap.size + 1))) 0 (.int .i64 g)) 1 (.int .i64 u)) 2 (.slice fa l.length fc)) 3 (.string t))) (by omega)) (show w.heap.size ≤ _ by omega)
    · first | exact bdr (E2.out.trans (below_grownR (wst (wst (wst (wst (wre w3 (some (w.heap.size + 1))) 0 (.int .i64 g)) 1 (.int .i64 u)) 2 (.slice fa l.length fc)) 3 (.string t)) (by intro j hj; simp at hj; omega) E2.out.size)) | exact (bdr E2.out).trans (below_grownR (wst (wst (wst (wst (wre w3.drew (some (w.heap.size + 1))) 0 (.int .i64 g)) 1 (.int .i64 u)) 2 (.slice fa l.length fc)) 3 (.string t)) (by intro j hj; simp at hj; omega) E2.out.size)

set_option maxHeartbeats 800000 in
set_option maxRecDepth 100000 in
theorem implReadMail_any (s : ByteArray) (a : Int) (w : World) (hs : s.size ≤ 1048576) :
    Calls Try.prog 8 #[.string s, .int .i64 a] w fun e w' => RmPost s a w e w' := by
  have HSZ := hid hs
  have Z0 := hid (Mg.new w 26 0 0 (.slice none 0 0) ⟨#[]⟩)
  have LZ : Hid (w.heap.size < (w.alloc (.cells #[.int .i64 0, .int .i64 0, .slice none 0 0, .string ⟨#[]⟩] 26)).heap.size) := Z0.out.lt
  clear hs
  go_enter Try.func8, Try.ntmps8
  go_wp2_with fail
  refine (readAtMail_any s a _ HSZ.out).mono ?_; rintro e w1 (⟨g, u, l, t, c, fa, fc, hr, rfl, ho, hb⟩ | ⟨hr, rfl, hb⟩)
  · have H := hid hr
    have F := hid (Z0.out.later hb)
    have E := hid (btr (bpush (bre w) _) hb)
    have O := hid ho
    have d := F.out.cells
    have f := F.out.loose
    clear hr ho hb Z0
    go_wp2
    have hX := set4 F.out g u (.slice fa l.length fc) t
    have d := hX.cells
    have hlz := LZ.out
    refine bodyPost_ret (v := .tuple #[.agg #[.int .i64 g, .int .i64 u, .slice fa l.length fc, .string t], .int .i64 c, .bool true]) (by simp [results, Try.results8, go_sem, d]) rfl (⟨g, u, l, t, c, true, _, H.out, rfl, ?_, ?_⟩)
    · have hO := own_base (own_grown1 (O.out) ((wst (wst (wst (wst (wre w1 (some (w.heap.size))) 0 (.int .i64 g)) 1 (.int .i64 u)) 2 (.slice fa l.length fc)) 3 (.string t))) (hlz)) (show w.heap.size ≤ _ by omega)
      exact hO
    · exact E.out.trans (below_grownR (wst (wst (wst (wst (wre w1 (some (w.heap.size))) 0 (.int .i64 g)) 1 (.int .i64 u)) 2 (.slice fa l.length fc)) 3 (.string t)) (by intro j hj; simp at hj; omega) E.out.size)
  · have H := hid hr
    have F := hid (Z0.out.later hb)
    have E := hid (btr (bpush (bre w) _) hb)
    have d := F.out.cells
    have f := F.out.loose
    clear hr hb Z0
    go_wp2
    have hX := set4 F.out 0 0 (.slice none 0 0) ⟨#[]⟩
    have d := hX.cells
    refine bodyPost_ret (v := .tuple #[.agg #[.int .i64 0, .int .i64 0, .slice none 0 0, .string ⟨#[]⟩], .int .i64 0, .bool false]) (by simp [results, Try.results8, go_sem, d]) rfl (RmPost.zero H.out ?_)
    exact E.out.trans (below_grownR (wst (wst (wst (wst (wre w1 (some (w.heap.size))) 0 (.int .i64 0)) 1 (.int .i64 0)) 2 (.slice none 0 0)) 3 (.string ⟨#[]⟩)) (by intro j hj; simp at hj; omega) E.out.size)
end Go.Proofs.Ytldcmfkmnjdfiaa
