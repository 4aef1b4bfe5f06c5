/- The program's ReadMail: a reading that came to its end, or not. -/
import Derived.Test.YtjnpohbljjlicabMailCat
namespace Go.Proofs.Ytjnpohbljjlicab
open Go.RowKit

/-- All that was there is as it was, but two blocks. -/
structure Kept2 (w w' : World) (kr km : Nat) : Prop where
  os : w'.os = w.os
  tape : w'.tape = w.tape
  output : w'.output = w.output
  size : w.heap.size ≤ w'.heap.size
  block : ∀ j, j < w.heap.size → j ≠ kr → j ≠ km → w'.heap[j]? = w.heap[j]?

def Clo (w : World) (kr km : Nat) (s : ByteArray) (a : Int) (yes : Value) (no : Ending) (e : Ending) (w' : World) : Prop :=
  (∃ g u l t c v, rm6 s a = (g, u, l, t, c, true) ∧ e = .returned yes ∧ Dg w' kr s c ∧ Mg w' km 26 g u v t ∧ Ow w' w.heap.size v l ∧ Kept2 w w' kr km) ∨ (rm6 s a = zero6 ∧ e = no ∧ Kept2 w w' kr km)

theorem Kept2.of_grown {w w' : World} {kr km : Nat} (h : w.grownBy w' (some kr)) : Kept2 w w' kr km := ⟨h.os, h.tape, h.output, h.size, fun j hj h1 _ => h.block j hj (by simpa using h1)⟩
theorem Kept2.set {w w' : World} {kr km : Nat} (h : Kept2 w w' kr km) (i : Nat) (x : Value) : Kept2 w (w'.setCell ⟨km, i, none⟩ x) kr km :=
  ⟨h.os, h.tape, h.output, by simpa [World.setCell] using h.size, fun j hj h1 h2 => (Below.heap_setCell w' ⟨km, i, none⟩ x j h2).trans (h.block j hj h1 h2)⟩
theorem Kept2.new {w w' : World} {kr km : Nat} (h : Kept2 w w' kr km) {j : Nat} (hj : w.heap.size ≤ j) (i : Nat) (x : Value) : Kept2 w (w'.setCell ⟨j, i, none⟩ x) kr km :=
  ⟨h.os, h.tape, h.output, by simpa [World.setCell] using h.size, fun k hk h1 h2 => (Below.heap_setCell w' ⟨j, i, none⟩ x k (by show k ≠ j; omega)).trans (h.block k hk h1 h2)⟩
theorem Kept2.later {w w' w'' : World} {kr km : Nat} (h : Kept2 w w' kr km) (hb : Below w'.heap.size w' w'') : Kept2 w w'' kr km :=
  ⟨hb.os.trans h.os, hb.tape.trans h.tape, hb.output.trans h.output, Nat.le_trans h.size hb.size, fun k hk h1 h2 => (hb.block k (Nat.lt_of_lt_of_le hk h.size)).trans (h.block k hk h1 h2)⟩
theorem Kept2.push {w w' : World} {o : Obj} {kr km : Nat} (h : Kept2 (w.alloc o) w' kr km) : Kept2 w w' kr km := by
  have hb := bpush (bre w) o
  exact ⟨h.os.trans hb.os, h.tape.trans hb.tape, h.output.trans hb.output, Nat.le_trans hb.size h.size, fun k hk h1 h2 => (h.block k (Nat.lt_of_lt_of_le hk hb.size) h1 h2).trans (hb.block k hk)⟩

set_option maxHeartbeats 400000 in
set_option maxRecDepth 100000 in
theorem clos_any (kr km : Nat) (s : ByteArray) (a : Int) (g0 u0 : Int) (f0 : Value) (t0 : ByteArray) (w : World) (hs : s.size ≤ 1048576) (hd : Dg w kr s a) (hm : Mg w km 26 g0 u0 f0 t0) (hne : kr ≠ km) :
    Calls Try.prog 23 #[.pointer (some ⟨kr, 0, none⟩), .pointer (some ⟨km, 0, none⟩)] w fun e w' => Clo w kr km s a (.tuple #[]) (.panicked notHere) e w' := by
  have HD := hid hd
  have HM := hid hm
  have HS := hid hs
  have HNE := hid hne
  clear hd hm hs hne
  go_enter Try.func23, Try.ntmps23
  go_wp2_with fail
  refine (mail_any kr s a _ HS.out HD.out).mono ?_; rintro e w1 (⟨g, u, l, t, c, v, hr, rfl, hd, ho, hg⟩ | ⟨hr, rfl, hg⟩)
  case inr =>
    have H := hid hr
    have G : Hid (Kept2 w w1 kr km) := Kept2.of_grown hg
    clear hr hg
    go_wp2_with fail
    exact ⟨rfl, Or.inr ⟨H.out, rfl, G.out⟩⟩
  obtain ⟨av, cv, hv, _⟩ := Ow.shape ho
  subst hv
  have H := hid hr
  have M1 := hid (HM.out.grown hg (by have := HNE.out; simp; omega))
  have D1 := hid hd
  have O1 := hid ho
  have K1 : Hid (Kept2 w w1 kr km) := Kept2.of_grown hg
  have LM : Hid (km < w.heap.size) := HM.out.lt
  have c := M1.out.cells
  have f := M1.out.loose
  clear hr hd ho hg
  go_wp2
  go_end0
  have hne := HNE.out
  refine Or.inl ⟨g, u, l, t, _, .slice av l.length cv, H.out, rfl, ?_, set4 M1.out g u (.slice av l.length cv) t, ?_, ?_⟩
  · exact (((D1.out.far _ hne).far _ hne).far _ hne).far _ hne
  · exact own4 O1.out LM.out _ _ _ _
  · exact (((K1.out.set _ _).set _ _).set _ _).set _ _

set_option maxHeartbeats 800000 in
set_option maxRecDepth 100000 in
theorem whole_any (kr km : Nat) (s : ByteArray) (a : Int) (g0 u0 : Int) (f0 : Value) (t0 : ByteArray) (w : World) (hs : s.size ≤ 1048576) (hd : Dg w kr s a) (hm : Mg w km 26 g0 u0 f0 t0) (hne : kr ≠ km) :
    Calls Try.prog 22 #[.func (.func 23) #[] #[.pointer (some ⟨kr, 0, none⟩), .pointer (some ⟨km, 0, none⟩)]] w fun e w' => Clo w kr km s a (.bool true) (.returned (.bool false)) e w' := by
  have hmf : ∀ (fn : Fn) (first cap : Array Value) (w : World), (Instr.makeFunc fn first cap).run Try.prog w = .ok (.func fn first cap) w := fun _ _ _ _ => rfl
  have N0 := hid (bpush (bre w) (.cells #[.bool false] 4))
  have HD := hid (hd.later N0.out)
  have HM := hid (hm.later N0.out)
  have HS := hid hs
  have HNE := hid hne
  have LR : Hid (kr < w.heap.size) := hd.lt
  have LM : Hid (km < w.heap.size) := hm.lt
  have B0 := hid (Bg.new w false)
  have c0 := B0.out.cell
  clear hd hm hs hne
  go_enter_defers Try.func22, Try.ntmps22
  go_wp2_with fail
  refine (clos_any kr km s a g0 u0 f0 t0 _ HS.out HD.out HM.out HNE.out).mono ?_; rintro e w1 (⟨g, u, l, t, c, v, hr, rfl, hd, hm, ho, hk⟩ | ⟨hr, rfl, hk⟩)
  case inr =>
    have H := hid hr
    have G := hid hk
    have l1 := LR.out
    have l2 := LM.out
    have B1 : Hid (Bg w1 w.heap.size false) := (hk.block w.heap.size B0.out.lt (by omega) (by omega)).trans B0.out
    clear hr hk l1 l2 c0
    go_wp2_with fail
    refine leaves_cons (f := 45) (args := #[.pointer (some ⟨w.heap.size, 0, none⟩)]) (by simp) (by simp [go_sem]) ?_
    refine (catch_panic w.heap.size false [] _ B1.out).mono ?_
    rintro e u' w'' ⟨rfl, rfl, rfl⟩
    have cc := ((B1.out.later (bpush (bre w1) (.cells #[] 74))).set false).cell
    have KK : Hid (Kept2 w ((w1.alloc (.cells #[] 74)).setCell ⟨w.heap.size, 0, none⟩ (.bool false)) kr km) := (G.out.push.later (bpush (bre w1) _)).new (Nat.le_refl _) _ _
    simp [Leaves, settle, results, Try.results22, go_sem, cc]
    exact Or.inr ⟨H.out, rfl, KK.out⟩
  have H := hid hr
  have G := hid hk
  have D1 := hid hd
  have M1 := hid hm
  have O1 := hid ho
  have l1 := LR.out
  have l2 := LM.out
  have B1 : Hid (Bg w1 w.heap.size false) := (hk.block w.heap.size B0.out.lt (by omega) (by omega)).trans B0.out
  have c1 := B1.out.cell
  have f1 := B1.out.loose
  clear hr hk hd hm ho l1 l2 c0
  go_wp2
  have l1 := LR.out
  have l2 := LM.out
  have N2 := hid (bpush (bre (w1.setCell ⟨w.heap.size, 0, none⟩ (.bool true))) (.cells #[] 74))
  have cc := ((B1.out.set true).later N2.out).cell
  have KK : Hid (Kept2 w ((w1.setCell ⟨w.heap.size, 0, none⟩ (.bool true)).alloc (.cells #[] 74)) kr km) := (G.out.push.new (Nat.le_refl _) _ _).later N2.out
  have DD := hid ((D1.out.far (j := w.heap.size) (i := 0) (.bool true) (by omega)).later N2.out)
  have MM := hid ((M1.out.far (j := w.heap.size) (i := 0) (.bool true) (by omega)).later N2.out)
  have OO : Hid (Ow ((w1.setCell ⟨w.heap.size, 0, none⟩ (.bool true)).alloc (.cells #[] 74)) w.heap.size v l) := own_base (own_later (own_far O1.out (j := w.heap.size) (by simp) 0 (.bool true)) N2.out) (by simp)
  refine leaves_cons (f := 45) (args := #[.pointer (some ⟨w.heap.size, 0, none⟩)]) (by simp) (by simp [go_sem]) ?_
  refine (catch_idle w.heap.size _).mono ?_
  rintro e u' w'' ⟨rfl, rfl, rfl⟩
  simp [Leaves, settle, results, Try.results22, go_sem, cc]
  exact Or.inl ⟨g, u, l, t, c, v, H.out, rfl, DD.out, MM.out, OO.out, KK.out⟩

/-- The zero value and what is built of nothing. -/
theorem three_blocks (w : World) (s : ByteArray) (a : Int) (W0 : World) (h : ((w.alloc (.cells #[.int .i64 0, .int .i64 0, .slice none 0 0, .string ⟨#[]⟩] 26)).alloc (.cells #[.string s, .int .i64 a] 50)).alloc (.cells #[.int .i64 0, .int .i64 0, .slice none 0 0, .string ⟨#[]⟩] 26) = W0) :
    Mg W0 w.heap.size 26 0 0 (.slice none 0 0) ⟨#[]⟩ ∧ Dg W0 (w.heap.size + 1) s a ∧ Mg W0 (w.heap.size + 1 + 1) 26 0 0 (.slice none 0 0) ⟨#[]⟩ ∧ Below w.heap.size w W0 := by
  subst h
  exact ⟨(Mg.new w _ _ _ _ _).later (bpush (bpush (bre _) _) _), Dg.later (by simpa using Dg.new (w.alloc (.cells #[.int .i64 0, .int .i64 0, .slice none 0 0, .string ⟨#[]⟩] 26)) s a) (bpush (bre _) _),
    by simpa using Mg.new ((w.alloc (.cells #[.int .i64 0, .int .i64 0, .slice none 0 0, .string ⟨#[]⟩] 26)).alloc (.cells #[.string s, .int .i64 a] 50)) 26 0 0 (.slice none 0 0) ⟨#[]⟩, bpush (bpush (bpush (bre _) _) _) _⟩
theorem Mg.still {W W' : World} {k ty : Nat} {g u : Int} {f : Value} {t : ByteArray} (h : Mg W k ty g u f t) (e : W'.heap[k]? = W.heap[k]?) : Mg W' k ty g u f t := e.trans h
theorem Kept2.below {w w' : World} {B kr km : Nat} (h : Kept2 w w' kr km) (hr : B ≤ kr) (hm : B ≤ km) (hB : B ≤ w.heap.size) : Below B w w' :=
  ⟨h.os, h.tape, h.output, h.size, fun j hj => h.block j (by omega) (by omega) (by omega)⟩

set_option maxHeartbeats 800000 in
set_option maxRecDepth 100000 in
theorem implReadMail_any (s : ByteArray) (a : Int) (w : World) (hs : s.size ≤ 1048576) :
    Calls Try.prog 7 #[.string s, .int .i64 a] w fun e w' => RmPost s a w e w' := by
  have hmf : ∀ (fn : Fn) (first cap : Array Value) (w : World), (Instr.makeFunc fn first cap).run Try.prog w = .ok (.func fn first cap) w := fun _ _ _ _ => rfl
  have HSZ := hid hs
  obtain ⟨W0, hW0⟩ : ∃ W0, ((w.alloc (.cells #[.int .i64 0, .int .i64 0, .slice none 0 0, .string ⟨#[]⟩] 26)).alloc (.cells #[.string s, .int .i64 a] 50)).alloc (.cells #[.int .i64 0, .int .i64 0, .slice none 0 0, .string ⟨#[]⟩] 26) = W0 := ⟨_, rfl⟩
  obtain ⟨m4, d7, m8, b0⟩ := three_blocks w s a W0 hW0
  have M4 := hid m4
  have D7 := hid d7
  have M8 := hid m8
  have B0 := hid b0
  have LW : Hid (w.heap.size + 1 + 1 < W0.heap.size) := m8.lt
  have HW0 := hid hW0
  clear m4 d7 m8 b0 hs hW0
  go_enter Try.func7, Try.ntmps7
  go_wp2_with fail
  rw [HW0.out]
  refine (whole_any _ _ s a 0 0 (.slice none 0 0) ⟨#[]⟩ W0 HSZ.out D7.out M8.out (by omega)).mono ?_; rintro e w1 (⟨g, u, l, t, c, v, hr, rfl, hd, hm, ho, hk⟩ | ⟨hr, rfl, hk⟩)
  case inr =>
    have H := hid hr
    have l1 := LW.out
    have F : Hid (Mg w1 w.heap.size 26 0 0 (.slice none 0 0) ⟨#[]⟩) := M4.out.still (hk.block _ (by omega) (by omega) (by omega))
    have BB : Hid (Below w.heap.size w w1) := B0.out.trans (hk.below (by omega) (by omega) (by omega))
    have d := F.out.cells
    have f := F.out.loose
    clear hr hk l1
    go_wp2
    have d := (set4 F.out 0 0 (.slice none 0 0) ⟨#[]⟩).cells
    exact bodyPost_ret (v := .tuple #[.agg #[.int .i64 0, .int .i64 0, .slice none 0 0, .string ⟨#[]⟩], .int .i64 0, .bool false]) (by simp [results, Try.results7, go_sem, d]) rfl (RmPost.zero H.out (bel4 BB.out (Nat.le_refl _) _ _ _ _))
  obtain ⟨av, cv, hv, _⟩ := Ow.shape ho
  subst hv
  have H := hid hr
  have l1 := LW.out
  have F : Hid (Mg w1 w.heap.size 26 0 0 (.slice none 0 0) ⟨#[]⟩) := M4.out.still (hk.block _ (by omega) (by omega) (by omega))
  have BB : Hid (Below w.heap.size w w1) := B0.out.trans (hk.below (by omega) (by omega) (by omega))
  have OO := hid ho
  have d := F.out.cells
  have f := F.out.loose
  have dd := hd.cells
  have dm := hm.cells
  clear hr hk hd hm ho l1
  go_wp2_with fail
  go_region
  all_goals go_wp2
  all_goals
    have d3 := (set4 F.out g u (.slice av l.length cv) t).cells
    have l1 := LW.out
    refine bodyPost_ret (v := .tuple #[.agg #[.int .i64 g, .int .i64 u, .slice av l.length cv, .string t], .int .i64 c, .bool true]) (by simp [results, Try.results7, go_sem, d3]) rfl ⟨g, u, l, t, c, true, _, H.out, rfl, ?_, ?_⟩
    · exact own_base (own4 OO.out (by omega) _ _ _ _) (by omega)
    · first | exact bdr (bel4 BB.out (Nat.le_refl _) _ _ _ _) | exact bel4 (bdr BB.out) (Nat.le_refl _) _ _ _ _
end Go.Proofs.Ytjnpohbljjlicab
