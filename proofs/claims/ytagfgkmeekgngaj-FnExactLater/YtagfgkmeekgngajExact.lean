/- The walks of the laws of stamps and registers. -/
import Derived.Test.YtagfgkmeekgngajPut
namespace Go.Proofs.Ytagfgkmeekgngaj
open Go.RowKit

theorem specStampOk_b (t b : Int) : ∃ p : Bool, Hid (∀ w, Calls Try.prog 7 #[.agg #[.int .i64 t, .int .i64 b]] w fun e w' => e = .returned (.bool p) ∧ Below w.heap.size w w') ∧ Hid (∀ w, Calls Try.prog 9 #[.agg #[.int .i64 t, .int .i64 b]] w fun e w' => e = .returned (.bool p) ∧ Below w.heap.size w w') :=
  ⟨stOk t b, fun w => (specStampOk_any t b w).mono fun _ _ h => ⟨h.1, h.2 ▸ bpush (bre _) _⟩, implStampOk_any t b⟩
theorem toStamp_b (t b : Int) (w : World) :
    Calls Try.prog 8 #[.agg #[.int .i64 t, .int .i64 b]] w fun e w' => e = .returned (.agg #[.int .i64 t, .int .i64 b]) ∧ Below w.heap.size w w' :=
  (toStamp_any t b w).mono fun _ _ h => ⟨h.1, h.2 ▸ bpush (bpush (bpush (bre _) _) _) _⟩

theorem lawStampOk_any (t b : Int) (w : World) :
    Calls Try.prog 3 #[.agg #[.int .i64 t, .int .i64 b]] w fun e w' => e = .returned (.bool true) ∧ Below w.heap.size w w' := by
  obtain ⟨p, cs, ci⟩ := specStampOk_b t b
  obtain ⟨W0, hW0⟩ : ∃ W0, w.alloc (.cells #[.int .i64 t, .int .i64 b] 23) = W0 := ⟨_, rfl⟩
  have A0 : Hid (Sg W0 w.heap.size 23 t b) := by subst hW0; exact Sg.new w 23 t b
  have B0 : Hid (Below w.heap.size w W0) := by subst hW0; exact bpush (bre _) _
  have c0 := A0.out.cells
  go_enter Try.func3, Try.ntmps3
  go_wp2_with fail
  clear hW0
  refine (toStamp_b _ _ _).mono ?_; rintro e w1 ⟨rfl, hb1⟩
  go_wp2_with fail
  refine (cs.out _).mono ?_; rintro e w2 ⟨rfl, hb2⟩
  have B1 : Hid (Below W0.heap.size W0 w2) := btr hb1 hb2
  have c1 := (A0.out.later B1.out).cells
  clear hb1 hb2 c0
  go_wp2_with fail
  refine (toStamp_b _ _ _).mono ?_; rintro e w3 ⟨rfl, hb1⟩
  go_wp2_with fail
  refine (ci.out _).mono ?_; rintro e w4 ⟨rfl, hb2⟩
  go_wp2_with fail
  go_ret
  exact ⟨rfl, btr B0.out (btr B1.out (btr hb1 hb2))⟩

theorem regOk_b (v t b : Int) : ∃ p : Bool, Hid (∀ w, Calls Try.prog 12 #[.agg #[.int .i64 v, .int .i64 t, .int .i64 b]] w fun e w' => e = .returned (.bool p) ∧ Below w.heap.size w w') ∧ Hid (∀ w, Calls Try.prog 14 #[.agg #[.int .i64 v, .int .i64 t, .int .i64 b]] w fun e w' => e = .returned (.bool p) ∧ Below w.heap.size w w') :=
  ⟨rgOk v t b, fun w => (specRegOk_any v t b w).mono fun _ _ h => ⟨h.1, h.2 ▸ bpush (bpush (bre _) _) _⟩, implRegOk_any v t b⟩
theorem later_b (t b t' b' : Int) : ∃ p : Bool, Hid (∀ w, Calls Try.prog 10 #[.agg #[.int .i64 t, .int .i64 b], .agg #[.int .i64 t', .int .i64 b']] w fun e w' => e = .returned (.bool p) ∧ Below w.heap.size w w') ∧ Hid (∀ w, Calls Try.prog 11 #[.agg #[.int .i64 t, .int .i64 b], .agg #[.int .i64 t', .int .i64 b']] w fun e w' => e = .returned (.bool p) ∧ Below w.heap.size w w') :=
  ⟨later t b t' b', fun w => (specLater_any t b t' b' w).mono fun _ _ h => ⟨h.1, h.2 ▸ bpush (bpush (bre _) _) _⟩, implLater_any t b t' b'⟩
theorem preg_or (v t b n t' b' : Int) : ∃ v1 t1 b1, preg v t b n t' b' = rgv v1 t1 b1 := by
  unfold preg; split
  · exact ⟨_, _, _, rfl⟩
  · exact ⟨_, _, _, rfl⟩
theorem put_b (v t b n t' b' : Int) : ∃ v1 t1 b1 : Int, Hid (∀ w, Calls Try.prog 15 #[.agg #[.int .i64 v, .int .i64 t, .int .i64 b], .int .i64 n, .agg #[.int .i64 t', .int .i64 b']] w fun e w' => e = .returned (.agg #[.int .i64 v1, .int .i64 t1, .int .i64 b1]) ∧ Below w.heap.size w w') ∧ Hid (∀ w, Calls Try.prog 16 #[.agg #[.int .i64 v, .int .i64 t, .int .i64 b], .int .i64 n, .agg #[.int .i64 t', .int .i64 b']] w fun e w' => e = .returned (.agg #[.int .i64 v1, .int .i64 t1, .int .i64 b1]) ∧ Below w.heap.size w w') := by
  obtain ⟨v1, t1, b1, h⟩ := preg_or v t b n t' b'
  exact ⟨v1, t1, b1, fun w => (specPut_any v t b n t' b' w).mono fun _ _ k => ⟨by rw [k.1, h], k.2⟩, fun w => (implPut_any v t b n t' b' w).mono fun _ _ k => ⟨by rw [k.1, h], k.2⟩⟩

theorem lawRegOk_any (v t b : Int) (w : World) :
    Calls Try.prog 5 #[.agg #[.int .i64 v, .int .i64 t, .int .i64 b]] w fun e w' => e = .returned (.bool true) ∧ Below w.heap.size w w' := by
  obtain ⟨p, cs, ci⟩ := regOk_b v t b
  obtain ⟨W0, hW0⟩ : ∃ W0, w.alloc (.cells #[.int .i64 v, .int .i64 t, .int .i64 b] 31) = W0 := ⟨_, rfl⟩
  have A0 : Hid (Rg W0 w.heap.size 31 v t b) := by subst hW0; exact Rg.new w 31 v t b
  have B0 : Hid (Below w.heap.size w W0) := by subst hW0; exact bpush (bre _) _
  have c0 := A0.out.cells
  go_enter Try.func5, Try.ntmps5
  go_wp2_with fail
  clear hW0
  refine (toReg_any _ _ _ _).mono ?_; rintro e w1 ⟨rfl, hb1⟩
  go_wp2_with fail
  refine (cs.out _).mono ?_; rintro e w2 ⟨rfl, hb2⟩
  have B1 : Hid (Below W0.heap.size W0 w2) := btr hb1 hb2
  have c1 := (A0.out.later B1.out).cells
  clear hb1 hb2 c0
  go_wp2_with fail
  refine (toReg_any _ _ _ _).mono ?_; rintro e w3 ⟨rfl, hb1⟩
  go_wp2_with fail
  refine (ci.out _).mono ?_; rintro e w4 ⟨rfl, hb2⟩
  go_wp2_with fail
  go_ret
  exact ⟨rfl, btr B0.out (btr B1.out (btr hb1 hb2))⟩

theorem lawLater_any (t b t' b' : Int) (w : World) :
    Calls Try.prog 4 #[.agg #[.int .i64 t, .int .i64 b], .agg #[.int .i64 t', .int .i64 b']] w fun e w' => e = .returned (.bool true) ∧ Below w.heap.size w w' := by
  obtain ⟨p, cs, ci⟩ := later_b t b t' b'
  obtain ⟨W0, hW0⟩ : ∃ W0, (w.alloc (.cells #[.int .i64 t, .int .i64 b] 23)).alloc (.cells #[.int .i64 t', .int .i64 b'] 23) = W0 := ⟨_, rfl⟩
  have A0 : Hid (Sg W0 w.heap.size 23 t b) := by subst hW0; exact (Sg.new w 23 t b).later (bpush (bre _) _)
  have A1 : Hid (Sg W0 (w.heap.size + 1) 23 t' b') := by subst hW0; show Sg _ _ _ _ _; simpa using Sg.new (w.alloc (.cells #[.int .i64 t, .int .i64 b] 23)) 23 t' b'
  have B0 : Hid (Below w.heap.size w W0) := by subst hW0; exact bpush (bpush (bre _) _) _
  have HS : Hid (∀ W, Below W0.heap.size W0 W → (W.cell? ⟨w.heap.size, 0, none⟩ = some (.int .i64 t) ∧ W.cell? ⟨w.heap.size, 1, none⟩ = some (.int .i64 b)) ∧ (W.cell? ⟨w.heap.size + 1, 0, none⟩ = some (.int .i64 t') ∧ W.cell? ⟨w.heap.size + 1, 1, none⟩ = some (.int .i64 b'))) :=
    fun W h => ⟨(A0.out.later h).cells, (A1.out.later h).cells⟩
  go_enter Try.func4, Try.ntmps4
  go_wp2_with fail
  clear hW0
  go_region_held3 (fun W => (W.cell? ⟨w.heap.size, 0, none⟩ = some (.int .i64 t) ∧ W.cell? ⟨w.heap.size, 1, none⟩ = some (.int .i64 b)) ∧ (W.cell? ⟨w.heap.size + 1, 0, none⟩ = some (.int .i64 t') ∧ W.cell? ⟨w.heap.size + 1, 1, none⟩ = some (.int .i64 b')))
    ((refine HS.out _ ?_; repeat (first | exact bdr (bre _) | refine btr ?_ (by assumption))))
    ((first
      | (go_at_call 10; refine (cs.out _).mono ?_; rintro e w1 ⟨rfl, hb1⟩)
      | (go_at_call 8; refine (toStamp_b _ _ _).mono ?_; rintro e w1 ⟨rfl, hb1⟩)))
  have B1 : Hid (Below W0.heap.size W0 w1) := by show Below _ _ _; repeat (first | exact bdr (bre _) | refine btr ?_ (by assumption))
  rename_i hold
  clear hold
  go_wp2_with fail
  go_region_held3 (fun W => (W.cell? ⟨w.heap.size, 0, none⟩ = some (.int .i64 t) ∧ W.cell? ⟨w.heap.size, 1, none⟩ = some (.int .i64 b)) ∧ (W.cell? ⟨w.heap.size + 1, 0, none⟩ = some (.int .i64 t') ∧ W.cell? ⟨w.heap.size + 1, 1, none⟩ = some (.int .i64 b')))
    ((refine HS.out _ (btr B1.out ?_); repeat (first | exact bdr (bre _) | refine btr ?_ (by assumption))))
    ((first
      | (go_at_call 11; refine (ci.out _).mono ?_; rintro e w2 ⟨rfl, hb1⟩)
      | (go_at_call 8; refine (toStamp_b _ _ _).mono ?_; rintro e w2 ⟨rfl, hb1⟩)))
  have B2 : Hid (Below w1.heap.size w1 w2) := by show Below _ _ _; repeat (first | exact bdr (bre _) | refine btr ?_ (by assumption))
  go_wp2_with fail
  go_ret
  exact ⟨rfl, btr B0.out (btr B1.out B2.out)⟩
end Go.Proofs.Ytagfgkmeekgngaj
