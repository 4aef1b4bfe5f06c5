/- The walk of the law of a register that is put. -/
import Derived.Test.YtagfgkmeekgngajExact
import Derived.Deep.Cut
namespace Go.Proofs.Ytagfgkmeekgngaj
open Go.RowKit

set_option maxHeartbeats 1000000 in
theorem lawPutReg_any (v t b n t' b' : Int) (w : World) :
    Calls Try.prog 6 #[.agg #[.int .i64 v, .int .i64 t, .int .i64 b], .int .i64 n, .agg #[.int .i64 t', .int .i64 b']] w fun e w' => e = .returned (.bool true) ∧ Below w.heap.size w w' := by
  obtain ⟨v1, t1, b1, cs, ci⟩ := put_b v t b n t' b'
  obtain ⟨W0, hW0⟩ : ∃ W0, (w.alloc (.cells #[.int .i64 v, .int .i64 t, .int .i64 b] 31)).alloc (.cells #[.int .i64 t', .int .i64 b'] 23) = W0 := ⟨_, rfl⟩
  have A0 : Hid (Rg W0 w.heap.size 31 v t b) := by subst hW0; exact (Rg.new w 31 v t b).later (bpush (bre _) _)
  have A1 : Hid (Sg W0 (w.heap.size + 1) 23 t' b') := by subst hW0; show Sg _ _ _ _ _; simpa using Sg.new (w.alloc (.cells #[.int .i64 v, .int .i64 t, .int .i64 b] 31)) 23 t' b'
  have B0 : Hid (Below w.heap.size w W0) := by subst hW0; exact bpush (bpush (bre _) _) _
  have HS : Hid (∀ W, Below W0.heap.size W0 W → (W.cell? ⟨w.heap.size, 0, none⟩ = some (.int .i64 v) ∧ W.cell? ⟨w.heap.size, 1, none⟩ = some (.int .i64 t) ∧ W.cell? ⟨w.heap.size, 2, none⟩ = some (.int .i64 b)) ∧ (W.cell? ⟨w.heap.size + 1, 0, none⟩ = some (.int .i64 t') ∧ W.cell? ⟨w.heap.size + 1, 1, none⟩ = some (.int .i64 b'))) :=
    fun W h => ⟨(A0.out.later h).cells, (A1.out.later h).cells⟩
  go_enter Try.func6, Try.ntmps6
  go_wp2_with fail
  clear hW0
  go_cut [7] from 9 (fun s7 wx => ∃ k : Nat, s7 = .pointer (some ⟨k, 0, none⟩) ∧ W0.heap.size ≤ k ∧ Rg wx k 34 v1 t1 b1 ∧ Below W0.heap.size W0 wx)
  case first =>
    go_region_held3 (fun W => (W.cell? ⟨w.heap.size, 0, none⟩ = some (.int .i64 v) ∧ W.cell? ⟨w.heap.size, 1, none⟩ = some (.int .i64 t) ∧ W.cell? ⟨w.heap.size, 2, none⟩ = some (.int .i64 b)) ∧ (W.cell? ⟨w.heap.size + 1, 0, none⟩ = some (.int .i64 t') ∧ W.cell? ⟨w.heap.size + 1, 1, none⟩ = some (.int .i64 b')))
      ((refine HS.out _ ?_; repeat (first | exact bre _ | refine bdr ?_ | refine btr ?_ (by assumption) | refine bpush ?_ _ | refine bset' ?_ ?_ _ _)))
      ((first
        | (go_at_call 15; refine (cs.out _).mono ?_; rintro e w1 ⟨rfl, hb1⟩; (first | (have R1 := (Rg.newd _ 34 0 0 0).later hb1; have d1 := R1.cells; have f1 := R1.loose) | (have R1 := (Rg.new _ 34 0 0 0).later hb1; have d1 := R1.cells; have f1 := R1.loose) | (have R1 := Rg.later (ty := 34) (v := 0) (t := 0) (b := 0) (by assumption) hb1; have d1 := R1.cells; have f1 := R1.loose) | skip))
        | (go_at_call 8; refine (toStamp_b _ _ _).mono ?_; rintro e w1 ⟨rfl, hb1⟩; (first | (have R1 := (Rg.newd _ 34 0 0 0).later hb1; have d1 := R1.cells; have f1 := R1.loose) | (have R1 := (Rg.new _ 34 0 0 0).later hb1; have d1 := R1.cells; have f1 := R1.loose) | (have R1 := Rg.later (ty := 34) (v := 0) (t := 0) (b := 0) (by assumption) hb1; have d1 := R1.cells; have f1 := R1.loose) | skip))
        | (go_at_call 13; refine (toReg_any _ _ _ _).mono ?_; rintro e w1 ⟨rfl, hb1⟩; (first | (have R1 := (Rg.newd _ 34 0 0 0).later hb1; have d1 := R1.cells; have f1 := R1.loose) | (have R1 := (Rg.new _ 34 0 0 0).later hb1; have d1 := R1.cells; have f1 := R1.loose) | (have R1 := Rg.later (ty := 34) (v := 0) (t := 0) (b := 0) (by assumption) hb1; have d1 := R1.cells; have f1 := R1.loose) | skip))))
    all_goals (try go_wp2_with fail)
    all_goals go_meet
    all_goals
      refine ⟨_, rfl, ?_, ?_, ?_⟩
      · first | exact Nat.le_refl _ | (refine Below.size (B := W0.heap.size) ?_; repeat (first | exact bre _ | refine bdr ?_ | refine btr ?_ (by assumption) | refine bpush ?_ _ | refine bset' ?_ ?_ _ _))
      · first | with_reducible exact Rg.set' (by assumption) | with_reducible exact Rg.new _ 34 v1 t1 b1
      · repeat (first | exact bre _ | refine bdr ?_ | refine btr ?_ (by assumption) | refine bpush ?_ _ | refine bset' ?_ ?_ _ _)
  case rest =>
  obtain ⟨k1, rfl, hk1, R1, B1⟩ := hcut
  have hk : Hid (W0.heap.size ≤ k1) := hk1
  have A2 : Hid (Rg wc k1 34 v1 t1 b1) := R1
  have B1 : Hid (Below W0.heap.size W0 wc) := B1
  clear hk1 R1
  have HS2 : Hid (∀ W, Below wc.heap.size wc W → (W.cell? ⟨w.heap.size, 0, none⟩ = some (.int .i64 v) ∧ W.cell? ⟨w.heap.size, 1, none⟩ = some (.int .i64 t) ∧ W.cell? ⟨w.heap.size, 2, none⟩ = some (.int .i64 b)) ∧ (W.cell? ⟨w.heap.size + 1, 0, none⟩ = some (.int .i64 t') ∧ W.cell? ⟨w.heap.size + 1, 1, none⟩ = some (.int .i64 b'))) :=
    fun W h => HS.out W (btr B1.out h)
  go_wp2_with fail
  go_cut [8] from 9 (fun s8 wx => ∃ k : Nat, s8 = .pointer (some ⟨k, 0, none⟩) ∧ wc.heap.size ≤ k ∧ Rg wx k 34 v1 t1 b1 ∧ Below wc.heap.size wc wx)
  case first =>
    go_region_held3 (fun W => (W.cell? ⟨w.heap.size, 0, none⟩ = some (.int .i64 v) ∧ W.cell? ⟨w.heap.size, 1, none⟩ = some (.int .i64 t) ∧ W.cell? ⟨w.heap.size, 2, none⟩ = some (.int .i64 b)) ∧ (W.cell? ⟨w.heap.size + 1, 0, none⟩ = some (.int .i64 t') ∧ W.cell? ⟨w.heap.size + 1, 1, none⟩ = some (.int .i64 b')))
      ((refine HS2.out _ ?_; repeat (first | exact bre _ | refine bdr ?_ | refine btr ?_ (by assumption) | refine bpush ?_ _ | refine bset' ?_ ?_ _ _)))
      ((first
        | (go_at_call 16; refine (ci.out _).mono ?_; rintro e w1 ⟨rfl, hb1⟩; (first | (have R1 := (Rg.newd _ 34 0 0 0).later hb1; have d1 := R1.cells; have f1 := R1.loose) | (have R1 := (Rg.new _ 34 0 0 0).later hb1; have d1 := R1.cells; have f1 := R1.loose) | (have R1 := Rg.later (ty := 34) (v := 0) (t := 0) (b := 0) (by assumption) hb1; have d1 := R1.cells; have f1 := R1.loose) | skip))
        | (go_at_call 8; refine (toStamp_b _ _ _).mono ?_; rintro e w1 ⟨rfl, hb1⟩; (first | (have R1 := (Rg.newd _ 34 0 0 0).later hb1; have d1 := R1.cells; have f1 := R1.loose) | (have R1 := (Rg.new _ 34 0 0 0).later hb1; have d1 := R1.cells; have f1 := R1.loose) | (have R1 := Rg.later (ty := 34) (v := 0) (t := 0) (b := 0) (by assumption) hb1; have d1 := R1.cells; have f1 := R1.loose) | skip))
        | (go_at_call 13; refine (toReg_any _ _ _ _).mono ?_; rintro e w1 ⟨rfl, hb1⟩; (first | (have R1 := (Rg.newd _ 34 0 0 0).later hb1; have d1 := R1.cells; have f1 := R1.loose) | (have R1 := (Rg.new _ 34 0 0 0).later hb1; have d1 := R1.cells; have f1 := R1.loose) | (have R1 := Rg.later (ty := 34) (v := 0) (t := 0) (b := 0) (by assumption) hb1; have d1 := R1.cells; have f1 := R1.loose) | skip))))
    all_goals (try go_wp2_with fail)
    all_goals go_meet
    all_goals
      refine ⟨_, rfl, ?_, ?_, ?_⟩
      · first | exact Nat.le_refl _ | (refine Below.size (B := wc.heap.size) ?_; repeat (first | exact bre _ | refine bdr ?_ | refine btr ?_ (by assumption) | refine bpush ?_ _ | refine bset' ?_ ?_ _ _))
      · first | with_reducible exact Rg.set' (by assumption) | with_reducible exact Rg.new _ 34 v1 t1 b1
      · repeat (first | exact bre _ | refine bdr ?_ | refine btr ?_ (by assumption) | refine bpush ?_ _ | refine bset' ?_ ?_ _ _)
  case rest =>
  obtain ⟨k2, rfl, hk2, R2, B2⟩ := hcut
  have c1 := (A2.out.later B2).cells
  have c2 := R2.cells
  have B3 : Hid (Below _ _ wc) := B2
  clear hk2 R2 B2
  go_wp2_with fail
  refine (eqReg_same _ _ _ _).mono ?_; rintro e w3 ⟨rfl, hb3⟩
  go_wp2_with fail
  go_ret
  exact ⟨rfl, btr B0.out (btr B1.out (btr B3.out hb3))⟩
end Go.Proofs.Ytagfgkmeekgngaj
