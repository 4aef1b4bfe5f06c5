/- The program's reader: a register. -/
import Derived.Test.YtldcmfkmnjdfiaaMailNum
namespace Go.Proofs.Ytldcmfkmnjdfiaa
open Go.RowKit

def rg3 (s : ByteArray) (b : Int) : Option (R3 × Int) := (rd s b).bind fun p => (rd s p.2).bind fun q => (rd s q.2).map fun r => ((p.1, q.1, r.1), r.2)
theorem rg3_some {s : ByteArray} {b x b1 y b2 z b3 : Int} (h1 : rd s b = some (x, b1)) (h2 : rd s b1 = some (y, b2)) (h3 : rd s b2 = some (z, b3)) : rg3 s b = some ((x, y, z), b3) := by
  unfold rg3; rw [h1]; simp only [Option.bind_some]; rw [h2]; simp only [Option.bind_some]; rw [h3]; rfl
theorem rg3_no1 {s : ByteArray} {b : Int} (h1 : rd s b = none) : rg3 s b = none := by unfold rg3; rw [h1]; rfl
theorem rg3_no2 {s : ByteArray} {b x b1 : Int} (h1 : rd s b = some (x, b1)) (h2 : rd s b1 = none) : rg3 s b = none := by
  unfold rg3; rw [h1]; simp only [Option.bind_some]; rw [h2]; rfl
theorem rg3_no3 {s : ByteArray} {b x b1 y b2 : Int} (h1 : rd s b = some (x, b1)) (h2 : rd s b1 = some (y, b2)) (h3 : rd s b2 = none) : rg3 s b = none := by
  unfold rg3; rw [h1]; simp only [Option.bind_some]; rw [h2]; simp only [Option.bind_some]; rw [h3]; rfl
def Reg1 (w : World) (k : Nat) (s : ByteArray) (b : Int) (e : Ending) (w' : World) : Prop :=
  (∃ x y z c, rg3 s b = some ((x, y, z), c) ∧ e = .returned (.agg #[.int .i64 x, .int .i64 y, .int .i64 z]) ∧ Dg w' k s c ∧ w.grownBy w' (some k)) ∨ (rg3 s b = none ∧ e = .panicked notHere ∧ w.grownBy w' (some k))

/-- A stamp that is read. -/
def rg2 (s : ByteArray) (b : Int) : Option ((Int × Int) × Int) := (rd s b).bind fun p => (rd s p.2).map fun q => ((p.1, q.1), q.2)
theorem rg2_some {s : ByteArray} {b x b1 y b2 : Int} (h1 : rd s b = some (x, b1)) (h2 : rd s b1 = some (y, b2)) : rg2 s b = some ((x, y), b2) := by
  unfold rg2; rw [h1]; simp only [Option.bind_some]; rw [h2]; rfl
theorem rg2_no1 {s : ByteArray} {b : Int} (h1 : rd s b = none) : rg2 s b = none := by unfold rg2; rw [h1]; rfl
theorem rg2_no2 {s : ByteArray} {b x b1 : Int} (h1 : rd s b = some (x, b1)) (h2 : rd s b1 = none) : rg2 s b = none := by
  unfold rg2; rw [h1]; simp only [Option.bind_some]; rw [h2]; rfl
theorem rg3_two {s : ByteArray} {b x b1 y z c : Int} (h1 : rd s b = some (x, b1)) (h2 : rg2 s b1 = some ((y, z), c)) : rg3 s b = some ((x, y, z), c) := by
  unfold rg2 at h2
  cases h3 : rd s b1 with
  | none => rw [h3] at h2; cases h2
  | some p =>
    rw [h3] at h2
    simp only [Option.bind_some] at h2
    cases h4 : rd s p.2 with
    | none => rw [h4] at h2; cases h2
    | some q =>
      rw [h4] at h2
      simp only [Option.map_some, Option.some.injEq, Prod.mk.injEq] at h2
      obtain ⟨⟨rfl, rfl⟩, rfl⟩ := h2
      exact rg3_some h1 h3 h4
theorem rg3_two_no {s : ByteArray} {b x b1 : Int} (h1 : rd s b = some (x, b1)) (h2 : rg2 s b1 = none) : rg3 s b = none := by
  cases h3 : rd s b1 with
  | none => exact rg3_no2 h1 h3
  | some p =>
    cases h4 : rd s p.2 with
    | none => exact rg3_no3 h1 h3 h4
    | some q => rw [rg2_some h3 h4] at h2; cases h2
def Stm1 (w : World) (k : Nat) (s : ByteArray) (b : Int) (e : Ending) (w' : World) : Prop :=
  (∃ x y c, rg2 s b = some ((x, y), c) ∧ e = .returned (.agg #[.int .i64 x, .int .i64 y]) ∧ Dg w' k s c ∧ w.grownBy w' (some k)) ∨ (rg2 s b = none ∧ e = .panicked notHere ∧ w.grownBy w' (some k))
theorem Sg.grown {W W' : World} {k ty : Nat} {t b : Int} {r : Option Nat} (h : Sg W k ty t b) (hg : W.grownBy W' r) (hk : some k ≠ r) : Sg W' k ty t b := (hg.block k h.lt hk).trans h
theorem Sg.free {W : World} {k ty : Nat} {t b : Int} (h : Sg W k ty t b) : W.frozen? ⟨k, 0, none⟩ = false ∧ W.frozen? ⟨k, 1, none⟩ = false :=
  ⟨frozen_of_row W k 0 _ _ h, frozen_of_row W k 1 _ _ h⟩

set_option maxHeartbeats 800000 in
set_option maxRecDepth 100000 in
theorem stmr_any (k : Nat) (s : ByteArray) (b : Int) (w : World) (hs : s.size ≤ 1048576) (hc : Dg w k s b) :
    Calls Try.prog 75 #[.pointer (some ⟨k, 0, none⟩)] w fun e w' => Stm1 w k s b e w' := by
  have HSZ := hid hs
  have LK : Hid (k < w.heap.size) := hc.lt
  have R0 := hid (Sg.new w 47 0 0)
  have C0 := hid (hc.later (bpush (bre w) (.cells #[.int .i64 0, .int .i64 0] 47)))
  clear hc hs
  go_enter Try.func75, Try.ntmps75
  go_wp2_with fail
  refine (numr_any k s b _ HSZ.out C0.out).mono ?_; rintro e w1 (⟨x, b1, hr, rfl, hd, hg⟩ | ⟨hr, rfl, hg⟩)
  case inr =>
    have H := hid hr
    have G := hid (grown_push hg)
    clear hr hg
    go_wp2_with fail
    exact ⟨rfl, Or.inr ⟨rg2_no1 H.out, rfl, G.out⟩⟩
  have H1 := hid hr
  have C1 := hid hd
  have l := LK.out
  have R1 := hid (R0.out.grown hg (by simp; omega))
  have G1 := hid (grown_push hg)
  clear hr hd hg l R0 C0
  go_wp2_with fail
  refine (numr_any k s b1 _ HSZ.out C1.out).mono ?_; rintro e w2 (⟨y, b2, hr, rfl, hd, hg⟩ | ⟨hr, rfl, hg⟩)
  case inr =>
    have H := hid hr
    have G := hid (wtr G1.out hg)
    clear hr hg
    go_wp2_with fail
    exact ⟨rfl, Or.inr ⟨rg2_no2 H1.out H.out, rfl, G.out⟩⟩
  have H2 := hid hr
  have C2 := hid hd
  have l := LK.out
  have R2 := hid (R1.out.grown hg (by simp; omega))
  have G2 := hid (wtr G1.out hg)
  have d := R2.out.cells
  have f := R2.out.free
  clear hr hd hg l R1 C1 G1
  go_wp2
  have l := LK.out
  have d3 := (R2.out.set' (t' := x) (b' := y)).cells
  refine bodyPost_ret (v := .agg #[.int .i64 x, .int .i64 y]) (by simp [results, Try.results75, go_sem, d3]) rfl (Or.inl ⟨x, y, b2, rg2_some H1.out H2.out, rfl, ?_, ?_⟩)
  · exact (C2.out.far _ (by omega)).far _ (by omega)
  · exact wst_new (wst_new G2.out (Nat.le_refl _) 0 _) (Nat.le_refl _) 1 _

set_option maxHeartbeats 800000 in
set_option maxRecDepth 100000 in
theorem regr_any (k : Nat) (s : ByteArray) (b : Int) (w : World) (hs : s.size ≤ 1048576) (hc : Dg w k s b) :
    Calls Try.prog 54 #[.pointer (some ⟨k, 0, none⟩)] w fun e w' => Reg1 w k s b e w' := by
  have HSZ := hid hs
  have LK : Hid (k < w.heap.size) := hc.lt
  have R0 := hid (Rg.new w 49 0 0 0)
  have C0 := hid (hc.later (bpush (bre w) (.cells #[.int .i64 0, .int .i64 0, .int .i64 0] 49)))
  clear hc hs
  go_enter Try.func54, Try.ntmps54
  go_wp2_with fail
  refine (numr_any k s b _ HSZ.out C0.out).mono ?_; rintro e w1 (⟨x, b1, hr, rfl, hd, hg⟩ | ⟨hr, rfl, hg⟩)
  case inr =>
    have H := hid hr
    have G := hid (grown_push hg)
    clear hr hg
    go_wp2_with fail
    exact ⟨rfl, Or.inr ⟨rg3_no1 H.out, rfl, G.out⟩⟩
  have H1 := hid hr
  have C1 := hid hd
  have l := LK.out
  have R1 := hid (R0.out.grown hg (by simp; omega))
  have G1 := hid (grown_push hg)
  clear hr hd hg l R0 C0
  go_wp2_with fail
  refine (stmr_any k s b1 _ HSZ.out C1.out).mono ?_; rintro e w2 (⟨y, z, b3, hr, rfl, hd, hg⟩ | ⟨hr, rfl, hg⟩)
  case inr =>
    have H := hid hr
    have G := hid (wtr G1.out hg)
    clear hr hg
    go_wp2_with fail
    exact ⟨rfl, Or.inr ⟨rg3_two_no H1.out H.out, rfl, G.out⟩⟩
  have H3 := hid hr
  have l := LK.out
  have N3 := hid (bpush (bre w2) (.cells #[.int .i64 y, .int .i64 z] 47))
  have C3 := hid (hd.later N3.out)
  have R3 := hid ((R1.out.grown hg (by simp; omega)).later N3.out)
  have S3 := hid (Sg.new w2 47 y z)
  have G3 := hid (wtr (wtr G1.out hg) (World.grownBy_alloc w2 (.cells #[.int .i64 y, .int .i64 z] 47) (some k)))
  have d := R3.out.cells
  have f := R3.out.loose
  have d2 := S3.out.cells
  clear hr hd hg l R1 C1 G1 N3
  go_wp2
  have l := LK.out
  have d3 := (R3.out.set' (v' := x) (t' := y) (b' := z)).cells
  refine bodyPost_ret (v := .agg #[.int .i64 x, .int .i64 y, .int .i64 z]) (by simp [results, Try.results54, go_sem, d3]) rfl (Or.inl ⟨x, y, z, b3, rg3_two H1.out H3.out, rfl, ?_, ?_⟩)
  · exact ((C3.out.far _ (by omega)).far _ (by omega)).far _ (by omega)
  · exact wst_new (wst_new (wst_new G3.out (Nat.le_refl _) 0 _) (Nat.le_refl _) 1 _) (Nat.le_refl _) 2 _
theorem regr_ok (k : Nat) (s : ByteArray) (b x y z c : Int) (w : World) (hs : s.size ≤ 1048576) (hc : Dg w k s b) (h : rg3 s b = some ((x, y, z), c)) :
    Calls Try.prog 54 #[.pointer (some ⟨k, 0, none⟩)] w fun e w' => e = .returned (.agg #[.int .i64 x, .int .i64 y, .int .i64 z]) ∧ Dg w' k s c ∧ w.grownBy w' (some k) := by
  refine (regr_any k s b w hs hc).mono ?_
  rintro e w1 (⟨x', y', z', c', hr, rfl, hd, hg⟩ | ⟨hr, _⟩)
  · rw [h] at hr
    simp only [Option.some.injEq, Prod.mk.injEq] at hr
    obtain ⟨⟨rfl, rfl, rfl⟩, rfl⟩ := hr
    exact ⟨rfl, hd, hg⟩
  · rw [h] at hr; cases hr
theorem regr_no (k : Nat) (s : ByteArray) (b : Int) (w : World) (hs : s.size ≤ 1048576) (hc : Dg w k s b) (h : rg3 s b = none) :
    Calls Try.prog 54 #[.pointer (some ⟨k, 0, none⟩)] w fun e w' => e = .panicked notHere ∧ w.grownBy w' (some k) := by
  refine (regr_any k s b w hs hc).mono ?_
  rintro e w1 (⟨x', y', z', c', hr, _⟩ | ⟨_, rfl, hg⟩)
  · rw [h] at hr; cases hr
  · exact ⟨rfl, hg⟩
end Go.Proofs.Ytldcmfkmnjdfiaa
