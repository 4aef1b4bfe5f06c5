/- MailNum, MailReg, MailMl, MailCat. -/
import Derived.Test.YtdkedgedkgabnaaGreatDoorR12
namespace Go.Proofs.YtdkedgedkgabnaaGreatDoor
open Go.RowKit
def Dg (W : World) (k : Nat) (s : ByteArray) (b : Int) : Prop := W.heap[k]? = some (.cells #[.string s, .int .i64 b] 128 (0, 0))
theorem Dg.lt {W : World} {k : Nat} {s : ByteArray} {b : Int} (h : Dg W k s b) : k < W.heap.size := (Array.getElem?_eq_some_iff.1 h).1
theorem Dg.new (w : World) (s : ByteArray) (b : Int) : Dg (w.alloc (.cells #[.string s, .int .i64 b] 128)) w.heap.size s b := heap_alloc_new w _
theorem Dg.later {W W' : World} {k : Nat} {s : ByteArray} {b : Int} (h : Dg W k s b) (hb : Below W.heap.size W W') : Dg W' k s b := (hb.block k h.lt).trans h
theorem Dg.below {W W' : World} {B k : Nat} {s : ByteArray} {b : Int} (h : Dg W k s b) (hb : Below B W W') (hk : k < B) : Dg W' k s b := (hb.block k hk).trans h
theorem Dg.cells {W : World} {k : Nat} {s : ByteArray} {b : Int} (h : Dg W k s b) : W.cell? ⟨k, 0, none⟩ = some (.string s) ∧ W.cell? ⟨k, 1, none⟩ = some (.int .i64 b) :=
 ⟨cell_of_row W k 0 _ _ _ h, cell_of_row W k 1 _ _ _ h⟩
theorem Dg.loose {W : World} {k : Nat} {s : ByteArray} {b : Int} (h : Dg W k s b) : W.frozen? ⟨k, 0, none⟩ = false ∧ W.frozen? ⟨k, 1, none⟩ = false :=
 ⟨frozen_of_row W k 0 _ _ h, frozen_of_row W k 1 _ _ h⟩
theorem Dg.s1 {W : World} {k : Nat} {s : ByteArray} {b : Int} (h : Dg W k s b) (b' : Int) : Dg (W.setCell ⟨k, 1, none⟩ (.int .i64 b')) k s b' := heap_setCell_same W k 1 _ _ (.int .i64 b') h
theorem Dg.far {W : World} {k j i : Nat} {s : ByteArray} {b : Int} (h : Dg W k s b) (x : Value) (hk : k ≠ j) : Dg (W.setCell ⟨j, i, none⟩ x) k s b := heap_setCell_far x h hk
abbrev notHere : List PanicEntry := [{ v := .iface 146 (.agg #[]), recovered := false }]
theorem must_yes (w : World) : Calls Tryz.prog 86 #[.bool true] w fun e w' => e = .returned (.tuple #[]) ∧ w' = w := by
 go_enter Tryz.func86, Tryz.ntmps86
 go_wp2
 go_end0
 exact ⟨rfl, rfl⟩
theorem must_no (w : World) : Calls Tryz.prog 86 #[.bool false] w fun e w' => e = .panicked notHere ∧ w' = w := by
 go_enter Tryz.func86, Tryz.ntmps86
 go_wp2
 exact ⟨rfl, rfl, rfl⟩
def Num1 (w : World) (k : Nat) (s : ByteArray) (b : Int) (e : Ending) (w' : World) : Prop :=
 (∃ n c, rd s b = some (n, c) ∧ e = .returned (.int .i64 n) ∧ Dg w' k s c ∧ w.grownBy w' (some k)) ∨ (rd s b = none ∧ e = .panicked notHere ∧ w.grownBy w' (some k))
def Txt1 (w : World) (k : Nat) (s : ByteArray) (b : Int) (e : Ending) (w' : World) : Prop :=
 (∃ t c, rsh s b = some (t, c) ∧ e = .returned (.string t) ∧ Dg w' k s c ∧ w.grownBy w' (some k)) ∨ (rsh s b = none ∧ e = .panicked notHere ∧ w.grownBy w' (some k))
theorem rdi_l (s : ByteArray) (b : Int) (hs : s.size ≤ 1048576) : ∃ (n c : Int) (ok : Bool), Hid ((ok = true ∧ rd s b = some (n, c)) ∨ (ok = false ∧ rd s b = none)) ∧ Hid (∀ w, Calls Tryz.prog 126 #[.string s, .int .i64 b] w fun e w' => e = .returned (.tuple #[.int .i64 n, .int .i64 c, .bool ok]) ∧ Below w.heap.size w w') := by
 have h := implRd s b (hs := hs)
 unfold rdT at h
 cases hr : rd s b with
 | none => rw [hr] at h; exact ⟨0, 0, false, Or.inr ⟨rfl, rfl⟩, h⟩
 | some p => rw [hr] at h; exact ⟨p.1, p.2, true, Or.inl ⟨rfl, rfl⟩, h⟩
theorem rshi_l (s : ByteArray) (b : Int) (hs : s.size ≤ 1048576) : ∃ (t : ByteArray) (c : Int) (ok : Bool), Hid ((ok = true ∧ rsh s b = some (t, c)) ∨ (ok = false ∧ rsh s b = none)) ∧ Hid (∀ w, Calls Tryz.prog 143 #[.string s, .int .i64 b] w fun e w' => e = .returned (.tuple #[.string t, .int .i64 c, .bool ok]) ∧ Below w.heap.size w w') := by
 have h := implRsh s b (hs := hs)
 unfold rshT at h
 cases hr : rsh s b with
 | none => rw [hr] at h; exact ⟨⟨#[]⟩, 0, false, Or.inr ⟨rfl, rfl⟩, h⟩
 | some p => rw [hr] at h; exact ⟨p.1, p.2, true, Or.inl ⟨rfl, rfl⟩, h⟩
set_option maxHeartbeats 800000 in
set_option maxRecDepth 100000 in
theorem numr_any (k : Nat) (s : ByteArray) (b : Int) (w : World) (hs : s.size ≤ 1048576) (hc : Dg w k s b) :
  Calls Tryz.prog 83 #[.pointer (some ⟨k, 0, none⟩)] w fun e w' => Num1 w k s b e w' := by
 obtain ⟨n, c, ok, hr, cr⟩ := rdi_l s b hs
 have HC := hid hc
 clear hc hs
 have HS : Hid (∀ W, Below w.heap.size w W → (W.cell? ⟨k, 0, none⟩ = some (.string s) ∧ W.cell? ⟨k, 1, none⟩ = some (.int .i64 b))) := fun W h => (HC.out.later h).cells
 go_enter Tryz.func83, Tryz.ntmps83
 go_wp2_with fail
 go_region_held3 (fun W => (W.cell? ⟨k, 0, none⟩ = some (.string s) ∧ W.cell? ⟨k, 1, none⟩ = some (.int .i64 b)))
  ((refine HS.out _ ?_; repeat (first | exact bdr (bre _) | refine btr ?_ (by assumption))))
  ((go_at_call 126; refine (cr.out _).mono ?_; rintro e w1 ⟨rfl, hb1⟩))
 have B1 : Hid (Below w.heap.size w w1) := by show Below _ _ _; repeat (first | exact bdr (bre _) | refine btr ?_ (by assumption))
 have K1 := hid (HC.out.later B1.out)
 have d := K1.out.cells
 have f := K1.out.loose
 clear hb1 HS
 cases ok
 ·go_wp2_with fail
  refine (must_no _).mono ?_; rintro e w2 ⟨rfl, h2⟩
  subst h2
  go_wp2_with fail
  exact ⟨rfl, Or.inr ⟨(by rcases hr.out with ⟨h, _⟩ | ⟨_, h⟩; (cases h); exact h), rfl, grown_below B1.out _⟩⟩
 ·go_wp2_with fail
  refine (must_yes _).mono ?_; rintro e w2 ⟨rfl, h2⟩
  subst h2
  go_wp2
  go_ret
  exact Or.inl ⟨n, c, (by rcases hr.out with ⟨_, h⟩ | ⟨h, _⟩; (exact h); cases h), rfl, K1.out.s1 c, wst (grown_below B1.out _) 1 _⟩
set_option maxHeartbeats 800000 in
set_option maxRecDepth 100000 in
theorem short_any (k : Nat) (s : ByteArray) (b : Int) (w : World) (hs : s.size ≤ 1048576) (hc : Dg w k s b) :
  Calls Tryz.prog 104 #[.pointer (some ⟨k, 0, none⟩)] w fun e w' => Txt1 w k s b e w' := by
 obtain ⟨t, c, ok, hr, cr⟩ := rshi_l s b hs
 have HC := hid hc
 clear hc hs
 have HS : Hid (∀ W, Below w.heap.size w W → (W.cell? ⟨k, 0, none⟩ = some (.string s) ∧ W.cell? ⟨k, 1, none⟩ = some (.int .i64 b))) := fun W h => (HC.out.later h).cells
 go_enter Tryz.func104, Tryz.ntmps104
 go_wp2_with fail
 go_region_held3 (fun W => (W.cell? ⟨k, 0, none⟩ = some (.string s) ∧ W.cell? ⟨k, 1, none⟩ = some (.int .i64 b)))
  ((refine HS.out _ ?_; repeat (first | exact bdr (bre _) | refine btr ?_ (by assumption))))
  ((go_at_call 143; refine (cr.out _).mono ?_; rintro e w1 ⟨rfl, hb1⟩))
 have B1 : Hid (Below w.heap.size w w1) := by show Below _ _ _; repeat (first | exact bdr (bre _) | refine btr ?_ (by assumption))
 have K1 := hid (HC.out.later B1.out)
 have d := K1.out.cells
 have f := K1.out.loose
 clear hb1 HS
 cases ok
 ·go_wp2_with fail
  refine (must_no _).mono ?_; rintro e w2 ⟨rfl, h2⟩
  subst h2
  go_wp2_with fail
  exact ⟨rfl, Or.inr ⟨(by rcases hr.out with ⟨h, _⟩ | ⟨_, h⟩; (cases h); exact h), rfl, grown_below B1.out _⟩⟩
 ·go_wp2_with fail
  refine (must_yes _).mono ?_; rintro e w2 ⟨rfl, h2⟩
  subst h2
  go_wp2
  go_ret
  exact Or.inl ⟨t, c, (by rcases hr.out with ⟨_, h⟩ | ⟨h, _⟩; (exact h); cases h), rfl, K1.out.s1 c, wst (grown_below B1.out _) 1 _⟩
def rg3 (s : ByteArray) (b : Int) : Option (R3 × Int) := (rd s b).bind fun p => (rd s p.2).bind fun q => (rd s q.2).map fun r => ((p.1, q.1, r.1), r.2)
theorem rg3_some {s : ByteArray} {b x b1 y b2 z b3 : Int} (h1 : rd s b = some (x, b1)) (h2 : rd s b1 = some (y, b2)) (h3 : rd s b2 = some (z, b3)) : rg3 s b = some ((x, y, z), b3) := by
 unfold rg3; rw [h1]; simp only [Option.bind_some]; rw [h2]; simp only [Option.bind_some]; rw [h3]; rfl
theorem rg3_no1 {s : ByteArray} {b : Int} (h1 : rd s b = none) : rg3 s b = none := by unfold rg3; rw [h1]; rfl
theorem rg3_no2 {s : ByteArray} {b x b1 : Int} (h1 : rd s b = some (x, b1)) (h2 : rd s b1 = none) : rg3 s b = none := by
 unfold rg3; rw [h1]; simp only [Option.bind_some]; rw [h2]; rfl
theorem rg3_no3 {s : ByteArray} {b x b1 y b2 : Int} (h1 : rd s b = some (x, b1)) (h2 : rd s b1 = some (y, b2)) (h3 : rd s b2 = none) : rg3 s b = none := by
 unfold rg3; rw [h1]; simp only [Option.bind_some]; rw [h2]; simp only [Option.bind_some]; rw [h3]; rfl
def Reg1 (w : World) (k : Nat) (s : ByteArray) (b : Int) (e : Ending) (w' : World) : Prop :=
 (∃ x y z c, rg3 s b = some ((x, y, z), c) ∧ e = .returned (.agg #[.int .i64 x, .int .i64 y, .int .i64 z]) ∧ Dg w' k s c ∧ w.grownBy w' (some k)) ∨ (rg3 s b = none ∧ e = .panicked notHere ∧ w.grownBy w' (some k))
def rg2 (s : ByteArray) (b : Int) : Option ((Int × Int) × Int) := (rd s b).bind fun p => (rd s p.2).map fun q => ((p.1, q.1), q.2)
theorem rg2_some {s : ByteArray} {b x b1 y b2 : Int} (h1 : rd s b = some (x, b1)) (h2 : rd s b1 = some (y, b2)) : rg2 s b = some ((x, y), b2) := by
 unfold rg2; rw [h1]; simp only [Option.bind_some]; rw [h2]; rfl
theorem rg2_no1 {s : ByteArray} {b : Int} (h1 : rd s b = none) : rg2 s b = none := by unfold rg2; rw [h1]; rfl
theorem rg2_no2 {s : ByteArray} {b x b1 : Int} (h1 : rd s b = some (x, b1)) (h2 : rd s b1 = none) : rg2 s b = none := by
 unfold rg2; rw [h1]; simp only [Option.bind_some]; rw [h2]; rfl
theorem rg3_two {s : ByteArray} {b x b1 y z c : Int} (h1 : rd s b = some (x, b1)) (h2 : rg2 s b1 = some ((y, z), c)) : rg3 s b = some ((x, y, z), c) := by
 unfold rg2 at h2
 cases h3 : rd s b1 with
 | none => rw [h3] at h2; cases h2
 | some p =>
  rw [h3] at h2
  simp only [Option.bind_some] at h2
  cases h4 : rd s p.2 with
  | none => rw [h4] at h2; cases h2
  | some q =>
   rw [h4] at h2
   simp only [Option.map_some, Option.some.injEq, Prod.mk.injEq] at h2
   obtain ⟨⟨rfl, rfl⟩, rfl⟩ := h2
   exact rg3_some h1 h3 h4
theorem rg3_two_no {s : ByteArray} {b x b1 : Int} (h1 : rd s b = some (x, b1)) (h2 : rg2 s b1 = none) : rg3 s b = none := by
 cases h3 : rd s b1 with
 | none => exact rg3_no2 h1 h3
 | some p =>
  cases h4 : rd s p.2 with
  | none => exact rg3_no3 h1 h3 h4
  | some q => rw [rg2_some h3 h4] at h2; cases h2
def Stm1 (w : World) (k : Nat) (s : ByteArray) (b : Int) (e : Ending) (w' : World) : Prop :=
 (∃ x y c, rg2 s b = some ((x, y), c) ∧ e = .returned (.agg #[.int .i64 x, .int .i64 y]) ∧ Dg w' k s c ∧ w.grownBy w' (some k)) ∨ (rg2 s b = none ∧ e = .panicked notHere ∧ w.grownBy w' (some k))
theorem Sg.free {W : World} {k ty : Nat} {t b : Int} (h : Sg W k ty t b) : W.frozen? ⟨k, 0, none⟩ = false ∧ W.frozen? ⟨k, 1, none⟩ = false :=
 ⟨frozen_of_row W k 0 _ _ h, frozen_of_row W k 1 _ _ h⟩
set_option maxHeartbeats 800000 in
set_option maxRecDepth 100000 in
theorem stmr_any (k : Nat) (s : ByteArray) (b : Int) (w : World) (hs : s.size ≤ 1048576) (hc : Dg w k s b) :
  Calls Tryz.prog 105 #[.pointer (some ⟨k, 0, none⟩)] w fun e w' => Stm1 w k s b e w' := by
 have HSZ := hid hs
 have LK : Hid (k < w.heap.size) := hc.lt
 have R0 := hid (Sg.new w 35 0 0)
 have C0 := hid (hc.later (bpush (bre w) (.cells #[.int .i64 0, .int .i64 0] 35)))
 clear hc hs
 go_enter Tryz.func105, Tryz.ntmps105
 go_wp2_with fail
 refine (numr_any k s b _ HSZ.out C0.out).mono ?_; rintro e w1 (⟨x, b1, hr, rfl, hd, hg⟩ | ⟨hr, rfl, hg⟩)
 case inr =>
  have H := hid hr
  have G := hid (grown_push hg)
  clear hr hg
  go_wp2_with fail
  exact ⟨rfl, Or.inr ⟨rg2_no1 H.out, rfl, G.out⟩⟩
 have H1 := hid hr
 have C1 := hid hd
 have l := LK.out
 have R1 := hid (R0.out.grown hg (by simp; omega))
 have G1 := hid (grown_push hg)
 clear hr hd hg l R0 C0
 go_wp2_with fail
 refine (numr_any k s b1 _ HSZ.out C1.out).mono ?_; rintro e w2 (⟨y, b2, hr, rfl, hd, hg⟩ | ⟨hr, rfl, hg⟩)
 case inr =>
  have H := hid hr
  have G := hid (wtr G1.out hg)
  clear hr hg
  go_wp2_with fail
  exact ⟨rfl, Or.inr ⟨rg2_no2 H1.out H.out, rfl, G.out⟩⟩
 have H2 := hid hr
 have C2 := hid hd
 have l := LK.out
 have R2 := hid (R1.out.grown hg (by simp; omega))
 have G2 := hid (wtr G1.out hg)
 have d := R2.out.cells
 have f := R2.out.free
 clear hr hd hg l R1 C1 G1
 go_wp2
 have l := LK.out
 have d3 := (R2.out.set' (t' := x) (b' := y)).cells
 refine bodyPost_ret (v := .agg #[.int .i64 x, .int .i64 y]) (by simp [results, Tryz.results105, go_sem, d3]) rfl (Or.inl ⟨x, y, b2, rg2_some H1.out H2.out, rfl, ?_, ?_⟩)
 ·exact (C2.out.far _ (by omega)).far _ (by omega)
 ·exact wst_new (wst_new G2.out (Nat.le_refl _) 0 _) (Nat.le_refl _) 1 _
set_option maxHeartbeats 800000 in
set_option maxRecDepth 100000 in
theorem regr_any (k : Nat) (s : ByteArray) (b : Int) (w : World) (hs : s.size ≤ 1048576) (hc : Dg w k s b) :
  Calls Tryz.prog 144 #[.pointer (some ⟨k, 0, none⟩)] w fun e w' => Reg1 w k s b e w' := by
 have HSZ := hid hs
 have LK : Hid (k < w.heap.size) := hc.lt
 have R0 := hid (Rg.new w 126 0 0 0)
 have C0 := hid (hc.later (bpush (bre w) (.cells #[.int .i64 0, .int .i64 0, .int .i64 0] 126)))
 clear hc hs
 go_enter Tryz.func144, Tryz.ntmps144
 go_wp2_with fail
 refine (numr_any k s b _ HSZ.out C0.out).mono ?_; rintro e w1 (⟨x, b1, hr, rfl, hd, hg⟩ | ⟨hr, rfl, hg⟩)
 case inr =>
  have H := hid hr
  have G := hid (grown_push hg)
  clear hr hg
  go_wp2_with fail
  exact ⟨rfl, Or.inr ⟨rg3_no1 H.out, rfl, G.out⟩⟩
 have H1 := hid hr
 have C1 := hid hd
 have l := LK.out
 have R1 := hid (R0.out.grown hg (by simp; omega))
 have G1 := hid (grown_push hg)
 clear hr hd hg l R0 C0
 go_wp2_with fail
 refine (stmr_any k s b1 _ HSZ.out C1.out).mono ?_; rintro e w2 (⟨y, z, b3, hr, rfl, hd, hg⟩ | ⟨hr, rfl, hg⟩)
 case inr =>
  have H := hid hr
  have G := hid (wtr G1.out hg)
  clear hr hg
  go_wp2_with fail
  exact ⟨rfl, Or.inr ⟨rg3_two_no H1.out H.out, rfl, G.out⟩⟩
 have H3 := hid hr
 have l := LK.out
 have N3 := hid (bpush (bre w2) (.cells #[.int .i64 y, .int .i64 z] 35))
 have C3 := hid (hd.later N3.out)
 have R3 := hid ((R1.out.grown hg (by simp; omega)).later N3.out)
 have S3 := hid (Sg.new w2 35 y z)
 have G3 := hid (wtr (wtr G1.out hg) (World.grownBy_alloc w2 (.cells #[.int .i64 y, .int .i64 z] 35) (some k)))
 have d := R3.out.cells
 have f := R3.out.loose
 have d2 := S3.out.cells
 clear hr hd hg l R1 C1 G1 N3
 go_wp2
 have l := LK.out
 have d3 := (R3.out.set' (v' := x) (t' := y) (b' := z)).cells
 refine bodyPost_ret (v := .agg #[.int .i64 x, .int .i64 y, .int .i64 z]) (by simp [results, Tryz.results144, go_sem, d3]) rfl (Or.inl ⟨x, y, z, b3, rg3_two H1.out H3.out, rfl, ?_, ?_⟩)
 ·exact ((C3.out.far _ (by omega)).far _ (by omega)).far _ (by omega)
 ·exact wst_new (wst_new (wst_new G3.out (Nat.le_refl _) 0 _) (Nat.le_refl _) 1 _) (Nat.le_refl _) 2 _
theorem regr_ok (k : Nat) (s : ByteArray) (b x y z c : Int) (w : World) (hs : s.size ≤ 1048576) (hc : Dg w k s b) (h : rg3 s b = some ((x, y, z), c)) :
  Calls Tryz.prog 144 #[.pointer (some ⟨k, 0, none⟩)] w fun e w' => e = .returned (.agg #[.int .i64 x, .int .i64 y, .int .i64 z]) ∧ Dg w' k s c ∧ w.grownBy w' (some k) := by
 refine (regr_any k s b w hs hc).mono ?_
 rintro e w1 (⟨x', y', z', c', hr, rfl, hd, hg⟩ | ⟨hr, _⟩)
 ·rw [h] at hr
  simp only [Option.some.injEq, Prod.mk.injEq] at hr
  obtain ⟨⟨rfl, rfl, rfl⟩, rfl⟩ := hr
  exact ⟨rfl, hd, hg⟩
 ·rw [h] at hr; cases hr
theorem regr_no (k : Nat) (s : ByteArray) (b : Int) (w : World) (hs : s.size ≤ 1048576) (hc : Dg w k s b) (h : rg3 s b = none) :
  Calls Tryz.prog 144 #[.pointer (some ⟨k, 0, none⟩)] w fun e w' => e = .panicked notHere ∧ w.grownBy w' (some k) := by
 refine (regr_any k s b w hs hc).mono ?_
 rintro e w1 (⟨x', y', z', c', hr, _⟩ | ⟨_, rfl, hg⟩)
 ·rw [h] at hr; cases hr
 ·exact ⟨rfl, hg⟩
theorem rg3_inv {s : ByteArray} {b x y z c : Int} (h : rg3 s b = some ((x, y, z), c)) : ∃ b1 b2, rd s b = some (x, b1) ∧ rd s b1 = some (y, b2) ∧ rd s b2 = some (z, c) := by
 unfold rg3 at h
 cases h1 : rd s b with
 | none => rw [h1] at h; cases h
 | some p =>
  rw [h1] at h; simp only [Option.bind_some] at h
  cases h2 : rd s p.2 with
  | none => rw [h2] at h; cases h
  | some q =>
   rw [h2] at h; simp only [Option.bind_some] at h
   cases h3 : rd s q.2 with
   | none => rw [h3] at h; cases h
   | some r =>
    rw [h3] at h
    simp only [Option.map_some, Option.some.injEq, Prod.mk.injEq] at h
    obtain ⟨⟨rfl, rfl, rfl⟩, rfl⟩ := h
    exact ⟨p.2, q.2, by simp, h2, h3⟩
theorem rds_reg {s : ByteArray} {a g u b x y z c : Int} {l : List R3} (h : rds s a (g :: u :: flat l).length = some (g :: u :: flat l, b)) (hr : rg3 s b = some ((x, y, z), c)) : rds s a (g :: u :: flat (l ++ [(x, y, z)])).length = some (g :: u :: flat (l ++ [(x, y, z)]), c) := by
 obtain ⟨b1, b2, h1, h2, h3⟩ := rg3_inv hr
 have := rds_some (rds_some (rds_some h h1) h2) h3
 rw [flat_snoc]
 simpa using this
theorem rds_reg_no {s : ByteArray} {a g u b : Int} {l : List R3} (h : rds s a (g :: u :: flat l).length = some (g :: u :: flat l, b)) (hr : rg3 s b = none) (hl : l.length < 3) : rm6 s a = zero6 := by
 have hn : rds s a ((g :: u :: flat l).length + 3) = none := by
  cases h1 : rd s b with
  | none => exact rds_dead (j := 2) (by have := rds_none (n := 0) h h1; simpa using this)
  | some p =>
   have k1 := rds_some h (n := p.1) (c := p.2) h1
   cases h2 : rd s p.2 with
   | none => exact rds_dead (j := 1) (by have := rds_none (n := 0) k1 h2; simpa using this)
   | some q =>
    have k2 := rds_some k1 (n := q.1) (c := q.2) h2
    cases h3 : rd s q.2 with
    | none => have := rds_none (n := 0) k2 h3; simpa using this
    | some r => rw [rg3_some h1 h2 h3] at hr; cases hr
 have hd := rds_dead hn (11 - ((g :: u :: flat l).length + 3))
 have e : (g :: u :: flat l).length + 3 + (11 - ((g :: u :: flat l).length + 3)) = 11 := by
  simp only [List.length_cons, flat_len]; omega
 rw [e] at hd
 exact rm6_dead hd
theorem rds_dead11 {s : ByteArray} {a : Int} {k : Nat} (h : rds s a k = none) (hk : k ≤ 11) : rm6 s a = zero6 := by
 have hd := rds_dead h (11 - k)
 rw [show k + (11 - k) = 11 by omega] at hd
 exact rm6_dead hd
theorem grown_under {w W W' : World} {r : Option Nat} {B : Nat} (h : w.grownBy W r) (hb : Below B W W') (hB : w.heap.size ≤ B) : w.grownBy W' r :=
 ⟨hb.os.trans h.os, hb.tape.trans h.tape, hb.output.trans h.output, Nat.le_trans h.size hb.size, fun k hk hr => (hb.block k (by omega)).trans (h.block k hk hr)⟩
def Mail1 (w : World) (k : Nat) (s : ByteArray) (a : Int) (e : Ending) (w' : World) : Prop :=
 (∃ g u l t c v, rm6 s a = (g, u, l, t, c, true) ∧ e = .returned (.agg #[.int .i64 g, .int .i64 u, v, .string t]) ∧ Dg w' k s c ∧ Ow w' w.heap.size v l ∧ w.grownBy w' (some k)) ∨ (rm6 s a = zero6 ∧ e = .panicked notHere ∧ w.grownBy w' (some k))
set_option maxHeartbeats 1600000 in
set_option maxRecDepth 100000 in
theorem mail_any (k : Nat) (s : ByteArray) (a : Int) (w : World) (hs : s.size ≤ 1048576) (hc : Dg w k s a) :
  Calls Tryz.prog 107 #[.pointer (some ⟨k, 0, none⟩)] w fun e w' => Mail1 w k s a e w' := by
 have HSZ := hid hs
 have LK : Hid (k < w.heap.size) := hc.lt
 have M0 := hid (Mg.new w 78 0 0 (.slice none 0 0) ⟨#[]⟩)
 have C0 := hid (hc.later (bpush (bre w) (.cells #[.int .i64 0, .int .i64 0, .slice none 0 0, .string ⟨#[]⟩] 78)))
 clear hc hs
 go_enter Tryz.func107, Tryz.ntmps107
 go_wp2_with fail
 refine (numr_any k s a _ HSZ.out C0.out).mono ?_; rintro e w1 (⟨g, b1, hr, rfl, hd, hg⟩ | ⟨hr, rfl, hg⟩)
 case inr =>
  have H : Hid (rm6 s a = zero6) := rds_dead11 (k := 1) (by show rds s a (0 + 1) = none; rw [rds, rds]; simp only [Option.bind_some]; rw [hr]; rfl) (by omega)
  have G := hid (grown_push hg)
  clear hr hg
  go_wp2_with fail
  exact ⟨rfl, Or.inr ⟨H.out, rfl, G.out⟩⟩
 have P1 : Hid (rds s a [g].length = some ([g], b1)) := rds_some (nums := []) rfl hr
 have C1 := hid hd
 have l := LK.out
 have M1 := hid (M0.out.grown hg (by simp; omega))
 have G1 := hid (grown_push hg)
 clear hr hd hg l M0 C0
 go_wp2_with fail
 refine (numr_any k s b1 _ HSZ.out C1.out).mono ?_; rintro e w2 (⟨u, b2, hr, rfl, hd, hg⟩ | ⟨hr, rfl, hg⟩)
 case inr =>
  have H : Hid (rm6 s a = zero6) := rds_dead11 (rds_none (n := 0) P1.out hr) (by simp)
  have G := hid (wtr G1.out hg)
  clear hr hg
  go_wp2_with fail
  exact ⟨rfl, Or.inr ⟨H.out, rfl, G.out⟩⟩
 have P2 : Hid (rds s a (g :: u :: flat []).length = some (g :: u :: flat [], b2)) := rds_some P1.out hr
 have l := LK.out
 have N2 := hid (bpush (bre w2) (.cells #[.int .i64 g, .int .i64 u, .slice none 0 0, .string ⟨#[]⟩] 78))
 have C2 := hid (hd.later N2.out)
 have M2 := hid ((M1.out.grown hg (by simp; omega)).later N2.out)
 have X2 := hid (Mg.new w2 78 g u (.slice none 0 0) ⟨#[]⟩)
 have G2 := hid (wtr (wtr G1.out hg) (World.grownBy_alloc w2 (.cells #[.int .i64 g, .int .i64 u, .slice none 0 0, .string ⟨#[]⟩] 78) (some k)))
 have L2 : Hid (w.heap.size < w2.heap.size) := (M1.out.grown hg (by simp; omega)).lt
 clear hr hd hg l M1 C1 G1 P1 N2
 go_wp2
 obtain ⟨W2, hW2⟩ : ∃ W2, w2.alloc (.cells #[.int .i64 g, .int .i64 u, .slice none 0 0, .string ⟨#[]⟩] 78) = W2 := ⟨_, rfl⟩
 rw [hW2] at C2 M2 X2 G2 ⊢
 have O2 : Hid (Ow W2 W2.heap.size (.slice none 0 0) []) := ⟨rfl, .inl ⟨rfl, rfl⟩⟩
 have LX : Hid (w2.heap.size < W2.heap.size) := X2.out.lt
 clear hW2
 go_loopw [13] (fun iv wr => ∃ (i : Nat) (l : List R3) (v : Value) (b : Int), i ≤ 3 ∧ iv = .int .i64 (i : Int) ∧ Hid (l.length = i) ∧ Mg wr w2.heap.size 78 g u v ⟨#[]⟩ ∧ Ow wr W2.heap.size v l ∧ Dg wr k s b ∧ Hid (rds s a (g :: u :: flat l).length = some (g :: u :: flat l, b)) ∧ Mg wr w.heap.size 78 0 0 (.slice none 0 0) ⟨#[]⟩ ∧ w.grownBy wr (some k) ∧ Hid (W2.heap.size ≤ wr.heap.size)) (fun iv _ => 3 - (intOf iv).toNat)
 case atStart => exact ⟨0, [], .slice none 0 0, b2, by omega, rfl, rfl, X2.out, O2.out, C2.out, P2.out, M2.out, G2.out, Nat.le_refl _⟩
 case round =>
  obtain ⟨i, l, v, b, hi, rfl, HL, hm8, ho, hc7, HP, hm4, hgr, HZ⟩ := hrel
  have X8 := hid hm8
  have XO := hid ho
  have X7 := hid hc7
  have X7d : Hid (Dg wr.drew k s b) := hc7
  have X4 := hid hm4
  have XG := hid hgr
  clear hm8 ho hc7 hm4 hgr
  have c8 := X8.out.cells
  have f8 := X8.out.loose
  by_cases hlt : i < 3
  ·have HN : Hid (l.length ≤ 1048576) := by show _ ≤ _; rw [HL.out]; omega
   cases hr : rg3 s b with
   | none =>
    have H : Hid (rm6 s a = zero6) := rds_reg_no HP.out hr (by rw [HL.out]; exact hlt)
    have HR := hid hr
    clear hr
    go_wp2_with fail
    refine wp_region_held_drew (S := fun W => (W.cell? ⟨w2.heap.size, 0, none⟩ = some (.int .i64 g) ∧ W.cell? ⟨w2.heap.size, 1, none⟩ = some (.int .i64 u) ∧ W.cell? ⟨w2.heap.size, 2, none⟩ = some v ∧ W.cell? ⟨w2.heap.size, 3, none⟩ = some (.string ⟨#[]⟩))) (by kernel_rfl) c8 (fun hHeld => ?_)
    refine wpAnyH_take (i := 0) (v := ?v0n) rfl (by kernel_rfl) (by kernel_rfl) (by kernel_rfl) (fun _ _ _ h => h) (Or.inl ⟨by rfl, ?hy0n⟩) (by assumption) ?rest0n
    case hy0n => (intro w hSw; (try dsimp only at hSw); go_simp; try with_reducible rfl)
    try simp only [Act.put]
    refine wpAnyH_take (i := 1) (v := ?v1n) rfl (by kernel_rfl) (by kernel_rfl) (by kernel_rfl) (fun _ _ _ h => h) (Or.inl ⟨by rfl, ?hy1n⟩) (by assumption) ?rest1n
    case hy1n => (intro w hSw; (try dsimp only at hSw); go_simp; try with_reducible rfl)
    try simp only [Act.put]
    refine wpAnyH_take (i := 2) (v := ?v2n) rfl (by kernel_rfl) (by kernel_rfl) (by kernel_rfl) (fun _ _ _ h => h) (Or.inl ⟨by rfl, ?hy2n⟩) (by assumption) ?rest2n
    case hy2n => (intro w hSw; (try dsimp only at hSw); go_simp; try with_reducible rfl)
    try simp only [Act.put]
    refine wpAnyH_ready (rs := [3]) (by kernel_rfl) (by simp) ?_
    refine AllReadyH.cons rfl (fun K hK => ?_) AllReadyH.nil
    go_simp
    refine (regr_no k s b _ HSZ.out X7d.out HR.out).mono ?_; rintro e w3 ⟨rfl, hg⟩
    exact ⟨rfl, Or.inr ⟨H.out, rfl, wtr XG.out (wtr (grown_below (bdr (bre wr)) _) hg)⟩⟩
   | some pc =>
    obtain ⟨⟨x, y, z⟩, c⟩ := pc
    have HR := hid hr
    clear hr
    go_wp2_with fail
    refine wp_region_held_drew (S := fun _ => True) (by kernel_rfl) trivial (fun hHeld => ?_)
    refine wpAnyH_take (i := 0) (v := ?v0k) rfl (by kernel_rfl) (by kernel_rfl) (by kernel_rfl) (fun _ _ _ h => h) (Or.inl ⟨by rfl, ?hy0k⟩) (trivial) ?rest0k
    case hy0k => (intro w hSw; (try dsimp only at hSw); go_simp; try with_reducible rfl)
    try simp only [Act.put]
    refine wpAnyH_take (i := 2) (v := ?v2k) rfl (by kernel_rfl) (by kernel_rfl) (by kernel_rfl) (fun _ _ _ h => h) (Or.inl ⟨by rfl, ?hy2k⟩) (trivial) ?rest2k
    case hy2k => (intro w hSw; (try dsimp only at hSw); go_simp; try with_reducible rfl)
    try simp only [Act.put]
    refine wpAnyH_ready (rs := [1, 3]) (by kernel_rfl) (by simp) ?_
    refine AllReadyH.cons rfl (fun K hK => ?_) (AllReadyH.cons rfl (fun K hK => ?_) AllReadyH.nil)
    ·go_simp
     refine hK.out _ _ trivial (fun hHeld => ?_)
     clear hK K hHeld
     try simp only [Act.put]
     refine wpAnyH_ready (rs := [3]) (by kernel_rfl) (by simp) ?_
     refine AllReadyH.cons rfl (fun K hK => ?_) AllReadyH.nil
     go_simp
     refine (regr_ok k s b x y z c _ HSZ.out X7d.out HR.out).mono ?_; rintro e w3 ⟨rfl, hd, hg⟩
     have l1 := LK.out
     have l2 := L2.out
     have l3 := LX.out
     have HO3 : Hid (Ow w3 W2.heap.size v l) := own_kept (W := wr.drew) XO.out hg (fun j hj => by have := (XO.out.lt j hj).1; simp; omega)
     have X83 : Hid (Mg w3 w2.heap.size 78 g u v ⟨#[]⟩) := Mg.grown (W := wr.drew) X8.out hg (by simp; omega)
     have X43 : Hid (Mg w3 w.heap.size 78 0 0 (.slice none 0 0) ⟨#[]⟩) := Mg.grown (W := wr.drew) X4.out hg (by simp; omega)
     have HBS : Hid (W2.heap.size ≤ w3.heap.size) := Nat.le_trans HZ.out hg.size
     have XG3 := hid (wtr XG.out (wtr (grown_below (bdr (bre wr)) _) hg))
     have HD := hid hd
     have c9 := X83.out.cells
     have d9 := (X83.out.later (bpush (bre w3) (.cells #[.int .i64 x, .int .i64 y, .int .i64 z] 126))).cells
     clear l1 l2 l3 hd hg
     go_wp2_with fail
     refine hK.out _ _ trivial (fun hHeld => ?_)
     clear hK K hHeld
     try simp only [Act.put]
     refine wpAnyH_ready (rs := [4]) (by kernel_rfl) (by simp) ?_
     refine AllReadyH.cons rfl (fun K hK => ?_) AllReadyH.nil
     go_simp
     refine hK.out _ _ trivial (fun hHeld => ?_)
     clear hK K hHeld
     try simp only [Act.put]
     refine wpAnyH_ready (rs := [5]) (by kernel_rfl) (by simp) ?_
     refine AllReadyH.cons rfl (fun K hK => ?_) AllReadyH.nil
     refine step_append_rg rfl (.tmp 16) (.tmp 19) rfl W2.heap.size v l (by rfl) x y z HO3.out (by rfl) HN.out HBS.out ?_
     intro v6 w6 hown6 hb6
     obtain ⟨a6, k6, hv6, _⟩ := Ow.shape hown6
     subst hv6
     have X86 : Hid (Mg w6 w2.heap.size 78 g u v ⟨#[]⟩) := X83.out.below hb6 LX.out
     have c7 := X86.out.cells
     have f7 := X86.out.loose
     have HO6 := hid hown6
     have HB6 := hid hb6
     clear hown6 hb6
     refine hK.out _ _ trivial (fun hHeld => ?_)
     clear hK K hHeld
     try simp only [Act.put]
     refine wpAnyH_take (i := 6) (v := ?v6a) rfl (by kernel_rfl) (by kernel_rfl) (by kernel_rfl) (fun _ _ _ h => h) (Or.inl ⟨by rfl, ?hy6a⟩) (trivial) ?rest6a
     case hy6a => (intro w hSw; (try dsimp only at hSw); go_simp; try with_reducible rfl)
     try simp only [Act.put]
     refine wpAnyH_ready (rs := [7]) (by kernel_rfl) (by simp) ?_
     refine AllReadyH.cons rfl (fun K hK => ?_) AllReadyH.nil
     go_simp
     refine hK.out _ _ trivial (fun hHeld => ?_)
     clear hK K hHeld
     try simp only [Act.put]
     refine wpAnyH_done (by kernel_rfl) ?_ _
     go_wp2
     have l1 := LK.out
     have l2 := L2.out
     have l3 := LX.out
     have e6 : (l ++ [(x, y, z)]).length = l.length + 1 := by simp
     have HO7 : Hid (Ow w6 W2.heap.size (.slice a6 (l.length + 1) k6) (l ++ [(x, y, z)])) := by have h := HO6.out; rw [e6] at h; exact h
     go_roundw
     case rel => exact ⟨i + 1, l ++ [(x, y, z)], .slice a6 (l.length + 1) k6, c, by omega, by go_num, (by show _ = _; rw [List.length_append, HL.out]; rfl), X86.out.s2 _, own_far HO7.out l3 2 _, (HD.out.below HB6.out (by omega)).far _ (by omega), rds_reg HP.out HR.out, (X43.out.below HB6.out (by omega)).far _ (by omega), wst_new (grown_under XG3.out HB6.out (by omega)) (by omega) 2 _, (by show _ ≤ _; have := HBS.out; have := HB6.out.size; simp [World.setCell]; omega)⟩
     case measure => simp [intOf]; omega
    ·go_simp
     refine (regr_ok k s b x y z c _ HSZ.out X7d.out HR.out).mono ?_; rintro e w3 ⟨rfl, hd, hg⟩
     have l1 := LK.out
     have l2 := L2.out
     have l3 := LX.out
     have HO3 : Hid (Ow w3 W2.heap.size v l) := own_kept (W := wr.drew) XO.out hg (fun j hj => by have := (XO.out.lt j hj).1; simp; omega)
     have X83 : Hid (Mg w3 w2.heap.size 78 g u v ⟨#[]⟩) := Mg.grown (W := wr.drew) X8.out hg (by simp; omega)
     have X43 : Hid (Mg w3 w.heap.size 78 0 0 (.slice none 0 0) ⟨#[]⟩) := Mg.grown (W := wr.drew) X4.out hg (by simp; omega)
     have HBS : Hid (W2.heap.size ≤ w3.heap.size) := Nat.le_trans HZ.out hg.size
     have XG3 := hid (wtr XG.out (wtr (grown_below (bdr (bre wr)) _) hg))
     have HD := hid hd
     have c9 := X83.out.cells
     have d9 := (X83.out.later (bpush (bre w3) (.cells #[.int .i64 x, .int .i64 y, .int .i64 z] 126))).cells
     clear l1 l2 l3 hd hg
     go_wp2_with fail
     refine hK.out _ _ trivial (fun hHeld => ?_)
     clear hK K hHeld
     try simp only [Act.put]
     refine wpAnyH_ready (rs := [1, 4]) (by kernel_rfl) (by simp) ?_
     refine AllReadyH.cons rfl (fun K hK => ?_) (AllReadyH.cons rfl (fun K hK => ?_) AllReadyH.nil)
     ·go_simp
      refine hK.out _ _ trivial (fun hHeld => ?_)
      clear hK K hHeld
      try simp only [Act.put]
      refine wpAnyH_ready (rs := [4]) (by kernel_rfl) (by simp) ?_
      refine AllReadyH.cons rfl (fun K hK => ?_) AllReadyH.nil
      go_simp
      refine hK.out _ _ trivial (fun hHeld => ?_)
      clear hK K hHeld
      try simp only [Act.put]
      refine wpAnyH_ready (rs := [5]) (by kernel_rfl) (by simp) ?_
      refine AllReadyH.cons rfl (fun K hK => ?_) AllReadyH.nil
      refine step_append_rg rfl (.tmp 16) (.tmp 19) rfl W2.heap.size v l (by rfl) x y z HO3.out (by rfl) HN.out HBS.out ?_
      intro v6 w6 hown6 hb6
      obtain ⟨a6, k6, hv6, _⟩ := Ow.shape hown6
      subst hv6
      have X86 : Hid (Mg w6 w2.heap.size 78 g u v ⟨#[]⟩) := X83.out.below hb6 LX.out
      have c7 := X86.out.cells
      have f7 := X86.out.loose
      have HO6 := hid hown6
      have HB6 := hid hb6
      clear hown6 hb6
      refine hK.out _ _ trivial (fun hHeld => ?_)
      clear hK K hHeld
      try simp only [Act.put]
      refine wpAnyH_take (i := 6) (v := ?v6b) rfl (by kernel_rfl) (by kernel_rfl) (by kernel_rfl) (fun _ _ _ h => h) (Or.inl ⟨by rfl, ?hy6b⟩) (trivial) ?rest6b
      case hy6b => (intro w hSw; (try dsimp only at hSw); go_simp; try with_reducible rfl)
      try simp only [Act.put]
      refine wpAnyH_ready (rs := [7]) (by kernel_rfl) (by simp) ?_
      refine AllReadyH.cons rfl (fun K hK => ?_) AllReadyH.nil
      go_simp
      refine hK.out _ _ trivial (fun hHeld => ?_)
      clear hK K hHeld
      try simp only [Act.put]
      refine wpAnyH_done (by kernel_rfl) ?_ _
      go_wp2
      have l1 := LK.out
      have l2 := L2.out
      have l3 := LX.out
      have e6 : (l ++ [(x, y, z)]).length = l.length + 1 := by simp
      have HO7 : Hid (Ow w6 W2.heap.size (.slice a6 (l.length + 1) k6) (l ++ [(x, y, z)])) := by have h := HO6.out; rw [e6] at h; exact h
      go_roundw
      case rel => exact ⟨i + 1, l ++ [(x, y, z)], .slice a6 (l.length + 1) k6, c, by omega, by go_num, (by show _ = _; rw [List.length_append, HL.out]; rfl), X86.out.s2 _, own_far HO7.out l3 2 _, (HD.out.below HB6.out (by omega)).far _ (by omega), rds_reg HP.out HR.out, (X43.out.below HB6.out (by omega)).far _ (by omega), wst_new (grown_under XG3.out HB6.out (by omega)) (by omega) 2 _, (by show _ ≤ _; have := HBS.out; have := HB6.out.size; simp [World.setCell]; omega)⟩
      case measure => simp [intOf]; omega
     ·go_simp
      refine hK.out _ _ trivial (fun hHeld => ?_)
      clear hK K hHeld
      try simp only [Act.put]
      refine wpAnyH_ready (rs := [1]) (by kernel_rfl) (by simp) ?_
      refine AllReadyH.cons rfl (fun K hK => ?_) AllReadyH.nil
      go_simp
      refine hK.out _ _ trivial (fun hHeld => ?_)
      clear hK K hHeld
      try simp only [Act.put]
      refine wpAnyH_ready (rs := [5]) (by kernel_rfl) (by simp) ?_
      refine AllReadyH.cons rfl (fun K hK => ?_) AllReadyH.nil
      refine step_append_rg rfl (.tmp 16) (.tmp 19) rfl W2.heap.size v l (by rfl) x y z HO3.out (by rfl) HN.out HBS.out ?_
      intro v6 w6 hown6 hb6
      obtain ⟨a6, k6, hv6, _⟩ := Ow.shape hown6
      subst hv6
      have X86 : Hid (Mg w6 w2.heap.size 78 g u v ⟨#[]⟩) := X83.out.below hb6 LX.out
      have c7 := X86.out.cells
      have f7 := X86.out.loose
      have HO6 := hid hown6
      have HB6 := hid hb6
      clear hown6 hb6
      refine hK.out _ _ trivial (fun hHeld => ?_)
      clear hK K hHeld
      try simp only [Act.put]
      refine wpAnyH_take (i := 6) (v := ?v6c) rfl (by kernel_rfl) (by kernel_rfl) (by kernel_rfl) (fun _ _ _ h => h) (Or.inl ⟨by rfl, ?hy6c⟩) (trivial) ?rest6c
      case hy6c => (intro w hSw; (try dsimp only at hSw); go_simp; try with_reducible rfl)
      try simp only [Act.put]
      refine wpAnyH_ready (rs := [7]) (by kernel_rfl) (by simp) ?_
      refine AllReadyH.cons rfl (fun K hK => ?_) AllReadyH.nil
      go_simp
      refine hK.out _ _ trivial (fun hHeld => ?_)
      clear hK K hHeld
      try simp only [Act.put]
      refine wpAnyH_done (by kernel_rfl) ?_ _
      go_wp2
      have l1 := LK.out
      have l2 := L2.out
      have l3 := LX.out
      have e6 : (l ++ [(x, y, z)]).length = l.length + 1 := by simp
      have HO7 : Hid (Ow w6 W2.heap.size (.slice a6 (l.length + 1) k6) (l ++ [(x, y, z)])) := by have h := HO6.out; rw [e6] at h; exact h
      go_roundw
      case rel => exact ⟨i + 1, l ++ [(x, y, z)], .slice a6 (l.length + 1) k6, c, by omega, by go_num, (by show _ = _; rw [List.length_append, HL.out]; rfl), X86.out.s2 _, own_far HO7.out l3 2 _, (HD.out.below HB6.out (by omega)).far _ (by omega), rds_reg HP.out HR.out, (X43.out.below HB6.out (by omega)).far _ (by omega), wst_new (grown_under XG3.out HB6.out (by omega)) (by omega) 2 _, (by show _ ≤ _; have := HBS.out; have := HB6.out.size; simp [World.setCell]; omega)⟩
      case measure => simp [intOf]; omega
  ·have HL3 : Hid (l.length = 3) := by show _ = _; rw [HL.out]; omega
   have P11 : Hid (rds s a 11 = some (g :: u :: flat l, b)) := by
    have h := HP.out
    rw [show (g :: u :: flat l).length = 11 by simp [flat_len, HL3.out]] at h
    exact h
   obtain ⟨a8, k8, hv8, _⟩ := Ow.shape XO.out
   rw [HL3.out] at hv8
   subst hv8
   clear c8 f8 X7d
   go_wp2_with fail
   refine (short_any k s b _ HSZ.out X7.out).mono ?_; rintro e w3 (⟨t, c, hr, rfl, hd, hg⟩ | ⟨hr, rfl, hg⟩)
   case inr =>
    have H : Hid (rm6 s a = zero6) := rm6_short P11.out hr
    have G := hid (wtr XG.out hg)
    clear hr hg
    go_wp2_with fail
    exact ⟨rfl, Or.inr ⟨H.out, rfl, G.out⟩⟩
   have HS := hid hr
   have l1 := LK.out
   have l2 := L2.out
   have l3 := LX.out
   have G3 := hid (X8.out.grown hg (by simp; omega))
   have G3' := hid (G3.out.s3 t)
   have D3 := hid (hd.far (j := w2.heap.size) (i := 3) (.string t) (by omega))
   have O3 := hid (own_far (own_kept XO.out hg (by intro j hj h; have := (XO.out.lt j hj).1; simp at h; omega)) (j := w2.heap.size) l3 3 (.string t))
   have F3 := hid ((X4.out.grown hg (by simp; omega)).far (j := w2.heap.size) (i := 3) (.string t) (by omega))
   have B3 := hid (wst_new (wtr XG.out hg) (j := w2.heap.size) (by omega) 3 (.string t))
   have c3 := G3.out.cells
   have f3 := G3.out.loose
   clear hr hd hg X8 XO X7 X4 XG l1 l2 l3
   obtain ⟨W3, hW3⟩ : ∃ W3, w3.setCell ⟨w2.heap.size, 3, none⟩ (.string t) = W3 := ⟨_, rfl⟩
   rw [hW3] at G3' D3 O3 F3 B3
   have d8 := G3'.out.cells
   obtain ⟨q, hq, cq⟩ := implMailOk_l g u a8 3 k8 l t HL3.out (by omega)
   go_wp2_with fail
   refine (cq.out _ (Ow.rs O3.out).2).mono ?_; rintro e w5 ⟨rfl, hb5⟩
   have G5 := hid (G3'.out.later hb5)
   have D5 := hid (D3.out.later hb5)
   have O5 := hid (own_later O3.out hb5)
   have F5 := hid (F3.out.later hb5)
   have B5 := hid (wtr B3.out (grown_below hb5 (some k)))
   clear d8 c3 f3 hb5 hW3
   have d8 := G5.out.cells
   have d4 := F5.out.cells
   have f4 := F5.out.loose
   cases q
   ·have H : Hid (rm6 s a = zero6) := rm6_wrong P11.out HS.out hq.out.symm
    go_wp2_with fail
    refine (must_no _).mono ?_; rintro e w6 ⟨rfl, h6⟩
    subst h6
    go_wp2_with fail
    exact ⟨rfl, Or.inr ⟨H.out, rfl, B5.out⟩⟩
   ·have H := hid (rm6_good P11.out HS.out hq.out.symm)
    go_wp2_with fail
    refine (must_yes _).mono ?_; rintro e w6 ⟨rfl, h6⟩
    subst h6
    go_wp2
    have d := (set4 F5.out g u (.slice a8 3 k8) t).cells
    have l1 := LK.out
    have l2 := L2.out
    have l3 := LX.out
    refine bodyPost_ret (v := .agg #[.int .i64 g, .int .i64 u, .slice a8 3 k8, .string t]) (by simp [results, Tryz.results107, go_sem, d]) rfl (Or.inl ⟨g, u, l, t, c, _, H.out, rfl, ?_, ?_, ?_⟩)
    ·exact (((D5.out.far _ (by omega)).far _ (by omega)).far _ (by omega)).far _ (by omega)
    ·exact own_base (own4 O5.out (by omega) _ _ _ _) (by omega)
    ·exact wst_new (wst_new (wst_new (wst_new B5.out (Nat.le_refl _) 0 _) (Nat.le_refl _) 1 _) (Nat.le_refl _) 2 _) (Nat.le_refl _) 3 _
theorem assert_yes (W : World) : (Instr.typeAssert (.iface 146 (.agg #[])) 20 146 true).run Tryz.prog W = .ok (.tuple #[.agg #[], .bool true]) W := by kernel_rfl
theorem assert_nil (W : World) : (Instr.typeAssert .nilIface 20 146 true).run Tryz.prog W = .ok (.tuple #[.agg #[], .bool false]) W := by kernel_rfl
def Bwd (W : World) (k : Nat) (b : Bool) : Prop := W.heap[k]? = some (.cells #[.bool b] 4 (0, 0))
theorem Bwd.new (w : World) (b : Bool) : Bwd (w.alloc (.cells #[.bool b] 4)) w.heap.size b := heap_alloc_new w _
theorem Bwd.lt {W : World} {k : Nat} {b : Bool} (h : Bwd W k b) : k < W.heap.size := (Array.getElem?_eq_some_iff.1 h).1
theorem Bwd.later {W W' : World} {k : Nat} {b : Bool} (h : Bwd W k b) (hb : Below W.heap.size W W') : Bwd W' k b := (hb.block k h.lt).trans h
theorem Bwd.grown {W W' : World} {k : Nat} {b : Bool} {r : Option Nat} (h : Bwd W k b) (hg : W.grownBy W' r) (hk : some k ≠ r) : Bwd W' k b := (hg.block k h.lt hk).trans h
theorem Bwd.cell {W : World} {k : Nat} {b : Bool} (h : Bwd W k b) : W.cell? ⟨k, 0, none⟩ = some (.bool b) := cell_of_row W k 0 _ _ _ h
theorem Bwd.loose {W : World} {k : Nat} {b : Bool} (h : Bwd W k b) : W.frozen? ⟨k, 0, none⟩ = false := frozen_of_row W k 0 _ _ h
theorem Bwd.set {W : World} {k : Nat} {b : Bool} (h : Bwd W k b) (b' : Bool) : Bwd (W.setCell ⟨k, 0, none⟩ (.bool b')) k b' := heap_setCell_same W k 0 _ _ (.bool b') h
set_option maxRecDepth 100000 in
theorem catch_panic (kb : Nat) (b0 : Bool) (older : List PanicEntry) (w : World) (hb : Bwd w kb b0) :
  CallsD Tryz.prog 142 #[.pointer (some ⟨kb, 0, none⟩)] (.panicking ({ v := .iface 146 (.agg #[]), recovered := false } :: older)) w fun e u' w' =>
   e = .returned (.tuple #[]) ∧ u' = .panicking ({ v := .iface 146 (.agg #[]), recovered := true } :: older) ∧ w' = (w.alloc (.cells #[] 146)).setCell ⟨kb, 0, none⟩ (.bool false) := by
 have h1 := hb.later (bpush (bre w) (.cells #[] 146))
 have hc := h1.cell
 have hz := h1.loose
 refine callsD_of_wpS Tryz.func142 rfl fun c₀ cs hu => ?_
 apply wpS_seq
 apply wpS_region
 simp [wpOpsS, go_sem, recoverD, hu, Tryz.ntmps142, Exit.thenS, assert_yes]
 apply wpS_seq
 apply wpS_region
 simp [wpOpsS, go_sem, Exit.thenS]
 refine wpS_cond (t := true) (by simp [Act.eval, Array.replicate]) ?_
 simp only [if_true]
 apply wpS_region
 simp [wpOpsS, go_sem, hc, hz, bodyPostS, results, Tryz.results142]
set_option maxRecDepth 100000 in
theorem catch_idle (kb : Nat) (w : World) :
  CallsD Tryz.prog 142 #[.pointer (some ⟨kb, 0, none⟩)] .returning w fun e u' w' => e = .returned (.tuple #[]) ∧ u' = .returning ∧ w' = w.alloc (.cells #[] 146) := by
 refine callsD_of_wpS Tryz.func142 rfl fun c₀ cs hu => ?_
 apply wpS_seq
 apply wpS_region
 simp [wpOpsS, go_sem, recoverD, hu, Tryz.ntmps142, Exit.thenS, assert_nil]
 apply wpS_seq
 apply wpS_region
 simp [wpOpsS, go_sem, Exit.thenS]
 refine wpS_cond (t := false) (by simp [Act.eval, Array.replicate]) ?_
 simp only [Bool.false_eq_true, if_false]
 refine wpS_of_wp (wp_skip ?_)
 cases c₀
 simp_all [bodyPostS, results, Tryz.results142]
end Go.Proofs.YtdkedgedkgabnaaGreatDoor
