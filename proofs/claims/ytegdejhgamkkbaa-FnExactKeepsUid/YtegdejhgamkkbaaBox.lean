/- A box as it lies: seven cells. As the laws hand it over, its size, held against another. -/
import Derived.Test.YtegdejhgamkkbaaMeq
namespace Go.Proofs.Ytegdejhgamkkbaa
open Go.RowKit

/-- Block k holds a box. -/
def Bx (W : World) (k ty : Nat) (g : Int) (nm : ByteArray) (t b nx : Int) (ms gs : Value) : Prop := W.heap[k]? = some (.cells #[.int .i64 g, .string nm, .int .i64 t, .int .i64 b, .int .i64 nx, ms, gs] ty (0, 0))
theorem Bx.new (w : World) (ty : Nat) (g : Int) (nm : ByteArray) (t b nx : Int) (ms gs : Value) : Bx (w.alloc (.cells #[.int .i64 g, .string nm, .int .i64 t, .int .i64 b, .int .i64 nx, ms, gs] ty)) w.heap.size ty g nm t b nx ms gs := heap_alloc_new w _
section
variable {W W' : World} {k ty : Nat} {g : Int} {nm : ByteArray} {t b nx : Int} {ms gs : Value}
theorem Bx.later (h : Bx W k ty g nm t b nx ms gs) (hb : Below W.heap.size W W') : Bx W' k ty g nm t b nx ms gs := (hb.block k (Array.getElem?_eq_some_iff.1 h).1).trans h
theorem Bx.lt (h : Bx W k ty g nm t b nx ms gs) : k < W.heap.size := (Array.getElem?_eq_some_iff.1 h).1
theorem Bx.cells (h : Bx W k ty g nm t b nx ms gs) : W.cell? ⟨k, 0, none⟩ = some (.int .i64 g) ∧ W.cell? ⟨k, 1, none⟩ = some (.string nm) ∧ W.cell? ⟨k, 2, none⟩ = some (.int .i64 t) ∧ W.cell? ⟨k, 3, none⟩ = some (.int .i64 b) ∧ W.cell? ⟨k, 4, none⟩ = some (.int .i64 nx) ∧ W.cell? ⟨k, 5, none⟩ = some ms ∧ W.cell? ⟨k, 6, none⟩ = some gs :=
  ⟨cell_of_row W k 0 _ _ _ h, cell_of_row W k 1 _ _ _ h, cell_of_row W k 2 _ _ _ h, cell_of_row W k 3 _ _ _ h, cell_of_row W k 4 _ _ _ h, cell_of_row W k 5 _ _ _ h, cell_of_row W k 6 _ _ _ h⟩
theorem Bx.loose (h : Bx W k ty g nm t b nx ms gs) : W.frozen? ⟨k, 0, none⟩ = false ∧ W.frozen? ⟨k, 1, none⟩ = false ∧ W.frozen? ⟨k, 2, none⟩ = false ∧ W.frozen? ⟨k, 3, none⟩ = false ∧ W.frozen? ⟨k, 4, none⟩ = false ∧ W.frozen? ⟨k, 5, none⟩ = false ∧ W.frozen? ⟨k, 6, none⟩ = false :=
  ⟨frozen_of_row W k 0 _ _ h, frozen_of_row W k 1 _ _ h, frozen_of_row W k 2 _ _ h, frozen_of_row W k 3 _ _ h, frozen_of_row W k 4 _ _ h, frozen_of_row W k 5 _ _ h, frozen_of_row W k 6 _ _ h⟩
theorem Bx.s0 (h : Bx W k ty g nm t b nx ms gs) (x : Int) : Bx (W.setCell ⟨k, 0, none⟩ (.int .i64 x)) k ty x nm t b nx ms gs := heap_setCell_same W k 0 _ _ (.int .i64 x) h
theorem Bx.s1 (h : Bx W k ty g nm t b nx ms gs) (x : ByteArray) : Bx (W.setCell ⟨k, 1, none⟩ (.string x)) k ty g x t b nx ms gs := heap_setCell_same W k 1 _ _ (.string x) h
theorem Bx.s2 (h : Bx W k ty g nm t b nx ms gs) (x : Int) : Bx (W.setCell ⟨k, 2, none⟩ (.int .i64 x)) k ty g nm x b nx ms gs := heap_setCell_same W k 2 _ _ (.int .i64 x) h
theorem Bx.s3 (h : Bx W k ty g nm t b nx ms gs) (x : Int) : Bx (W.setCell ⟨k, 3, none⟩ (.int .i64 x)) k ty g nm t x nx ms gs := heap_setCell_same W k 3 _ _ (.int .i64 x) h
theorem Bx.s4 (h : Bx W k ty g nm t b nx ms gs) (x : Int) : Bx (W.setCell ⟨k, 4, none⟩ (.int .i64 x)) k ty g nm t b x ms gs := heap_setCell_same W k 4 _ _ (.int .i64 x) h
theorem Bx.s5 (h : Bx W k ty g nm t b nx ms gs) (x : Value) : Bx (W.setCell ⟨k, 5, none⟩ x) k ty g nm t b nx x gs := heap_setCell_same W k 5 _ _ x h
theorem Bx.s6 (h : Bx W k ty g nm t b nx ms gs) (x : Value) : Bx (W.setCell ⟨k, 6, none⟩ x) k ty g nm t b nx ms x := heap_setCell_same W k 6 _ _ x h
theorem Bx.grown {r : Option Nat} (h : Bx W k ty g nm t b nx ms gs) (hg : W.grownBy W' r) (hk : some k ≠ r) : Bx W' k ty g nm t b nx ms gs := (hg.block k h.lt hk).trans h
end

/-- Seven stores into one block. -/
def set7 (W : World) (k : Nat) (g : Int) (nm : ByteArray) (t b nx : Int) (ms gs : Value) : World :=
  ((((((W.setCell ⟨k, 0, none⟩ (.int .i64 g)).setCell ⟨k, 1, none⟩ (.string nm)).setCell ⟨k, 2, none⟩ (.int .i64 t)).setCell ⟨k, 3, none⟩ (.int .i64 b)).setCell ⟨k, 4, none⟩ (.int .i64 nx)).setCell ⟨k, 5, none⟩ ms).setCell ⟨k, 6, none⟩ gs
theorem set7_grown (W : World) (k : Nat) (g : Int) (nm : ByteArray) (t b nx : Int) (ms gs : Value) : W.grownBy (set7 W k g nm t b nx ms gs) (some k) := wst (wst (wst (wst (wst (wst (wst (wre _ _) _ _) _ _) _ _) _ _) _ _) _ _) _ _
theorem Bx.set7 {W : World} {k ty : Nat} {g : Int} {nm : ByteArray} {t b nx : Int} {ms gs : Value} (h : Bx W k ty g nm t b nx ms gs) (g' : Int) (nm' : ByteArray) (t' b' nx' : Int) (ms' gs' : Value) : Bx (set7 W k g' nm' t' b' nx' ms' gs') k ty g' nm' t' b' nx' ms' gs' :=
  ((((((h.s0 g').s1 nm').s2 t').s3 b').s4 nx').s5 ms').s6 gs'

theorem OwZ.grown {W W' : World} {B k : Nat} {v : Value} {Z : List Z5} (h : OwZ W B v Z) (hg : W.grownBy W' (some k)) (hk : k < B) : OwZ W' B v Z :=
  h.kept hg.size (fun j hj => hg.block j (h.row.lt j hj).2 (fun e => by have := (h.row.lt j hj).1; simp at e; omega)) (fun z hz j hj => hg.block j ((h.each z hz).lt j hj).2 (fun e => by have := ((h.each z hz).lt j hj).1; simp at e; omega))
theorem OwI.grown {W W' : World} {B k : Nat} {v : Value} {G : List Int} (h : OwI W B v G) (hg : W.grownBy W' (some k)) (hk : k < B) : OwI W' B v G :=
  World.ownsRow.kept h hg (by
    cases hv : v.ownBlock with
    | none => exact Or.inl rfl
    | some j => exact Or.inr (fun e => by have := (h.lt j hv).1; simp at e; omega))

/-- The lists of a box that a call owns: no two rows in one block. -/
def OwB (W : World) (B : Nat) (mv gv : Value) (L : List M4) (G : List Int) : Prop :=
  ∃ Z, Z.map md = L ∧ OwZ W B mv Z ∧ OwI W B gv G ∧ Dj gv mv ∧ ∀ z ∈ Z, Dj gv z.2.2.1
theorem OwB.later {W W' : World} {B : Nat} {mv gv : Value} {L : List M4} {G : List Int} (h : OwB W B mv gv L G) (hb : Below W.heap.size W W') : OwB W' B mv gv L G := by
  obtain ⟨Z, h1, h2, h3, h4⟩ := h
  exact ⟨Z, h1, h2.later hb, own_later h3 hb, h4⟩
theorem OwB.base {W : World} {B B' : Nat} {mv gv : Value} {L : List M4} {G : List Int} (h : OwB W B' mv gv L G) (hB : B ≤ B') : OwB W B mv gv L G := by
  obtain ⟨Z, h1, h2, h3, h4⟩ := h
  exact ⟨Z, h1, h2.base hB, own_base h3 hB, h4⟩
theorem OwB.reads {W : World} {B n c n' c' : Nat} {a a' : Option Addr} {L : List M4} {G : List Int} (h : OwB W B (.slice a n c) (.slice a' n' c') L G) : n = L.length ∧ n' = G.length ∧ Ms B W.heap.size W a L ∧ Is B W.heap.size W a' G := by
  obtain ⟨Z, rfl, h2, h3, _⟩ := h
  exact ⟨by rw [List.length_map]; exact h2.ms.1, (OwI.is h3).1, h2.ms.2, (OwI.is h3).2⟩
/-- Rows of which the later one is made when the former is there. -/
theorem Dj.later {W : World} {B B' e e' size size' n n' : Nat} {v v' : Value} {xs xs' : List Value} {W' : World} (h : W.ownsRow B e size v n xs) (h' : W'.ownsRow B' e' size' v' n' xs') (hB : W.heap.size ≤ B') : Dj v' v :=
  fun j hj hj' => by have h1 := (h.lt j hj').2; have h2 := (h'.lt j hj).1; omega

theorem three_boxes (w : World) (ta tb tc : Nat) (g g1 g2 : Int) (nm nm1 nm2 : ByteArray) (t b nx t1 b1 nx1 t2 b2 nx2 : Int) (ms gs ms1 gs1 ms2 gs2 : Value) (W0 : World)
    (h : (((w.alloc (.cells #[.int .i64 g, .string nm, .int .i64 t, .int .i64 b, .int .i64 nx, ms, gs] ta)).alloc (.cells #[.int .i64 g1, .string nm1, .int .i64 t1, .int .i64 b1, .int .i64 nx1, ms1, gs1] tb)).alloc (.cells #[.int .i64 g2, .string nm2, .int .i64 t2, .int .i64 b2, .int .i64 nx2, ms2, gs2] tc)) = W0) :
    Bx W0 w.heap.size ta g nm t b nx ms gs ∧ Bx W0 (w.heap.size + 1) tb g1 nm1 t1 b1 nx1 ms1 gs1 ∧ Bx W0 (w.heap.size + 1 + 1) tc g2 nm2 t2 b2 nx2 ms2 gs2 ∧ Below w.heap.size w W0 ∧ W0.heap.size = w.heap.size + 1 + 1 + 1 := by
  subst h
  refine ⟨(Bx.new w ta g nm t b nx ms gs).later (bpush (bpush (bre _) _) _), Bx.later ?_ (bpush (bre _) _), ?_, bpush (bpush (bpush (bre _) _) _) _, by simp⟩
  · simpa using Bx.new (w.alloc (.cells #[.int .i64 g, .string nm, .int .i64 t, .int .i64 b, .int .i64 nx, ms, gs] ta)) tb g1 nm1 t1 b1 nx1 ms1 gs1
  · simpa using Bx.new ((w.alloc (.cells #[.int .i64 g, .string nm, .int .i64 t, .int .i64 b, .int .i64 nx, ms, gs] ta)).alloc (.cells #[.int .i64 g1, .string nm1, .int .i64 t1, .int .i64 b1, .int .i64 nx1, ms1, gs1] tb)) tc g2 nm2 t2 b2 nx2 ms2 gs2

set_option maxHeartbeats 1600000 in
set_option maxRecDepth 100000 in
theorem toBox_any (lo hi lo' hi' : Nat) (g : Int) (nm : ByteArray) (t b nx : Int) (ma : Option Addr) (mn mc : Nat) (ga : Option Addr) (gn gc : Nat) (L : List M4) (G : List Int) (w : World) (hl : L.length = mn) (hn : mn ≤ 1048576) (hsm : Sm L) (hm : Ms lo hi w ma L) (hg : G.length = gn) (hgn : gn ≤ 1048576) (hs : Is lo' hi' w ga G) :
    Calls Try.prog 14 #[.agg #[.int .i64 g, .string nm, .int .i64 t, .int .i64 b, .int .i64 nx, .slice ma mn mc, .slice ga gn gc]] w fun e w' => ∃ km kg, e = .returned (.agg #[.int .i64 g, .string nm, .int .i64 t, .int .i64 b, .int .i64 nx, .slice (some ⟨km, 0, none⟩) mn mn, .slice (some ⟨kg, 0, none⟩) gn gn]) ∧
      OwB w' w.heap.size (.slice (some ⟨km, 0, none⟩) mn mn) (.slice (some ⟨kg, 0, none⟩) gn gn) L G ∧ Below w.heap.size w w' := by
  obtain ⟨W0, hW0⟩ : ∃ W0, (((w.alloc (.cells #[.int .i64 g, .string nm, .int .i64 t, .int .i64 b, .int .i64 nx, .slice ma mn mc, .slice ga gn gc] 31)).alloc (.cells #[.int .i64 0, .string ⟨#[]⟩, .int .i64 0, .int .i64 0, .int .i64 0, .slice none 0 0, .slice none 0 0] 37)).alloc (.cells #[.int .i64 0, .string ⟨#[]⟩, .int .i64 0, .int .i64 0, .int .i64 0, .slice none 0 0, .slice none 0 0] 37)) = W0 := ⟨_, rfl⟩
  obtain ⟨a0, a1, a2, b0, s0⟩ := three_boxes w _ _ _ _ _ _ _ _ _ _ _ _ _ _ _ _ _ _ _ _ _ _ _ _ W0 hW0
  have A0 := hid a0
  have A1 := hid a1
  have A2 := hid a2
  have B0 := hid b0
  have S0 := hid s0
  have HM := hid hm
  have HS := hid hs
  have c0 := a0.cells
  have c2 := a2.cells
  have f2 := a2.loose
  clear a0 a1 a2 b0 s0 hm hs
  go_enter Try.func14, Try.ntmps14
  go_wp2_with fail
  clear hW0
  obtain ⟨W1, hW1⟩ : ∃ W1, (W0.setCell ⟨w.heap.size + 1 + 1, 0, none⟩ (.int .i64 g)).setCell ⟨w.heap.size + 1 + 1, 1, none⟩ (.string nm) = W1 := ⟨_, rfl⟩
  rw [hW1]
  have G1 : W0.grownBy W1 (some (w.heap.size + 1 + 1)) := by subst hW1; exact wst (wst (wre _ _) _ _) _ _
  have k2 := (A2.out.s0 g).s1 nm
  rw [hW1] at k2
  have k0 := A0.out.grown G1 (fun e => by simp only [Option.some.injEq] at e; omega)
  have k1 := A1.out.grown G1 (fun e => by simp only [Option.some.injEq] at e; omega)
  have b1 : Below w.heap.size w W1 := B0.out.trans (below_of_grown G1 (by omega) (by have := S0.out; omega))
  have s1 : W1.heap.size = w.heap.size + 1 + 1 + 1 := by subst hW1; simpa [World.setCell] using S0.out
  have K0 := hid k0
  have K1 := hid k1
  have K2 := hid k2
  have B1 := hid b1
  have S1 := hid s1
  clear hW1 c0 c2 f2 k0 k1 k2 b1 s1 G1 A0 A1 A2 B0 S0
  refine (toStamp_b t b _).mono ?_; rintro e w1 ⟨rfl, hb1⟩
  have k0 := K0.out.later hb1
  have k1 := K1.out.later hb1
  have k2 := K2.out.later hb1
  have c0 := k0.cells
  have c2 := k2.cells
  have f2 := k2.loose
  have A0 := hid k0
  have A1 := hid k1
  have A2 := hid k2
  have B0 := hid (btr B1.out hb1)
  have S0 := hid (show w.heap.size + 1 + 1 + 1 ≤ w1.heap.size by have h1 := S1.out; have h2 := hb1.size; omega)
  clear k0 k1 k2 hb1 K0 K1 K2 B1 S1
  go_wp2_with fail
  obtain ⟨W2, hW2⟩ : ∃ W2, ((w1.setCell ⟨w.heap.size + 1 + 1, 2, none⟩ (.int .i64 t)).setCell ⟨w.heap.size + 1 + 1, 3, none⟩ (.int .i64 b)).setCell ⟨w.heap.size + 1 + 1, 4, none⟩ (.int .i64 nx) = W2 := ⟨_, rfl⟩
  rw [hW2]
  have G1 : w1.grownBy W2 (some (w.heap.size + 1 + 1)) := by subst hW2; exact wst (wst (wst (wre _ _) _ _) _ _) _ _
  have k2 := ((A2.out.s2 t).s3 b).s4 nx
  rw [hW2] at k2
  have k0 := A0.out.grown G1 (fun e => by simp only [Option.some.injEq] at e; omega)
  have k1 := A1.out.grown G1 (fun e => by simp only [Option.some.injEq] at e; omega)
  have b1 : Below w.heap.size w W2 := B0.out.trans (below_of_grown G1 (by omega) (by have := S0.out; omega))
  have s1 : w.heap.size + 1 + 1 + 1 ≤ W2.heap.size := Nat.le_trans S0.out G1.size
  have K0 := hid k0
  have K1 := hid k1
  have K2 := hid k2
  have B1 := hid b1
  have S1 := hid s1
  clear hW2 c0 c2 f2 k0 k1 k2 b1 s1 G1 A0 A1 A2 B0 S0
  refine (toMailS_any lo hi ma mn mc L W2 hl hn hsm (HM.out.later B1.out)).mono ?_; rintro e w2 ⟨rfl, ⟨Z, hZ, hown⟩, hb2⟩
  have k0 := K0.out.later hb2
  have k1 := K1.out.later hb2
  have k2 := K2.out.later hb2
  have c0 := k0.cells
  have c2 := k2.cells
  have f2 := k2.loose
  have A0 := hid k0
  have A1 := hid k1
  have A2 := hid k2
  have B0 := hid (btr B1.out hb2)
  have HO := hid hown
  have HZ := hid hZ
  have S0 := hid (show w.heap.size + 1 + 1 + 1 ≤ w2.heap.size from Nat.le_trans S1.out hb2.size)
  obtain ⟨km, hkm⟩ : ∃ km, W2.heap.size = km := ⟨_, rfl⟩
  rw [hkm] at HO ⊢
  have HKM : Hid (w.heap.size + 1 + 1 + 1 ≤ km) := by show _ ≤ _; rw [← hkm]; exact S1.out
  clear k0 k1 k2 hb2 K0 K1 K2 B1 S1 hZ hown hkm
  go_wp2_with fail
  obtain ⟨W3, hW3⟩ : ∃ W3, w2.setCell ⟨w.heap.size + 1 + 1, 5, none⟩ (.slice (some ⟨km, 0, none⟩) mn mn) = W3 := ⟨_, rfl⟩
  rw [hW3]
  have G1 : w2.grownBy W3 (some (w.heap.size + 1 + 1)) := by subst hW3; exact wst (wre _ _) _ _
  have k2 := A2.out.s5 (.slice (some ⟨km, 0, none⟩) mn mn)
  rw [hW3] at k2
  have k0 := A0.out.grown G1 (fun e => by simp only [Option.some.injEq] at e; omega)
  have k1 := A1.out.grown G1 (fun e => by simp only [Option.some.injEq] at e; omega)
  have o1 := HO.out.grown G1 (by have := HKM.out; omega)
  have b1 : Below w.heap.size w W3 := B0.out.trans (below_of_grown G1 (by omega) (by have := S0.out; omega))
  have s1 : w.heap.size + 1 + 1 + 1 ≤ W3.heap.size := Nat.le_trans S0.out G1.size
  have K0 := hid k0
  have K1 := hid k1
  have K2 := hid k2
  have B1 := hid b1
  have S1 := hid s1
  have O1 := hid o1
  clear hW3 c0 c2 f2 k0 k1 k2 b1 s1 o1 G1 A0 A1 A2 B0 S0 HO
  refine (toIntS_any lo' hi' ga gn gc G W3 hg hgn (HS.out.later B1.out)).mono ?_; rintro e w3 ⟨rfl, hown, hb3⟩
  have k1 := K1.out.later hb3
  have k2 := K2.out.later hb3
  have c2 := k2.cells
  have f2 := k2.loose
  have c1 := k1.cells
  have f1 := k1.loose
  have A1 := hid k1
  have A2 := hid k2
  have B0 := hid (btr B1.out hb3)
  have HO := hid (O1.out.later hb3)
  have HI := hid hown
  have HD := hid (Dj.later O1.out.row hown (Nat.le_refl _))
  have HE := hid (fun z hz => Dj.later (O1.out.each z hz) hown (Nat.le_refl _))
  obtain ⟨kg, hkg⟩ : ∃ kg, W3.heap.size = kg := ⟨_, rfl⟩
  rw [hkg] at HI HD HE ⊢
  have HKG : Hid (w.heap.size + 1 + 1 + 1 ≤ kg) := by show _ ≤ _; rw [← hkg]; exact S1.out
  clear k1 k2 hb3 K0 K1 K2 B1 S1 hown O1 hkg
  go_wp2
  have k2 := A2.out.s6 (.slice (some ⟨kg, 0, none⟩) gn gn)
  have e1 : w3.grownBy (w3.setCell ⟨w.heap.size + 1 + 1, 6, none⟩ (.slice (some ⟨kg, 0, none⟩) gn gn)) (some (w.heap.size + 1 + 1)) := wst (wre _ _) _ _
  have k1 := A1.out.grown e1 (fun e => by simp only [Option.some.injEq] at e; omega)
  have e2 := set7_grown (w3.setCell ⟨w.heap.size + 1 + 1, 6, none⟩ (.slice (some ⟨kg, 0, none⟩) gn gn)) (w.heap.size + 1) g nm t b nx (.slice (some ⟨km, 0, none⟩) mn mn) (.slice (some ⟨kg, 0, none⟩) gn gn)
  have d1 := (k1.set7 g nm t b nx (.slice (some ⟨km, 0, none⟩) mn mn) (.slice (some ⟨kg, 0, none⟩) gn gn)).cells
  unfold set7 at d1 e2
  refine bodyPost_ret (v := .agg #[.int .i64 g, .string nm, .int .i64 t, .int .i64 b, .int .i64 nx, .slice (some ⟨km, 0, none⟩) mn mn, .slice (some ⟨kg, 0, none⟩) gn gn]) (by simp [results, Try.results14, go_sem, d1]) rfl ⟨km, kg, rfl, ⟨Z, HZ.out, ?_, ?_, HD.out, HE.out⟩, ?_⟩
  · have h1 := HKM.out
    exact ((HO.out.grown e1 (by omega)).grown e2 (by omega)).base (by omega)
  · have h1 := HKG.out
    exact own_base (OwI.grown (OwI.grown HI.out e1 (by omega)) e2 (by omega)) (by omega)
  · have h1 := B0.out.size
    have h2 := e1.size
    exact B0.out.trans ((below_of_grown e1 (by omega) (by omega)).trans (below_of_grown e2 (by omega) (by omega)))
end Go.Proofs.Ytegdejhgamkkbaa
