/- What is drawn for flags that are set. -/
import Derived.Test.YtdpabaebbdhmmaaFdrawB
namespace Go.Proofs.Ytdpabaebbdhmmaa
open Go.RowKit

set_option maxHeartbeats 1600000 in
set_option maxRecDepth 100000 in
theorem drawSet_any (ao : Option Addr) (n cap : Nat) (w : World) (hn : n ≤ 1048576) (hcode : Code w w.heap.size ao n) :
    Calls Try.prog 22 #[.slice ao n cap] w fun e w' => ∃ (v : Value) (l : List R3) (m t b : Int), e = .returned (.tuple #[v, .int .i64 m, .agg #[.int .i64 t, .int .i64 b]]) ∧ Dl w' 0 v l ∧ Below w.heap.size w w' := by
  obtain ⟨W0, hW0⟩ : ∃ W0, w.alloc (.cells #[.int .i64 0, .int .i64 0] 25) = W0 := ⟨_, rfl⟩
  have A0 : Hid (Sg W0 w.heap.size 25 0 0) := by subst hW0; exact Sg.new w _ 0 0
  have B0 : Hid (Below w.heap.size w W0) := by subst hW0; exact bpush (bre _) _
  have S0 : w.heap.size < W0.heap.size := by subst hW0; simp
  have HO := hid (hcode.over B0.out)
  clear hcode
  go_enter Try.func22, Try.ntmps22
  go_wp2_with fail
  clear hW0
  refine (new_any ao n cap _ hn HO.out).mono ?_; rintro e w1 ⟨rfl, hc1, ho1, hb1⟩
  have C1 := hid hc1
  have O1 := hid ho1
  have B1 := hid hb1
  have hs1 := hc1.lt
  clear hc1 ho1 hb1
  go_wp2_with fail
  refine (below4 _ ao n cap _ hn C1.out O1.out 10 (by decide) (by decide)).mono ?_; rintro e w2 ⟨x, hx, rfl, hc2, hg2⟩
  have C2 := hid hc2
  have G2 := hid hg2
  have hs2 := hg2.size
  clear hc2 hg2
  go_wp2_with fail
  refine (l03Any_any _ ao n cap _ hn C2.out (O1.out.later G2.out)).mono ?_; rintro e w3 ⟨t, b, rfl, hc3, hg3⟩
  have hs3 := hg3.size
  obtain ⟨W4, hW4⟩ : ∃ W4, w3.alloc (.cells #[.int .i64 t, .int .i64 b] 25) = W4 := ⟨_, rfl⟩
  have A4 : Hid (Sg W4 w3.heap.size 25 t b) := by subst hW4; exact Sg.new w3 _ t b
  have C4 : Hid (Cur W4 W0.heap.size ao n cap) := by subst hW4; exact hc3.alloc _
  have G4 : Hid (w1.grownBy W4 (some W0.heap.size)) := by subst hW4; exact gal (only_trans G2.out hg3) _
  have Z4 : Hid (Sg W4 w.heap.size 25 0 0) := (A0.out.later B1.out).kept G4.out (by omega)
  have S4 : w3.heap.size < W4.heap.size := A4.out.lt
  have N1 : Hid (w3.heap.size ≠ W0.heap.size) := by show _ ≠ _; omega
  have N2 : Hid (w3.heap.size ≠ w.heap.size) := by show _ ≠ _; omega
  have N3 : Hid (w.heap.size ≠ W0.heap.size) := by show _ ≠ _; omega
  clear hc3 hg3
  go_wp2_with fail
  clear hW4
  go_region_held3 (fun W => W.cell? ⟨w3.heap.size, 0, none⟩ = some (.int .i64 t) ∧ W.cell? ⟨w3.heap.size, 1, none⟩ = some (.int .i64 b))
    (first | exact A4.out.cells | exact SG5.out.cells | exact ((SG5.out.other N2.out).other N2.out).cells)
    ((go_at_call 49; refine (l04Any_any _ ao n cap _ hn C4.out.drew (O1.out.later (gdr G4.out))).mono ?_; rintro e w5 ⟨v, l, rfl, hd5, _, hg5⟩; have D5 := hid hd5; have SG5 : Hid (Sg w5 w3.heap.size 25 t b) := Sg.kept (W := W4.drew) A4.out hg5 N1.out; have Z5 : Hid (Sg w5 w.heap.size 25 0 0) := Sg.kept (W := W4.drew) Z4.out hg5 N3.out; have G5 := hid (only_trans (gdr G4.out) hg5); have d5 := Z5.out.cells; have f5 := Z5.out.loose; clear hd5 hg5))
  go_wp2_with fail
  have c6 := (Z5.out.set' (t' := t) (b' := b)).cells
  obtain ⟨a', c', h1, h2, h3, h4, h5, h6⟩ := ((D5.out.set (k := w.heap.size) (o := 0) (u := .int .i64 t) (by show w.heap.size < W4.heap.size; omega)).set (k := w.heap.size) (o := 1) (u := .int .i64 b) (by show w.heap.size < W4.heap.size; omega))
  exact bodyPost_ret (v := .tuple #[v, .int .i64 ((x : Int) - 1), .agg #[.int .i64 t, .int .i64 b]]) (by simp [results, Try.results22, go_sem, c6]) rfl ⟨v, l, _, t, b, rfl, ⟨a', c', h1, h2, h3, h4, h5, fun _ _ => Nat.zero_le _⟩, bset (bset (btr B0.out (B1.out.trans (only_below G5.out (Nat.le_refl _) B1.out.size))) (Nat.le_refl _) _) (Nat.le_refl _) _⟩
end Go.Proofs.Ytdpabaebbdhmmaa
