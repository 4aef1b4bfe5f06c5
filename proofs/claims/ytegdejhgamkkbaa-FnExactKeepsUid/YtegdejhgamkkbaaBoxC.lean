/- Where a mail is: the program's own. -/
import Derived.Test.YtegdejhgamkkbaaBoxA
namespace Go.Proofs.Ytegdejhgamkkbaa
open Go.RowKit

theorem hasGid_any (y u : Int) (f : Value) (t : ByteArray) (x : Int) (kb : Nat) (w : World) (hkb : kb < w.heap.size) (hc : w.cell? ⟨kb, 0, none⟩ = some (.int .i64 x)) :
    Calls Try.prog 40 #[.agg #[.int .i64 y, .int .i64 u, f, .string t], .pointer (some ⟨kb, 0, none⟩)] w fun e w' => e = .returned (.bool (y == x)) ∧ Below w.heap.size w w' := by
  have A0 := (Mg.new w 57 y u f t).cells
  have c1 := ((bpush (bre w) (.cells #[.int .i64 y, .int .i64 u, f, .string t] 57)).cell (p := ⟨kb, 0, none⟩) hkb).trans hc
  clear hc
  go_enter Try.func40, Try.ntmps40
  go_wp2
  go_ret
  exact ⟨rfl, bpush (bre _) _⟩

set_option maxHeartbeats 800000 in
set_option maxRecDepth 100000 in
theorem indexFunc_any (lo hi : Nat) (ma : Option Addr) (mn mc : Nat) (L : List M4) (x : Int) (kb : Nat) (w : World) (hl : L.length = mn) (hn : mn ≤ 1048576) (hm : Ms lo hi w ma L) (hkb : kb < w.heap.size) (hc : w.cell? ⟨kb, 0, none⟩ = some (.int .i64 x)) :
    Calls Try.prog 39 #[.slice ma mn mc, .func (.func 40) #[] #[.pointer (some ⟨kb, 0, none⟩)]] w fun e w' => e = .returned (.int .i64 (mat x L 0)) ∧ Below w.heap.size w w' := by
  have HR := hid hm
  have HL := hid hl
  have HC := hid hc
  have HK := hid hkb
  clear hm hl hc hkb
  go_enter Try.func39, Try.ntmps39
  go_wp2
  go_loopw [8] (fun iv wr => ∃ (i : Nat), i ≤ mn ∧ iv = .int .i64 (i : Int) ∧ Hid (mat x L 0 = mat x (L.drop i) i) ∧ Below w.heap.size w wr) (fun iv _ => mn - (intOf iv).toNat)
  case atStart => exact ⟨0, Nat.zero_le _, rfl, rfl, bre _⟩
  case round =>
    obtain ⟨i, hi, rfl, HQ, hb⟩ := hrel
    by_cases hlt : i < mn
    · have hil : i < L.length := by rw [HL.out]; exact hlt
      obtain ⟨k, o, fa, fc, rfl, hk, ⟨c0, c1, c2, c3⟩, _⟩ := (HR.out.later hb).at hil
      obtain ⟨p, hp⟩ : ∃ p, L[i] = p := ⟨_, rfl⟩
      rw [hp] at c0 c1 c2 c3
      obtain ⟨y, u, l, t⟩ := p
      dsimp only at c0 c1 c2 c3
      have HP := hid hp
      have HB := hid hb
      have hI : (0 : Int) ≤ (i : Int) ∧ (i : Int) < (mn : Int) := by omega
      clear hp hb
      go_wp2_with fail
      refine (hasGid_any y u _ t x kb _ (Nat.lt_of_lt_of_le HK.out HB.out.size) ((HB.out.cell (p := ⟨kb, 0, none⟩) HK.out).trans HC.out)).mono ?_; rintro e w1 ⟨rfl, hb1⟩
      have HB1 := hid (btr HB.out hb1)
      clear hb1 c0 c1 c2 c3
      by_cases hxy : y = x
      · have HE : Hid (mat x L 0 = i) := by show _ = _; rw [HQ.out, mat_here hil (by rw [HP.out]; exact hxy)]
        subst hxy
        have e1 : (y == y) = true := by simp
        rw [e1]
        go_wp2
        go_ret
        exact ⟨by rw [HE.out]; rfl, HB1.out⟩
      · have HE : Hid (mat x L 0 = mat x (L.drop (i + 1)) (i + 1)) := by show _ = _; rw [HQ.out, mat_on hil (by rw [HP.out]; exact hxy)]
        have hxy' : (y == x) = false := by simp [hxy]
        rw [hxy']
        clear hxy' hxy
        go_wp2
        go_roundw
        case rel => exact ⟨i + 1, by omega, by go_num, HE, HB1.out⟩
        case measure => simp [intOf]; omega
    · have HE : Hid (mat x L 0 = -1) := by show _ = _; rw [HQ.out, List.drop_of_length_le (by rw [HL.out]; omega)]; rfl
      go_wp2
      go_ret
      exact ⟨by rw [HE.out]; rfl, hb⟩

set_option maxRecDepth 100000 in
theorem implMailAt_any (lo hi : Nat) (g : Int) (nm : ByteArray) (t b nx : Int) (ma : Option Addr) (mn mc : Nat) (gv : Value) (L : List M4) (x : Int) (w : World) (hl : L.length = mn) (hn : mn ≤ 1048576) (hm : Ms lo hi w ma L) :
    Calls Try.prog 30 #[.agg #[.int .i64 g, .string nm, .int .i64 t, .int .i64 b, .int .i64 nx, .slice ma mn mc, gv], .int .i64 x] w fun e w' => e = .returned (.int .i64 (mat x L 0)) ∧ Below w.heap.size w w' := by
  obtain ⟨W0, hW0⟩ : ∃ W0, (w.alloc (.cells #[.int .i64 g, .string nm, .int .i64 t, .int .i64 b, .int .i64 nx, .slice ma mn mc, gv] 37)).alloc (.cells #[.int .i64 x] 3) = W0 := ⟨_, rfl⟩
  have a0 : Bx W0 w.heap.size 37 g nm t b nx (.slice ma mn mc) gv := by subst hW0; exact (Bx.new w _ g nm t b nx _ _).later (bpush (bre _) _)
  have b0 : Below w.heap.size w W0 := by subst hW0; exact bpush (bpush (bre _) _) _
  have hx : W0.cell? ⟨w.heap.size + 1, 0, none⟩ = some (.int .i64 x) := by
    subst hW0
    have h := heap_alloc_new (w.alloc (.cells #[.int .i64 g, .string nm, .int .i64 t, .int .i64 b, .int .i64 nx, .slice ma mn mc, gv] 37)) (.cells #[.int .i64 x] 3)
    rw [show (w.alloc (.cells #[.int .i64 g, .string nm, .int .i64 t, .int .i64 b, .int .i64 nx, .slice ma mn mc, gv] 37)).heap.size = w.heap.size + 1 by simp] at h
    exact cell_of_row _ _ 0 _ _ _ h
  have hs : W0.heap.size = w.heap.size + 1 + 1 := by subst hW0; simp
  have c0 := a0.cells
  have HR := hid (hm.later b0)
  have B0 := hid b0
  have HX := hid hx
  have HS := hid hs
  clear a0 b0 hm hx hs
  go_enter Try.func30, Try.ntmps30
  go_wp2_with fail
  clear hW0 c0
  refine (indexFunc_any lo hi ma mn mc L x (w.heap.size + 1) _ hl hn HR.out (by have := HS.out; omega) HX.out).mono ?_; rintro e w1 ⟨rfl, hb1⟩
  have B1 := hid (btr B0.out hb1)
  clear hb1
  obtain ⟨q, hq⟩ : ∃ q, mat x L 0 = q := ⟨_, rfl⟩
  rw [hq]
  have HQ := hid hq
  clear hq
  go_wp2
  go_ret
  exact ⟨by rw [HQ.out]; rfl, B1.out⟩
end Go.Proofs.Ytegdejhgamkkbaa
