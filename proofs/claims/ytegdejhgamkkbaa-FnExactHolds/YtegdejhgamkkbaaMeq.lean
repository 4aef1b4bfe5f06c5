/- Lists of mails and of numbers held against each other. -/
import Derived.Test.YtegdejhgamkkbaaOpenB
import Derived.Test.YtegdejhgamkkbaaMto
namespace Go.Proofs.Ytegdejhgamkkbaa
open Go.RowKit

/-- The four cells of a mail. -/
def C4 (W : World) (k o : Nat) (g u : Int) (f : Value) (t : ByteArray) : Prop := W.cell? ⟨k, o, none⟩ = some (.int .i64 g) ∧ W.cell? ⟨k, o + 1, none⟩ = some (.int .i64 u) ∧ W.cell? ⟨k, o + 2, none⟩ = some f ∧ W.cell? ⟨k, o + 3, none⟩ = some (.string t)
theorem C4.later {W W' : World} {k o : Nat} {g u : Int} {f : Value} {t : ByteArray} (h : C4 W k o g u f t) (hk : k < W.heap.size) (hb : Below W.heap.size W W') : C4 W' k o g u f t :=
  ⟨(hb.cell (p := ⟨k, _, none⟩) hk).trans h.1, (hb.cell (p := ⟨k, _, none⟩) hk).trans h.2.1, (hb.cell (p := ⟨k, _, none⟩) hk).trans h.2.2.1, (hb.cell (p := ⟨k, _, none⟩) hk).trans h.2.2.2⟩

set_option maxHeartbeats 800000 in
set_option maxRecDepth 100000 in
/-- Two rows of the same mails are told alike. -/
theorem eqMailS_any (l1 h1 l2 h2 : Nat) (ao bo : Option Addr) (n ca cb : Nat) (L : List M4) (w : World) (hl : L.length = n) (hn : n ≤ 1048576) (hsm : Sm L) (ha : Ms l1 h1 w ao L) (hb : Ms l2 h2 w bo L) :
    Calls Try.prog 32 #[.slice ao n ca, .slice bo n cb] w fun e w' => e = .returned (.bool true) ∧ Below w.heap.size w w' := by
  have hnn : ((n : Int) != (n : Int)) = false := by simp
  have HA := hid ha
  have HB := hid hb
  have HL := hid hl
  have HS := hid hsm
  clear ha hb hl hsm
  go_enter Try.func32, Try.ntmps32
  go_wp2
  clear hnn
  go_loopw [5] (fun iv wr => ∃ i : Nat, i ≤ n ∧ iv = .int .i64 (i : Int) ∧ Below w.heap.size w wr) (fun iv _ => n - (intOf iv).toNat)
  case atStart => exact ⟨0, Nat.zero_le _, rfl, bre _⟩
  case round =>
    obtain ⟨i, hi, rfl, hb⟩ := hrel
    have HBE := hid hb
    clear hb
    by_cases hlt : i < n
    · have hil : i < L.length := by rw [HL.out]; exact hlt
      obtain ⟨k, o, fa, fc, rfl, hk, c, hr1, _⟩ := (HA.out.later HBE.out).at hil
      obtain ⟨k', o', fa', fc', rfl, hk', d, hr2, _⟩ := (HB.out.later HBE.out).at hil
      have hmem := HS.out L[i] (List.getElem_mem hil)
      obtain ⟨p, hp⟩ : ∃ p, L[i] = p := ⟨_, rfl⟩
      rw [hp] at c d hr1 hr2 hmem
      obtain ⟨g, u, l, t⟩ := p
      dsimp only at c d hr1 hr2 hmem
      obtain ⟨m, hm⟩ : ∃ m, l.length = m := ⟨_, rfl⟩
      rw [hm] at c d
      have HM := hid hm
      have HMM := hid hmem
      have HR1 := hid hr1
      have HR2 := hid hr2
      clear hp hm hmem hr1 hr2
      have hI : (0 : Int) ≤ (i : Int) ∧ (i : Int) < (n : Int) := by omega
      have HS : Hid (∀ W, Below wr.heap.size wr W → (W.cell? ⟨k, o + i * 4, none⟩ = some (.int .i64 g) ∧ W.cell? ⟨k, o + i * 4 + 1, none⟩ = some (.int .i64 u) ∧ W.cell? ⟨k, o + i * 4 + 2, none⟩ = some (.slice fa m fc) ∧ W.cell? ⟨k, o + i * 4 + 3, none⟩ = some (.string t)) ∧ (W.cell? ⟨k', o' + i * 4, none⟩ = some (.int .i64 g) ∧ W.cell? ⟨k', o' + i * 4 + 1, none⟩ = some (.int .i64 u) ∧ W.cell? ⟨k', o' + i * 4 + 2, none⟩ = some (.slice fa' m fc') ∧ W.cell? ⟨k', o' + i * 4 + 3, none⟩ = some (.string t))) :=
        fun W h => ⟨C4.later c hk h, C4.later d hk' h⟩
      clear c d
      go_wp2_with fail
      go_region_held3 (fun W => (W.cell? ⟨k, o + i * 4, none⟩ = some (.int .i64 g) ∧ W.cell? ⟨k, o + i * 4 + 1, none⟩ = some (.int .i64 u) ∧ W.cell? ⟨k, o + i * 4 + 2, none⟩ = some (.slice fa m fc) ∧ W.cell? ⟨k, o + i * 4 + 3, none⟩ = some (.string t)) ∧ (W.cell? ⟨k', o' + i * 4, none⟩ = some (.int .i64 g) ∧ W.cell? ⟨k', o' + i * 4 + 1, none⟩ = some (.int .i64 u) ∧ W.cell? ⟨k', o' + i * 4 + 2, none⟩ = some (.slice fa' m fc') ∧ W.cell? ⟨k', o' + i * 4 + 3, none⟩ = some (.string t)))
        ((refine HS.out _ ?_; repeat (first | exact bdr (bre _) | refine btr ?_ (by assumption))))
        ((go_at_call 41; refine (eqMail_same g u fa fa' m fc fc' l t _ HM.out (by rw [← HM.out]; exact HMM.out.1) (HR1.out.later (by repeat (first | exact bdr (bre _) | exact bre _ | refine btr ?_ (by assumption)))) (HR2.out.later (by repeat (first | exact bdr (bre _) | exact bre _ | refine btr ?_ (by assumption))))).mono ?_; rintro e w1 ⟨rfl, hb1⟩))
      have HB1 : Hid (Below w.heap.size w w1) := by show Below _ _ _; refine btr HBE.out ?_; repeat (first | exact bdr (bre _) | refine btr ?_ (by assumption))
      go_wp2
      go_roundw
      case rel => exact ⟨i + 1, by omega, by go_num, HB1.out⟩
      case measure => simp [intOf]; omega
    · go_wp2
      go_ret
      exact ⟨rfl, HBE.out⟩

set_option maxHeartbeats 800000 in
set_option maxRecDepth 100000 in
/-- Two rows of the same numbers are told alike. -/
theorem eqIntS_any (l1 h1 l2 h2 : Nat) (ao bo : Option Addr) (n ca cb : Nat) (G : List Int) (w : World) (hl : G.length = n) (hn : n ≤ 1048576) (ha : Is l1 h1 w ao G) (hb : Is l2 h2 w bo G) :
    Calls Try.prog 9 #[.slice ao n ca, .slice bo n cb] w fun e w' => e = .returned (.bool true) ∧ Below w.heap.size w w' := by
  have hnn : ((n : Int) != (n : Int)) = false := by simp
  have HA := hid ha
  have HB := hid hb
  have HL := hid hl
  clear ha hb hl
  go_enter Try.func9, Try.ntmps9
  go_wp2
  clear hnn
  go_loopw [5] (fun iv wr => ∃ i : Nat, i ≤ n ∧ iv = .int .i64 (i : Int) ∧ Below w.heap.size w wr) (fun iv _ => n - (intOf iv).toNat)
  case atStart => exact ⟨0, Nat.zero_le _, rfl, bre _⟩
  case round =>
    obtain ⟨i, hi, rfl, hb⟩ := hrel
    have HBE := hid hb
    clear hb
    by_cases hlt : i < n
    · have hil : i < G.length := by rw [HL.out]; exact hlt
      obtain ⟨k, o, rfl, hk, c⟩ := (HA.out.later HBE.out).at hil
      obtain ⟨k', o', rfl, hk', d⟩ := (HB.out.later HBE.out).at hil
      obtain ⟨x, hx⟩ : ∃ x, G[i] = x := ⟨_, rfl⟩
      rw [hx] at c d
      clear hx
      have hI : (0 : Int) ≤ (i : Int) ∧ (i : Int) < (n : Int) := by omega
      have hxx : (x != x) = false := by simp
      go_wp2_with fail
      go_quiet (fail)
      go_wp2
      go_roundw
      case rel => exact ⟨i + 1, by omega, by go_num, bdn HBE.out _⟩
      case measure => simp [intOf]; omega
    · go_wp2
      go_ret
      exact ⟨rfl, HBE.out⟩
end Go.Proofs.Ytegdejhgamkkbaa
