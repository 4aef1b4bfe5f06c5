/- Drawn mails, and pairs of them. -/
import Derived.Test.YtldcmfkmnjdfiaaMailTrip
namespace Go.Proofs.Ytldcmfkmnjdfiaa
open Go.RowKit

theorem Cur.below {w w' : World} {B cb n cap : Nat} {ao : Option Addr} (h : Cur w cb ao n cap) (hb : Below B w w') (hB : cb < B) : Cur w' cb ao n cap := by
  obtain ⟨i, x, h1, h2⟩ := h
  exact ⟨i, x, h1, (hb.block cb hB).trans h2⟩

set_option maxHeartbeats 800000 in
set_option maxRecDepth 100000 in
theorem drawMailText_any (ao : Option Addr) (n cap : Nat) (w : World) (hn : n ≤ 1048576) (hcode : Code w w.heap.size ao n) :
    Calls Try.prog 6 #[.slice ao n cap] w fun e w' => ∃ (g u : Int) (f : Value) (l : List R3) (t : ByteArray), e = .returned (.agg #[.int .i64 g, .int .i64 u, f, .string t]) ∧ Dl w' 0 f l ∧ t.size ≤ 100 ∧ Below w.heap.size w w' := by
  have N0 := hid (bpush (bre w) (.cells #[.int .i64 0, .int .i64 0, .slice none 0 0, .string ⟨#[]⟩] 26))
  have M0 := hid (Mg.new w 26 0 0 (.slice none 0 0) ⟨#[]⟩)
  have O0 := hid (hcode.over N0.out)
  clear hcode
  go_enter Try.func6, Try.ntmps6
  go_wp2_with fail
  refine (new_any ao n cap _ hn O0.out).mono ?_; rintro e w1 ⟨rfl, hc, ho, hb⟩
  have e1 : (w.alloc (.cells #[.int .i64 0, .int .i64 0, .slice none 0 0, .string ⟨#[]⟩] 26)).heap.size = w.heap.size + 1 := by simp
  rw [e1] at hc ho ⊢
  have C1 := hid hc
  have O1 := hid ho
  have M1 := hid (M0.out.later hb)
  have B1 := hid (btr N0.out hb)
  have L1 : Hid (w.heap.size < w1.heap.size) := M1.out.lt
  clear hc ho hb M0 O0 e1
  go_wp2_with fail
  refine (l05Any_any (w.heap.size + 1) ao n cap _ hn C1.out O1.out).mono ?_; rintro e w2 ⟨g, u, f, l, t, rfl, hd, ht, hc, hg⟩
  obtain ⟨a5, c5, rfl, q1, q2, q3, q4, q5⟩ := hd
  have D2 : Hid (Dl w2 (w1.heap.size + 1) (.slice a5 l.length c5) l) := ⟨a5, c5, rfl, q1, q2, q3, q4, q5⟩
  have l1 := L1.out
  have M2 := hid (M1.out.grown hg (by simp only [ne_eq, Option.some.injEq]; omega))
  have B2 := hid (B1.out.trans (below_grownR hg (by intro j hj; simp only [Option.some.injEq] at hj; omega) B1.out.size))
  have HT := hid ht
  have d := M2.out.cells
  have e := M2.out.loose
  clear ht hc hg q1 q2 q3 q4 q5 l1 M1 B1
  go_wp2
  have l1 := L1.out
  have d3 := (set4 M2.out g u (.slice a5 l.length c5) t).cells
  refine bodyPost_ret (v := .agg #[.int .i64 g, .int .i64 u, .slice a5 l.length c5, .string t]) (by simp [results, Try.results6, go_sem, d3]) rfl ⟨g, u, _, l, t, rfl, ?_, HT.out, bel4 B2.out (Nat.le_refl _) _ _ _ _⟩
  exact ((((D2.out.set (by omega)).set (by omega)).set (by omega)).set (by omega)).lower (Nat.zero_le _)
end Go.Proofs.Ytldcmfkmnjdfiaa
