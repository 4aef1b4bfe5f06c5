/- The walks of the laws of new flags, right flags, flags as a number. -/
import Derived.Test.YtdpabaebbdhmmakFlagSet
namespace Go.Proofs.Ytdpabaebbdhmmak
open Go.RowKit

theorem mark1 (B g n cap : Nat) (l : List R3) (w : World) (hown : Ow w B (.slice (some ⟨g, 0, none⟩) n cap) l) (hl : l.length = n) (hn : n ≤ 1048576) :
    Calls Try.prog 17 #[.slice (some ⟨g, 0, none⟩) n cap, .int .i64 1] w fun e w' => e = .returned (.int .i64 ((1 + n * 3 : Nat) : Int)) ∧ Ow w' B (.slice (some ⟨g, 0, none⟩) n cap) (mks 1 n) ∧ w.grownBy w' (some g) :=
  markS_any B g n cap 1 l w hown hl hn (by decide)
theorem held1 (B g n cap : Nat) (w : World) (hown : Ow w B (.slice (some ⟨g, 0, none⟩) n cap) (mks 1 n)) (hn : n ≤ 1048576) :
    Calls Try.prog 18 #[.slice (some ⟨g, 0, none⟩) n cap, .int .i64 1] w fun e w' => e = .returned (.int .i64 ((1 + n * 3 : Nat) : Int)) ∧ w' = w :=
  heldS_any B g n cap 1 w hown hn (by decide)
theorem fnew_len (n t b : Int) : (fnew n t b).length = 3 := rfl

set_option maxHeartbeats 1000000 in
set_option maxRecDepth 100000 in
theorem lawFlagsNew_any (n t b : Int) (w : World) :
    Calls Try.prog 4 #[.int .i64 n, .agg #[.int .i64 t, .int .i64 b]] w fun e w' => e = .returned (.bool true) ∧ Below w.heap.size w w' := by
  obtain ⟨W0, hW0⟩ : ∃ W0, w.alloc (.cells #[.int .i64 t, .int .i64 b] 23) = W0 := ⟨_, rfl⟩
  have A0 : Hid (Sg W0 w.heap.size 23 t b) := by subst hW0; exact Sg.new w _ t b
  have B0 : Hid (Below w.heap.size w W0) := by subst hW0; exact bpush (bre _) _
  have c0 := A0.out.cells
  go_enter Try.func4, Try.ntmps4
  go_wp2_with fail
  clear hW0 c0
  refine (toStamp_b t b _).mono ?_; rintro e w1 ⟨rfl, hb1⟩
  go_wp2_with fail
  refine (specFlagsNew_any n t b _).mono ?_; rintro e w2 ⟨v0, rfl, hown2, hb2⟩
  obtain ⟨a0, k0, hv0, hr0⟩ := Ow.shape hown2
  rw [fnew_len] at hv0
  subst hv0
  have R0 := hid hr0
  have B2 : Hid (Below W0.heap.size W0 w2) := btr hb1 hb2
  have c2 := (A0.out.later B2.out).cells
  clear hown2 hr0 hb1 hb2
  go_wp2_with fail
  clear c2
  refine (toStamp_b t b _).mono ?_; rintro e w3 ⟨rfl, hb3⟩
  go_wp2_with fail
  refine (implFlagsNew_any n t b _).mono ?_; rintro e w4 ⟨g, hg, rfl, hown4, hb4⟩
  have B4 : Hid (Below w2.heap.size w2 w4) := btr hb3 hb4
  have HGE : Hid (w2.heap.size ≤ g) := Nat.le_trans hb3.size hg
  have O4 := hid hown4
  clear hown4 hb3 hb4 hg
  go_wp2_with fail
  refine (eqS_any _ a0 3 _ k0 (fnew n t b) _ (fnew_len n t b) (by decide) (Ow.rs O4.out).2 (R0.out.later B4.out)).mono ?_; rintro e w5 ⟨rfl, hb5⟩
  have O5 := hid (own_later O4.out hb5)
  have B5 : Hid (Below w2.heap.size w2 w5) := btr B4.out hb5
  clear hb5 O4 B4
  go_wp2_with fail
  refine (mark1 _ g 3 3 _ _ O5.out rfl (by decide)).mono ?_; rintro e w6 ⟨rfl, hown6, hg6⟩
  have O6 := hid hown6
  have B6 : Hid (Below w2.heap.size w2 w6) := B5.out.trans (below_of_grown hg6 HGE.out B5.out.size)
  clear hown6 hg6 O5 B5
  go_wp2_with fail
  refine (held1 _ g 3 3 _ O6.out (by decide)).mono ?_; rintro e w7 ⟨rfl, rfl⟩
  have c6 := (A0.out.later (btr B2.out B6.out)).cells
  go_wp2_with fail
  clear c6
  refine (toStamp_b t b _).mono ?_; rintro e w8 ⟨rfl, hb8⟩
  go_wp2_with fail
  refine (implFlagsNew_any n t b _).mono ?_; rintro e w9 ⟨g', hg', rfl, hown9, hb9⟩
  have B9 : Hid (Below w7.heap.size w7 w9) := btr hb8 hb9
  have O9 := hid hown9
  have O6' := hid (own_later O6.out B9.out)
  have R9 := hid (R0.out.later (btr B6.out B9.out))
  clear hown9 hb8 hb9 hg' O6
  go_wp2_with fail
  refine (eqS_any _ a0 3 _ k0 (fnew n t b) _ (fnew_len n t b) (by decide) (Ow.rs O9.out).2 R9.out).mono ?_; rintro e w10 ⟨rfl, hb10⟩
  have O10 := hid (own_later O6'.out hb10)
  have B10 : Hid (Below w.heap.size w w10) := btr B0.out (btr B2.out (btr B6.out (btr B9.out hb10)))
  clear hb10
  go_wp2_with fail
  refine (held1 _ g 3 3 _ O10.out (by decide)).mono ?_; rintro e w11 ⟨rfl, rfl⟩
  go_wp2_with fail
  go_ret
  exact ⟨rfl, B10.out⟩
end Go.Proofs.Ytdpabaebbdhmmak
