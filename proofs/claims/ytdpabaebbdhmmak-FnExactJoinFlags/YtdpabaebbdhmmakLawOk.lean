/- The walks of the laws of right flags and of flags as a number. -/
import Derived.Test.YtdpabaebbdhmmakLawNew
namespace Go.Proofs.Ytdpabaebbdhmmak
open Go.RowKit

set_option maxHeartbeats 400000 in
set_option maxRecDepth 100000 in
theorem lawFlagsOk_any (ao : Option Addr) (n cap : Nat) (l : List R3) (w : World) (hl : l.length = n) (hm : (n : Int) ≤ 9223372036854775807) (hr : Rs w ao l) :
    Calls Try.prog 5 #[.slice ao n cap] w fun e w' => e = .returned (.bool true) ∧ Below w.heap.size w w' := by
  have HR := hid hr
  have HL := hid hl
  clear hr hl
  by_cases hn : (1048576 : Int) < n
  · go_enter Try.func5, Try.ntmps5
    go_wp2_with fail
    refine (sz_over ao n cap 1048576 _ hm (by decide) hn).mono ?_; rintro e w1 ⟨rfl, rfl⟩
    go_wp2_with fail
    go_ret
    exact ⟨rfl, bre _⟩
  · have hn' : n ≤ 1048576 := by omega
    have hneg : ¬ (1048576 : Int) - n < 0 := by omega
    have hqq : (flOk l != flOk l) = false := by simp
    go_enter Try.func5, Try.ntmps5
    go_wp2_with fail
    refine (sz_fits ao n cap 1048576 _ hm (by decide) (by omega)).mono ?_; rintro e w1 ⟨rfl, rfl⟩
    go_wp2_with fail
    refine (toS_any ao n cap l _ HL.out hn' HR.out).mono ?_; rintro e w2 ⟨rfl, hown2, hb2⟩
    have R2 := hid (Ow.rs hown2).2
    have B2 := hid hb2
    clear hown2 hb2
    go_wp2_with fail
    refine (specFlagsOk_any _ n n l _ HL.out hn' R2.out).mono ?_; rintro e w3 ⟨rfl, hb3⟩
    have B3 := hid (btr B2.out hb3)
    clear hb3 R2 B2
    go_wp2_with fail
    refine (toS_any ao n cap l _ HL.out hn' (HR.out.later B3.out)).mono ?_; rintro e w4 ⟨rfl, hown4, hb4⟩
    have R4 := hid (Ow.rs hown4).2
    have B4 := hid (btr B3.out hb4)
    clear hown4 hb4 B3
    go_wp2_with fail
    refine (implFlagsOk_any _ n n l _ HL.out hn' R4.out).mono ?_; rintro e w5 ⟨rfl, hb5⟩
    have R5 := hid (R4.out.later hb5)
    have B5 := hid (btr B4.out hb5)
    clear hb5 B4 R4
    go_wp2_with fail
    refine (toS_any ao n cap l _ HL.out hn' (HR.out.later B5.out)).mono ?_; rintro e w6 ⟨rfl, hown6, hb6⟩
    have R6 := hid (Ow.rs hown6).2
    have R6' := hid (R5.out.later hb6)
    have B6 := hid (btr B5.out hb6)
    clear hown6 hb6 B5 R5
    go_wp2_with fail
    refine (eqS_any _ _ n n n l _ HL.out hn' R6'.out R6.out).mono ?_; rintro e w7 ⟨rfl, hb7⟩
    go_wp2_with fail
    go_ret
    exact ⟨rfl, btr B6.out hb7⟩

set_option maxHeartbeats 400000 in
set_option maxRecDepth 100000 in
theorem lawFlagsOf_any (ao : Option Addr) (n cap : Nat) (l : List R3) (w : World) (hl : l.length = n) (hm : (n : Int) ≤ 9223372036854775807) (hr : Rs w ao l) :
    Calls Try.prog 6 #[.slice ao n cap] w fun e w' => e = .returned (.bool true) ∧ Below w.heap.size w w' := by
  have HR := hid hr
  have HL := hid hl
  clear hr hl
  by_cases hn : (1048576 : Int) < n
  · go_enter Try.func6, Try.ntmps6
    go_wp2_with fail
    refine (sz_over ao n cap 1048576 _ hm (by decide) hn).mono ?_; rintro e w1 ⟨rfl, rfl⟩
    go_wp2_with fail
    go_ret
    exact ⟨rfl, bre _⟩
  · have hn' : n ≤ 1048576 := by omega
    have hneg : ¬ (1048576 : Int) - n < 0 := by omega
    have hqq : (((fof l (min n 3) : Nat) : Int) != ((fof l (min n 3) : Nat) : Int)) = false := by simp
    go_enter Try.func6, Try.ntmps6
    go_wp2_with fail
    refine (sz_fits ao n cap 1048576 _ hm (by decide) (by omega)).mono ?_; rintro e w1 ⟨rfl, rfl⟩
    go_wp2_with fail
    refine (toS_any ao n cap l _ HL.out hn' HR.out).mono ?_; rintro e w2 ⟨rfl, hown2, hb2⟩
    have R2 := hid (Ow.rs hown2).2
    have B2 := hid hb2
    clear hown2 hb2
    go_wp2_with fail
    refine (specFlagsOf_any _ n n l _ HL.out hn' R2.out).mono ?_; rintro e w3 ⟨rfl, hb3⟩
    have B3 := hid (btr B2.out hb3)
    clear hb3 R2 B2
    go_wp2_with fail
    refine (toS_any ao n cap l _ HL.out hn' (HR.out.later B3.out)).mono ?_; rintro e w4 ⟨rfl, hown4, hb4⟩
    have R4 := hid (Ow.rs hown4).2
    have B4 := hid (btr B3.out hb4)
    clear hown4 hb4 B3
    go_wp2_with fail
    refine (implFlagsOf_any _ n n l _ HL.out hn' (Nat.le_refl _) R4.out).mono ?_; rintro e w5 ⟨rfl, hb5⟩
    have R5 := hid (R4.out.later hb5)
    have B5 := hid (btr B4.out hb5)
    clear hb5 B4 R4
    go_wp2_with fail
    refine (toS_any ao n cap l _ HL.out hn' (HR.out.later B5.out)).mono ?_; rintro e w6 ⟨rfl, hown6, hb6⟩
    have R6 := hid (Ow.rs hown6).2
    have R6' := hid (R5.out.later hb6)
    have B6 := hid (btr B5.out hb6)
    clear hown6 hb6 B5 R5
    go_wp2_with fail
    refine (eqS_any _ _ n n n l _ HL.out hn' R6'.out R6.out).mono ?_; rintro e w7 ⟨rfl, hb7⟩
    go_wp2_with fail
    go_ret
    exact ⟨rfl, btr B6.out hb7⟩

end Go.Proofs.Ytdpabaebbdhmmak
