/- The walk of the law of flags that come together. -/
import Derived.Test.YtdpabaebbdhmmakLawOk
namespace Go.Proofs.Ytdpabaebbdhmmak
open Go.RowKit

theorem Ow.other {W W' : World} {B g n c k : Nat} {l : List R3} (h : Ow W B (.slice (some ⟨g, 0, none⟩) n c) l) (hg : W.grownBy W' (some k)) (hk : g ≠ k) : Ow W' B (.slice (some ⟨g, 0, none⟩) n c) l :=
  World.ownsRow.kept h hg (Or.inr (by simpa [Value.ownBlock] using hk))

set_option maxHeartbeats 1000000 in
set_option maxRecDepth 100000 in
theorem lawJoinFlags_any (ao bo : Option Addr) (na nb ca cb : Nat) (a b : List R3) (w : World) (hla : a.length = na) (hlb : b.length = nb) (hma : (na : Int) ≤ 9223372036854775807) (hmb : (nb : Int) ≤ 9223372036854775807) (ha : Rs w ao a) (hb : Rs w bo b) :
    Calls Try.prog 8 #[.slice ao na ca, .slice bo nb cb] w fun e w' => e = .returned (.bool true) ∧ Below w.heap.size w w' := by
  have HA := hid ha
  have HB := hid hb
  have HLA := hid hla
  have HLB := hid hlb
  clear ha hb hla hlb
  by_cases hn : (1048576 : Int) < na
  · go_enter Try.func8, Try.ntmps8
    go_wp2_with fail
    refine (sz_over ao na ca 1048576 _ hma (by decide) hn).mono ?_; rintro e w1 ⟨rfl, rfl⟩
    go_wp2_with fail
    go_ret
    exact ⟨rfl, bre _⟩
  have hneg : ¬ (1048576 : Int) - na < 0 := by omega
  by_cases hn2 : (1048576 : Int) - na < nb
  · go_enter Try.func8, Try.ntmps8
    go_wp2_with fail
    refine (sz_fits ao na ca 1048576 _ hma (by decide) (by omega)).mono ?_; rintro e w1 ⟨rfl, rfl⟩
    go_wp2_with fail
    refine (sz_over bo nb cb (1048576 - na) _ hmb (by omega) hn2).mono ?_; rintro e w1 ⟨rfl, rfl⟩
    go_wp2_with fail
    go_ret
    exact ⟨rfl, bre _⟩
  have hneg2 : ¬ (1048576 : Int) - na - nb < 0 := by omega
  have hna : na ≤ 1048576 := by omega
  have hnb : nb ≤ 1048576 := by omega
  obtain ⟨m, hm⟩ : ∃ m, (jl a b).length = m := ⟨_, rfl⟩
  have hmn : m ≤ 1048576 := by rw [← hm, jl_len, HLA.out]; omega
  have HM := hid hm
  clear hm
  go_enter Try.func8, Try.ntmps8
  go_wp2_with fail
  refine (sz_fits ao na ca 1048576 _ hma (by decide) (by omega)).mono ?_; rintro e w1 ⟨rfl, rfl⟩
  go_wp2_with fail
  refine (sz_fits bo nb cb (1048576 - na) _ hmb (by omega) (by omega)).mono ?_; rintro e w1 ⟨rfl, rfl⟩
  have HNA := hid hna
  have HNB := hid hnb
  have HMN := hid hmn
  clear hn hn2 hna hnb hmn
  go_wp2_with fail
  clear hneg hneg2
  refine (toS_any ao na ca a _ HLA.out HNA.out HA.out).mono ?_; rintro e w2 ⟨rfl, hown2, hb2⟩
  have R2 := hid (Ow.rs hown2).2
  have B2 := hid hb2
  clear hown2 hb2
  go_wp2_with fail
  refine (toS_any bo nb cb b _ HLB.out HNB.out (HB.out.later B2.out)).mono ?_; rintro e w3 ⟨rfl, hown3, hb3⟩
  have R3' := hid (Ow.rs hown3).2
  have R2' := hid (R2.out.later hb3)
  have B3 := hid (btr B2.out hb3)
  clear hown3 hb3 B2 R2
  go_wp2_with fail
  refine (specJoinFlags_any _ _ na nb na nb a b _ HLA.out HLB.out HNA.out HNB.out R2'.out R3'.out).mono ?_; rintro e w4 ⟨v4, rfl, hown4, hb4⟩
  obtain ⟨a4, c4, hv4, hr4⟩ := Ow.shape hown4
  rw [HM.out] at hv4
  subst hv4
  have RW := hid hr4
  have B4 := hid (btr B3.out hb4)
  clear hown4 hr4 hb4 B3 R2' R3'
  go_wp2_with fail
  refine (toS_any ao na ca a _ HLA.out HNA.out (HA.out.later B4.out)).mono ?_; rintro e w5 ⟨rfl, hown5, hb5⟩
  have OX := hid hown5
  have BX := hid hb5
  have HX : Hid (w4.heap.size < w5.heap.size) := (hown5.lt _ rfl).2
  clear hown5 hb5
  go_wp2_with fail
  refine (toS_any bo nb cb b _ HLB.out HNB.out (HB.out.later (btr B4.out BX.out))).mono ?_; rintro e w6 ⟨rfl, hown6, hb6⟩
  have OY := hid hown6
  have OX6 := hid (own_later OX.out hb6)
  have B6 : Hid (Below w4.heap.size w4 w6) := btr BX.out hb6
  have HY : Hid (w5.heap.size < w6.heap.size) := (hown6.lt _ rfl).2
  clear hown6 hb6 BX OX
  go_wp2_with fail
  refine (implJoinFlags_any _ _ na nb na nb a b _ HLA.out HLB.out HNA.out HNB.out (Ow.rs OX6.out).2 (Ow.rs OY.out).2).mono ?_; rintro e w7 ⟨rfl, hown7, hb7⟩
  rw [HM.out] at hown7 ⊢
  have OX7 := hid (own_later OX6.out hb7)
  have OY7 := hid (own_later OY.out hb7)
  have OG7 := hid hown7
  have B7 : Hid (Below w4.heap.size w4 w7) := btr B6.out hb7
  clear hown7 hb7 B6 OX6 OY
  go_wp2_with fail
  refine (eqS_any _ _ m m c4 (jl a b) _ HM.out HMN.out (Ow.rs OG7.out).2 (RW.out.later B7.out)).mono ?_; rintro e w8 ⟨rfl, hb8⟩
  have OX8 := hid (own_later OX7.out hb8)
  have OY8 := hid (own_later OY7.out hb8)
  have OG8 := hid (own_later OG7.out hb8)
  have B8 : Hid (Below w4.heap.size w4 w8) := btr B7.out hb8
  clear hb8 B7 OX7 OY7 OG7
  go_wp2_with fail
  refine (toS_any ao na ca a _ HLA.out HNA.out (HA.out.later (btr B4.out B8.out))).mono ?_; rintro e w9 ⟨rfl, hown9, hb9⟩
  have OX9 := hid (own_later OX8.out hb9)
  have OY9 := hid (own_later OY8.out hb9)
  have OG9 := hid (own_later OG8.out hb9)
  have R9 := hid (Ow.rs hown9).2
  have B9 : Hid (Below w4.heap.size w4 w9) := btr B8.out hb9
  clear hown9 hb9 B8 OX8 OY8 OG8
  go_wp2_with fail
  refine (eqS_any _ _ na na na a _ HLA.out HNA.out (Ow.rs OX9.out).2 R9.out).mono ?_; rintro e w10 ⟨rfl, hb10⟩
  have OX10 := hid (own_later OX9.out hb10)
  have OY10 := hid (own_later OY9.out hb10)
  have OG10 := hid (own_later OG9.out hb10)
  have B10 : Hid (Below w4.heap.size w4 w10) := btr B9.out hb10
  clear hb10 B9 OX9 OY9 OG9 R9
  go_wp2_with fail
  refine (toS_any bo nb cb b _ HLB.out HNB.out (HB.out.later (btr B4.out B10.out))).mono ?_; rintro e w11 ⟨rfl, hown11, hb11⟩
  have OX11 := hid (own_later OX10.out hb11)
  have OY11 := hid (own_later OY10.out hb11)
  have OG11 := hid (own_later OG10.out hb11)
  have R11 := hid (Ow.rs hown11).2
  have B11 : Hid (Below w4.heap.size w4 w11) := btr B10.out hb11
  clear hown11 hb11 B10 OX10 OY10 OG10
  go_wp2_with fail
  refine (eqS_any _ _ nb nb nb b _ HLB.out HNB.out (Ow.rs OY11.out).2 R11.out).mono ?_; rintro e w12 ⟨rfl, hb12⟩
  have OX12 := hid (own_later OX11.out hb12)
  have OY12 := hid (own_later OY11.out hb12)
  have OG12 := hid (own_later OG11.out hb12)
  have B12 : Hid (Below w4.heap.size w4 w12) := btr B11.out hb12
  clear hb12 B11 OX11 OY11 OG11 R11
  go_wp2_with fail
  refine (mark1 _ _ na na _ _ OX12.out HLA.out HNA.out).mono ?_; rintro e w13 ⟨rfl, hown13, hg13⟩
  have OY13 := hid (Ow.other OY12.out hg13 (by have := HX.out; omega))
  have OG13 := hid (Ow.other OG12.out hg13 (by have := HX.out; have := HY.out; omega))
  have B13 : Hid (Below w4.heap.size w4 w13) := B12.out.trans (below_of_grown hg13 (Nat.le_refl _) B12.out.size)
  clear hown13 hg13 B12 OX12 OY12 OG12
  go_wp2_with fail
  refine (markS_any _ _ nb nb (1 + na * 3) _ _ OY13.out HLB.out HNB.out (by have := HNA.out; omega)).mono ?_; rintro e w14 ⟨rfl, hown14, hg14⟩
  have OG14 := hid (Ow.other OG13.out hg14 (by have := HY.out; omega))
  have B14 : Hid (Below w4.heap.size w4 w14) := B13.out.trans (below_of_grown hg14 (by have := HX.out; omega) B13.out.size)
  obtain ⟨q, hq⟩ : ∃ q : Nat, 1 + na * 3 + nb * 3 = q := ⟨_, rfl⟩
  rw [hq]
  have hq0 : ¬ ((q : Nat) : Int) < 0 := by omega
  clear hown14 hg14 B13 OY13 OG13 hq
  go_wp2_with fail
  refine (eqS_any _ _ m m c4 (jl a b) _ HM.out HMN.out (Ow.rs OG14.out).2 (RW.out.later B14.out)).mono ?_; rintro e w15 ⟨rfl, hb15⟩
  have OG15 := hid (own_later OG14.out hb15)
  have B15 : Hid (Below w4.heap.size w4 w15) := btr B14.out hb15
  clear hb15 B14 OG14
  go_wp2_with fail
  clear hq0
  refine (mark1 _ _ m m _ _ OG15.out HM.out HMN.out).mono ?_; rintro e w16 ⟨rfl, hown16, hg16⟩
  have OG16 := hid hown16
  have B16 : Hid (Below w4.heap.size w4 w16) := B15.out.trans (below_of_grown hg16 (by have := HX.out; have := HY.out; omega) B15.out.size)
  clear hown16 hg16 B15 OG15
  obtain ⟨z, hz⟩ : ∃ z : Nat, 1 + m * 3 = z := ⟨_, rfl⟩
  have HH : Hid (∀ W, Ow W w6.heap.size (.slice (some ⟨w6.heap.size, 0, none⟩) m m) (mks 1 m) → Calls Try.prog 18 #[.slice (some ⟨w6.heap.size, 0, none⟩) m m, .int .i64 1] W fun e w' => e = .returned (.int .i64 (z : Int)) ∧ w' = W) := fun W h => by
    rw [← hz]; exact held1 _ _ m m W h HMN.out
  rw [hz]
  have hz0 : ¬ ((z : Nat) : Int) < 0 := by omega
  have hzz : ((z : Int) != (z : Int)) = false := by simp
  clear hz
  go_wp2_with fail
  refine (HH.out _ OG16.out).mono ?_; rintro e w17 ⟨rfl, h17⟩
  subst h17
  go_wp2_with fail
  refine (toS_any ao na ca a _ HLA.out HNA.out (HA.out.later (btr B4.out B16.out))).mono ?_; rintro e w18 ⟨rfl, hown18, hb18⟩
  have OG18 := hid (own_later OG16.out hb18)
  have R18 := hid (Ow.rs hown18).2
  have B18 : Hid (Below w4.heap.size w4 w18) := btr B16.out hb18
  clear hown18 hb18 B16 OG16
  go_wp2_with fail
  refine (toS_any bo nb cb b _ HLB.out HNB.out (HB.out.later (btr B4.out B18.out))).mono ?_; rintro e w19 ⟨rfl, hown19, hb19⟩
  have OG19 := hid (own_later OG18.out hb19)
  have R19 := hid (Ow.rs hown19).2
  have R18' := hid (R18.out.later hb19)
  have B19 : Hid (Below w4.heap.size w4 w19) := btr B18.out hb19
  clear hown19 hb19 B18 OG18 R18
  go_wp2_with fail
  refine (implJoinFlags_any _ _ na nb na nb a b _ HLA.out HLB.out HNA.out HNB.out R18'.out R19.out).mono ?_; rintro e w20 ⟨rfl, hown20, hb20⟩
  rw [HM.out] at hown20 ⊢
  have OG20 := hid (own_later OG19.out hb20)
  have OH := hid hown20
  have B20 : Hid (Below w4.heap.size w4 w20) := btr B19.out hb20
  clear hown20 hb20 B19 OG19 R18' R19
  go_wp2_with fail
  refine (eqS_any _ _ m m c4 (jl a b) _ HM.out HMN.out (Ow.rs OH.out).2 (RW.out.later B20.out)).mono ?_; rintro e w21 ⟨rfl, hb21⟩
  have OG21 := hid (own_later OG20.out hb21)
  have B21 : Hid (Below w4.heap.size w4 w21) := btr B20.out hb21
  clear hb21 B20 OG20
  go_wp2_with fail
  refine (HH.out _ OG21.out).mono ?_; rintro e w22 ⟨rfl, h22⟩
  subst h22
  go_wp2_with fail
  go_ret
  exact ⟨rfl, btr B4.out B21.out⟩

theorem lawJoinFlags_row (ao : Option Addr) (na ca : Nat) (a : List R3) (bo : Option Addr) (nb cb : Nat) (b : List R3) (w : World) (hla : a.length = na) (hma : (na : Int) ≤ 9223372036854775807) (ha : Rs w ao a) (hlb : b.length = nb) (hmb : (nb : Int) ≤ 9223372036854775807) (hb : Rs w bo b) :
    Calls Try.prog 8 #[.slice ao na ca, .slice bo nb cb] w fun e w' => e = .returned (.bool true) ∧ Below w.heap.size w w' :=
  lawJoinFlags_any ao bo na nb ca cb a b w hla hlb hma hmb ha hb
end Go.Proofs.Ytdpabaebbdhmmak
