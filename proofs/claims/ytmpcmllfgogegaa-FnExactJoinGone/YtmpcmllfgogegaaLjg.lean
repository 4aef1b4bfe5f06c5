/- The law of JoinGone. -/
import Derived.Test.YtmpcmllfgogegaaOpenI
import Derived.Test.YtmpcmllfgogegaaLmw
import Derived.Test.YtmpcmllfgogegaaGjn
import Derived.Test.YtmpcmllfgogegaaJga
namespace Go.Proofs.Ytmpcmllfgogegaa
open Go.RowKit Go.ChangeMaps

theorem owi_kept {W W' : World} {B : Nat} {v : Value} {G : List Int} {r : Option Nat} (h : OwI W B v G) (hg : W.grownBy W' r) (hne : ∀ j, v.ownBlock = some j → r ≠ some j) : OwI W' B v G :=
  World.ownsRow.kept h hg (by
    cases hv : v.ownBlock with
    | none => exact Or.inl rfl
    | some j => exact Or.inr (fun e => hne j hv e.symm))

set_option maxHeartbeats 1600000 in
set_option maxRecDepth 100000 in
theorem lawJoinGone_any (ga : Option Addr) (gn gc : Nat) (G : List Int) (ga' : Option Addr) (gn' gc' : Nat) (G' : List Int) (w : World) (hgl : G.length = gn) (hs : Is 0 w.heap.size w ga G) (hgl' : G'.length = gn') (hs' : Is 0 w.heap.size w ga' G') :
    Calls Try.prog 3 #[.slice ga gn gc, .slice ga' gn' gc'] w fun e w' => e = .returned (.bool true) ∧ Below w.heap.size w w' := by
  have HL := hid hgl
  have HS := hid hs
  have HL' := hid hgl'
  have HS' := hid hs'
  have HJN : Hid ((asl (G ++ G')).length ≤ gn + gn') := by
    have := asl_len (G ++ G')
    rw [List.length_append, hgl, hgl'] at this
    exact this
  clear hgl hs hgl' hs'
  by_cases hb : (1048576 : Int) < (gn : Int)
  · go_enter Try.func3, Try.ntmps3
    go_wp2
    go_ret
    exact ⟨rfl, bre _⟩
  by_cases hb' : (1048576 : Int) < (gn' : Int)
  · go_enter Try.func3, Try.ntmps3
    go_wp2
    go_ret
    exact ⟨rfl, bre _⟩
  have hn : gn ≤ 1048576 := by omega
  have hn' : gn' ≤ 1048576 := by omega
  obtain ⟨J, hJ⟩ : ∃ J, asl (G ++ G') = J := ⟨_, rfl⟩
  obtain ⟨jn, hjn⟩ : ∃ jn, J.length = jn := ⟨_, rfl⟩
  have HJL : Hid (jn ≤ 2097152) := by
    have := HJN.out
    rw [hJ, hjn] at this
    show _ ≤ _
    omega
  have HJ := hid hJ
  have HJn := hid hjn
  clear hJ hjn HJN
  go_enter Try.func3, Try.ntmps3
  go_wp2_with fail
  refine (toIntS_any 0 w.heap.size ga gn gc G _ HL.out hn HS.out).mono ?_; rintro e w1 ⟨rfl, o1, p1⟩
  have O1 := hid o1
  have P1 := hid p1
  clear o1 p1
  go_wp2_with fail
  refine (toIntS_any 0 w.heap.size ga' gn' gc' G' _ HL'.out hn' (HS'.out.later P1.out)).mono ?_; rintro e w2 ⟨rfl, o2, p2⟩
  have O2 := hid o2
  have P2 := hid (btr P1.out p2)
  have O12 := hid (own_later O1.out p2)
  clear o2 p2
  go_wp2_with fail
  refine (specJoinGone_any _ _ _ _ _ gn gn G _ gn' gn' G' _ HL.out hn (OwI.is O12.out).2 HL'.out hn' (OwI.is O2.out).2).mono ?_; rintro e w3 ⟨v0, rfl, o3, p3⟩
  rw [HJ.out] at o3
  obtain ⟨av, cv, rfl, -⟩ := OwI.shape o3
  rw [HJn.out] at o3 ⊢
  have V3 := hid (own_base o3 P2.out.size)
  have P3 := hid (btr P2.out p3)
  clear o3 p3 O1 O2 O12 P1 P2
  go_wp2_with fail
  refine (toIntS_any 0 w.heap.size ga gn gc G _ HL.out hn (HS.out.later P3.out)).mono ?_; rintro e w4 ⟨rfl, o4, p4⟩
  have X4 := hid o4
  have V4 := hid (own_later V3.out p4)
  have P4 := hid (btr P3.out p4)
  have XV : Hid (∀ j, Value.ownBlock (.slice av jn cv) = some j → j < w3.heap.size) := fun j hj => (V3.out.lt j hj).2
  have Z4 : Hid (w3.heap.size < w4.heap.size) := (o4.lt w3.heap.size rfl).2
  clear o4 p4 V3
  go_wp2_with fail
  refine (toIntS_any 0 w.heap.size ga' gn' gc' G' _ HL'.out hn' (HS'.out.later P4.out)).mono ?_; rintro e w5 ⟨rfl, o5, p5⟩
  have Y5 := hid o5
  have X5 := hid (own_later X4.out p5)
  have V5 := hid (own_later V4.out p5)
  have P5 := hid (btr P4.out p5)
  have Z5 : Hid (w4.heap.size < w5.heap.size) := (o5.lt w4.heap.size rfl).2
  clear o5 p5 V4 X4
  go_wp2_with fail
  refine (implJoinGone_any _ _ _ _ _ gn gn G _ gn' gn' G' _ HL.out hn (OwI.is X5.out).2 HL'.out hn' (OwI.is Y5.out).2).mono ?_; rintro e w6 ⟨g0, rfl, o6, p6⟩
  rw [HJ.out] at o6
  obtain ⟨ag, cg, rfl, -⟩ := OwI.shape o6
  rw [HJn.out] at o6 ⊢
  have G6 := hid o6
  have XG : Hid (∀ j, Value.ownBlock (.slice ag jn cg) = some j → w5.heap.size ≤ j) := fun j hj => (o6.lt j hj).1
  have Y6 := hid (own_later Y5.out p6)
  have X6 := hid (own_later X5.out p6)
  have V6 := hid (own_later V5.out p6)
  have P6 := hid (btr P5.out p6)
  clear o6 p6 V5 X5 Y5
  go_wp2_with fail
  refine (eqIntSw _ _ _ _ ag av jn cg cv J _ HJn.out (by have := HJL.out; omega) (OwI.is G6.out).2 (OwI.is V6.out).2).mono ?_; rintro e w7 ⟨rfl, p7⟩
  have G7 := hid (own_later G6.out p7)
  have Y7 := hid (own_later Y6.out p7)
  have X7 := hid (own_later X6.out p7)
  have V7 := hid (own_later V6.out p7)
  have P7 := hid (btr P6.out p7)
  clear p7 G6 V6 X6 Y6
  go_wp2_with fail
  refine (toIntS_any 0 w.heap.size ga gn gc G _ HL.out hn (HS.out.later P7.out)).mono ?_; rintro e w8 ⟨rfl, o8, p8⟩
  have G8 := hid (own_later G7.out p8)
  have Y8 := hid (own_later Y7.out p8)
  have X8 := hid (own_later X7.out p8)
  have V8 := hid (own_later V7.out p8)
  have P8 := hid (btr P7.out p8)
  have T8 := hid o8
  clear p8 o8 G7 V7 X7 Y7
  go_wp2_with fail
  refine (eqIntSw _ _ _ _ _ _ gn gn gn G _ HL.out (by omega) (OwI.is X8.out).2 (OwI.is T8.out).2).mono ?_; rintro e w9 ⟨rfl, p9⟩
  have G9 := hid (own_later G8.out p9)
  have Y9 := hid (own_later Y8.out p9)
  have X9 := hid (own_later X8.out p9)
  have V9 := hid (own_later V8.out p9)
  have P9 := hid (btr P8.out p9)
  clear p9 G8 V8 X8 Y8 T8
  go_wp2_with fail
  refine (toIntS_any 0 w.heap.size ga' gn' gc' G' _ HL'.out hn' (HS'.out.later P9.out)).mono ?_; rintro e w10 ⟨rfl, o10, p10⟩
  have G10 := hid (own_later G9.out p10)
  have Y10 := hid (own_later Y9.out p10)
  have X10 := hid (own_later X9.out p10)
  have V10 := hid (own_later V9.out p10)
  have P10 := hid (btr P9.out p10)
  have T10 := hid o10
  clear p10 o10 G9 V9 X9 Y9
  go_wp2_with fail
  refine (eqIntSw _ _ _ _ _ _ gn' gn' gn' G' _ HL'.out (by omega) (OwI.is Y10.out).2 (OwI.is T10.out).2).mono ?_; rintro e w11 ⟨rfl, p11⟩
  have G11 := hid (own_later G10.out p11)
  have Y11 := hid (own_later Y10.out p11)
  have X11 := hid (own_later X10.out p11)
  have V11 := hid (own_later V10.out p11)
  have P11 := hid (btr P10.out p11)
  clear p11 G10 V10 X10 Y10 T10
  go_wp2_with fail
  refine (markISw w3.heap.size _ gn gn 1 G _ X11.out HL.out (by omega) (by omega)).mono ?_; rintro e w12 ⟨rfl, -, q12⟩
  have G12 := hid (owi_kept G11.out q12 (fun j hj e => by have h1 := XG.out j hj; have h2 := Z4.out; have h3 := Z5.out; simp only [Value.ownBlock, Option.some.injEq] at e; omega))
  have Y12 := hid (owi_kept Y11.out q12 (fun j hj e => by have h2 := Z4.out; simp only [Value.ownBlock, Option.some.injEq] at hj e; omega))
  have V12 := hid (owi_kept V11.out q12 (fun j hj e => by have h1 := XV.out j hj; simp only [Value.ownBlock, Option.some.injEq] at e; omega))
  have P12 : Hid (Below w.heap.size w w12) := P11.out.trans (below_grownR q12 (fun j hj => by have h1 := P3.out.size; simp only [Value.ownBlock, Option.some.injEq] at hj; omega) P11.out.size)
  obtain ⟨k1, hk1⟩ : ∃ k1 : Nat, 1 + gn = k1 := ⟨_, rfl⟩
  rw [hk1]
  have HK1 : Hid (k1 ≤ 1048577) := by show _ ≤ _; omega
  clear q12 G11 V11 X11 Y11 hk1
  go_wp2_with fail
  refine (markISw w4.heap.size _ gn' gn' k1 G' _ Y12.out HL'.out (by omega) (by have := HK1.out; omega)).mono ?_; rintro e w13 ⟨rfl, -, q13⟩
  have G13 := hid (owi_kept G12.out q13 (fun j hj e => by have h1 := XG.out j hj; have h2 := Z4.out; have h3 := Z5.out; simp only [Value.ownBlock, Option.some.injEq] at e; omega))
  have V13 := hid (owi_kept V12.out q13 (fun j hj e => by have h1 := XV.out j hj; have h2 := Z4.out; simp only [Value.ownBlock, Option.some.injEq] at e; omega))
  have P13 : Hid (Below w.heap.size w w13) := P12.out.trans (below_grownR q13 (fun j hj => by have h1 := P4.out.size; simp only [Value.ownBlock, Option.some.injEq] at hj; omega) P12.out.size)
  obtain ⟨k2, hk2⟩ : ∃ k2 : Nat, k1 + gn' = k2 := ⟨_, rfl⟩
  rw [hk2]
  have h02 : ¬ (k2 : Int) < 0 := by omega
  clear q13 G12 V12 Y12 hk2
  go_wp2_with fail
  refine (eqIntSw _ _ _ _ ag av jn cg cv J _ HJn.out (by have := HJL.out; omega) (OwI.is G13.out).2 (OwI.is V13.out).2).mono ?_; rintro e w14 ⟨rfl, p14⟩
  have G14 := hid (own_later G13.out p14)
  have V14 := hid (own_later V13.out p14)
  have P14 := hid (btr P13.out p14)
  clear p14 G13 V13 h02
  go_wp2_with fail
  refine (markISw w5.heap.size _ jn cg 1 J _ G14.out HJn.out (by have := HJL.out; omega) (by omega)).mono ?_; rintro e w15 ⟨rfl, g15, q15⟩
  have G15 := hid g15
  have V15 := hid (owi_kept V14.out q15 (fun j hj e => by have h1 := XG.out j e; have h0 := XV.out j hj; have h2 := Z4.out; have h3 := Z5.out; omega))
  have P15 : Hid (Below w.heap.size w w15) := P14.out.trans (below_grownR q15 (fun j hj => by have h1 := XG.out j hj; have h2 := P5.out.size; omega) P14.out.size)
  have HH : Hid (∀ W, OwI W w5.heap.size (.slice ag jn cg) (mki 1 jn) → Calls Try.prog 9 #[.slice ag jn cg, .int .i64 ((1 : Nat) : Int)] W fun e w' => e = .returned (.int .i64 ((1 + jn : Nat) : Int)) ∧ w' = W) := fun W h => heldISw w5.heap.size ag jn cg 1 W h (by have := HJL.out; omega) (by omega)
  obtain ⟨k3, hk3⟩ : ∃ k3 : Nat, 1 + jn = k3 := ⟨_, rfl⟩
  rw [hk3] at HH ⊢
  have h03 : ¬ (k3 : Int) < 0 := by omega
  have h33 : ((k3 : Int) != (k3 : Int)) = false := by simp
  clear g15 q15 G14 V14 hk3
  go_wp2_with fail
  refine (HH.out _ G15.out).mono ?_; rintro e w16 ⟨rfl, h16⟩
  subst h16
  go_wp2_with fail
  refine (toIntS_any 0 w.heap.size ga gn gc G _ HL.out hn (HS.out.later P15.out)).mono ?_; rintro e w17 ⟨rfl, o17, p17⟩
  have O17 := hid o17
  have G17 := hid (own_later G15.out p17)
  have V17 := hid (own_later V15.out p17)
  have P17 := hid (btr P15.out p17)
  clear o17 p17 G15 V15
  go_wp2_with fail
  refine (toIntS_any 0 w.heap.size ga' gn' gc' G' _ HL'.out hn' (HS'.out.later P17.out)).mono ?_; rintro e w18 ⟨rfl, o18, p18⟩
  have O18 := hid o18
  have Q18 := hid (own_later O17.out p18)
  have G18 := hid (own_later G17.out p18)
  have V18 := hid (own_later V17.out p18)
  have P18 := hid (btr P17.out p18)
  clear o18 p18 G17 V17 O17
  go_wp2_with fail
  refine (implJoinGone_any _ _ _ _ _ gn gn G _ gn' gn' G' _ HL.out hn (OwI.is Q18.out).2 HL'.out hn' (OwI.is O18.out).2).mono ?_; rintro e w19 ⟨g1, rfl, o19, p19⟩
  rw [HJ.out] at o19
  obtain ⟨ah, ch, rfl, -⟩ := OwI.shape o19
  rw [HJn.out] at o19 ⊢
  have H19 := hid o19
  have G19 := hid (own_later G18.out p19)
  have V19 := hid (own_later V18.out p19)
  have P19 := hid (btr P18.out p19)
  clear o19 p19 G18 V18 O18 Q18
  go_wp2_with fail
  refine (eqIntSw _ _ _ _ ah av jn ch cv J _ HJn.out (by have := HJL.out; omega) (OwI.is H19.out).2 (OwI.is V19.out).2).mono ?_; rintro e w20 ⟨rfl, p20⟩
  have G20 := hid (own_later G19.out p20)
  have P20 := hid (btr P19.out p20)
  clear p20 G19 V19 H19
  go_wp2_with fail
  refine (HH.out _ G20.out).mono ?_; rintro e w21 ⟨rfl, h21⟩
  subst h21
  go_wp2
  go_ret
  exact ⟨rfl, P20.out⟩
end Go.Proofs.Ytmpcmllfgogegaa
