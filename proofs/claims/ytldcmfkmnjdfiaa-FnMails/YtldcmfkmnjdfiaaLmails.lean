/- The walk of the law of mails. -/
import Derived.Test.YtldcmfkmnjdfiaaMdrawE
import Derived.Test.YtldcmfkmnjdfiaaLawMailR
namespace Go.Proofs.Ytldcmfkmnjdfiaa
open Go.RowKit

theorem bigM_no (ao : Option Addr) (n cap : Nat) (w : World) (hn : n ≤ 1048576) : Calls Try.prog 5 #[.slice ao n cap] w fun e w' => e = .returned (.bool false) ∧ w' = w := by
  go_enter Try.func5, Try.ntmps5
  go_wp2
  go_ret
  exact ⟨by simp; omega, rfl⟩
theorem bigM_yes (ao : Option Addr) (n cap : Nat) (w : World) (hn : 1048576 < n) : Calls Try.prog 5 #[.slice ao n cap] w fun e w' => e = .returned (.bool true) ∧ w' = w := by
  go_enter Try.func5, Try.ntmps5
  go_wp2
  go_ret
  exact ⟨by simp; omega, rfl⟩
theorem smail_self (g u : Int) (l : List R3) (t : ByteArray) : smail g u l t g u l t = true := by simp [smail]

/-- A text that another one begins with. -/
theorem begins_yes (x y : ByteArray) (w : World) (h1 : x.size ≤ y.size) (h2 : y.extract 0 x.size = x) : Calls Try.prog 15 #[.string x, .string y] w fun e w' => e = .returned (.bool true) ∧ Below w.heap.size w w' := by
  have hI : (x.size : Int) ≤ (y.size : Int) := by omega
  go_enter Try.func15, Try.ntmps15
  go_wp2
  go_ret
  exact ⟨rfl, bre _⟩
theorem begins_of (x s : ByteArray) (a : Nat) (ha : a ≤ s.size) (R : List UInt8) (h : (bl s).drop a = bl x ++ R) : x.size ≤ (s.extract a s.size).size ∧ (s.extract a s.size).extract 0 x.size = x := by
  have hl := congrArg List.length h
  rw [List.length_drop, List.length_append, bl_len, bl_len] at hl
  have hbl : bl (s.extract a s.size) = bl x ++ R := by
    rw [← h]
    simp only [bl, ByteArray.data_extract, Array.toList_extract, List.extract_eq_take_drop]
    exact List.take_of_length_le (by rw [List.length_drop, Array.length_toList]; exact Nat.le_refl _)
  refine ⟨by rw [ByteArray.size_extract]; omega, ?_⟩
  apply bl_inj
  have e : bl ((s.extract a s.size).extract 0 x.size) = (bl (s.extract a s.size)).take x.size := by
    simp [bl, ByteArray.data_extract, Array.toList_extract, List.extract_eq_take_drop]
    rw [List.take_take, show min (a + x.size) s.size - a = min x.size (s.size - a) by omega]
  rw [e, hbl, List.take_append_of_le_length (by rw [bl_len]; exact Nat.le_refl _), List.take_of_length_le (by rw [bl_len]; exact Nat.le_refl _)]

set_option maxHeartbeats 16000000 in
set_option maxRecDepth 100000 in
theorem lawMails_any (ao : Option Addr) (n cap : Nat) (w : World) (hcode : Code w w.heap.size ao n) :
    Calls Try.prog 3 #[.slice ao n cap] w fun e w' => e = .returned (.bool true) ∧ Below w.heap.size w w' := by
  have HO := hid hcode
  clear hcode
  by_cases hbig : n ≤ 1048576
  case neg =>
    go_enter Try.func3, Try.ntmps3
    go_wp2_with fail
    refine (bigM_yes ao n cap _ (by omega)).mono ?_; rintro e w' ⟨rfl, h'⟩
    subst h'
    go_wp2_with fail
    go_ret
    exact ⟨rfl, bre _⟩
  go_enter Try.func3, Try.ntmps3
  go_wp2_with fail
  refine (bigM_no ao n cap _ hbig).mono ?_; rintro e w' ⟨rfl, h'⟩
  subst h'
  go_wp2_with fail
  refine (drawMailText_any ao n cap _ hbig HO.out).mono ?_; rintro e w1 ⟨g, u, f, l, t, rfl, hd, ht, hb⟩
  obtain ⟨am, cm, rfl, q1, _, _, q4, _⟩ := hd
  have N1 := hid (bpush (bre w1) (.cells #[.int .i64 g, .int .i64 u, .slice am l.length cm, .string t] 26))
  have KM1 := hid (Mg.new w1 26 g u (.slice am l.length cm) t)
  have RM1 := hid (q4.later N1.out)
  have LM : Hid (l.length ≤ 1048576) := Nat.le_trans q1 (by decide)
  have HT : Hid (t.size ≤ 1048576) := Nat.le_trans ht (by decide)
  have B1 := hid (btr hb N1.out)
  obtain ⟨x, b, hx, hxs, hbm, hbx⟩ := mtR_s g u l t
  have HX := hid hx
  have HBM := hid hbm
  have HBX := hid hbx
  clear hb q1 q4 ht hx hbm hbx
  have e1 := KM1.out.cells
  go_wp2_with fail
  refine (implMailText_any g u am l.length cm l t _ rfl LM.out RM1.out).mono ?_; rintro e w2 ⟨rfl, hb⟩
  rw [HX.out]
  have KM2 := hid (KM1.out.later hb)
  have RM2 := hid (RM1.out.later hb)
  have B2 := hid (btr B1.out hb)
  clear hb e1 KM1 RM1 B1 N1
  obtain ⟨S, hS⟩ : ∃ S : ByteArray, (⟨#[97, 98]⟩ : ByteArray) ++ x ++ (⟨#[99, 100]⟩ : ByteArray) = S := ⟨_, rfl⟩
  have HS := hid hS
  have hSs : S.size ≤ 1048576 := by rw [← hS, ByteArray.size_append, ByteArray.size_append]; show 2 + x.size + 2 ≤ _; omega
  obtain ⟨⟨g1, u1, l1, t1, c1, q1⟩, hrm⟩ : ∃ y, rm6 S 2 = y := ⟨_, rfl⟩
  have C1 : Hid (∀ w, Calls Try.prog 8 #[.string S, .int .i64 2] w fun e w' => ∃ av cv, e = .returned (.tuple #[.agg #[.int .i64 g1, .int .i64 u1, .slice av l1.length cv, .string t1], .int .i64 c1, .bool q1]) ∧ Ow w' w.heap.size (.slice av l1.length cv) l1 ∧ Below w.heap.size w w') := fun w => (implReadMail_any S 2 w hSs).mono fun _ _ h => rm_known hrm h
  have E1 : Hid (b = true → (g1, u1, l1, t1, c1, q1) = (g, u, l, t, 2 + (x.size : Int), true)) := by
    intro hb
    have e := HBX.out hb
    have hm : mlOk g u l t = true := HBM.out.symm.trans hb
    rw [← hrm, e]
    refine rm6_here (R := [99, 100]) hm (by decide) (by rw [← hS, ByteArray.size_append, ByteArray.size_append]; show (2 : Int) ≤ ((2 + x.size + 2 : Nat) : Int); omega) ?_
    rw [← hS, ← e]
    simp only [bl_app]
    rfl
  have L1 : Hid (l1.length ≤ 1048576) := Nat.le_trans (rm6_len hrm) (by decide)
  clear hrm hSs
  go_wp2_with fail
  clear hS
  refine (C1.out _).mono ?_; rintro e w3 ⟨a1, k1, rfl, ho, hb⟩
  have N3 := hid (bpush (bre w3) (.cells #[.int .i64 g1, .int .i64 u1, .slice a1 l1.length k1, .string t1] 26))
  have KX3 := hid (Mg.new w3 26 g1 u1 (.slice a1 l1.length k1) t1)
  have RX3 := hid ((Ow.rs ho).2.later N3.out)
  have KM3 := hid ((KM2.out.later hb).later N3.out)
  have RM3 := hid ((RM2.out.later hb).later N3.out)
  have B3 := hid (btr (btr B2.out hb) N3.out)
  clear ho hb KM2 RM2 B2 C1
  go_wp2_with fail
  refine (drawReadMail_any ao n cap _ hbig (HO.out.over B3.out)).mono ?_; rintro e w4 ⟨s, a, rfl, hss, has, hb⟩
  have KX4 := hid (KX3.out.later hb)
  have RX4 := hid (RX3.out.later hb)
  have KM4 := hid (KM3.out.later hb)
  have RM4 := hid (RM3.out.later hb)
  have B4 := hid (btr B3.out hb)
  have HSS : Hid (s.size ≤ 1048576) := by show _ ≤ _; omega
  have HAS := hid has
  clear hb KX3 RX3 KM3 RM3 B3 hss has N3
  obtain ⟨⟨g2, u2, l2, t2, c2, q2⟩, hrm⟩ : ∃ y, rm6 s (a : Int) = y := ⟨_, rfl⟩
  have CI : Hid (∀ w, Calls Try.prog 8 #[.string s, .int .i64 (a : Int)] w fun e w' => ∃ av cv, e = .returned (.tuple #[.agg #[.int .i64 g2, .int .i64 u2, .slice av l2.length cv, .string t2], .int .i64 c2, .bool q2]) ∧ Ow w' w.heap.size (.slice av l2.length cv) l2 ∧ Below w.heap.size w w') := fun w => (implReadMail_any s a w HSS.out).mono fun _ _ h => rm_known hrm h
  have CS : Hid (∀ w, Calls Try.prog 10 #[.string s, .int .i64 (a : Int)] w fun e w' => ∃ av cv, e = .returned (.tuple #[.agg #[.int .i64 g2, .int .i64 u2, .slice av l2.length cv, .string t2], .int .i64 c2, .bool q2]) ∧ Ow w' w.heap.size (.slice av l2.length cv) l2 ∧ Below w.heap.size w w') := fun w => (specReadMail_any s a w HSS.out).mono fun _ _ h => rm_known hrm h
  have L2 : Hid (l2.length ≤ 1048576) := Nat.le_trans (rm6_len hrm) (by decide)
  obtain ⟨x2, b2, hx2, hx2s, hb2m, hb2x⟩ := mtR_s g2 u2 l2 t2
  have HX2 := hid hx2
  have E2 : Hid (q2 = true → x2.size ≤ (s.extract a s.size).size ∧ (s.extract a s.size).extract 0 x2.size = x2) := by
    intro hq
    rw [hq] at hrm
    obtain ⟨hm, R, hR⟩ := rm6_stood hrm
    rw [hb2x (hb2m.trans hm)]
    exact begins_of (mtx g2 u2 l2 t2) s a HAS.out R (by simpa using hR)
  clear hrm hx2 hb2m hb2x
  go_wp2_with fail
  refine (CI.out _).mono ?_; rintro e w5 ⟨a2, k2, rfl, ho, hb⟩
  have N5 := hid (bpush (bre w5) (.cells #[.int .i64 g2, .int .i64 u2, .slice a2 l2.length k2, .string t2] 26))
  have KY5 := hid (Mg.new w5 26 g2 u2 (.slice a2 l2.length k2) t2)
  have RY5 := hid ((Ow.rs ho).2.later N5.out)
  have KX5 := hid ((KX4.out.later hb).later N5.out)
  have RX5 := hid ((RX4.out.later hb).later N5.out)
  have KM5 := hid ((KM4.out.later hb).later N5.out)
  have RM5 := hid ((RM4.out.later hb).later N5.out)
  have B5 := hid (btr (btr B4.out hb) N5.out)
  clear ho hb KX4 RX4 KM4 RM4 B4 CI N5
  go_wp2_with fail
  refine (CS.out _).mono ?_; rintro e w6 ⟨a3, k3, rfl, ho, hb⟩
  have N6 := hid (bpush (bre w6) (.cells #[.int .i64 g2, .int .i64 u2, .slice a3 l2.length k3, .string t2] 26))
  have KY6 := hid ((KY5.out.later hb).later N6.out)
  have RY6 := hid ((RY5.out.later hb).later N6.out)
  have KX6 := hid ((KX5.out.later hb).later N6.out)
  have RX6 := hid ((RX5.out.later hb).later N6.out)
  have KM6 := hid ((KM5.out.later hb).later N6.out)
  have RM6 := hid ((RM5.out.later hb).later N6.out)
  have B6 := hid (btr (btr B5.out hb) N6.out)
  clear ho hb KY5 RY5 KX5 RX5 KM5 RM5 B5 CS N6
  have e6 := KY6.out.cells
  go_wp2_with fail
  refine (implMailText_any g2 u2 a2 l2.length k2 l2 t2 _ rfl L2.out RY6.out).mono ?_; rintro e w7 ⟨rfl, hb⟩
  rw [HX2.out]
  have KX7 := hid (KX6.out.later hb)
  have RX7 := hid (RX6.out.later hb)
  have KM7 := hid (KM6.out.later hb)
  have RM7 := hid (RM6.out.later hb)
  have B7 := hid (btr B6.out hb)
  clear hb e6 KY6 RY6 KX6 RX6 KM6 RM6 B6
  go_wp2_with fail
  refine (drawJoinMail_any ao n cap _ hbig (HO.out.over B7.out)).mono ?_; rintro e w8 ⟨ga, ua, fa, la, ta, gb, ub, fb, lb, tb, rfl, hA, hB, hta, htb, hb⟩
  obtain ⟨aa, ka, rfl, p1, _, p3, p4, _⟩ := hA
  obtain ⟨ab, kb, rfl, r1, _, r3, r4, _⟩ := hB
  obtain ⟨W8, hW8⟩ : ∃ W8, ((w8.alloc (.cells #[.int .i64 ga, .int .i64 ua, .slice aa la.length ka, .string ta] 26)).alloc (.cells #[.int .i64 gb, .int .i64 ub, .slice ab lb.length kb, .string tb] 26)) = W8 := ⟨_, rfl⟩
  obtain ⟨y0, y1, y2⟩ := two_mails w8 _ _ _ _ _ _ _ _ _ _ W8 hW8
  have KA := hid y0
  have KB := hid y1
  have N8 := hid y2
  have KX8 := hid ((KX7.out.later hb).later y2)
  have RX8 := hid ((RX7.out.later hb).later y2)
  have KM8 := hid ((KM7.out.later hb).later y2)
  have RM8 := hid ((RM7.out.later hb).later y2)
  have RA8 := hid (p4.later y2)
  have RB8 := hid (r4.later y2)
  have B8 := hid (btr (btr B7.out hb) y2)
  have LA : Hid (la.length ≤ 1048576) := Nat.le_trans p1 (by decide)
  have LB : Hid (lb.length ≤ 1048576) := Nat.le_trans r1 (by decide)
  have ZA := hid p3
  have TA : Hid (ta.size ≤ 1048576) := Nat.le_trans hta (by decide)
  have TB : Hid (tb.size ≤ 1048576) := Nat.le_trans htb (by decide)
  have HC : Hid (∀ W, Below W8.heap.size W8 W → (W.cell? ⟨w1.heap.size, 0, none⟩ = some (.int .i64 g) ∧ W.cell? ⟨w1.heap.size, 1, none⟩ = some (.int .i64 u) ∧ W.cell? ⟨w1.heap.size, 2, none⟩ = some (.slice am l.length cm) ∧ W.cell? ⟨w1.heap.size, 3, none⟩ = some (.string t)) ∧ (W.cell? ⟨w3.heap.size, 0, none⟩ = some (.int .i64 g1) ∧ W.cell? ⟨w3.heap.size, 1, none⟩ = some (.int .i64 u1) ∧ W.cell? ⟨w3.heap.size, 2, none⟩ = some (.slice a1 l1.length k1) ∧ W.cell? ⟨w3.heap.size, 3, none⟩ = some (.string t1)) ∧ (W.cell? ⟨w8.heap.size, 0, none⟩ = some (.int .i64 ga) ∧ W.cell? ⟨w8.heap.size, 1, none⟩ = some (.int .i64 ua) ∧ W.cell? ⟨w8.heap.size, 2, none⟩ = some (.slice aa la.length ka) ∧ W.cell? ⟨w8.heap.size, 3, none⟩ = some (.string ta)) ∧ (W.cell? ⟨(w8.heap.size + 1), 0, none⟩ = some (.int .i64 gb) ∧ W.cell? ⟨(w8.heap.size + 1), 1, none⟩ = some (.int .i64 ub) ∧ W.cell? ⟨(w8.heap.size + 1), 2, none⟩ = some (.slice ab lb.length kb) ∧ W.cell? ⟨(w8.heap.size + 1), 3, none⟩ = some (.string tb))) := fun W h => ⟨(KM8.out.later h).cells, (KX8.out.later h).cells, (KA.out.later h).cells, (KB.out.later h).cells⟩
  obtain ⟨jm, hjm⟩ : ∃ j, smail ga ua la ta gb ub lb tb = j := ⟨_, rfl⟩
  have HJ := hid hjm
  obtain ⟨pu, hpu⟩ : ∃ j, jmu ga ua gb ub = j := ⟨_, rfl⟩
  obtain ⟨pt, hpt⟩ : ∃ j, jmt ga ta gb tb = j := ⟨_, rfl⟩
  obtain ⟨pl, hpl⟩ : ∃ j, jml ga la gb lb = j := ⟨_, rfl⟩
  have PU := hid hpu
  have PT := hid hpt
  have PL := hid hpl
  have PN : Hid (pl.length ≤ 1048576) := by
    show pl.length ≤ _
    rw [← hpl]; unfold jml; split
    · rw [jl_len]; have := LA.out; omega
    · exact LA.out
  clear hb p1 p3 p4 r1 r3 r4 hta htb y0 y1 y2 KX7 RX7 KM7 RM7 B7 hjm hpu hpt hpl KX8 KM8
  have cc := HC.out W8 (bre _)
  have hjj : (jm == jm) = true := by simp
  have hqq : (q2 == q2) = true := by simp
  have hcc : (c2 == c2) = true := by simp
  have hbb : (b == b) = true := by simp
  rcases Bool.eq_false_or_eq_true b with rfl | rfl <;> rcases Bool.eq_false_or_eq_true q2 with rfl | rfl
  · have e := E1.out rfl
    simp only [Prod.mk.injEq] at e
    obtain ⟨z1, z2, z3, z4, z5, z6⟩ := e
    have z1 := z1.symm
    have z2 := z2.symm
    have z3 := z3.symm
    have z4 := z4.symm
    subst z1 z2 z3 z4 z5 z6
    have hw2 : IntKind.i64.wrap ((2 : Int) + (x.size : Int)) = 2 + (x.size : Int) := wrap_small _ (by omega) (by omega)
    have e2 := E2.out rfl
    have E21 := hid e2.1
    have E22 := hid e2.2
    have haI : (0 : Int) ≤ (a : Int) ∧ (a : Int) ≤ (s.size : Int) := by have := HAS.out; omega
    clear e2
    go_wp2_with fail
    clear hW8 cc
    have Bz : Hid (Below W8.heap.size W8 W8.drew) := bdr (bre W8)
    dsimp only [List.append]
    refine wp_region_noPanic ?_
    refine wp_region_held_drew (S := fun W => (W.cell? ⟨w1.heap.size, 0, none⟩ = some (.int .i64 g) ∧ W.cell? ⟨w1.heap.size, 1, none⟩ = some (.int .i64 u) ∧ W.cell? ⟨w1.heap.size, 2, none⟩ = some (.slice am l.length cm) ∧ W.cell? ⟨w1.heap.size, 3, none⟩ = some (.string t)) ∧ (W.cell? ⟨w3.heap.size, 0, none⟩ = some (.int .i64 g) ∧ W.cell? ⟨w3.heap.size, 1, none⟩ = some (.int .i64 u) ∧ W.cell? ⟨w3.heap.size, 2, none⟩ = some (.slice a1 l.length k1) ∧ W.cell? ⟨w3.heap.size, 3, none⟩ = some (.string t)) ∧ (W.cell? ⟨w8.heap.size, 0, none⟩ = some (.int .i64 ga) ∧ W.cell? ⟨w8.heap.size, 1, none⟩ = some (.int .i64 ua) ∧ W.cell? ⟨w8.heap.size, 2, none⟩ = some (.slice aa la.length ka) ∧ W.cell? ⟨w8.heap.size, 3, none⟩ = some (.string ta)) ∧ (W.cell? ⟨(w8.heap.size + 1), 0, none⟩ = some (.int .i64 gb) ∧ W.cell? ⟨(w8.heap.size + 1), 1, none⟩ = some (.int .i64 ub) ∧ W.cell? ⟨(w8.heap.size + 1), 2, none⟩ = some (.slice ab lb.length kb) ∧ W.cell? ⟨(w8.heap.size + 1), 3, none⟩ = some (.string tb))) (by kernel_rfl) (HC.out _ Bz.out) (fun hHeld => ?_)
    refine wpAnyH_take (i := 0) (oi := { dst := some 67, op := Op.move (Operand.tmp 5), type := 4, pos := "laws.go:272", after := #[], guard := none }) (v := ?vp0) rfl (by kernel_rfl) (by kernel_rfl) (by kernel_rfl) (fun _ _ _ h => h) (Or.inl ⟨by rfl, ?hyp0⟩) (by assumption) ?restp0
    case hyp0 => (intro w hSw; (try dsimp only at hSw); go_simp; try with_reducible rfl)
    try simp only [Act.put, List.setIfInBounds_toArray, List.set_cons_zero, List.set_cons_succ]
    refine wpAnyH_take (i := 1) (oi := { dst := some 68, op := Op.load 26 (Operand.tmp 3), type := 26, pos := "laws.go:272", after := #[], guard := none }) (v := ?vp1) rfl (by kernel_rfl) (by kernel_rfl) (by kernel_rfl) (fun _ _ _ h => h) (Or.inl ⟨by rfl, ?hyp1⟩) (by assumption) ?restp1
    case hyp1 => (intro w hSw; (try dsimp only at hSw); go_simp; try with_reducible rfl)
    try simp only [Act.put, List.setIfInBounds_toArray, List.set_cons_zero, List.set_cons_succ]
    clear hHeld
    refine wpAnyH_ready (rs := [2]) (by kernel_rfl) (by simp) ?_
    refine AllReadyH.cons (o := { dst := some 69, op := Op.call { callee := Callee.value (Operand.func 12), args := #[Operand.tmp 68], argTypes := #[26] }, type := 4, pos := "laws.go:272", after := #[{ on := 1, ground := Ground.data }], guard := none }) rfl (fun K hK => ?_) AllReadyH.nil
    go_simp
    refine (specMailOk_any g u am l.length cm l t _ rfl LM.out (RM8.out.later Bz.out)).mono ?_; rintro e v1 ⟨rfl, hb⟩
    rw [← HBM.out]
    have Bv1 : Hid (Below W8.heap.size W8 v1) := btr Bz.out hb
    clear hb
    go_wp2_with fail
    refine hK.out _ _ (HC.out _ Bv1.out) (fun hHeld => ?_)
    clear hK K
    try simp only [Act.put, List.setIfInBounds_toArray, List.set_cons_zero, List.set_cons_succ]
    refine wpAnyH_take (i := 3) (oi := { dst := some 70, op := Op.binOp BinOp.eql 4 (Operand.tmp 67) (Operand.tmp 69) 4, type := 4, pos := "laws.go:272", after := #[{ on := 0, ground := Ground.data }, { on := 2, ground := Ground.data }], guard := none }) (v := ?vp3) rfl (by kernel_rfl) (by kernel_rfl) (by kernel_rfl) (fun _ _ _ h => h) (Or.inl ⟨by rfl, ?hyp3⟩) (by assumption) ?restp3
    case hyp3 => (intro w hSw; (try dsimp only at hSw); go_simp; try with_reducible rfl)
    try simp only [Act.put, List.setIfInBounds_toArray, List.set_cons_zero, List.set_cons_succ]
    refine wpAnyH_take (i := 4) (oi := { dst := some 71, op := Op.move (Operand.tmp 70), type := 4, pos := "laws.go:272", after := #[{ on := 3, ground := Ground.data }, { on := 2, ground := Ground.chain }], guard := none }) (v := ?vp4) rfl (by kernel_rfl) (by kernel_rfl) (by kernel_rfl) (fun _ _ _ h => h) (Or.inl ⟨by rfl, ?hyp4⟩) (by assumption) ?restp4
    case hyp4 => (intro w hSw; (try dsimp only at hSw); go_simp; try with_reducible rfl)
    try simp only [Act.put, List.setIfInBounds_toArray, List.set_cons_zero, List.set_cons_succ]
    refine wpAnyH_take (i := 5) (oi := { dst := some 72, op := Op.load 26 (Operand.tmp 3), type := 26, pos := "laws.go:272", after := #[{ on := 4, ground := Ground.guard }], guard := some (4, true) }) (v := ?vp5) rfl (by kernel_rfl) (by kernel_rfl) (by kernel_rfl) (fun _ _ _ h => h) (Or.inl ⟨by rfl, ?hyp5⟩) (by assumption) ?restp5
    case hyp5 => (intro w hSw; (try dsimp only at hSw); go_simp; try with_reducible rfl)
    try simp only [Act.put, List.setIfInBounds_toArray, List.set_cons_zero, List.set_cons_succ]
    refine wpAnyH_take (i := 7) (oi := { dst := some 74, op := Op.move (Operand.tmp 5), type := 4, pos := "laws.go:272", after := #[{ on := 4, ground := Ground.guard }], guard := some (4, true) }) (v := ?vp7) rfl (by kernel_rfl) (by kernel_rfl) (by kernel_rfl) (fun _ _ _ h => h) (Or.inl ⟨by rfl, ?hyp7⟩) (by assumption) ?restp7
    case hyp7 => (intro w hSw; (try dsimp only at hSw); go_simp; try with_reducible rfl)
    try simp only [Act.put, List.setIfInBounds_toArray, List.set_cons_zero, List.set_cons_succ]
    clear hHeld
    refine wpAnyH_ready (rs := [6]) (by kernel_rfl) (by simp) ?_
    refine AllReadyH.cons (o := { dst := some 73, op := Op.call { callee := Callee.value (Operand.func 13), args := #[Operand.tmp 72], argTypes := #[26] }, type := 4, pos := "laws.go:272", after := #[{ on := 5, ground := Ground.data }, { on := 4, ground := Ground.chain }, { on := 4, ground := Ground.guard }], guard := some (4, true) }) rfl (fun K hK => ?_) AllReadyH.nil
    go_simp
    refine (implMailOk_any g u am l.length cm l t _ rfl LM.out (RM8.out.later Bv1.out)).mono ?_; rintro e v2 ⟨rfl, hb⟩
    rw [← HBM.out]
    have Bv2 : Hid (Below W8.heap.size W8 v2) := btr Bv1.out hb
    clear hb
    go_wp2_with fail
    refine hK.out _ _ (HC.out _ Bv2.out) (fun hHeld => ?_)
    clear hK K
    try simp only [Act.put, List.setIfInBounds_toArray, List.set_cons_zero, List.set_cons_succ]
    refine wpAnyH_take (i := 8) (oi := { dst := some 75, op := Op.binOp BinOp.eql 4 (Operand.tmp 73) (Operand.tmp 74) 4, type := 4, pos := "laws.go:272", after := #[{ on := 6, ground := Ground.data }, { on := 7, ground := Ground.data }, { on := 4, ground := Ground.guard }], guard := some (4, true) }) (v := ?vp8) rfl (by kernel_rfl) (by kernel_rfl) (by kernel_rfl) (fun _ _ _ h => h) (Or.inl ⟨by rfl, ?hyp8⟩) (by assumption) ?restp8
    case hyp8 => (intro w hSw; (try dsimp only at hSw); go_simp; try with_reducible rfl)
    try simp only [Act.put, List.setIfInBounds_toArray, List.set_cons_zero, List.set_cons_succ]
    refine wpAnyH_take (i := 9) (oi := { dst := some 76, op := Op.pick (Operand.tmp 71) (Operand.tmp 75) (Operand.const (Value.bool false)), type := 4, pos := "laws.go:272", after := #[{ on := 4, ground := Ground.data }, { on := 8, ground := Ground.data }], guard := none }) (v := ?vp9) rfl (by kernel_rfl) (by kernel_rfl) (by kernel_rfl) (fun _ _ _ h => h) (Or.inl ⟨by rfl, ?hyp9⟩) (by assumption) ?restp9
    case hyp9 => (intro w hSw; (try dsimp only at hSw); go_simp; try with_reducible rfl)
    try simp only [Act.put, List.setIfInBounds_toArray, List.set_cons_zero, List.set_cons_succ]
    refine wpAnyH_take (i := 10) (oi := { dst := some 77, op := Op.move (Operand.tmp 76), type := 4, pos := "laws.go:272", after := #[{ on := 9, ground := Ground.data }, { on := 6, ground := Ground.chain }], guard := none }) (v := ?vp10) rfl (by kernel_rfl) (by kernel_rfl) (by kernel_rfl) (fun _ _ _ h => h) (Or.inl ⟨by rfl, ?hyp10⟩) (by assumption) ?restp10
    case hyp10 => (intro w hSw; (try dsimp only at hSw); go_simp; try with_reducible rfl)
    try simp only [Act.put, List.setIfInBounds_toArray, List.set_cons_zero, List.set_cons_succ]
    refine wpAnyH_take (i := 11) (oi := { dst := some 78, op := Op.move (Operand.tmp 5), type := 4, pos := "laws.go:272", after := #[{ on := 10, ground := Ground.guard }], guard := some (10, true) }) (v := ?vp11) rfl (by kernel_rfl) (by kernel_rfl) (by kernel_rfl) (fun _ _ _ h => h) (Or.inl ⟨by rfl, ?hyp11⟩) (by assumption) ?restp11
    case hyp11 => (intro w hSw; (try dsimp only at hSw); go_simp; try with_reducible rfl)
    try simp only [Act.put, List.setIfInBounds_toArray, List.set_cons_zero, List.set_cons_succ]
    refine wpAnyH_take (i := 12) (oi := { dst := some 79, op := Op.unOp UnOp.not 4 (Operand.tmp 78), type := 4, pos := "laws.go:272", after := #[{ on := 11, ground := Ground.data }, { on := 10, ground := Ground.guard }], guard := some (10, true) }) (v := ?vp12) rfl (by kernel_rfl) (by kernel_rfl) (by kernel_rfl) (fun _ _ _ h => h) (Or.inl ⟨by rfl, ?hyp12⟩) (by assumption) ?restp12
    case hyp12 => (intro w hSw; (try dsimp only at hSw); go_simp; try with_reducible rfl)
    try simp only [Act.put, List.setIfInBounds_toArray, List.set_cons_zero, List.set_cons_succ]
    refine wpAnyH_take (i := 13) (oi := { dst := some 80, op := Op.move (Operand.tmp 79), type := 4, pos := "laws.go:272", after := #[{ on := 12, ground := Ground.data }, { on := 10, ground := Ground.chain }, { on := 10, ground := Ground.guard }], guard := some (10, true) }) (v := ?vp13) rfl (by kernel_rfl) (by kernel_rfl) (by kernel_rfl) (fun _ _ _ h => h) (Or.inl ⟨by rfl, ?hyp13⟩) (by assumption) ?restp13
    case hyp13 => (intro w hSw; (try dsimp only at hSw); go_simp; try with_reducible rfl)
    try simp only [Act.put, List.setIfInBounds_toArray, List.set_cons_zero, List.set_cons_succ]
    refine wpAnyH_take (i := 14) (oi := { dst := some 81, op := Op.move (Operand.tmp 8), type := 4, pos := "laws.go:272", after := #[{ on := 13, ground := Ground.guard }], guard := some (13, false) }) (v := ?vp14) rfl (by kernel_rfl) (by kernel_rfl) (by kernel_rfl) (fun _ _ _ h => h) (Or.inl ⟨by rfl, ?hyp14⟩) (by assumption) ?restp14
    case hyp14 => (intro w hSw; (try dsimp only at hSw); go_simp; try with_reducible rfl)
    try simp only [Act.put, List.setIfInBounds_toArray, List.set_cons_zero, List.set_cons_succ]
    refine wpAnyH_take (i := 15) (oi := { dst := some 82, op := Op.move (Operand.tmp 81), type := 4, pos := "laws.go:272", after := #[{ on := 14, ground := Ground.data }, { on := 13, ground := Ground.chain }, { on := 13, ground := Ground.guard }], guard := some (13, false) }) (v := ?vp15) rfl (by kernel_rfl) (by kernel_rfl) (by kernel_rfl) (fun _ _ _ h => h) (Or.inl ⟨by rfl, ?hyp15⟩) (by assumption) ?restp15
    case hyp15 => (intro w hSw; (try dsimp only at hSw); go_simp; try with_reducible rfl)
    try simp only [Act.put, List.setIfInBounds_toArray, List.set_cons_zero, List.set_cons_succ]
    refine wpAnyH_take (i := 16) (oi := { dst := some 83, op := Op.load 26 (Operand.tmp 6), type := 26, pos := "laws.go:272", after := #[{ on := 15, ground := Ground.guard }], guard := some (15, true) }) (v := ?vp16) rfl (by kernel_rfl) (by kernel_rfl) (by kernel_rfl) (fun _ _ _ h => h) (Or.inl ⟨by rfl, ?hyp16⟩) (by assumption) ?restp16
    case hyp16 => (intro w hSw; (try dsimp only at hSw); go_simp; try with_reducible rfl)
    try simp only [Act.put, List.setIfInBounds_toArray, List.set_cons_zero, List.set_cons_succ]
    refine wpAnyH_take (i := 17) (oi := { dst := some 84, op := Op.load 26 (Operand.tmp 3), type := 26, pos := "laws.go:272", after := #[{ on := 15, ground := Ground.guard }], guard := some (15, true) }) (v := ?vp17) rfl (by kernel_rfl) (by kernel_rfl) (by kernel_rfl) (fun _ _ _ h => h) (Or.inl ⟨by rfl, ?hyp17⟩) (by assumption) ?restp17
    case hyp17 => (intro w hSw; (try dsimp only at hSw); go_simp; try with_reducible rfl)
    try simp only [Act.put, List.setIfInBounds_toArray, List.set_cons_zero, List.set_cons_succ]
    clear hHeld
    refine wpAnyH_ready (rs := [18]) (by kernel_rfl) (by simp) ?_
    refine AllReadyH.cons (o := { dst := some 85, op := Op.call { callee := Callee.value (Operand.func 14), args := #[Operand.tmp 83, Operand.tmp 84], argTypes := #[26, 26] }, type := 4, pos := "laws.go:272", after := #[{ on := 16, ground := Ground.data }, { on := 17, ground := Ground.data }, { on := 15, ground := Ground.chain }, { on := 15, ground := Ground.guard }], guard := some (15, true) }) rfl (fun K hK => ?_) AllReadyH.nil
    go_simp
    refine (specSame_any g u a1 l.length k1 l t g u am l.length cm l t _ rfl rfl LM.out (RX8.out.later Bv2.out) (RM8.out.later Bv2.out)).mono ?_; rintro e v3 ⟨rfl, hb⟩
    rw [smail_self]
    have Bv3 : Hid (Below W8.heap.size W8 v3) := btr Bv2.out hb
    clear hb
    go_wp2_with fail
    refine hK.out _ _ (HC.out _ Bv3.out) (fun hHeld => ?_)
    clear hK K
    try simp only [Act.put, List.setIfInBounds_toArray, List.set_cons_zero, List.set_cons_succ]
    refine wpAnyH_take (i := 19) (oi := { dst := some 86, op := Op.pick (Operand.tmp 82) (Operand.tmp 85) (Operand.const (Value.bool false)), type := 4, pos := "laws.go:272", after := #[{ on := 15, ground := Ground.data }, { on := 18, ground := Ground.data }, { on := 13, ground := Ground.guard }], guard := some (13, false) }) (v := ?vp19) rfl (by kernel_rfl) (by kernel_rfl) (by kernel_rfl) (fun _ _ _ h => h) (Or.inl ⟨by rfl, ?hyp19⟩) (by assumption) ?restp19
    case hyp19 => (intro w hSw; (try dsimp only at hSw); go_simp; try with_reducible rfl)
    try simp only [Act.put, List.setIfInBounds_toArray, List.set_cons_zero, List.set_cons_succ]
    refine wpAnyH_take (i := 20) (oi := { dst := some 87, op := Op.move (Operand.tmp 86), type := 4, pos := "laws.go:272", after := #[{ on := 19, ground := Ground.data }, { on := 18, ground := Ground.chain }, { on := 13, ground := Ground.guard }], guard := some (13, false) }) (v := ?vp20) rfl (by kernel_rfl) (by kernel_rfl) (by kernel_rfl) (fun _ _ _ h => h) (Or.inl ⟨by rfl, ?hyp20⟩) (by assumption) ?restp20
    case hyp20 => (intro w hSw; (try dsimp only at hSw); go_simp; try with_reducible rfl)
    try simp only [Act.put, List.setIfInBounds_toArray, List.set_cons_zero, List.set_cons_succ]
    refine wpAnyH_take (i := 21) (oi := { dst := some 88, op := Op.move (Operand.tmp 7), type := 3, pos := "laws.go:272", after := #[{ on := 20, ground := Ground.guard }], guard := some (20, true) }) (v := ?vp21) rfl (by kernel_rfl) (by kernel_rfl) (by kernel_rfl) (fun _ _ _ h => h) (Or.inl ⟨by rfl, ?hyp21⟩) (by assumption) ?restp21
    case hyp21 => (intro w hSw; (try dsimp only at hSw); go_simp; try with_reducible rfl)
    try simp only [Act.put, List.setIfInBounds_toArray, List.set_cons_zero, List.set_cons_succ]
    refine wpAnyH_take (i := 22) (oi := { dst := some 89, op := Op.move (Operand.tmp 4), type := 9, pos := "laws.go:272", after := #[{ on := 20, ground := Ground.guard }], guard := some (20, true) }) (v := ?vp22) rfl (by kernel_rfl) (by kernel_rfl) (by kernel_rfl) (fun _ _ _ h => h) (Or.inl ⟨by rfl, ?hyp22⟩) (by assumption) ?restp22
    case hyp22 => (intro w hSw; (try dsimp only at hSw); go_simp; try with_reducible rfl)
    try simp only [Act.put, List.setIfInBounds_toArray, List.set_cons_zero, List.set_cons_succ]
    refine wpAnyH_take (i := 23) (oi := { dst := some 90, op := Op.call { callee := Callee.builtin Builtin.len, args := #[Operand.tmp 89], argTypes := #[9] }, type := 3, pos := "laws.go:272", after := #[{ on := 22, ground := Ground.data }, { on := 20, ground := Ground.guard }], guard := some (20, true) }) (v := ?vp23) rfl (by kernel_rfl) (by kernel_rfl) (by kernel_rfl) (fun _ _ _ h => h) (Or.inl ⟨by rfl, ?hyp23⟩) (by assumption) ?restp23
    case hyp23 => (intro w hSw; (try dsimp only at hSw); go_simp; try with_reducible rfl)
    try simp only [Act.put, List.setIfInBounds_toArray, List.set_cons_zero, List.set_cons_succ]
    refine wpAnyH_take (i := 24) (oi := { dst := some 91, op := Op.binOp BinOp.add 3 (Operand.const (Value.int IntKind.i64 2)) (Operand.tmp 90) 3, type := 3, pos := "laws.go:272", after := #[{ on := 23, ground := Ground.data }, { on := 20, ground := Ground.guard }], guard := some (20, true) }) (v := ?vp24) rfl (by kernel_rfl) (by kernel_rfl) (by kernel_rfl) (fun _ _ _ h => h) (Or.inl ⟨by rfl, ?hyp24⟩) (by assumption) ?restp24
    case hyp24 => (intro w hSw; (try dsimp only at hSw); go_simp; try with_reducible rfl)
    try simp only [Act.put, List.setIfInBounds_toArray, List.set_cons_zero, List.set_cons_succ]
    refine wpAnyH_take (i := 25) (oi := { dst := some 92, op := Op.binOp BinOp.eql 3 (Operand.tmp 88) (Operand.tmp 91) 3, type := 4, pos := "laws.go:272", after := #[{ on := 21, ground := Ground.data }, { on := 24, ground := Ground.data }, { on := 20, ground := Ground.guard }], guard := some (20, true) }) (v := ?vp25) rfl (by kernel_rfl) (by kernel_rfl) (by kernel_rfl) (fun _ _ _ h => h) (Or.inl ⟨by rfl, ?hyp25⟩) (by assumption) ?restp25
    case hyp25 => (intro w hSw; (try dsimp only at hSw); go_simp; try with_reducible rfl)
    try simp only [Act.put, List.setIfInBounds_toArray, List.set_cons_zero, List.set_cons_succ]
    refine wpAnyH_take (i := 26) (oi := { dst := some 93, op := Op.pick (Operand.tmp 87) (Operand.tmp 92) (Operand.const (Value.bool false)), type := 4, pos := "laws.go:272", after := #[{ on := 20, ground := Ground.data }, { on := 25, ground := Ground.data }, { on := 13, ground := Ground.guard }], guard := some (13, false) }) (v := ?vp26) rfl (by kernel_rfl) (by kernel_rfl) (by kernel_rfl) (fun _ _ _ h => h) (Or.inl ⟨by rfl, ?hyp26⟩) (by assumption) ?restp26
    case hyp26 => (intro w hSw; (try dsimp only at hSw); go_simp; try with_reducible rfl)
    try simp only [Act.put, List.setIfInBounds_toArray, List.set_cons_zero, List.set_cons_succ]
    refine wpAnyH_take (i := 27) (oi := { dst := some 94, op := Op.pick (Operand.tmp 80) (Operand.const (Value.bool true)) (Operand.tmp 93), type := 4, pos := "laws.go:272", after := #[{ on := 13, ground := Ground.data }, { on := 26, ground := Ground.data }, { on := 10, ground := Ground.guard }], guard := some (10, true) }) (v := ?vp27) rfl (by kernel_rfl) (by kernel_rfl) (by kernel_rfl) (fun _ _ _ h => h) (Or.inl ⟨by rfl, ?hyp27⟩) (by assumption) ?restp27
    case hyp27 => (intro w hSw; (try dsimp only at hSw); go_simp; try with_reducible rfl)
    try simp only [Act.put, List.setIfInBounds_toArray, List.set_cons_zero, List.set_cons_succ]
    refine wpAnyH_take (i := 28) (oi := { dst := some 95, op := Op.pick (Operand.tmp 77) (Operand.tmp 94) (Operand.const (Value.bool false)), type := 4, pos := "laws.go:272", after := #[{ on := 10, ground := Ground.data }, { on := 27, ground := Ground.data }], guard := none }) (v := ?vp28) rfl (by kernel_rfl) (by kernel_rfl) (by kernel_rfl) (fun _ _ _ h => h) (Or.inl ⟨by rfl, ?hyp28⟩) (by assumption) ?restp28
    case hyp28 => (intro w hSw; (try dsimp only at hSw); go_simp; try with_reducible rfl)
    try simp only [Act.put, List.setIfInBounds_toArray, List.set_cons_zero, List.set_cons_succ]
    refine wpAnyH_take (i := 29) (oi := { dst := some 96, op := Op.move (Operand.tmp 95), type := 4, pos := "laws.go:272", after := #[{ on := 28, ground := Ground.data }, { on := 20, ground := Ground.chain }], guard := none }) (v := ?vp29) rfl (by kernel_rfl) (by kernel_rfl) (by kernel_rfl) (fun _ _ _ h => h) (Or.inl ⟨by rfl, ?hyp29⟩) (by assumption) ?restp29
    case hyp29 => (intro w hSw; (try dsimp only at hSw); go_simp; try with_reducible rfl)
    try simp only [Act.put, List.setIfInBounds_toArray, List.set_cons_zero, List.set_cons_succ]
    refine wpAnyH_take (i := 30) (oi := { dst := some 97, op := Op.move (Operand.tmp 13), type := 4, pos := "laws.go:272", after := #[{ on := 29, ground := Ground.guard }], guard := some (29, true) }) (v := ?vp30) rfl (by kernel_rfl) (by kernel_rfl) (by kernel_rfl) (fun _ _ _ h => h) (Or.inl ⟨by rfl, ?hyp30⟩) (by assumption) ?restp30
    case hyp30 => (intro w hSw; (try dsimp only at hSw); go_simp; try with_reducible rfl)
    try simp only [Act.put, List.setIfInBounds_toArray, List.set_cons_zero, List.set_cons_succ]
    refine wpAnyH_take (i := 31) (oi := { dst := some 98, op := Op.move (Operand.tmp 16), type := 4, pos := "laws.go:272", after := #[{ on := 29, ground := Ground.guard }], guard := some (29, true) }) (v := ?vp31) rfl (by kernel_rfl) (by kernel_rfl) (by kernel_rfl) (fun _ _ _ h => h) (Or.inl ⟨by rfl, ?hyp31⟩) (by assumption) ?restp31
    case hyp31 => (intro w hSw; (try dsimp only at hSw); go_simp; try with_reducible rfl)
    try simp only [Act.put, List.setIfInBounds_toArray, List.set_cons_zero, List.set_cons_succ]
    refine wpAnyH_take (i := 32) (oi := { dst := some 99, op := Op.binOp BinOp.eql 4 (Operand.tmp 97) (Operand.tmp 98) 4, type := 4, pos := "laws.go:272", after := #[{ on := 30, ground := Ground.data }, { on := 31, ground := Ground.data }, { on := 29, ground := Ground.guard }], guard := some (29, true) }) (v := ?vp32) rfl (by kernel_rfl) (by kernel_rfl) (by kernel_rfl) (fun _ _ _ h => h) (Or.inl ⟨by rfl, ?hyp32⟩) (by assumption) ?restp32
    case hyp32 => (intro w hSw; (try dsimp only at hSw); go_simp; try with_reducible rfl)
    try simp only [Act.put, List.setIfInBounds_toArray, List.set_cons_zero, List.set_cons_succ]
    refine wpAnyH_take (i := 33) (oi := { dst := some 100, op := Op.pick (Operand.tmp 96) (Operand.tmp 99) (Operand.const (Value.bool false)), type := 4, pos := "laws.go:272", after := #[{ on := 29, ground := Ground.data }, { on := 32, ground := Ground.data }], guard := none }) (v := ?vp33) rfl (by kernel_rfl) (by kernel_rfl) (by kernel_rfl) (fun _ _ _ h => h) (Or.inl ⟨by rfl, ?hyp33⟩) (by assumption) ?restp33
    case hyp33 => (intro w hSw; (try dsimp only at hSw); go_simp; try with_reducible rfl)
    try simp only [Act.put, List.setIfInBounds_toArray, List.set_cons_zero, List.set_cons_succ]
    refine wpAnyH_take (i := 34) (oi := { dst := some 101, op := Op.move (Operand.tmp 100), type := 4, pos := "laws.go:272", after := #[{ on := 33, ground := Ground.data }, { on := 29, ground := Ground.chain }], guard := none }) (v := ?vp34) rfl (by kernel_rfl) (by kernel_rfl) (by kernel_rfl) (fun _ _ _ h => h) (Or.inl ⟨by rfl, ?hyp34⟩) (by assumption) ?restp34
    case hyp34 => (intro w hSw; (try dsimp only at hSw); go_simp; try with_reducible rfl)
    try simp only [Act.put, List.setIfInBounds_toArray, List.set_cons_zero, List.set_cons_succ]
    refine wpAnyH_take (i := 35) (oi := { dst := some 102, op := Op.move (Operand.tmp 12), type := 3, pos := "laws.go:272", after := #[{ on := 34, ground := Ground.guard }], guard := some (34, true) }) (v := ?vp35) rfl (by kernel_rfl) (by kernel_rfl) (by kernel_rfl) (fun _ _ _ h => h) (Or.inl ⟨by rfl, ?hyp35⟩) (by assumption) ?restp35
    case hyp35 => (intro w hSw; (try dsimp only at hSw); go_simp; try with_reducible rfl)
    try simp only [Act.put, List.setIfInBounds_toArray, List.set_cons_zero, List.set_cons_succ]
    refine wpAnyH_take (i := 36) (oi := { dst := some 103, op := Op.move (Operand.tmp 15), type := 3, pos := "laws.go:272", after := #[{ on := 34, ground := Ground.guard }], guard := some (34, true) }) (v := ?vp36) rfl (by kernel_rfl) (by kernel_rfl) (by kernel_rfl) (fun _ _ _ h => h) (Or.inl ⟨by rfl, ?hyp36⟩) (by assumption) ?restp36
    case hyp36 => (intro w hSw; (try dsimp only at hSw); go_simp; try with_reducible rfl)
    try simp only [Act.put, List.setIfInBounds_toArray, List.set_cons_zero, List.set_cons_succ]
    refine wpAnyH_take (i := 37) (oi := { dst := some 104, op := Op.binOp BinOp.eql 3 (Operand.tmp 102) (Operand.tmp 103) 3, type := 4, pos := "laws.go:272", after := #[{ on := 35, ground := Ground.data }, { on := 36, ground := Ground.data }, { on := 34, ground := Ground.guard }], guard := some (34, true) }) (v := ?vp37) rfl (by kernel_rfl) (by kernel_rfl) (by kernel_rfl) (fun _ _ _ h => h) (Or.inl ⟨by rfl, ?hyp37⟩) (by assumption) ?restp37
    case hyp37 => (intro w hSw; (try dsimp only at hSw); go_simp; try with_reducible rfl)
    try simp only [Act.put, List.setIfInBounds_toArray, List.set_cons_zero, List.set_cons_succ]
    refine wpAnyH_take (i := 38) (oi := { dst := some 105, op := Op.pick (Operand.tmp 101) (Operand.tmp 104) (Operand.const (Value.bool false)), type := 4, pos := "laws.go:272", after := #[{ on := 34, ground := Ground.data }, { on := 37, ground := Ground.data }], guard := none }) (v := ?vp38) rfl (by kernel_rfl) (by kernel_rfl) (by kernel_rfl) (fun _ _ _ h => h) (Or.inl ⟨by rfl, ?hyp38⟩) (by assumption) ?restp38
    case hyp38 => (intro w hSw; (try dsimp only at hSw); go_simp; try with_reducible rfl)
    try simp only [Act.put, List.setIfInBounds_toArray, List.set_cons_zero, List.set_cons_succ]
    refine wpAnyH_take (i := 39) (oi := { dst := some 106, op := Op.move (Operand.tmp 105), type := 4, pos := "laws.go:272", after := #[{ on := 38, ground := Ground.data }, { on := 34, ground := Ground.chain }], guard := none }) (v := ?vp39) rfl (by kernel_rfl) (by kernel_rfl) (by kernel_rfl) (fun _ _ _ h => h) (Or.inl ⟨by rfl, ?hyp39⟩) (by assumption) ?restp39
    case hyp39 => (intro w hSw; (try dsimp only at hSw); go_simp; try with_reducible rfl)
    try simp only [Act.put, List.setIfInBounds_toArray, List.set_cons_zero, List.set_cons_succ]
    refine wpAnyH_take (i := 40) (oi := { dst := some 107, op := Op.move (Operand.tmp 13), type := 4, pos := "laws.go:272", after := #[{ on := 39, ground := Ground.guard }], guard := some (39, true) }) (v := ?vp40) rfl (by kernel_rfl) (by kernel_rfl) (by kernel_rfl) (fun _ _ _ h => h) (Or.inl ⟨by rfl, ?hyp40⟩) (by assumption) ?restp40
    case hyp40 => (intro w hSw; (try dsimp only at hSw); go_simp; try with_reducible rfl)
    try simp only [Act.put, List.setIfInBounds_toArray, List.set_cons_zero, List.set_cons_succ]
    refine wpAnyH_take (i := 41) (oi := { dst := some 108, op := Op.unOp UnOp.not 4 (Operand.tmp 107), type := 4, pos := "laws.go:272", after := #[{ on := 40, ground := Ground.data }, { on := 39, ground := Ground.guard }], guard := some (39, true) }) (v := ?vp41) rfl (by kernel_rfl) (by kernel_rfl) (by kernel_rfl) (fun _ _ _ h => h) (Or.inl ⟨by rfl, ?hyp41⟩) (by assumption) ?restp41
    case hyp41 => (intro w hSw; (try dsimp only at hSw); go_simp; try with_reducible rfl)
    try simp only [Act.put, List.setIfInBounds_toArray, List.set_cons_zero, List.set_cons_succ]
    refine wpAnyH_take (i := 42) (oi := { dst := some 109, op := Op.move (Operand.tmp 108), type := 4, pos := "laws.go:272", after := #[{ on := 41, ground := Ground.data }, { on := 39, ground := Ground.chain }, { on := 39, ground := Ground.guard }], guard := some (39, true) }) (v := ?vp42) rfl (by kernel_rfl) (by kernel_rfl) (by kernel_rfl) (fun _ _ _ h => h) (Or.inl ⟨by rfl, ?hyp42⟩) (by assumption) ?restp42
    case hyp42 => (intro w hSw; (try dsimp only at hSw); go_simp; try with_reducible rfl)
    try simp only [Act.put, List.setIfInBounds_toArray, List.set_cons_zero, List.set_cons_succ]
    refine wpAnyH_take (i := 43) (oi := { dst := some 110, op := Op.move (Operand.tmp 17), type := 9, pos := "laws.go:272", after := #[{ on := 42, ground := Ground.guard }], guard := some (42, false) }) (v := ?vp43) rfl (by kernel_rfl) (by kernel_rfl) (by kernel_rfl) (fun _ _ _ h => h) (Or.inl ⟨by rfl, ?hyp43⟩) (by assumption) ?restp43
    case hyp43 => (intro w hSw; (try dsimp only at hSw); go_simp; try with_reducible rfl)
    try simp only [Act.put, List.setIfInBounds_toArray, List.set_cons_zero, List.set_cons_succ]
    refine wpAnyH_take (i := 44) (oi := { dst := some 111, op := Op.move (Operand.tmp 9), type := 9, pos := "laws.go:272", after := #[{ on := 42, ground := Ground.guard }], guard := some (42, false) }) (v := ?vp44) rfl (by kernel_rfl) (by kernel_rfl) (by kernel_rfl) (fun _ _ _ h => h) (Or.inl ⟨by rfl, ?hyp44⟩) (by assumption) ?restp44
    case hyp44 => (intro w hSw; (try dsimp only at hSw); go_simp; try with_reducible rfl)
    try simp only [Act.put, List.setIfInBounds_toArray, List.set_cons_zero, List.set_cons_succ]
    refine wpAnyH_take (i := 45) (oi := { dst := some 112, op := Op.move (Operand.tmp 10), type := 3, pos := "laws.go:272", after := #[{ on := 42, ground := Ground.guard }], guard := some (42, false) }) (v := ?vp45) rfl (by kernel_rfl) (by kernel_rfl) (by kernel_rfl) (fun _ _ _ h => h) (Or.inl ⟨by rfl, ?hyp45⟩) (by assumption) ?restp45
    case hyp45 => (intro w hSw; (try dsimp only at hSw); go_simp; try with_reducible rfl)
    try simp only [Act.put, List.setIfInBounds_toArray, List.set_cons_zero, List.set_cons_succ]
    refine wpAnyH_take (i := 46) (oi := { dst := some 113, op := Op.slice 9 (Operand.tmp 111) (some (Operand.tmp 112)) none none, type := 9, pos := "laws.go:272", after := #[{ on := 44, ground := Ground.data }, { on := 45, ground := Ground.data }, { on := 42, ground := Ground.guard }], guard := some (42, false) }) (v := ?vp46) rfl (by kernel_rfl) (by kernel_rfl) (by kernel_rfl) (fun _ _ _ h => h) (Or.inl ⟨by rfl, ?hyp46⟩) (by assumption) ?restp46
    case hyp46 => (intro w hSw; (try dsimp only at hSw); go_simp; try with_reducible rfl)
    try simp only [Act.put, List.setIfInBounds_toArray, List.set_cons_zero, List.set_cons_succ]
    clear hHeld
    refine wpAnyH_ready (rs := [47]) (by kernel_rfl) (by simp) ?_
    refine AllReadyH.cons (o := { dst := some 114, op := Op.call { callee := Callee.value (Operand.func 15), args := #[Operand.tmp 110, Operand.tmp 113], argTypes := #[9, 9] }, type := 4, pos := "laws.go:272", after := #[{ on := 43, ground := Ground.data }, { on := 46, ground := Ground.data }, { on := 42, ground := Ground.chain }, { on := 42, ground := Ground.guard }], guard := some (42, false) }) rfl (fun K hK => ?_) AllReadyH.nil
    go_simp
    refine (begins_yes x2 (s.extract a s.size) _ E21.out E22.out).mono ?_; rintro e v4 ⟨rfl, hb⟩
    have Bv4 : Hid (Below W8.heap.size W8 v4) := btr Bv3.out hb
    clear hb
    go_wp2_with fail
    refine hK.out _ _ (HC.out _ Bv4.out) (fun hHeld => ?_)
    clear hK K
    try simp only [Act.put, List.setIfInBounds_toArray, List.set_cons_zero, List.set_cons_succ]
    refine wpAnyH_take (i := 48) (oi := { dst := some 115, op := Op.pick (Operand.tmp 109) (Operand.const (Value.bool true)) (Operand.tmp 114), type := 4, pos := "laws.go:272", after := #[{ on := 42, ground := Ground.data }, { on := 47, ground := Ground.data }, { on := 39, ground := Ground.guard }], guard := some (39, true) }) (v := ?vp48) rfl (by kernel_rfl) (by kernel_rfl) (by kernel_rfl) (fun _ _ _ h => h) (Or.inl ⟨by rfl, ?hyp48⟩) (by assumption) ?restp48
    case hyp48 => (intro w hSw; (try dsimp only at hSw); go_simp; try with_reducible rfl)
    try simp only [Act.put, List.setIfInBounds_toArray, List.set_cons_zero, List.set_cons_succ]
    refine wpAnyH_take (i := 49) (oi := { dst := some 116, op := Op.pick (Operand.tmp 106) (Operand.tmp 115) (Operand.const (Value.bool false)), type := 4, pos := "laws.go:272", after := #[{ on := 39, ground := Ground.data }, { on := 48, ground := Ground.data }], guard := none }) (v := ?vp49) rfl (by kernel_rfl) (by kernel_rfl) (by kernel_rfl) (fun _ _ _ h => h) (Or.inl ⟨by rfl, ?hyp49⟩) (by assumption) ?restp49
    case hyp49 => (intro w hSw; (try dsimp only at hSw); go_simp; try with_reducible rfl)
    try simp only [Act.put, List.setIfInBounds_toArray, List.set_cons_zero, List.set_cons_succ]
    refine wpAnyH_take (i := 50) (oi := { dst := some 117, op := Op.move (Operand.tmp 116), type := 4, pos := "laws.go:272", after := #[{ on := 49, ground := Ground.data }, { on := 47, ground := Ground.chain }], guard := none }) (v := ?vp50) rfl (by kernel_rfl) (by kernel_rfl) (by kernel_rfl) (fun _ _ _ h => h) (Or.inl ⟨by rfl, ?hyp50⟩) (by assumption) ?restp50
    case hyp50 => (intro w hSw; (try dsimp only at hSw); go_simp; try with_reducible rfl)
    try simp only [Act.put, List.setIfInBounds_toArray, List.set_cons_zero, List.set_cons_succ]
    refine wpAnyH_take (i := 51) (oi := { dst := some 118, op := Op.load 26 (Operand.tmp 19), type := 26, pos := "laws.go:272", after := #[{ on := 50, ground := Ground.guard }], guard := some (50, true) }) (v := ?vp51) rfl (by kernel_rfl) (by kernel_rfl) (by kernel_rfl) (fun _ _ _ h => h) (Or.inl ⟨by rfl, ?hyp51⟩) (by assumption) ?restp51
    case hyp51 => (intro w hSw; (try dsimp only at hSw); go_simp; try with_reducible rfl)
    try simp only [Act.put, List.setIfInBounds_toArray, List.set_cons_zero, List.set_cons_succ]
    refine wpAnyH_take (i := 52) (oi := { dst := some 119, op := Op.load 26 (Operand.tmp 20), type := 26, pos := "laws.go:272", after := #[{ on := 50, ground := Ground.guard }], guard := some (50, true) }) (v := ?vp52) rfl (by kernel_rfl) (by kernel_rfl) (by kernel_rfl) (fun _ _ _ h => h) (Or.inl ⟨by rfl, ?hyp52⟩) (by assumption) ?restp52
    case hyp52 => (intro w hSw; (try dsimp only at hSw); go_simp; try with_reducible rfl)
    try simp only [Act.put, List.setIfInBounds_toArray, List.set_cons_zero, List.set_cons_succ]
    refine wpAnyH_take (i := 54) (oi := { dst := some 121, op := Op.load 26 (Operand.tmp 19), type := 26, pos := "laws.go:272", after := #[{ on := 50, ground := Ground.guard }], guard := some (50, true) }) (v := ?vp54) rfl (by kernel_rfl) (by kernel_rfl) (by kernel_rfl) (fun _ _ _ h => h) (Or.inl ⟨by rfl, ?hyp54⟩) (by assumption) ?restp54
    case hyp54 => (intro w hSw; (try dsimp only at hSw); go_simp; try with_reducible rfl)
    try simp only [Act.put, List.setIfInBounds_toArray, List.set_cons_zero, List.set_cons_succ]
    refine wpAnyH_take (i := 55) (oi := { dst := some 122, op := Op.load 26 (Operand.tmp 20), type := 26, pos := "laws.go:272", after := #[{ on := 50, ground := Ground.guard }], guard := some (50, true) }) (v := ?vp55) rfl (by kernel_rfl) (by kernel_rfl) (by kernel_rfl) (fun _ _ _ h => h) (Or.inl ⟨by rfl, ?hyp55⟩) (by assumption) ?restp55
    case hyp55 => (intro w hSw; (try dsimp only at hSw); go_simp; try with_reducible rfl)
    try simp only [Act.put, List.setIfInBounds_toArray, List.set_cons_zero, List.set_cons_succ]
    clear hHeld
    refine wpAnyH_ready (rs := [53]) (by kernel_rfl) (by simp) ?_
    refine AllReadyH.cons (o := { dst := some 120, op := Op.call { callee := Callee.value (Operand.func 16), args := #[Operand.tmp 118, Operand.tmp 119], argTypes := #[26, 26] }, type := 4, pos := "laws.go:272", after := #[{ on := 51, ground := Ground.data }, { on := 52, ground := Ground.data }, { on := 50, ground := Ground.chain }, { on := 50, ground := Ground.guard }], guard := some (50, true) }) rfl (fun K hK => ?_) AllReadyH.nil
    go_simp
    refine (implSame_any ga ua aa la.length ka la ta gb ub ab lb.length kb lb tb _ rfl rfl LA.out (RA8.out.later Bv4.out) (RB8.out.later Bv4.out)).mono ?_; rintro e v5 ⟨rfl, hb⟩
    rw [HJ.out]
    have Bv5 : Hid (Below W8.heap.size W8 v5) := btr Bv4.out hb
    clear hb
    go_wp2_with fail
    refine hK.out _ _ (HC.out _ Bv5.out) (fun hHeld => ?_)
    clear hK K
    try simp only [Act.put, List.setIfInBounds_toArray, List.set_cons_zero, List.set_cons_succ]
    clear hHeld
    refine wpAnyH_ready (rs := [56]) (by kernel_rfl) (by simp) ?_
    refine AllReadyH.cons (o := { dst := some 123, op := Op.call { callee := Callee.value (Operand.func 14), args := #[Operand.tmp 121, Operand.tmp 122], argTypes := #[26, 26] }, type := 4, pos := "laws.go:272", after := #[{ on := 54, ground := Ground.data }, { on := 55, ground := Ground.data }, { on := 53, ground := Ground.chain }, { on := 50, ground := Ground.guard }], guard := some (50, true) }) rfl (fun K hK => ?_) AllReadyH.nil
    go_simp
    refine (specSame_any ga ua aa la.length ka la ta gb ub ab lb.length kb lb tb _ rfl rfl LA.out (RA8.out.later Bv5.out) (RB8.out.later Bv5.out)).mono ?_; rintro e v6 ⟨rfl, hb⟩
    rw [HJ.out]
    have Bv6 : Hid (Below W8.heap.size W8 v6) := btr Bv5.out hb
    clear hb
    go_wp2_with fail
    refine hK.out _ _ (HC.out _ Bv6.out) (fun hHeld => ?_)
    clear hK K
    try simp only [Act.put, List.setIfInBounds_toArray, List.set_cons_zero, List.set_cons_succ]
    refine wpAnyH_take (i := 57) (oi := { dst := some 124, op := Op.binOp BinOp.eql 4 (Operand.tmp 120) (Operand.tmp 123) 4, type := 4, pos := "laws.go:272", after := #[{ on := 53, ground := Ground.data }, { on := 56, ground := Ground.data }, { on := 50, ground := Ground.guard }], guard := some (50, true) }) (v := ?vp57) rfl (by kernel_rfl) (by kernel_rfl) (by kernel_rfl) (fun _ _ _ h => h) (Or.inl ⟨by rfl, ?hyp57⟩) (by assumption) ?restp57
    case hyp57 => (intro w hSw; (try dsimp only at hSw); go_simp; try with_reducible rfl)
    try simp only [Act.put, List.setIfInBounds_toArray, List.set_cons_zero, List.set_cons_succ]
    refine wpAnyH_take (i := 58) (oi := { dst := some 125, op := Op.pick (Operand.tmp 117) (Operand.tmp 124) (Operand.const (Value.bool false)), type := 4, pos := "laws.go:272", after := #[{ on := 50, ground := Ground.data }, { on := 57, ground := Ground.data }], guard := none }) (v := ?vp58) rfl (by kernel_rfl) (by kernel_rfl) (by kernel_rfl) (fun _ _ _ h => h) (Or.inl ⟨by rfl, ?hyp58⟩) (by assumption) ?restp58
    case hyp58 => (intro w hSw; (try dsimp only at hSw); go_simp; try with_reducible rfl)
    try simp only [Act.put, List.setIfInBounds_toArray, List.set_cons_zero, List.set_cons_succ]
    refine wpAnyH_take (i := 59) (oi := { dst := some 126, op := Op.move (Operand.tmp 125), type := 4, pos := "laws.go:272", after := #[{ on := 58, ground := Ground.data }, { on := 56, ground := Ground.chain }], guard := none }) (v := ?vp59) rfl (by kernel_rfl) (by kernel_rfl) (by kernel_rfl) (fun _ _ _ h => h) (Or.inl ⟨by rfl, ?hyp59⟩) (by assumption) ?restp59
    case hyp59 => (intro w hSw; (try dsimp only at hSw); go_simp; try with_reducible rfl)
    try simp only [Act.put, List.setIfInBounds_toArray, List.set_cons_zero, List.set_cons_succ]
    refine wpAnyH_take (i := 60) (oi := { dst := some 127, op := Op.load 26 (Operand.tmp 19), type := 26, pos := "laws.go:272", after := #[{ on := 59, ground := Ground.guard }], guard := some (59, true) }) (v := ?vp60) rfl (by kernel_rfl) (by kernel_rfl) (by kernel_rfl) (fun _ _ _ h => h) (Or.inl ⟨by rfl, ?hyp60⟩) (by assumption) ?restp60
    case hyp60 => (intro w hSw; (try dsimp only at hSw); go_simp; try with_reducible rfl)
    try simp only [Act.put, List.setIfInBounds_toArray, List.set_cons_zero, List.set_cons_succ]
    refine wpAnyH_take (i := 61) (oi := { dst := some 128, op := Op.load 26 (Operand.tmp 20), type := 26, pos := "laws.go:272", after := #[{ on := 59, ground := Ground.guard }], guard := some (59, true) }) (v := ?vp61) rfl (by kernel_rfl) (by kernel_rfl) (by kernel_rfl) (fun _ _ _ h => h) (Or.inl ⟨by rfl, ?hyp61⟩) (by assumption) ?restp61
    case hyp61 => (intro w hSw; (try dsimp only at hSw); go_simp; try with_reducible rfl)
    try simp only [Act.put, List.setIfInBounds_toArray, List.set_cons_zero, List.set_cons_succ]
    refine wpAnyH_take (i := 63) (oi := { dst := some 130, op := Op.load 26 (Operand.tmp 19), type := 26, pos := "laws.go:272", after := #[{ on := 59, ground := Ground.guard }], guard := some (59, true) }) (v := ?vp63) rfl (by kernel_rfl) (by kernel_rfl) (by kernel_rfl) (fun _ _ _ h => h) (Or.inl ⟨by rfl, ?hyp63⟩) (by assumption) ?restp63
    case hyp63 => (intro w hSw; (try dsimp only at hSw); go_simp; try with_reducible rfl)
    try simp only [Act.put, List.setIfInBounds_toArray, List.set_cons_zero, List.set_cons_succ]
    refine wpAnyH_take (i := 64) (oi := { dst := some 131, op := Op.load 26 (Operand.tmp 20), type := 26, pos := "laws.go:272", after := #[{ on := 59, ground := Ground.guard }], guard := some (59, true) }) (v := ?vp64) rfl (by kernel_rfl) (by kernel_rfl) (by kernel_rfl) (fun _ _ _ h => h) (Or.inl ⟨by rfl, ?hyp64⟩) (by assumption) ?restp64
    case hyp64 => (intro w hSw; (try dsimp only at hSw); go_simp; try with_reducible rfl)
    try simp only [Act.put, List.setIfInBounds_toArray, List.set_cons_zero, List.set_cons_succ]
    clear hHeld
    refine wpAnyH_ready (rs := [62]) (by kernel_rfl) (by simp) ?_
    refine AllReadyH.cons (o := { dst := some 129, op := Op.call { callee := Callee.value (Operand.func 17), args := #[Operand.tmp 127, Operand.tmp 128], argTypes := #[26, 26] }, type := 26, pos := "laws.go:272", after := #[{ on := 60, ground := Ground.data }, { on := 61, ground := Ground.data }, { on := 59, ground := Ground.chain }, { on := 59, ground := Ground.guard }], guard := some (59, true) }) rfl (fun K hK => ?_) AllReadyH.nil
    go_simp
    refine (implJoinMail_any ga ua aa la.length ka la ta gb ub ab lb.length kb lb tb _ rfl rfl LA.out LB.out TA.out TB.out (RA8.out.later Bv6.out) (RB8.out.later Bv6.out) ZA.out).mono ?_; rintro e v7 ⟨vv, rfl, ho, hb⟩
    obtain ⟨av7, kv7, hv, _⟩ := Ow.shape ho
    rw [PL.out] at ho hv
    subst hv
    rw [PU.out, PT.out]
    have R7 := hid (Ow.rs ho).2
    have Bv7 : Hid (Below W8.heap.size W8 v7) := btr Bv6.out hb
    clear ho hb
    go_wp2_with fail
    refine hK.out _ _ (HC.out _ Bv7.out) (fun hHeld => ?_)
    clear hK K
    try simp only [Act.put, List.setIfInBounds_toArray, List.set_cons_zero, List.set_cons_succ]
    clear hHeld
    refine wpAnyH_ready (rs := [65]) (by kernel_rfl) (by simp) ?_
    refine AllReadyH.cons (o := { dst := some 132, op := Op.call { callee := Callee.value (Operand.func 18), args := #[Operand.tmp 130, Operand.tmp 131], argTypes := #[26, 26] }, type := 26, pos := "laws.go:272", after := #[{ on := 63, ground := Ground.data }, { on := 64, ground := Ground.data }, { on := 62, ground := Ground.chain }, { on := 59, ground := Ground.guard }], guard := some (59, true) }) rfl (fun K hK => ?_) AllReadyH.nil
    go_simp
    refine (specJoinMail_any ga ua aa la.length ka la ta gb ub ab lb.length kb lb tb _ rfl rfl LA.out LB.out TA.out TB.out (RA8.out.later Bv7.out) (RB8.out.later Bv7.out) ZA.out).mono ?_; rintro e v8 ⟨vv, rfl, ho, hb⟩
    obtain ⟨av8, kv8, hv, _⟩ := Ow.shape ho
    rw [PL.out] at ho hv
    subst hv
    rw [PU.out, PT.out]
    have R8 := hid (Ow.rs ho).2
    have R7b := hid (R7.out.later hb)
    have Bv8 : Hid (Below W8.heap.size W8 v8) := btr Bv7.out hb
    clear ho hb
    go_wp2_with fail
    refine hK.out _ _ (HC.out _ Bv8.out) (fun hHeld => ?_)
    clear hK K
    try simp only [Act.put, List.setIfInBounds_toArray, List.set_cons_zero, List.set_cons_succ]
    clear hHeld
    refine wpAnyH_ready (rs := [66]) (by kernel_rfl) (by simp) ?_
    refine AllReadyH.cons (o := { dst := some 133, op := Op.call { callee := Callee.value (Operand.func 14), args := #[Operand.tmp 129, Operand.tmp 132], argTypes := #[26, 26] }, type := 4, pos := "laws.go:272", after := #[{ on := 62, ground := Ground.data }, { on := 65, ground := Ground.data }, { on := 65, ground := Ground.chain }, { on := 59, ground := Ground.guard }], guard := some (59, true) }) rfl (fun K hK => ?_) AllReadyH.nil
    go_simp
    refine (specSame_any ga pu av7 pl.length kv7 pl pt ga pu av8 pl.length kv8 pl pt _ rfl rfl PN.out R7b.out R8.out).mono ?_; rintro e v9 ⟨rfl, hb⟩
    rw [smail_self]
    have Bv9 : Hid (Below W8.heap.size W8 v9) := btr Bv8.out hb
    clear hb
    go_wp2_with fail
    refine hK.out _ _ (HC.out _ Bv9.out) (fun hHeld => ?_)
    clear hK K
    try simp only [Act.put, List.setIfInBounds_toArray, List.set_cons_zero, List.set_cons_succ]
    refine wpAnyH_take (i := 67) (oi := { dst := some 134, op := Op.pick (Operand.tmp 126) (Operand.tmp 133) (Operand.const (Value.bool false)), type := 4, pos := "laws.go:272", after := #[{ on := 59, ground := Ground.data }, { on := 66, ground := Ground.data }], guard := none }) (v := ?vp67) rfl (by kernel_rfl) (by kernel_rfl) (by kernel_rfl) (fun _ _ _ h => h) (Or.inl ⟨by rfl, ?hyp67⟩) (by assumption) ?restp67
    case hyp67 => (intro w hSw; (try dsimp only at hSw); go_simp; try with_reducible rfl)
    try simp only [Act.put, List.setIfInBounds_toArray, List.set_cons_zero, List.set_cons_succ]
    refine wpAnyH_take (i := 68) (oi := { dst := some 135, op := Op.move (Operand.tmp 134), type := 4, pos := "laws.go:272", after := #[{ on := 67, ground := Ground.data }, { on := 66, ground := Ground.chain }], guard := none }) (v := ?vp68) rfl (by kernel_rfl) (by kernel_rfl) (by kernel_rfl) (fun _ _ _ h => h) (Or.inl ⟨by rfl, ?hyp68⟩) (by assumption) ?restp68
    case hyp68 => (intro w hSw; (try dsimp only at hSw); go_simp; try with_reducible rfl)
    try simp only [Act.put, List.setIfInBounds_toArray, List.set_cons_zero, List.set_cons_succ]
    refine wpAnyH_take (i := 69) (oi := { dst := some 136, op := Op.load 26 (Operand.tmp 3), type := 26, pos := "laws.go:272", after := #[{ on := 68, ground := Ground.guard }], guard := some (68, true) }) (v := ?vp69) rfl (by kernel_rfl) (by kernel_rfl) (by kernel_rfl) (fun _ _ _ h => h) (Or.inl ⟨by rfl, ?hyp69⟩) (by assumption) ?restp69
    case hyp69 => (intro w hSw; (try dsimp only at hSw); go_simp; try with_reducible rfl)
    try simp only [Act.put, List.setIfInBounds_toArray, List.set_cons_zero, List.set_cons_succ]
    refine wpAnyH_take (i := 70) (oi := { dst := some 137, op := Op.load 26 (Operand.tmp 3), type := 26, pos := "laws.go:272", after := #[{ on := 68, ground := Ground.guard }], guard := some (68, true) }) (v := ?vp70) rfl (by kernel_rfl) (by kernel_rfl) (by kernel_rfl) (fun _ _ _ h => h) (Or.inl ⟨by rfl, ?hyp70⟩) (by assumption) ?restp70
    case hyp70 => (intro w hSw; (try dsimp only at hSw); go_simp; try with_reducible rfl)
    try simp only [Act.put, List.setIfInBounds_toArray, List.set_cons_zero, List.set_cons_succ]
    clear hHeld
    refine wpAnyH_ready (rs := [71]) (by kernel_rfl) (by simp) ?_
    refine AllReadyH.cons (o := { dst := some 138, op := Op.call { callee := Callee.value (Operand.func 16), args := #[Operand.tmp 136, Operand.tmp 137], argTypes := #[26, 26] }, type := 4, pos := "laws.go:272", after := #[{ on := 69, ground := Ground.data }, { on := 70, ground := Ground.data }, { on := 68, ground := Ground.chain }, { on := 68, ground := Ground.guard }], guard := some (68, true) }) rfl (fun K hK => ?_) AllReadyH.nil
    go_simp
    refine (implSame_any g u am l.length cm l t g u am l.length cm l t _ rfl rfl LM.out (RM8.out.later Bv9.out) (RM8.out.later Bv9.out)).mono ?_; rintro e v10 ⟨rfl, hb⟩
    rw [smail_self]
    have Bv10 : Hid (Below W8.heap.size W8 v10) := btr Bv9.out hb
    clear hb
    go_wp2_with fail
    refine hK.out _ _ (HC.out _ Bv10.out) (fun hHeld => ?_)
    clear hK K
    try simp only [Act.put, List.setIfInBounds_toArray, List.set_cons_zero, List.set_cons_succ]
    refine wpAnyH_take (i := 72) (oi := { dst := some 139, op := Op.pick (Operand.tmp 135) (Operand.tmp 138) (Operand.const (Value.bool false)), type := 4, pos := "laws.go:272", after := #[{ on := 68, ground := Ground.data }, { on := 71, ground := Ground.data }], guard := none }) (v := ?vp72) rfl (by kernel_rfl) (by kernel_rfl) (by kernel_rfl) (fun _ _ _ h => h) (Or.inl ⟨by rfl, ?hyp72⟩) (by assumption) ?restp72
    case hyp72 => (intro w hSw; (try dsimp only at hSw); go_simp; try with_reducible rfl)
    try simp only [Act.put, List.setIfInBounds_toArray, List.set_cons_zero, List.set_cons_succ]
    refine wpAnyH_take (i := 73) (oi := { dst := some 2, op := Op.assign (Operand.tmp 139), type := 4, pos := "laws.go:272", after := #[{ on := 72, ground := Ground.data }, { on := 71, ground := Ground.chain }, { on := 0, ground := Ground.phase }, { on := 1, ground := Ground.phase }, { on := 2, ground := Ground.phase }, { on := 3, ground := Ground.phase }, { on := 4, ground := Ground.phase }, { on := 5, ground := Ground.phase }, { on := 6, ground := Ground.phase }, { on := 7, ground := Ground.phase }, { on := 8, ground := Ground.phase }, { on := 9, ground := Ground.phase }, { on := 10, ground := Ground.phase }, { on := 11, ground := Ground.phase }, { on := 12, ground := Ground.phase }, { on := 13, ground := Ground.phase }, { on := 14, ground := Ground.phase }, { on := 15, ground := Ground.phase }, { on := 16, ground := Ground.phase }, { on := 17, ground := Ground.phase }, { on := 18, ground := Ground.phase }, { on := 19, ground := Ground.phase }, { on := 20, ground := Ground.phase }, { on := 21, ground := Ground.phase }, { on := 22, ground := Ground.phase }, { on := 23, ground := Ground.phase }, { on := 24, ground := Ground.phase }, { on := 25, ground := Ground.phase }, { on := 26, ground := Ground.phase }, { on := 27, ground := Ground.phase }, { on := 28, ground := Ground.phase }, { on := 29, ground := Ground.phase }, { on := 30, ground := Ground.phase }, { on := 31, ground := Ground.phase }, { on := 32, ground := Ground.phase }, { on := 33, ground := Ground.phase }, { on := 34, ground := Ground.phase }, { on := 35, ground := Ground.phase }, { on := 36, ground := Ground.phase }, { on := 37, ground := Ground.phase }, { on := 38, ground := Ground.phase }, { on := 39, ground := Ground.phase }, { on := 40, ground := Ground.phase }, { on := 41, ground := Ground.phase }, { on := 42, ground := Ground.phase }, { on := 43, ground := Ground.phase }, { on := 44, ground := Ground.phase }, { on := 45, ground := Ground.phase }, { on := 46, ground := Ground.phase }, { on := 47, ground := Ground.phase }, { on := 48, ground := Ground.phase }, { on := 49, ground := Ground.phase }, { on := 50, ground := Ground.phase }, { on := 51, ground := Ground.phase }, { on := 52, ground := Ground.phase }, { on := 53, ground := Ground.phase }, { on := 54, ground := Ground.phase }, { on := 55, ground := Ground.phase }, { on := 56, ground := Ground.phase }, { on := 57, ground := Ground.phase }, { on := 58, ground := Ground.phase }, { on := 59, ground := Ground.phase }, { on := 60, ground := Ground.phase }, { on := 61, ground := Ground.phase }, { on := 62, ground := Ground.phase }, { on := 63, ground := Ground.phase }, { on := 64, ground := Ground.phase }, { on := 65, ground := Ground.phase }, { on := 66, ground := Ground.phase }, { on := 67, ground := Ground.phase }, { on := 68, ground := Ground.phase }, { on := 69, ground := Ground.phase }, { on := 70, ground := Ground.phase }, { on := 71, ground := Ground.phase }, { on := 72, ground := Ground.phase }], guard := none }) (v := ?vp73) rfl (by kernel_rfl) (by kernel_rfl) (by kernel_rfl) (fun _ _ _ h => h) (Or.inl ⟨by rfl, ?hyp73⟩) (by assumption) ?restp73
    case hyp73 => (intro w hSw; (try dsimp only at hSw); go_simp; try with_reducible rfl)
    try simp only [Act.put, List.setIfInBounds_toArray, List.set_cons_zero, List.set_cons_succ]
    refine wpAnyH_done (by kernel_rfl) ?_ _
    refine NoPanic.normal ?_
    clear hHeld
    go_wp2
    go_ret
    exact ⟨rfl, btr B8.out Bv10.out⟩
  · have e := E1.out rfl
    simp only [Prod.mk.injEq] at e
    obtain ⟨z1, z2, z3, z4, z5, z6⟩ := e
    have z1 := z1.symm
    have z2 := z2.symm
    have z3 := z3.symm
    have z4 := z4.symm
    subst z1 z2 z3 z4 z5 z6
    have hw2 : IntKind.i64.wrap ((2 : Int) + (x.size : Int)) = 2 + (x.size : Int) := wrap_small _ (by omega) (by omega)
    go_wp2_with fail
    clear hW8 cc
    have Bz : Hid (Below W8.heap.size W8 W8.drew) := bdr (bre W8)
    dsimp only [List.append]
    refine wp_region_noPanic ?_
    refine wp_region_held_drew (S := fun W => (W.cell? ⟨w1.heap.size, 0, none⟩ = some (.int .i64 g) ∧ W.cell? ⟨w1.heap.size, 1, none⟩ = some (.int .i64 u) ∧ W.cell? ⟨w1.heap.size, 2, none⟩ = some (.slice am l.length cm) ∧ W.cell? ⟨w1.heap.size, 3, none⟩ = some (.string t)) ∧ (W.cell? ⟨w3.heap.size, 0, none⟩ = some (.int .i64 g) ∧ W.cell? ⟨w3.heap.size, 1, none⟩ = some (.int .i64 u) ∧ W.cell? ⟨w3.heap.size, 2, none⟩ = some (.slice a1 l.length k1) ∧ W.cell? ⟨w3.heap.size, 3, none⟩ = some (.string t)) ∧ (W.cell? ⟨w8.heap.size, 0, none⟩ = some (.int .i64 ga) ∧ W.cell? ⟨w8.heap.size, 1, none⟩ = some (.int .i64 ua) ∧ W.cell? ⟨w8.heap.size, 2, none⟩ = some (.slice aa la.length ka) ∧ W.cell? ⟨w8.heap.size, 3, none⟩ = some (.string ta)) ∧ (W.cell? ⟨(w8.heap.size + 1), 0, none⟩ = some (.int .i64 gb) ∧ W.cell? ⟨(w8.heap.size + 1), 1, none⟩ = some (.int .i64 ub) ∧ W.cell? ⟨(w8.heap.size + 1), 2, none⟩ = some (.slice ab lb.length kb) ∧ W.cell? ⟨(w8.heap.size + 1), 3, none⟩ = some (.string tb))) (by kernel_rfl) (HC.out _ Bz.out) (fun hHeld => ?_)
    refine wpAnyH_take (i := 0) (oi := { dst := some 67, op := Op.move (Operand.tmp 5), type := 4, pos := "laws.go:272", after := #[], guard := none }) (v := ?vq0) rfl (by kernel_rfl) (by kernel_rfl) (by kernel_rfl) (fun _ _ _ h => h) (Or.inl ⟨by rfl, ?hyq0⟩) (by assumption) ?restq0
    case hyq0 => (intro w hSw; (try dsimp only at hSw); go_simp; try with_reducible rfl)
    try simp only [Act.put, List.setIfInBounds_toArray, List.set_cons_zero, List.set_cons_succ]
    refine wpAnyH_take (i := 1) (oi := { dst := some 68, op := Op.load 26 (Operand.tmp 3), type := 26, pos := "laws.go:272", after := #[], guard := none }) (v := ?vq1) rfl (by kernel_rfl) (by kernel_rfl) (by kernel_rfl) (fun _ _ _ h => h) (Or.inl ⟨by rfl, ?hyq1⟩) (by assumption) ?restq1
    case hyq1 => (intro w hSw; (try dsimp only at hSw); go_simp; try with_reducible rfl)
    try simp only [Act.put, List.setIfInBounds_toArray, List.set_cons_zero, List.set_cons_succ]
    clear hHeld
    refine wpAnyH_ready (rs := [2]) (by kernel_rfl) (by simp) ?_
    refine AllReadyH.cons (o := { dst := some 69, op := Op.call { callee := Callee.value (Operand.func 12), args := #[Operand.tmp 68], argTypes := #[26] }, type := 4, pos := "laws.go:272", after := #[{ on := 1, ground := Ground.data }], guard := none }) rfl (fun K hK => ?_) AllReadyH.nil
    go_simp
    refine (specMailOk_any g u am l.length cm l t _ rfl LM.out (RM8.out.later Bz.out)).mono ?_; rintro e v1 ⟨rfl, hb⟩
    rw [← HBM.out]
    have Bv1 : Hid (Below W8.heap.size W8 v1) := btr Bz.out hb
    clear hb
    go_wp2_with fail
    refine hK.out _ _ (HC.out _ Bv1.out) (fun hHeld => ?_)
    clear hK K
    try simp only [Act.put, List.setIfInBounds_toArray, List.set_cons_zero, List.set_cons_succ]
    refine wpAnyH_take (i := 3) (oi := { dst := some 70, op := Op.binOp BinOp.eql 4 (Operand.tmp 67) (Operand.tmp 69) 4, type := 4, pos := "laws.go:272", after := #[{ on := 0, ground := Ground.data }, { on := 2, ground := Ground.data }], guard := none }) (v := ?vq3) rfl (by kernel_rfl) (by kernel_rfl) (by kernel_rfl) (fun _ _ _ h => h) (Or.inl ⟨by rfl, ?hyq3⟩) (by assumption) ?restq3
    case hyq3 => (intro w hSw; (try dsimp only at hSw); go_simp; try with_reducible rfl)
    try simp only [Act.put, List.setIfInBounds_toArray, List.set_cons_zero, List.set_cons_succ]
    refine wpAnyH_take (i := 4) (oi := { dst := some 71, op := Op.move (Operand.tmp 70), type := 4, pos := "laws.go:272", after := #[{ on := 3, ground := Ground.data }, { on := 2, ground := Ground.chain }], guard := none }) (v := ?vq4) rfl (by kernel_rfl) (by kernel_rfl) (by kernel_rfl) (fun _ _ _ h => h) (Or.inl ⟨by rfl, ?hyq4⟩) (by assumption) ?restq4
    case hyq4 => (intro w hSw; (try dsimp only at hSw); go_simp; try with_reducible rfl)
    try simp only [Act.put, List.setIfInBounds_toArray, List.set_cons_zero, List.set_cons_succ]
    refine wpAnyH_take (i := 5) (oi := { dst := some 72, op := Op.load 26 (Operand.tmp 3), type := 26, pos := "laws.go:272", after := #[{ on := 4, ground := Ground.guard }], guard := some (4, true) }) (v := ?vq5) rfl (by kernel_rfl) (by kernel_rfl) (by kernel_rfl) (fun _ _ _ h => h) (Or.inl ⟨by rfl, ?hyq5⟩) (by assumption) ?restq5
    case hyq5 => (intro w hSw; (try dsimp only at hSw); go_simp; try with_reducible rfl)
    try simp only [Act.put, List.setIfInBounds_toArray, List.set_cons_zero, List.set_cons_succ]
    refine wpAnyH_take (i := 7) (oi := { dst := some 74, op := Op.move (Operand.tmp 5), type := 4, pos := "laws.go:272", after := #[{ on := 4, ground := Ground.guard }], guard := some (4, true) }) (v := ?vq7) rfl (by kernel_rfl) (by kernel_rfl) (by kernel_rfl) (fun _ _ _ h => h) (Or.inl ⟨by rfl, ?hyq7⟩) (by assumption) ?restq7
    case hyq7 => (intro w hSw; (try dsimp only at hSw); go_simp; try with_reducible rfl)
    try simp only [Act.put, List.setIfInBounds_toArray, List.set_cons_zero, List.set_cons_succ]
    clear hHeld
    refine wpAnyH_ready (rs := [6]) (by kernel_rfl) (by simp) ?_
    refine AllReadyH.cons (o := { dst := some 73, op := Op.call { callee := Callee.value (Operand.func 13), args := #[Operand.tmp 72], argTypes := #[26] }, type := 4, pos := "laws.go:272", after := #[{ on := 5, ground := Ground.data }, { on := 4, ground := Ground.chain }, { on := 4, ground := Ground.guard }], guard := some (4, true) }) rfl (fun K hK => ?_) AllReadyH.nil
    go_simp
    refine (implMailOk_any g u am l.length cm l t _ rfl LM.out (RM8.out.later Bv1.out)).mono ?_; rintro e v2 ⟨rfl, hb⟩
    rw [← HBM.out]
    have Bv2 : Hid (Below W8.heap.size W8 v2) := btr Bv1.out hb
    clear hb
    go_wp2_with fail
    refine hK.out _ _ (HC.out _ Bv2.out) (fun hHeld => ?_)
    clear hK K
    try simp only [Act.put, List.setIfInBounds_toArray, List.set_cons_zero, List.set_cons_succ]
    refine wpAnyH_take (i := 8) (oi := { dst := some 75, op := Op.binOp BinOp.eql 4 (Operand.tmp 73) (Operand.tmp 74) 4, type := 4, pos := "laws.go:272", after := #[{ on := 6, ground := Ground.data }, { on := 7, ground := Ground.data }, { on := 4, ground := Ground.guard }], guard := some (4, true) }) (v := ?vq8) rfl (by kernel_rfl) (by kernel_rfl) (by kernel_rfl) (fun _ _ _ h => h) (Or.inl ⟨by rfl, ?hyq8⟩) (by assumption) ?restq8
    case hyq8 => (intro w hSw; (try dsimp only at hSw); go_simp; try with_reducible rfl)
    try simp only [Act.put, List.setIfInBounds_toArray, List.set_cons_zero, List.set_cons_succ]
    refine wpAnyH_take (i := 9) (oi := { dst := some 76, op := Op.pick (Operand.tmp 71) (Operand.tmp 75) (Operand.const (Value.bool false)), type := 4, pos := "laws.go:272", after := #[{ on := 4, ground := Ground.data }, { on := 8, ground := Ground.data }], guard := none }) (v := ?vq9) rfl (by kernel_rfl) (by kernel_rfl) (by kernel_rfl) (fun _ _ _ h => h) (Or.inl ⟨by rfl, ?hyq9⟩) (by assumption) ?restq9
    case hyq9 => (intro w hSw; (try dsimp only at hSw); go_simp; try with_reducible rfl)
    try simp only [Act.put, List.setIfInBounds_toArray, List.set_cons_zero, List.set_cons_succ]
    refine wpAnyH_take (i := 10) (oi := { dst := some 77, op := Op.move (Operand.tmp 76), type := 4, pos := "laws.go:272", after := #[{ on := 9, ground := Ground.data }, { on := 6, ground := Ground.chain }], guard := none }) (v := ?vq10) rfl (by kernel_rfl) (by kernel_rfl) (by kernel_rfl) (fun _ _ _ h => h) (Or.inl ⟨by rfl, ?hyq10⟩) (by assumption) ?restq10
    case hyq10 => (intro w hSw; (try dsimp only at hSw); go_simp; try with_reducible rfl)
    try simp only [Act.put, List.setIfInBounds_toArray, List.set_cons_zero, List.set_cons_succ]
    refine wpAnyH_take (i := 11) (oi := { dst := some 78, op := Op.move (Operand.tmp 5), type := 4, pos := "laws.go:272", after := #[{ on := 10, ground := Ground.guard }], guard := some (10, true) }) (v := ?vq11) rfl (by kernel_rfl) (by kernel_rfl) (by kernel_rfl) (fun _ _ _ h => h) (Or.inl ⟨by rfl, ?hyq11⟩) (by assumption) ?restq11
    case hyq11 => (intro w hSw; (try dsimp only at hSw); go_simp; try with_reducible rfl)
    try simp only [Act.put, List.setIfInBounds_toArray, List.set_cons_zero, List.set_cons_succ]
    refine wpAnyH_take (i := 12) (oi := { dst := some 79, op := Op.unOp UnOp.not 4 (Operand.tmp 78), type := 4, pos := "laws.go:272", after := #[{ on := 11, ground := Ground.data }, { on := 10, ground := Ground.guard }], guard := some (10, true) }) (v := ?vq12) rfl (by kernel_rfl) (by kernel_rfl) (by kernel_rfl) (fun _ _ _ h => h) (Or.inl ⟨by rfl, ?hyq12⟩) (by assumption) ?restq12
    case hyq12 => (intro w hSw; (try dsimp only at hSw); go_simp; try with_reducible rfl)
    try simp only [Act.put, List.setIfInBounds_toArray, List.set_cons_zero, List.set_cons_succ]
    refine wpAnyH_take (i := 13) (oi := { dst := some 80, op := Op.move (Operand.tmp 79), type := 4, pos := "laws.go:272", after := #[{ on := 12, ground := Ground.data }, { on := 10, ground := Ground.chain }, { on := 10, ground := Ground.guard }], guard := some (10, true) }) (v := ?vq13) rfl (by kernel_rfl) (by kernel_rfl) (by kernel_rfl) (fun _ _ _ h => h) (Or.inl ⟨by rfl, ?hyq13⟩) (by assumption) ?restq13
    case hyq13 => (intro w hSw; (try dsimp only at hSw); go_simp; try with_reducible rfl)
    try simp only [Act.put, List.setIfInBounds_toArray, List.set_cons_zero, List.set_cons_succ]
    refine wpAnyH_take (i := 14) (oi := { dst := some 81, op := Op.move (Operand.tmp 8), type := 4, pos := "laws.go:272", after := #[{ on := 13, ground := Ground.guard }], guard := some (13, false) }) (v := ?vq14) rfl (by kernel_rfl) (by kernel_rfl) (by kernel_rfl) (fun _ _ _ h => h) (Or.inl ⟨by rfl, ?hyq14⟩) (by assumption) ?restq14
    case hyq14 => (intro w hSw; (try dsimp only at hSw); go_simp; try with_reducible rfl)
    try simp only [Act.put, List.setIfInBounds_toArray, List.set_cons_zero, List.set_cons_succ]
    refine wpAnyH_take (i := 15) (oi := { dst := some 82, op := Op.move (Operand.tmp 81), type := 4, pos := "laws.go:272", after := #[{ on := 14, ground := Ground.data }, { on := 13, ground := Ground.chain }, { on := 13, ground := Ground.guard }], guard := some (13, false) }) (v := ?vq15) rfl (by kernel_rfl) (by kernel_rfl) (by kernel_rfl) (fun _ _ _ h => h) (Or.inl ⟨by rfl, ?hyq15⟩) (by assumption) ?restq15
    case hyq15 => (intro w hSw; (try dsimp only at hSw); go_simp; try with_reducible rfl)
    try simp only [Act.put, List.setIfInBounds_toArray, List.set_cons_zero, List.set_cons_succ]
    refine wpAnyH_take (i := 16) (oi := { dst := some 83, op := Op.load 26 (Operand.tmp 6), type := 26, pos := "laws.go:272", after := #[{ on := 15, ground := Ground.guard }], guard := some (15, true) }) (v := ?vq16) rfl (by kernel_rfl) (by kernel_rfl) (by kernel_rfl) (fun _ _ _ h => h) (Or.inl ⟨by rfl, ?hyq16⟩) (by assumption) ?restq16
    case hyq16 => (intro w hSw; (try dsimp only at hSw); go_simp; try with_reducible rfl)
    try simp only [Act.put, List.setIfInBounds_toArray, List.set_cons_zero, List.set_cons_succ]
    refine wpAnyH_take (i := 17) (oi := { dst := some 84, op := Op.load 26 (Operand.tmp 3), type := 26, pos := "laws.go:272", after := #[{ on := 15, ground := Ground.guard }], guard := some (15, true) }) (v := ?vq17) rfl (by kernel_rfl) (by kernel_rfl) (by kernel_rfl) (fun _ _ _ h => h) (Or.inl ⟨by rfl, ?hyq17⟩) (by assumption) ?restq17
    case hyq17 => (intro w hSw; (try dsimp only at hSw); go_simp; try with_reducible rfl)
    try simp only [Act.put, List.setIfInBounds_toArray, List.set_cons_zero, List.set_cons_succ]
    clear hHeld
    refine wpAnyH_ready (rs := [18]) (by kernel_rfl) (by simp) ?_
    refine AllReadyH.cons (o := { dst := some 85, op := Op.call { callee := Callee.value (Operand.func 14), args := #[Operand.tmp 83, Operand.tmp 84], argTypes := #[26, 26] }, type := 4, pos := "laws.go:272", after := #[{ on := 16, ground := Ground.data }, { on := 17, ground := Ground.data }, { on := 15, ground := Ground.chain }, { on := 15, ground := Ground.guard }], guard := some (15, true) }) rfl (fun K hK => ?_) AllReadyH.nil
    go_simp
    refine (specSame_any g u a1 l.length k1 l t g u am l.length cm l t _ rfl rfl LM.out (RX8.out.later Bv2.out) (RM8.out.later Bv2.out)).mono ?_; rintro e v3 ⟨rfl, hb⟩
    rw [smail_self]
    have Bv3 : Hid (Below W8.heap.size W8 v3) := btr Bv2.out hb
    clear hb
    go_wp2_with fail
    refine hK.out _ _ (HC.out _ Bv3.out) (fun hHeld => ?_)
    clear hK K
    try simp only [Act.put, List.setIfInBounds_toArray, List.set_cons_zero, List.set_cons_succ]
    refine wpAnyH_take (i := 19) (oi := { dst := some 86, op := Op.pick (Operand.tmp 82) (Operand.tmp 85) (Operand.const (Value.bool false)), type := 4, pos := "laws.go:272", after := #[{ on := 15, ground := Ground.data }, { on := 18, ground := Ground.data }, { on := 13, ground := Ground.guard }], guard := some (13, false) }) (v := ?vq19) rfl (by kernel_rfl) (by kernel_rfl) (by kernel_rfl) (fun _ _ _ h => h) (Or.inl ⟨by rfl, ?hyq19⟩) (by assumption) ?restq19
    case hyq19 => (intro w hSw; (try dsimp only at hSw); go_simp; try with_reducible rfl)
    try simp only [Act.put, List.setIfInBounds_toArray, List.set_cons_zero, List.set_cons_succ]
    refine wpAnyH_take (i := 20) (oi := { dst := some 87, op := Op.move (Operand.tmp 86), type := 4, pos := "laws.go:272", after := #[{ on := 19, ground := Ground.data }, { on := 18, ground := Ground.chain }, { on := 13, ground := Ground.guard }], guard := some (13, false) }) (v := ?vq20) rfl (by kernel_rfl) (by kernel_rfl) (by kernel_rfl) (fun _ _ _ h => h) (Or.inl ⟨by rfl, ?hyq20⟩) (by assumption) ?restq20
    case hyq20 => (intro w hSw; (try dsimp only at hSw); go_simp; try with_reducible rfl)
    try simp only [Act.put, List.setIfInBounds_toArray, List.set_cons_zero, List.set_cons_succ]
    refine wpAnyH_take (i := 21) (oi := { dst := some 88, op := Op.move (Operand.tmp 7), type := 3, pos := "laws.go:272", after := #[{ on := 20, ground := Ground.guard }], guard := some (20, true) }) (v := ?vq21) rfl (by kernel_rfl) (by kernel_rfl) (by kernel_rfl) (fun _ _ _ h => h) (Or.inl ⟨by rfl, ?hyq21⟩) (by assumption) ?restq21
    case hyq21 => (intro w hSw; (try dsimp only at hSw); go_simp; try with_reducible rfl)
    try simp only [Act.put, List.setIfInBounds_toArray, List.set_cons_zero, List.set_cons_succ]
    refine wpAnyH_take (i := 22) (oi := { dst := some 89, op := Op.move (Operand.tmp 4), type := 9, pos := "laws.go:272", after := #[{ on := 20, ground := Ground.guard }], guard := some (20, true) }) (v := ?vq22) rfl (by kernel_rfl) (by kernel_rfl) (by kernel_rfl) (fun _ _ _ h => h) (Or.inl ⟨by rfl, ?hyq22⟩) (by assumption) ?restq22
    case hyq22 => (intro w hSw; (try dsimp only at hSw); go_simp; try with_reducible rfl)
    try simp only [Act.put, List.setIfInBounds_toArray, List.set_cons_zero, List.set_cons_succ]
    refine wpAnyH_take (i := 23) (oi := { dst := some 90, op := Op.call { callee := Callee.builtin Builtin.len, args := #[Operand.tmp 89], argTypes := #[9] }, type := 3, pos := "laws.go:272", after := #[{ on := 22, ground := Ground.data }, { on := 20, ground := Ground.guard }], guard := some (20, true) }) (v := ?vq23) rfl (by kernel_rfl) (by kernel_rfl) (by kernel_rfl) (fun _ _ _ h => h) (Or.inl ⟨by rfl, ?hyq23⟩) (by assumption) ?restq23
    case hyq23 => (intro w hSw; (try dsimp only at hSw); go_simp; try with_reducible rfl)
    try simp only [Act.put, List.setIfInBounds_toArray, List.set_cons_zero, List.set_cons_succ]
    refine wpAnyH_take (i := 24) (oi := { dst := some 91, op := Op.binOp BinOp.add 3 (Operand.const (Value.int IntKind.i64 2)) (Operand.tmp 90) 3, type := 3, pos := "laws.go:272", after := #[{ on := 23, ground := Ground.data }, { on := 20, ground := Ground.guard }], guard := some (20, true) }) (v := ?vq24) rfl (by kernel_rfl) (by kernel_rfl) (by kernel_rfl) (fun _ _ _ h => h) (Or.inl ⟨by rfl, ?hyq24⟩) (by assumption) ?restq24
    case hyq24 => (intro w hSw; (try dsimp only at hSw); go_simp; try with_reducible rfl)
    try simp only [Act.put, List.setIfInBounds_toArray, List.set_cons_zero, List.set_cons_succ]
    refine wpAnyH_take (i := 25) (oi := { dst := some 92, op := Op.binOp BinOp.eql 3 (Operand.tmp 88) (Operand.tmp 91) 3, type := 4, pos := "laws.go:272", after := #[{ on := 21, ground := Ground.data }, { on := 24, ground := Ground.data }, { on := 20, ground := Ground.guard }], guard := some (20, true) }) (v := ?vq25) rfl (by kernel_rfl) (by kernel_rfl) (by kernel_rfl) (fun _ _ _ h => h) (Or.inl ⟨by rfl, ?hyq25⟩) (by assumption) ?restq25
    case hyq25 => (intro w hSw; (try dsimp only at hSw); go_simp; try with_reducible rfl)
    try simp only [Act.put, List.setIfInBounds_toArray, List.set_cons_zero, List.set_cons_succ]
    refine wpAnyH_take (i := 26) (oi := { dst := some 93, op := Op.pick (Operand.tmp 87) (Operand.tmp 92) (Operand.const (Value.bool false)), type := 4, pos := "laws.go:272", after := #[{ on := 20, ground := Ground.data }, { on := 25, ground := Ground.data }, { on := 13, ground := Ground.guard }], guard := some (13, false) }) (v := ?vq26) rfl (by kernel_rfl) (by kernel_rfl) (by kernel_rfl) (fun _ _ _ h => h) (Or.inl ⟨by rfl, ?hyq26⟩) (by assumption) ?restq26
    case hyq26 => (intro w hSw; (try dsimp only at hSw); go_simp; try with_reducible rfl)
    try simp only [Act.put, List.setIfInBounds_toArray, List.set_cons_zero, List.set_cons_succ]
    refine wpAnyH_take (i := 27) (oi := { dst := some 94, op := Op.pick (Operand.tmp 80) (Operand.const (Value.bool true)) (Operand.tmp 93), type := 4, pos := "laws.go:272", after := #[{ on := 13, ground := Ground.data }, { on := 26, ground := Ground.data }, { on := 10, ground := Ground.guard }], guard := some (10, true) }) (v := ?vq27) rfl (by kernel_rfl) (by kernel_rfl) (by kernel_rfl) (fun _ _ _ h => h) (Or.inl ⟨by rfl, ?hyq27⟩) (by assumption) ?restq27
    case hyq27 => (intro w hSw; (try dsimp only at hSw); go_simp; try with_reducible rfl)
    try simp only [Act.put, List.setIfInBounds_toArray, List.set_cons_zero, List.set_cons_succ]
    refine wpAnyH_take (i := 28) (oi := { dst := some 95, op := Op.pick (Operand.tmp 77) (Operand.tmp 94) (Operand.const (Value.bool false)), type := 4, pos := "laws.go:272", after := #[{ on := 10, ground := Ground.data }, { on := 27, ground := Ground.data }], guard := none }) (v := ?vq28) rfl (by kernel_rfl) (by kernel_rfl) (by kernel_rfl) (fun _ _ _ h => h) (Or.inl ⟨by rfl, ?hyq28⟩) (by assumption) ?restq28
    case hyq28 => (intro w hSw; (try dsimp only at hSw); go_simp; try with_reducible rfl)
    try simp only [Act.put, List.setIfInBounds_toArray, List.set_cons_zero, List.set_cons_succ]
    refine wpAnyH_take (i := 29) (oi := { dst := some 96, op := Op.move (Operand.tmp 95), type := 4, pos := "laws.go:272", after := #[{ on := 28, ground := Ground.data }, { on := 20, ground := Ground.chain }], guard := none }) (v := ?vq29) rfl (by kernel_rfl) (by kernel_rfl) (by kernel_rfl) (fun _ _ _ h => h) (Or.inl ⟨by rfl, ?hyq29⟩) (by assumption) ?restq29
    case hyq29 => (intro w hSw; (try dsimp only at hSw); go_simp; try with_reducible rfl)
    try simp only [Act.put, List.setIfInBounds_toArray, List.set_cons_zero, List.set_cons_succ]
    refine wpAnyH_take (i := 30) (oi := { dst := some 97, op := Op.move (Operand.tmp 13), type := 4, pos := "laws.go:272", after := #[{ on := 29, ground := Ground.guard }], guard := some (29, true) }) (v := ?vq30) rfl (by kernel_rfl) (by kernel_rfl) (by kernel_rfl) (fun _ _ _ h => h) (Or.inl ⟨by rfl, ?hyq30⟩) (by assumption) ?restq30
    case hyq30 => (intro w hSw; (try dsimp only at hSw); go_simp; try with_reducible rfl)
    try simp only [Act.put, List.setIfInBounds_toArray, List.set_cons_zero, List.set_cons_succ]
    refine wpAnyH_take (i := 31) (oi := { dst := some 98, op := Op.move (Operand.tmp 16), type := 4, pos := "laws.go:272", after := #[{ on := 29, ground := Ground.guard }], guard := some (29, true) }) (v := ?vq31) rfl (by kernel_rfl) (by kernel_rfl) (by kernel_rfl) (fun _ _ _ h => h) (Or.inl ⟨by rfl, ?hyq31⟩) (by assumption) ?restq31
    case hyq31 => (intro w hSw; (try dsimp only at hSw); go_simp; try with_reducible rfl)
    try simp only [Act.put, List.setIfInBounds_toArray, List.set_cons_zero, List.set_cons_succ]
    refine wpAnyH_take (i := 32) (oi := { dst := some 99, op := Op.binOp BinOp.eql 4 (Operand.tmp 97) (Operand.tmp 98) 4, type := 4, pos := "laws.go:272", after := #[{ on := 30, ground := Ground.data }, { on := 31, ground := Ground.data }, { on := 29, ground := Ground.guard }], guard := some (29, true) }) (v := ?vq32) rfl (by kernel_rfl) (by kernel_rfl) (by kernel_rfl) (fun _ _ _ h => h) (Or.inl ⟨by rfl, ?hyq32⟩) (by assumption) ?restq32
    case hyq32 => (intro w hSw; (try dsimp only at hSw); go_simp; try with_reducible rfl)
    try simp only [Act.put, List.setIfInBounds_toArray, List.set_cons_zero, List.set_cons_succ]
    refine wpAnyH_take (i := 33) (oi := { dst := some 100, op := Op.pick (Operand.tmp 96) (Operand.tmp 99) (Operand.const (Value.bool false)), type := 4, pos := "laws.go:272", after := #[{ on := 29, ground := Ground.data }, { on := 32, ground := Ground.data }], guard := none }) (v := ?vq33) rfl (by kernel_rfl) (by kernel_rfl) (by kernel_rfl) (fun _ _ _ h => h) (Or.inl ⟨by rfl, ?hyq33⟩) (by assumption) ?restq33
    case hyq33 => (intro w hSw; (try dsimp only at hSw); go_simp; try with_reducible rfl)
    try simp only [Act.put, List.setIfInBounds_toArray, List.set_cons_zero, List.set_cons_succ]
    refine wpAnyH_take (i := 34) (oi := { dst := some 101, op := Op.move (Operand.tmp 100), type := 4, pos := "laws.go:272", after := #[{ on := 33, ground := Ground.data }, { on := 29, ground := Ground.chain }], guard := none }) (v := ?vq34) rfl (by kernel_rfl) (by kernel_rfl) (by kernel_rfl) (fun _ _ _ h => h) (Or.inl ⟨by rfl, ?hyq34⟩) (by assumption) ?restq34
    case hyq34 => (intro w hSw; (try dsimp only at hSw); go_simp; try with_reducible rfl)
    try simp only [Act.put, List.setIfInBounds_toArray, List.set_cons_zero, List.set_cons_succ]
    refine wpAnyH_take (i := 35) (oi := { dst := some 102, op := Op.move (Operand.tmp 12), type := 3, pos := "laws.go:272", after := #[{ on := 34, ground := Ground.guard }], guard := some (34, true) }) (v := ?vq35) rfl (by kernel_rfl) (by kernel_rfl) (by kernel_rfl) (fun _ _ _ h => h) (Or.inl ⟨by rfl, ?hyq35⟩) (by assumption) ?restq35
    case hyq35 => (intro w hSw; (try dsimp only at hSw); go_simp; try with_reducible rfl)
    try simp only [Act.put, List.setIfInBounds_toArray, List.set_cons_zero, List.set_cons_succ]
    refine wpAnyH_take (i := 36) (oi := { dst := some 103, op := Op.move (Operand.tmp 15), type := 3, pos := "laws.go:272", after := #[{ on := 34, ground := Ground.guard }], guard := some (34, true) }) (v := ?vq36) rfl (by kernel_rfl) (by kernel_rfl) (by kernel_rfl) (fun _ _ _ h => h) (Or.inl ⟨by rfl, ?hyq36⟩) (by assumption) ?restq36
    case hyq36 => (intro w hSw; (try dsimp only at hSw); go_simp; try with_reducible rfl)
    try simp only [Act.put, List.setIfInBounds_toArray, List.set_cons_zero, List.set_cons_succ]
    refine wpAnyH_take (i := 37) (oi := { dst := some 104, op := Op.binOp BinOp.eql 3 (Operand.tmp 102) (Operand.tmp 103) 3, type := 4, pos := "laws.go:272", after := #[{ on := 35, ground := Ground.data }, { on := 36, ground := Ground.data }, { on := 34, ground := Ground.guard }], guard := some (34, true) }) (v := ?vq37) rfl (by kernel_rfl) (by kernel_rfl) (by kernel_rfl) (fun _ _ _ h => h) (Or.inl ⟨by rfl, ?hyq37⟩) (by assumption) ?restq37
    case hyq37 => (intro w hSw; (try dsimp only at hSw); go_simp; try with_reducible rfl)
    try simp only [Act.put, List.setIfInBounds_toArray, List.set_cons_zero, List.set_cons_succ]
    refine wpAnyH_take (i := 38) (oi := { dst := some 105, op := Op.pick (Operand.tmp 101) (Operand.tmp 104) (Operand.const (Value.bool false)), type := 4, pos := "laws.go:272", after := #[{ on := 34, ground := Ground.data }, { on := 37, ground := Ground.data }], guard := none }) (v := ?vq38) rfl (by kernel_rfl) (by kernel_rfl) (by kernel_rfl) (fun _ _ _ h => h) (Or.inl ⟨by rfl, ?hyq38⟩) (by assumption) ?restq38
    case hyq38 => (intro w hSw; (try dsimp only at hSw); go_simp; try with_reducible rfl)
    try simp only [Act.put, List.setIfInBounds_toArray, List.set_cons_zero, List.set_cons_succ]
    refine wpAnyH_take (i := 39) (oi := { dst := some 106, op := Op.move (Operand.tmp 105), type := 4, pos := "laws.go:272", after := #[{ on := 38, ground := Ground.data }, { on := 34, ground := Ground.chain }], guard := none }) (v := ?vq39) rfl (by kernel_rfl) (by kernel_rfl) (by kernel_rfl) (fun _ _ _ h => h) (Or.inl ⟨by rfl, ?hyq39⟩) (by assumption) ?restq39
    case hyq39 => (intro w hSw; (try dsimp only at hSw); go_simp; try with_reducible rfl)
    try simp only [Act.put, List.setIfInBounds_toArray, List.set_cons_zero, List.set_cons_succ]
    refine wpAnyH_take (i := 40) (oi := { dst := some 107, op := Op.move (Operand.tmp 13), type := 4, pos := "laws.go:272", after := #[{ on := 39, ground := Ground.guard }], guard := some (39, true) }) (v := ?vq40) rfl (by kernel_rfl) (by kernel_rfl) (by kernel_rfl) (fun _ _ _ h => h) (Or.inl ⟨by rfl, ?hyq40⟩) (by assumption) ?restq40
    case hyq40 => (intro w hSw; (try dsimp only at hSw); go_simp; try with_reducible rfl)
    try simp only [Act.put, List.setIfInBounds_toArray, List.set_cons_zero, List.set_cons_succ]
    refine wpAnyH_take (i := 41) (oi := { dst := some 108, op := Op.unOp UnOp.not 4 (Operand.tmp 107), type := 4, pos := "laws.go:272", after := #[{ on := 40, ground := Ground.data }, { on := 39, ground := Ground.guard }], guard := some (39, true) }) (v := ?vq41) rfl (by kernel_rfl) (by kernel_rfl) (by kernel_rfl) (fun _ _ _ h => h) (Or.inl ⟨by rfl, ?hyq41⟩) (by assumption) ?restq41
    case hyq41 => (intro w hSw; (try dsimp only at hSw); go_simp; try with_reducible rfl)
    try simp only [Act.put, List.setIfInBounds_toArray, List.set_cons_zero, List.set_cons_succ]
    refine wpAnyH_take (i := 42) (oi := { dst := some 109, op := Op.move (Operand.tmp 108), type := 4, pos := "laws.go:272", after := #[{ on := 41, ground := Ground.data }, { on := 39, ground := Ground.chain }, { on := 39, ground := Ground.guard }], guard := some (39, true) }) (v := ?vq42) rfl (by kernel_rfl) (by kernel_rfl) (by kernel_rfl) (fun _ _ _ h => h) (Or.inl ⟨by rfl, ?hyq42⟩) (by assumption) ?restq42
    case hyq42 => (intro w hSw; (try dsimp only at hSw); go_simp; try with_reducible rfl)
    try simp only [Act.put, List.setIfInBounds_toArray, List.set_cons_zero, List.set_cons_succ]
    refine wpAnyH_take (i := 43) (oi := { dst := some 110, op := Op.move (Operand.tmp 17), type := 9, pos := "laws.go:272", after := #[{ on := 42, ground := Ground.guard }], guard := some (42, false) }) (v := undef) rfl (by kernel_rfl) (by kernel_rfl) (by kernel_rfl) (fun _ _ _ h => h) (Or.inr ⟨by rfl, rfl⟩) (by assumption) ?_
    try simp only [Act.put, List.setIfInBounds_toArray, List.set_cons_zero, List.set_cons_succ]
    refine wpAnyH_take (i := 44) (oi := { dst := some 111, op := Op.move (Operand.tmp 9), type := 9, pos := "laws.go:272", after := #[{ on := 42, ground := Ground.guard }], guard := some (42, false) }) (v := undef) rfl (by kernel_rfl) (by kernel_rfl) (by kernel_rfl) (fun _ _ _ h => h) (Or.inr ⟨by rfl, rfl⟩) (by assumption) ?_
    try simp only [Act.put, List.setIfInBounds_toArray, List.set_cons_zero, List.set_cons_succ]
    refine wpAnyH_take (i := 45) (oi := { dst := some 112, op := Op.move (Operand.tmp 10), type := 3, pos := "laws.go:272", after := #[{ on := 42, ground := Ground.guard }], guard := some (42, false) }) (v := undef) rfl (by kernel_rfl) (by kernel_rfl) (by kernel_rfl) (fun _ _ _ h => h) (Or.inr ⟨by rfl, rfl⟩) (by assumption) ?_
    try simp only [Act.put, List.setIfInBounds_toArray, List.set_cons_zero, List.set_cons_succ]
    refine wpAnyH_take (i := 46) (oi := { dst := some 113, op := Op.slice 9 (Operand.tmp 111) (some (Operand.tmp 112)) none none, type := 9, pos := "laws.go:272", after := #[{ on := 44, ground := Ground.data }, { on := 45, ground := Ground.data }, { on := 42, ground := Ground.guard }], guard := some (42, false) }) (v := undef) rfl (by kernel_rfl) (by kernel_rfl) (by kernel_rfl) (fun _ _ _ h => h) (Or.inr ⟨by rfl, rfl⟩) (by assumption) ?_
    try simp only [Act.put, List.setIfInBounds_toArray, List.set_cons_zero, List.set_cons_succ]
    refine wpAnyH_take (i := 47) (oi := { dst := some 114, op := Op.call { callee := Callee.value (Operand.func 15), args := #[Operand.tmp 110, Operand.tmp 113], argTypes := #[9, 9] }, type := 4, pos := "laws.go:272", after := #[{ on := 43, ground := Ground.data }, { on := 46, ground := Ground.data }, { on := 42, ground := Ground.chain }, { on := 42, ground := Ground.guard }], guard := some (42, false) }) (v := undef) rfl (by kernel_rfl) (by kernel_rfl) (by kernel_rfl) (fun _ _ _ h => h) (Or.inr ⟨by rfl, rfl⟩) (by assumption) ?_
    try simp only [Act.put, List.setIfInBounds_toArray, List.set_cons_zero, List.set_cons_succ]
    refine wpAnyH_take (i := 48) (oi := { dst := some 115, op := Op.pick (Operand.tmp 109) (Operand.const (Value.bool true)) (Operand.tmp 114), type := 4, pos := "laws.go:272", after := #[{ on := 42, ground := Ground.data }, { on := 47, ground := Ground.data }, { on := 39, ground := Ground.guard }], guard := some (39, true) }) (v := ?vq48) rfl (by kernel_rfl) (by kernel_rfl) (by kernel_rfl) (fun _ _ _ h => h) (Or.inl ⟨by rfl, ?hyq48⟩) (by assumption) ?restq48
    case hyq48 => (intro w hSw; (try dsimp only at hSw); go_simp; try with_reducible rfl)
    try simp only [Act.put, List.setIfInBounds_toArray, List.set_cons_zero, List.set_cons_succ]
    refine wpAnyH_take (i := 49) (oi := { dst := some 116, op := Op.pick (Operand.tmp 106) (Operand.tmp 115) (Operand.const (Value.bool false)), type := 4, pos := "laws.go:272", after := #[{ on := 39, ground := Ground.data }, { on := 48, ground := Ground.data }], guard := none }) (v := ?vq49) rfl (by kernel_rfl) (by kernel_rfl) (by kernel_rfl) (fun _ _ _ h => h) (Or.inl ⟨by rfl, ?hyq49⟩) (by assumption) ?restq49
    case hyq49 => (intro w hSw; (try dsimp only at hSw); go_simp; try with_reducible rfl)
    try simp only [Act.put, List.setIfInBounds_toArray, List.set_cons_zero, List.set_cons_succ]
    refine wpAnyH_take (i := 50) (oi := { dst := some 117, op := Op.move (Operand.tmp 116), type := 4, pos := "laws.go:272", after := #[{ on := 49, ground := Ground.data }, { on := 47, ground := Ground.chain }], guard := none }) (v := ?vq50) rfl (by kernel_rfl) (by kernel_rfl) (by kernel_rfl) (fun _ _ _ h => h) (Or.inl ⟨by rfl, ?hyq50⟩) (by assumption) ?restq50
    case hyq50 => (intro w hSw; (try dsimp only at hSw); go_simp; try with_reducible rfl)
    try simp only [Act.put, List.setIfInBounds_toArray, List.set_cons_zero, List.set_cons_succ]
    refine wpAnyH_take (i := 51) (oi := { dst := some 118, op := Op.load 26 (Operand.tmp 19), type := 26, pos := "laws.go:272", after := #[{ on := 50, ground := Ground.guard }], guard := some (50, true) }) (v := ?vq51) rfl (by kernel_rfl) (by kernel_rfl) (by kernel_rfl) (fun _ _ _ h => h) (Or.inl ⟨by rfl, ?hyq51⟩) (by assumption) ?restq51
    case hyq51 => (intro w hSw; (try dsimp only at hSw); go_simp; try with_reducible rfl)
    try simp only [Act.put, List.setIfInBounds_toArray, List.set_cons_zero, List.set_cons_succ]
    refine wpAnyH_take (i := 52) (oi := { dst := some 119, op := Op.load 26 (Operand.tmp 20), type := 26, pos := "laws.go:272", after := #[{ on := 50, ground := Ground.guard }], guard := some (50, true) }) (v := ?vq52) rfl (by kernel_rfl) (by kernel_rfl) (by kernel_rfl) (fun _ _ _ h => h) (Or.inl ⟨by rfl, ?hyq52⟩) (by assumption) ?restq52
    case hyq52 => (intro w hSw; (try dsimp only at hSw); go_simp; try with_reducible rfl)
    try simp only [Act.put, List.setIfInBounds_toArray, List.set_cons_zero, List.set_cons_succ]
    refine wpAnyH_take (i := 54) (oi := { dst := some 121, op := Op.load 26 (Operand.tmp 19), type := 26, pos := "laws.go:272", after := #[{ on := 50, ground := Ground.guard }], guard := some (50, true) }) (v := ?vq54) rfl (by kernel_rfl) (by kernel_rfl) (by kernel_rfl) (fun _ _ _ h => h) (Or.inl ⟨by rfl, ?hyq54⟩) (by assumption) ?restq54
    case hyq54 => (intro w hSw; (try dsimp only at hSw); go_simp; try with_reducible rfl)
    try simp only [Act.put, List.setIfInBounds_toArray, List.set_cons_zero, List.set_cons_succ]
    refine wpAnyH_take (i := 55) (oi := { dst := some 122, op := Op.load 26 (Operand.tmp 20), type := 26, pos := "laws.go:272", after := #[{ on := 50, ground := Ground.guard }], guard := some (50, true) }) (v := ?vq55) rfl (by kernel_rfl) (by kernel_rfl) (by kernel_rfl) (fun _ _ _ h => h) (Or.inl ⟨by rfl, ?hyq55⟩) (by assumption) ?restq55
    case hyq55 => (intro w hSw; (try dsimp only at hSw); go_simp; try with_reducible rfl)
    try simp only [Act.put, List.setIfInBounds_toArray, List.set_cons_zero, List.set_cons_succ]
    clear hHeld
    refine wpAnyH_ready (rs := [53]) (by kernel_rfl) (by simp) ?_
    refine AllReadyH.cons (o := { dst := some 120, op := Op.call { callee := Callee.value (Operand.func 16), args := #[Operand.tmp 118, Operand.tmp 119], argTypes := #[26, 26] }, type := 4, pos := "laws.go:272", after := #[{ on := 51, ground := Ground.data }, { on := 52, ground := Ground.data }, { on := 50, ground := Ground.chain }, { on := 50, ground := Ground.guard }], guard := some (50, true) }) rfl (fun K hK => ?_) AllReadyH.nil
    go_simp
    refine (implSame_any ga ua aa la.length ka la ta gb ub ab lb.length kb lb tb _ rfl rfl LA.out (RA8.out.later Bv3.out) (RB8.out.later Bv3.out)).mono ?_; rintro e v5 ⟨rfl, hb⟩
    rw [HJ.out]
    have Bv5 : Hid (Below W8.heap.size W8 v5) := btr Bv3.out hb
    clear hb
    go_wp2_with fail
    refine hK.out _ _ (HC.out _ Bv5.out) (fun hHeld => ?_)
    clear hK K
    try simp only [Act.put, List.setIfInBounds_toArray, List.set_cons_zero, List.set_cons_succ]
    clear hHeld
    refine wpAnyH_ready (rs := [56]) (by kernel_rfl) (by simp) ?_
    refine AllReadyH.cons (o := { dst := some 123, op := Op.call { callee := Callee.value (Operand.func 14), args := #[Operand.tmp 121, Operand.tmp 122], argTypes := #[26, 26] }, type := 4, pos := "laws.go:272", after := #[{ on := 54, ground := Ground.data }, { on := 55, ground := Ground.data }, { on := 53, ground := Ground.chain }, { on := 50, ground := Ground.guard }], guard := some (50, true) }) rfl (fun K hK => ?_) AllReadyH.nil
    go_simp
    refine (specSame_any ga ua aa la.length ka la ta gb ub ab lb.length kb lb tb _ rfl rfl LA.out (RA8.out.later Bv5.out) (RB8.out.later Bv5.out)).mono ?_; rintro e v6 ⟨rfl, hb⟩
    rw [HJ.out]
    have Bv6 : Hid (Below W8.heap.size W8 v6) := btr Bv5.out hb
    clear hb
    go_wp2_with fail
    refine hK.out _ _ (HC.out _ Bv6.out) (fun hHeld => ?_)
    clear hK K
    try simp only [Act.put, List.setIfInBounds_toArray, List.set_cons_zero, List.set_cons_succ]
    refine wpAnyH_take (i := 57) (oi := { dst := some 124, op := Op.binOp BinOp.eql 4 (Operand.tmp 120) (Operand.tmp 123) 4, type := 4, pos := "laws.go:272", after := #[{ on := 53, ground := Ground.data }, { on := 56, ground := Ground.data }, { on := 50, ground := Ground.guard }], guard := some (50, true) }) (v := ?vq57) rfl (by kernel_rfl) (by kernel_rfl) (by kernel_rfl) (fun _ _ _ h => h) (Or.inl ⟨by rfl, ?hyq57⟩) (by assumption) ?restq57
    case hyq57 => (intro w hSw; (try dsimp only at hSw); go_simp; try with_reducible rfl)
    try simp only [Act.put, List.setIfInBounds_toArray, List.set_cons_zero, List.set_cons_succ]
    refine wpAnyH_take (i := 58) (oi := { dst := some 125, op := Op.pick (Operand.tmp 117) (Operand.tmp 124) (Operand.const (Value.bool false)), type := 4, pos := "laws.go:272", after := #[{ on := 50, ground := Ground.data }, { on := 57, ground := Ground.data }], guard := none }) (v := ?vq58) rfl (by kernel_rfl) (by kernel_rfl) (by kernel_rfl) (fun _ _ _ h => h) (Or.inl ⟨by rfl, ?hyq58⟩) (by assumption) ?restq58
    case hyq58 => (intro w hSw; (try dsimp only at hSw); go_simp; try with_reducible rfl)
    try simp only [Act.put, List.setIfInBounds_toArray, List.set_cons_zero, List.set_cons_succ]
    refine wpAnyH_take (i := 59) (oi := { dst := some 126, op := Op.move (Operand.tmp 125), type := 4, pos := "laws.go:272", after := #[{ on := 58, ground := Ground.data }, { on := 56, ground := Ground.chain }], guard := none }) (v := ?vq59) rfl (by kernel_rfl) (by kernel_rfl) (by kernel_rfl) (fun _ _ _ h => h) (Or.inl ⟨by rfl, ?hyq59⟩) (by assumption) ?restq59
    case hyq59 => (intro w hSw; (try dsimp only at hSw); go_simp; try with_reducible rfl)
    try simp only [Act.put, List.setIfInBounds_toArray, List.set_cons_zero, List.set_cons_succ]
    refine wpAnyH_take (i := 60) (oi := { dst := some 127, op := Op.load 26 (Operand.tmp 19), type := 26, pos := "laws.go:272", after := #[{ on := 59, ground := Ground.guard }], guard := some (59, true) }) (v := ?vq60) rfl (by kernel_rfl) (by kernel_rfl) (by kernel_rfl) (fun _ _ _ h => h) (Or.inl ⟨by rfl, ?hyq60⟩) (by assumption) ?restq60
    case hyq60 => (intro w hSw; (try dsimp only at hSw); go_simp; try with_reducible rfl)
    try simp only [Act.put, List.setIfInBounds_toArray, List.set_cons_zero, List.set_cons_succ]
    refine wpAnyH_take (i := 61) (oi := { dst := some 128, op := Op.load 26 (Operand.tmp 20), type := 26, pos := "laws.go:272", after := #[{ on := 59, ground := Ground.guard }], guard := some (59, true) }) (v := ?vq61) rfl (by kernel_rfl) (by kernel_rfl) (by kernel_rfl) (fun _ _ _ h => h) (Or.inl ⟨by rfl, ?hyq61⟩) (by assumption) ?restq61
    case hyq61 => (intro w hSw; (try dsimp only at hSw); go_simp; try with_reducible rfl)
    try simp only [Act.put, List.setIfInBounds_toArray, List.set_cons_zero, List.set_cons_succ]
    refine wpAnyH_take (i := 63) (oi := { dst := some 130, op := Op.load 26 (Operand.tmp 19), type := 26, pos := "laws.go:272", after := #[{ on := 59, ground := Ground.guard }], guard := some (59, true) }) (v := ?vq63) rfl (by kernel_rfl) (by kernel_rfl) (by kernel_rfl) (fun _ _ _ h => h) (Or.inl ⟨by rfl, ?hyq63⟩) (by assumption) ?restq63
    case hyq63 => (intro w hSw; (try dsimp only at hSw); go_simp; try with_reducible rfl)
    try simp only [Act.put, List.setIfInBounds_toArray, List.set_cons_zero, List.set_cons_succ]
    refine wpAnyH_take (i := 64) (oi := { dst := some 131, op := Op.load 26 (Operand.tmp 20), type := 26, pos := "laws.go:272", after := #[{ on := 59, ground := Ground.guard }], guard := some (59, true) }) (v := ?vq64) rfl (by kernel_rfl) (by kernel_rfl) (by kernel_rfl) (fun _ _ _ h => h) (Or.inl ⟨by rfl, ?hyq64⟩) (by assumption) ?restq64
    case hyq64 => (intro w hSw; (try dsimp only at hSw); go_simp; try with_reducible rfl)
    try simp only [Act.put, List.setIfInBounds_toArray, List.set_cons_zero, List.set_cons_succ]
    clear hHeld
    refine wpAnyH_ready (rs := [62]) (by kernel_rfl) (by simp) ?_
    refine AllReadyH.cons (o := { dst := some 129, op := Op.call { callee := Callee.value (Operand.func 17), args := #[Operand.tmp 127, Operand.tmp 128], argTypes := #[26, 26] }, type := 26, pos := "laws.go:272", after := #[{ on := 60, ground := Ground.data }, { on := 61, ground := Ground.data }, { on := 59, ground := Ground.chain }, { on := 59, ground := Ground.guard }], guard := some (59, true) }) rfl (fun K hK => ?_) AllReadyH.nil
    go_simp
    refine (implJoinMail_any ga ua aa la.length ka la ta gb ub ab lb.length kb lb tb _ rfl rfl LA.out LB.out TA.out TB.out (RA8.out.later Bv6.out) (RB8.out.later Bv6.out) ZA.out).mono ?_; rintro e v7 ⟨vv, rfl, ho, hb⟩
    obtain ⟨av7, kv7, hv, _⟩ := Ow.shape ho
    rw [PL.out] at ho hv
    subst hv
    rw [PU.out, PT.out]
    have R7 := hid (Ow.rs ho).2
    have Bv7 : Hid (Below W8.heap.size W8 v7) := btr Bv6.out hb
    clear ho hb
    go_wp2_with fail
    refine hK.out _ _ (HC.out _ Bv7.out) (fun hHeld => ?_)
    clear hK K
    try simp only [Act.put, List.setIfInBounds_toArray, List.set_cons_zero, List.set_cons_succ]
    clear hHeld
    refine wpAnyH_ready (rs := [65]) (by kernel_rfl) (by simp) ?_
    refine AllReadyH.cons (o := { dst := some 132, op := Op.call { callee := Callee.value (Operand.func 18), args := #[Operand.tmp 130, Operand.tmp 131], argTypes := #[26, 26] }, type := 26, pos := "laws.go:272", after := #[{ on := 63, ground := Ground.data }, { on := 64, ground := Ground.data }, { on := 62, ground := Ground.chain }, { on := 59, ground := Ground.guard }], guard := some (59, true) }) rfl (fun K hK => ?_) AllReadyH.nil
    go_simp
    refine (specJoinMail_any ga ua aa la.length ka la ta gb ub ab lb.length kb lb tb _ rfl rfl LA.out LB.out TA.out TB.out (RA8.out.later Bv7.out) (RB8.out.later Bv7.out) ZA.out).mono ?_; rintro e v8 ⟨vv, rfl, ho, hb⟩
    obtain ⟨av8, kv8, hv, _⟩ := Ow.shape ho
    rw [PL.out] at ho hv
    subst hv
    rw [PU.out, PT.out]
    have R8 := hid (Ow.rs ho).2
    have R7b := hid (R7.out.later hb)
    have Bv8 : Hid (Below W8.heap.size W8 v8) := btr Bv7.out hb
    clear ho hb
    go_wp2_with fail
    refine hK.out _ _ (HC.out _ Bv8.out) (fun hHeld => ?_)
    clear hK K
    try simp only [Act.put, List.setIfInBounds_toArray, List.set_cons_zero, List.set_cons_succ]
    clear hHeld
    refine wpAnyH_ready (rs := [66]) (by kernel_rfl) (by simp) ?_
    refine AllReadyH.cons (o := { dst := some 133, op := Op.call { callee := Callee.value (Operand.func 14), args := #[Operand.tmp 129, Operand.tmp 132], argTypes := #[26, 26] }, type := 4, pos := "laws.go:272", after := #[{ on := 62, ground := Ground.data }, { on := 65, ground := Ground.data }, { on := 65, ground := Ground.chain }, { on := 59, ground := Ground.guard }], guard := some (59, true) }) rfl (fun K hK => ?_) AllReadyH.nil
    go_simp
    refine (specSame_any ga pu av7 pl.length kv7 pl pt ga pu av8 pl.length kv8 pl pt _ rfl rfl PN.out R7b.out R8.out).mono ?_; rintro e v9 ⟨rfl, hb⟩
    rw [smail_self]
    have Bv9 : Hid (Below W8.heap.size W8 v9) := btr Bv8.out hb
    clear hb
    go_wp2_with fail
    refine hK.out _ _ (HC.out _ Bv9.out) (fun hHeld => ?_)
    clear hK K
    try simp only [Act.put, List.setIfInBounds_toArray, List.set_cons_zero, List.set_cons_succ]
    refine wpAnyH_take (i := 67) (oi := { dst := some 134, op := Op.pick (Operand.tmp 126) (Operand.tmp 133) (Operand.const (Value.bool false)), type := 4, pos := "laws.go:272", after := #[{ on := 59, ground := Ground.data }, { on := 66, ground := Ground.data }], guard := none }) (v := ?vq67) rfl (by kernel_rfl) (by kernel_rfl) (by kernel_rfl) (fun _ _ _ h => h) (Or.inl ⟨by rfl, ?hyq67⟩) (by assumption) ?restq67
    case hyq67 => (intro w hSw; (try dsimp only at hSw); go_simp; try with_reducible rfl)
    try simp only [Act.put, List.setIfInBounds_toArray, List.set_cons_zero, List.set_cons_succ]
    refine wpAnyH_take (i := 68) (oi := { dst := some 135, op := Op.move (Operand.tmp 134), type := 4, pos := "laws.go:272", after := #[{ on := 67, ground := Ground.data }, { on := 66, ground := Ground.chain }], guard := none }) (v := ?vq68) rfl (by kernel_rfl) (by kernel_rfl) (by kernel_rfl) (fun _ _ _ h => h) (Or.inl ⟨by rfl, ?hyq68⟩) (by assumption) ?restq68
    case hyq68 => (intro w hSw; (try dsimp only at hSw); go_simp; try with_reducible rfl)
    try simp only [Act.put, List.setIfInBounds_toArray, List.set_cons_zero, List.set_cons_succ]
    refine wpAnyH_take (i := 69) (oi := { dst := some 136, op := Op.load 26 (Operand.tmp 3), type := 26, pos := "laws.go:272", after := #[{ on := 68, ground := Ground.guard }], guard := some (68, true) }) (v := ?vq69) rfl (by kernel_rfl) (by kernel_rfl) (by kernel_rfl) (fun _ _ _ h => h) (Or.inl ⟨by rfl, ?hyq69⟩) (by assumption) ?restq69
    case hyq69 => (intro w hSw; (try dsimp only at hSw); go_simp; try with_reducible rfl)
    try simp only [Act.put, List.setIfInBounds_toArray, List.set_cons_zero, List.set_cons_succ]
    refine wpAnyH_take (i := 70) (oi := { dst := some 137, op := Op.load 26 (Operand.tmp 3), type := 26, pos := "laws.go:272", after := #[{ on := 68, ground := Ground.guard }], guard := some (68, true) }) (v := ?vq70) rfl (by kernel_rfl) (by kernel_rfl) (by kernel_rfl) (fun _ _ _ h => h) (Or.inl ⟨by rfl, ?hyq70⟩) (by assumption) ?restq70
    case hyq70 => (intro w hSw; (try dsimp only at hSw); go_simp; try with_reducible rfl)
    try simp only [Act.put, List.setIfInBounds_toArray, List.set_cons_zero, List.set_cons_succ]
    clear hHeld
    refine wpAnyH_ready (rs := [71]) (by kernel_rfl) (by simp) ?_
    refine AllReadyH.cons (o := { dst := some 138, op := Op.call { callee := Callee.value (Operand.func 16), args := #[Operand.tmp 136, Operand.tmp 137], argTypes := #[26, 26] }, type := 4, pos := "laws.go:272", after := #[{ on := 69, ground := Ground.data }, { on := 70, ground := Ground.data }, { on := 68, ground := Ground.chain }, { on := 68, ground := Ground.guard }], guard := some (68, true) }) rfl (fun K hK => ?_) AllReadyH.nil
    go_simp
    refine (implSame_any g u am l.length cm l t g u am l.length cm l t _ rfl rfl LM.out (RM8.out.later Bv9.out) (RM8.out.later Bv9.out)).mono ?_; rintro e v10 ⟨rfl, hb⟩
    rw [smail_self]
    have Bv10 : Hid (Below W8.heap.size W8 v10) := btr Bv9.out hb
    clear hb
    go_wp2_with fail
    refine hK.out _ _ (HC.out _ Bv10.out) (fun hHeld => ?_)
    clear hK K
    try simp only [Act.put, List.setIfInBounds_toArray, List.set_cons_zero, List.set_cons_succ]
    refine wpAnyH_take (i := 72) (oi := { dst := some 139, op := Op.pick (Operand.tmp 135) (Operand.tmp 138) (Operand.const (Value.bool false)), type := 4, pos := "laws.go:272", after := #[{ on := 68, ground := Ground.data }, { on := 71, ground := Ground.data }], guard := none }) (v := ?vq72) rfl (by kernel_rfl) (by kernel_rfl) (by kernel_rfl) (fun _ _ _ h => h) (Or.inl ⟨by rfl, ?hyq72⟩) (by assumption) ?restq72
    case hyq72 => (intro w hSw; (try dsimp only at hSw); go_simp; try with_reducible rfl)
    try simp only [Act.put, List.setIfInBounds_toArray, List.set_cons_zero, List.set_cons_succ]
    refine wpAnyH_take (i := 73) (oi := { dst := some 2, op := Op.assign (Operand.tmp 139), type := 4, pos := "laws.go:272", after := #[{ on := 72, ground := Ground.data }, { on := 71, ground := Ground.chain }, { on := 0, ground := Ground.phase }, { on := 1, ground := Ground.phase }, { on := 2, ground := Ground.phase }, { on := 3, ground := Ground.phase }, { on := 4, ground := Ground.phase }, { on := 5, ground := Ground.phase }, { on := 6, ground := Ground.phase }, { on := 7, ground := Ground.phase }, { on := 8, ground := Ground.phase }, { on := 9, ground := Ground.phase }, { on := 10, ground := Ground.phase }, { on := 11, ground := Ground.phase }, { on := 12, ground := Ground.phase }, { on := 13, ground := Ground.phase }, { on := 14, ground := Ground.phase }, { on := 15, ground := Ground.phase }, { on := 16, ground := Ground.phase }, { on := 17, ground := Ground.phase }, { on := 18, ground := Ground.phase }, { on := 19, ground := Ground.phase }, { on := 20, ground := Ground.phase }, { on := 21, ground := Ground.phase }, { on := 22, ground := Ground.phase }, { on := 23, ground := Ground.phase }, { on := 24, ground := Ground.phase }, { on := 25, ground := Ground.phase }, { on := 26, ground := Ground.phase }, { on := 27, ground := Ground.phase }, { on := 28, ground := Ground.phase }, { on := 29, ground := Ground.phase }, { on := 30, ground := Ground.phase }, { on := 31, ground := Ground.phase }, { on := 32, ground := Ground.phase }, { on := 33, ground := Ground.phase }, { on := 34, ground := Ground.phase }, { on := 35, ground := Ground.phase }, { on := 36, ground := Ground.phase }, { on := 37, ground := Ground.phase }, { on := 38, ground := Ground.phase }, { on := 39, ground := Ground.phase }, { on := 40, ground := Ground.phase }, { on := 41, ground := Ground.phase }, { on := 42, ground := Ground.phase }, { on := 43, ground := Ground.phase }, { on := 44, ground := Ground.phase }, { on := 45, ground := Ground.phase }, { on := 46, ground := Ground.phase }, { on := 47, ground := Ground.phase }, { on := 48, ground := Ground.phase }, { on := 49, ground := Ground.phase }, { on := 50, ground := Ground.phase }, { on := 51, ground := Ground.phase }, { on := 52, ground := Ground.phase }, { on := 53, ground := Ground.phase }, { on := 54, ground := Ground.phase }, { on := 55, ground := Ground.phase }, { on := 56, ground := Ground.phase }, { on := 57, ground := Ground.phase }, { on := 58, ground := Ground.phase }, { on := 59, ground := Ground.phase }, { on := 60, ground := Ground.phase }, { on := 61, ground := Ground.phase }, { on := 62, ground := Ground.phase }, { on := 63, ground := Ground.phase }, { on := 64, ground := Ground.phase }, { on := 65, ground := Ground.phase }, { on := 66, ground := Ground.phase }, { on := 67, ground := Ground.phase }, { on := 68, ground := Ground.phase }, { on := 69, ground := Ground.phase }, { on := 70, ground := Ground.phase }, { on := 71, ground := Ground.phase }, { on := 72, ground := Ground.phase }], guard := none }) (v := ?vq73) rfl (by kernel_rfl) (by kernel_rfl) (by kernel_rfl) (fun _ _ _ h => h) (Or.inl ⟨by rfl, ?hyq73⟩) (by assumption) ?restq73
    case hyq73 => (intro w hSw; (try dsimp only at hSw); go_simp; try with_reducible rfl)
    try simp only [Act.put, List.setIfInBounds_toArray, List.set_cons_zero, List.set_cons_succ]
    refine wpAnyH_done (by kernel_rfl) ?_ _
    refine NoPanic.normal ?_
    clear hHeld
    go_wp2
    go_ret
    exact ⟨rfl, btr B8.out Bv10.out⟩
  · have e2 := E2.out rfl
    have E21 := hid e2.1
    have E22 := hid e2.2
    have haI : (0 : Int) ≤ (a : Int) ∧ (a : Int) ≤ (s.size : Int) := by have := HAS.out; omega
    clear e2
    go_wp2_with fail
    clear hW8 cc
    have Bz : Hid (Below W8.heap.size W8 W8.drew) := bdr (bre W8)
    dsimp only [List.append]
    refine wp_region_noPanic ?_
    refine wp_region_held_drew (S := fun W => (W.cell? ⟨w1.heap.size, 0, none⟩ = some (.int .i64 g) ∧ W.cell? ⟨w1.heap.size, 1, none⟩ = some (.int .i64 u) ∧ W.cell? ⟨w1.heap.size, 2, none⟩ = some (.slice am l.length cm) ∧ W.cell? ⟨w1.heap.size, 3, none⟩ = some (.string t)) ∧ (W.cell? ⟨w3.heap.size, 0, none⟩ = some (.int .i64 g1) ∧ W.cell? ⟨w3.heap.size, 1, none⟩ = some (.int .i64 u1) ∧ W.cell? ⟨w3.heap.size, 2, none⟩ = some (.slice a1 l1.length k1) ∧ W.cell? ⟨w3.heap.size, 3, none⟩ = some (.string t1)) ∧ (W.cell? ⟨w8.heap.size, 0, none⟩ = some (.int .i64 ga) ∧ W.cell? ⟨w8.heap.size, 1, none⟩ = some (.int .i64 ua) ∧ W.cell? ⟨w8.heap.size, 2, none⟩ = some (.slice aa la.length ka) ∧ W.cell? ⟨w8.heap.size, 3, none⟩ = some (.string ta)) ∧ (W.cell? ⟨(w8.heap.size + 1), 0, none⟩ = some (.int .i64 gb) ∧ W.cell? ⟨(w8.heap.size + 1), 1, none⟩ = some (.int .i64 ub) ∧ W.cell? ⟨(w8.heap.size + 1), 2, none⟩ = some (.slice ab lb.length kb) ∧ W.cell? ⟨(w8.heap.size + 1), 3, none⟩ = some (.string tb))) (by kernel_rfl) (HC.out _ Bz.out) (fun hHeld => ?_)
    refine wpAnyH_take (i := 0) (oi := { dst := some 67, op := Op.move (Operand.tmp 5), type := 4, pos := "laws.go:272", after := #[], guard := none }) (v := ?vr0) rfl (by kernel_rfl) (by kernel_rfl) (by kernel_rfl) (fun _ _ _ h => h) (Or.inl ⟨by rfl, ?hyr0⟩) (by assumption) ?restr0
    case hyr0 => (intro w hSw; (try dsimp only at hSw); go_simp; try with_reducible rfl)
    try simp only [Act.put, List.setIfInBounds_toArray, List.set_cons_zero, List.set_cons_succ]
    refine wpAnyH_take (i := 1) (oi := { dst := some 68, op := Op.load 26 (Operand.tmp 3), type := 26, pos := "laws.go:272", after := #[], guard := none }) (v := ?vr1) rfl (by kernel_rfl) (by kernel_rfl) (by kernel_rfl) (fun _ _ _ h => h) (Or.inl ⟨by rfl, ?hyr1⟩) (by assumption) ?restr1
    case hyr1 => (intro w hSw; (try dsimp only at hSw); go_simp; try with_reducible rfl)
    try simp only [Act.put, List.setIfInBounds_toArray, List.set_cons_zero, List.set_cons_succ]
    clear hHeld
    refine wpAnyH_ready (rs := [2]) (by kernel_rfl) (by simp) ?_
    refine AllReadyH.cons (o := { dst := some 69, op := Op.call { callee := Callee.value (Operand.func 12), args := #[Operand.tmp 68], argTypes := #[26] }, type := 4, pos := "laws.go:272", after := #[{ on := 1, ground := Ground.data }], guard := none }) rfl (fun K hK => ?_) AllReadyH.nil
    go_simp
    refine (specMailOk_any g u am l.length cm l t _ rfl LM.out (RM8.out.later Bz.out)).mono ?_; rintro e v1 ⟨rfl, hb⟩
    rw [← HBM.out]
    have Bv1 : Hid (Below W8.heap.size W8 v1) := btr Bz.out hb
    clear hb
    go_wp2_with fail
    refine hK.out _ _ (HC.out _ Bv1.out) (fun hHeld => ?_)
    clear hK K
    try simp only [Act.put, List.setIfInBounds_toArray, List.set_cons_zero, List.set_cons_succ]
    refine wpAnyH_take (i := 3) (oi := { dst := some 70, op := Op.binOp BinOp.eql 4 (Operand.tmp 67) (Operand.tmp 69) 4, type := 4, pos := "laws.go:272", after := #[{ on := 0, ground := Ground.data }, { on := 2, ground := Ground.data }], guard := none }) (v := ?vr3) rfl (by kernel_rfl) (by kernel_rfl) (by kernel_rfl) (fun _ _ _ h => h) (Or.inl ⟨by rfl, ?hyr3⟩) (by assumption) ?restr3
    case hyr3 => (intro w hSw; (try dsimp only at hSw); go_simp; try with_reducible rfl)
    try simp only [Act.put, List.setIfInBounds_toArray, List.set_cons_zero, List.set_cons_succ]
    refine wpAnyH_take (i := 4) (oi := { dst := some 71, op := Op.move (Operand.tmp 70), type := 4, pos := "laws.go:272", after := #[{ on := 3, ground := Ground.data }, { on := 2, ground := Ground.chain }], guard := none }) (v := ?vr4) rfl (by kernel_rfl) (by kernel_rfl) (by kernel_rfl) (fun _ _ _ h => h) (Or.inl ⟨by rfl, ?hyr4⟩) (by assumption) ?restr4
    case hyr4 => (intro w hSw; (try dsimp only at hSw); go_simp; try with_reducible rfl)
    try simp only [Act.put, List.setIfInBounds_toArray, List.set_cons_zero, List.set_cons_succ]
    refine wpAnyH_take (i := 5) (oi := { dst := some 72, op := Op.load 26 (Operand.tmp 3), type := 26, pos := "laws.go:272", after := #[{ on := 4, ground := Ground.guard }], guard := some (4, true) }) (v := ?vr5) rfl (by kernel_rfl) (by kernel_rfl) (by kernel_rfl) (fun _ _ _ h => h) (Or.inl ⟨by rfl, ?hyr5⟩) (by assumption) ?restr5
    case hyr5 => (intro w hSw; (try dsimp only at hSw); go_simp; try with_reducible rfl)
    try simp only [Act.put, List.setIfInBounds_toArray, List.set_cons_zero, List.set_cons_succ]
    refine wpAnyH_take (i := 7) (oi := { dst := some 74, op := Op.move (Operand.tmp 5), type := 4, pos := "laws.go:272", after := #[{ on := 4, ground := Ground.guard }], guard := some (4, true) }) (v := ?vr7) rfl (by kernel_rfl) (by kernel_rfl) (by kernel_rfl) (fun _ _ _ h => h) (Or.inl ⟨by rfl, ?hyr7⟩) (by assumption) ?restr7
    case hyr7 => (intro w hSw; (try dsimp only at hSw); go_simp; try with_reducible rfl)
    try simp only [Act.put, List.setIfInBounds_toArray, List.set_cons_zero, List.set_cons_succ]
    clear hHeld
    refine wpAnyH_ready (rs := [6]) (by kernel_rfl) (by simp) ?_
    refine AllReadyH.cons (o := { dst := some 73, op := Op.call { callee := Callee.value (Operand.func 13), args := #[Operand.tmp 72], argTypes := #[26] }, type := 4, pos := "laws.go:272", after := #[{ on := 5, ground := Ground.data }, { on := 4, ground := Ground.chain }, { on := 4, ground := Ground.guard }], guard := some (4, true) }) rfl (fun K hK => ?_) AllReadyH.nil
    go_simp
    refine (implMailOk_any g u am l.length cm l t _ rfl LM.out (RM8.out.later Bv1.out)).mono ?_; rintro e v2 ⟨rfl, hb⟩
    rw [← HBM.out]
    have Bv2 : Hid (Below W8.heap.size W8 v2) := btr Bv1.out hb
    clear hb
    go_wp2_with fail
    refine hK.out _ _ (HC.out _ Bv2.out) (fun hHeld => ?_)
    clear hK K
    try simp only [Act.put, List.setIfInBounds_toArray, List.set_cons_zero, List.set_cons_succ]
    refine wpAnyH_take (i := 8) (oi := { dst := some 75, op := Op.binOp BinOp.eql 4 (Operand.tmp 73) (Operand.tmp 74) 4, type := 4, pos := "laws.go:272", after := #[{ on := 6, ground := Ground.data }, { on := 7, ground := Ground.data }, { on := 4, ground := Ground.guard }], guard := some (4, true) }) (v := ?vr8) rfl (by kernel_rfl) (by kernel_rfl) (by kernel_rfl) (fun _ _ _ h => h) (Or.inl ⟨by rfl, ?hyr8⟩) (by assumption) ?restr8
    case hyr8 => (intro w hSw; (try dsimp only at hSw); go_simp; try with_reducible rfl)
    try simp only [Act.put, List.setIfInBounds_toArray, List.set_cons_zero, List.set_cons_succ]
    refine wpAnyH_take (i := 9) (oi := { dst := some 76, op := Op.pick (Operand.tmp 71) (Operand.tmp 75) (Operand.const (Value.bool false)), type := 4, pos := "laws.go:272", after := #[{ on := 4, ground := Ground.data }, { on := 8, ground := Ground.data }], guard := none }) (v := ?vr9) rfl (by kernel_rfl) (by kernel_rfl) (by kernel_rfl) (fun _ _ _ h => h) (Or.inl ⟨by rfl, ?hyr9⟩) (by assumption) ?restr9
    case hyr9 => (intro w hSw; (try dsimp only at hSw); go_simp; try with_reducible rfl)
    try simp only [Act.put, List.setIfInBounds_toArray, List.set_cons_zero, List.set_cons_succ]
    refine wpAnyH_take (i := 10) (oi := { dst := some 77, op := Op.move (Operand.tmp 76), type := 4, pos := "laws.go:272", after := #[{ on := 9, ground := Ground.data }, { on := 6, ground := Ground.chain }], guard := none }) (v := ?vr10) rfl (by kernel_rfl) (by kernel_rfl) (by kernel_rfl) (fun _ _ _ h => h) (Or.inl ⟨by rfl, ?hyr10⟩) (by assumption) ?restr10
    case hyr10 => (intro w hSw; (try dsimp only at hSw); go_simp; try with_reducible rfl)
    try simp only [Act.put, List.setIfInBounds_toArray, List.set_cons_zero, List.set_cons_succ]
    refine wpAnyH_take (i := 11) (oi := { dst := some 78, op := Op.move (Operand.tmp 5), type := 4, pos := "laws.go:272", after := #[{ on := 10, ground := Ground.guard }], guard := some (10, true) }) (v := ?vr11) rfl (by kernel_rfl) (by kernel_rfl) (by kernel_rfl) (fun _ _ _ h => h) (Or.inl ⟨by rfl, ?hyr11⟩) (by assumption) ?restr11
    case hyr11 => (intro w hSw; (try dsimp only at hSw); go_simp; try with_reducible rfl)
    try simp only [Act.put, List.setIfInBounds_toArray, List.set_cons_zero, List.set_cons_succ]
    refine wpAnyH_take (i := 12) (oi := { dst := some 79, op := Op.unOp UnOp.not 4 (Operand.tmp 78), type := 4, pos := "laws.go:272", after := #[{ on := 11, ground := Ground.data }, { on := 10, ground := Ground.guard }], guard := some (10, true) }) (v := ?vr12) rfl (by kernel_rfl) (by kernel_rfl) (by kernel_rfl) (fun _ _ _ h => h) (Or.inl ⟨by rfl, ?hyr12⟩) (by assumption) ?restr12
    case hyr12 => (intro w hSw; (try dsimp only at hSw); go_simp; try with_reducible rfl)
    try simp only [Act.put, List.setIfInBounds_toArray, List.set_cons_zero, List.set_cons_succ]
    refine wpAnyH_take (i := 13) (oi := { dst := some 80, op := Op.move (Operand.tmp 79), type := 4, pos := "laws.go:272", after := #[{ on := 12, ground := Ground.data }, { on := 10, ground := Ground.chain }, { on := 10, ground := Ground.guard }], guard := some (10, true) }) (v := ?vr13) rfl (by kernel_rfl) (by kernel_rfl) (by kernel_rfl) (fun _ _ _ h => h) (Or.inl ⟨by rfl, ?hyr13⟩) (by assumption) ?restr13
    case hyr13 => (intro w hSw; (try dsimp only at hSw); go_simp; try with_reducible rfl)
    try simp only [Act.put, List.setIfInBounds_toArray, List.set_cons_zero, List.set_cons_succ]
    refine wpAnyH_take (i := 14) (oi := { dst := some 81, op := Op.move (Operand.tmp 8), type := 4, pos := "laws.go:272", after := #[{ on := 13, ground := Ground.guard }], guard := some (13, false) }) (v := undef) rfl (by kernel_rfl) (by kernel_rfl) (by kernel_rfl) (fun _ _ _ h => h) (Or.inr ⟨by rfl, rfl⟩) (by assumption) ?_
    try simp only [Act.put, List.setIfInBounds_toArray, List.set_cons_zero, List.set_cons_succ]
    refine wpAnyH_take (i := 15) (oi := { dst := some 82, op := Op.move (Operand.tmp 81), type := 4, pos := "laws.go:272", after := #[{ on := 14, ground := Ground.data }, { on := 13, ground := Ground.chain }, { on := 13, ground := Ground.guard }], guard := some (13, false) }) (v := undef) rfl (by kernel_rfl) (by kernel_rfl) (by kernel_rfl) (fun _ _ _ h => h) (Or.inr ⟨by rfl, rfl⟩) (by assumption) ?_
    try simp only [Act.put, List.setIfInBounds_toArray, List.set_cons_zero, List.set_cons_succ]
    refine wpAnyH_take (i := 16) (oi := { dst := some 83, op := Op.load 26 (Operand.tmp 6), type := 26, pos := "laws.go:272", after := #[{ on := 15, ground := Ground.guard }], guard := some (15, true) }) (v := undef) rfl (by kernel_rfl) (by kernel_rfl) (by kernel_rfl) (fun _ _ _ h => h) (Or.inr ⟨by rfl, rfl⟩) (by assumption) ?_
    try simp only [Act.put, List.setIfInBounds_toArray, List.set_cons_zero, List.set_cons_succ]
    refine wpAnyH_take (i := 17) (oi := { dst := some 84, op := Op.load 26 (Operand.tmp 3), type := 26, pos := "laws.go:272", after := #[{ on := 15, ground := Ground.guard }], guard := some (15, true) }) (v := undef) rfl (by kernel_rfl) (by kernel_rfl) (by kernel_rfl) (fun _ _ _ h => h) (Or.inr ⟨by rfl, rfl⟩) (by assumption) ?_
    try simp only [Act.put, List.setIfInBounds_toArray, List.set_cons_zero, List.set_cons_succ]
    refine wpAnyH_take (i := 18) (oi := { dst := some 85, op := Op.call { callee := Callee.value (Operand.func 14), args := #[Operand.tmp 83, Operand.tmp 84], argTypes := #[26, 26] }, type := 4, pos := "laws.go:272", after := #[{ on := 16, ground := Ground.data }, { on := 17, ground := Ground.data }, { on := 15, ground := Ground.chain }, { on := 15, ground := Ground.guard }], guard := some (15, true) }) (v := undef) rfl (by kernel_rfl) (by kernel_rfl) (by kernel_rfl) (fun _ _ _ h => h) (Or.inr ⟨by rfl, rfl⟩) (by assumption) ?_
    try simp only [Act.put, List.setIfInBounds_toArray, List.set_cons_zero, List.set_cons_succ]
    refine wpAnyH_take (i := 19) (oi := { dst := some 86, op := Op.pick (Operand.tmp 82) (Operand.tmp 85) (Operand.const (Value.bool false)), type := 4, pos := "laws.go:272", after := #[{ on := 15, ground := Ground.data }, { on := 18, ground := Ground.data }, { on := 13, ground := Ground.guard }], guard := some (13, false) }) (v := undef) rfl (by kernel_rfl) (by kernel_rfl) (by kernel_rfl) (fun _ _ _ h => h) (Or.inr ⟨by rfl, rfl⟩) (by assumption) ?_
    try simp only [Act.put, List.setIfInBounds_toArray, List.set_cons_zero, List.set_cons_succ]
    refine wpAnyH_take (i := 20) (oi := { dst := some 87, op := Op.move (Operand.tmp 86), type := 4, pos := "laws.go:272", after := #[{ on := 19, ground := Ground.data }, { on := 18, ground := Ground.chain }, { on := 13, ground := Ground.guard }], guard := some (13, false) }) (v := undef) rfl (by kernel_rfl) (by kernel_rfl) (by kernel_rfl) (fun _ _ _ h => h) (Or.inr ⟨by rfl, rfl⟩) (by assumption) ?_
    try simp only [Act.put, List.setIfInBounds_toArray, List.set_cons_zero, List.set_cons_succ]
    refine wpAnyH_take (i := 21) (oi := { dst := some 88, op := Op.move (Operand.tmp 7), type := 3, pos := "laws.go:272", after := #[{ on := 20, ground := Ground.guard }], guard := some (20, true) }) (v := undef) rfl (by kernel_rfl) (by kernel_rfl) (by kernel_rfl) (fun _ _ _ h => h) (Or.inr ⟨by rfl, rfl⟩) (by assumption) ?_
    try simp only [Act.put, List.setIfInBounds_toArray, List.set_cons_zero, List.set_cons_succ]
    refine wpAnyH_take (i := 22) (oi := { dst := some 89, op := Op.move (Operand.tmp 4), type := 9, pos := "laws.go:272", after := #[{ on := 20, ground := Ground.guard }], guard := some (20, true) }) (v := undef) rfl (by kernel_rfl) (by kernel_rfl) (by kernel_rfl) (fun _ _ _ h => h) (Or.inr ⟨by rfl, rfl⟩) (by assumption) ?_
    try simp only [Act.put, List.setIfInBounds_toArray, List.set_cons_zero, List.set_cons_succ]
    refine wpAnyH_take (i := 23) (oi := { dst := some 90, op := Op.call { callee := Callee.builtin Builtin.len, args := #[Operand.tmp 89], argTypes := #[9] }, type := 3, pos := "laws.go:272", after := #[{ on := 22, ground := Ground.data }, { on := 20, ground := Ground.guard }], guard := some (20, true) }) (v := undef) rfl (by kernel_rfl) (by kernel_rfl) (by kernel_rfl) (fun _ _ _ h => h) (Or.inr ⟨by rfl, rfl⟩) (by assumption) ?_
    try simp only [Act.put, List.setIfInBounds_toArray, List.set_cons_zero, List.set_cons_succ]
    refine wpAnyH_take (i := 24) (oi := { dst := some 91, op := Op.binOp BinOp.add 3 (Operand.const (Value.int IntKind.i64 2)) (Operand.tmp 90) 3, type := 3, pos := "laws.go:272", after := #[{ on := 23, ground := Ground.data }, { on := 20, ground := Ground.guard }], guard := some (20, true) }) (v := undef) rfl (by kernel_rfl) (by kernel_rfl) (by kernel_rfl) (fun _ _ _ h => h) (Or.inr ⟨by rfl, rfl⟩) (by assumption) ?_
    try simp only [Act.put, List.setIfInBounds_toArray, List.set_cons_zero, List.set_cons_succ]
    refine wpAnyH_take (i := 25) (oi := { dst := some 92, op := Op.binOp BinOp.eql 3 (Operand.tmp 88) (Operand.tmp 91) 3, type := 4, pos := "laws.go:272", after := #[{ on := 21, ground := Ground.data }, { on := 24, ground := Ground.data }, { on := 20, ground := Ground.guard }], guard := some (20, true) }) (v := undef) rfl (by kernel_rfl) (by kernel_rfl) (by kernel_rfl) (fun _ _ _ h => h) (Or.inr ⟨by rfl, rfl⟩) (by assumption) ?_
    try simp only [Act.put, List.setIfInBounds_toArray, List.set_cons_zero, List.set_cons_succ]
    refine wpAnyH_take (i := 26) (oi := { dst := some 93, op := Op.pick (Operand.tmp 87) (Operand.tmp 92) (Operand.const (Value.bool false)), type := 4, pos := "laws.go:272", after := #[{ on := 20, ground := Ground.data }, { on := 25, ground := Ground.data }, { on := 13, ground := Ground.guard }], guard := some (13, false) }) (v := undef) rfl (by kernel_rfl) (by kernel_rfl) (by kernel_rfl) (fun _ _ _ h => h) (Or.inr ⟨by rfl, rfl⟩) (by assumption) ?_
    try simp only [Act.put, List.setIfInBounds_toArray, List.set_cons_zero, List.set_cons_succ]
    refine wpAnyH_take (i := 27) (oi := { dst := some 94, op := Op.pick (Operand.tmp 80) (Operand.const (Value.bool true)) (Operand.tmp 93), type := 4, pos := "laws.go:272", after := #[{ on := 13, ground := Ground.data }, { on := 26, ground := Ground.data }, { on := 10, ground := Ground.guard }], guard := some (10, true) }) (v := ?vr27) rfl (by kernel_rfl) (by kernel_rfl) (by kernel_rfl) (fun _ _ _ h => h) (Or.inl ⟨by rfl, ?hyr27⟩) (by assumption) ?restr27
    case hyr27 => (intro w hSw; (try dsimp only at hSw); go_simp; try with_reducible rfl)
    try simp only [Act.put, List.setIfInBounds_toArray, List.set_cons_zero, List.set_cons_succ]
    refine wpAnyH_take (i := 28) (oi := { dst := some 95, op := Op.pick (Operand.tmp 77) (Operand.tmp 94) (Operand.const (Value.bool false)), type := 4, pos := "laws.go:272", after := #[{ on := 10, ground := Ground.data }, { on := 27, ground := Ground.data }], guard := none }) (v := ?vr28) rfl (by kernel_rfl) (by kernel_rfl) (by kernel_rfl) (fun _ _ _ h => h) (Or.inl ⟨by rfl, ?hyr28⟩) (by assumption) ?restr28
    case hyr28 => (intro w hSw; (try dsimp only at hSw); go_simp; try with_reducible rfl)
    try simp only [Act.put, List.setIfInBounds_toArray, List.set_cons_zero, List.set_cons_succ]
    refine wpAnyH_take (i := 29) (oi := { dst := some 96, op := Op.move (Operand.tmp 95), type := 4, pos := "laws.go:272", after := #[{ on := 28, ground := Ground.data }, { on := 20, ground := Ground.chain }], guard := none }) (v := ?vr29) rfl (by kernel_rfl) (by kernel_rfl) (by kernel_rfl) (fun _ _ _ h => h) (Or.inl ⟨by rfl, ?hyr29⟩) (by assumption) ?restr29
    case hyr29 => (intro w hSw; (try dsimp only at hSw); go_simp; try with_reducible rfl)
    try simp only [Act.put, List.setIfInBounds_toArray, List.set_cons_zero, List.set_cons_succ]
    refine wpAnyH_take (i := 30) (oi := { dst := some 97, op := Op.move (Operand.tmp 13), type := 4, pos := "laws.go:272", after := #[{ on := 29, ground := Ground.guard }], guard := some (29, true) }) (v := ?vr30) rfl (by kernel_rfl) (by kernel_rfl) (by kernel_rfl) (fun _ _ _ h => h) (Or.inl ⟨by rfl, ?hyr30⟩) (by assumption) ?restr30
    case hyr30 => (intro w hSw; (try dsimp only at hSw); go_simp; try with_reducible rfl)
    try simp only [Act.put, List.setIfInBounds_toArray, List.set_cons_zero, List.set_cons_succ]
    refine wpAnyH_take (i := 31) (oi := { dst := some 98, op := Op.move (Operand.tmp 16), type := 4, pos := "laws.go:272", after := #[{ on := 29, ground := Ground.guard }], guard := some (29, true) }) (v := ?vr31) rfl (by kernel_rfl) (by kernel_rfl) (by kernel_rfl) (fun _ _ _ h => h) (Or.inl ⟨by rfl, ?hyr31⟩) (by assumption) ?restr31
    case hyr31 => (intro w hSw; (try dsimp only at hSw); go_simp; try with_reducible rfl)
    try simp only [Act.put, List.setIfInBounds_toArray, List.set_cons_zero, List.set_cons_succ]
    refine wpAnyH_take (i := 32) (oi := { dst := some 99, op := Op.binOp BinOp.eql 4 (Operand.tmp 97) (Operand.tmp 98) 4, type := 4, pos := "laws.go:272", after := #[{ on := 30, ground := Ground.data }, { on := 31, ground := Ground.data }, { on := 29, ground := Ground.guard }], guard := some (29, true) }) (v := ?vr32) rfl (by kernel_rfl) (by kernel_rfl) (by kernel_rfl) (fun _ _ _ h => h) (Or.inl ⟨by rfl, ?hyr32⟩) (by assumption) ?restr32
    case hyr32 => (intro w hSw; (try dsimp only at hSw); go_simp; try with_reducible rfl)
    try simp only [Act.put, List.setIfInBounds_toArray, List.set_cons_zero, List.set_cons_succ]
    refine wpAnyH_take (i := 33) (oi := { dst := some 100, op := Op.pick (Operand.tmp 96) (Operand.tmp 99) (Operand.const (Value.bool false)), type := 4, pos := "laws.go:272", after := #[{ on := 29, ground := Ground.data }, { on := 32, ground := Ground.data }], guard := none }) (v := ?vr33) rfl (by kernel_rfl) (by kernel_rfl) (by kernel_rfl) (fun _ _ _ h => h) (Or.inl ⟨by rfl, ?hyr33⟩) (by assumption) ?restr33
    case hyr33 => (intro w hSw; (try dsimp only at hSw); go_simp; try with_reducible rfl)
    try simp only [Act.put, List.setIfInBounds_toArray, List.set_cons_zero, List.set_cons_succ]
    refine wpAnyH_take (i := 34) (oi := { dst := some 101, op := Op.move (Operand.tmp 100), type := 4, pos := "laws.go:272", after := #[{ on := 33, ground := Ground.data }, { on := 29, ground := Ground.chain }], guard := none }) (v := ?vr34) rfl (by kernel_rfl) (by kernel_rfl) (by kernel_rfl) (fun _ _ _ h => h) (Or.inl ⟨by rfl, ?hyr34⟩) (by assumption) ?restr34
    case hyr34 => (intro w hSw; (try dsimp only at hSw); go_simp; try with_reducible rfl)
    try simp only [Act.put, List.setIfInBounds_toArray, List.set_cons_zero, List.set_cons_succ]
    refine wpAnyH_take (i := 35) (oi := { dst := some 102, op := Op.move (Operand.tmp 12), type := 3, pos := "laws.go:272", after := #[{ on := 34, ground := Ground.guard }], guard := some (34, true) }) (v := ?vr35) rfl (by kernel_rfl) (by kernel_rfl) (by kernel_rfl) (fun _ _ _ h => h) (Or.inl ⟨by rfl, ?hyr35⟩) (by assumption) ?restr35
    case hyr35 => (intro w hSw; (try dsimp only at hSw); go_simp; try with_reducible rfl)
    try simp only [Act.put, List.setIfInBounds_toArray, List.set_cons_zero, List.set_cons_succ]
    refine wpAnyH_take (i := 36) (oi := { dst := some 103, op := Op.move (Operand.tmp 15), type := 3, pos := "laws.go:272", after := #[{ on := 34, ground := Ground.guard }], guard := some (34, true) }) (v := ?vr36) rfl (by kernel_rfl) (by kernel_rfl) (by kernel_rfl) (fun _ _ _ h => h) (Or.inl ⟨by rfl, ?hyr36⟩) (by assumption) ?restr36
    case hyr36 => (intro w hSw; (try dsimp only at hSw); go_simp; try with_reducible rfl)
    try simp only [Act.put, List.setIfInBounds_toArray, List.set_cons_zero, List.set_cons_succ]
    refine wpAnyH_take (i := 37) (oi := { dst := some 104, op := Op.binOp BinOp.eql 3 (Operand.tmp 102) (Operand.tmp 103) 3, type := 4, pos := "laws.go:272", after := #[{ on := 35, ground := Ground.data }, { on := 36, ground := Ground.data }, { on := 34, ground := Ground.guard }], guard := some (34, true) }) (v := ?vr37) rfl (by kernel_rfl) (by kernel_rfl) (by kernel_rfl) (fun _ _ _ h => h) (Or.inl ⟨by rfl, ?hyr37⟩) (by assumption) ?restr37
    case hyr37 => (intro w hSw; (try dsimp only at hSw); go_simp; try with_reducible rfl)
    try simp only [Act.put, List.setIfInBounds_toArray, List.set_cons_zero, List.set_cons_succ]
    refine wpAnyH_take (i := 38) (oi := { dst := some 105, op := Op.pick (Operand.tmp 101) (Operand.tmp 104) (Operand.const (Value.bool false)), type := 4, pos := "laws.go:272", after := #[{ on := 34, ground := Ground.data }, { on := 37, ground := Ground.data }], guard := none }) (v := ?vr38) rfl (by kernel_rfl) (by kernel_rfl) (by kernel_rfl) (fun _ _ _ h => h) (Or.inl ⟨by rfl, ?hyr38⟩) (by assumption) ?restr38
    case hyr38 => (intro w hSw; (try dsimp only at hSw); go_simp; try with_reducible rfl)
    try simp only [Act.put, List.setIfInBounds_toArray, List.set_cons_zero, List.set_cons_succ]
    refine wpAnyH_take (i := 39) (oi := { dst := some 106, op := Op.move (Operand.tmp 105), type := 4, pos := "laws.go:272", after := #[{ on := 38, ground := Ground.data }, { on := 34, ground := Ground.chain }], guard := none }) (v := ?vr39) rfl (by kernel_rfl) (by kernel_rfl) (by kernel_rfl) (fun _ _ _ h => h) (Or.inl ⟨by rfl, ?hyr39⟩) (by assumption) ?restr39
    case hyr39 => (intro w hSw; (try dsimp only at hSw); go_simp; try with_reducible rfl)
    try simp only [Act.put, List.setIfInBounds_toArray, List.set_cons_zero, List.set_cons_succ]
    refine wpAnyH_take (i := 40) (oi := { dst := some 107, op := Op.move (Operand.tmp 13), type := 4, pos := "laws.go:272", after := #[{ on := 39, ground := Ground.guard }], guard := some (39, true) }) (v := ?vr40) rfl (by kernel_rfl) (by kernel_rfl) (by kernel_rfl) (fun _ _ _ h => h) (Or.inl ⟨by rfl, ?hyr40⟩) (by assumption) ?restr40
    case hyr40 => (intro w hSw; (try dsimp only at hSw); go_simp; try with_reducible rfl)
    try simp only [Act.put, List.setIfInBounds_toArray, List.set_cons_zero, List.set_cons_succ]
    refine wpAnyH_take (i := 41) (oi := { dst := some 108, op := Op.unOp UnOp.not 4 (Operand.tmp 107), type := 4, pos := "laws.go:272", after := #[{ on := 40, ground := Ground.data }, { on := 39, ground := Ground.guard }], guard := some (39, true) }) (v := ?vr41) rfl (by kernel_rfl) (by kernel_rfl) (by kernel_rfl) (fun _ _ _ h => h) (Or.inl ⟨by rfl, ?hyr41⟩) (by assumption) ?restr41
    case hyr41 => (intro w hSw; (try dsimp only at hSw); go_simp; try with_reducible rfl)
    try simp only [Act.put, List.setIfInBounds_toArray, List.set_cons_zero, List.set_cons_succ]
    refine wpAnyH_take (i := 42) (oi := { dst := some 109, op := Op.move (Operand.tmp 108), type := 4, pos := "laws.go:272", after := #[{ on := 41, ground := Ground.data }, { on := 39, ground := Ground.chain }, { on := 39, ground := Ground.guard }], guard := some (39, true) }) (v := ?vr42) rfl (by kernel_rfl) (by kernel_rfl) (by kernel_rfl) (fun _ _ _ h => h) (Or.inl ⟨by rfl, ?hyr42⟩) (by assumption) ?restr42
    case hyr42 => (intro w hSw; (try dsimp only at hSw); go_simp; try with_reducible rfl)
    try simp only [Act.put, List.setIfInBounds_toArray, List.set_cons_zero, List.set_cons_succ]
    refine wpAnyH_take (i := 43) (oi := { dst := some 110, op := Op.move (Operand.tmp 17), type := 9, pos := "laws.go:272", after := #[{ on := 42, ground := Ground.guard }], guard := some (42, false) }) (v := ?vr43) rfl (by kernel_rfl) (by kernel_rfl) (by kernel_rfl) (fun _ _ _ h => h) (Or.inl ⟨by rfl, ?hyr43⟩) (by assumption) ?restr43
    case hyr43 => (intro w hSw; (try dsimp only at hSw); go_simp; try with_reducible rfl)
    try simp only [Act.put, List.setIfInBounds_toArray, List.set_cons_zero, List.set_cons_succ]
    refine wpAnyH_take (i := 44) (oi := { dst := some 111, op := Op.move (Operand.tmp 9), type := 9, pos := "laws.go:272", after := #[{ on := 42, ground := Ground.guard }], guard := some (42, false) }) (v := ?vr44) rfl (by kernel_rfl) (by kernel_rfl) (by kernel_rfl) (fun _ _ _ h => h) (Or.inl ⟨by rfl, ?hyr44⟩) (by assumption) ?restr44
    case hyr44 => (intro w hSw; (try dsimp only at hSw); go_simp; try with_reducible rfl)
    try simp only [Act.put, List.setIfInBounds_toArray, List.set_cons_zero, List.set_cons_succ]
    refine wpAnyH_take (i := 45) (oi := { dst := some 112, op := Op.move (Operand.tmp 10), type := 3, pos := "laws.go:272", after := #[{ on := 42, ground := Ground.guard }], guard := some (42, false) }) (v := ?vr45) rfl (by kernel_rfl) (by kernel_rfl) (by kernel_rfl) (fun _ _ _ h => h) (Or.inl ⟨by rfl, ?hyr45⟩) (by assumption) ?restr45
    case hyr45 => (intro w hSw; (try dsimp only at hSw); go_simp; try with_reducible rfl)
    try simp only [Act.put, List.setIfInBounds_toArray, List.set_cons_zero, List.set_cons_succ]
    refine wpAnyH_take (i := 46) (oi := { dst := some 113, op := Op.slice 9 (Operand.tmp 111) (some (Operand.tmp 112)) none none, type := 9, pos := "laws.go:272", after := #[{ on := 44, ground := Ground.data }, { on := 45, ground := Ground.data }, { on := 42, ground := Ground.guard }], guard := some (42, false) }) (v := ?vr46) rfl (by kernel_rfl) (by kernel_rfl) (by kernel_rfl) (fun _ _ _ h => h) (Or.inl ⟨by rfl, ?hyr46⟩) (by assumption) ?restr46
    case hyr46 => (intro w hSw; (try dsimp only at hSw); go_simp; try with_reducible rfl)
    try simp only [Act.put, List.setIfInBounds_toArray, List.set_cons_zero, List.set_cons_succ]
    clear hHeld
    refine wpAnyH_ready (rs := [47]) (by kernel_rfl) (by simp) ?_
    refine AllReadyH.cons (o := { dst := some 114, op := Op.call { callee := Callee.value (Operand.func 15), args := #[Operand.tmp 110, Operand.tmp 113], argTypes := #[9, 9] }, type := 4, pos := "laws.go:272", after := #[{ on := 43, ground := Ground.data }, { on := 46, ground := Ground.data }, { on := 42, ground := Ground.chain }, { on := 42, ground := Ground.guard }], guard := some (42, false) }) rfl (fun K hK => ?_) AllReadyH.nil
    go_simp
    refine (begins_yes x2 (s.extract a s.size) _ E21.out E22.out).mono ?_; rintro e v4 ⟨rfl, hb⟩
    have Bv4 : Hid (Below W8.heap.size W8 v4) := btr Bv2.out hb
    clear hb
    go_wp2_with fail
    refine hK.out _ _ (HC.out _ Bv4.out) (fun hHeld => ?_)
    clear hK K
    try simp only [Act.put, List.setIfInBounds_toArray, List.set_cons_zero, List.set_cons_succ]
    refine wpAnyH_take (i := 48) (oi := { dst := some 115, op := Op.pick (Operand.tmp 109) (Operand.const (Value.bool true)) (Operand.tmp 114), type := 4, pos := "laws.go:272", after := #[{ on := 42, ground := Ground.data }, { on := 47, ground := Ground.data }, { on := 39, ground := Ground.guard }], guard := some (39, true) }) (v := ?vr48) rfl (by kernel_rfl) (by kernel_rfl) (by kernel_rfl) (fun _ _ _ h => h) (Or.inl ⟨by rfl, ?hyr48⟩) (by assumption) ?restr48
    case hyr48 => (intro w hSw; (try dsimp only at hSw); go_simp; try with_reducible rfl)
    try simp only [Act.put, List.setIfInBounds_toArray, List.set_cons_zero, List.set_cons_succ]
    refine wpAnyH_take (i := 49) (oi := { dst := some 116, op := Op.pick (Operand.tmp 106) (Operand.tmp 115) (Operand.const (Value.bool false)), type := 4, pos := "laws.go:272", after := #[{ on := 39, ground := Ground.data }, { on := 48, ground := Ground.data }], guard := none }) (v := ?vr49) rfl (by kernel_rfl) (by kernel_rfl) (by kernel_rfl) (fun _ _ _ h => h) (Or.inl ⟨by rfl, ?hyr49⟩) (by assumption) ?restr49
    case hyr49 => (intro w hSw; (try dsimp only at hSw); go_simp; try with_reducible rfl)
    try simp only [Act.put, List.setIfInBounds_toArray, List.set_cons_zero, List.set_cons_succ]
    refine wpAnyH_take (i := 50) (oi := { dst := some 117, op := Op.move (Operand.tmp 116), type := 4, pos := "laws.go:272", after := #[{ on := 49, ground := Ground.data }, { on := 47, ground := Ground.chain }], guard := none }) (v := ?vr50) rfl (by kernel_rfl) (by kernel_rfl) (by kernel_rfl) (fun _ _ _ h => h) (Or.inl ⟨by rfl, ?hyr50⟩) (by assumption) ?restr50
    case hyr50 => (intro w hSw; (try dsimp only at hSw); go_simp; try with_reducible rfl)
    try simp only [Act.put, List.setIfInBounds_toArray, List.set_cons_zero, List.set_cons_succ]
    refine wpAnyH_take (i := 51) (oi := { dst := some 118, op := Op.load 26 (Operand.tmp 19), type := 26, pos := "laws.go:272", after := #[{ on := 50, ground := Ground.guard }], guard := some (50, true) }) (v := ?vr51) rfl (by kernel_rfl) (by kernel_rfl) (by kernel_rfl) (fun _ _ _ h => h) (Or.inl ⟨by rfl, ?hyr51⟩) (by assumption) ?restr51
    case hyr51 => (intro w hSw; (try dsimp only at hSw); go_simp; try with_reducible rfl)
    try simp only [Act.put, List.setIfInBounds_toArray, List.set_cons_zero, List.set_cons_succ]
    refine wpAnyH_take (i := 52) (oi := { dst := some 119, op := Op.load 26 (Operand.tmp 20), type := 26, pos := "laws.go:272", after := #[{ on := 50, ground := Ground.guard }], guard := some (50, true) }) (v := ?vr52) rfl (by kernel_rfl) (by kernel_rfl) (by kernel_rfl) (fun _ _ _ h => h) (Or.inl ⟨by rfl, ?hyr52⟩) (by assumption) ?restr52
    case hyr52 => (intro w hSw; (try dsimp only at hSw); go_simp; try with_reducible rfl)
    try simp only [Act.put, List.setIfInBounds_toArray, List.set_cons_zero, List.set_cons_succ]
    refine wpAnyH_take (i := 54) (oi := { dst := some 121, op := Op.load 26 (Operand.tmp 19), type := 26, pos := "laws.go:272", after := #[{ on := 50, ground := Ground.guard }], guard := some (50, true) }) (v := ?vr54) rfl (by kernel_rfl) (by kernel_rfl) (by kernel_rfl) (fun _ _ _ h => h) (Or.inl ⟨by rfl, ?hyr54⟩) (by assumption) ?restr54
    case hyr54 => (intro w hSw; (try dsimp only at hSw); go_simp; try with_reducible rfl)
    try simp only [Act.put, List.setIfInBounds_toArray, List.set_cons_zero, List.set_cons_succ]
    refine wpAnyH_take (i := 55) (oi := { dst := some 122, op := Op.load 26 (Operand.tmp 20), type := 26, pos := "laws.go:272", after := #[{ on := 50, ground := Ground.guard }], guard := some (50, true) }) (v := ?vr55) rfl (by kernel_rfl) (by kernel_rfl) (by kernel_rfl) (fun _ _ _ h => h) (Or.inl ⟨by rfl, ?hyr55⟩) (by assumption) ?restr55
    case hyr55 => (intro w hSw; (try dsimp only at hSw); go_simp; try with_reducible rfl)
    try simp only [Act.put, List.setIfInBounds_toArray, List.set_cons_zero, List.set_cons_succ]
    clear hHeld
    refine wpAnyH_ready (rs := [53]) (by kernel_rfl) (by simp) ?_
    refine AllReadyH.cons (o := { dst := some 120, op := Op.call { callee := Callee.value (Operand.func 16), args := #[Operand.tmp 118, Operand.tmp 119], argTypes := #[26, 26] }, type := 4, pos := "laws.go:272", after := #[{ on := 51, ground := Ground.data }, { on := 52, ground := Ground.data }, { on := 50, ground := Ground.chain }, { on := 50, ground := Ground.guard }], guard := some (50, true) }) rfl (fun K hK => ?_) AllReadyH.nil
    go_simp
    refine (implSame_any ga ua aa la.length ka la ta gb ub ab lb.length kb lb tb _ rfl rfl LA.out (RA8.out.later Bv4.out) (RB8.out.later Bv4.out)).mono ?_; rintro e v5 ⟨rfl, hb⟩
    rw [HJ.out]
    have Bv5 : Hid (Below W8.heap.size W8 v5) := btr Bv4.out hb
    clear hb
    go_wp2_with fail
    refine hK.out _ _ (HC.out _ Bv5.out) (fun hHeld => ?_)
    clear hK K
    try simp only [Act.put, List.setIfInBounds_toArray, List.set_cons_zero, List.set_cons_succ]
    clear hHeld
    refine wpAnyH_ready (rs := [56]) (by kernel_rfl) (by simp) ?_
    refine AllReadyH.cons (o := { dst := some 123, op := Op.call { callee := Callee.value (Operand.func 14), args := #[Operand.tmp 121, Operand.tmp 122], argTypes := #[26, 26] }, type := 4, pos := "laws.go:272", after := #[{ on := 54, ground := Ground.data }, { on := 55, ground := Ground.data }, { on := 53, ground := Ground.chain }, { on := 50, ground := Ground.guard }], guard := some (50, true) }) rfl (fun K hK => ?_) AllReadyH.nil
    go_simp
    refine (specSame_any ga ua aa la.length ka la ta gb ub ab lb.length kb lb tb _ rfl rfl LA.out (RA8.out.later Bv5.out) (RB8.out.later Bv5.out)).mono ?_; rintro e v6 ⟨rfl, hb⟩
    rw [HJ.out]
    have Bv6 : Hid (Below W8.heap.size W8 v6) := btr Bv5.out hb
    clear hb
    go_wp2_with fail
    refine hK.out _ _ (HC.out _ Bv6.out) (fun hHeld => ?_)
    clear hK K
    try simp only [Act.put, List.setIfInBounds_toArray, List.set_cons_zero, List.set_cons_succ]
    refine wpAnyH_take (i := 57) (oi := { dst := some 124, op := Op.binOp BinOp.eql 4 (Operand.tmp 120) (Operand.tmp 123) 4, type := 4, pos := "laws.go:272", after := #[{ on := 53, ground := Ground.data }, { on := 56, ground := Ground.data }, { on := 50, ground := Ground.guard }], guard := some (50, true) }) (v := ?vr57) rfl (by kernel_rfl) (by kernel_rfl) (by kernel_rfl) (fun _ _ _ h => h) (Or.inl ⟨by rfl, ?hyr57⟩) (by assumption) ?restr57
    case hyr57 => (intro w hSw; (try dsimp only at hSw); go_simp; try with_reducible rfl)
    try simp only [Act.put, List.setIfInBounds_toArray, List.set_cons_zero, List.set_cons_succ]
    refine wpAnyH_take (i := 58) (oi := { dst := some 125, op := Op.pick (Operand.tmp 117) (Operand.tmp 124) (Operand.const (Value.bool false)), type := 4, pos := "laws.go:272", after := #[{ on := 50, ground := Ground.data }, { on := 57, ground := Ground.data }], guard := none }) (v := ?vr58) rfl (by kernel_rfl) (by kernel_rfl) (by kernel_rfl) (fun _ _ _ h => h) (Or.inl ⟨by rfl, ?hyr58⟩) (by assumption) ?restr58
    case hyr58 => (intro w hSw; (try dsimp only at hSw); go_simp; try with_reducible rfl)
    try simp only [Act.put, List.setIfInBounds_toArray, List.set_cons_zero, List.set_cons_succ]
    refine wpAnyH_take (i := 59) (oi := { dst := some 126, op := Op.move (Operand.tmp 125), type := 4, pos := "laws.go:272", after := #[{ on := 58, ground := Ground.data }, { on := 56, ground := Ground.chain }], guard := none }) (v := ?vr59) rfl (by kernel_rfl) (by kernel_rfl) (by kernel_rfl) (fun _ _ _ h => h) (Or.inl ⟨by rfl, ?hyr59⟩) (by assumption) ?restr59
    case hyr59 => (intro w hSw; (try dsimp only at hSw); go_simp; try with_reducible rfl)
    try simp only [Act.put, List.setIfInBounds_toArray, List.set_cons_zero, List.set_cons_succ]
    refine wpAnyH_take (i := 60) (oi := { dst := some 127, op := Op.load 26 (Operand.tmp 19), type := 26, pos := "laws.go:272", after := #[{ on := 59, ground := Ground.guard }], guard := some (59, true) }) (v := ?vr60) rfl (by kernel_rfl) (by kernel_rfl) (by kernel_rfl) (fun _ _ _ h => h) (Or.inl ⟨by rfl, ?hyr60⟩) (by assumption) ?restr60
    case hyr60 => (intro w hSw; (try dsimp only at hSw); go_simp; try with_reducible rfl)
    try simp only [Act.put, List.setIfInBounds_toArray, List.set_cons_zero, List.set_cons_succ]
    refine wpAnyH_take (i := 61) (oi := { dst := some 128, op := Op.load 26 (Operand.tmp 20), type := 26, pos := "laws.go:272", after := #[{ on := 59, ground := Ground.guard }], guard := some (59, true) }) (v := ?vr61) rfl (by kernel_rfl) (by kernel_rfl) (by kernel_rfl) (fun _ _ _ h => h) (Or.inl ⟨by rfl, ?hyr61⟩) (by assumption) ?restr61
    case hyr61 => (intro w hSw; (try dsimp only at hSw); go_simp; try with_reducible rfl)
    try simp only [Act.put, List.setIfInBounds_toArray, List.set_cons_zero, List.set_cons_succ]
    refine wpAnyH_take (i := 63) (oi := { dst := some 130, op := Op.load 26 (Operand.tmp 19), type := 26, pos := "laws.go:272", after := #[{ on := 59, ground := Ground.guard }], guard := some (59, true) }) (v := ?vr63) rfl (by kernel_rfl) (by kernel_rfl) (by kernel_rfl) (fun _ _ _ h => h) (Or.inl ⟨by rfl, ?hyr63⟩) (by assumption) ?restr63
    case hyr63 => (intro w hSw; (try dsimp only at hSw); go_simp; try with_reducible rfl)
    try simp only [Act.put, List.setIfInBounds_toArray, List.set_cons_zero, List.set_cons_succ]
    refine wpAnyH_take (i := 64) (oi := { dst := some 131, op := Op.load 26 (Operand.tmp 20), type := 26, pos := "laws.go:272", after := #[{ on := 59, ground := Ground.guard }], guard := some (59, true) }) (v := ?vr64) rfl (by kernel_rfl) (by kernel_rfl) (by kernel_rfl) (fun _ _ _ h => h) (Or.inl ⟨by rfl, ?hyr64⟩) (by assumption) ?restr64
    case hyr64 => (intro w hSw; (try dsimp only at hSw); go_simp; try with_reducible rfl)
    try simp only [Act.put, List.setIfInBounds_toArray, List.set_cons_zero, List.set_cons_succ]
    clear hHeld
    refine wpAnyH_ready (rs := [62]) (by kernel_rfl) (by simp) ?_
    refine AllReadyH.cons (o := { dst := some 129, op := Op.call { callee := Callee.value (Operand.func 17), args := #[Operand.tmp 127, Operand.tmp 128], argTypes := #[26, 26] }, type := 26, pos := "laws.go:272", after := #[{ on := 60, ground := Ground.data }, { on := 61, ground := Ground.data }, { on := 59, ground := Ground.chain }, { on := 59, ground := Ground.guard }], guard := some (59, true) }) rfl (fun K hK => ?_) AllReadyH.nil
    go_simp
    refine (implJoinMail_any ga ua aa la.length ka la ta gb ub ab lb.length kb lb tb _ rfl rfl LA.out LB.out TA.out TB.out (RA8.out.later Bv6.out) (RB8.out.later Bv6.out) ZA.out).mono ?_; rintro e v7 ⟨vv, rfl, ho, hb⟩
    obtain ⟨av7, kv7, hv, _⟩ := Ow.shape ho
    rw [PL.out] at ho hv
    subst hv
    rw [PU.out, PT.out]
    have R7 := hid (Ow.rs ho).2
    have Bv7 : Hid (Below W8.heap.size W8 v7) := btr Bv6.out hb
    clear ho hb
    go_wp2_with fail
    refine hK.out _ _ (HC.out _ Bv7.out) (fun hHeld => ?_)
    clear hK K
    try simp only [Act.put, List.setIfInBounds_toArray, List.set_cons_zero, List.set_cons_succ]
    clear hHeld
    refine wpAnyH_ready (rs := [65]) (by kernel_rfl) (by simp) ?_
    refine AllReadyH.cons (o := { dst := some 132, op := Op.call { callee := Callee.value (Operand.func 18), args := #[Operand.tmp 130, Operand.tmp 131], argTypes := #[26, 26] }, type := 26, pos := "laws.go:272", after := #[{ on := 63, ground := Ground.data }, { on := 64, ground := Ground.data }, { on := 62, ground := Ground.chain }, { on := 59, ground := Ground.guard }], guard := some (59, true) }) rfl (fun K hK => ?_) AllReadyH.nil
    go_simp
    refine (specJoinMail_any ga ua aa la.length ka la ta gb ub ab lb.length kb lb tb _ rfl rfl LA.out LB.out TA.out TB.out (RA8.out.later Bv7.out) (RB8.out.later Bv7.out) ZA.out).mono ?_; rintro e v8 ⟨vv, rfl, ho, hb⟩
    obtain ⟨av8, kv8, hv, _⟩ := Ow.shape ho
    rw [PL.out] at ho hv
    subst hv
    rw [PU.out, PT.out]
    have R8 := hid (Ow.rs ho).2
    have R7b := hid (R7.out.later hb)
    have Bv8 : Hid (Below W8.heap.size W8 v8) := btr Bv7.out hb
    clear ho hb
    go_wp2_with fail
    refine hK.out _ _ (HC.out _ Bv8.out) (fun hHeld => ?_)
    clear hK K
    try simp only [Act.put, List.setIfInBounds_toArray, List.set_cons_zero, List.set_cons_succ]
    clear hHeld
    refine wpAnyH_ready (rs := [66]) (by kernel_rfl) (by simp) ?_
    refine AllReadyH.cons (o := { dst := some 133, op := Op.call { callee := Callee.value (Operand.func 14), args := #[Operand.tmp 129, Operand.tmp 132], argTypes := #[26, 26] }, type := 4, pos := "laws.go:272", after := #[{ on := 62, ground := Ground.data }, { on := 65, ground := Ground.data }, { on := 65, ground := Ground.chain }, { on := 59, ground := Ground.guard }], guard := some (59, true) }) rfl (fun K hK => ?_) AllReadyH.nil
    go_simp
    refine (specSame_any ga pu av7 pl.length kv7 pl pt ga pu av8 pl.length kv8 pl pt _ rfl rfl PN.out R7b.out R8.out).mono ?_; rintro e v9 ⟨rfl, hb⟩
    rw [smail_self]
    have Bv9 : Hid (Below W8.heap.size W8 v9) := btr Bv8.out hb
    clear hb
    go_wp2_with fail
    refine hK.out _ _ (HC.out _ Bv9.out) (fun hHeld => ?_)
    clear hK K
    try simp only [Act.put, List.setIfInBounds_toArray, List.set_cons_zero, List.set_cons_succ]
    refine wpAnyH_take (i := 67) (oi := { dst := some 134, op := Op.pick (Operand.tmp 126) (Operand.tmp 133) (Operand.const (Value.bool false)), type := 4, pos := "laws.go:272", after := #[{ on := 59, ground := Ground.data }, { on := 66, ground := Ground.data }], guard := none }) (v := ?vr67) rfl (by kernel_rfl) (by kernel_rfl) (by kernel_rfl) (fun _ _ _ h => h) (Or.inl ⟨by rfl, ?hyr67⟩) (by assumption) ?restr67
    case hyr67 => (intro w hSw; (try dsimp only at hSw); go_simp; try with_reducible rfl)
    try simp only [Act.put, List.setIfInBounds_toArray, List.set_cons_zero, List.set_cons_succ]
    refine wpAnyH_take (i := 68) (oi := { dst := some 135, op := Op.move (Operand.tmp 134), type := 4, pos := "laws.go:272", after := #[{ on := 67, ground := Ground.data }, { on := 66, ground := Ground.chain }], guard := none }) (v := ?vr68) rfl (by kernel_rfl) (by kernel_rfl) (by kernel_rfl) (fun _ _ _ h => h) (Or.inl ⟨by rfl, ?hyr68⟩) (by assumption) ?restr68
    case hyr68 => (intro w hSw; (try dsimp only at hSw); go_simp; try with_reducible rfl)
    try simp only [Act.put, List.setIfInBounds_toArray, List.set_cons_zero, List.set_cons_succ]
    refine wpAnyH_take (i := 69) (oi := { dst := some 136, op := Op.load 26 (Operand.tmp 3), type := 26, pos := "laws.go:272", after := #[{ on := 68, ground := Ground.guard }], guard := some (68, true) }) (v := ?vr69) rfl (by kernel_rfl) (by kernel_rfl) (by kernel_rfl) (fun _ _ _ h => h) (Or.inl ⟨by rfl, ?hyr69⟩) (by assumption) ?restr69
    case hyr69 => (intro w hSw; (try dsimp only at hSw); go_simp; try with_reducible rfl)
    try simp only [Act.put, List.setIfInBounds_toArray, List.set_cons_zero, List.set_cons_succ]
    refine wpAnyH_take (i := 70) (oi := { dst := some 137, op := Op.load 26 (Operand.tmp 3), type := 26, pos := "laws.go:272", after := #[{ on := 68, ground := Ground.guard }], guard := some (68, true) }) (v := ?vr70) rfl (by kernel_rfl) (by kernel_rfl) (by kernel_rfl) (fun _ _ _ h => h) (Or.inl ⟨by rfl, ?hyr70⟩) (by assumption) ?restr70
    case hyr70 => (intro w hSw; (try dsimp only at hSw); go_simp; try with_reducible rfl)
    try simp only [Act.put, List.setIfInBounds_toArray, List.set_cons_zero, List.set_cons_succ]
    clear hHeld
    refine wpAnyH_ready (rs := [71]) (by kernel_rfl) (by simp) ?_
    refine AllReadyH.cons (o := { dst := some 138, op := Op.call { callee := Callee.value (Operand.func 16), args := #[Operand.tmp 136, Operand.tmp 137], argTypes := #[26, 26] }, type := 4, pos := "laws.go:272", after := #[{ on := 69, ground := Ground.data }, { on := 70, ground := Ground.data }, { on := 68, ground := Ground.chain }, { on := 68, ground := Ground.guard }], guard := some (68, true) }) rfl (fun K hK => ?_) AllReadyH.nil
    go_simp
    refine (implSame_any g u am l.length cm l t g u am l.length cm l t _ rfl rfl LM.out (RM8.out.later Bv9.out) (RM8.out.later Bv9.out)).mono ?_; rintro e v10 ⟨rfl, hb⟩
    rw [smail_self]
    have Bv10 : Hid (Below W8.heap.size W8 v10) := btr Bv9.out hb
    clear hb
    go_wp2_with fail
    refine hK.out _ _ (HC.out _ Bv10.out) (fun hHeld => ?_)
    clear hK K
    try simp only [Act.put, List.setIfInBounds_toArray, List.set_cons_zero, List.set_cons_succ]
    refine wpAnyH_take (i := 72) (oi := { dst := some 139, op := Op.pick (Operand.tmp 135) (Operand.tmp 138) (Operand.const (Value.bool false)), type := 4, pos := "laws.go:272", after := #[{ on := 68, ground := Ground.data }, { on := 71, ground := Ground.data }], guard := none }) (v := ?vr72) rfl (by kernel_rfl) (by kernel_rfl) (by kernel_rfl) (fun _ _ _ h => h) (Or.inl ⟨by rfl, ?hyr72⟩) (by assumption) ?restr72
    case hyr72 => (intro w hSw; (try dsimp only at hSw); go_simp; try with_reducible rfl)
    try simp only [Act.put, List.setIfInBounds_toArray, List.set_cons_zero, List.set_cons_succ]
    refine wpAnyH_take (i := 73) (oi := { dst := some 2, op := Op.assign (Operand.tmp 139), type := 4, pos := "laws.go:272", after := #[{ on := 72, ground := Ground.data }, { on := 71, ground := Ground.chain }, { on := 0, ground := Ground.phase }, { on := 1, ground := Ground.phase }, { on := 2, ground := Ground.phase }, { on := 3, ground := Ground.phase }, { on := 4, ground := Ground.phase }, { on := 5, ground := Ground.phase }, { on := 6, ground := Ground.phase }, { on := 7, ground := Ground.phase }, { on := 8, ground := Ground.phase }, { on := 9, ground := Ground.phase }, { on := 10, ground := Ground.phase }, { on := 11, ground := Ground.phase }, { on := 12, ground := Ground.phase }, { on := 13, ground := Ground.phase }, { on := 14, ground := Ground.phase }, { on := 15, ground := Ground.phase }, { on := 16, ground := Ground.phase }, { on := 17, ground := Ground.phase }, { on := 18, ground := Ground.phase }, { on := 19, ground := Ground.phase }, { on := 20, ground := Ground.phase }, { on := 21, ground := Ground.phase }, { on := 22, ground := Ground.phase }, { on := 23, ground := Ground.phase }, { on := 24, ground := Ground.phase }, { on := 25, ground := Ground.phase }, { on := 26, ground := Ground.phase }, { on := 27, ground := Ground.phase }, { on := 28, ground := Ground.phase }, { on := 29, ground := Ground.phase }, { on := 30, ground := Ground.phase }, { on := 31, ground := Ground.phase }, { on := 32, ground := Ground.phase }, { on := 33, ground := Ground.phase }, { on := 34, ground := Ground.phase }, { on := 35, ground := Ground.phase }, { on := 36, ground := Ground.phase }, { on := 37, ground := Ground.phase }, { on := 38, ground := Ground.phase }, { on := 39, ground := Ground.phase }, { on := 40, ground := Ground.phase }, { on := 41, ground := Ground.phase }, { on := 42, ground := Ground.phase }, { on := 43, ground := Ground.phase }, { on := 44, ground := Ground.phase }, { on := 45, ground := Ground.phase }, { on := 46, ground := Ground.phase }, { on := 47, ground := Ground.phase }, { on := 48, ground := Ground.phase }, { on := 49, ground := Ground.phase }, { on := 50, ground := Ground.phase }, { on := 51, ground := Ground.phase }, { on := 52, ground := Ground.phase }, { on := 53, ground := Ground.phase }, { on := 54, ground := Ground.phase }, { on := 55, ground := Ground.phase }, { on := 56, ground := Ground.phase }, { on := 57, ground := Ground.phase }, { on := 58, ground := Ground.phase }, { on := 59, ground := Ground.phase }, { on := 60, ground := Ground.phase }, { on := 61, ground := Ground.phase }, { on := 62, ground := Ground.phase }, { on := 63, ground := Ground.phase }, { on := 64, ground := Ground.phase }, { on := 65, ground := Ground.phase }, { on := 66, ground := Ground.phase }, { on := 67, ground := Ground.phase }, { on := 68, ground := Ground.phase }, { on := 69, ground := Ground.phase }, { on := 70, ground := Ground.phase }, { on := 71, ground := Ground.phase }, { on := 72, ground := Ground.phase }], guard := none }) (v := ?vr73) rfl (by kernel_rfl) (by kernel_rfl) (by kernel_rfl) (fun _ _ _ h => h) (Or.inl ⟨by rfl, ?hyr73⟩) (by assumption) ?restr73
    case hyr73 => (intro w hSw; (try dsimp only at hSw); go_simp; try with_reducible rfl)
    try simp only [Act.put, List.setIfInBounds_toArray, List.set_cons_zero, List.set_cons_succ]
    refine wpAnyH_done (by kernel_rfl) ?_ _
    refine NoPanic.normal ?_
    clear hHeld
    go_wp2
    go_ret
    exact ⟨rfl, btr B8.out Bv10.out⟩
  · go_wp2_with fail
    clear hW8 cc
    have Bz : Hid (Below W8.heap.size W8 W8.drew) := bdr (bre W8)
    dsimp only [List.append]
    refine wp_region_noPanic ?_
    refine wp_region_held_drew (S := fun W => (W.cell? ⟨w1.heap.size, 0, none⟩ = some (.int .i64 g) ∧ W.cell? ⟨w1.heap.size, 1, none⟩ = some (.int .i64 u) ∧ W.cell? ⟨w1.heap.size, 2, none⟩ = some (.slice am l.length cm) ∧ W.cell? ⟨w1.heap.size, 3, none⟩ = some (.string t)) ∧ (W.cell? ⟨w3.heap.size, 0, none⟩ = some (.int .i64 g1) ∧ W.cell? ⟨w3.heap.size, 1, none⟩ = some (.int .i64 u1) ∧ W.cell? ⟨w3.heap.size, 2, none⟩ = some (.slice a1 l1.length k1) ∧ W.cell? ⟨w3.heap.size, 3, none⟩ = some (.string t1)) ∧ (W.cell? ⟨w8.heap.size, 0, none⟩ = some (.int .i64 ga) ∧ W.cell? ⟨w8.heap.size, 1, none⟩ = some (.int .i64 ua) ∧ W.cell? ⟨w8.heap.size, 2, none⟩ = some (.slice aa la.length ka) ∧ W.cell? ⟨w8.heap.size, 3, none⟩ = some (.string ta)) ∧ (W.cell? ⟨(w8.heap.size + 1), 0, none⟩ = some (.int .i64 gb) ∧ W.cell? ⟨(w8.heap.size + 1), 1, none⟩ = some (.int .i64 ub) ∧ W.cell? ⟨(w8.heap.size + 1), 2, none⟩ = some (.slice ab lb.length kb) ∧ W.cell? ⟨(w8.heap.size + 1), 3, none⟩ = some (.string tb))) (by kernel_rfl) (HC.out _ Bz.out) (fun hHeld => ?_)
    refine wpAnyH_take (i := 0) (oi := { dst := some 67, op := Op.move (Operand.tmp 5), type := 4, pos := "laws.go:272", after := #[], guard := none }) (v := ?vs0) rfl (by kernel_rfl) (by kernel_rfl) (by kernel_rfl) (fun _ _ _ h => h) (Or.inl ⟨by rfl, ?hys0⟩) (by assumption) ?rests0
    case hys0 => (intro w hSw; (try dsimp only at hSw); go_simp; try with_reducible rfl)
    try simp only [Act.put, List.setIfInBounds_toArray, List.set_cons_zero, List.set_cons_succ]
    refine wpAnyH_take (i := 1) (oi := { dst := some 68, op := Op.load 26 (Operand.tmp 3), type := 26, pos := "laws.go:272", after := #[], guard := none }) (v := ?vs1) rfl (by kernel_rfl) (by kernel_rfl) (by kernel_rfl) (fun _ _ _ h => h) (Or.inl ⟨by rfl, ?hys1⟩) (by assumption) ?rests1
    case hys1 => (intro w hSw; (try dsimp only at hSw); go_simp; try with_reducible rfl)
    try simp only [Act.put, List.setIfInBounds_toArray, List.set_cons_zero, List.set_cons_succ]
    clear hHeld
    refine wpAnyH_ready (rs := [2]) (by kernel_rfl) (by simp) ?_
    refine AllReadyH.cons (o := { dst := some 69, op := Op.call { callee := Callee.value (Operand.func 12), args := #[Operand.tmp 68], argTypes := #[26] }, type := 4, pos := "laws.go:272", after := #[{ on := 1, ground := Ground.data }], guard := none }) rfl (fun K hK => ?_) AllReadyH.nil
    go_simp
    refine (specMailOk_any g u am l.length cm l t _ rfl LM.out (RM8.out.later Bz.out)).mono ?_; rintro e v1 ⟨rfl, hb⟩
    rw [← HBM.out]
    have Bv1 : Hid (Below W8.heap.size W8 v1) := btr Bz.out hb
    clear hb
    go_wp2_with fail
    refine hK.out _ _ (HC.out _ Bv1.out) (fun hHeld => ?_)
    clear hK K
    try simp only [Act.put, List.setIfInBounds_toArray, List.set_cons_zero, List.set_cons_succ]
    refine wpAnyH_take (i := 3) (oi := { dst := some 70, op := Op.binOp BinOp.eql 4 (Operand.tmp 67) (Operand.tmp 69) 4, type := 4, pos := "laws.go:272", after := #[{ on := 0, ground := Ground.data }, { on := 2, ground := Ground.data }], guard := none }) (v := ?vs3) rfl (by kernel_rfl) (by kernel_rfl) (by kernel_rfl) (fun _ _ _ h => h) (Or.inl ⟨by rfl, ?hys3⟩) (by assumption) ?rests3
    case hys3 => (intro w hSw; (try dsimp only at hSw); go_simp; try with_reducible rfl)
    try simp only [Act.put, List.setIfInBounds_toArray, List.set_cons_zero, List.set_cons_succ]
    refine wpAnyH_take (i := 4) (oi := { dst := some 71, op := Op.move (Operand.tmp 70), type := 4, pos := "laws.go:272", after := #[{ on := 3, ground := Ground.data }, { on := 2, ground := Ground.chain }], guard := none }) (v := ?vs4) rfl (by kernel_rfl) (by kernel_rfl) (by kernel_rfl) (fun _ _ _ h => h) (Or.inl ⟨by rfl, ?hys4⟩) (by assumption) ?rests4
    case hys4 => (intro w hSw; (try dsimp only at hSw); go_simp; try with_reducible rfl)
    try simp only [Act.put, List.setIfInBounds_toArray, List.set_cons_zero, List.set_cons_succ]
    refine wpAnyH_take (i := 5) (oi := { dst := some 72, op := Op.load 26 (Operand.tmp 3), type := 26, pos := "laws.go:272", after := #[{ on := 4, ground := Ground.guard }], guard := some (4, true) }) (v := ?vs5) rfl (by kernel_rfl) (by kernel_rfl) (by kernel_rfl) (fun _ _ _ h => h) (Or.inl ⟨by rfl, ?hys5⟩) (by assumption) ?rests5
    case hys5 => (intro w hSw; (try dsimp only at hSw); go_simp; try with_reducible rfl)
    try simp only [Act.put, List.setIfInBounds_toArray, List.set_cons_zero, List.set_cons_succ]
    refine wpAnyH_take (i := 7) (oi := { dst := some 74, op := Op.move (Operand.tmp 5), type := 4, pos := "laws.go:272", after := #[{ on := 4, ground := Ground.guard }], guard := some (4, true) }) (v := ?vs7) rfl (by kernel_rfl) (by kernel_rfl) (by kernel_rfl) (fun _ _ _ h => h) (Or.inl ⟨by rfl, ?hys7⟩) (by assumption) ?rests7
    case hys7 => (intro w hSw; (try dsimp only at hSw); go_simp; try with_reducible rfl)
    try simp only [Act.put, List.setIfInBounds_toArray, List.set_cons_zero, List.set_cons_succ]
    clear hHeld
    refine wpAnyH_ready (rs := [6]) (by kernel_rfl) (by simp) ?_
    refine AllReadyH.cons (o := { dst := some 73, op := Op.call { callee := Callee.value (Operand.func 13), args := #[Operand.tmp 72], argTypes := #[26] }, type := 4, pos := "laws.go:272", after := #[{ on := 5, ground := Ground.data }, { on := 4, ground := Ground.chain }, { on := 4, ground := Ground.guard }], guard := some (4, true) }) rfl (fun K hK => ?_) AllReadyH.nil
    go_simp
    refine (implMailOk_any g u am l.length cm l t _ rfl LM.out (RM8.out.later Bv1.out)).mono ?_; rintro e v2 ⟨rfl, hb⟩
    rw [← HBM.out]
    have Bv2 : Hid (Below W8.heap.size W8 v2) := btr Bv1.out hb
    clear hb
    go_wp2_with fail
    refine hK.out _ _ (HC.out _ Bv2.out) (fun hHeld => ?_)
    clear hK K
    try simp only [Act.put, List.setIfInBounds_toArray, List.set_cons_zero, List.set_cons_succ]
    refine wpAnyH_take (i := 8) (oi := { dst := some 75, op := Op.binOp BinOp.eql 4 (Operand.tmp 73) (Operand.tmp 74) 4, type := 4, pos := "laws.go:272", after := #[{ on := 6, ground := Ground.data }, { on := 7, ground := Ground.data }, { on := 4, ground := Ground.guard }], guard := some (4, true) }) (v := ?vs8) rfl (by kernel_rfl) (by kernel_rfl) (by kernel_rfl) (fun _ _ _ h => h) (Or.inl ⟨by rfl, ?hys8⟩) (by assumption) ?rests8
    case hys8 => (intro w hSw; (try dsimp only at hSw); go_simp; try with_reducible rfl)
    try simp only [Act.put, List.setIfInBounds_toArray, List.set_cons_zero, List.set_cons_succ]
    refine wpAnyH_take (i := 9) (oi := { dst := some 76, op := Op.pick (Operand.tmp 71) (Operand.tmp 75) (Operand.const (Value.bool false)), type := 4, pos := "laws.go:272", after := #[{ on := 4, ground := Ground.data }, { on := 8, ground := Ground.data }], guard := none }) (v := ?vs9) rfl (by kernel_rfl) (by kernel_rfl) (by kernel_rfl) (fun _ _ _ h => h) (Or.inl ⟨by rfl, ?hys9⟩) (by assumption) ?rests9
    case hys9 => (intro w hSw; (try dsimp only at hSw); go_simp; try with_reducible rfl)
    try simp only [Act.put, List.setIfInBounds_toArray, List.set_cons_zero, List.set_cons_succ]
    refine wpAnyH_take (i := 10) (oi := { dst := some 77, op := Op.move (Operand.tmp 76), type := 4, pos := "laws.go:272", after := #[{ on := 9, ground := Ground.data }, { on := 6, ground := Ground.chain }], guard := none }) (v := ?vs10) rfl (by kernel_rfl) (by kernel_rfl) (by kernel_rfl) (fun _ _ _ h => h) (Or.inl ⟨by rfl, ?hys10⟩) (by assumption) ?rests10
    case hys10 => (intro w hSw; (try dsimp only at hSw); go_simp; try with_reducible rfl)
    try simp only [Act.put, List.setIfInBounds_toArray, List.set_cons_zero, List.set_cons_succ]
    refine wpAnyH_take (i := 11) (oi := { dst := some 78, op := Op.move (Operand.tmp 5), type := 4, pos := "laws.go:272", after := #[{ on := 10, ground := Ground.guard }], guard := some (10, true) }) (v := ?vs11) rfl (by kernel_rfl) (by kernel_rfl) (by kernel_rfl) (fun _ _ _ h => h) (Or.inl ⟨by rfl, ?hys11⟩) (by assumption) ?rests11
    case hys11 => (intro w hSw; (try dsimp only at hSw); go_simp; try with_reducible rfl)
    try simp only [Act.put, List.setIfInBounds_toArray, List.set_cons_zero, List.set_cons_succ]
    refine wpAnyH_take (i := 12) (oi := { dst := some 79, op := Op.unOp UnOp.not 4 (Operand.tmp 78), type := 4, pos := "laws.go:272", after := #[{ on := 11, ground := Ground.data }, { on := 10, ground := Ground.guard }], guard := some (10, true) }) (v := ?vs12) rfl (by kernel_rfl) (by kernel_rfl) (by kernel_rfl) (fun _ _ _ h => h) (Or.inl ⟨by rfl, ?hys12⟩) (by assumption) ?rests12
    case hys12 => (intro w hSw; (try dsimp only at hSw); go_simp; try with_reducible rfl)
    try simp only [Act.put, List.setIfInBounds_toArray, List.set_cons_zero, List.set_cons_succ]
    refine wpAnyH_take (i := 13) (oi := { dst := some 80, op := Op.move (Operand.tmp 79), type := 4, pos := "laws.go:272", after := #[{ on := 12, ground := Ground.data }, { on := 10, ground := Ground.chain }, { on := 10, ground := Ground.guard }], guard := some (10, true) }) (v := ?vs13) rfl (by kernel_rfl) (by kernel_rfl) (by kernel_rfl) (fun _ _ _ h => h) (Or.inl ⟨by rfl, ?hys13⟩) (by assumption) ?rests13
    case hys13 => (intro w hSw; (try dsimp only at hSw); go_simp; try with_reducible rfl)
    try simp only [Act.put, List.setIfInBounds_toArray, List.set_cons_zero, List.set_cons_succ]
    refine wpAnyH_take (i := 14) (oi := { dst := some 81, op := Op.move (Operand.tmp 8), type := 4, pos := "laws.go:272", after := #[{ on := 13, ground := Ground.guard }], guard := some (13, false) }) (v := undef) rfl (by kernel_rfl) (by kernel_rfl) (by kernel_rfl) (fun _ _ _ h => h) (Or.inr ⟨by rfl, rfl⟩) (by assumption) ?_
    try simp only [Act.put, List.setIfInBounds_toArray, List.set_cons_zero, List.set_cons_succ]
    refine wpAnyH_take (i := 15) (oi := { dst := some 82, op := Op.move (Operand.tmp 81), type := 4, pos := "laws.go:272", after := #[{ on := 14, ground := Ground.data }, { on := 13, ground := Ground.chain }, { on := 13, ground := Ground.guard }], guard := some (13, false) }) (v := undef) rfl (by kernel_rfl) (by kernel_rfl) (by kernel_rfl) (fun _ _ _ h => h) (Or.inr ⟨by rfl, rfl⟩) (by assumption) ?_
    try simp only [Act.put, List.setIfInBounds_toArray, List.set_cons_zero, List.set_cons_succ]
    refine wpAnyH_take (i := 16) (oi := { dst := some 83, op := Op.load 26 (Operand.tmp 6), type := 26, pos := "laws.go:272", after := #[{ on := 15, ground := Ground.guard }], guard := some (15, true) }) (v := undef) rfl (by kernel_rfl) (by kernel_rfl) (by kernel_rfl) (fun _ _ _ h => h) (Or.inr ⟨by rfl, rfl⟩) (by assumption) ?_
    try simp only [Act.put, List.setIfInBounds_toArray, List.set_cons_zero, List.set_cons_succ]
    refine wpAnyH_take (i := 17) (oi := { dst := some 84, op := Op.load 26 (Operand.tmp 3), type := 26, pos := "laws.go:272", after := #[{ on := 15, ground := Ground.guard }], guard := some (15, true) }) (v := undef) rfl (by kernel_rfl) (by kernel_rfl) (by kernel_rfl) (fun _ _ _ h => h) (Or.inr ⟨by rfl, rfl⟩) (by assumption) ?_
    try simp only [Act.put, List.setIfInBounds_toArray, List.set_cons_zero, List.set_cons_succ]
    refine wpAnyH_take (i := 18) (oi := { dst := some 85, op := Op.call { callee := Callee.value (Operand.func 14), args := #[Operand.tmp 83, Operand.tmp 84], argTypes := #[26, 26] }, type := 4, pos := "laws.go:272", after := #[{ on := 16, ground := Ground.data }, { on := 17, ground := Ground.data }, { on := 15, ground := Ground.chain }, { on := 15, ground := Ground.guard }], guard := some (15, true) }) (v := undef) rfl (by kernel_rfl) (by kernel_rfl) (by kernel_rfl) (fun _ _ _ h => h) (Or.inr ⟨by rfl, rfl⟩) (by assumption) ?_
    try simp only [Act.put, List.setIfInBounds_toArray, List.set_cons_zero, List.set_cons_succ]
    refine wpAnyH_take (i := 19) (oi := { dst := some 86, op := Op.pick (Operand.tmp 82) (Operand.tmp 85) (Operand.const (Value.bool false)), type := 4, pos := "laws.go:272", after := #[{ on := 15, ground := Ground.data }, { on := 18, ground := Ground.data }, { on := 13, ground := Ground.guard }], guard := some (13, false) }) (v := undef) rfl (by kernel_rfl) (by kernel_rfl) (by kernel_rfl) (fun _ _ _ h => h) (Or.inr ⟨by rfl, rfl⟩) (by assumption) ?_
    try simp only [Act.put, List.setIfInBounds_toArray, List.set_cons_zero, List.set_cons_succ]
    refine wpAnyH_take (i := 20) (oi := { dst := some 87, op := Op.move (Operand.tmp 86), type := 4, pos := "laws.go:272", after := #[{ on := 19, ground := Ground.data }, { on := 18, ground := Ground.chain }, { on := 13, ground := Ground.guard }], guard := some (13, false) }) (v := undef) rfl (by kernel_rfl) (by kernel_rfl) (by kernel_rfl) (fun _ _ _ h => h) (Or.inr ⟨by rfl, rfl⟩) (by assumption) ?_
    try simp only [Act.put, List.setIfInBounds_toArray, List.set_cons_zero, List.set_cons_succ]
    refine wpAnyH_take (i := 21) (oi := { dst := some 88, op := Op.move (Operand.tmp 7), type := 3, pos := "laws.go:272", after := #[{ on := 20, ground := Ground.guard }], guard := some (20, true) }) (v := undef) rfl (by kernel_rfl) (by kernel_rfl) (by kernel_rfl) (fun _ _ _ h => h) (Or.inr ⟨by rfl, rfl⟩) (by assumption) ?_
    try simp only [Act.put, List.setIfInBounds_toArray, List.set_cons_zero, List.set_cons_succ]
    refine wpAnyH_take (i := 22) (oi := { dst := some 89, op := Op.move (Operand.tmp 4), type := 9, pos := "laws.go:272", after := #[{ on := 20, ground := Ground.guard }], guard := some (20, true) }) (v := undef) rfl (by kernel_rfl) (by kernel_rfl) (by kernel_rfl) (fun _ _ _ h => h) (Or.inr ⟨by rfl, rfl⟩) (by assumption) ?_
    try simp only [Act.put, List.setIfInBounds_toArray, List.set_cons_zero, List.set_cons_succ]
    refine wpAnyH_take (i := 23) (oi := { dst := some 90, op := Op.call { callee := Callee.builtin Builtin.len, args := #[Operand.tmp 89], argTypes := #[9] }, type := 3, pos := "laws.go:272", after := #[{ on := 22, ground := Ground.data }, { on := 20, ground := Ground.guard }], guard := some (20, true) }) (v := undef) rfl (by kernel_rfl) (by kernel_rfl) (by kernel_rfl) (fun _ _ _ h => h) (Or.inr ⟨by rfl, rfl⟩) (by assumption) ?_
    try simp only [Act.put, List.setIfInBounds_toArray, List.set_cons_zero, List.set_cons_succ]
    refine wpAnyH_take (i := 24) (oi := { dst := some 91, op := Op.binOp BinOp.add 3 (Operand.const (Value.int IntKind.i64 2)) (Operand.tmp 90) 3, type := 3, pos := "laws.go:272", after := #[{ on := 23, ground := Ground.data }, { on := 20, ground := Ground.guard }], guard := some (20, true) }) (v := undef) rfl (by kernel_rfl) (by kernel_rfl) (by kernel_rfl) (fun _ _ _ h => h) (Or.inr ⟨by rfl, rfl⟩) (by assumption) ?_
    try simp only [Act.put, List.setIfInBounds_toArray, List.set_cons_zero, List.set_cons_succ]
    refine wpAnyH_take (i := 25) (oi := { dst := some 92, op := Op.binOp BinOp.eql 3 (Operand.tmp 88) (Operand.tmp 91) 3, type := 4, pos := "laws.go:272", after := #[{ on := 21, ground := Ground.data }, { on := 24, ground := Ground.data }, { on := 20, ground := Ground.guard }], guard := some (20, true) }) (v := undef) rfl (by kernel_rfl) (by kernel_rfl) (by kernel_rfl) (fun _ _ _ h => h) (Or.inr ⟨by rfl, rfl⟩) (by assumption) ?_
    try simp only [Act.put, List.setIfInBounds_toArray, List.set_cons_zero, List.set_cons_succ]
    refine wpAnyH_take (i := 26) (oi := { dst := some 93, op := Op.pick (Operand.tmp 87) (Operand.tmp 92) (Operand.const (Value.bool false)), type := 4, pos := "laws.go:272", after := #[{ on := 20, ground := Ground.data }, { on := 25, ground := Ground.data }, { on := 13, ground := Ground.guard }], guard := some (13, false) }) (v := undef) rfl (by kernel_rfl) (by kernel_rfl) (by kernel_rfl) (fun _ _ _ h => h) (Or.inr ⟨by rfl, rfl⟩) (by assumption) ?_
    try simp only [Act.put, List.setIfInBounds_toArray, List.set_cons_zero, List.set_cons_succ]
    refine wpAnyH_take (i := 27) (oi := { dst := some 94, op := Op.pick (Operand.tmp 80) (Operand.const (Value.bool true)) (Operand.tmp 93), type := 4, pos := "laws.go:272", after := #[{ on := 13, ground := Ground.data }, { on := 26, ground := Ground.data }, { on := 10, ground := Ground.guard }], guard := some (10, true) }) (v := ?vs27) rfl (by kernel_rfl) (by kernel_rfl) (by kernel_rfl) (fun _ _ _ h => h) (Or.inl ⟨by rfl, ?hys27⟩) (by assumption) ?rests27
    case hys27 => (intro w hSw; (try dsimp only at hSw); go_simp; try with_reducible rfl)
    try simp only [Act.put, List.setIfInBounds_toArray, List.set_cons_zero, List.set_cons_succ]
    refine wpAnyH_take (i := 28) (oi := { dst := some 95, op := Op.pick (Operand.tmp 77) (Operand.tmp 94) (Operand.const (Value.bool false)), type := 4, pos := "laws.go:272", after := #[{ on := 10, ground := Ground.data }, { on := 27, ground := Ground.data }], guard := none }) (v := ?vs28) rfl (by kernel_rfl) (by kernel_rfl) (by kernel_rfl) (fun _ _ _ h => h) (Or.inl ⟨by rfl, ?hys28⟩) (by assumption) ?rests28
    case hys28 => (intro w hSw; (try dsimp only at hSw); go_simp; try with_reducible rfl)
    try simp only [Act.put, List.setIfInBounds_toArray, List.set_cons_zero, List.set_cons_succ]
    refine wpAnyH_take (i := 29) (oi := { dst := some 96, op := Op.move (Operand.tmp 95), type := 4, pos := "laws.go:272", after := #[{ on := 28, ground := Ground.data }, { on := 20, ground := Ground.chain }], guard := none }) (v := ?vs29) rfl (by kernel_rfl) (by kernel_rfl) (by kernel_rfl) (fun _ _ _ h => h) (Or.inl ⟨by rfl, ?hys29⟩) (by assumption) ?rests29
    case hys29 => (intro w hSw; (try dsimp only at hSw); go_simp; try with_reducible rfl)
    try simp only [Act.put, List.setIfInBounds_toArray, List.set_cons_zero, List.set_cons_succ]
    refine wpAnyH_take (i := 30) (oi := { dst := some 97, op := Op.move (Operand.tmp 13), type := 4, pos := "laws.go:272", after := #[{ on := 29, ground := Ground.guard }], guard := some (29, true) }) (v := ?vs30) rfl (by kernel_rfl) (by kernel_rfl) (by kernel_rfl) (fun _ _ _ h => h) (Or.inl ⟨by rfl, ?hys30⟩) (by assumption) ?rests30
    case hys30 => (intro w hSw; (try dsimp only at hSw); go_simp; try with_reducible rfl)
    try simp only [Act.put, List.setIfInBounds_toArray, List.set_cons_zero, List.set_cons_succ]
    refine wpAnyH_take (i := 31) (oi := { dst := some 98, op := Op.move (Operand.tmp 16), type := 4, pos := "laws.go:272", after := #[{ on := 29, ground := Ground.guard }], guard := some (29, true) }) (v := ?vs31) rfl (by kernel_rfl) (by kernel_rfl) (by kernel_rfl) (fun _ _ _ h => h) (Or.inl ⟨by rfl, ?hys31⟩) (by assumption) ?rests31
    case hys31 => (intro w hSw; (try dsimp only at hSw); go_simp; try with_reducible rfl)
    try simp only [Act.put, List.setIfInBounds_toArray, List.set_cons_zero, List.set_cons_succ]
    refine wpAnyH_take (i := 32) (oi := { dst := some 99, op := Op.binOp BinOp.eql 4 (Operand.tmp 97) (Operand.tmp 98) 4, type := 4, pos := "laws.go:272", after := #[{ on := 30, ground := Ground.data }, { on := 31, ground := Ground.data }, { on := 29, ground := Ground.guard }], guard := some (29, true) }) (v := ?vs32) rfl (by kernel_rfl) (by kernel_rfl) (by kernel_rfl) (fun _ _ _ h => h) (Or.inl ⟨by rfl, ?hys32⟩) (by assumption) ?rests32
    case hys32 => (intro w hSw; (try dsimp only at hSw); go_simp; try with_reducible rfl)
    try simp only [Act.put, List.setIfInBounds_toArray, List.set_cons_zero, List.set_cons_succ]
    refine wpAnyH_take (i := 33) (oi := { dst := some 100, op := Op.pick (Operand.tmp 96) (Operand.tmp 99) (Operand.const (Value.bool false)), type := 4, pos := "laws.go:272", after := #[{ on := 29, ground := Ground.data }, { on := 32, ground := Ground.data }], guard := none }) (v := ?vs33) rfl (by kernel_rfl) (by kernel_rfl) (by kernel_rfl) (fun _ _ _ h => h) (Or.inl ⟨by rfl, ?hys33⟩) (by assumption) ?rests33
    case hys33 => (intro w hSw; (try dsimp only at hSw); go_simp; try with_reducible rfl)
    try simp only [Act.put, List.setIfInBounds_toArray, List.set_cons_zero, List.set_cons_succ]
    refine wpAnyH_take (i := 34) (oi := { dst := some 101, op := Op.move (Operand.tmp 100), type := 4, pos := "laws.go:272", after := #[{ on := 33, ground := Ground.data }, { on := 29, ground := Ground.chain }], guard := none }) (v := ?vs34) rfl (by kernel_rfl) (by kernel_rfl) (by kernel_rfl) (fun _ _ _ h => h) (Or.inl ⟨by rfl, ?hys34⟩) (by assumption) ?rests34
    case hys34 => (intro w hSw; (try dsimp only at hSw); go_simp; try with_reducible rfl)
    try simp only [Act.put, List.setIfInBounds_toArray, List.set_cons_zero, List.set_cons_succ]
    refine wpAnyH_take (i := 35) (oi := { dst := some 102, op := Op.move (Operand.tmp 12), type := 3, pos := "laws.go:272", after := #[{ on := 34, ground := Ground.guard }], guard := some (34, true) }) (v := ?vs35) rfl (by kernel_rfl) (by kernel_rfl) (by kernel_rfl) (fun _ _ _ h => h) (Or.inl ⟨by rfl, ?hys35⟩) (by assumption) ?rests35
    case hys35 => (intro w hSw; (try dsimp only at hSw); go_simp; try with_reducible rfl)
    try simp only [Act.put, List.setIfInBounds_toArray, List.set_cons_zero, List.set_cons_succ]
    refine wpAnyH_take (i := 36) (oi := { dst := some 103, op := Op.move (Operand.tmp 15), type := 3, pos := "laws.go:272", after := #[{ on := 34, ground := Ground.guard }], guard := some (34, true) }) (v := ?vs36) rfl (by kernel_rfl) (by kernel_rfl) (by kernel_rfl) (fun _ _ _ h => h) (Or.inl ⟨by rfl, ?hys36⟩) (by assumption) ?rests36
    case hys36 => (intro w hSw; (try dsimp only at hSw); go_simp; try with_reducible rfl)
    try simp only [Act.put, List.setIfInBounds_toArray, List.set_cons_zero, List.set_cons_succ]
    refine wpAnyH_take (i := 37) (oi := { dst := some 104, op := Op.binOp BinOp.eql 3 (Operand.tmp 102) (Operand.tmp 103) 3, type := 4, pos := "laws.go:272", after := #[{ on := 35, ground := Ground.data }, { on := 36, ground := Ground.data }, { on := 34, ground := Ground.guard }], guard := some (34, true) }) (v := ?vs37) rfl (by kernel_rfl) (by kernel_rfl) (by kernel_rfl) (fun _ _ _ h => h) (Or.inl ⟨by rfl, ?hys37⟩) (by assumption) ?rests37
    case hys37 => (intro w hSw; (try dsimp only at hSw); go_simp; try with_reducible rfl)
    try simp only [Act.put, List.setIfInBounds_toArray, List.set_cons_zero, List.set_cons_succ]
    refine wpAnyH_take (i := 38) (oi := { dst := some 105, op := Op.pick (Operand.tmp 101) (Operand.tmp 104) (Operand.const (Value.bool false)), type := 4, pos := "laws.go:272", after := #[{ on := 34, ground := Ground.data }, { on := 37, ground := Ground.data }], guard := none }) (v := ?vs38) rfl (by kernel_rfl) (by kernel_rfl) (by kernel_rfl) (fun _ _ _ h => h) (Or.inl ⟨by rfl, ?hys38⟩) (by assumption) ?rests38
    case hys38 => (intro w hSw; (try dsimp only at hSw); go_simp; try with_reducible rfl)
    try simp only [Act.put, List.setIfInBounds_toArray, List.set_cons_zero, List.set_cons_succ]
    refine wpAnyH_take (i := 39) (oi := { dst := some 106, op := Op.move (Operand.tmp 105), type := 4, pos := "laws.go:272", after := #[{ on := 38, ground := Ground.data }, { on := 34, ground := Ground.chain }], guard := none }) (v := ?vs39) rfl (by kernel_rfl) (by kernel_rfl) (by kernel_rfl) (fun _ _ _ h => h) (Or.inl ⟨by rfl, ?hys39⟩) (by assumption) ?rests39
    case hys39 => (intro w hSw; (try dsimp only at hSw); go_simp; try with_reducible rfl)
    try simp only [Act.put, List.setIfInBounds_toArray, List.set_cons_zero, List.set_cons_succ]
    refine wpAnyH_take (i := 40) (oi := { dst := some 107, op := Op.move (Operand.tmp 13), type := 4, pos := "laws.go:272", after := #[{ on := 39, ground := Ground.guard }], guard := some (39, true) }) (v := ?vs40) rfl (by kernel_rfl) (by kernel_rfl) (by kernel_rfl) (fun _ _ _ h => h) (Or.inl ⟨by rfl, ?hys40⟩) (by assumption) ?rests40
    case hys40 => (intro w hSw; (try dsimp only at hSw); go_simp; try with_reducible rfl)
    try simp only [Act.put, List.setIfInBounds_toArray, List.set_cons_zero, List.set_cons_succ]
    refine wpAnyH_take (i := 41) (oi := { dst := some 108, op := Op.unOp UnOp.not 4 (Operand.tmp 107), type := 4, pos := "laws.go:272", after := #[{ on := 40, ground := Ground.data }, { on := 39, ground := Ground.guard }], guard := some (39, true) }) (v := ?vs41) rfl (by kernel_rfl) (by kernel_rfl) (by kernel_rfl) (fun _ _ _ h => h) (Or.inl ⟨by rfl, ?hys41⟩) (by assumption) ?rests41
    case hys41 => (intro w hSw; (try dsimp only at hSw); go_simp; try with_reducible rfl)
    try simp only [Act.put, List.setIfInBounds_toArray, List.set_cons_zero, List.set_cons_succ]
    refine wpAnyH_take (i := 42) (oi := { dst := some 109, op := Op.move (Operand.tmp 108), type := 4, pos := "laws.go:272", after := #[{ on := 41, ground := Ground.data }, { on := 39, ground := Ground.chain }, { on := 39, ground := Ground.guard }], guard := some (39, true) }) (v := ?vs42) rfl (by kernel_rfl) (by kernel_rfl) (by kernel_rfl) (fun _ _ _ h => h) (Or.inl ⟨by rfl, ?hys42⟩) (by assumption) ?rests42
    case hys42 => (intro w hSw; (try dsimp only at hSw); go_simp; try with_reducible rfl)
    try simp only [Act.put, List.setIfInBounds_toArray, List.set_cons_zero, List.set_cons_succ]
    refine wpAnyH_take (i := 43) (oi := { dst := some 110, op := Op.move (Operand.tmp 17), type := 9, pos := "laws.go:272", after := #[{ on := 42, ground := Ground.guard }], guard := some (42, false) }) (v := undef) rfl (by kernel_rfl) (by kernel_rfl) (by kernel_rfl) (fun _ _ _ h => h) (Or.inr ⟨by rfl, rfl⟩) (by assumption) ?_
    try simp only [Act.put, List.setIfInBounds_toArray, List.set_cons_zero, List.set_cons_succ]
    refine wpAnyH_take (i := 44) (oi := { dst := some 111, op := Op.move (Operand.tmp 9), type := 9, pos := "laws.go:272", after := #[{ on := 42, ground := Ground.guard }], guard := some (42, false) }) (v := undef) rfl (by kernel_rfl) (by kernel_rfl) (by kernel_rfl) (fun _ _ _ h => h) (Or.inr ⟨by rfl, rfl⟩) (by assumption) ?_
    try simp only [Act.put, List.setIfInBounds_toArray, List.set_cons_zero, List.set_cons_succ]
    refine wpAnyH_take (i := 45) (oi := { dst := some 112, op := Op.move (Operand.tmp 10), type := 3, pos := "laws.go:272", after := #[{ on := 42, ground := Ground.guard }], guard := some (42, false) }) (v := undef) rfl (by kernel_rfl) (by kernel_rfl) (by kernel_rfl) (fun _ _ _ h => h) (Or.inr ⟨by rfl, rfl⟩) (by assumption) ?_
    try simp only [Act.put, List.setIfInBounds_toArray, List.set_cons_zero, List.set_cons_succ]
    refine wpAnyH_take (i := 46) (oi := { dst := some 113, op := Op.slice 9 (Operand.tmp 111) (some (Operand.tmp 112)) none none, type := 9, pos := "laws.go:272", after := #[{ on := 44, ground := Ground.data }, { on := 45, ground := Ground.data }, { on := 42, ground := Ground.guard }], guard := some (42, false) }) (v := undef) rfl (by kernel_rfl) (by kernel_rfl) (by kernel_rfl) (fun _ _ _ h => h) (Or.inr ⟨by rfl, rfl⟩) (by assumption) ?_
    try simp only [Act.put, List.setIfInBounds_toArray, List.set_cons_zero, List.set_cons_succ]
    refine wpAnyH_take (i := 47) (oi := { dst := some 114, op := Op.call { callee := Callee.value (Operand.func 15), args := #[Operand.tmp 110, Operand.tmp 113], argTypes := #[9, 9] }, type := 4, pos := "laws.go:272", after := #[{ on := 43, ground := Ground.data }, { on := 46, ground := Ground.data }, { on := 42, ground := Ground.chain }, { on := 42, ground := Ground.guard }], guard := some (42, false) }) (v := undef) rfl (by kernel_rfl) (by kernel_rfl) (by kernel_rfl) (fun _ _ _ h => h) (Or.inr ⟨by rfl, rfl⟩) (by assumption) ?_
    try simp only [Act.put, List.setIfInBounds_toArray, List.set_cons_zero, List.set_cons_succ]
    refine wpAnyH_take (i := 48) (oi := { dst := some 115, op := Op.pick (Operand.tmp 109) (Operand.const (Value.bool true)) (Operand.tmp 114), type := 4, pos := "laws.go:272", after := #[{ on := 42, ground := Ground.data }, { on := 47, ground := Ground.data }, { on := 39, ground := Ground.guard }], guard := some (39, true) }) (v := ?vs48) rfl (by kernel_rfl) (by kernel_rfl) (by kernel_rfl) (fun _ _ _ h => h) (Or.inl ⟨by rfl, ?hys48⟩) (by assumption) ?rests48
    case hys48 => (intro w hSw; (try dsimp only at hSw); go_simp; try with_reducible rfl)
    try simp only [Act.put, List.setIfInBounds_toArray, List.set_cons_zero, List.set_cons_succ]
    refine wpAnyH_take (i := 49) (oi := { dst := some 116, op := Op.pick (Operand.tmp 106) (Operand.tmp 115) (Operand.const (Value.bool false)), type := 4, pos := "laws.go:272", after := #[{ on := 39, ground := Ground.data }, { on := 48, ground := Ground.data }], guard := none }) (v := ?vs49) rfl (by kernel_rfl) (by kernel_rfl) (by kernel_rfl) (fun _ _ _ h => h) (Or.inl ⟨by rfl, ?hys49⟩) (by assumption) ?rests49
    case hys49 => (intro w hSw; (try dsimp only at hSw); go_simp; try with_reducible rfl)
    try simp only [Act.put, List.setIfInBounds_toArray, List.set_cons_zero, List.set_cons_succ]
    refine wpAnyH_take (i := 50) (oi := { dst := some 117, op := Op.move (Operand.tmp 116), type := 4, pos := "laws.go:272", after := #[{ on := 49, ground := Ground.data }, { on := 47, ground := Ground.chain }], guard := none }) (v := ?vs50) rfl (by kernel_rfl) (by kernel_rfl) (by kernel_rfl) (fun _ _ _ h => h) (Or.inl ⟨by rfl, ?hys50⟩) (by assumption) ?rests50
    case hys50 => (intro w hSw; (try dsimp only at hSw); go_simp; try with_reducible rfl)
    try simp only [Act.put, List.setIfInBounds_toArray, List.set_cons_zero, List.set_cons_succ]
    refine wpAnyH_take (i := 51) (oi := { dst := some 118, op := Op.load 26 (Operand.tmp 19), type := 26, pos := "laws.go:272", after := #[{ on := 50, ground := Ground.guard }], guard := some (50, true) }) (v := ?vs51) rfl (by kernel_rfl) (by kernel_rfl) (by kernel_rfl) (fun _ _ _ h => h) (Or.inl ⟨by rfl, ?hys51⟩) (by assumption) ?rests51
    case hys51 => (intro w hSw; (try dsimp only at hSw); go_simp; try with_reducible rfl)
    try simp only [Act.put, List.setIfInBounds_toArray, List.set_cons_zero, List.set_cons_succ]
    refine wpAnyH_take (i := 52) (oi := { dst := some 119, op := Op.load 26 (Operand.tmp 20), type := 26, pos := "laws.go:272", after := #[{ on := 50, ground := Ground.guard }], guard := some (50, true) }) (v := ?vs52) rfl (by kernel_rfl) (by kernel_rfl) (by kernel_rfl) (fun _ _ _ h => h) (Or.inl ⟨by rfl, ?hys52⟩) (by assumption) ?rests52
    case hys52 => (intro w hSw; (try dsimp only at hSw); go_simp; try with_reducible rfl)
    try simp only [Act.put, List.setIfInBounds_toArray, List.set_cons_zero, List.set_cons_succ]
    refine wpAnyH_take (i := 54) (oi := { dst := some 121, op := Op.load 26 (Operand.tmp 19), type := 26, pos := "laws.go:272", after := #[{ on := 50, ground := Ground.guard }], guard := some (50, true) }) (v := ?vs54) rfl (by kernel_rfl) (by kernel_rfl) (by kernel_rfl) (fun _ _ _ h => h) (Or.inl ⟨by rfl, ?hys54⟩) (by assumption) ?rests54
    case hys54 => (intro w hSw; (try dsimp only at hSw); go_simp; try with_reducible rfl)
    try simp only [Act.put, List.setIfInBounds_toArray, List.set_cons_zero, List.set_cons_succ]
    refine wpAnyH_take (i := 55) (oi := { dst := some 122, op := Op.load 26 (Operand.tmp 20), type := 26, pos := "laws.go:272", after := #[{ on := 50, ground := Ground.guard }], guard := some (50, true) }) (v := ?vs55) rfl (by kernel_rfl) (by kernel_rfl) (by kernel_rfl) (fun _ _ _ h => h) (Or.inl ⟨by rfl, ?hys55⟩) (by assumption) ?rests55
    case hys55 => (intro w hSw; (try dsimp only at hSw); go_simp; try with_reducible rfl)
    try simp only [Act.put, List.setIfInBounds_toArray, List.set_cons_zero, List.set_cons_succ]
    clear hHeld
    refine wpAnyH_ready (rs := [53]) (by kernel_rfl) (by simp) ?_
    refine AllReadyH.cons (o := { dst := some 120, op := Op.call { callee := Callee.value (Operand.func 16), args := #[Operand.tmp 118, Operand.tmp 119], argTypes := #[26, 26] }, type := 4, pos := "laws.go:272", after := #[{ on := 51, ground := Ground.data }, { on := 52, ground := Ground.data }, { on := 50, ground := Ground.chain }, { on := 50, ground := Ground.guard }], guard := some (50, true) }) rfl (fun K hK => ?_) AllReadyH.nil
    go_simp
    refine (implSame_any ga ua aa la.length ka la ta gb ub ab lb.length kb lb tb _ rfl rfl LA.out (RA8.out.later Bv2.out) (RB8.out.later Bv2.out)).mono ?_; rintro e v5 ⟨rfl, hb⟩
    rw [HJ.out]
    have Bv5 : Hid (Below W8.heap.size W8 v5) := btr Bv2.out hb
    clear hb
    go_wp2_with fail
    refine hK.out _ _ (HC.out _ Bv5.out) (fun hHeld => ?_)
    clear hK K
    try simp only [Act.put, List.setIfInBounds_toArray, List.set_cons_zero, List.set_cons_succ]
    clear hHeld
    refine wpAnyH_ready (rs := [56]) (by kernel_rfl) (by simp) ?_
    refine AllReadyH.cons (o := { dst := some 123, op := Op.call { callee := Callee.value (Operand.func 14), args := #[Operand.tmp 121, Operand.tmp 122], argTypes := #[26, 26] }, type := 4, pos := "laws.go:272", after := #[{ on := 54, ground := Ground.data }, { on := 55, ground := Ground.data }, { on := 53, ground := Ground.chain }, { on := 50, ground := Ground.guard }], guard := some (50, true) }) rfl (fun K hK => ?_) AllReadyH.nil
    go_simp
    refine (specSame_any ga ua aa la.length ka la ta gb ub ab lb.length kb lb tb _ rfl rfl LA.out (RA8.out.later Bv5.out) (RB8.out.later Bv5.out)).mono ?_; rintro e v6 ⟨rfl, hb⟩
    rw [HJ.out]
    have Bv6 : Hid (Below W8.heap.size W8 v6) := btr Bv5.out hb
    clear hb
    go_wp2_with fail
    refine hK.out _ _ (HC.out _ Bv6.out) (fun hHeld => ?_)
    clear hK K
    try simp only [Act.put, List.setIfInBounds_toArray, List.set_cons_zero, List.set_cons_succ]
    refine wpAnyH_take (i := 57) (oi := { dst := some 124, op := Op.binOp BinOp.eql 4 (Operand.tmp 120) (Operand.tmp 123) 4, type := 4, pos := "laws.go:272", after := #[{ on := 53, ground := Ground.data }, { on := 56, ground := Ground.data }, { on := 50, ground := Ground.guard }], guard := some (50, true) }) (v := ?vs57) rfl (by kernel_rfl) (by kernel_rfl) (by kernel_rfl) (fun _ _ _ h => h) (Or.inl ⟨by rfl, ?hys57⟩) (by assumption) ?rests57
    case hys57 => (intro w hSw; (try dsimp only at hSw); go_simp; try with_reducible rfl)
    try simp only [Act.put, List.setIfInBounds_toArray, List.set_cons_zero, List.set_cons_succ]
    refine wpAnyH_take (i := 58) (oi := { dst := some 125, op := Op.pick (Operand.tmp 117) (Operand.tmp 124) (Operand.const (Value.bool false)), type := 4, pos := "laws.go:272", after := #[{ on := 50, ground := Ground.data }, { on := 57, ground := Ground.data }], guard := none }) (v := ?vs58) rfl (by kernel_rfl) (by kernel_rfl) (by kernel_rfl) (fun _ _ _ h => h) (Or.inl ⟨by rfl, ?hys58⟩) (by assumption) ?rests58
    case hys58 => (intro w hSw; (try dsimp only at hSw); go_simp; try with_reducible rfl)
    try simp only [Act.put, List.setIfInBounds_toArray, List.set_cons_zero, List.set_cons_succ]
    refine wpAnyH_take (i := 59) (oi := { dst := some 126, op := Op.move (Operand.tmp 125), type := 4, pos := "laws.go:272", after := #[{ on := 58, ground := Ground.data }, { on := 56, ground := Ground.chain }], guard := none }) (v := ?vs59) rfl (by kernel_rfl) (by kernel_rfl) (by kernel_rfl) (fun _ _ _ h => h) (Or.inl ⟨by rfl, ?hys59⟩) (by assumption) ?rests59
    case hys59 => (intro w hSw; (try dsimp only at hSw); go_simp; try with_reducible rfl)
    try simp only [Act.put, List.setIfInBounds_toArray, List.set_cons_zero, List.set_cons_succ]
    refine wpAnyH_take (i := 60) (oi := { dst := some 127, op := Op.load 26 (Operand.tmp 19), type := 26, pos := "laws.go:272", after := #[{ on := 59, ground := Ground.guard }], guard := some (59, true) }) (v := ?vs60) rfl (by kernel_rfl) (by kernel_rfl) (by kernel_rfl) (fun _ _ _ h => h) (Or.inl ⟨by rfl, ?hys60⟩) (by assumption) ?rests60
    case hys60 => (intro w hSw; (try dsimp only at hSw); go_simp; try with_reducible rfl)
    try simp only [Act.put, List.setIfInBounds_toArray, List.set_cons_zero, List.set_cons_succ]
    refine wpAnyH_take (i := 61) (oi := { dst := some 128, op := Op.load 26 (Operand.tmp 20), type := 26, pos := "laws.go:272", after := #[{ on := 59, ground := Ground.guard }], guard := some (59, true) }) (v := ?vs61) rfl (by kernel_rfl) (by kernel_rfl) (by kernel_rfl) (fun _ _ _ h => h) (Or.inl ⟨by rfl, ?hys61⟩) (by assumption) ?rests61
    case hys61 => (intro w hSw; (try dsimp only at hSw); go_simp; try with_reducible rfl)
    try simp only [Act.put, List.setIfInBounds_toArray, List.set_cons_zero, List.set_cons_succ]
    refine wpAnyH_take (i := 63) (oi := { dst := some 130, op := Op.load 26 (Operand.tmp 19), type := 26, pos := "laws.go:272", after := #[{ on := 59, ground := Ground.guard }], guard := some (59, true) }) (v := ?vs63) rfl (by kernel_rfl) (by kernel_rfl) (by kernel_rfl) (fun _ _ _ h => h) (Or.inl ⟨by rfl, ?hys63⟩) (by assumption) ?rests63
    case hys63 => (intro w hSw; (try dsimp only at hSw); go_simp; try with_reducible rfl)
    try simp only [Act.put, List.setIfInBounds_toArray, List.set_cons_zero, List.set_cons_succ]
    refine wpAnyH_take (i := 64) (oi := { dst := some 131, op := Op.load 26 (Operand.tmp 20), type := 26, pos := "laws.go:272", after := #[{ on := 59, ground := Ground.guard }], guard := some (59, true) }) (v := ?vs64) rfl (by kernel_rfl) (by kernel_rfl) (by kernel_rfl) (fun _ _ _ h => h) (Or.inl ⟨by rfl, ?hys64⟩) (by assumption) ?rests64
    case hys64 => (intro w hSw; (try dsimp only at hSw); go_simp; try with_reducible rfl)
    try simp only [Act.put, List.setIfInBounds_toArray, List.set_cons_zero, List.set_cons_succ]
    clear hHeld
    refine wpAnyH_ready (rs := [62]) (by kernel_rfl) (by simp) ?_
    refine AllReadyH.cons (o := { dst := some 129, op := Op.call { callee := Callee.value (Operand.func 17), args := #[Operand.tmp 127, Operand.tmp 128], argTypes := #[26, 26] }, type := 26, pos := "laws.go:272", after := #[{ on := 60, ground := Ground.data }, { on := 61, ground := Ground.data }, { on := 59, ground := Ground.chain }, { on := 59, ground := Ground.guard }], guard := some (59, true) }) rfl (fun K hK => ?_) AllReadyH.nil
    go_simp
    refine (implJoinMail_any ga ua aa la.length ka la ta gb ub ab lb.length kb lb tb _ rfl rfl LA.out LB.out TA.out TB.out (RA8.out.later Bv6.out) (RB8.out.later Bv6.out) ZA.out).mono ?_; rintro e v7 ⟨vv, rfl, ho, hb⟩
    obtain ⟨av7, kv7, hv, _⟩ := Ow.shape ho
    rw [PL.out] at ho hv
    subst hv
    rw [PU.out, PT.out]
    have R7 := hid (Ow.rs ho).2
    have Bv7 : Hid (Below W8.heap.size W8 v7) := btr Bv6.out hb
    clear ho hb
    go_wp2_with fail
    refine hK.out _ _ (HC.out _ Bv7.out) (fun hHeld => ?_)
    clear hK K
    try simp only [Act.put, List.setIfInBounds_toArray, List.set_cons_zero, List.set_cons_succ]
    clear hHeld
    refine wpAnyH_ready (rs := [65]) (by kernel_rfl) (by simp) ?_
    refine AllReadyH.cons (o := { dst := some 132, op := Op.call { callee := Callee.value (Operand.func 18), args := #[Operand.tmp 130, Operand.tmp 131], argTypes := #[26, 26] }, type := 26, pos := "laws.go:272", after := #[{ on := 63, ground := Ground.data }, { on := 64, ground := Ground.data }, { on := 62, ground := Ground.chain }, { on := 59, ground := Ground.guard }], guard := some (59, true) }) rfl (fun K hK => ?_) AllReadyH.nil
    go_simp
    refine (specJoinMail_any ga ua aa la.length ka la ta gb ub ab lb.length kb lb tb _ rfl rfl LA.out LB.out TA.out TB.out (RA8.out.later Bv7.out) (RB8.out.later Bv7.out) ZA.out).mono ?_; rintro e v8 ⟨vv, rfl, ho, hb⟩
    obtain ⟨av8, kv8, hv, _⟩ := Ow.shape ho
    rw [PL.out] at ho hv
    subst hv
    rw [PU.out, PT.out]
    have R8 := hid (Ow.rs ho).2
    have R7b := hid (R7.out.later hb)
    have Bv8 : Hid (Below W8.heap.size W8 v8) := btr Bv7.out hb
    clear ho hb
    go_wp2_with fail
    refine hK.out _ _ (HC.out _ Bv8.out) (fun hHeld => ?_)
    clear hK K
    try simp only [Act.put, List.setIfInBounds_toArray, List.set_cons_zero, List.set_cons_succ]
    clear hHeld
    refine wpAnyH_ready (rs := [66]) (by kernel_rfl) (by simp) ?_
    refine AllReadyH.cons (o := { dst := some 133, op := Op.call { callee := Callee.value (Operand.func 14), args := #[Operand.tmp 129, Operand.tmp 132], argTypes := #[26, 26] }, type := 4, pos := "laws.go:272", after := #[{ on := 62, ground := Ground.data }, { on := 65, ground := Ground.data }, { on := 65, ground := Ground.chain }, { on := 59, ground := Ground.guard }], guard := some (59, true) }) rfl (fun K hK => ?_) AllReadyH.nil
    go_simp
    refine (specSame_any ga pu av7 pl.length kv7 pl pt ga pu av8 pl.length kv8 pl pt _ rfl rfl PN.out R7b.out R8.out).mono ?_; rintro e v9 ⟨rfl, hb⟩
    rw [smail_self]
    have Bv9 : Hid (Below W8.heap.size W8 v9) := btr Bv8.out hb
    clear hb
    go_wp2_with fail
    refine hK.out _ _ (HC.out _ Bv9.out) (fun hHeld => ?_)
    clear hK K
    try simp only [Act.put, List.setIfInBounds_toArray, List.set_cons_zero, List.set_cons_succ]
    refine wpAnyH_take (i := 67) (oi := { dst := some 134, op := Op.pick (Operand.tmp 126) (Operand.tmp 133) (Operand.const (Value.bool false)), type := 4, pos := "laws.go:272", after := #[{ on := 59, ground := Ground.data }, { on := 66, ground := Ground.data }], guard := none }) (v := ?vs67) rfl (by kernel_rfl) (by kernel_rfl) (by kernel_rfl) (fun _ _ _ h => h) (Or.inl ⟨by rfl, ?hys67⟩) (by assumption) ?rests67
    case hys67 => (intro w hSw; (try dsimp only at hSw); go_simp; try with_reducible rfl)
    try simp only [Act.put, List.setIfInBounds_toArray, List.set_cons_zero, List.set_cons_succ]
    refine wpAnyH_take (i := 68) (oi := { dst := some 135, op := Op.move (Operand.tmp 134), type := 4, pos := "laws.go:272", after := #[{ on := 67, ground := Ground.data }, { on := 66, ground := Ground.chain }], guard := none }) (v := ?vs68) rfl (by kernel_rfl) (by kernel_rfl) (by kernel_rfl) (fun _ _ _ h => h) (Or.inl ⟨by rfl, ?hys68⟩) (by assumption) ?rests68
    case hys68 => (intro w hSw; (try dsimp only at hSw); go_simp; try with_reducible rfl)
    try simp only [Act.put, List.setIfInBounds_toArray, List.set_cons_zero, List.set_cons_succ]
    refine wpAnyH_take (i := 69) (oi := { dst := some 136, op := Op.load 26 (Operand.tmp 3), type := 26, pos := "laws.go:272", after := #[{ on := 68, ground := Ground.guard }], guard := some (68, true) }) (v := ?vs69) rfl (by kernel_rfl) (by kernel_rfl) (by kernel_rfl) (fun _ _ _ h => h) (Or.inl ⟨by rfl, ?hys69⟩) (by assumption) ?rests69
    case hys69 => (intro w hSw; (try dsimp only at hSw); go_simp; try with_reducible rfl)
    try simp only [Act.put, List.setIfInBounds_toArray, List.set_cons_zero, List.set_cons_succ]
    refine wpAnyH_take (i := 70) (oi := { dst := some 137, op := Op.load 26 (Operand.tmp 3), type := 26, pos := "laws.go:272", after := #[{ on := 68, ground := Ground.guard }], guard := some (68, true) }) (v := ?vs70) rfl (by kernel_rfl) (by kernel_rfl) (by kernel_rfl) (fun _ _ _ h => h) (Or.inl ⟨by rfl, ?hys70⟩) (by assumption) ?rests70
    case hys70 => (intro w hSw; (try dsimp only at hSw); go_simp; try with_reducible rfl)
    try simp only [Act.put, List.setIfInBounds_toArray, List.set_cons_zero, List.set_cons_succ]
    clear hHeld
    refine wpAnyH_ready (rs := [71]) (by kernel_rfl) (by simp) ?_
    refine AllReadyH.cons (o := { dst := some 138, op := Op.call { callee := Callee.value (Operand.func 16), args := #[Operand.tmp 136, Operand.tmp 137], argTypes := #[26, 26] }, type := 4, pos := "laws.go:272", after := #[{ on := 69, ground := Ground.data }, { on := 70, ground := Ground.data }, { on := 68, ground := Ground.chain }, { on := 68, ground := Ground.guard }], guard := some (68, true) }) rfl (fun K hK => ?_) AllReadyH.nil
    go_simp
    refine (implSame_any g u am l.length cm l t g u am l.length cm l t _ rfl rfl LM.out (RM8.out.later Bv9.out) (RM8.out.later Bv9.out)).mono ?_; rintro e v10 ⟨rfl, hb⟩
    rw [smail_self]
    have Bv10 : Hid (Below W8.heap.size W8 v10) := btr Bv9.out hb
    clear hb
    go_wp2_with fail
    refine hK.out _ _ (HC.out _ Bv10.out) (fun hHeld => ?_)
    clear hK K
    try simp only [Act.put, List.setIfInBounds_toArray, List.set_cons_zero, List.set_cons_succ]
    refine wpAnyH_take (i := 72) (oi := { dst := some 139, op := Op.pick (Operand.tmp 135) (Operand.tmp 138) (Operand.const (Value.bool false)), type := 4, pos := "laws.go:272", after := #[{ on := 68, ground := Ground.data }, { on := 71, ground := Ground.data }], guard := none }) (v := ?vs72) rfl (by kernel_rfl) (by kernel_rfl) (by kernel_rfl) (fun _ _ _ h => h) (Or.inl ⟨by rfl, ?hys72⟩) (by assumption) ?rests72
    case hys72 => (intro w hSw; (try dsimp only at hSw); go_simp; try with_reducible rfl)
    try simp only [Act.put, List.setIfInBounds_toArray, List.set_cons_zero, List.set_cons_succ]
    refine wpAnyH_take (i := 73) (oi := { dst := some 2, op := Op.assign (Operand.tmp 139), type := 4, pos := "laws.go:272", after := #[{ on := 72, ground := Ground.data }, { on := 71, ground := Ground.chain }, { on := 0, ground := Ground.phase }, { on := 1, ground := Ground.phase }, { on := 2, ground := Ground.phase }, { on := 3, ground := Ground.phase }, { on := 4, ground := Ground.phase }, { on := 5, ground := Ground.phase }, { on := 6, ground := Ground.phase }, { on := 7, ground := Ground.phase }, { on := 8, ground := Ground.phase }, { on := 9, ground := Ground.phase }, { on := 10, ground := Ground.phase }, { on := 11, ground := Ground.phase }, { on := 12, ground := Ground.phase }, { on := 13, ground := Ground.phase }, { on := 14, ground := Ground.phase }, { on := 15, ground := Ground.phase }, { on := 16, ground := Ground.phase }, { on := 17, ground := Ground.phase }, { on := 18, ground := Ground.phase }, { on := 19, ground := Ground.phase }, { on := 20, ground := Ground.phase }, { on := 21, ground := Ground.phase }, { on := 22, ground := Ground.phase }, { on := 23, ground := Ground.phase }, { on := 24, ground := Ground.phase }, { on := 25, ground := Ground.phase }, { on := 26, ground := Ground.phase }, { on := 27, ground := Ground.phase }, { on := 28, ground := Ground.phase }, { on := 29, ground := Ground.phase }, { on := 30, ground := Ground.phase }, { on := 31, ground := Ground.phase }, { on := 32, ground := Ground.phase }, { on := 33, ground := Ground.phase }, { on := 34, ground := Ground.phase }, { on := 35, ground := Ground.phase }, { on := 36, ground := Ground.phase }, { on := 37, ground := Ground.phase }, { on := 38, ground := Ground.phase }, { on := 39, ground := Ground.phase }, { on := 40, ground := Ground.phase }, { on := 41, ground := Ground.phase }, { on := 42, ground := Ground.phase }, { on := 43, ground := Ground.phase }, { on := 44, ground := Ground.phase }, { on := 45, ground := Ground.phase }, { on := 46, ground := Ground.phase }, { on := 47, ground := Ground.phase }, { on := 48, ground := Ground.phase }, { on := 49, ground := Ground.phase }, { on := 50, ground := Ground.phase }, { on := 51, ground := Ground.phase }, { on := 52, ground := Ground.phase }, { on := 53, ground := Ground.phase }, { on := 54, ground := Ground.phase }, { on := 55, ground := Ground.phase }, { on := 56, ground := Ground.phase }, { on := 57, ground := Ground.phase }, { on := 58, ground := Ground.phase }, { on := 59, ground := Ground.phase }, { on := 60, ground := Ground.phase }, { on := 61, ground := Ground.phase }, { on := 62, ground := Ground.phase }, { on := 63, ground := Ground.phase }, { on := 64, ground := Ground.phase }, { on := 65, ground := Ground.phase }, { on := 66, ground := Ground.phase }, { on := 67, ground := Ground.phase }, { on := 68, ground := Ground.phase }, { on := 69, ground := Ground.phase }, { on := 70, ground := Ground.phase }, { on := 71, ground := Ground.phase }, { on := 72, ground := Ground.phase }], guard := none }) (v := ?vs73) rfl (by kernel_rfl) (by kernel_rfl) (by kernel_rfl) (fun _ _ _ h => h) (Or.inl ⟨by rfl, ?hys73⟩) (by assumption) ?rests73
    case hys73 => (intro w hSw; (try dsimp only at hSw); go_simp; try with_reducible rfl)
    try simp only [Act.put, List.setIfInBounds_toArray, List.set_cons_zero, List.set_cons_succ]
    refine wpAnyH_done (by kernel_rfl) ?_ _
    refine NoPanic.normal ?_
    clear hHeld
    go_wp2
    go_ret
    exact ⟨rfl, btr B8.out Bv10.out⟩
end Go.Proofs.Ytldcmfkmnjdfiaa
