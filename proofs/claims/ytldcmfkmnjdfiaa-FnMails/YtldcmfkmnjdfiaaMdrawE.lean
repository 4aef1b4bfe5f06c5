/- Drawn texts that may be a mail's. -/
import Derived.Test.YtldcmfkmnjdfiaaMdrawD
import Derived.Test.YtldcmfkmnjdfiaaMailTrip
namespace Go.Proofs.Ytldcmfkmnjdfiaa
open Go.RowKit

theorem wrap_small (x : Int) (h1 : -9223372036854775808 ≤ x) (h2 : x ≤ 9223372036854775807) : IntKind.i64.wrap x = x := by rw [IntKind.wrap_i64]; omega

theorem text1_any (cb : Nat) (ao : Option Addr) (n cap : Nat) (w : World) (hn : n ≤ 1048576) (hcur : Cur w cb ao n cap) (hcode : Code w cb ao n) :
    Calls Try.prog 59 #[.pointer (some ⟨cb, 0, none⟩), .int .i64 1] w fun e w' => ∃ x : ByteArray, x.size = 1 ∧ e = .returned (.string x) ∧ Cur w' cb ao n cap ∧ w.grownBy w' (some cb) := by
  refine (text_any cb ao n cap 1 w hn hcur hcode (by decide)).mono ?_
  rintro e w1 ⟨bs, hb, rfl, hc, hg⟩
  exact ⟨_, by show bs.toArray.size = 1; simp [hb], rfl, hc, hg⟩

set_option maxHeartbeats 1600000 in
set_option maxRecDepth 100000 in
theorem spoilt_any (cb : Nat) (ao : Option Addr) (n cap : Nat) (s : ByteArray) (w : World) (hn : n ≤ 1048576) (hs : s.size ≤ 100000) (hcur : Cur w cb ao n cap) (hcode : Code w cb ao n) :
    Calls Try.prog 30 #[.pointer (some ⟨cb, 0, none⟩), .string s] w fun e w' => ∃ x : ByteArray, x.size ≤ 300000 ∧ e = .returned (.string x) ∧ w.grownBy w' (some cb) := by
  have HC := hid hcur
  have HO := hid hcode
  clear hcur hcode
  go_enter Try.func30, Try.ntmps30
  go_wp2_with fail
  refine (below4 cb ao n cap _ hn HC.out HO.out 12 (by decide) (by decide)).mono ?_; rintro e w1 ⟨k, hk, rfl, hc, hg⟩
  have C1 := hid hc
  have O1 := hid (HO.out.later hg)
  have G1 := hid hg
  clear hc hg HC HO
  by_cases h0 : k = 0
  · subst h0
    go_wp2_with fail
    refine (text1_any cb ao n cap _ hn C1.out O1.out).mono ?_; rintro e w2 ⟨x, hx, rfl, hc, hg⟩
    have G2 := hid (only_trans G1.out hg)
    clear hc hg
    go_wp2
    go_ret
    exact ⟨s ++ x, by rw [ByteArray.size_append]; omega, rfl, G2.out⟩
  by_cases h1 : k = 1
  · subst h1
    go_wp2_with fail
    refine (below4 cb ao n cap _ hn C1.out O1.out ((s.size : Int) + 1) (by omega) (by omega)).mono ?_; rintro e w2 ⟨x, hx, rfl, hc, hg⟩
    have G2 := hid (only_trans G1.out hg)
    have hI : (0 : Int) ≤ (x : Int) ∧ (x : Int) ≤ (s.size : Int) := by omega
    clear hc hg
    go_wp2
    go_ret
    exact ⟨s.extract 0 x, by rw [ByteArray.size_extract]; omega, by simp, G2.out⟩
  have hk0 : ((k : Int) == 0) = false := beq_eq_false_iff_ne.2 (by omega)
  have hk1 : ((k : Int) == 1) = false := beq_eq_false_iff_ne.2 (by omega)
  by_cases h2 : k = 2 ∨ k = 3
  · by_cases hz : 0 < s.size
    · have hzI : (0 : Int) < (s.size : Int) := by omega
      rcases h2 with rfl | rfl
      all_goals
        go_wp2_with fail
        refine (below4 cb ao n cap _ hn C1.out O1.out (s.size : Int) (by omega) (by omega)).mono ?_; rintro e w2 ⟨i, hi, rfl, hc, hg⟩
        have G2 := hid (only_trans G1.out hg)
        have C2 := hid hc
        have O2 := hid (O1.out.later hg)
        have hI : (0 : Int) ≤ (i : Int) ∧ (i : Int) ≤ (s.size : Int) := by omega
        have hI1 : (0 : Int) ≤ (i : Int) + 1 ∧ (i : Int) + 1 ≤ (s.size : Int) := by omega
        clear hc hg
        go_wp2_with fail
        have hw : IntKind.i64.wrap ((i : Int) + 1) = (i : Int) + 1 := wrap_small _ (by omega) (by omega)
        have O2d : Hid (Code w2.drew cb ao n) := O2.out
        have C2d : Hid (Cur w2.drew cb ao n cap) := C2.out
        obtain ⟨p, hp⟩ : ∃ p, s.extract 0 i = p := ⟨_, rfl⟩
        obtain ⟨q, hq⟩ : ∃ q, s.extract (i + 1) s.size = q := ⟨_, rfl⟩
        have zp : p.size ≤ 100000 := by rw [← hp, ByteArray.size_extract]; omega
        have zq : q.size ≤ 100000 := by rw [← hq, ByteArray.size_extract]; omega
        go_region_held3 (fun _ => True) (trivial)
          ((go_at_call 59; refine (text1_any cb ao n cap w2.drew hn C2d.out O2d.out).mono ?_; rintro e w3 ⟨x, hx, rfl, hc, hg⟩; have G3 : Hid (w.grownBy w3 (some cb)) := only_trans G2.out (wtr (grown_below (bdr (bre w2)) _) hg); have n1 : (p.size + x.size > 9223372036854775807) = False := eq_false (by omega); have n2 : (p.size + x.size + q.size > 9223372036854775807) = False := eq_false (by omega); have HXS := hid hx; clear hc hg hx))
        clear n1 n2
        go_wp2
        go_ret
        exact ⟨p ++ x ++ q, by have := HXS.out; rw [ByteArray.size_append, ByteArray.size_append]; omega, rfl, G3.out⟩
    · have hzI : ¬ (0 : Int) < (s.size : Int) := by omega
      rcases h2 with rfl | rfl
      all_goals
        go_wp2
        go_ret
        exact ⟨s, by omega, rfl, G1.out⟩
  · have hk2 : ((k : Int) == 2) = false := beq_eq_false_iff_ne.2 (by omega)
    have hk3 : ((k : Int) == 3) = false := beq_eq_false_iff_ne.2 (by omega)
    go_wp2
    go_ret
    exact ⟨s, by omega, rfl, G1.out⟩

/-- A mail's text is short. -/
theorem vi_short (n : Int) (h : n ≤ 1000000000) : (vi n).size ≤ 5 := by
  show (vbs n.toNat).toArray.size ≤ 5
  simp only [List.size_toArray]
  exact vbs_len_le 4 _ (by omega)
theorem rts_short : ∀ (l : List R3), (∀ p ∈ l, okp p = true) → (rts l).size ≤ l.length * 15
  | [], _ => by simp only [rts]; exact Nat.zero_le _
  | p :: l, h => by
    have hp := okp_in (h p (List.mem_cons_self ..))
    have ih := rts_short l (fun q hq => h q (List.mem_cons_of_mem _ hq))
    have a := vi_short p.1 (by omega)
    have b := vi_short p.2.1 (by omega)
    have c := vi_short p.2.2 (by omega)
    simp only [rts, rt, ByteArray.size_append, List.length_cons]
    omega
theorem mtx_short {g u : Int} {l : List R3} {t : ByteArray} (h : mlOk g u l t = true) : (mtx g u l t).size ≤ 200 := by
  obtain ⟨hg, hu, h3, hp, ht⟩ := mlOk_in h
  have a := vi_short g (by omega)
  have b := vi_short u (by omega)
  have c := vi_short t.size (by omega)
  have d := rts_short l hp
  unfold mtx
  simp only [ByteArray.size_append]
  omega
theorem mtR_s (g u : Int) (l : List R3) (t : ByteArray) : ∃ (x : ByteArray) (b : Bool), mtR g u l t = .tuple #[.string x, .bool b] ∧ x.size ≤ 200 ∧ b = mlOk g u l t ∧ (b = true → x = mtx g u l t) := by
  unfold mtR
  cases h : mlOk g u l t with
  | true => exact ⟨_, true, rfl, mtx_short h, rfl, fun _ => rfl⟩
  | false => exact ⟨⟨#[]⟩, false, rfl, Nat.zero_le _, rfl, fun e => by cases e⟩

/-- How a call ends that draws a text and a place in it. -/
def Rd1 (w : World) (e : Ending) (w' : World) : Prop := ∃ (s : ByteArray) (a : Nat), e = .returned (.tuple #[.string s, .int .i64 (a : Int)]) ∧ s.size ≤ 300000 ∧ a ≤ s.size ∧ Below w.heap.size w w'

set_option maxHeartbeats 1600000 in
set_option maxRecDepth 100000 in
theorem drawReadMail_any (ao : Option Addr) (n cap : Nat) (w : World) (hn : n ≤ 1048576) (hcode : Code w w.heap.size ao n) :
    Calls Try.prog 9 #[.slice ao n cap] w fun e w' => Rd1 w e w' := by
  have HO := hid hcode
  clear hcode
  go_enter Try.func9, Try.ntmps9
  go_wp2_with fail
  refine (new_any ao n cap _ hn HO.out).mono ?_; rintro e w1 ⟨rfl, hc, ho, hb⟩
  have C1 := hid hc
  have O1 := hid ho
  have B1 := hid hb
  clear hc ho hb
  go_wp2_with fail
  refine (below4 w.heap.size ao n cap _ hn C1.out O1.out 4 (by decide) (by decide)).mono ?_; rintro e w2 ⟨k, hk, rfl, hc, hg⟩
  have C2 := hid hc
  have O2 := hid (O1.out.later hg)
  have B2 := hid (B1.out.trans (below_grownR hg (by intro j hj; simp at hj; omega) B1.out.size))
  clear hc hg C1 O1 B1
  go_wp2_with fail
  refine (l05Any_any w.heap.size ao n cap _ hn C2.out O2.out).mono ?_; rintro e w3 ⟨g, u, f, l, t, rfl, hd, ht, hc, hg⟩
  obtain ⟨a5, c5, rfl, q1, q2, q3, q4, q5⟩ := hd
  have C3 := hid hc
  have O3 := hid (O2.out.later hg)
  have B3 := hid (B2.out.trans (below_grownR hg (by intro j hj; simp at hj; omega) B2.out.size))
  have RS := hid q4
  have Q1 : Hid (l.length ≤ 1048576) := Nat.le_trans q1 (by decide)
  obtain ⟨x, b, hx, hxs, _, _⟩ := mtR_s g u l t
  have HX := hid hx
  clear hc hg C2 O2 B2 q1 q2 q3 q4 q5 hx
  go_wp2_with fail
  refine (specMailText_any g u a5 l.length c5 l t _ rfl Q1.out RS.out).mono ?_; rintro e w4 ⟨rfl, hb⟩
  rw [HX.out]
  have L3 : Hid (w.heap.size < w3.heap.size) := C3.out.lt
  have C4 := hid (C3.out.below hb L3.out)
  have O4 := hid (O3.out.later (grown_below hb (some w.heap.size)))
  have B4 := hid (btr B3.out hb)
  clear hb C3 O3 B3
  by_cases h0 : k = 0
  · subst h0
    go_wp2_with fail
    refine (spoilt_any w.heap.size ao n cap x _ hn (by omega) C4.out O4.out).mono ?_; rintro e w5 ⟨y, hy, rfl, hg⟩
    have B5 := hid (B4.out.trans (below_grownR hg (by intro j hj; simp at hj; omega) B4.out.size))
    clear hg
    go_wp2
    go_ret2
    exact ⟨y, 0, rfl, hy, Nat.zero_le _, B5.out⟩
  have hk0 : ((k : Int) == 0) = false := beq_eq_false_iff_ne.2 (by omega)
  by_cases h1 : k = 1
  · subst h1
    go_wp2
    go_ret2
    exact ⟨⟨#[120]⟩ ++ x, 1, rfl, by rw [ByteArray.size_append]; show 1 + x.size ≤ _; omega, by rw [ByteArray.size_append]; show 1 ≤ 1 + x.size; omega, B4.out⟩
  · have hk1 : ((k : Int) == 1) = false := beq_eq_false_iff_ne.2 (by omega)
    go_wp2
    go_ret2
    exact ⟨x ++ ⟨#[109, 111, 114, 101]⟩, 0, rfl, by rw [ByteArray.size_append]; show x.size + 4 ≤ _; omega, Nat.zero_le _, B4.out⟩
end Go.Proofs.Ytldcmfkmnjdfiaa
