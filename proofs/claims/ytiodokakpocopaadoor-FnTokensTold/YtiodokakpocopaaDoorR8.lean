/- Qpw. -/
import Derived.Test.YtiodokakpocopaaDoorR7
namespace Go.Proofs.YtiodokakpocopaaDoor
open Go.RowKit
theorem readS_as (X : ByteArray) (hX : X.size ≤ 1048576) (l : List T2) (t : ByteArray) (c : Int) (h : rtk X = (l, t, c)) (N : Nat) (hN : l.length = N) (w : World) :
    Calls Tryd.prog 12 #[.string X] w fun e w' => ∃ a cp, e = .returned (.tuple #[.slice a N cp, .string t, .int .i64 c]) ∧ OwK w' w.heap.size (.slice a N cp) l ∧ Below w.heap.size w w' := by
  refine (specReadTokens_any X w hX).mono ?_
  rintro e w' ⟨v, l', t', c', rfl, hr, ho, hb⟩
  rw [h] at hr
  simp only [Prod.mk.injEq] at hr
  obtain ⟨rfl, rfl, rfl⟩ := hr
  obtain ⟨a, cp, rfl⟩ := ho.shape
  rw [hN] at ho ⊢
  exact ⟨a, cp, rfl, ho, hb⟩
theorem qtR_let (s : ByteArray) : ∃ (x : ByteArray) (c : Bool), qtR s = .tuple #[.string x, .bool c] := by
  unfold qtR
  split
  · exact ⟨_, _, rfl⟩
  · exact ⟨_, _, rfl⟩
theorem specQuote_b (s : ByteArray) (w : World) (hs : s.size ≤ 1048576) : Calls Tryd.prog 15 #[.string s] w fun e w' => e = .returned (qtR s) ∧ Below w.heap.size w w' := (specQuote_any s w hs).mono (by rintro e w' ⟨rfl, rfl⟩; exact ⟨rfl, bre _⟩)
theorem specAtom_b (s : ByteArray) (w : World) (hs : s.size ≤ 1048576) : Calls Tryd.prog 19 #[.string s] w fun e w' => e = .returned (.bool (atk s)) ∧ Below w.heap.size w w' := (specAtom_any s w hs).mono (by rintro e w' ⟨rfl, rfl⟩; exact ⟨rfl, bre _⟩)
set_option maxHeartbeats 6400000 in
set_option maxRecDepth 100000 in
theorem fnTokensTold_any (ao : Option Addr) (n cap : Nat) (w : World) (hcode : Code w w.heap.size ao n) (hT : Mx w) :
    Calls Tryd.prog 4 #[.slice ao n cap] w fun e w' => e = .returned (.bool true) ∧ Below w.heap.size w w' := by
  have HO := hid hcode
  have HTB := hid hT
  clear hcode hT
  by_cases hn : n ≤ 1048576
  rotate_left
  · go_enter Tryd.func4, Tryd.ntmps4
    go_wp2_with fail
    refine (bigF_yes ao n cap _ (by omega)).mono ?_; rintro e w1 ⟨rfl, h1⟩
    subst h1
    go_wp2
    go_ret
    exact ⟨rfl, bre _⟩
  · have HN := hid hn
    go_enter Tryd.func4, Tryd.ntmps4
    go_wp2_with fail
    refine (bigF_no ao n cap _ HN.out).mono ?_; rintro e w0 ⟨rfl, h0⟩
    have h0 := h0.symm
    subst h0
    go_wp2_with fail
    refine (drawReadG_any ao n cap _ HN.out HO.out).mono ?_; rintro e w1 ⟨s, hs, rfl, hb⟩
    have B1 := hid hb
    clear hb
    obtain ⟨l, t, c, hr⟩ : ∃ l t c, rtk s = (l, t, c) := ⟨_, _, _, rfl⟩
    have hl8 := rtk_len hr
    obtain ⟨N, hN⟩ : ∃ N, l.length = N := ⟨_, rfl⟩
    rw [hN] at hl8
    have CI := hid (fun (W : World) (hM : Mx W) => readT_as s (by have := hs.out.1; omega) hs.out.2 l t c hr N hN W hM)
    have CS := hid (fun (W : World) => readS_as s (by have := hs.out.1; omega) l t c hr N hN W)
    clear hr hs hN
    go_wp2_with fail
    refine (CI.out _ (HTB.out.upon B1.out)).mono ?_; rintro e w2 ⟨a2, p2, rfl, ho, hb⟩
    have K2 := hid ho
    have B2 := hid (btr B1.out hb)
    clear ho hb B1 CI
    go_wp2_with fail
    refine (CS.out _).mono ?_; rintro e w3 ⟨a3, p3, rfl, ho, hb⟩
    have K3 := hid ho
    have K2' := hid (own_later K2.out hb)
    have B3 := hid (btr B2.out hb)
    clear ho hb B2 CS K2
    go_wp2_with fail
    refine (drawQuote_any ao n cap _ HN.out (HO.out.over B3.out)).mono ?_; rintro e w4 ⟨q, hq, rfl, hb⟩
    have B4 := hid (btr B3.out hb)
    have K4 := hid (own_later K2'.out hb)
    have K4' := hid (own_later K3.out hb)
    clear hb B3 K2' K3
    have hq1 : q.size ≤ 1048576 := by have h : q.size ≤ 61 := hq.out; omega
    obtain ⟨x, d, hx⟩ := qtR_let q
    have CQ := hid (fun (W : World) => implQuote_any q W hq1)
    have CR := hid (fun (W : World) => specQuote_b q W hq1)
    rw [hx] at CQ CR
    clear hx hq hq1
    go_wp2_with fail
    refine (CQ.out _).mono ?_; rintro e w5 ⟨rfl, hb⟩
    have B5 := hid (btr B4.out hb)
    have K5 := hid (own_later K4.out hb)
    have K5' := hid (own_later K4'.out hb)
    clear hb B4 K4 K4' CQ
    go_wp2_with fail
    refine (CR.out _).mono ?_; rintro e w6 ⟨rfl, hb⟩
    have B6 := hid (btr B5.out hb)
    have K6 := hid (own_later K5.out hb)
    have K6' := hid (own_later K5'.out hb)
    clear hb B5 K5 K5' CR
    go_wp2_with fail
    refine (drawAtom_any ao n cap _ HN.out (HO.out.over B6.out)).mono ?_; rintro e w7 ⟨y, hy, rfl, hb⟩
    have B7 := hid (btr B6.out hb)
    have K7 := hid (own_later K6.out hb)
    have K7' := hid (own_later K6'.out hb)
    clear hb B6 K6 K6'
    have hy1 : y.size ≤ 1048576 := by have h : y.size ≤ 61 := hy.out; omega
    obtain ⟨z, hz⟩ : ∃ z, atk y = z := ⟨_, rfl⟩
    have CA := hid (fun (W : World) => implAtom_any y W hy1)
    have CB := hid (fun (W : World) => specAtom_b y W hy1)
    rw [hz] at CA CB
    clear hz hy hy1
    go_wp2_with fail
    refine (drawTokenText_any ao n cap _ HN.out (HO.out.over B7.out)).mono ?_; rintro e w8 ⟨kd, u, rfl, hk, hb⟩
    have B8 := hid (btr B7.out hb)
    have K8 := hid (own_later K7.out hb)
    have K8' := hid (own_later K7'.out hb)
    clear hb B7 K7 K7'
    have hu1 : u.size ≤ 1048576 := by have := okt_size hk.out; omega
    obtain ⟨v, hv⟩ : ∃ v, ttx kd u = v := ⟨_, rfl⟩
    have CT := hid (fun (W : World) => implTokenText_any kd u W hk.out)
    have CU := hid (fun (W : World) => specTokenText_any kd u W hu1)
    rw [hv] at CT CU
    clear hv hk hu1
    have C1 := hid (fun (W : World) => implAtom_any ⟨#[97, 49]⟩ W (by decide))
    have e1 : atk ⟨#[97, 49]⟩ = true := rfl
    rw [e1] at C1
    clear e1
    obtain ⟨W0, hW0⟩ : ∃ W0, w8.alloc (.cells #[.int .i64 kd, .string u] 28) = W0 := ⟨_, rfl⟩
    have b0 : Below w8.heap.size w8 W0 := by subst hW0; exact bpush (bre _) _
    have t0 : Tok W0 w8.heap.size 28 kd u := by subst hW0; exact Tok.new w8 _ _ _
    have HS : Hid (∀ W, Below W0.heap.size W0 W → (W.cell? ⟨w8.heap.size, 0, none⟩ = some (.int .i64 kd) ∧ W.cell? ⟨w8.heap.size, 1, none⟩ = some (.string u))) := fun W h => (t0.later h).cells
    have KA : Hid (∀ W, Below W0.heap.size W0 W → OwK W _ (.slice a2 N p2) l) := fun W h => own_later (own_later K8.out b0) h
    have KB : Hid (∀ W, Below W0.heap.size W0 W → OwK W _ (.slice a3 N p3) l) := fun W h => own_later (own_later K8'.out b0) h
    have B0 := hid (btr B8.out b0)
    have HW := hid hW0
    have hN1 : Hid (N ≤ 1048576) := by show _ ≤ _; omega
    clear b0 t0 K8 K8' B8 HTB HO HN hl8 hW0
    go_upto_region 11 with fail
    rw [HW.out]
    clear HW
    go_region_held3 (fun W => W.cell? ⟨w8.heap.size, 0, none⟩ = some (.int .i64 kd) ∧ W.cell? ⟨w8.heap.size, 1, none⟩ = some (.string u))
      ((refine HS.out _ ?_; repeat (first | exact bdr (bre _) | refine btr ?_ (by assumption))))
      ((first
        | (go_at_call 10; (with_reducible refine (sameTokens_any _ _ a2 a3 N p2 p3 l _ hN1.out (KA.out _ (by repeat (first | exact bdr (bre _) | refine btr ?_ (by assumption)))) (KB.out _ (by repeat (first | exact bdr (bre _) | refine btr ?_ (by assumption))))).mono ?_); rintro e wA ⟨rfl, hA⟩)
        | (go_at_call 18; (with_reducible refine (CA.out _).mono ?_); rintro e wB ⟨rfl, hB⟩)
        | (go_at_call 19; (with_reducible refine (CB.out _).mono ?_); rintro e wC ⟨rfl, hC⟩)
        | (go_at_call 7; (with_reducible refine (CT.out _).mono ?_); rintro e wD ⟨rfl, hD⟩)
        | (go_at_call 20; (with_reducible refine (CU.out _).mono ?_); rintro e wE ⟨rfl, hE⟩)
        | (go_at_call 18; (with_reducible refine (C1.out _).mono ?_); rintro e wF ⟨rfl, hF⟩)))
    have BE : Below W0.heap.size W0 wF := by repeat (first | exact bdr (bre _) | refine btr ?_ (by assumption))
    go_wp2
    go_ret
    exact ⟨rfl, btr B0.out BE⟩
end Go.Proofs.YtiodokakpocopaaDoor
