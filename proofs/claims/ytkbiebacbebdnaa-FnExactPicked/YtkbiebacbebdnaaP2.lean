/- Zi, Zj, OpenG, Zpc. -/
import Derived.Test.YtkbiebacbebdnaaP1
namespace Go.Proofs.Ytkbiebacbebdnaa
open Go.RowKit
/-- The first i are marked. -/
def mdj (k : Nat) (l : List Nat) (i : Nat) : List Nat := List.range' k i ++ l.drop i
theorem mdj_len (k : Nat) (l : List Nat) (i : Nat) (h : i ≤ l.length) : (mdj k l i).length = l.length := by simp [mdj]; omega
theorem mdj_set (k : Nat) (l : List Nat) (i : Nat) (h : i < l.length) : (mdj k l i).set i (k + i) = mdj k l (i + 1) := by
  unfold mdj
  rw [List.drop_eq_getElem_cons h, List.set_append_right _ _ (by simp), List.length_range', Nat.sub_self, List.set_cons_zero, List.range'_concat]
  simp
set_option maxHeartbeats 1600000 in
set_option maxRecDepth 100000 in
theorem eqIntJ_any (B B' : Nat) (a a' : Option Addr) (n c c' : Nat) (l : List Nat) (w : World) (hn : n ≤ 1048576) (h1 : OwJ w B (.slice a n c) l) (h2 : OwJ w B' (.slice a' n c') l) :
    Calls Try.prog 12 #[.slice a n c, .slice a' n c'] w fun e w' => e = .returned (.bool true) ∧ Below w.heap.size w w' := by
  have H1 := hid h1
  have H2 := hid h2
  clear h1 h2
  have e0 : ((n : Int) != (n : Int)) = false := by simp
  go_enter Try.func12, Try.ntmps12
  go_wp2
  clear e0
  go_loopw [5] (fun iv wr => ∃ i : Nat, i ≤ n ∧ iv = .int .i64 (i : Int) ∧ Below w.heap.size w wr) (fun iv _ => n - (intOf iv).toNat)
  case atStart => exact ⟨0, Nat.zero_le _, rfl, bre _⟩
  case round =>
    obtain ⟨i, hi, rfl, hb⟩ := hrel
    have HB := hid hb
    clear hb
    by_cases hlt : i < n
    · obtain ⟨g, rfl⟩ := H1.out.some (by omega)
      obtain ⟨g', rfl⟩ := H2.out.some (by omega)
      have hil : i < l.length := by rw [H1.out.len]; exact hlt
      have c1 : wr.cell? ⟨g, i, none⟩ = some (.int .i64 (l[i] : Nat)) := (OwJ.spot (own_later H1.out HB.out) i hil).1
      have c2 : wr.cell? ⟨g', i, none⟩ = some (.int .i64 (l[i] : Nat)) := (OwJ.spot (own_later H2.out HB.out) i hil).1
      obtain ⟨x, hx⟩ : ∃ x : Int, ((l[i] : Nat) : Int) = x := ⟨_, rfl⟩
      rw [hx] at c1 c2
      clear hx
      have hI : (0 : Int) ≤ (i : Int) ∧ (i : Int) < (n : Int) := by omega
      have hxx : (x != x) = false := by simp
      go_wp2_with fail
      go_quiet (fail)
      go_wp2
      go_roundw
      case rel => exact ⟨i + 1, by omega, by go_num, bdn HB.out _⟩
      case measure => simp [intOf]; omega
    · go_wp2
      go_ret
      exact ⟨rfl, HB.out⟩
set_option maxHeartbeats 1600000 in
set_option maxRecDepth 100000 in
theorem markIntJ_any (B n cap k : Nat) (a : Option Addr) (l : List Nat) (w : World) (hn : n ≤ 1048576) (hk : k ≤ 4194304) (ho : OwJ w B (.slice a n cap) l) :
    Calls Try.prog 14 #[.slice a n cap, .int .i64 (k : Int)] w fun e w' => e = .returned (.int .i64 ((k + n : Nat) : Int)) ∧ OwJ w' B (.slice a n cap) (List.range' k n) ∧ w.grownBy w' (Value.ownBlock (.slice a n cap)) := by
  have HO := hid ho
  have HL := hid ho.len
  clear ho
  go_enter Try.func14, Try.ntmps14
  go_wp2
  go_loopw [1, 5] (fun kv iv wr => ∃ i : Nat, i ≤ n ∧ kv = .int .i64 ((k + i : Nat) : Int) ∧ iv = .int .i64 (i : Int) ∧ OwJ wr B (.slice a n cap) (mdj k l i) ∧ w.grownBy wr (Value.ownBlock (.slice a n cap))) (fun _ iv _ => n - (intOf iv).toNat)
  case atStart => exact ⟨0, Nat.zero_le _, by simp, rfl, by simpa [mdj] using HO.out, wre _ _⟩
  case round =>
    obtain ⟨i, hi, rfl, rfl, hown, hg⟩ := hrel
    have HOW := hid hown
    have HG := hid hg
    clear hown hg
    by_cases hlt : i < n
    · obtain ⟨g, rfl⟩ := HO.out.some (by omega)
      have hil : i < l.length := by rw [HL.out]; exact hlt
      have hil' : i < (mdj k l i).length := by rw [mdj_len _ _ _ (by omega)]; exact hil
      obtain ⟨c1, f1⟩ := HOW.out.spot i hil'
      obtain ⟨q, hq⟩ : ∃ q : Nat, k + i = q := ⟨_, rfl⟩
      have HQ := hid hq
      have hqb : q ≤ 8000000 := by omega
      rw [hq]
      have HW3 : Hid (OwJ (wr.setCell ⟨g, i, none⟩ (.int .i64 (q : Int))) B (.slice (some ⟨g, 0, none⟩) n cap) (mdj k l (i + 1))) := by
        rw [← mdj_set k l i hil, hq]
        exact HOW.out.put i q
      obtain ⟨x, hx⟩ : ∃ x : Int, (((mdj k l i)[i] : Nat) : Int) = x := ⟨_, rfl⟩
      rw [hx] at c1
      clear hq hx
      go_wp2
      go_roundw
      case rel => exact ⟨i + 1, by omega, by rw [show ((k + (i + 1) : Nat) : Int) = (q : Int) + 1 by have := HQ.out; omega], by go_num, HW3.out, wst HG.out _ _⟩
      case measure => simp [intOf]; omega
    · have HE : Hid (i = n) := by show _ = _; omega
      go_wp2
      go_ret
      refine ⟨by rw [HE.out]; rfl, ?_, HG.out⟩
      have h1 := HOW.out
      rw [HE.out, mdj, List.drop_of_length_le (by rw [HL.out]; exact Nat.le_refl _), List.append_nil] at h1
      exact h1
set_option maxHeartbeats 1600000 in
set_option maxRecDepth 100000 in
theorem heldIntJ_any (B n cap k : Nat) (a : Option Addr) (w : World) (hn : n ≤ 1048576) (hk : k ≤ 4194304) (ho : OwJ w B (.slice a n cap) (List.range' k n)) :
    Calls Try.prog 15 #[.slice a n cap, .int .i64 (k : Int)] w fun e w' => e = .returned (.int .i64 ((k + n : Nat) : Int)) ∧ w' = w := by
  have HO := hid ho
  clear ho
  go_enter Try.func15, Try.ntmps15
  go_wp2
  go_loop [1, 5] (fun kv iv => ∃ i : Nat, i ≤ n ∧ kv = .int .i64 ((k + i : Nat) : Int) ∧ iv = .int .i64 (i : Int)) (fun _ iv => n - (intOf iv).toNat)
  case atStart => exact ⟨0, Nat.zero_le _, by simp, rfl⟩
  case round =>
    obtain ⟨i, hi, rfl, rfl⟩ := hrel
    by_cases hlt : i < n
    · obtain ⟨g, rfl⟩ := HO.out.some (by omega)
      have hil : i < (List.range' k n).length := by simpa using hlt
      obtain ⟨q, hq⟩ : ∃ q : Nat, k + i = q := ⟨_, rfl⟩
      have HQ := hid hq
      have hqb : q ≤ 8000000 := by omega
      have c := (HO.out.spot i hil).1
      rw [List.getElem_range', Nat.one_mul, hq] at c
      rw [hq]
      have e1 : ((q : Int) != (q : Int)) = false := by simp
      clear hq
      go_wp2
      go_round
      case rel => exact ⟨i + 1, by omega, by rw [show ((k + (i + 1) : Nat) : Int) = (q : Int) + 1 by have := HQ.out; omega], by go_num⟩
      case measure => simp [intOf]; omega
    · have HE : Hid (i = n) := by show _ = _; omega
      go_wp2
      go_ret
      exact ⟨by rw [HE.out]; rfl, rfl⟩
set_option maxHeartbeats 3200000 in
set_option maxRecDepth 100000 in
theorem lawPicked_any (ao : Option Addr) (n cap : Nat) (l : List G2) (aN : Int) (w : World) (hl : l.length = n) (hn : (n : Int) ≤ 9223372036854775807) (hN : aN ≤ 9223372036854775807) (hr : Rr w ao l) :
    Calls Try.prog 4 #[.slice ao n cap, .int .i64 aN] w fun e w' => e = .returned (.bool true) ∧ Below w.heap.size w w' := by
  have HR := hid hr
  have HL := hid hl
  clear hr hl
  by_cases hbt : (1048576 : Int) < (n : Int)
  · go_enter Try.func4, Try.ntmps4
    go_wp2_with fail
    refine (szR_over ao n cap 1048576 _ hn (by omega) hbt).mono ?_; rintro e w1 ⟨rfl, rfl⟩
    go_wp2
    go_ret
    exact ⟨rfl, bre _⟩
  have hn2 : n ≤ 1048576 := by omega
  have hlf : ¬ (1048576 - (n : Int)) < 0 := by omega
  obtain ⟨G, hG⟩ : ∃ G, pks l aN = G := ⟨_, rfl⟩
  obtain ⟨N, hGN⟩ : ∃ N, G.length = N := ⟨_, rfl⟩
  have hN2 : N ≤ 100 := by
    rw [← hGN, ← hG]
    have h := pkd_len l aN (min 100 aN.toNat)
    unfold pks
    omega
  have key : ∀ (w : World) (e : Ending) (w' : World), (∃ v, e = .returned v ∧ w'.ownsRow w.heap.size 3 1 v (pks l aN).length ((pks l aN).map ic) ∧ Below w.heap.size w w') → ∃ a c, e = .returned (.slice a N c) ∧ OwJ w' w.heap.size (.slice a N c) G ∧ Below w.heap.size w w' := by
    rintro w e w' ⟨v, rfl, ho, hb⟩
    rw [hG] at ho
    have ho' : OwJ w' w.heap.size v G := ho
    obtain ⟨a, c, rfl⟩ := ho'.shape
    rw [hGN] at ho' ⊢
    exact ⟨a, c, rfl, ho', hb⟩
  have CSP : Hid (∀ a c w, Rr w a l → Calls Try.prog 10 #[.slice a n c, .int .i64 aN] w fun e w' => ∃ a c, e = .returned (.slice a N c) ∧ OwJ w' w.heap.size (.slice a N c) G ∧ Below w.heap.size w w') := fun a c w h => (specPicked_any a n c l aN w HL.out hn2 h hN).mono (key w)
  have CIM : Hid (∀ a c w, Rr w a l → Calls Try.prog 11 #[.slice a n c, .int .i64 aN] w fun e w' => ∃ a c, e = .returned (.slice a N c) ∧ OwJ w' w.heap.size (.slice a N c) G ∧ Below w.heap.size w w') := fun a c w h => (implPicked_any a n c l aN w HL.out hn2 h hN).mono (key w)
  clear key hG hGN
  go_enter Try.func4, Try.ntmps4
  go_wp2_with fail
  refine (szR_fits ao n cap 1048576 _ hn (by omega) (by omega)).mono ?_; rintro e w1 ⟨rfl, h1⟩
  have h1 := h1.symm
  subst h1
  go_wp2_with fail
  refine (toRangeS_any ao n cap l _ HL.out hn2 HR.out).mono ?_; rintro e w2 ⟨rfl, ho, hb⟩
  have V2 := hid (OwG.reads ho)
  have B2 := hid hb
  clear ho hb
  go_wp2_with fail
  refine (CSP.out _ _ _ V2.out).mono ?_; rintro e w3 ⟨av, cv, rfl, ho, hb⟩
  have A3 := hid ho
  have Q3 := hid (World.ownsRow.lt ho)
  have B3 := hid (btr B2.out hb)
  clear ho hb V2
  go_wp2_with fail
  refine (toRangeS_any ao n cap l _ HL.out hn2 (HR.out.later B3.out)).mono ?_; rintro e w4 ⟨rfl, ho, hb⟩
  have X4 := hid ho
  have S4 : Hid (w3.heap.size < w4.heap.size) := (World.ownsRow.lt ho _ rfl).2
  have A4 : Hid (OwJ w4 w2.heap.size (.slice av N cv) G) := own_later A3.out hb
  have B4 := hid (btr B3.out hb)
  clear ho hb A3
  go_wp2_with fail
  refine (CIM.out _ _ _ (OwG.reads X4.out)).mono ?_; rintro e w5 ⟨ag, cg, rfl, ho, hb⟩
  have X5 : Hid (OwG w5 w3.heap.size (.slice (some ⟨w3.heap.size, 0, none⟩) n n) l) := own_later X4.out hb
  have A5 : Hid (OwJ w5 w2.heap.size (.slice av N cv) G) := own_later A4.out hb
  have G5 := hid ho
  have Q5 := hid (World.ownsRow.lt ho)
  have B5 := hid (btr B4.out hb)
  clear ho hb A4 X4
  go_wp2_with fail
  refine (eqIntJ_any _ _ ag av N cg cv G _ (by omega) G5.out A5.out).mono ?_; rintro e w6 ⟨rfl, hb⟩
  have X6 : Hid (OwG w6 w3.heap.size (.slice (some ⟨w3.heap.size, 0, none⟩) n n) l) := own_later X5.out hb
  have A6 : Hid (OwJ w6 w2.heap.size (.slice av N cv) G) := own_later A5.out hb
  have G6 : Hid (OwJ w6 w4.heap.size (.slice ag N cg) G) := own_later G5.out hb
  have B6 := hid (btr B5.out hb)
  clear hb A5 X5 G5
  go_wp2_with fail
  refine (toRangeS_any ao n cap l _ HL.out hn2 (HR.out.later B6.out)).mono ?_; rintro e w7 ⟨rfl, ho, hb⟩
  have X7 : Hid (OwG w7 w3.heap.size (.slice (some ⟨w3.heap.size, 0, none⟩) n n) l) := own_later X6.out hb
  have A7 : Hid (OwJ w7 w2.heap.size (.slice av N cv) G) := own_later A6.out hb
  have G7 : Hid (OwJ w7 w4.heap.size (.slice ag N cg) G) := own_later G6.out hb
  have T7 := hid ho
  have B7 := hid (btr B6.out hb)
  clear ho hb A6 X6 G6
  go_wp2_with fail
  refine (eqRangeS_any _ _ _ _ n _ _ l _ hn2 X7.out T7.out).mono ?_; rintro e w8 ⟨rfl, hb⟩
  have X8 : Hid (OwG w8 w3.heap.size (.slice (some ⟨w3.heap.size, 0, none⟩) n n) l) := own_later X7.out hb
  have A8 : Hid (OwJ w8 w2.heap.size (.slice av N cv) G) := own_later A7.out hb
  have G8 : Hid (OwJ w8 w4.heap.size (.slice ag N cg) G) := own_later G7.out hb
  have B8 := hid (btr B7.out hb)
  clear hb A7 X7 G7 T7
  go_wp2_with fail
  refine (markRangeS_gen _ n n 1 _ l _ hn2 (by omega) X8.out).mono ?_; rintro e w9 ⟨rfl, -, hg⟩
  have A9 : Hid (OwJ w9 w2.heap.size (.slice av N cv) G) := World.ownsRow.kept A8.out hg (by
    cases hv : Value.ownBlock (.slice av N cv) with
    | none => exact Or.inl rfl
    | some j => exact Or.inr (fun e => by
        have h1 := (Q3.out j hv).2
        have h2 : w3.heap.size = j := (Option.some.inj e).symm
        omega))
  have G9 : Hid (OwJ w9 w4.heap.size (.slice ag N cg) G) := World.ownsRow.kept G8.out hg (by
    cases hv : Value.ownBlock (.slice ag N cg) with
    | none => exact Or.inl rfl
    | some j => exact Or.inr (fun e => by
        have h1 := (Q5.out j hv).1
        have h2 : w3.heap.size = j := (Option.some.inj e).symm
        have := S4.out
        omega))
  have B9 : Hid (Below w.heap.size w w9) := B8.out.trans (below_grownR hg (fun j hj => by
    have h2 : w3.heap.size = j := Option.some.inj hj
    have := B3.out.size
    omega) B8.out.size)
  obtain ⟨m, hm⟩ : ∃ m : Nat, 1 + n * 2 = m := ⟨_, rfl⟩
  rw [hm]
  have hm1 : ¬ ((m : Nat) : Int) < 0 := by omega
  clear hg hm A8 X8 G8
  go_wp2_with fail
  refine (eqIntJ_any _ _ ag av N cg cv G _ (by omega) G9.out A9.out).mono ?_; rintro e w10 ⟨rfl, hb⟩
  have A10 : Hid (OwJ w10 w2.heap.size (.slice av N cv) G) := own_later A9.out hb
  have G10 : Hid (OwJ w10 w4.heap.size (.slice ag N cg) G) := own_later G9.out hb
  have B10 := hid (btr B9.out hb)
  clear hb A9 G9
  go_wp2_with fail
  refine (markIntJ_any _ N cg 1 ag G _ (by omega) (by omega) G10.out).mono ?_; rintro e w11 ⟨rfl, hmk, hg⟩
  have A11 : Hid (OwJ w11 w2.heap.size (.slice av N cv) G) := World.ownsRow.kept A10.out hg (by
    cases hv : Value.ownBlock (.slice av N cv) with
    | none => exact Or.inl rfl
    | some j => exact Or.inr (fun e => by
        have h1 := (Q3.out j hv).2
        have h2 := (Q5.out j e.symm).1
        have := S4.out
        omega))
  have G11 := hid hmk
  have B11 : Hid (Below w.heap.size w w11) := B10.out.trans (below_grownR hg (fun j hj => by have h1 := (Q5.out j hj).1; have h2 := B4.out.size; omega) B10.out.size)
  obtain ⟨q, hq⟩ : ∃ q : Nat, 1 + N = q := ⟨_, rfl⟩
  rw [hq]
  have HQ := hid hq
  have hq1 : ¬ ((q : Nat) : Int) < 0 := by omega
  have hq2 : (((q : Nat) : Int) != ((q : Nat) : Int)) = false := by simp
  clear hmk hg hq A10 G10
  go_wp2_with fail
  refine (heldIntJ_any _ N cg 1 ag _ (by omega) (by omega) G11.out).mono ?_; rintro e w12 ⟨rfl, h12⟩
  subst h12
  rw [HQ.out]
  go_wp2_with fail
  refine (toRangeS_any ao n cap l _ HL.out hn2 (HR.out.later B11.out)).mono ?_; rintro e w13 ⟨rfl, ho, hb⟩
  have A13 : Hid (OwJ w13 w2.heap.size (.slice av N cv) G) := own_later A11.out hb
  have G13 : Hid (OwJ w13 w4.heap.size (.slice ag N cg) (List.range' 1 N)) := own_later G11.out hb
  have T13 := hid (OwG.reads ho)
  have B13 := hid (btr B11.out hb)
  clear ho hb A11 G11
  go_wp2_with fail
  refine (CIM.out _ _ _ T13.out).mono ?_; rintro e w14 ⟨ah, ch, rfl, ho, hb⟩
  have A14 : Hid (OwJ w14 w2.heap.size (.slice av N cv) G) := own_later A13.out hb
  have G14 : Hid (OwJ w14 w4.heap.size (.slice ag N cg) (List.range' 1 N)) := own_later G13.out hb
  have H14 := hid ho
  have B14 := hid (btr B13.out hb)
  clear ho hb A13 G13 T13
  go_wp2_with fail
  refine (eqIntJ_any _ _ ah av N ch cv G _ (by omega) H14.out A14.out).mono ?_; rintro e w15 ⟨rfl, hb⟩
  have G15 : Hid (OwJ w15 w4.heap.size (.slice ag N cg) (List.range' 1 N)) := own_later G14.out hb
  have B15 := hid (btr B14.out hb)
  clear hb A14 G14 H14
  go_wp2_with fail
  refine (heldIntJ_any _ N cg 1 ag _ (by omega) (by omega) G15.out).mono ?_; rintro e w16 ⟨rfl, h16⟩
  subst h16
  rw [HQ.out]
  go_wp2
  go_ret
  exact ⟨rfl, B15.out⟩
end Go.Proofs.Ytkbiebacbebdnaa
namespace Go.Proofs.Ytkbiebacbebdnaa
open Go.ChangeShapes Go.WideShapes Go.ChangeAt Go.RowKit Go.Joins
theorem cellsInt14 : Try.prog.cellsOf 3 = 1 := by kernel_rfl
theorem cellsGr : Try.prog.cellsOf 38 = 2 := by kernel_rfl
theorem wf_le14 {a : Int} (h : (Lit.int .i64 a).wf = true) : a ≤ 9223372036854775807 := by
  have : IntKind.i64.min ≤ a ∧ a ≤ 9223372036854775807 := by simpa [Lit.wf] using h
  exact this.2
theorem Rr.empty14 (W : World) (a : Option Addr) : Rr W a [] := fun h => absurd h (by simp)
section
variable {H : Type} {enc : TypeId × Value → H} {w : World} {spr : Nat → Bool} {held : Bool}
set_option maxRecDepth 100000 in
theorem trodGr {fuel : Nat} {cs : List Value} {x : DataW H × List MemPlace} (hc : cs.length = 2) (h : DataW.trod enc Try.prog w 0 spr held fuel 38 cs = some x) :
    ∃ t b : Int, cs = [.int .i64 t, .int .i64 b] := by
  obtain ⟨y0, y1, n, hx, hl, h0, h1⟩ := trod_struct2 Try.underlying38 h
  match cs, hc with
  | [c0, c1], _ =>
    have k0 : DataW.trod enc Try.prog w 0 spr held n 3 [c0] = some y0 := by simpa [cellsInt14] using h0
    have k1 : DataW.trod enc Try.prog w 0 spr held n 3 [c1] = some y1 := by simpa [cellsInt14] using h1
    obtain ⟨t, e0, rfl, w0⟩ := DataW.trod_int Try.underlying3 k0
    obtain ⟨b, e1, rfl, w1⟩ := DataW.trod_int Try.underlying3 k1
    simp at e0 e1
    subst e0 e1
    exact ⟨t, b, rfl⟩
theorem addr_at14 {a : Addr} {u : Value} (h : w.cell? (a.add 0) = some u) : ∃ k o, a = ⟨k, o, none⟩ := by
  obtain ⟨k, o, s⟩ := a
  have hs : s = none := by simpa [Addr.add] using World.cell?_spot h
  exact ⟨k, o, by rw [hs]⟩
theorem openGrS {base : Nat} {v : Value} {d : DataW H} {p : List MemPlace} (hv : Value.okWide Try.prog w .any base 22 v) (h : DataW.Trod enc Try.prog w 0 spr held 22 v d p) :
    ∃ (ao : Option Addr) (n cap : Nat) (l : List G2), v = .slice ao n cap ∧ l.length = n ∧ (n : Int) ≤ 9223372036854775807 ∧ Rr w ao l := by
  obtain ⟨ao, n, cap, rfl⟩ := okWide_slice Try.underlying22 hv
  obtain ⟨fuel, hf⟩ := h
  rcases Go.Deep.open_slice Try.underlying22 hf with ⟨hcs, _⟩ | ⟨a, len, cap', m, nf, D, Pl, hcs, _, hl, hm, hmm, _, hx⟩
  · simp [Value.cells] at hcs
    obtain ⟨rfl, rfl, rfl⟩ := hcs
    exact ⟨none, 0, 0, [], rfl, rfl, by decide, Rr.empty14 _ _⟩
  · simp [Value.cells] at hcs
    obtain ⟨rfl, rfl, rfl⟩ := hcs
    have hlm : n ≤ m := by rw [hmm]; split <;> omega
    have hx' : ∀ i, i < n → ∃ r : G2, w.cell? (a.add (i * 2)) = some (.int .i64 r.1) ∧ w.cell? (a.add (i * 2 + 1)) = some (.int .i64 r.2) := by
      intro i hi
      obtain ⟨cs, h1, h2⟩ := hx i (by omega)
      rw [cellsGr] at h1
      obtain ⟨_, hlen, hcell⟩ := World.cells?_some h1
      obtain ⟨x, t, rfl⟩ := trodGr hlen h2
      have e0 := hcell 0 (by omega)
      have e1 := hcell 1 (by omega)
      simp only [Go.Deep.add_add, Nat.add_zero] at e0 e1
      exact ⟨(x, t), by simpa using e0, by simpa using e1⟩
    obtain ⟨r, hr⟩ := Go.Deep.choose_lt hx'
    refine ⟨some a, n, cap, (List.range n).map r, rfl, by simp, by unfold maxLen at hm; omega, ?_⟩
    intro hn
    simp at hn
    obtain ⟨k, o, rfl⟩ := addr_at14 (u := .int .i64 (r 0).1) (by simpa using (hr 0 hn).1)
    refine ⟨k, o, rfl, World.block_lt_of_cell? w (Addr.add ⟨k, o, none⟩ (0 * 2)) (hr 0 hn).1, fun i hi => ?_⟩
    have hi' : i < n := by simpa using hi
    have e := hr i hi'
    simp only [addr_add] at e
    simp only [List.getElem_map, List.getElem_range, Nat.add_assoc]
    exact e
end
end Go.Proofs.Ytkbiebacbebdnaa
namespace Go.Proofs.Ytkbiebacbebdnaa
open Go.RowKit
theorem lawPicked_r (ao : Option Addr) (n cap : Nat) (l : List G2) (aN : Int) (w : World) (hl : l.length = n) (hn : (n : Int) ≤ 9223372036854775807) (hr : Rr w ao l) (hN : aN ≤ 9223372036854775807) :
    Calls Try.prog 4 #[.slice ao n cap, .int .i64 aN] w fun e w' => e = .returned (.bool true) ∧ Below w.heap.size w w' := lawPicked_any ao n cap l aN w hl hn hN hr
end Go.Proofs.Ytkbiebacbebdnaa
