/- Zf. -/
import Derived.Test.YtkbiebacbebdnaaDoorQ3
namespace Go.Proofs.YtkbiebacbebdnaaDoor
open Go.RowKit
set_option maxHeartbeats 1600000 in
set_option maxRecDepth 100000 in
theorem markRangeS_any (B g n cap k : Nat) (l : List G2) (w : World) (hn : n ≤ 1048576) (hk : k ≤ 4194304) (ho : OwG w B (.slice (some ⟨g, 0, none⟩) n cap) l) :
    Calls Tryd.prog 22 #[.slice (some ⟨g, 0, none⟩) n cap, .int .i64 (k : Int)] w fun e w' => e = .returned (.int .i64 ((k + n * 2 : Nat) : Int)) ∧ OwG w' B (.slice (some ⟨g, 0, none⟩) n cap) (mgr k n) ∧ w.grownBy w' (some g) := by
  have HO := hid ho
  have HL := hid ho.len
  clear ho
  go_enter Tryd.func22, Tryd.ntmps22
  go_wp2
  go_loopw [1, 5] (fun kv iv wr => ∃ i : Nat, i ≤ n ∧ kv = .int .i64 ((k + i * 2 : Nat) : Int) ∧ iv = .int .i64 (i : Int) ∧ OwG wr B (.slice (some ⟨g, 0, none⟩) n cap) (mdr k l i) ∧ w.grownBy wr (some g)) (fun _ iv _ => n - (intOf iv).toNat)
  case atStart => exact ⟨0, Nat.zero_le _, by simp, rfl, by simpa [mdr, mgr] using HO.out, wre _ _⟩
  case round =>
    obtain ⟨i, hi, rfl, rfl, hown, hg⟩ := hrel
    have HOW := hid hown
    have HG := hid hg
    clear hown hg
    by_cases hlt : i < n
    · have hil : i < l.length := by rw [HL.out]; exact hlt
      have hil' : i < (mdr k l i).length := by rw [mdr_len _ _ _ (by omega)]; exact hil
      obtain ⟨⟨c1, c2⟩, f1, f2⟩ := HOW.out.spot i hil'
      obtain ⟨q, hq⟩ : ∃ q : Nat, k + i * 2 = q := ⟨_, rfl⟩
      have HQ := hid hq
      have hqb : q ≤ 8000000 := by omega
      rw [hq]
      have h1 := HOW.out.put1 i hil' (q : Int)
      have hil2 : i < ((mdr k l i).set i ((q : Int), (mdr k l i)[i].2)).length := by rw [List.length_set]; exact hil'
      have HW3 : Hid (OwG ((wr.setCell ⟨g, i * 2, none⟩ (.int .i64 (q : Int))).setCell ⟨g, i * 2 + 1, none⟩ (.int .i64 ((q : Int) + 1))) B (.slice (some ⟨g, 0, none⟩) n cap) (mdr k l (i + 1))) := by
        have h2 := h1.put2 i hil2 ((q : Int) + 1)
        rw [List.getElem_set_self, List.set_set] at h2
        rw [← mdr_set k l i hil, hq, show ((q + 1 : Nat) : Int) = (q : Int) + 1 by omega]
        exact h2
      obtain ⟨p0, hp0⟩ : ∃ p, (mdr k l i)[i] = p := ⟨_, rfl⟩
      rw [hp0] at c1 c2
      obtain ⟨x0, y0⟩ := p0
      clear h1 hq hp0
      go_wp2
      go_roundw
      case rel => exact ⟨i + 1, by omega, by rw [show ((k + (i + 1) * 2 : Nat) : Int) = (q : Int) + 1 + 1 by have := HQ.out; omega], by go_num, HW3.out, wst (wst HG.out _ _) _ _⟩
      case measure => simp [intOf]; omega
    · have HE : Hid (i = n) := by show _ = _; omega
      go_wp2
      go_ret
      refine ⟨by rw [HE.out]; rfl, ?_, HG.out⟩
      have h1 := HOW.out
      rw [HE.out, mdr, List.drop_of_length_le (by rw [HL.out]; exact Nat.le_refl _), List.append_nil] at h1
      exact h1
set_option maxHeartbeats 1600000 in
set_option maxRecDepth 100000 in
theorem heldRangeS_any (B g n cap k : Nat) (w : World) (hn : n ≤ 1048576) (hk : k ≤ 4194304) (ho : OwG w B (.slice (some ⟨g, 0, none⟩) n cap) (mgr k n)) :
    Calls Tryd.prog 23 #[.slice (some ⟨g, 0, none⟩) n cap, .int .i64 (k : Int)] w fun e w' => e = .returned (.int .i64 ((k + n * 2 : Nat) : Int)) ∧ w' = w := by
  have HO := hid ho
  clear ho
  go_enter Tryd.func23, Tryd.ntmps23
  go_wp2
  go_loop [1, 5] (fun kv iv => ∃ i : Nat, i ≤ n ∧ kv = .int .i64 ((k + i * 2 : Nat) : Int) ∧ iv = .int .i64 (i : Int)) (fun _ iv => n - (intOf iv).toNat)
  case atStart => exact ⟨0, Nat.zero_le _, by simp, rfl⟩
  case round =>
    obtain ⟨i, hi, rfl, rfl⟩ := hrel
    by_cases hlt : i < n
    · have hil : i < (mgr k n).length := by rw [mgr_len]; exact hlt
      obtain ⟨q, hq⟩ : ∃ q : Nat, k + i * 2 = q := ⟨_, rfl⟩
      have HQ := hid hq
      have hqb : q ≤ 8000000 := by omega
      have c := (HO.out.spot i hil).1
      rw [mgr_at, hq, show ((q + 1 : Nat) : Int) = (q : Int) + 1 by omega] at c
      rw [hq]
      have e1 : ((q : Int) != (q : Int)) = false := by simp
      have e2 : ((q : Int) + 1 != (q : Int) + 1) = false := by simp
      clear hq
      go_wp2
      go_round
      case rel => exact ⟨i + 1, by omega, by rw [show ((k + (i + 1) * 2 : Nat) : Int) = (q : Int) + 1 + 1 by have := HQ.out; omega], by go_num⟩
      case measure => simp [intOf]; omega
    · have HE : Hid (i = n) := by show _ = _; omega
      go_wp2
      go_ret
      exact ⟨by rw [HE.out]; rfl, rfl⟩
theorem markRangeS_zero (a : Option Addr) (cap k : Nat) (w : World) : Calls Tryd.prog 22 #[.slice a 0 cap, .int .i64 (k : Int)] w fun e w' => e = .returned (.int .i64 (k : Int)) ∧ w' = w := by
  go_enter Tryd.func22, Tryd.ntmps22
  go_wp2
  go_loopw [1, 5] (fun kv iv wr => kv = .int .i64 (k : Int) ∧ iv = .int .i64 0 ∧ wr = w) (fun _ _ _ => 0)
  case atStart => exact ⟨rfl, rfl, rfl⟩
  case round =>
    obtain ⟨rfl, rfl, hw⟩ := hrel
    subst hw
    go_wp2
    go_ret
    exact ⟨rfl, rfl⟩
theorem heldRangeS_zero (a : Option Addr) (cap k : Nat) (w : World) : Calls Tryd.prog 23 #[.slice a 0 cap, .int .i64 (k : Int)] w fun e w' => e = .returned (.int .i64 (k : Int)) ∧ w' = w := by
  go_enter Tryd.func23, Tryd.ntmps23
  go_wp2
  go_loopw [1, 5] (fun kv iv wr => kv = .int .i64 (k : Int) ∧ iv = .int .i64 0 ∧ wr = w) (fun _ _ _ => 0)
  case atStart => exact ⟨rfl, rfl, rfl⟩
  case round =>
    obtain ⟨rfl, rfl, hw⟩ := hrel
    subst hw
    go_wp2
    go_ret
    exact ⟨rfl, rfl⟩
theorem markRangeS_gen (B n cap k : Nat) (a : Option Addr) (l : List G2) (w : World) (hn : n ≤ 1048576) (hk : k ≤ 4194304) (ho : OwG w B (.slice a n cap) l) :
    Calls Tryd.prog 22 #[.slice a n cap, .int .i64 (k : Int)] w fun e w' => e = .returned (.int .i64 ((k + n * 2 : Nat) : Int)) ∧ OwG w' B (.slice a n cap) (mgr k n) ∧ w.grownBy w' (Value.ownBlock (.slice a n cap)) := by
  by_cases h0 : 0 < n
  · obtain ⟨g, rfl⟩ := ho.some h0
    exact markRangeS_any B g n cap k l w hn hk ho
  · obtain rfl : n = 0 := by omega
    refine (markRangeS_zero a cap k w).mono ?_
    rintro e w' ⟨rfl, rfl⟩
    have hl : l = [] := List.eq_nil_of_length_eq_zero ho.len
    subst hl
    exact ⟨by simp, ho, wre _ _⟩
theorem heldRangeS_gen (B n cap k : Nat) (a : Option Addr) (w : World) (hn : n ≤ 1048576) (hk : k ≤ 4194304) (ho : OwG w B (.slice a n cap) (mgr k n)) :
    Calls Tryd.prog 23 #[.slice a n cap, .int .i64 (k : Int)] w fun e w' => e = .returned (.int .i64 ((k + n * 2 : Nat) : Int)) ∧ w' = w := by
  by_cases h0 : 0 < n
  · obtain ⟨g, rfl⟩ := ho.some h0
    exact heldRangeS_any B g n cap k w hn hk ho
  · obtain rfl : n = 0 := by omega
    refine (heldRangeS_zero a cap k w).mono ?_
    rintro e w' ⟨rfl, rfl⟩
    exact ⟨by simp, rfl⟩
theorem rss_len {s : ByteArray} : ∀ (f a : Nat) (l m : List G2), rss s f a l = some m → m.length ≤ 8
  | 0, _, _, _, h => by rw [rss] at h; cases h
  | f + 1, a, l, m, h => by
    rw [rss] at h
    split at h
    · cases h
    · split at h
      · cases h
      · split at h
        · simp only [Option.some.injEq] at h
          rw [← h]
          omega
        · split at h
          · exact rss_len f _ _ _ h
          · cases h
/-- What comes of reading a set, in letters. -/
theorem pairSt (s : ByteArray) (hs : s.size ≤ 1048576) : ∃ (l : List G2) (p : Bool) (N : Nat), l.length = N ∧ N ≤ 8 ∧
    Hid (∀ w, Calls Tryd.prog 13 #[.string s] w fun e w' => ∃ a cp, e = .returned (.tuple #[.slice a N cp, .bool p]) ∧ OwG w' w.heap.size (.slice a N cp) l ∧ Below w.heap.size w w') ∧
    Hid (∀ w, Calls Tryd.prog 8 #[.string s] w fun e w' => ∃ a cp, e = .returned (.tuple #[.slice a N cp, .bool p]) ∧ OwG w' w.heap.size (.slice a N cp) l ∧ Below w.heap.size w w') := by
  have key : ∀ w e w', Rs14 s w e w' → ∃ a cp, e = .returned (.tuple #[.slice a ((rset s).getD []).length cp, .bool (rset s).isSome]) ∧ OwG w' w.heap.size (.slice a ((rset s).getD []).length cp) ((rset s).getD []) ∧ Below w.heap.size w w' := by
    rintro w e w' ⟨v, h1, rfl, h3⟩
    obtain ⟨a, cp, rfl⟩ := h1.shape
    exact ⟨a, cp, rfl, h1, h3⟩
  refine ⟨(rset s).getD [], (rset s).isSome, _, rfl, ?_, fun w => (specReadSet_any s w hs).mono (key w), fun w => (implReadSet_any s w hs).mono (key w)⟩
  cases h : rset s with
  | none => simp
  | some m => exact rss_len _ _ _ _ h
set_option maxHeartbeats 3200000 in
set_option maxRecDepth 100000 in
theorem lawReadSet_any (s : ByteArray) (w : World) (htx : (s.size : Int) ≤ 9223372036854775807) :
    Calls Tryd.prog 4 #[.string s] w fun e w' => e = .returned (.bool true) ∧ Below w.heap.size w w' := by
  by_cases hbt : (1048576 : Int) < (s.size : Int)
  · go_enter Tryd.func4, Tryd.ntmps4
    go_wp2
    go_ret
    exact ⟨rfl, bre _⟩
  obtain ⟨l, p, N, hl, hN, CSP, CIM⟩ := pairSt s (by omega)
  have HL := hid hl
  clear hl
  have x1 : (p != p) = false := by simp
  go_enter Tryd.func4, Tryd.ntmps4
  go_wp2_with fail
  refine (CSP.out _).mono ?_; rintro e w1 ⟨av, cv, rfl, ho, hb⟩
  have V1 := hid ho
  have B1 := hid hb
  have Q1 := hid (World.ownsRow.lt ho)
  clear ho hb
  go_wp2_with fail
  refine (CIM.out _).mono ?_; rintro e w2 ⟨ag, cg, rfl, ho, hb⟩
  have V2 := hid (own_later V1.out hb)
  have G2 := hid ho
  have B2 := hid (btr B1.out hb)
  have Q2 := hid (World.ownsRow.lt ho)
  have S12 := hid hb.size
  clear ho hb V1
  go_wp2_with fail
  refine (eqRangeS_any _ _ ag av N cg cv l _ (by omega) G2.out V2.out).mono ?_; rintro e w3 ⟨rfl, hb⟩
  have V3 := hid (own_later V2.out hb)
  have G3 := hid (own_later G2.out hb)
  have B3 := hid (btr B2.out hb)
  clear hb V2 G2
  go_wp2_with fail
  refine (markRangeS_gen _ N cg 1 ag l _ (by omega) (by omega) G3.out).mono ?_; rintro e w4 ⟨rfl, hmk, hg⟩
  have V4 : Hid (OwG w4 w.heap.size (.slice av N cv) l) := World.ownsRow.kept V3.out hg (by
    cases hv : Value.ownBlock (.slice av N cv) with
    | none => exact Or.inl rfl
    | some j => exact Or.inr (fun e => by
        have h1 := (Q1.out j hv).2
        have h2 := (Q2.out j e.symm).1
        omega))
  have M4 := hid hmk
  have B4 : Hid (Below w.heap.size w w4) := B3.out.trans (below_grownR hg (fun j hj => by have h1 := (Q2.out j hj).1; have h2 := B1.out.size; omega) B3.out.size)
  obtain ⟨m, hm⟩ : ∃ m : Nat, 1 + N * 2 = m := ⟨_, rfl⟩
  rw [hm]
  have HM := hid hm
  have hm1 : ¬ ((m : Nat) : Int) < 0 := by omega
  have hm2 : (((m : Nat) : Int) != ((m : Nat) : Int)) = false := by simp
  clear hmk hg hm V3 G3 B3
  go_wp2_with fail
  refine (heldRangeS_gen _ N cg 1 ag _ (by omega) (by omega) M4.out).mono ?_; rintro e w5 ⟨rfl, h5⟩
  have hb : Below w4.heap.size w4 w5 := by rw [h5]; exact bre _
  clear h5
  rw [HM.out]
  have V5 := hid (own_later V4.out hb)
  have M5 := hid (own_later M4.out hb)
  have B5 := hid (btr B4.out hb)
  clear hb V4 M4
  go_wp2_with fail
  refine (CIM.out _).mono ?_; rintro e w6 ⟨ah, ch, rfl, ho, hb⟩
  have V6 := hid (own_later V5.out hb)
  have M6 := hid (own_later M5.out hb)
  have H6 := hid ho
  have B6 := hid (btr B5.out hb)
  clear ho hb V5 M5
  go_wp2_with fail
  refine (eqRangeS_any _ _ ah av N ch cv l _ (by omega) H6.out V6.out).mono ?_; rintro e w7 ⟨rfl, hb⟩
  have M7 := hid (own_later M6.out hb)
  have B7 := hid (btr B6.out hb)
  clear hb V6 M6 H6
  go_wp2_with fail
  refine (heldRangeS_gen _ N cg 1 ag _ (by omega) (by omega) M7.out).mono ?_; rintro e w8 ⟨rfl, h8⟩
  have hb : Below w7.heap.size w7 w8 := by rw [h8]; exact bre _
  clear h8
  rw [HM.out]
  go_wp2
  go_ret
  exact ⟨rfl, btr B7.out hb⟩
end Go.Proofs.YtkbiebacbebdnaaDoor
