/- Mg, Sapp, Sto, Sto2. -/
import Derived.Test.YtocfggfccbnbhaaGreatDoorW1
namespace Go.Proofs.YtocfggfccbnbhaaGreatDoor
open Go.RowKit
/-! Numbers. -/
end Go.Proofs.YtocfggfccbnbhaaGreatDoor
namespace Go.Proofs.YtocfggfccbnbhaaGreatDoor
open Go.RowKit
theorem zc_rep (n : Nat) : ∀ j, (zc (List.replicate n z0))[j]? = if j < n * 4 then some (match j % 4 with | 0 => .int .i64 0 | 1 => .int .i64 0 | 2 => .slice none 0 0 | _ => .string ⟨#[]⟩) else none := by
  induction n with
  | zero => intro j; simp [zc]
  | succ n ih =>
    intro j
    rw [List.replicate_succ]
    match j with
    | 0 => simp [zc, z0]
    | 1 => simp [zc, z0]; omega
    | 2 => simp [zc, z0]; omega
    | 3 => simp [zc, z0]; omega
    | j + 4 =>
      have e := ih j
      have h1 : (zc (z0 :: List.replicate n z0))[j + 4]? = (zc (List.replicate n z0))[j]? := by simp [zc]
      have h2 : (j + 4 < (n + 1) * 4) ↔ (j < n * 4) := by omega
      rw [h1, e, show (j + 4) % 4 = j % 4 by omega]
      simp only [h2]
theorem made4 (n : Nat) : (madeCells #[.int .i64 0, .int .i64 0, .slice none 0 0, .string ⟨#[]⟩] (n * 4)).toList = zc (List.replicate n z0) := by
  apply List.ext_getElem?
  intro j
  rw [zc_rep]
  by_cases hj : j < n * 4
  · have h4 : j % 4 = 0 ∨ j % 4 = 1 ∨ j % 4 = 2 ∨ j % 4 = 3 := by omega
    rcases h4 with h | h | h | h <;> simp [madeCells, hj, h]
  · simp [madeCells, hj]
/-- A new row of n mails. -/
theorem make_ml (n : Nat) (hn : n ≤ 1048576) : ∃ M : Array Value, Hid (∀ W : World, OwZ (W.alloc (.cells M 86)) W.heap.size (.slice (some ⟨W.heap.size, 0, none⟩) n n) (List.replicate n z0)) ∧
    ∀ W : World, (Instr.makeSlice 36 (.int .i64 (n : Int)) (.int .i64 (n : Int))).run Tryz.prog W = .ok (.slice (some ⟨W.heap.size, 0, none⟩) n n) (W.alloc (.cells M 86)) := by
  obtain ⟨i0, hi, hz0, hz1, hz2⟩ := info_parts3 info_ml
  refine ⟨madeCells #[.int .i64 0, .int .i64 0, .slice none 0 0, .string ⟨#[]⟩] (n * 4), fun W => ?_, fun W => ?_⟩
  · have h := World.ownsRow_lit (base := W.heap.size) (e := 86) (size := 4) W (madeCells #[.int .i64 0, .int .i64 0, .slice none 0 0, .string ⟨#[]⟩] (n * 4)) n (Nat.le_refl _) (by unfold maxLen; omega) (size_madeCells _ _)
    rw [made4] at h
    refine ⟨by simpa using h, fun z hz => ?_, fun z hz => ?_, ?_⟩
    · obtain rfl := List.eq_of_mem_replicate hz
      exact World.ownsRow_nil _ _ _ _
    · obtain rfl := List.eq_of_mem_replicate hz
      exact (Dj.nil _).symm
    · exact List.pairwise_of_forall_mem_list fun x hx y hy => by
        obtain rfl := List.eq_of_mem_replicate hx
        exact Dj.nil _
  · have h := run_make (P := Tryz.prog) W 36 86 i0 (.agg #[.int .i64 0, .int .i64 0, .slice none 0 0, .string ⟨#[]⟩]) Tryz.underlying36 hi hz0 .i64 .i64 (n : Int) (n : Int) (by omega) (by omega) (by rw [hz2]; omega) (by omega)
    rw [hz1, Int.toNat_natCast] at h
    exact h
set_option maxHeartbeats 800000 in
set_option maxRecDepth 100000 in
theorem toMailS_any (lo hi : Nat) (ao : Option Addr) (n cap : Nat) (L : List M4) (w : World) (hl : L.length = n) (hn : n ≤ 1048576) (hsm : Sm L) (hr : Ms lo hi w ao L) :
    Calls Tryz.prog 157 #[.slice ao n cap] w fun e w' => e = .returned (.slice (some ⟨w.heap.size, 0, none⟩) n n) ∧ (∃ Z, Z.map md = L ∧ OwZ w' w.heap.size (.slice (some ⟨w.heap.size, 0, none⟩) n n) Z) ∧ Below w.heap.size w w' := by
  obtain ⟨M, hM, hmk⟩ := make_ml n hn
  have HR := hid hr
  have HL := hid hl
  have HS := hid hsm
  clear hr hl hsm
  go_enter Tryz.func157, Tryz.ntmps157
  go_wp2
  clear hmk
  go_loopw [4] (fun iv wr => ∃ i : Nat, i ≤ n ∧ iv = .int .i64 (i : Int) ∧ (∃ Z : List Z5, Z.length = n ∧ (Z.take i).map md = L.take i ∧ OwZ wr w.heap.size (.slice (some ⟨w.heap.size, 0, none⟩) n n) Z) ∧ Below w.heap.size w wr) (fun iv _ => n - (intOf iv).toNat)
  case atStart => exact ⟨0, Nat.zero_le _, rfl, ⟨_, List.length_replicate, by simp, hM.out w⟩, bpush (bre _) _⟩
  case round =>
    obtain ⟨i, hi, rfl, ⟨Z, hZn, hZt, hown⟩, hb⟩ := hrel
    have HO := hid hown
    have HZN := hid hZn
    have HZT := hid hZt
    have hsz := hb.size
    clear hown hZn hZt
    by_cases hlt : i < n
    · have hil : i < L.length := by rw [HL.out]; exact hlt
      obtain ⟨k, o, fa, fc, rfl, hk, ⟨c0, c1, c2, c3⟩, hrs, _⟩ := (HR.out.later hb).at hil
      have hmem := HS.out L[i] (List.getElem_mem hil)
      obtain ⟨p, hp⟩ : ∃ p, L[i] = p := ⟨_, rfl⟩
      rw [hp] at c0 c1 c2 c3 hrs hmem
      obtain ⟨g, u, l, t⟩ := p
      have HP := hid hp
      have HRS := hid hrs
      have HMM := hid hmem
      obtain ⟨m, hm⟩ : ∃ m, l.length = m := ⟨_, rfl⟩
      dsimp only at c0 c1 c2 c3
      rw [hm] at c2
      have HM := hid hm
      clear hp hrs hmem hm
      go_wp2_with fail
      refine (toMail_any g u fa m fc l t _ HM.out (by rw [← HM.out]; exact HMM.out.1) HRS.out).mono ?_; rintro e w1 ⟨k', rfl, how, hk', hb1⟩
      have H1 := hid (HO.out.later hb1)
      have hiz : i < Z.length := by rw [HZN.out]; exact hlt
      obtain ⟨hc, hf⟩ := OwZ.spot H1.out i hiz
      have hZi : ∃ a0 a1 a2 a3 a4, Z[i] = (a0, a1, a2, a3, a4) := ⟨_, _, _, _, _, rfl⟩
      obtain ⟨a0, a1, a2, a3, a4, hZi⟩ := hZi
      rw [hZi] at hc
      have hB : w.heap.size ≤ k' := Nat.le_trans hb.size hk'
      have hgk : w.heap.size < wr.heap.size := ((HO.out.row.lt w.heap.size rfl).2)
      have HST := hid (OwZ.stored H1.out i hiz (g, u, .slice (some ⟨k', 0, none⟩) m m, l, t) (own_base how hB)
        (by simp [Value.ownBlock]; omega) (fun y hy j hj hy' => by
          simp [Value.ownBlock] at hj
          have := ((HO.out.each y hy).lt j hy').2
          omega))
      have HB1 : Hid (Below w.heap.size w w1) := btr hb hb1
      clear c0 c1 c2 c3 hb1 hb how hB hgk hk' hZi
      go_wp2
      go_roundw
      case rel =>
        refine ⟨i + 1, by omega, by go_num, ⟨_, ?_, ?_, HST.out⟩, bset (bset (bset (bset HB1.out (Nat.le_refl _) _) (Nat.le_refl _) _) (Nat.le_refl _) _) (Nat.le_refl _) _⟩
        · rw [List.length_set]; exact HZN.out
        · rw [List.take_succ_eq_append_getElem (by rw [List.length_set]; exact hiz), List.take_succ_eq_append_getElem hil, List.map_append, List.take_set_of_le (Nat.le_refl _), HZT.out, List.getElem_set_self, HP.out]; rfl
      case measure => simp [intOf]; omega
    · have HE : Hid (Z.map md = L) := by
        show _ = _
        have := HZT.out
        rwa [List.take_of_length_le (by rw [HZN.out]; omega), List.take_of_length_le (by rw [HL.out]; omega)] at this
      go_wp2
      go_ret
      exact ⟨rfl, ⟨Z, HE.out, HO.out⟩, hb⟩
/-! Sizes. -/
def tot : List M4 → Nat
  | [] => 0
  | m :: L => m.2.2.1.length + m.2.2.2.size + tot L
def szL (L : List M4) : Nat := L.length + tot L
theorem tot_app (L K : List M4) : tot (L ++ K) = tot L + tot K := by
  induction L with
  | nil => simp [tot]
  | cons m L ih => simp only [List.cons_append, tot, ih]; omega
theorem tot_take (L : List M4) (i : Nat) (h : i < L.length) : tot (L.take (i + 1)) = tot (L.take i) + (L[i].2.2.1.length + L[i].2.2.2.size) := by
  rw [List.take_succ_eq_append_getElem h, tot_app]; simp [tot]
theorem tot_le (L : List M4) (i : Nat) : tot (L.take i) ≤ tot L := by
  have := tot_app (L.take i) (L.drop i)
  rw [List.take_append_drop] at this
  omega
theorem tot_mem {L : List M4} {m : M4} (h : m ∈ L) : m.2.2.1.length + m.2.2.2.size ≤ tot L := by
  induction L with
  | nil => cases h
  | cons x L ih =>
    rcases List.mem_cons.1 h with rfl | h
    · simp only [tot]; omega
    · have := ih h; simp only [tot]; omega
theorem sm_of {L : List M4} (h : tot L ≤ 1048576) : Sm L := fun m hm => by have := tot_mem hm; omega
def szr (lf : Int) (n : Nat) : Int := if lf < (n : Int) then -1 else lf - n
/-- No list or text is longer than any may be. -/
def Fit (L : List M4) : Prop := ∀ m ∈ L, (m.2.2.1.length : Int) ≤ 9223372036854775807 ∧ (m.2.2.2.size : Int) ≤ 9223372036854775807
set_option maxHeartbeats 800000 in
set_option maxRecDepth 100000 in
theorem szMailS_any (lo hi : Nat) (ao : Option Addr) (n cap : Nat) (L : List M4) (lf : Int) (w : World) (hl : L.length = n) (hn : (n : Int) ≤ 9223372036854775807) (hlf : 0 ≤ lf ∧ lf ≤ 1048576) (hft : Fit L) (hr : Ms lo hi w ao L) :
    Calls Tryz.prog 155 #[.slice ao n cap, .int .i64 lf] w fun e w' => e = .returned (.int .i64 (szr lf (szL L))) ∧ Below w.heap.size w w' := by
  by_cases h1 : lf < (n : Int)
  · have HE : Hid (szr lf (szL L) = -1) := by show _ = _; rw [szr, if_pos (by unfold szL; omega)]
    have h2 : lf - (n : Int) < 0 := by omega
    clear hft hr hl
    go_enter Tryz.func155, Tryz.ntmps155
    go_wp2
    go_ret
    exact ⟨by rw [HE.out]; rfl, bre _⟩
  · have h2 : ¬ lf - (n : Int) < 0 := by omega
    have HR := hid hr
    have HL := hid hl
    have HF := hid hft
    clear hr hl hft
    go_enter Tryz.func155, Tryz.ntmps155
    go_wp2
    go_loopw [1, 5] (fun lv iv wr => ∃ (i : Nat) (q : Int), i ≤ n ∧ lv = .int .i64 q ∧ iv = .int .i64 (i : Int) ∧ 0 ≤ q ∧ q ≤ 1048576 ∧ Hid (q = lf - n - (tot (L.take i) : Int)) ∧ Below w.heap.size w wr) (fun _ iv _ => n - (intOf iv).toNat)
    case atStart => exact ⟨0, lf - n, Nat.zero_le _, rfl, rfl, by omega, by omega, by show _ = _; simp [tot], bre _⟩
    case round =>
      obtain ⟨i, q, hi, rfl, rfl, hq0, hq1, HQ, hb⟩ := hrel
      have HB := hid hb
      clear h1 h2
      by_cases hlt : i < n
      · have hil : i < L.length := by rw [HL.out]; exact hlt
        obtain ⟨k, o, fa, fc, rfl, hk, ⟨c0, c1, c2, c3⟩, hrs, _⟩ := (HR.out.later hb).at hil
        have hmem := HF.out L[i] (List.getElem_mem hil)
        have hstep := tot_take L i hil
        obtain ⟨p, hp⟩ : ∃ p, L[i] = p := ⟨_, rfl⟩
        rw [hp] at c0 c1 c2 c3 hmem hstep
        obtain ⟨g, u, l, t⟩ := p
        dsimp only at c0 c1 c2 c3 hmem hstep
        obtain ⟨m, hm⟩ : ∃ m, l.length = m := ⟨_, rfl⟩
        rw [hm] at c2 hmem hstep
        have HST := hid hstep
        have HMM := hid hmem
        clear hp hrs hmem hm hstep hb
        by_cases hov : q < (m : Int) + t.size
        · have HE : Hid (szr lf (szL L) = -1) := by
            show _ = _
            have h1 := HQ.out
            have h2 := HST.out
            have h3 := tot_le L (i + 1)
            have h4 := HL.out
            rw [szr, if_pos (by unfold szL; omega)]
          go_wp2_with fail
          refine (szMail_over g u fa m fc t q _ HMM.out.1 HMM.out.2 ⟨hq0, hq1⟩ hov).mono ?_; rintro e w1 ⟨rfl, hb1⟩
          have HB1 := hid (btr HB.out hb1)
          clear hb1 c0 c1 c2 c3
          go_wp2
          go_ret
          exact ⟨by rw [HE.out]; rfl, HB1.out⟩
        · go_wp2_with fail
          refine (szMail_fits g u fa m fc t q _ HMM.out.1 HMM.out.2 ⟨hq0, hq1⟩ (by omega)).mono ?_; rintro e w1 ⟨rfl, hb1⟩
          have HB1 := hid (btr HB.out hb1)
          obtain ⟨q', hq'⟩ : ∃ q' : Int, q - m - t.size = q' := ⟨_, rfl⟩
          rw [hq']
          have h3 : ¬ q' < 0 := by omega
          have h4 : 0 ≤ q' ∧ q' ≤ 1048576 := by omega
          have HQ2 : Hid (q' = lf - n - (tot (L.take (i + 1)) : Int)) := by show _ = _; have h1 := HQ.out; have h2 := HST.out; omega
          clear hb1 c0 c1 c2 c3 hq' hov
          go_wp2
          go_roundw
          case rel => exact ⟨i + 1, q', by omega, rfl, by go_num, h4.1, h4.2, HQ2, HB1.out⟩
          case measure => simp [intOf]; omega
      · have HE : Hid (szr lf (szL L) = q) := by
          show _ = _
          have h1 := HQ.out
          have h4 := HL.out
          rw [List.take_of_length_le (by omega)] at h1
          rw [szr, if_neg (by unfold szL; omega)]
          unfold szL; omega
        go_wp2
        go_ret
        exact ⟨by rw [HE.out]; rfl, HB.out⟩
theorem szIntS_any (ao : Option Addr) (n cap : Nat) (lf : Int) (w : World) (hn : (n : Int) ≤ 9223372036854775807) (hlf : 0 ≤ lf ∧ lf ≤ 1048576) :
    Calls Tryz.prog 74 #[.slice ao n cap, .int .i64 lf] w fun e w' => e = .returned (.int .i64 (szr lf n)) ∧ w' = w := by
  by_cases h1 : lf < (n : Int)
  · have HE : Hid (szr lf n = -1) := by show _ = _; rw [szr, if_pos h1]
    have h2 : lf - (n : Int) < 0 := by omega
    go_enter Tryz.func74, Tryz.ntmps74
    go_wp2
    go_ret
    exact ⟨by rw [HE.out]; rfl, rfl⟩
  · have HE : Hid (szr lf n = lf - n) := by show _ = _; rw [szr, if_neg h1]
    have h2 : ¬ lf - (n : Int) < 0 := by omega
    go_enter Tryz.func74, Tryz.ntmps74
    go_wp2
    go_ret
    exact ⟨by rw [HE.out]; rfl, rfl⟩
theorem int_rep (n : Nat) : (madeCells #[.int .i64 0] (n * 1)).toList = (List.replicate n (0 : Int)).map (Value.int .i64) := by
  apply List.ext_getElem?
  intro j
  by_cases hj : j < n <;> simp [madeCells, hj, Nat.mod_one]
/-- A new row of n numbers. -/
theorem make_int (n : Nat) (hn : n ≤ 1048576) : ∃ M : Array Value, Hid (∀ W : World, OwI (W.alloc (.cells M 3)) W.heap.size (.slice (some ⟨W.heap.size, 0, none⟩) n n) (List.replicate n 0)) ∧
    ∀ W : World, (Instr.makeSlice 25 (.int .i64 (n : Int)) (.int .i64 (n : Int))).run Tryz.prog W = .ok (.slice (some ⟨W.heap.size, 0, none⟩) n n) (W.alloc (.cells M 3)) := by
  have hinfo : (Tryz.prog.info? 3).map (fun i => (i.zero, i.size, i.bytes)) = some (some (.int .i64 0), 1, 8) := by kernel_rfl
  obtain ⟨i0, hi, hz0, hz1, hz2⟩ := info_parts3 hinfo
  refine ⟨madeCells #[.int .i64 0] (n * 1), fun W => ?_, fun W => ?_⟩
  · have h := World.ownsRow_lit (base := W.heap.size) (e := 3) (size := 1) W (madeCells #[.int .i64 0] (n * 1)) n (Nat.le_refl _) (by unfold maxLen; omega) (size_madeCells _ _)
    rw [int_rep] at h
    simpa [OwI] using h
  · have h := run_make (P := Tryz.prog) W 25 3 i0 (.int .i64 0) Tryz.underlying25 hi hz0 .i64 .i64 (n : Int) (n : Int) (by omega) (by omega) (by rw [hz2]; omega) (by omega)
    rw [hz1, Int.toNat_natCast] at h
    exact h
set_option maxHeartbeats 800000 in
set_option maxRecDepth 100000 in
theorem toIntS_any (lo hi : Nat) (ao : Option Addr) (n cap : Nat) (G : List Int) (w : World) (hl : G.length = n) (hn : n ≤ 1048576) (hr : Is lo hi w ao G) :
    Calls Tryz.prog 77 #[.slice ao n cap] w fun e w' => e = .returned (.slice (some ⟨w.heap.size, 0, none⟩) n n) ∧ OwI w' w.heap.size (.slice (some ⟨w.heap.size, 0, none⟩) n n) G ∧ Below w.heap.size w w' := by
  obtain ⟨M, hM, hmk⟩ := make_int n hn
  have HR := hid hr
  have HL := hid hl
  clear hr hl
  go_enter Tryz.func77, Tryz.ntmps77
  go_wp2
  clear hmk
  go_loopw [4] (fun iv wr => ∃ i : Nat, i ≤ n ∧ iv = .int .i64 (i : Int) ∧ (∃ F : List Int, F.length = n ∧ F.take i = G.take i ∧ OwI wr w.heap.size (.slice (some ⟨w.heap.size, 0, none⟩) n n) F) ∧ Below w.heap.size w wr) (fun iv _ => n - (intOf iv).toNat)
  case atStart => exact ⟨0, Nat.zero_le _, rfl, ⟨_, List.length_replicate, by simp, hM.out w⟩, bpush (bre _) _⟩
  case round =>
    obtain ⟨i, hi, rfl, ⟨F, hFn, hFt, hown⟩, hb⟩ := hrel
    have HO := hid hown
    have HFN := hid hFn
    have HFT := hid hFt
    have hsz := hb.size
    by_cases hlt : i < n
    · have hil : i < G.length := by rw [HL.out]; exact hlt
      obtain ⟨k, o, rfl, hk, c0⟩ := (HR.out.later hb).at hil
      obtain ⟨x, hx⟩ : ∃ x, G[i] = x := ⟨_, rfl⟩
      rw [hx] at c0
      have HX := hid hx
      have hif : i < F.length := by rw [hFn]; exact hlt
      obtain ⟨k', o', e', hk', c1⟩ := (OwI.is hown).2.at hif
      simp only [Option.some.injEq, Addr.mk.injEq, and_true] at e'
      obtain ⟨rfl, rfl⟩ := e'
      simp only [Nat.zero_add] at c1
      subst hFn
      have hfz := World.ownsRow.frozenAt hown i
      have HST := hid (OwI.stored hown i x)
      clear hx hown hFt
      go_wp2
      go_roundw
      case rel =>
        refine ⟨i + 1, by omega, by go_num, ⟨_, by rw [List.length_set], ?_, HST.out⟩, bset hb (Nat.le_refl _) _⟩
        rw [List.take_succ_eq_append_getElem (by rw [List.length_set]; exact hif), List.take_succ_eq_append_getElem hil, List.take_set_of_le (Nat.le_refl _), HFT.out, List.getElem_set_self, HX.out]
      case measure => simp [intOf]; omega
    · have HE : Hid (F = G) := by
        show _ = _
        have := HFT.out
        rwa [List.take_of_length_le (by rw [HFN.out]; omega), List.take_of_length_le (by rw [HL.out]; omega)] at this
      clear hFn hFt hown
      go_wp2
      go_ret
      exact ⟨rfl, HE.out ▸ HO.out, hb⟩
end Go.Proofs.YtocfggfccbnbhaaGreatDoor
namespace Go.Proofs.YtocfggfccbnbhaaGreatDoor
open Go.RowKit
end Go.Proofs.YtocfggfccbnbhaaGreatDoor
namespace Go.Proofs.YtocfggfccbnbhaaGreatDoor
open Go.RowKit
section
variable {W W' : World} {k ty : Nat} {g : Int} {nm : ByteArray} {t b nx : Int} {ms gs : Value}
end
theorem three_boxes (w : World) (ta tb tc : Nat) (g g1 g2 : Int) (nm nm1 nm2 : ByteArray) (t b nx t1 b1 nx1 t2 b2 nx2 : Int) (ms gs ms1 gs1 ms2 gs2 : Value) (W0 : World)
    (h : (((w.alloc (.cells #[.int .i64 g, .string nm, .int .i64 t, .int .i64 b, .int .i64 nx, ms, gs] ta)).alloc (.cells #[.int .i64 g1, .string nm1, .int .i64 t1, .int .i64 b1, .int .i64 nx1, ms1, gs1] tb)).alloc (.cells #[.int .i64 g2, .string nm2, .int .i64 t2, .int .i64 b2, .int .i64 nx2, ms2, gs2] tc)) = W0) :
    Bx W0 w.heap.size ta g nm t b nx ms gs ∧ Bx W0 (w.heap.size + 1) tb g1 nm1 t1 b1 nx1 ms1 gs1 ∧ Bx W0 (w.heap.size + 1 + 1) tc g2 nm2 t2 b2 nx2 ms2 gs2 ∧ Below w.heap.size w W0 ∧ W0.heap.size = w.heap.size + 1 + 1 + 1 := by
  subst h
  refine ⟨(Bx.new w ta g nm t b nx ms gs).later (bpush (bpush (bre _) _) _), Bx.later ?_ (bpush (bre _) _), ?_, bpush (bpush (bpush (bre _) _) _) _, by simp⟩
  · simpa using Bx.new (w.alloc (.cells #[.int .i64 g, .string nm, .int .i64 t, .int .i64 b, .int .i64 nx, ms, gs] ta)) tb g1 nm1 t1 b1 nx1 ms1 gs1
  · simpa using Bx.new ((w.alloc (.cells #[.int .i64 g, .string nm, .int .i64 t, .int .i64 b, .int .i64 nx, ms, gs] ta)).alloc (.cells #[.int .i64 g1, .string nm1, .int .i64 t1, .int .i64 b1, .int .i64 nx1, ms1, gs1] tb)) tc g2 nm2 t2 b2 nx2 ms2 gs2
set_option maxHeartbeats 1600000 in
set_option maxRecDepth 100000 in
theorem toBox_any (lo hi lo' hi' : Nat) (g : Int) (nm : ByteArray) (t b nx : Int) (ma : Option Addr) (mn mc : Nat) (ga : Option Addr) (gn gc : Nat) (L : List M4) (G : List Int) (w : World) (hl : L.length = mn) (hn : mn ≤ 1048576) (hsm : Sm L) (hm : Ms lo hi w ma L) (hg : G.length = gn) (hgn : gn ≤ 1048576) (hs : Is lo' hi' w ga G) :
    Calls Tryz.prog 121 #[.agg #[.int .i64 g, .string nm, .int .i64 t, .int .i64 b, .int .i64 nx, .slice ma mn mc, .slice ga gn gc]] w fun e w' => ∃ km kg, e = .returned (.agg #[.int .i64 g, .string nm, .int .i64 t, .int .i64 b, .int .i64 nx, .slice (some ⟨km, 0, none⟩) mn mn, .slice (some ⟨kg, 0, none⟩) gn gn]) ∧
      OwB w' w.heap.size (.slice (some ⟨km, 0, none⟩) mn mn) (.slice (some ⟨kg, 0, none⟩) gn gn) L G ∧ Below w.heap.size w w' := by
  obtain ⟨W0, hW0⟩ : ∃ W0, (((w.alloc (.cells #[.int .i64 g, .string nm, .int .i64 t, .int .i64 b, .int .i64 nx, .slice ma mn mc, .slice ga gn gc] 150)).alloc (.cells #[.int .i64 0, .string ⟨#[]⟩, .int .i64 0, .int .i64 0, .int .i64 0, .slice none 0 0, .slice none 0 0] 38)).alloc (.cells #[.int .i64 0, .string ⟨#[]⟩, .int .i64 0, .int .i64 0, .int .i64 0, .slice none 0 0, .slice none 0 0] 38)) = W0 := ⟨_, rfl⟩
  obtain ⟨a0, a1, a2, b0, s0⟩ := three_boxes w _ _ _ _ _ _ _ _ _ _ _ _ _ _ _ _ _ _ _ _ _ _ _ _ W0 hW0
  have A0 := hid a0
  have A1 := hid a1
  have A2 := hid a2
  have B0 := hid b0
  have S0 := hid s0
  have HM := hid hm
  have HS := hid hs
  have c0 := a0.cells
  have c2 := a2.cells
  have f2 := a2.loose
  clear a0 a1 a2 b0 s0 hm hs
  go_enter Tryz.func121, Tryz.ntmps121
  go_wp2_with fail
  clear hW0
  obtain ⟨W1, hW1⟩ : ∃ W1, (W0.setCell ⟨w.heap.size + 1 + 1, 0, none⟩ (.int .i64 g)).setCell ⟨w.heap.size + 1 + 1, 1, none⟩ (.string nm) = W1 := ⟨_, rfl⟩
  rw [hW1]
  have G1 : W0.grownBy W1 (some (w.heap.size + 1 + 1)) := by subst hW1; exact wst (wst (wre _ _) _ _) _ _
  have k2 := (A2.out.s0 g).s1 nm
  rw [hW1] at k2
  have k0 := A0.out.grown G1 (fun e => by simp only [Option.some.injEq] at e; omega)
  have k1 := A1.out.grown G1 (fun e => by simp only [Option.some.injEq] at e; omega)
  have b1 : Below w.heap.size w W1 := B0.out.trans (below_of_grown G1 (by omega) (by have := S0.out; omega))
  have s1 : W1.heap.size = w.heap.size + 1 + 1 + 1 := by subst hW1; simpa [World.setCell] using S0.out
  have K0 := hid k0
  have K1 := hid k1
  have K2 := hid k2
  have B1 := hid b1
  have S1 := hid s1
  clear hW1 c0 c2 f2 k0 k1 k2 b1 s1 G1 A0 A1 A2 B0 S0
  refine (toStamp_b t b _).mono ?_; rintro e w1 ⟨rfl, hb1⟩
  have k0 := K0.out.later hb1
  have k1 := K1.out.later hb1
  have k2 := K2.out.later hb1
  have c0 := k0.cells
  have c2 := k2.cells
  have f2 := k2.loose
  have A0 := hid k0
  have A1 := hid k1
  have A2 := hid k2
  have B0 := hid (btr B1.out hb1)
  have S0 := hid (show w.heap.size + 1 + 1 + 1 ≤ w1.heap.size by have h1 := S1.out; have h2 := hb1.size; omega)
  clear k0 k1 k2 hb1 K0 K1 K2 B1 S1
  go_wp2_with fail
  obtain ⟨W2, hW2⟩ : ∃ W2, ((w1.setCell ⟨w.heap.size + 1 + 1, 2, none⟩ (.int .i64 t)).setCell ⟨w.heap.size + 1 + 1, 3, none⟩ (.int .i64 b)).setCell ⟨w.heap.size + 1 + 1, 4, none⟩ (.int .i64 nx) = W2 := ⟨_, rfl⟩
  rw [hW2]
  have G1 : w1.grownBy W2 (some (w.heap.size + 1 + 1)) := by subst hW2; exact wst (wst (wst (wre _ _) _ _) _ _) _ _
  have k2 := ((A2.out.s2 t).s3 b).s4 nx
  rw [hW2] at k2
  have k0 := A0.out.grown G1 (fun e => by simp only [Option.some.injEq] at e; omega)
  have k1 := A1.out.grown G1 (fun e => by simp only [Option.some.injEq] at e; omega)
  have b1 : Below w.heap.size w W2 := B0.out.trans (below_of_grown G1 (by omega) (by have := S0.out; omega))
  have s1 : w.heap.size + 1 + 1 + 1 ≤ W2.heap.size := Nat.le_trans S0.out G1.size
  have K0 := hid k0
  have K1 := hid k1
  have K2 := hid k2
  have B1 := hid b1
  have S1 := hid s1
  clear hW2 c0 c2 f2 k0 k1 k2 b1 s1 G1 A0 A1 A2 B0 S0
  refine (toMailS_any lo hi ma mn mc L W2 hl hn hsm (HM.out.later B1.out)).mono ?_; rintro e w2 ⟨rfl, ⟨Z, hZ, hown⟩, hb2⟩
  have k0 := K0.out.later hb2
  have k1 := K1.out.later hb2
  have k2 := K2.out.later hb2
  have c0 := k0.cells
  have c2 := k2.cells
  have f2 := k2.loose
  have A0 := hid k0
  have A1 := hid k1
  have A2 := hid k2
  have B0 := hid (btr B1.out hb2)
  have HO := hid hown
  have HZ := hid hZ
  have S0 := hid (show w.heap.size + 1 + 1 + 1 ≤ w2.heap.size from Nat.le_trans S1.out hb2.size)
  obtain ⟨km, hkm⟩ : ∃ km, W2.heap.size = km := ⟨_, rfl⟩
  rw [hkm] at HO ⊢
  have HKM : Hid (w.heap.size + 1 + 1 + 1 ≤ km) := by show _ ≤ _; rw [← hkm]; exact S1.out
  clear k0 k1 k2 hb2 K0 K1 K2 B1 S1 hZ hown hkm
  go_wp2_with fail
  obtain ⟨W3, hW3⟩ : ∃ W3, w2.setCell ⟨w.heap.size + 1 + 1, 5, none⟩ (.slice (some ⟨km, 0, none⟩) mn mn) = W3 := ⟨_, rfl⟩
  rw [hW3]
  have G1 : w2.grownBy W3 (some (w.heap.size + 1 + 1)) := by subst hW3; exact wst (wre _ _) _ _
  have k2 := A2.out.s5 (.slice (some ⟨km, 0, none⟩) mn mn)
  rw [hW3] at k2
  have k0 := A0.out.grown G1 (fun e => by simp only [Option.some.injEq] at e; omega)
  have k1 := A1.out.grown G1 (fun e => by simp only [Option.some.injEq] at e; omega)
  have o1 := HO.out.grown G1 (by have := HKM.out; omega)
  have b1 : Below w.heap.size w W3 := B0.out.trans (below_of_grown G1 (by omega) (by have := S0.out; omega))
  have s1 : w.heap.size + 1 + 1 + 1 ≤ W3.heap.size := Nat.le_trans S0.out G1.size
  have K0 := hid k0
  have K1 := hid k1
  have K2 := hid k2
  have B1 := hid b1
  have S1 := hid s1
  have O1 := hid o1
  clear hW3 c0 c2 f2 k0 k1 k2 b1 s1 o1 G1 A0 A1 A2 B0 S0 HO
  refine (toIntS_any lo' hi' ga gn gc G W3 hg hgn (HS.out.later B1.out)).mono ?_; rintro e w3 ⟨rfl, hown, hb3⟩
  have k1 := K1.out.later hb3
  have k2 := K2.out.later hb3
  have c2 := k2.cells
  have f2 := k2.loose
  have c1 := k1.cells
  have f1 := k1.loose
  have A1 := hid k1
  have A2 := hid k2
  have B0 := hid (btr B1.out hb3)
  have HO := hid (O1.out.later hb3)
  have HI := hid hown
  have HD := hid (Dj.later O1.out.row hown (Nat.le_refl _))
  have HE := hid (fun z hz => Dj.later (O1.out.each z hz) hown (Nat.le_refl _))
  obtain ⟨kg, hkg⟩ : ∃ kg, W3.heap.size = kg := ⟨_, rfl⟩
  rw [hkg] at HI HD HE ⊢
  have HKG : Hid (w.heap.size + 1 + 1 + 1 ≤ kg) := by show _ ≤ _; rw [← hkg]; exact S1.out
  clear k1 k2 hb3 K0 K1 K2 B1 S1 hown O1 hkg
  go_wp2
  have k2 := A2.out.s6 (.slice (some ⟨kg, 0, none⟩) gn gn)
  have e1 : w3.grownBy (w3.setCell ⟨w.heap.size + 1 + 1, 6, none⟩ (.slice (some ⟨kg, 0, none⟩) gn gn)) (some (w.heap.size + 1 + 1)) := wst (wre _ _) _ _
  have k1 := A1.out.grown e1 (fun e => by simp only [Option.some.injEq] at e; omega)
  have e2 := set7_grown (w3.setCell ⟨w.heap.size + 1 + 1, 6, none⟩ (.slice (some ⟨kg, 0, none⟩) gn gn)) (w.heap.size + 1) g nm t b nx (.slice (some ⟨km, 0, none⟩) mn mn) (.slice (some ⟨kg, 0, none⟩) gn gn)
  have d1 := (k1.set7 g nm t b nx (.slice (some ⟨km, 0, none⟩) mn mn) (.slice (some ⟨kg, 0, none⟩) gn gn)).cells
  unfold set7 at d1 e2
  refine bodyPost_ret (v := .agg #[.int .i64 g, .string nm, .int .i64 t, .int .i64 b, .int .i64 nx, .slice (some ⟨km, 0, none⟩) mn mn, .slice (some ⟨kg, 0, none⟩) gn gn]) (by simp [results, Tryz.results121, go_sem, d1]) rfl ⟨km, kg, rfl, ⟨Z, HZ.out, ?_, ?_, HD.out, HE.out⟩, ?_⟩
  · have h1 := HKM.out
    exact ((HO.out.grown e1 (by omega)).grown e2 (by omega)).base (by omega)
  · have h1 := HKG.out
    exact own_base (OwI.grown (OwI.grown HI.out e1 (by omega)) e2 (by omega)) (by omega)
  · have h1 := B0.out.size
    have h2 := e1.size
    exact B0.out.trans ((below_of_grown e1 (by omega) (by omega)).trans (below_of_grown e2 (by omega) (by omega)))
end Go.Proofs.YtocfggfccbnbhaaGreatDoor
namespace Go.Proofs.YtocfggfccbnbhaaGreatDoor
open Go.RowKit
theorem szr_over {lf : Int} {n : Nat} (h : lf < (n : Int)) : szr lf n = -1 := by rw [szr, if_pos h]
theorem szr_fits {lf : Int} {n : Nat} (h : ¬ lf < (n : Int)) : szr lf n = lf - n := by rw [szr, if_neg h]
end Go.Proofs.YtocfggfccbnbhaaGreatDoor
namespace Go.Proofs.YtocfggfccbnbhaaGreatDoor
open Go.RowKit
/-! Ascending numbers. -/
/-! Among them. -/
/-! Where a mail is. -/
end Go.Proofs.YtocfggfccbnbhaaGreatDoor
namespace Go.Proofs.YtocfggfccbnbhaaGreatDoor
open Go.RowKit
end Go.Proofs.YtocfggfccbnbhaaGreatDoor

namespace Go.Proofs.YtocfggfccbnbhaaGreatDoor
open Go.RowKit Go.ChangeMaps
theorem three_stores (w : World) (ta tb tc : Nat) (y tm y1 tm1 y2 tm2 : Int) (bv gv bv1 gv1 bv2 gv2 : Value) (W0 : World)
    (h : (((w.alloc (.cells #[.int .i64 y, .int .i64 tm, bv, gv] ta)).alloc (.cells #[.int .i64 y1, .int .i64 tm1, bv1, gv1] tb)).alloc (.cells #[.int .i64 y2, .int .i64 tm2, bv2, gv2] tc)) = W0) :
    Sx W0 w.heap.size ta y tm bv gv ∧ Sx W0 (w.heap.size + 1) tb y1 tm1 bv1 gv1 ∧ Sx W0 (w.heap.size + 1 + 1) tc y2 tm2 bv2 gv2 ∧ Below w.heap.size w W0 ∧ W0.heap.size = w.heap.size + 1 + 1 + 1 := by
  have e1 : (w.alloc (.cells #[.int .i64 y, .int .i64 tm, bv, gv] ta)).heap.size = w.heap.size + 1 := by simp
  have e2 : ((w.alloc (.cells #[.int .i64 y, .int .i64 tm, bv, gv] ta)).alloc (.cells #[.int .i64 y1, .int .i64 tm1, bv1, gv1] tb)).heap.size = w.heap.size + 1 + 1 := by simp
  have h1 := Sx.new (w.alloc (.cells #[.int .i64 y, .int .i64 tm, bv, gv] ta)) tb y1 tm1 bv1 gv1
  have h2 := Sx.new ((w.alloc (.cells #[.int .i64 y, .int .i64 tm, bv, gv] ta)).alloc (.cells #[.int .i64 y1, .int .i64 tm1, bv1, gv1] tb)) tc y2 tm2 bv2 gv2
  rw [e1] at h1
  rw [e2] at h2
  subst h
  exact ⟨(Sx.new w ta y tm bv gv).later (bpush (bpush (bre _) _) _), h1.later (bpush (bre _) _), h2, bpush (bpush (bpush (bre _) _) _) _, by simp⟩
end Go.Proofs.YtocfggfccbnbhaaGreatDoor

namespace Go.Proofs.YtocfggfccbnbhaaGreatDoor
open Go.RowKit Go.ChangeMaps
def y0 (B : Nat) : Y9 := ⟨0, ⟨#[]⟩, 0, 0, 0, .slice none 0 0, .slice none 0 0, [], [], B, B⟩
theorem yc_rep (B n : Nat) : ∀ j, (yc (List.replicate n (y0 B)))[j]? = if j < n * 7 then some (match j % 7 with | 0 => .int .i64 0 | 1 => .string ⟨#[]⟩ | 2 => .int .i64 0 | 3 => .int .i64 0 | 4 => .int .i64 0 | _ => .slice none 0 0) else none := by
  induction n with
  | zero => intro j; simp [yc]
  | succ n ih =>
    intro j
    rw [List.replicate_succ]
    match j with
    | 0 => simp [yc, y0]
    | 1 => simp [yc, y0]; omega
    | 2 => simp [yc, y0]; omega
    | 3 => simp [yc, y0]; omega
    | 4 => simp [yc, y0]; omega
    | 5 => simp [yc, y0]; omega
    | 6 => simp [yc, y0]; omega
    | j + 7 =>
      have e := ih j
      have h1 : (yc (y0 B :: List.replicate n (y0 B)))[j + 7]? = (yc (List.replicate n (y0 B)))[j]? := by simp [yc]
      have h2 : (j + 7 < (n + 1) * 7) ↔ (j < n * 7) := by omega
      rw [h1, e, show (j + 7) % 7 = j % 7 by omega]
      simp only [h2]
theorem made7 (B n : Nat) : (madeCells #[.int .i64 0, .string ⟨#[]⟩, .int .i64 0, .int .i64 0, .int .i64 0, .slice none 0 0, .slice none 0 0] (n * 7)).toList = yc (List.replicate n (y0 B)) := by
  apply List.ext_getElem?
  intro j
  rw [yc_rep]
  by_cases hj : j < n * 7
  · have h7 : j % 7 = 0 ∨ j % 7 = 1 ∨ j % 7 = 2 ∨ j % 7 = 3 ∨ j % 7 = 4 ∨ j % 7 = 5 ∨ j % 7 = 6 := by omega
    rcases h7 with h | h | h | h | h | h | h <;> simp [madeCells, hj, h]
  · simp [madeCells, hj]
theorem owx_nil (W : World) (B : Nat) (h : B ≤ W.heap.size) : OwX W B B (.slice none 0 0) (.slice none 0 0) [] [] :=
  ⟨⟨[], rfl, ⟨World.ownsRow_nil _ _ _ _, fun z hz => by simp at hz, fun z hz => by simp at hz, List.Pairwise.nil⟩, World.ownsRow_nil _ _ _ _, Dj.nil _, fun z hz => by simp at hz, fun j hj => by simp [Value.ownBlock] at hj, fun j hj => by simp [Value.ownBlock] at hj, fun z hz => by simp at hz⟩, h⟩
/-- A new row of n boxes. -/
theorem make_bx (n : Nat) (hn : n ≤ 1048576) : ∃ M : Array Value, Hid (∀ W : World, OwS (W.alloc (.cells M 38)) W.heap.size (.slice (some ⟨W.heap.size, 0, none⟩) n n) (List.replicate n (y0 W.heap.size))) ∧
    ∀ W : World, (Instr.makeSlice 24 (.int .i64 (n : Int)) (.int .i64 (n : Int))).run Tryz.prog W = .ok (.slice (some ⟨W.heap.size, 0, none⟩) n n) (W.alloc (.cells M 38)) := by
  obtain ⟨i0, hi, hz0, hz1, hz2⟩ := info_parts3 info_bx
  refine ⟨madeCells #[.int .i64 0, .string ⟨#[]⟩, .int .i64 0, .int .i64 0, .int .i64 0, .slice none 0 0, .slice none 0 0] (n * 7), fun W => ?_, fun W => ?_⟩
  · have h := World.ownsRow_lit (base := W.heap.size) (e := 38) (size := 7) W (madeCells #[.int .i64 0, .string ⟨#[]⟩, .int .i64 0, .int .i64 0, .int .i64 0, .slice none 0 0, .slice none 0 0] (n * 7)) n (Nat.le_refl _) (by unfold maxLen; omega) (size_madeCells _ _)
    rw [made7 W.heap.size] at h
    refine ⟨by simpa using h, fun y hy => ?_, fun y hy j hj => ?_, ?_⟩
    · obtain rfl := List.eq_of_mem_replicate hy
      exact ⟨owx_nil _ _ (by show W.heap.size ≤ _; simp), Nat.le_refl _⟩
    · obtain rfl := List.eq_of_mem_replicate hy
      have e : (some W.heap.size : Option Nat) = some j := hj
      simp only [Option.some.injEq] at e
      exact .inr (by show W.heap.size ≤ j; omega)
    · exact List.pairwise_of_forall_mem_list fun x hx y hy => by
        obtain rfl := List.eq_of_mem_replicate hx
        obtain rfl := List.eq_of_mem_replicate hy
        exact .inl (Nat.le_refl _)
  · have h := run_make (P := Tryz.prog) W 24 38 i0 (.agg #[.int .i64 0, .string ⟨#[]⟩, .int .i64 0, .int .i64 0, .int .i64 0, .slice none 0 0, .slice none 0 0]) Tryz.underlying24 hi hz0 .i64 .i64 (n : Int) (n : Int) (by omega) (by omega) (by rw [hz2]; omega) (by omega)
    rw [hz1, Int.toNat_natCast] at h
    exact h
set_option maxHeartbeats 1600000 in
set_option maxRecDepth 100000 in
theorem toBoxS_any (lo hh : Nat) (ao : Option Addr) (n cap : Nat) (S : List X7) (w : World) (hl : S.length = n) (hn : n ≤ 1048576) (hsb : Sb S) (hr : Bs lo hh w ao S) :
    Calls Tryz.prog 76 #[.slice ao n cap] w fun e w' => e = .returned (.slice (some ⟨w.heap.size, 0, none⟩) n n) ∧ (∃ Y, Y.map yd = S ∧ OwS w' w.heap.size (.slice (some ⟨w.heap.size, 0, none⟩) n n) Y) ∧ Below w.heap.size w w' := by
  obtain ⟨M, hM, hmk⟩ := make_bx n hn
  have HR := hid hr
  have HL := hid hl
  have HS := hid hsb
  clear hr hl hsb
  go_enter Tryz.func76, Tryz.ntmps76
  go_wp2
  clear hmk
  go_loopw [4] (fun iv wr => ∃ i : Nat, i ≤ n ∧ iv = .int .i64 (i : Int) ∧ (∃ Y : List Y9, Y.length = n ∧ (Y.take i).map yd = S.take i ∧ OwS wr w.heap.size (.slice (some ⟨w.heap.size, 0, none⟩) n n) Y) ∧ Below w.heap.size w wr) (fun iv _ => n - (intOf iv).toNat)
  case atStart => exact ⟨0, Nat.zero_le _, rfl, ⟨_, List.length_replicate, by simp, hM.out w⟩, bpush (bre _) _⟩
  case round =>
    obtain ⟨i, hi, rfl, ⟨Y, hZn, hZt, hown⟩, hb⟩ := hrel
    have HO := hid hown
    have HZN := hid hZn
    have HZT := hid hZt
    have HB := hid hb
    clear hown hZn hZt hb
    by_cases hlt : i < n
    · have hil : i < S.length := by rw [HL.out]; exact hlt
      obtain ⟨k, o, ma, mc, ga, gc, rfl, hk, c, hms, his, _⟩ := (HR.out.later HB.out).at hil
      have hmem := HS.out S[i] (List.getElem_mem hil)
      obtain ⟨p, hp⟩ : ∃ p, S[i] = p := ⟨_, rfl⟩
      rw [hp] at c hms his hmem
      obtain ⟨g, nm, t, b, nx, L, G⟩ := p
      dsimp only at c hms his hmem
      obtain ⟨m, hm⟩ : ∃ m, L.length = m := ⟨_, rfl⟩
      obtain ⟨q, hq⟩ : ∃ q, G.length = q := ⟨_, rfl⟩
      rw [hm, hq] at c hmem
      have HP := hid hp
      have HMS := hid hms
      have HIS := hid his
      have HMM := hid hmem
      have HM := hid hm
      have HQ := hid hq
      unfold C7 at c
      clear hp hms his hmem hm hq
      go_wp2_with fail
      refine (toBox_any lo hh lo hh g nm t b nx ma m mc ga q gc L G _ HM.out HMM.out.2.1 HMM.out.2.2.1 HMS.out HQ.out HMM.out.2.2.2 HIS.out).mono ?_; rintro e w1 ⟨km, kg, rfl, how, hb1⟩
      have H1 := hid (HO.out.later hb1)
      have hiz : i < Y.length := by rw [HZN.out]; exact hlt
      obtain ⟨hc, hf⟩ := OwS.spot H1.out i hiz
      have HF := hf (i * 7)
      have HF1 := hf (i * 7 + 1)
      have HF2 := hf (i * 7 + 2)
      have HF3 := hf (i * 7 + 3)
      have HF4 := hf (i * 7 + 4)
      have HF5 := hf (i * 7 + 5)
      have HF6 := hf (i * 7 + 6)
      unfold C7 at hc
      have hgk : w.heap.size < wr.heap.size := ((HO.out.row.lt w.heap.size rfl).2)
      have HST := hid (OwS.stored H1.out i hiz ⟨g, nm, t, b, nx, .slice (some ⟨km, 0, none⟩) m m, .slice (some ⟨kg, 0, none⟩) q q, L, G, wr.heap.size, w1.heap.size⟩ how.owx (by show w.heap.size ≤ wr.heap.size; omega) (.inl hgk) (fun x hx => .inl (HO.out.each x hx).1.top))
      have HB1 : Hid (Below w.heap.size w w1) := btr HB.out hb1
      clear c hb1 how hgk hf
      go_wp2
      go_roundw
      case rel =>
        refine ⟨i + 1, by omega, by go_num, ⟨_, ?_, ?_, HST.out⟩, bset (bset (bset (bset (bset (bset (bset HB1.out (Nat.le_refl _) _) (Nat.le_refl _) _) (Nat.le_refl _) _) (Nat.le_refl _) _) (Nat.le_refl _) _) (Nat.le_refl _) _) (Nat.le_refl _) _⟩
        · rw [List.length_set]; exact HZN.out
        · rw [List.take_succ_eq_append_getElem (by rw [List.length_set]; exact hiz), List.take_succ_eq_append_getElem hil, List.map_append, List.take_set_of_le (Nat.le_refl _), HZT.out, List.getElem_set_self, HP.out]; rfl
      case measure => simp [intOf]; omega
    · have HE : Hid (Y.map yd = S) := by
        show _ = _
        have := HZT.out
        rwa [List.take_of_length_le (by rw [HZN.out]; omega), List.take_of_length_le (by rw [HL.out]; omega)] at this
      go_wp2
      go_ret
      exact ⟨rfl, ⟨Y, HE.out, HO.out⟩, HB.out⟩
end Go.Proofs.YtocfggfccbnbhaaGreatDoor

namespace Go.Proofs.YtocfggfccbnbhaaGreatDoor
open Go.RowKit Go.ChangeMaps
set_option maxHeartbeats 1600000 in
set_option maxRecDepth 100000 in
theorem toStore_any (lo hh lo' hh' : Nat) (y tm : Int) (ba : Option Addr) (bn bc : Nat) (ga : Option Addr) (gn gc : Nat) (S : List X7) (G : List Int) (w : World) (hl : S.length = bn) (hn : bn ≤ 1048576) (hsb : Sb S) (hm : Bs lo hh w ba S) (hg : G.length = gn) (hgn : gn ≤ 1048576) (hs : Is lo' hh' w ga G) :
    Calls Tryz.prog 27 #[.agg #[.int .i64 y, .int .i64 tm, .slice ba bn bc, .slice ga gn gc]] w fun e w' => ∃ km kg, e = .returned (.agg #[.int .i64 y, .int .i64 tm, .slice (some ⟨km, 0, none⟩) bn bn, .slice (some ⟨kg, 0, none⟩) gn gn]) ∧
      OwT w' w.heap.size (.slice (some ⟨km, 0, none⟩) bn bn) (.slice (some ⟨kg, 0, none⟩) gn gn) S G ∧ Below w.heap.size w w' := by
  obtain ⟨W0, hW0⟩ : ∃ W0, (((w.alloc (.cells #[.int .i64 y, .int .i64 tm, .slice ba bn bc, .slice ga gn gc] 53)).alloc (.cells #[.int .i64 0, .int .i64 0, .slice none 0 0, .slice none 0 0] 27)).alloc (.cells #[.int .i64 0, .int .i64 0, .slice none 0 0, .slice none 0 0] 27)) = W0 := ⟨_, rfl⟩
  obtain ⟨a0, a1, a2, b0, s0⟩ := three_stores w _ _ _ _ _ _ _ _ _ _ _ _ _ _ _ W0 hW0
  have A0 := hid a0
  have A1 := hid a1
  have A2 := hid a2
  have B0 := hid b0
  have S0 := hid s0
  have HM := hid hm
  have HS := hid hs
  have c0 := a0.cells
  have c2 := a2.cells
  have f2 := a2.loose
  clear a0 a1 a2 b0 s0 hm hs
  go_enter Tryz.func27, Tryz.ntmps27
  go_wp2_with fail
  clear hW0
  obtain ⟨W2, hW2⟩ : ∃ W2, (W0.setCell ⟨w.heap.size + 1 + 1, 0, none⟩ (.int .i64 y)).setCell ⟨w.heap.size + 1 + 1, 1, none⟩ (.int .i64 tm) = W2 := ⟨_, rfl⟩
  rw [hW2]
  have G1 : W0.grownBy W2 (some (w.heap.size + 1 + 1)) := by subst hW2; exact wst (wst (wre _ _) _ _) _ _
  have k2 := (A2.out.s0 y).s1 tm
  rw [hW2] at k2
  have K0 := hid (A0.out.off G1 (by omega))
  have K1 := hid (A1.out.off G1 (by omega))
  have K2 := hid k2
  have B1 : Hid (Below w.heap.size w W2) := B0.out.trans (below_of_grown G1 (by omega) (by have := S0.out; omega))
  have S1 : Hid (w.heap.size + 1 + 1 + 1 ≤ W2.heap.size) := by show _ ≤ _; have h1 := S0.out; have h2 := G1.size; omega
  clear hW2 c0 c2 f2 k2 G1 A0 A1 A2 B0 S0
  refine (toBoxS_any lo hh ba bn bc S W2 hl hn hsb (HM.out.later B1.out)).mono ?_; rintro e w2 ⟨rfl, ⟨Y, hY, hown⟩, hb2⟩
  have A0 := hid (K0.out.later hb2)
  have A1 := hid (K1.out.later hb2)
  have A2 := hid (K2.out.later hb2)
  have c0 := A0.out.cells
  have c2 := A2.out.cells
  have f2 := A2.out.loose
  have B2 := hid (btr B1.out hb2)
  have HO := hid hown
  have HY := hid hY
  have S2 := hid (Nat.le_trans S1.out hb2.size)
  obtain ⟨km, hkm⟩ : ∃ km, W2.heap.size = km := ⟨_, rfl⟩
  rw [hkm] at HO ⊢
  have HKM : Hid (w.heap.size + 1 + 1 + 1 ≤ km) := by show _ ≤ _; rw [← hkm]; exact S1.out
  clear hb2 K0 K1 K2 B1 S1 hY hown hkm
  go_wp2_with fail
  obtain ⟨W3, hW3⟩ : ∃ W3, w2.setCell ⟨w.heap.size + 1 + 1, 2, none⟩ (.slice (some ⟨km, 0, none⟩) bn bn) = W3 := ⟨_, rfl⟩
  rw [hW3]
  have G1 : w2.grownBy W3 (some (w.heap.size + 1 + 1)) := by subst hW3; exact wst (wre _ _) _ _
  have k2 := A2.out.s2 (.slice (some ⟨km, 0, none⟩) bn bn)
  rw [hW3] at k2
  have K1 := hid (A1.out.off G1 (by omega))
  have K2 := hid k2
  have O1 := hid (HO.out.grown G1 (by have := HKM.out; omega))
  have B1 : Hid (Below w.heap.size w W3) := B2.out.trans (below_of_grown G1 (by omega) (by have := S2.out; omega))
  have S1 : Hid (w.heap.size + 1 + 1 + 1 ≤ W3.heap.size) := by show _ ≤ _; have h1 := S2.out; have h2 := G1.size; omega
  clear hW3 c0 c2 f2 k2 G1 A0 A1 A2 B2 S2 HO
  refine (toIntS_any lo' hh' ga gn gc G W3 hg hgn (HS.out.later B1.out)).mono ?_; rintro e w3 ⟨rfl, hown, hb3⟩
  have A1 := hid (K1.out.later hb3)
  have A2 := hid (K2.out.later hb3)
  have c2 := A2.out.cells
  have f2 := A2.out.loose
  have c1 := A1.out.cells
  have f1 := A1.out.loose
  have B0 := hid (btr B1.out hb3)
  have HO := hid (O1.out.later hb3)
  have HI := hid hown
  have HD := hid (Dj.later O1.out.row hown (Nat.le_refl _))
  have HE : Hid (∀ z ∈ Y, ∀ j, Value.ownBlock (.slice (some ⟨W3.heap.size, 0, none⟩) gn gn) = some j → j < z.lo ∨ z.hi ≤ j) := fun z hz j hj => .inr (Nat.le_trans (O1.out.each z hz).1.top (hown.lt j hj).1)
  obtain ⟨kg, hkg⟩ : ∃ kg, W3.heap.size = kg := ⟨_, rfl⟩
  rw [hkg] at HI HD HE ⊢
  have HKG : Hid (w.heap.size + 1 + 1 + 1 ≤ kg) := by show _ ≤ _; rw [← hkg]; exact S1.out
  clear hb3 K1 K2 B1 S1 hown O1 hkg
  go_wp2
  have e1 : w3.grownBy (w3.setCell ⟨w.heap.size + 1 + 1, 3, none⟩ (.slice (some ⟨kg, 0, none⟩) gn gn)) (some (w.heap.size + 1 + 1)) := wst (wre _ _) _ _
  have k1 := A1.out.off e1 (by omega)
  have e2 := put4_grown (w3.setCell ⟨w.heap.size + 1 + 1, 3, none⟩ (.slice (some ⟨kg, 0, none⟩) gn gn)) (w.heap.size + 1) y tm (.slice (some ⟨km, 0, none⟩) bn bn) (.slice (some ⟨kg, 0, none⟩) gn gn)
  have d1 := (k1.put4 y tm (.slice (some ⟨km, 0, none⟩) bn bn) (.slice (some ⟨kg, 0, none⟩) gn gn)).cells
  unfold put4 at d1 e2
  refine bodyPost_ret (v := .agg #[.int .i64 y, .int .i64 tm, .slice (some ⟨km, 0, none⟩) bn bn, .slice (some ⟨kg, 0, none⟩) gn gn]) (by simp [results, Tryz.results27, go_sem, d1]) rfl ⟨km, kg, rfl, ⟨Y, HY.out, ?_, ?_, HD.out, HE.out⟩, ?_⟩
  · have h1 := HKM.out
    exact ((HO.out.grown e1 (by omega)).grown e2 (by omega)).base (by omega)
  · have h1 := HKG.out
    exact own_base (OwI.grown (OwI.grown HI.out e1 (by omega)) e2 (by omega)) (by omega)
  · have h1 := B0.out.size
    have h2 := e1.size
    exact B0.out.trans ((below_of_grown e1 (by omega) (by omega)).trans (below_of_grown e2 (by omega) (by omega)))
end Go.Proofs.YtocfggfccbnbhaaGreatDoor

