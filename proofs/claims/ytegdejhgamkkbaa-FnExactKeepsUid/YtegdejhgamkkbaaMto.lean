/- Lists of mails and of numbers as the laws hand them over. -/
import Derived.Test.YtegdejhgamkkbaaMrow
namespace Go.Proofs.Ytegdejhgamkkbaa
open Go.RowKit

def z0 : Z5 := (0, 0, .slice none 0 0, [], ⟨#[]⟩)

theorem zc_rep (n : Nat) : ∀ j, (zc (List.replicate n z0))[j]? = if j < n * 4 then some (match j % 4 with | 0 => .int .i64 0 | 1 => .int .i64 0 | 2 => .slice none 0 0 | _ => .string ⟨#[]⟩) else none := by
  induction n with
  | zero => intro j; simp [zc]
  | succ n ih =>
    intro j
    rw [List.replicate_succ]
    match j with
    | 0 => simp [zc, z0]
    | 1 => simp [zc, z0]; omega
    | 2 => simp [zc, z0]; omega
    | 3 => simp [zc, z0]; omega
    | j + 4 =>
      have e := ih j
      have h1 : (zc (z0 :: List.replicate n z0))[j + 4]? = (zc (List.replicate n z0))[j]? := by simp [zc]
      have h2 : (j + 4 < (n + 1) * 4) ↔ (j < n * 4) := by omega
      rw [h1, e, show (j + 4) % 4 = j % 4 by omega]
      simp only [h2]
theorem made4 (n : Nat) : (madeCells #[.int .i64 0, .int .i64 0, .slice none 0 0, .string ⟨#[]⟩] (n * 4)).toList = zc (List.replicate n z0) := by
  apply List.ext_getElem?
  intro j
  rw [zc_rep]
  by_cases hj : j < n * 4
  · have h4 : j % 4 = 0 ∨ j % 4 = 1 ∨ j % 4 = 2 ∨ j % 4 = 3 := by omega
    rcases h4 with h | h | h | h <;> simp [madeCells, hj, h]
  · simp [madeCells, hj]

/-- A new row of n mails. -/
theorem make_ml (n : Nat) (hn : n ≤ 1048576) : ∃ M : Array Value, Hid (∀ W : World, OwZ (W.alloc (.cells M 57)) W.heap.size (.slice (some ⟨W.heap.size, 0, none⟩) n n) (List.replicate n z0)) ∧
    ∀ W : World, (Instr.makeSlice 35 (.int .i64 (n : Int)) (.int .i64 (n : Int))).run Try.prog W = .ok (.slice (some ⟨W.heap.size, 0, none⟩) n n) (W.alloc (.cells M 57)) := by
  obtain ⟨i0, hi, hz0, hz1, hz2⟩ := info_parts3 info_ml
  refine ⟨madeCells #[.int .i64 0, .int .i64 0, .slice none 0 0, .string ⟨#[]⟩] (n * 4), fun W => ?_, fun W => ?_⟩
  · have h := World.ownsRow_lit (base := W.heap.size) (e := 57) (size := 4) W (madeCells #[.int .i64 0, .int .i64 0, .slice none 0 0, .string ⟨#[]⟩] (n * 4)) n (Nat.le_refl _) (by unfold maxLen; omega) (size_madeCells _ _)
    rw [made4] at h
    refine ⟨by simpa using h, fun z hz => ?_, fun z hz => ?_, ?_⟩
    · obtain rfl := List.eq_of_mem_replicate hz
      exact World.ownsRow_nil _ _ _ _
    · obtain rfl := List.eq_of_mem_replicate hz
      exact (Dj.nil _).symm
    · exact List.pairwise_of_forall_mem_list fun x hx y hy => by
        obtain rfl := List.eq_of_mem_replicate hx
        exact Dj.nil _
  · have h := run_make (P := Try.prog) W 35 57 i0 (.agg #[.int .i64 0, .int .i64 0, .slice none 0 0, .string ⟨#[]⟩]) Try.underlying35 hi hz0 .i64 .i64 (n : Int) (n : Int) (by omega) (by omega) (by rw [hz2]; omega) (by omega)
    rw [hz1, Int.toNat_natCast] at h
    exact h

/-- No mail's flags or text is too long. -/
def Sm (L : List M4) : Prop := ∀ m ∈ L, m.2.2.1.length ≤ 1048576 ∧ m.2.2.2.size ≤ 1048576

set_option maxHeartbeats 800000 in
set_option maxRecDepth 100000 in
theorem toMailS_any (lo hi : Nat) (ao : Option Addr) (n cap : Nat) (L : List M4) (w : World) (hl : L.length = n) (hn : n ≤ 1048576) (hsm : Sm L) (hr : Ms lo hi w ao L) :
    Calls Try.prog 29 #[.slice ao n cap] w fun e w' => e = .returned (.slice (some ⟨w.heap.size, 0, none⟩) n n) ∧ (∃ Z, Z.map md = L ∧ OwZ w' w.heap.size (.slice (some ⟨w.heap.size, 0, none⟩) n n) Z) ∧ Below w.heap.size w w' := by
  obtain ⟨M, hM, hmk⟩ := make_ml n hn
  have HR := hid hr
  have HL := hid hl
  have HS := hid hsm
  clear hr hl hsm
  go_enter Try.func29, Try.ntmps29
  go_wp2
  clear hmk
  go_loopw [4] (fun iv wr => ∃ i : Nat, i ≤ n ∧ iv = .int .i64 (i : Int) ∧ (∃ Z : List Z5, Z.length = n ∧ (Z.take i).map md = L.take i ∧ OwZ wr w.heap.size (.slice (some ⟨w.heap.size, 0, none⟩) n n) Z) ∧ Below w.heap.size w wr) (fun iv _ => n - (intOf iv).toNat)
  case atStart => exact ⟨0, Nat.zero_le _, rfl, ⟨_, List.length_replicate, by simp, hM.out w⟩, bpush (bre _) _⟩
  case round =>
    obtain ⟨i, hi, rfl, ⟨Z, hZn, hZt, hown⟩, hb⟩ := hrel
    have HO := hid hown
    have HZN := hid hZn
    have HZT := hid hZt
    have hsz := hb.size
    clear hown hZn hZt
    by_cases hlt : i < n
    · have hil : i < L.length := by rw [HL.out]; exact hlt
      obtain ⟨k, o, fa, fc, rfl, hk, ⟨c0, c1, c2, c3⟩, hrs, _⟩ := (HR.out.later hb).at hil
      have hmem := HS.out L[i] (List.getElem_mem hil)
      obtain ⟨p, hp⟩ : ∃ p, L[i] = p := ⟨_, rfl⟩
      rw [hp] at c0 c1 c2 c3 hrs hmem
      obtain ⟨g, u, l, t⟩ := p
      have HP := hid hp
      have HRS := hid hrs
      have HMM := hid hmem
      obtain ⟨m, hm⟩ : ∃ m, l.length = m := ⟨_, rfl⟩
      dsimp only at c0 c1 c2 c3
      rw [hm] at c2
      have HM := hid hm
      clear hp hrs hmem hm
      go_wp2_with fail
      refine (toMail_any g u fa m fc l t _ HM.out (by rw [← HM.out]; exact HMM.out.1) HRS.out).mono ?_; rintro e w1 ⟨k', rfl, how, hk', hb1⟩
      have H1 := hid (HO.out.later hb1)
      have hiz : i < Z.length := by rw [HZN.out]; exact hlt
      obtain ⟨hc, hf⟩ := OwZ.spot H1.out i hiz
      have hZi : ∃ a0 a1 a2 a3 a4, Z[i] = (a0, a1, a2, a3, a4) := ⟨_, _, _, _, _, rfl⟩
      obtain ⟨a0, a1, a2, a3, a4, hZi⟩ := hZi
      rw [hZi] at hc
      have hB : w.heap.size ≤ k' := Nat.le_trans hb.size hk'
      have hgk : w.heap.size < wr.heap.size := ((HO.out.row.lt w.heap.size rfl).2)
      have HST := hid (OwZ.stored H1.out i hiz (g, u, .slice (some ⟨k', 0, none⟩) m m, l, t) (own_base how hB)
        (by simp [Value.ownBlock]; omega) (fun y hy j hj hy' => by
          simp [Value.ownBlock] at hj
          have := ((HO.out.each y hy).lt j hy').2
          omega))
      have HB1 : Hid (Below w.heap.size w w1) := btr hb hb1
      clear c0 c1 c2 c3 hb1 hb how hB hgk hk' hZi
      go_wp2
      go_roundw
      case rel =>
        refine ⟨i + 1, by omega, by go_num, ⟨_, ?_, ?_, HST.out⟩, bset (bset (bset (bset HB1.out (Nat.le_refl _) _) (Nat.le_refl _) _) (Nat.le_refl _) _) (Nat.le_refl _) _⟩
        · rw [List.length_set]; exact HZN.out
        · rw [List.take_succ_eq_append_getElem (by rw [List.length_set]; exact hiz), List.take_succ_eq_append_getElem hil, List.map_append, List.take_set_of_le (Nat.le_refl _), HZT.out, List.getElem_set_self, HP.out]; rfl
      case measure => simp [intOf]; omega
    · have HE : Hid (Z.map md = L) := by
        show _ = _
        have := HZT.out
        rwa [List.take_of_length_le (by rw [HZN.out]; omega), List.take_of_length_le (by rw [HL.out]; omega)] at this
      go_wp2
      go_ret
      exact ⟨rfl, ⟨Z, HE.out, HO.out⟩, hb⟩

/-! Sizes. -/
def tot : List M4 → Nat
  | [] => 0
  | m :: L => m.2.2.1.length + m.2.2.2.size + tot L
def szL (L : List M4) : Nat := L.length + tot L
theorem tot_app (L K : List M4) : tot (L ++ K) = tot L + tot K := by
  induction L with
  | nil => simp [tot]
  | cons m L ih => simp only [List.cons_append, tot, ih]; omega
theorem tot_take (L : List M4) (i : Nat) (h : i < L.length) : tot (L.take (i + 1)) = tot (L.take i) + (L[i].2.2.1.length + L[i].2.2.2.size) := by
  rw [List.take_succ_eq_append_getElem h, tot_app]; simp [tot]
theorem tot_le (L : List M4) (i : Nat) : tot (L.take i) ≤ tot L := by
  have := tot_app (L.take i) (L.drop i)
  rw [List.take_append_drop] at this
  omega
theorem tot_mem {L : List M4} {m : M4} (h : m ∈ L) : m.2.2.1.length + m.2.2.2.size ≤ tot L := by
  induction L with
  | nil => cases h
  | cons x L ih =>
    rcases List.mem_cons.1 h with rfl | h
    · simp only [tot]; omega
    · have := ih h; simp only [tot]; omega
theorem sm_of {L : List M4} (h : tot L ≤ 1048576) : Sm L := fun m hm => by have := tot_mem hm; omega
def szr (lf : Int) (n : Nat) : Int := if lf < (n : Int) then -1 else lf - n
/-- No list or text is longer than any may be. -/
def Fit (L : List M4) : Prop := ∀ m ∈ L, (m.2.2.1.length : Int) ≤ 9223372036854775807 ∧ (m.2.2.2.size : Int) ≤ 9223372036854775807

set_option maxHeartbeats 800000 in
set_option maxRecDepth 100000 in
theorem szMailS_any (lo hi : Nat) (ao : Option Addr) (n cap : Nat) (L : List M4) (lf : Int) (w : World) (hl : L.length = n) (hn : (n : Int) ≤ 9223372036854775807) (hlf : 0 ≤ lf ∧ lf ≤ 1048576) (hft : Fit L) (hr : Ms lo hi w ao L) :
    Calls Try.prog 25 #[.slice ao n cap, .int .i64 lf] w fun e w' => e = .returned (.int .i64 (szr lf (szL L))) ∧ Below w.heap.size w w' := by
  by_cases h1 : lf < (n : Int)
  · have HE : Hid (szr lf (szL L) = -1) := by show _ = _; rw [szr, if_pos (by unfold szL; omega)]
    have h2 : lf - (n : Int) < 0 := by omega
    clear hft hr hl
    go_enter Try.func25, Try.ntmps25
    go_wp2
    go_ret
    exact ⟨by rw [HE.out]; rfl, bre _⟩
  · have h2 : ¬ lf - (n : Int) < 0 := by omega
    have HR := hid hr
    have HL := hid hl
    have HF := hid hft
    clear hr hl hft
    go_enter Try.func25, Try.ntmps25
    go_wp2
    go_loopw [1, 5] (fun lv iv wr => ∃ (i : Nat) (q : Int), i ≤ n ∧ lv = .int .i64 q ∧ iv = .int .i64 (i : Int) ∧ 0 ≤ q ∧ q ≤ 1048576 ∧ Hid (q = lf - n - (tot (L.take i) : Int)) ∧ Below w.heap.size w wr) (fun _ iv _ => n - (intOf iv).toNat)
    case atStart => exact ⟨0, lf - n, Nat.zero_le _, rfl, rfl, by omega, by omega, by show _ = _; simp [tot], bre _⟩
    case round =>
      obtain ⟨i, q, hi, rfl, rfl, hq0, hq1, HQ, hb⟩ := hrel
      have HB := hid hb
      clear h1 h2
      by_cases hlt : i < n
      · have hil : i < L.length := by rw [HL.out]; exact hlt
        obtain ⟨k, o, fa, fc, rfl, hk, ⟨c0, c1, c2, c3⟩, hrs, _⟩ := (HR.out.later hb).at hil
        have hmem := HF.out L[i] (List.getElem_mem hil)
        have hstep := tot_take L i hil
        obtain ⟨p, hp⟩ : ∃ p, L[i] = p := ⟨_, rfl⟩
        rw [hp] at c0 c1 c2 c3 hmem hstep
        obtain ⟨g, u, l, t⟩ := p
        dsimp only at c0 c1 c2 c3 hmem hstep
        obtain ⟨m, hm⟩ : ∃ m, l.length = m := ⟨_, rfl⟩
        rw [hm] at c2 hmem hstep
        have HST := hid hstep
        have HMM := hid hmem
        clear hp hrs hmem hm hstep hb
        by_cases hov : q < (m : Int) + t.size
        · have HE : Hid (szr lf (szL L) = -1) := by
            show _ = _
            have h1 := HQ.out
            have h2 := HST.out
            have h3 := tot_le L (i + 1)
            have h4 := HL.out
            rw [szr, if_pos (by unfold szL; omega)]
          go_wp2_with fail
          refine (szMail_over g u fa m fc t q _ HMM.out.1 HMM.out.2 ⟨hq0, hq1⟩ hov).mono ?_; rintro e w1 ⟨rfl, hb1⟩
          have HB1 := hid (btr HB.out hb1)
          clear hb1 c0 c1 c2 c3
          go_wp2
          go_ret
          exact ⟨by rw [HE.out]; rfl, HB1.out⟩
        · go_wp2_with fail
          refine (szMail_fits g u fa m fc t q _ HMM.out.1 HMM.out.2 ⟨hq0, hq1⟩ (by omega)).mono ?_; rintro e w1 ⟨rfl, hb1⟩
          have HB1 := hid (btr HB.out hb1)
          obtain ⟨q', hq'⟩ : ∃ q' : Int, q - m - t.size = q' := ⟨_, rfl⟩
          rw [hq']
          have h3 : ¬ q' < 0 := by omega
          have h4 : 0 ≤ q' ∧ q' ≤ 1048576 := by omega
          have HQ2 : Hid (q' = lf - n - (tot (L.take (i + 1)) : Int)) := by show _ = _; have h1 := HQ.out; have h2 := HST.out; omega
          clear hb1 c0 c1 c2 c3 hq' hov
          go_wp2
          go_roundw
          case rel => exact ⟨i + 1, q', by omega, rfl, by go_num, h4.1, h4.2, HQ2, HB1.out⟩
          case measure => simp [intOf]; omega
      · have HE : Hid (szr lf (szL L) = q) := by
          show _ = _
          have h1 := HQ.out
          have h4 := HL.out
          rw [List.take_of_length_le (by omega)] at h1
          rw [szr, if_neg (by unfold szL; omega)]
          unfold szL; omega
        go_wp2
        go_ret
        exact ⟨by rw [HE.out]; rfl, HB.out⟩

theorem szIntS_any (ao : Option Addr) (n cap : Nat) (lf : Int) (w : World) (hn : (n : Int) ≤ 9223372036854775807) (hlf : 0 ≤ lf ∧ lf ≤ 1048576) :
    Calls Try.prog 26 #[.slice ao n cap, .int .i64 lf] w fun e w' => e = .returned (.int .i64 (szr lf n)) ∧ w' = w := by
  by_cases h1 : lf < (n : Int)
  · have HE : Hid (szr lf n = -1) := by show _ = _; rw [szr, if_pos h1]
    have h2 : lf - (n : Int) < 0 := by omega
    go_enter Try.func26, Try.ntmps26
    go_wp2
    go_ret
    exact ⟨by rw [HE.out]; rfl, rfl⟩
  · have HE : Hid (szr lf n = lf - n) := by show _ = _; rw [szr, if_neg h1]
    have h2 : ¬ lf - (n : Int) < 0 := by omega
    go_enter Try.func26, Try.ntmps26
    go_wp2
    go_ret
    exact ⟨by rw [HE.out]; rfl, rfl⟩

theorem int_rep (n : Nat) : (madeCells #[.int .i64 0] (n * 1)).toList = (List.replicate n (0 : Int)).map (Value.int .i64) := by
  apply List.ext_getElem?
  intro j
  by_cases hj : j < n <;> simp [madeCells, hj, Nat.mod_one]

/-- A new row of n numbers. -/
theorem make_int (n : Nat) (hn : n ≤ 1048576) : ∃ M : Array Value, Hid (∀ W : World, OwI (W.alloc (.cells M 3)) W.heap.size (.slice (some ⟨W.heap.size, 0, none⟩) n n) (List.replicate n 0)) ∧
    ∀ W : World, (Instr.makeSlice 22 (.int .i64 (n : Int)) (.int .i64 (n : Int))).run Try.prog W = .ok (.slice (some ⟨W.heap.size, 0, none⟩) n n) (W.alloc (.cells M 3)) := by
  have hinfo : (Try.prog.info? 3).map (fun i => (i.zero, i.size, i.bytes)) = some (some (.int .i64 0), 1, 8) := by kernel_rfl
  obtain ⟨i0, hi, hz0, hz1, hz2⟩ := info_parts3 hinfo
  refine ⟨madeCells #[.int .i64 0] (n * 1), fun W => ?_, fun W => ?_⟩
  · have h := World.ownsRow_lit (base := W.heap.size) (e := 3) (size := 1) W (madeCells #[.int .i64 0] (n * 1)) n (Nat.le_refl _) (by unfold maxLen; omega) (size_madeCells _ _)
    rw [int_rep] at h
    simpa [OwI] using h
  · have h := run_make (P := Try.prog) W 22 3 i0 (.int .i64 0) Try.underlying22 hi hz0 .i64 .i64 (n : Int) (n : Int) (by omega) (by omega) (by rw [hz2]; omega) (by omega)
    rw [hz1, Int.toNat_natCast] at h
    exact h

set_option maxHeartbeats 800000 in
set_option maxRecDepth 100000 in
theorem toIntS_any (lo hi : Nat) (ao : Option Addr) (n cap : Nat) (G : List Int) (w : World) (hl : G.length = n) (hn : n ≤ 1048576) (hr : Is lo hi w ao G) :
    Calls Try.prog 7 #[.slice ao n cap] w fun e w' => e = .returned (.slice (some ⟨w.heap.size, 0, none⟩) n n) ∧ OwI w' w.heap.size (.slice (some ⟨w.heap.size, 0, none⟩) n n) G ∧ Below w.heap.size w w' := by
  obtain ⟨M, hM, hmk⟩ := make_int n hn
  have HR := hid hr
  have HL := hid hl
  clear hr hl
  go_enter Try.func7, Try.ntmps7
  go_wp2
  clear hmk
  go_loopw [4] (fun iv wr => ∃ i : Nat, i ≤ n ∧ iv = .int .i64 (i : Int) ∧ (∃ F : List Int, F.length = n ∧ F.take i = G.take i ∧ OwI wr w.heap.size (.slice (some ⟨w.heap.size, 0, none⟩) n n) F) ∧ Below w.heap.size w wr) (fun iv _ => n - (intOf iv).toNat)
  case atStart => exact ⟨0, Nat.zero_le _, rfl, ⟨_, List.length_replicate, by simp, hM.out w⟩, bpush (bre _) _⟩
  case round =>
    obtain ⟨i, hi, rfl, ⟨F, hFn, hFt, hown⟩, hb⟩ := hrel
    have HO := hid hown
    have HFN := hid hFn
    have HFT := hid hFt
    have hsz := hb.size
    by_cases hlt : i < n
    · have hil : i < G.length := by rw [HL.out]; exact hlt
      obtain ⟨k, o, rfl, hk, c0⟩ := (HR.out.later hb).at hil
      obtain ⟨x, hx⟩ : ∃ x, G[i] = x := ⟨_, rfl⟩
      rw [hx] at c0
      have HX := hid hx
      have hif : i < F.length := by rw [hFn]; exact hlt
      obtain ⟨k', o', e', hk', c1⟩ := (OwI.is hown).2.at hif
      simp only [Option.some.injEq, Addr.mk.injEq, and_true] at e'
      obtain ⟨rfl, rfl⟩ := e'
      simp only [Nat.zero_add] at c1
      subst hFn
      have hfz := World.ownsRow.frozenAt hown i
      have HST := hid (OwI.stored hown i x)
      clear hx hown hFt
      go_wp2
      go_roundw
      case rel =>
        refine ⟨i + 1, by omega, by go_num, ⟨_, by rw [List.length_set], ?_, HST.out⟩, bset hb (Nat.le_refl _) _⟩
        rw [List.take_succ_eq_append_getElem (by rw [List.length_set]; exact hif), List.take_succ_eq_append_getElem hil, List.take_set_of_le (Nat.le_refl _), HFT.out, List.getElem_set_self, HX.out]
      case measure => simp [intOf]; omega
    · have HE : Hid (F = G) := by
        show _ = _
        have := HFT.out
        rwa [List.take_of_length_le (by rw [HFN.out]; omega), List.take_of_length_le (by rw [HL.out]; omega)] at this
      clear hFn hFt hown
      go_wp2
      go_ret
      exact ⟨rfl, HE.out ▸ HO.out, hb⟩
end Go.Proofs.Ytegdejhgamkkbaa
