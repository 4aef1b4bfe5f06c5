/- Tib. -/
import Derived.Test.YtlhofbnnonljaaaGreatDoorX18
namespace Go.Proofs.YtlhofbnnonljaaaGreatDoor
open Go.RowKit Go.ChangeMaps
set_option maxHeartbeats 800000 in
set_option maxRecDepth 100000 in
theorem goneOkM_any (mo : Int) (lo hi : Nat) (ao : Option Addr) (n cap : Nat) (G : List Int) (w : World) (hl : G.length = n) (hn : n ≤ 1048576) (hr : Is lo hi w ao G) :
    Calls Tryz.prog 144 #[.slice ao n cap, .int .i64 mo] w fun e w' => e = .returned (.bool (gnM mo G)) ∧ w' = w := by
  have HR := hid hr
  have HL := hid hl
  clear hr hl
  go_enter Tryz.func144, Tryz.ntmps144
  go_wp2
  go_loopw [5, 10] (fun lv iv wr => ∃ (i : Nat) (q : Int), i ≤ n ∧ lv = .int .i64 q ∧ iv = .int .i64 (i : Int) ∧ Hid (q = lst 0 (G.take i)) ∧ Hid (asc 0 (G.take i) = true) ∧ wr = w) (fun _ iv _ => n - (intOf iv).toNat)
  case atStart => exact ⟨0, 0, Nat.zero_le _, rfl, rfl, rfl, rfl, rfl⟩
  case round =>
    obtain ⟨i, q, hi, rfl, rfl, HQ, HA, hw⟩ := hrel
    subst hw
    by_cases hlt : i < n
    · have hil : i < G.length := by rw [HL.out]; exact hlt
      obtain ⟨k, o, rfl, hk, c⟩ := HR.out.at hil
      have hst := asc_take hil
      have hls := lst_take hil
      have hbad := asc_bad hil
      obtain ⟨x, hx⟩ : ∃ x, G[i] = x := ⟨_, rfl⟩
      rw [hx] at c hst hls hbad
      rw [← HQ.out] at hst hbad
      obtain ⟨p, hp, cp⟩ := gid_l x
      rw [← hp.out] at hst hbad
      have HST := hid hst
      have HLS := hid hls
      have HBD := hid hbad
      have hI : (0 : Int) ≤ (i : Int) ∧ (i : Int) < (n : Int) := by omega
      clear hst hls hbad hx
      by_cases hle : q < x
      · go_wp2_with fail
        refine (cp.out _).mono ?_; rintro e w1 ⟨rfl, h1⟩
        subst h1
        cases p
        · have HE : Hid (gnM mo G = false) := gnM_bad (HBD.out (by simp))
          go_wp2
          go_ret
          exact ⟨by rw [HE.out]; rfl, rfl⟩
        · have HE : Hid (asc 0 (G.take (i + 1)) = true) := by show _ = _; rw [HST.out, HA.out]; simp [hle]
          go_wp2
          go_roundw
          case rel => exact ⟨i + 1, x, by omega, rfl, by go_num, HLS.out.symm, HE, by first | rfl | trivial⟩
          case measure => simp [intOf]; omega
      · have HE : Hid (gnM mo G = false) := gnM_bad (HBD.out (by simp [hle]))
        go_wp2
        go_ret
        exact ⟨by rw [HE.out]; rfl, rfl⟩
    · have HE : Hid (gnM mo G = decide ((n : Int) ≤ mo)) := by
        show _ = _
        have := HA.out
        rw [List.take_of_length_le (by rw [HL.out]; omega)] at this
        rw [gnM_fin this, HL.out]
      go_wp2
      go_ret
      exact ⟨by rw [HE.out]; rfl, rfl⟩
/-! The latest time of a box. -/
def mx2 (a b : Int) : Int := if a < b then b else a
def ltF (a : Int) : List R3 → Int
  | [] => a
  | p :: l => ltF (mx2 a p.2.1) l
def ltM (a : Int) : List M4 → Int
  | [] => a
  | m :: L => ltM (ltF a m.2.2.1) L
theorem ltF_app (a : Int) (l k : List R3) : ltF a (l ++ k) = ltF (ltF a l) k := by
  induction l generalizing a with
  | nil => rfl
  | cons p l ih => exact ih _
theorem ltM_app (a : Int) (L K : List M4) : ltM a (L ++ K) = ltM (ltM a L) K := by
  induction L generalizing a with
  | nil => rfl
  | cons p l ih => exact ih _
theorem ltF_take {a : Int} {l : List R3} {j : Nat} (h : j < l.length) : ltF a (l.take (j + 1)) = mx2 (ltF a (l.take j)) l[j].2.1 := by
  rw [List.take_succ_eq_append_getElem h, ltF_app]; rfl
theorem ltM_take {a : Int} {L : List M4} {j : Nat} (h : j < L.length) : ltM a (L.take (j + 1)) = ltF (ltM a (L.take j)) L[j].2.2.1 := by
  rw [List.take_succ_eq_append_getElem h, ltM_app]; rfl
theorem ltF_le {tm : Int} {l : List R3} : ∀ {a : Int}, ltF a l ≤ tm ↔ a ≤ tm ∧ tmF tm l = true := by
  induction l with
  | nil => intro a; simp [ltF, tmF]
  | cons p l ih =>
    intro a
    have e : tmF tm (p :: l) = (decide (p.2.1 ≤ tm) && tmF tm l) := rfl
    rw [ltF, ih, e]
    simp only [Bool.and_eq_true, decide_eq_true_eq]
    unfold mx2
    constructor
    · rintro ⟨h1, h2⟩
      split at h1 <;> exact ⟨by omega, by omega, h2⟩
    · rintro ⟨h1, h2, h3⟩
      refine ⟨?_, h3⟩
      split <;> omega
theorem ltM_le {tm : Int} {L : List M4} : ∀ {a : Int}, ltM a L ≤ tm ↔ a ≤ tm ∧ L.all (fun m => tmF tm m.2.2.1) = true := by
  induction L with
  | nil => intro a; simp [ltM]
  | cons m L ih =>
    intro a
    rw [ltM, ih, ltF_le, List.all_cons]
    simp only [Bool.and_eq_true]
    constructor
    · rintro ⟨⟨h1, h2⟩, h3⟩; exact ⟨h1, h2, h3⟩
    · rintro ⟨h1, h2, h3⟩; exact ⟨⟨h1, h2⟩, h3⟩
theorem ltM_tm (tm t : Int) (L : List M4) : decide (tm < ltM t L) = !tmOk tm t L := by
  have h := ltM_le (tm := tm) (L := L) (a := t)
  unfold tmOk
  cases hb : (decide (t ≤ tm) && L.all (fun m => tmF tm m.2.2.1)) with
  | true =>
    simp only [Bool.and_eq_true, decide_eq_true_eq] at hb
    have := h.2 hb
    simp only [Bool.not_true, decide_eq_false_iff_not]
    omega
  | false =>
    simp only [Bool.not_false, decide_eq_true_eq]
    have h2 : ¬ ltM t L ≤ tm := fun h3 => by
      have h4 := h.1 h3
      simp [h4.1, h4.2] at hb
    omega
set_option maxHeartbeats 1600000 in
set_option maxRecDepth 100000 in
theorem latestTime_any (lo hi : Nat) (g : Int) (nm : ByteArray) (t b nx : Int) (ma : Option Addr) (mn mc : Nat) (gv : Value) (L : List M4) (w : World) (hl : L.length = mn) (hn : mn ≤ 1048576) (hsm : Sm L) (hm : Ms lo hi w ma L) :
    Calls Tryz.prog 179 #[.agg #[.int .i64 g, .string nm, .int .i64 t, .int .i64 b, .int .i64 nx, .slice ma mn mc, gv]] w fun e w' => e = .returned (.int .i64 (ltM t L)) ∧ Below w.heap.size w w' := by
  obtain ⟨W0, hW0⟩ : ∃ W0, w.alloc (.cells #[.int .i64 g, .string nm, .int .i64 t, .int .i64 b, .int .i64 nx, .slice ma mn mc, gv] 77) = W0 := ⟨_, rfl⟩
  have a0 : Bx W0 w.heap.size 77 g nm t b nx (.slice ma mn mc) gv := by subst hW0; exact Bx.new w _ g nm t b nx _ _
  have b0 : Below w.heap.size w W0 := by subst hW0; exact bpush (bre _) _
  have c0 := a0.cells
  have HR := hid (hm.later b0)
  have B0 := hid b0
  have HL := hid hl
  have HSM := hid hsm
  have HN := hid hn
  clear a0 b0 hm hl hsm
  go_enter Tryz.func179, Tryz.ntmps179
  go_wp2
  clear hW0 c0
  go_loopw [3, 14] (fun tv iv wr => ∃ (i : Nat) (q : Int), i ≤ mn ∧ tv = .int .i64 q ∧ iv = .int .i64 (i : Int) ∧ Hid (q = ltM t (L.take i)) ∧ Below W0.heap.size W0 wr) (fun _ iv _ => mn - (intOf iv).toNat)
  case atStart => exact ⟨0, t, Nat.zero_le _, rfl, rfl, rfl, bre _⟩
  case round =>
    obtain ⟨i, q, hi, rfl, rfl, HQ, hb⟩ := hrel
    obtain ⟨wq, hwq⟩ : ∃ wq, wq = wr := ⟨_, rfl⟩
    subst hwq
    have HB := hid hb
    clear hb
    by_cases hlt : i < mn
    · have hil : i < L.length := by rw [HL.out]; exact hlt
      obtain ⟨k, o, fa, fc, rfl, hk, c, hrs, _⟩ := (HR.out.later HB.out).at hil
      have hmem := HSM.out L[i] (List.getElem_mem hil)
      have HTK := hid (ltM_take (a := t) hil)
      obtain ⟨p, hp⟩ : ∃ p, L[i] = p := ⟨_, rfl⟩
      rw [hp] at c hrs hmem HTK
      obtain ⟨g1, u1, l, t1⟩ := p
      dsimp only at c hrs hmem HTK
      rw [← HQ.out] at HTK
      obtain ⟨m, hm⟩ : ∃ m, l.length = m := ⟨_, rfl⟩
      rw [hm] at c hmem
      have hml : m ≤ 1048576 := hmem.1
      have HM := hid hm
      have AM := Mg.new wq 103 g1 u1 (.slice fa m fc) t1
      have BM : Below wq.heap.size wq (wq.alloc (.cells #[.int .i64 g1, .int .i64 u1, .slice fa m fc, .string t1] 103)) := bpush (bre _) _
      have cm := AM.cells
      have HRS := hid (hrs.later BM)
      have HBM := hid (btr HB.out BM)
      have hI : (0 : Int) ≤ (i : Int) ∧ (i : Int) < (mn : Int) := by omega
      clear hp hm hrs hmem AM BM hk
      go_wp2
      obtain ⟨W1, hW1⟩ : ∃ W1, wq.alloc (.cells #[.int .i64 g1, .int .i64 u1, .slice fa m fc, .string t1] 103) = W1 := ⟨_, rfl⟩
      rw [hW1] at HRS HBM ⊢
      clear hW1 c cm
      go_loopw [3, 21] (fun tv jv wr2 => ∃ (j : Nat) (r : Int), j ≤ m ∧ tv = .int .i64 r ∧ jv = .int .i64 (j : Int) ∧ Hid (r = ltF q (l.take j)) ∧ Below W1.heap.size W1 wr2) (fun _ jv _ => m - (intOf jv).toNat)
      case atStart => exact ⟨0, q, Nat.zero_le _, rfl, rfl, rfl, bre _⟩
      case round =>
        obtain ⟨j, r, hj, rfl, rfl, HQ2, hb2⟩ := hrel
        have HB2 := hid hb2
        clear hb2
        by_cases hjt : j < m
        · have hjl : j < l.length := by rw [HM.out]; exact hjt
          obtain ⟨kf, of, rfl, hkf, hrow⟩ := (HRS.out.later HB2.out) (by omega)
          have HTJ := hid (ltF_take (a := q) hjl)
          have e := hrow j hjl
          obtain ⟨z, hz⟩ : ∃ z, l[j] = z := ⟨_, rfl⟩
          rw [hz] at e HTJ
          rw [← HQ2.out] at HTJ
          obtain ⟨z1, z2, z3⟩ := z
          dsimp only at e HTJ
          have AR := Rg.new wr 140 z1 z2 z3
          have cr := AR.cells
          have HBR := hid (bpush (bre wr) (.cells #[.int .i64 z1, .int .i64 z2, .int .i64 z3] 140))
          have hJ : (0 : Int) ≤ (j : Int) ∧ (j : Int) < (m : Int) := by omega
          clear hz hrow AR hkf
          by_cases hrz : r < z2
          · have HE : Hid (ltF q (l.take (j + 1)) = z2) := by show _ = _; rw [HTJ.out, mx2, if_pos hrz]
            have hmx : max r z2 = z2 := by omega
            go_wp2
            go_roundw
            case rel => exact ⟨j + 1, z2, by omega, by first | rfl | (rw [hmx]) , by go_num, HE.out.symm, btr HB2.out HBR.out⟩
            case measure => simp [intOf]; omega
          · have HE : Hid (ltF q (l.take (j + 1)) = r) := by show _ = _; rw [HTJ.out, mx2, if_neg hrz]
            have hmx : max r z2 = r := by omega
            go_wp2
            go_roundw
            case rel => exact ⟨j + 1, r, by omega, by first | rfl | (rw [hmx]), by go_num, HE.out.symm, btr HB2.out HBR.out⟩
            case measure => simp [intOf]; omega
        · have HE : Hid (r = ltM t (L.take (i + 1))) := by
            show _ = _
            have h1 := HQ2.out
            rw [List.take_of_length_le (by rw [HM.out]; omega)] at h1
            rw [HTK.out, h1]
          go_wp2
          go_roundw
          case rel => exact ⟨i + 1, r, by omega, rfl, by go_num, HE, btr HBM.out HB2.out⟩
          case measure => simp [intOf]; omega
    · have HE : Hid (ltM t L = q) := by
        show _ = _
        have h1 := HQ.out
        rw [List.take_of_length_le (by rw [HL.out]; omega)] at h1
        exact h1.symm
      go_wp2
      go_ret
      exact ⟨by rw [HE.out]; rfl, btr B0.out HB.out⟩
end Go.Proofs.YtlhofbnnonljaaaGreatDoor
