/- Mf, MailTx, MailRd, MailCur, MailRm. -/
import Derived.Test.YtlhofbnnonljaaaGreatDoorX2
namespace Go.Proofs.YtlhofbnnonljaaaGreatDoor
open Go.RowKit
end Go.Proofs.YtlhofbnnonljaaaGreatDoor
namespace Go.Proofs.YtlhofbnnonljaaaGreatDoor
open Go.RowKit
end Go.Proofs.YtlhofbnnonljaaaGreatDoor
namespace Go.Proofs.YtlhofbnnonljaaaGreatDoor
open Go.RowKit
def okc (c : UInt8) : Bool := (decide (97 ≤ c.toNat) && decide (c.toNat ≤ 122)) || (decide (48 ≤ c.toNat) && decide (c.toNat ≤ 57))
def nmOk (s : ByteArray) : Bool := s.data.toList.all okc && (decide (1 ≤ (s.size : Int)) && decide ((s.size : Int) ≤ 12))
theorem data_len (s : ByteArray) : s.data.toList.length = s.size := Array.length_toList
theorem data_take (s : ByteArray) (k : Nat) (h : k < s.size) : s.data.toList.take (k + 1) = s.data.toList.take k ++ [s[k]] := by
  rw [List.take_succ_eq_append_getElem (by rw [data_len]; exact h)]; rfl
theorem okc_take {s : ByteArray} {k : Nat} (h : k < s.size) (ha : (s.data.toList.take k).all okc = true) (hc : okc s[k] = true) : (s.data.toList.take (k + 1)).all okc = true := by
  rw [data_take s k h, List.all_append, ha, Bool.true_and]
  show (okc s[k] && true) = true
  rw [hc]; rfl
theorem nm_bad {s : ByteArray} {k : Nat} (h : k < s.size) (hc : okc s[k] = false) : nmOk s = false := by
  have : s.data.toList.all okc = false := by
    rw [List.all_eq_false]
    refine ⟨s[k], ?_, by simp [hc]⟩
    exact List.getElem_mem (l := s.data.toList) (n := k) (by rw [data_len]; exact h)
  rw [nmOk, this]; rfl
theorem nm_fin {s : ByteArray} {k : Nat} (h : ¬ k < s.size) (ha : (s.data.toList.take k).all okc = true) : nmOk s = (decide (1 ≤ (s.size : Int)) && decide ((s.size : Int) ≤ 12)) := by
  rw [List.take_of_length_le (by rw [data_len]; omega)] at ha
  rw [nmOk, ha]; rfl
theorem nm_len {s : ByteArray} (h : ¬ (1 ≤ (s.size : Int) ∧ (s.size : Int) ≤ 12)) : nmOk s = false := by
  have : (decide (1 ≤ (s.size : Int)) && decide ((s.size : Int) ≤ 12)) = false := by
    by_cases h1 : 1 ≤ (s.size : Int)
    · have h2 : ¬ (s.size : Int) ≤ 12 := fun x => h ⟨h1, x⟩
      simp [h2]
    · simp [h1]
  rw [nmOk, this, Bool.and_false]
theorem conv_s (w : World) (s : ByteArray) : ∃ (cp : Nat) (w' : World), (convert 9 41 (.string s)).run Tryz.prog w = .ok (.slice (some ⟨w.heap.size, 0, none⟩) s.size cp) w' ∧ Below w.heap.size w w' ∧
    (∀ j (h : j < s.size), w'.cell? ⟨w.heap.size, j, none⟩ = some (.int .u8 (s[j].toNat : Int))) := by
  have h := Lib.run_convert_string_bytes (P := Tryz.prog) w 9 41 5 s Tryz.underlying9 Tryz.underlying41 Tryz.underlying5
  refine ⟨_, _, h, ⟨rfl, rfl, rfl, by rw [Lib.bytesWorld_size]; omega, fun k hk => Lib.bytesWorld_at_old w 5 _ k hk⟩, ?_⟩
  intro j hj
  rw [Lib.bytesWorld_cell w 5 s j hj]
  have e : s.data.toList.getD j 0 = s[j] := by
    rw [List.getD, List.getElem?_eq_getElem (by rw [data_len]; exact hj)]; rfl
  first
    | rw [e]
    | simp [List.getD, hj, ← e]
/-- How a sign stands to the four bounds. -/
theorem okc_ways (b : UInt8) (c : Nat) (h : b.toNat = c) : (okc b = true ∧ 97 ≤ c ∧ c ≤ 122) ∨ (okc b = true ∧ 48 ≤ c ∧ c ≤ 57) ∨ (okc b = false ∧ c < 48) ∨ (okc b = false ∧ 57 < c ∧ c < 97) ∨ (okc b = false ∧ 122 < c) := by
  unfold okc
  rw [h]
  by_cases h1 : 97 ≤ c
  · by_cases h2 : c ≤ 122
    · exact .inl ⟨by simp [h1, h2], h1, h2⟩
    · refine .inr (.inr (.inr (.inr ⟨?_, by omega⟩)))
      have h3 : ¬ c ≤ 57 := by omega
      simp [h2, h3]
  · by_cases h2 : 48 ≤ c
    · by_cases h3 : c ≤ 57
      · exact .inr (.inl ⟨by simp [h2, h3], h2, h3⟩)
      · refine .inr (.inr (.inr (.inl ⟨by simp [h1, h3], by omega, by omega⟩)))
    · exact .inr (.inr (.inl ⟨by simp [h1, h2], by omega⟩))
set_option maxHeartbeats 800000 in
set_option maxRecDepth 100000 in
theorem specName_any (s : ByteArray) (w : World) (hs : s.size ≤ 1048576) :
    Calls Tryz.prog 25 #[.string s] w fun e w' => e = .returned (.bool (nmOk s)) ∧ Below w.heap.size w w' := by
  go_enter Tryz.func25, Tryz.ntmps25
  go_wp2
  go_loopw [3] (fun iv wr => ∃ i : Nat, i ≤ s.size ∧ iv = .int .i64 (i : Int) ∧ Hid ((s.data.toList.take i).all okc = true) ∧ wr = w) (fun iv _ => s.size - (intOf iv).toNat)
  case atStart => exact ⟨0, Nat.zero_le _, rfl, rfl, rfl⟩
  case round =>
    obtain ⟨i, hi, rfl, HA, hw⟩ := hrel
    subst hw
    by_cases hlt : i < s.size
    · obtain ⟨c, hcx⟩ : ∃ c : Nat, s[i].toNat = c := ⟨_, rfl⟩
      have hcb : c < 256 := by rw [← hcx]; exact s[i].toNat_lt
      rcases okc_ways s[i] c hcx with ⟨ho, h1, h2⟩ | ⟨ho, h1, h2⟩ | ⟨ho, h1⟩ | ⟨ho, h1, h2⟩ | ⟨ho, h1⟩
      · have HO := hid ho
        clear ho
        go_wp2
        go_roundw
        case rel => exact ⟨i + 1, by omega, by go_num, okc_take hlt HA.out HO.out, trivial⟩
        case measure => simp [intOf]; omega
      · have HO := hid ho
        clear ho
        go_wp2
        go_roundw
        case rel => exact ⟨i + 1, by omega, by go_num, okc_take hlt HA.out HO.out, trivial⟩
        case measure => simp [intOf]; omega
      all_goals
        have HO := hid (nm_bad hlt ho)
        clear ho
        go_wp2
        go_ret
        exact ⟨by rw [HO.out]; rfl, bre _⟩
    · have HE := hid (nm_fin hlt HA.out)
      by_cases hr : 1 ≤ (s.size : Int) ∧ (s.size : Int) ≤ 12
      · have HE2 : Hid (nmOk s = true) := by show _ = _; rw [HE.out]; simp only [hr.1, hr.2, decide_true, Bool.and_self]
        go_wp2_with fail
        refine (l01In_yes _ 1 12 _ hr.1 hr.2).mono ?_; rintro e w1 ⟨rfl, h1⟩
        subst h1
        go_wp2
        go_ret
        exact ⟨by rw [HE2.out]; rfl, bre _⟩
      · have HE2 := hid (nm_len hr)
        go_wp2_with fail
        refine (l01In_no _ 1 12 _ (by omega)).mono ?_; rintro e w1 ⟨rfl, h1⟩
        subst h1
        go_wp2
        go_ret
        exact ⟨by rw [HE2.out]; rfl, bre _⟩
set_option maxHeartbeats 800000 in
set_option maxRecDepth 100000 in
theorem implName_any (s : ByteArray) (w : World) (hs : s.size ≤ 1048576) :
    Calls Tryz.prog 52 #[.string s] w fun e w' => e = .returned (.bool (nmOk s)) ∧ Below w.heap.size w w' := by
  by_cases hr : 1 ≤ (s.size : Int) ∧ (s.size : Int) ≤ 12
  · obtain ⟨cp, W, hcv, hbw, hcs⟩ := conv_s w s
    have HB := hid hbw
    have HC := hid hcs
    have hne : (s.toList == []) = false := by
      rw [beq_eq_false_iff_ne]
      intro e
      have e2 := congrArg List.length e
      rw [ByteArray.toList_eq, data_len] at e2
      simp only [List.length_nil] at e2
      omega
    clear hbw hcs
    go_enter Tryz.func52, Tryz.ntmps52
    go_wp2
    clear hcv hne
    go_loopw [15] (fun iv wr => ∃ i : Nat, i ≤ s.size ∧ iv = .int .i64 (i : Int) ∧ Hid ((s.data.toList.take i).all okc = true) ∧ wr = W) (fun iv _ => s.size - (intOf iv).toNat)
    case atStart => exact ⟨0, Nat.zero_le _, rfl, rfl, rfl⟩
    case round =>
      obtain ⟨i, hi, rfl, HA, hw⟩ := hrel
      subst hw
      by_cases hlt : i < s.size
      · obtain ⟨c, hcx⟩ : ∃ c : Nat, s[i].toNat = c := ⟨_, rfl⟩
        have hcb : c < 256 := by rw [← hcx]; exact s[i].toNat_lt
        have hcell := HC.out i hlt
        have hw := okc_ways s[i] c hcx
        rw [hcx] at hcell
        have hI : (0 : Int) ≤ (i : Int) ∧ (i : Int) < (s.size : Int) := by omega
        clear hcx
        rcases hw with ⟨ho, h1, h2⟩ | ⟨ho, h1, h2⟩ | ⟨ho, h1⟩ | ⟨ho, h1, h2⟩ | ⟨ho, h1⟩
        · have HO := hid ho
          clear ho
          go_wp2
          go_roundw
          case rel => exact ⟨i + 1, by omega, by go_num, okc_take hlt HA.out HO.out, trivial⟩
          case measure => simp [intOf]; omega
        · have HO := hid ho
          clear ho
          go_wp2
          go_roundw
          case rel => exact ⟨i + 1, by omega, by go_num, okc_take hlt HA.out HO.out, trivial⟩
          case measure => simp [intOf]; omega
        all_goals
          have HO := hid (nm_bad hlt ho)
          clear ho
          go_wp2
          go_ret
          exact ⟨by rw [HO.out]; rfl, HB.out⟩
      · have HE2 : Hid (nmOk s = true) := by show _ = _; rw [nm_fin hlt HA.out]; simp only [hr.1, hr.2, decide_true, Bool.and_self]
        go_wp2
        go_ret
        exact ⟨by rw [HE2.out]; rfl, HB.out⟩
  · have HE2 := hid (nm_len hr)
    by_cases h0 : s.size = 0
    · obtain rfl : s = ⟨#[]⟩ := ByteArray.ext (Array.eq_empty_of_size_eq_zero h0)
      clear hr h0 hs
      go_enter Tryz.func52, Tryz.ntmps52
      go_wp2
      go_ret
      exact ⟨by rw [HE2.out]; rfl, bre _⟩
    · have h12 : 12 < (s.size : Int) := by omega
      have hne : (s.toList == []) = false := by
        rw [beq_eq_false_iff_ne]
        intro e
        have e2 := congrArg List.length e
        rw [ByteArray.toList_eq, data_len] at e2
        simp only [List.length_nil] at e2
        omega
      clear hr
      go_enter Tryz.func52, Tryz.ntmps52
      go_wp2
      go_ret
      exact ⟨by rw [HE2.out]; rfl, bre _⟩
theorem name_l (s : ByteArray) (hs : s.size ≤ 1048576) : ∃ p : Bool, Hid (p = nmOk s) ∧ Hid (∀ w, Calls Tryz.prog 25 #[.string s] w fun e w' => e = .returned (.bool p) ∧ Below w.heap.size w w') ∧ Hid (∀ w, Calls Tryz.prog 52 #[.string s] w fun e w' => e = .returned (.bool p) ∧ Below w.heap.size w w') :=
  ⟨_, rfl, fun w => specName_any s w hs, fun w => implName_any s w hs⟩
/-- A number's bytes; those of many; a register's; those of many; a mail's. -/
def vi (n : Int) : ByteArray := ⟨(vbs n.toNat).toArray⟩
def vis : List Int → ByteArray
  | [] => ⟨#[]⟩
  | n :: l => vi n ++ vis l
def rt (p : R3) : ByteArray := vi p.1 ++ vi p.2.1 ++ vi p.2.2
def rts : List R3 → ByteArray
  | [] => ⟨#[]⟩
  | p :: l => rt p ++ rts l
def mtx (g u : Int) (l : List R3) (t : ByteArray) : ByteArray := vi g ++ vi u ++ rts l ++ vi t.size ++ t
theorem ba_nil (s : ByteArray) : (⟨#[]⟩ : ByteArray) ++ s = s := ByteArray.empty_append
theorem nil_ba (s : ByteArray) : s ++ (⟨#[]⟩ : ByteArray) = s := ByteArray.append_empty
theorem vis_snoc (l : List Int) (n : Int) : vis (l ++ [n]) = vis l ++ vi n := by
  induction l with
  | nil => simp only [List.nil_append, vis, ba_nil, nil_ba]
  | cons a l ih => simp only [List.cons_append, vis, ih, ByteArray.append_assoc]
theorem rts_snoc (l : List R3) (p : R3) : rts (l ++ [p]) = rts l ++ rt p := by
  induction l with
  | nil => simp only [List.nil_append, rts, ba_nil, nil_ba]
  | cons a l ih => simp only [List.cons_append, rts, ih, ByteArray.append_assoc]
theorem vi_size (n : Int) (h : n ≤ 1000000000) : (vi n).size ≤ 1000000001 := by
  have := vbs_len n.toNat
  show (vbs n.toNat).toArray.size ≤ _
  simp only [List.size_toArray]
  omega
theorem var_s (n : Int) (h0 : 0 ≤ n) (h1 : n ≤ 1000000000) : ∃ x : ByteArray, Hid (x = vi n) ∧ x.size ≤ 1000000001 ∧ Hid (∀ w, Calls Tryz.prog 18 #[.int .i64 n] w fun e w' => e = .returned (.string x) ∧ Below w.heap.size w w') := by
  obtain ⟨k, rfl⟩ : ∃ k : Nat, n = k := ⟨n.toNat, by omega⟩
  exact ⟨vi k, rfl, vi_size _ h1, fun w => l01Var_any k w (by omega)⟩
theorem var_i (n : Int) (h0 : 0 ≤ n) (h1 : n ≤ 1000000000) : ∃ x : ByteArray, Hid (x = vi n) ∧ x.size ≤ 1000000001 ∧ Hid (∀ w, Calls Tryz.prog 40 #[.int .i64 n] w fun e w' => e = .returned (.tuple #[.string x, .bool true]) ∧ Below w.heap.size w w') := by
  obtain ⟨k, rfl⟩ : ∃ k : Nat, n = k := ⟨n.toNat, by omega⟩
  exact ⟨vi k, rfl, vi_size _ h1, fun w => implVar_any k w (by omega)⟩
theorem take_next {α : Type} (l : List α) (i : Nat) (h : i < l.length) : l.take (i + 1) = l.take i ++ [l[i]] := List.take_succ_eq_append_getElem h
set_option maxHeartbeats 400000 in
set_option maxRecDepth 100000 in
theorem varTexts_any (k : Nat) (xs : List Int) (n : Nat) (w : World) (hn : xs.length = n) (h3 : n ≤ 4) (hx : ∀ x ∈ xs, 0 ≤ x ∧ x ≤ 1000000000) (hk : k < w.heap.size) (hc : ∀ i (h : i < xs.length), w.cell? ⟨k, i, none⟩ = some (.int .i64 xs[i])) :
    Calls Tryz.prog 20 #[.slice (some ⟨k, 0, none⟩) n n] w fun e w' => e = .returned (.string (vis xs)) ∧ Below w.heap.size w w' := by
  have HN := hid hn
  have HX := hid hx
  have HC := hid hc
  have HK := hid hk
  clear hn hx hc hk
  go_enter Tryz.func20, Tryz.ntmps20
  go_wp2
  go_loopw [3, 10] (fun sv iv wr => ∃ (i : Nat) (s : ByteArray), i ≤ n ∧ iv = .int .i64 (i : Int) ∧ sv = .string s ∧ Hid (s = vis (xs.take i)) ∧ s.size ≤ i * 1000000001 ∧ Below w.heap.size w wr) (fun _ iv _ => n - (intOf iv).toNat)
  case atStart => exact ⟨0, ⟨#[]⟩, Nat.zero_le _, rfl, rfl, rfl, (Nat.zero_le _ : 0 ≤ 0 * 1000000001), bre _⟩
  case round =>
    obtain ⟨i, s, hi, rfl, rfl, HS, hs, hb⟩ := hrel
    have HB := hid hb
    clear hb
    by_cases hlt : i < n
    · have hil : i < xs.length := by rw [HN.out]; exact hlt
      have HT : Hid (xs.take (i + 1) = xs.take i ++ [xs[i]]) := take_next xs i hil
      have hc : wr.cell? ⟨k, i, none⟩ = some (.int .i64 xs[i]) := (HB.out.cell (p := ⟨k, i, none⟩) HK.out).trans (HC.out i hil)
      have hm := HX.out xs[i] (List.getElem_mem hil)
      obtain ⟨x, hx⟩ : ∃ x, xs[i] = x := ⟨_, rfl⟩
      have HE := hid hx
      rw [hx] at hc hm
      clear hx
      obtain ⟨y, hy, hys, cy⟩ := var_i x hm.1 hm.2
      go_wp2_with fail
      refine (cy.out _).mono ?_; rintro e w1 ⟨rfl, hb1⟩
      have HB1 := hid (btr HB.out hb1)
      clear hc hb1
      go_wp2
      go_roundw
      case rel => exact ⟨i + 1, s ++ y, by omega, by go_num, rfl, by show _ = _; rw [HT.out, HE.out, vis_snoc, ← HS.out, hy.out], by rw [ByteArray.size_append]; omega, HB1.out⟩
      case measure => simp [intOf]; omega
    · have HE : Hid (xs.take i = xs) := List.take_of_length_le (by rw [HN.out]; omega)
      go_wp2
      go_ret
      exact ⟨by rw [← HE.out, ← HS.out]; rfl, HB.out⟩
theorem okp_in {p : R3} (h : okp p = true) : (0 ≤ p.1 ∧ p.1 ≤ 1) ∧ (0 ≤ p.2.1 ∧ p.2.1 ≤ 100000) ∧ (0 ≤ p.2.2 ∧ p.2.2 ≤ 2) := by
  simp only [okp, rgOk, stOk, Bool.and_eq_true, decide_eq_true_eq] at h
  omega
theorem mlOk_in {g u : Int} {l : List R3} {t : ByteArray} (h : mlOk g u l t = true) : (1 ≤ g ∧ g ≤ 9999) ∧ (1 ≤ u ∧ u ≤ 9999) ∧ l.length = 3 ∧ (∀ p ∈ l, okp p = true) ∧ t.size ≤ 60 := by
  simp only [mlOk, gok, flOk, Bool.and_eq_true, decide_eq_true_eq, List.all_eq_true] at h
  exact ⟨h.1, h.2.1, h.2.2.1.1, h.2.2.1.2, by omega⟩
/-- What MailText answers. -/
def mtR (g u : Int) (l : List R3) (t : ByteArray) : Value := if mlOk g u l t = true then .tuple #[.string (mtx g u l t), .bool true] else .tuple #[.string ⟨#[]⟩, .bool false]
theorem implMailOk_l (g u : Int) (ao : Option Addr) (n cap : Nat) (l : List R3) (t : ByteArray) (hl : l.length = n) (hn : n ≤ 1048576) : ∃ p : Bool, Hid (p = mlOk g u l t) ∧ Hid (∀ w, Rs w ao l → Calls Tryz.prog 194 #[.agg #[.int .i64 g, .int .i64 u, .slice ao n cap, .string t]] w fun e w' => e = .returned (.bool p) ∧ Below w.heap.size w w') :=
  ⟨_, rfl, fun w h => implMailOk_any g u ao n cap l t w hl hn h⟩
theorem specMailOk_l (g u : Int) (ao : Option Addr) (n cap : Nat) (l : List R3) (t : ByteArray) (hl : l.length = n) (hn : n ≤ 1048576) : ∃ p : Bool, Hid (p = mlOk g u l t) ∧ Hid (∀ w, Rs w ao l → Calls Tryz.prog 110 #[.agg #[.int .i64 g, .int .i64 u, .slice ao n cap, .string t]] w fun e w' => e = .returned (.bool p) ∧ Below w.heap.size w w') :=
  ⟨_, rfl, fun w h => specMailOk_any g u ao n cap l t w hl hn h⟩
set_option maxHeartbeats 1600000 in
set_option maxRecDepth 100000 in
theorem specMailText_any (g u : Int) (ao : Option Addr) (n cap : Nat) (l : List R3) (t : ByteArray) (w : World) (hl : l.length = n) (hn : n ≤ 1048576) (hr : Rs w ao l) :
    Calls Tryz.prog 117 #[.agg #[.int .i64 g, .int .i64 u, .slice ao n cap, .string t]] w fun e w' => e = .returned (mtR g u l t) ∧ Below w.heap.size w w' := by
  obtain ⟨q, hq, cq⟩ := specMailOk_l g u ao n cap l t hl hn
  obtain ⟨W0, hW0⟩ : ∃ W0, w.alloc (.cells #[.int .i64 g, .int .i64 u, .slice ao n cap, .string t] 103) = W0 := ⟨_, rfl⟩
  have A0 : Hid (Mg W0 w.heap.size 103 g u (.slice ao n cap) t) := by subst hW0; exact Mg.new _ _ _ _ _ _
  have B0 : Hid (Below w.heap.size w W0) := by subst hW0; exact bpush (bre _) _
  have HR := hid (hr.later B0.out)
  have HL := hid hl
  have c0 := A0.out.cells
  clear hr hl
  cases q
  · have HE : Hid (mtR g u l t = .tuple #[.string ⟨#[]⟩, .bool false]) := by show _ = _; rw [mtR, ← hq.out]; rfl
    rw [HE.out]
    go_enter Tryz.func117, Tryz.ntmps117
    go_wp2_with fail
    refine (cq.out _ HR.out).mono ?_; rintro e w1 ⟨rfl, hb1⟩
    go_wp2
    go_ret2
    exact ⟨rfl, btr B0.out hb1⟩
  · have HE : Hid (mtR g u l t = .tuple #[.string (mtx g u l t), .bool true]) := by show _ = _; rw [mtR, ← hq.out]; rfl
    rw [HE.out]
    obtain ⟨hg, hu, h3, hp, ht⟩ := mlOk_in hq.out.symm
    have HP := hid hp
    have HN : Hid (n = 3) := HL.out.symm.trans h3
    clear hp h3
    obtain ⟨s1, e1, z1, c1⟩ := var_s g (by omega) (by omega)
    obtain ⟨s2, e2, z2, c2⟩ := var_s u (by omega) (by omega)
    obtain ⟨s4, e4, z4, c4⟩ := var_s t.size (by omega) (by omega)
    go_enter Tryz.func117, Tryz.ntmps117
    go_wp2_with fail
    refine (cq.out _ HR.out).mono ?_; rintro e w1 ⟨rfl, hb1⟩
    have B1 := hid (btr B0.out hb1)
    have A1 := hid (A0.out.later hb1)
    have HR1 := hid (HR.out.later hb1)
    clear hb1 c0 hW0 A0 HR
    have HS : Hid (∀ W, Below w1.heap.size w1 W → (W.cell? ⟨w.heap.size, 0, none⟩ = some (.int .i64 g) ∧ W.cell? ⟨w.heap.size, 1, none⟩ = some (.int .i64 u) ∧ W.cell? ⟨w.heap.size, 2, none⟩ = some (.slice ao n cap) ∧ W.cell? ⟨w.heap.size, 3, none⟩ = some (.string t))) := fun W h => (A1.out.later h).cells
    go_wp2_with fail
    have n12 : (s1.size + s2.size > 9223372036854775807) = False := eq_false (by omega)
    go_region_held3 (fun W => (W.cell? ⟨w.heap.size, 0, none⟩ = some (.int .i64 g) ∧ W.cell? ⟨w.heap.size, 1, none⟩ = some (.int .i64 u) ∧ W.cell? ⟨w.heap.size, 2, none⟩ = some (.slice ao n cap) ∧ W.cell? ⟨w.heap.size, 3, none⟩ = some (.string t)))
      ((refine HS.out _ ?_; repeat (first | exact bdr (bre _) | refine btr ?_ (by assumption))))
      ((first
        | (go_at_call 18; (with_reducible refine (c1.out _).mono ?_); rintro e w2 ⟨rfl, hb2⟩)
        | (go_at_call 18; (with_reducible refine (c2.out _).mono ?_); rintro e w3 ⟨rfl, hb3⟩)))
    have B3' : Hid (Below w1.heap.size w1 w3) := by show Below _ _ _; repeat (first | exact bdr (bre _) | refine btr ?_ (by assumption))
    have B3 := hid (btr B1.out B3'.out)
    have A3 := hid (A1.out.later B3'.out)
    have HR3 := hid (HR1.out.later B3'.out)
    clear hb2 hb3 B3' A1 HR1 B1 HS
    go_wp2
    go_loopw [4, 5] (fun sv iv wr => ∃ (i : Nat) (s : ByteArray), i ≤ n ∧ iv = .int .i64 (i : Int) ∧ sv = .string s ∧ Hid (s = vi g ++ vi u ++ rts (l.take i)) ∧ s.size ≤ 2000000002 + i * 3000000003 ∧ Below w3.heap.size w3 wr) (fun _ iv _ => n - (intOf iv).toNat)
    case atStart => exact ⟨0, s1 ++ s2, Nat.zero_le _, rfl, rfl, by show _ = _; rw [List.take_zero, rts, nil_ba, e1.out, e2.out], by rw [ByteArray.size_append]; omega, bre _⟩
    case round =>
      obtain ⟨i, s, hi, rfl, rfl, HS, hs, hb⟩ := hrel
      have HB := hid hb
      have d := (A3.out.later hb).cells
      clear hb
      by_cases hlt : i < n
      · have hil : i < l.length := by rw [HL.out]; exact hlt
        have HT : Hid (l.take (i + 1) = l.take i ++ [l[i]]) := take_next l i hil
        obtain ⟨k, o, rfl, hk, c⟩ := (HR3.out.later HB.out).at hil
        have hok := okp_in (HP.out l[i] (List.getElem_mem hil))
        obtain ⟨p, hp⟩ : ∃ p, l[i] = p := ⟨_, rfl⟩
        rw [hp] at c hok
        obtain ⟨v, x, y⟩ := p
        have HEP := hid hp
        clear hp
        simp only at hok
        obtain ⟨t1, f1, y1, d1⟩ := var_s v (by omega) (by omega)
        obtain ⟨t2, f2, y2, d2⟩ := var_s x (by omega) (by omega)
        obtain ⟨t3, f3, y3, d3⟩ := var_s y (by omega) (by omega)
        have hb9 : i < 3 := by have := HN.out; omega
        have hI : (0 : Int) ≤ (i : Int) ∧ (i : Int) < (n : Int) := by omega
        clear hok
        have HS3 : Hid (∀ W, Below wr.heap.size wr W → (W.cell? ⟨w.heap.size, 0, none⟩ = some (.int .i64 g) ∧ W.cell? ⟨w.heap.size, 1, none⟩ = some (.int .i64 u) ∧ W.cell? ⟨w.heap.size, 2, none⟩ = some (.slice (some ⟨k, o, none⟩) n cap) ∧ W.cell? ⟨w.heap.size, 3, none⟩ = some (.string t)) ∧ (W.cell? ⟨k, o + i * 3, none⟩ = some (.int .i64 v) ∧ W.cell? ⟨k, o + i * 3 + 1, none⟩ = some (.int .i64 x) ∧ W.cell? ⟨k, o + i * 3 + 2, none⟩ = some (.int .i64 y))) :=
          fun W h => ⟨(A3.out.later (btr HB.out h)).cells, (h.cell (p := ⟨k, _, none⟩) hk).trans c.1, (h.cell (p := ⟨k, _, none⟩) hk).trans c.2.1, (h.cell (p := ⟨k, _, none⟩) hk).trans c.2.2⟩
        clear c
        go_wp2_with fail
        clear d
        have n1 : (s.size + t1.size > 9223372036854775807) = False := eq_false (by omega)
        have n2 : (s.size + t1.size + t2.size > 9223372036854775807) = False := eq_false (by omega)
        have n3 : (s.size + t1.size + t2.size + t3.size > 9223372036854775807) = False := eq_false (by omega)
        go_region_held3 (fun W => (W.cell? ⟨w.heap.size, 0, none⟩ = some (.int .i64 g) ∧ W.cell? ⟨w.heap.size, 1, none⟩ = some (.int .i64 u) ∧ W.cell? ⟨w.heap.size, 2, none⟩ = some (.slice (some ⟨k, o, none⟩) n cap) ∧ W.cell? ⟨w.heap.size, 3, none⟩ = some (.string t)) ∧ (W.cell? ⟨k, o + i * 3, none⟩ = some (.int .i64 v) ∧ W.cell? ⟨k, o + i * 3 + 1, none⟩ = some (.int .i64 x) ∧ W.cell? ⟨k, o + i * 3 + 2, none⟩ = some (.int .i64 y)))
          ((refine HS3.out _ ?_; repeat (first | exact bdr (bre _) | refine btr ?_ (by assumption))))
          ((first
            | (go_at_call 18; (with_reducible refine (d1.out _).mono ?_); rintro e w4 ⟨rfl, hb4⟩)
            | (go_at_call 18; (with_reducible refine (d2.out _).mono ?_); rintro e w5 ⟨rfl, hb5⟩)
            | (go_at_call 18; (with_reducible refine (d3.out _).mono ?_); rintro e w6 ⟨rfl, hb6⟩)))
        have B6 : Hid (Below wr.heap.size wr w6) := by show Below _ _ _; repeat (first | exact bdr (bre _) | refine btr ?_ (by assumption))
        clear hb4 hb5 hb6 HS3
        go_wp2
        go_roundw
        case rel => exact ⟨i + 1, s ++ t1 ++ t2 ++ t3, by omega, by go_num, rfl, by show _ = _; rw [HT.out, HEP.out, rts_snoc, HS.out, f1.out, f2.out, f3.out, rt]; simp only [ByteArray.append_assoc], by simp only [ByteArray.size_append]; omega, btr HB.out B6.out⟩
        case measure => simp [intOf]; omega
      · have HE : Hid (l.take i = l) := List.take_of_length_le (by rw [HL.out]; omega)
        have hs' : s.size ≤ 100000000000 := by have := HN.out; omega
        have HS3 : Hid (∀ W, Below wr.heap.size wr W → (W.cell? ⟨w.heap.size, 0, none⟩ = some (.int .i64 g) ∧ W.cell? ⟨w.heap.size, 1, none⟩ = some (.int .i64 u) ∧ W.cell? ⟨w.heap.size, 2, none⟩ = some (.slice ao n cap) ∧ W.cell? ⟨w.heap.size, 3, none⟩ = some (.string t))) := fun W h => (A3.out.later (btr HB.out h)).cells
        go_wp2_with fail
        clear d
        have n1 : (s.size + s4.size > 9223372036854775807) = False := eq_false (by omega)
        have n2 : (s.size + s4.size + t.size > 9223372036854775807) = False := eq_false (by omega)
        go_region_held3 (fun W => (W.cell? ⟨w.heap.size, 0, none⟩ = some (.int .i64 g) ∧ W.cell? ⟨w.heap.size, 1, none⟩ = some (.int .i64 u) ∧ W.cell? ⟨w.heap.size, 2, none⟩ = some (.slice ao n cap) ∧ W.cell? ⟨w.heap.size, 3, none⟩ = some (.string t)))
          ((refine HS3.out _ ?_; repeat (first | exact bdr (bre _) | refine btr ?_ (by assumption))))
          ((go_at_call 18; (with_reducible refine (c4.out _).mono ?_); rintro e w4 ⟨rfl, hb4⟩))
        have B4 : Hid (Below wr.heap.size wr w4) := by show Below _ _ _; repeat (first | exact bdr (bre _) | refine btr ?_ (by assumption))
        clear hb4 HS3
        go_wp2
        go_ret2
        exact ⟨ret_strok (by rw [HS.out, HE.out, e4.out, mtx]), btr B3.out (btr HB.out B4.out)⟩
def rd (s : ByteArray) (a : Int) : Option (Int × Int) :=
  if 0 ≤ a ∧ a ≤ s.size then (rv 5 (s.data.toList.drop a.toNat) 0 0).map fun p => ((p.1 : Int), a + (p.2 : Int)) else none
def rsh (s : ByteArray) (a : Int) : Option (ByteArray × Int) :=
  (rd s a).bind fun p => if p.1 ≤ 20000 ∧ p.2 + p.1 ≤ s.size then some (s.extract p.2.toNat (p.2 + p.1).toNat, p.2 + p.1) else none
def rdT (s : ByteArray) (a : Int) : Value := match rd s a with
  | some p => .tuple #[.int .i64 p.1, .int .i64 p.2, .bool true]
  | none => .tuple #[.int .i64 0, .int .i64 0, .bool false]
def rshT (s : ByteArray) (a : Int) : Value := match rsh s a with
  | some p => .tuple #[.string p.1, .int .i64 p.2, .bool true]
  | none => .tuple #[.string ⟨#[]⟩, .int .i64 0, .bool false]
theorem rd_out {s : ByteArray} {a : Int} (h : a < 0 ∨ s.size < a) : rd s a = none := by unfold rd; rw [if_neg (by omega)]
theorem rd_in {s : ByteArray} {a : Nat} (h : a ≤ s.size) : rd s a = (rv 5 (s.data.toList.drop a) 0 0).map fun p => ((p.1 : Int), (a : Int) + (p.2 : Int)) := by
  unfold rd; rw [if_pos (by omega)]; rfl
theorem rd_some {s : ByteArray} {a n c : Int} (h : rd s a = some (n, c)) : 0 ≤ n ∧ n ≤ 1000000000 ∧ 0 ≤ a ∧ a ≤ c ∧ c ≤ s.size := by
  by_cases ha : 0 ≤ a ∧ a ≤ s.size
  · obtain ⟨k, rfl⟩ : ∃ k : Nat, a = k := ⟨a.toNat, by omega⟩
    rw [rd_in (by omega)] at h
    cases hr : rv 5 (s.data.toList.drop k) 0 0 with
    | none => rw [hr] at h; cases h
    | some p =>
      obtain ⟨m, d⟩ := p
      rw [hr] at h
      simp only [Option.map_some, Option.some.injEq, Prod.mk.injEq] at h
      have := rv_place (by omega) hr
      omega
  · rw [rd_out (by omega)] at h; cases h
theorem rdT_rv {s : ByteArray} {a : Nat} {e : Ending} (h : a ≤ s.size) (he : RvEnd (rv 5 (s.data.toList.drop a) 0 0) a e) : e = .returned (rdT s a) := by
  unfold rdT
  rw [rd_in h]
  cases hr : rv 5 (s.data.toList.drop a) 0 0 with
  | none => rw [hr] at he; exact he
  | some p =>
    obtain ⟨m, d⟩ := p
    rw [hr] at he
    simp only [RvEnd] at he
    rw [he]; simp
theorem specRd (s : ByteArray) (a : Int) (w : World) (hs : s.size ≤ 1048576) : Calls Tryz.prog 41 #[.string s, .int .i64 a] w fun e w' => e = .returned (rdT s a) ∧ Below w.heap.size w w' := by
  by_cases ha : 0 ≤ a ∧ a ≤ s.size
  · obtain ⟨k, rfl⟩ : ∃ k : Nat, a = k := ⟨a.toNat, by omega⟩
    exact (specRead_any s k w hs (by omega)).mono fun e w' h => ⟨rdT_rv (by omega) h.1, h.2⟩
  · have e : rdT s a = .tuple #[.int .i64 0, .int .i64 0, .bool false] := by unfold rdT; rw [rd_out (by omega)]
    rw [e]
    exact (specRead_no s a w hs (by omega)).mono fun e w' h => ⟨h.1, h.2 ▸ bre _⟩
theorem implRd (s : ByteArray) (a : Int) (w : World) (hs : s.size ≤ 1048576) : Calls Tryz.prog 66 #[.string s, .int .i64 a] w fun e w' => e = .returned (rdT s a) ∧ Below w.heap.size w w' := by
  by_cases ha : 0 ≤ a ∧ a ≤ s.size
  · obtain ⟨k, rfl⟩ : ∃ k : Nat, a = k := ⟨a.toNat, by omega⟩
    exact (implRead_any s k w hs (by omega)).mono fun e w' h => ⟨rdT_rv (by omega) h.1, h.2⟩
  · have e : rdT s a = .tuple #[.int .i64 0, .int .i64 0, .bool false] := by unfold rdT; rw [rd_out (by omega)]
    rw [e]
    exact (implRead_no s a w (by omega)).mono fun e w' h => ⟨h.1, h.2 ▸ bre _⟩
/-- The three ways in which a short text is read. -/
theorem rsh_ways (s : ByteArray) (a : Int) :
    (((a < 0 ∨ s.size < a) ∨ (0 ≤ a ∧ a ≤ s.size ∧ rv 5 (s.data.toList.drop a.toNat) 0 0 = none)) ∧ rshT s a = .tuple #[.string ⟨#[]⟩, .int .i64 0, .bool false]) ∨
    (∃ k n d : Nat, a = k ∧ k ≤ s.size ∧ rv 5 (s.data.toList.drop k) 0 0 = some (n, d) ∧ (20000 < n ∨ s.size < k + d + n) ∧ rshT s a = .tuple #[.string ⟨#[]⟩, .int .i64 0, .bool false]) ∨
    (∃ k n d : Nat, a = k ∧ k ≤ s.size ∧ rv 5 (s.data.toList.drop k) 0 0 = some (n, d) ∧ n ≤ 20000 ∧ k + d + n ≤ s.size ∧ rshT s a = .tuple #[.string (s.extract (k + d) (k + d + n)), .int .i64 (k + d + n : Nat), .bool true]) := by
  by_cases ha : 0 ≤ a ∧ a ≤ s.size
  · obtain ⟨k, rfl⟩ : ∃ k : Nat, a = k := ⟨a.toNat, by omega⟩
    have e := rd_in (s := s) (a := k) (by omega)
    cases hr : rv 5 (s.data.toList.drop k) 0 0 with
    | none =>
      rw [hr] at e
      exact Or.inl ⟨Or.inr ⟨by omega, by omega, by simpa using hr⟩, by unfold rshT rsh; rw [e]; rfl⟩
    | some p =>
      obtain ⟨n, d⟩ := p
      rw [hr] at e
      simp only [Option.map_some] at e
      by_cases h2 : n ≤ 20000 ∧ k + d + n ≤ s.size
      · refine Or.inr (Or.inr ⟨k, n, d, rfl, by omega, hr, h2.1, h2.2, ?_⟩)
        unfold rshT rsh
        rw [e]
        simp only [Option.bind_some]
        rw [if_pos (by omega)]
        have e1 : ((k : Int) + (d : Int)).toNat = k + d := by omega
        have e2 : ((k : Int) + (d : Int) + (n : Int)).toNat = k + d + n := by omega
        have e3 : (k : Int) + (d : Int) + (n : Int) = ((k + d + n : Nat) : Int) := by omega
        rw [e1, e2, e3]
      · refine Or.inr (Or.inl ⟨k, n, d, rfl, by omega, hr, by omega, ?_⟩)
        unfold rshT rsh
        rw [e]
        simp only [Option.bind_some]
        rw [if_neg (by omega)]
  · exact Or.inl ⟨Or.inl (by omega), by unfold rshT rsh; rw [rd_out (by omega)]; rfl⟩
theorem specRsh (s : ByteArray) (a : Int) (w : World) (hs : s.size ≤ 1048576) : Calls Tryz.prog 42 #[.string s, .int .i64 a] w fun e w' => e = .returned (rshT s a) ∧ Below w.heap.size w w' := by
  rcases rsh_ways s a with ⟨h, e⟩ | ⟨k, n, d, rfl, hk, hr, hb, e⟩ | ⟨k, n, d, rfl, hk, hr, h2, h3, e⟩
  · rw [e]; exact specRShort_no s a w hs h
  · rw [e]; exact specRShort_bad s k n d w hs hk hr hb
  · rw [e]; exact specRShort_yes s k n d w hs hk hr h2 h3
theorem implRsh (s : ByteArray) (a : Int) (w : World) (hs : s.size ≤ 1048576) : Calls Tryz.prog 67 #[.string s, .int .i64 a] w fun e w' => e = .returned (rshT s a) ∧ Below w.heap.size w w' := by
  rcases rsh_ways s a with ⟨h, e⟩ | ⟨k, n, d, rfl, hk, hr, hb, e⟩ | ⟨k, n, d, rfl, hk, hr, h2, h3, e⟩
  · rw [e]; exact implRShort_no s a w hs h
  · rw [e]; exact implRShort_bad s k n d w hs hk hr hb
  · rw [e]; exact implRShort_yes s k n d w hs hk hr h2 h3
/-- Block k holds a cursor. -/
def Cg (W : World) (k : Nat) (s : ByteArray) (b : Int) (bad : Bool) : Prop := W.heap[k]? = some (.cells #[.string s, .int .i64 b, .bool bad] 47 (0, 0))
theorem Cg.lt {W : World} {k : Nat} {s : ByteArray} {b : Int} {bad : Bool} (h : Cg W k s b bad) : k < W.heap.size := (Array.getElem?_eq_some_iff.1 h).1
theorem Cg.later {W W' : World} {k : Nat} {s : ByteArray} {b : Int} {bad : Bool} (h : Cg W k s b bad) (hb : Below W.heap.size W W') : Cg W' k s b bad := (hb.block k h.lt).trans h
theorem Cg.cells {W : World} {k : Nat} {s : ByteArray} {b : Int} {bad : Bool} (h : Cg W k s b bad) : W.cell? ⟨k, 0, none⟩ = some (.string s) ∧ W.cell? ⟨k, 1, none⟩ = some (.int .i64 b) ∧ W.cell? ⟨k, 2, none⟩ = some (.bool bad) :=
  ⟨cell_of_row W k 0 _ _ _ h, cell_of_row W k 1 _ _ _ h, cell_of_row W k 2 _ _ _ h⟩
theorem Cg.loose {W : World} {k : Nat} {s : ByteArray} {b : Int} {bad : Bool} (h : Cg W k s b bad) : W.frozen? ⟨k, 0, none⟩ = false ∧ W.frozen? ⟨k, 1, none⟩ = false ∧ W.frozen? ⟨k, 2, none⟩ = false :=
  ⟨frozen_of_row W k 0 _ _ h, frozen_of_row W k 1 _ _ h, frozen_of_row W k 2 _ _ h⟩
theorem Cg.s1 {W : World} {k : Nat} {s : ByteArray} {b : Int} {bad : Bool} (h : Cg W k s b bad) (b' : Int) : Cg (W.setCell ⟨k, 1, none⟩ (.int .i64 b')) k s b' bad := heap_setCell_same W k 1 _ _ (.int .i64 b') h
theorem Cg.s2 {W : World} {k : Nat} {s : ByteArray} {b : Int} {bad : Bool} (h : Cg W k s b bad) (bad' : Bool) : Cg (W.setCell ⟨k, 2, none⟩ (.bool bad')) k s b bad' := heap_setCell_same W k 2 _ _ (.bool bad') h
/-- What a cursor comes to when a number is read: the number, the place, and whether it is bad. -/
def nxt (s : ByteArray) (b : Int) (bad : Bool) (n b' : Int) (bad' : Bool) : Prop :=
  (bad = false ∧ bad' = false ∧ rd s b = some (n, b')) ∨ (bad' = true ∧ n = 0 ∧ b' = b ∧ (bad = true ∨ rd s b = none))
def nxtS (s : ByteArray) (b : Int) (bad : Bool) (t : ByteArray) (b' : Int) (bad' : Bool) : Prop :=
  (bad = false ∧ bad' = false ∧ rsh s b = some (t, b')) ∨ (bad' = true ∧ t = ⟨#[]⟩ ∧ b' = b ∧ (bad = true ∨ rsh s b = none))
/-- How a call ends that reads a number, a text, by the cursor at block k. -/
def Var1 (w : World) (k : Nat) (s : ByteArray) (b : Int) (bad : Bool) (e : Ending) (w' : World) : Prop := ∃ n b' bad', e = .returned (.int .i64 n) ∧ Cg w' k s b' bad' ∧ nxt s b bad n b' bad' ∧ w.grownBy w' (some k)
def Short1 (w : World) (k : Nat) (s : ByteArray) (b : Int) (bad : Bool) (e : Ending) (w' : World) : Prop := ∃ t b' bad', e = .returned (.string t) ∧ Cg w' k s b' bad' ∧ nxtS s b bad t b' bad' ∧ w.grownBy w' (some k)
theorem rd_l (s : ByteArray) (b : Int) (hs : s.size ≤ 1048576) : ∃ (n c : Int) (ok : Bool), Hid ((ok = true ∧ rd s b = some (n, c)) ∨ (ok = false ∧ rd s b = none)) ∧ Hid (∀ w, Calls Tryz.prog 41 #[.string s, .int .i64 b] w fun e w' => e = .returned (.tuple #[.int .i64 n, .int .i64 c, .bool ok]) ∧ Below w.heap.size w w') := by
  have h := specRd s b (hs := hs)
  unfold rdT at h
  cases hr : rd s b with
  | none => rw [hr] at h; exact ⟨0, 0, false, Or.inr ⟨rfl, rfl⟩, h⟩
  | some p => rw [hr] at h; exact ⟨p.1, p.2, true, Or.inl ⟨rfl, rfl⟩, h⟩
theorem rsh_l (s : ByteArray) (b : Int) (hs : s.size ≤ 1048576) : ∃ (t : ByteArray) (c : Int) (ok : Bool), Hid ((ok = true ∧ rsh s b = some (t, c)) ∨ (ok = false ∧ rsh s b = none)) ∧ Hid (∀ w, Calls Tryz.prog 42 #[.string s, .int .i64 b] w fun e w' => e = .returned (.tuple #[.string t, .int .i64 c, .bool ok]) ∧ Below w.heap.size w w') := by
  have h := specRsh s b (hs := hs)
  unfold rshT at h
  cases hr : rsh s b with
  | none => rw [hr] at h; exact ⟨⟨#[]⟩, 0, false, Or.inr ⟨rfl, rfl⟩, h⟩
  | some p => rw [hr] at h; exact ⟨p.1, p.2, true, Or.inl ⟨rfl, rfl⟩, h⟩
set_option maxHeartbeats 800000 in
set_option maxRecDepth 100000 in
theorem l05Var_any (k : Nat) (s : ByteArray) (b : Int) (bad : Bool) (w : World) (hs : s.size ≤ 1048576) (hc : Cg w k s b bad) :
    Calls Tryz.prog 21 #[.pointer (some ⟨k, 0, none⟩)] w fun e w' => Var1 w k s b bad e w' := by
  obtain ⟨n, c, ok, hr, cr⟩ := rd_l s b hs
  have HC := hid hc
  clear hc hs
  have HS : Hid (∀ W, Below w.heap.size w W → (W.cell? ⟨k, 0, none⟩ = some (.string s) ∧ W.cell? ⟨k, 1, none⟩ = some (.int .i64 b) ∧ W.cell? ⟨k, 2, none⟩ = some (.bool bad))) := fun W h => (HC.out.later h).cells
  go_enter Tryz.func21, Tryz.ntmps21
  go_wp2_with fail
  go_region_held3 (fun W => (W.cell? ⟨k, 0, none⟩ = some (.string s) ∧ W.cell? ⟨k, 1, none⟩ = some (.int .i64 b) ∧ W.cell? ⟨k, 2, none⟩ = some (.bool bad)))
    ((refine HS.out _ ?_; repeat (first | exact bdr (bre _) | refine btr ?_ (by assumption))))
    ((go_at_call 41; refine (cr.out _).mono ?_; rintro e w1 ⟨rfl, hb1⟩))
  have B1 : Hid (Below w.heap.size w w1) := by show Below _ _ _; repeat (first | exact bdr (bre _) | refine btr ?_ (by assumption))
  have K1 := hid (HC.out.later B1.out)
  have d := K1.out.cells
  have f := K1.out.loose
  clear hb1 HS
  cases bad
  · cases ok
    · go_wp2
      go_ret
      exact ⟨0, b, true, rfl, K1.out.s2 true, Or.inr ⟨rfl, rfl, rfl, Or.inr (by rcases hr.out with ⟨h, _⟩ | ⟨_, h⟩; (cases h); exact h)⟩, wst (grown_below B1.out _) 2 _⟩
    · go_wp2
      go_ret
      exact ⟨n, c, false, rfl, K1.out.s1 c, Or.inl ⟨rfl, rfl, (by rcases hr.out with ⟨_, h⟩ | ⟨h, _⟩; (exact h); cases h)⟩, wst (grown_below B1.out _) 1 _⟩
  · go_wp2
    go_ret
    exact ⟨0, b, true, rfl, K1.out.s2 true, Or.inr ⟨rfl, rfl, rfl, Or.inl rfl⟩, wst (grown_below B1.out _) 2 _⟩
set_option maxHeartbeats 800000 in
set_option maxRecDepth 100000 in
theorem l05Short_any (k : Nat) (s : ByteArray) (b : Int) (bad : Bool) (w : World) (hs : s.size ≤ 1048576) (hc : Cg w k s b bad) :
    Calls Tryz.prog 22 #[.pointer (some ⟨k, 0, none⟩)] w fun e w' => Short1 w k s b bad e w' := by
  obtain ⟨t, c, ok, hr, cr⟩ := rsh_l s b hs
  have HC := hid hc
  clear hc hs
  have HS : Hid (∀ W, Below w.heap.size w W → (W.cell? ⟨k, 0, none⟩ = some (.string s) ∧ W.cell? ⟨k, 1, none⟩ = some (.int .i64 b) ∧ W.cell? ⟨k, 2, none⟩ = some (.bool bad))) := fun W h => (HC.out.later h).cells
  go_enter Tryz.func22, Tryz.ntmps22
  go_wp2_with fail
  go_region_held3 (fun W => (W.cell? ⟨k, 0, none⟩ = some (.string s) ∧ W.cell? ⟨k, 1, none⟩ = some (.int .i64 b) ∧ W.cell? ⟨k, 2, none⟩ = some (.bool bad)))
    ((refine HS.out _ ?_; repeat (first | exact bdr (bre _) | refine btr ?_ (by assumption))))
    ((go_at_call 42; refine (cr.out _).mono ?_; rintro e w1 ⟨rfl, hb1⟩))
  have B1 : Hid (Below w.heap.size w w1) := by show Below _ _ _; repeat (first | exact bdr (bre _) | refine btr ?_ (by assumption))
  have K1 := hid (HC.out.later B1.out)
  have d := K1.out.cells
  have f := K1.out.loose
  clear hb1 HS
  cases bad
  · cases ok
    · go_wp2
      go_ret
      exact ⟨⟨#[]⟩, b, true, rfl, K1.out.s2 true, Or.inr ⟨rfl, rfl, rfl, Or.inr (by rcases hr.out with ⟨h, _⟩ | ⟨_, h⟩; (cases h); exact h)⟩, wst (grown_below B1.out _) 2 _⟩
    · go_wp2
      go_ret
      exact ⟨t, c, false, rfl, K1.out.s1 c, Or.inl ⟨rfl, rfl, (by rcases hr.out with ⟨_, h⟩ | ⟨h, _⟩; (exact h); cases h)⟩, wst (grown_below B1.out _) 1 _⟩
  · go_wp2
    go_ret
    exact ⟨⟨#[]⟩, b, true, rfl, K1.out.s2 true, Or.inr ⟨rfl, rfl, rfl, Or.inl rfl⟩, wst (grown_below B1.out _) 2 _⟩
/-- k numbers, one behind another. -/
def rds (s : ByteArray) (a : Int) : Nat → Option (List Int × Int)
  | 0 => some ([], a)
  | k + 1 => (rds s a k).bind fun p => (rd s p.2).map fun q => (p.1 ++ [q.1], q.2)
/-- These numbers were read; or it went bad. -/
def SS (s : ByteArray) (a : Int) (nums : List Int) (b : Int) (bad : Bool) : Prop :=
  (bad = false ∧ rds s a nums.length = some (nums, b)) ∨ (bad = true ∧ rds s a nums.length = none)
theorem SS.start (s : ByteArray) (a : Int) : SS s a [] a false := Or.inl ⟨rfl, rfl⟩
theorem rds_some {s : ByteArray} {a : Int} {nums : List Int} {b n c : Int} (h : rds s a nums.length = some (nums, b)) (hr : rd s b = some (n, c)) : rds s a (nums ++ [n]).length = some (nums ++ [n], c) := by
  rw [List.length_append]; show rds s a (nums.length + 1) = _; rw [rds, h]; simp only [Option.bind_some]; rw [hr]; rfl
theorem rds_none {s : ByteArray} {a : Int} {nums : List Int} {b n : Int} (h : rds s a nums.length = some (nums, b)) (hr : rd s b = none) : rds s a (nums ++ [n]).length = none := by
  rw [List.length_append]; show rds s a (nums.length + 1) = _; rw [rds, h]; simp only [Option.bind_some]; rw [hr]; rfl
theorem rds_dead {s : ByteArray} {a : Int} {k : Nat} (h : rds s a k = none) (j : Nat) : rds s a (k + j) = none := by
  induction j with
  | zero => exact h
  | succ j ih => rw [← Nat.add_assoc, rds, ih]; rfl
theorem SS.next {s : ByteArray} {a : Int} {nums : List Int} {b : Int} {bad : Bool} {n b' : Int} {bad' : Bool} (h : SS s a nums b bad) (hn : nxt s b bad n b' bad') : SS s a (nums ++ [n]) b' bad' := by
  rcases hn with ⟨h1, h2, h3⟩ | ⟨h1, h2, h3, h4⟩
  · rcases h with ⟨k1, k2⟩ | ⟨k1, k2⟩
    · exact Or.inl ⟨h2, rds_some k2 h3⟩
    · rw [h1] at k1; cases k1
  · refine Or.inr ⟨h1, ?_⟩
    rcases h with ⟨k1, k2⟩ | ⟨k1, k2⟩
    · rcases h4 with h4 | h4
      · rw [k1] at h4; cases h4
      · exact rds_none k2 h4
    · rw [List.length_append]; exact rds_dead k2 1
def flat : List R3 → List Int
  | [] => []
  | p :: l => p.1 :: p.2.1 :: p.2.2 :: flat l
theorem flat_snoc (l : List R3) (p : R3) : flat (l ++ [p]) = flat l ++ [p.1] ++ [p.2.1] ++ [p.2.2] := by
  induction l with
  | nil => rfl
  | cons q l ih => simp only [List.cons_append, flat, ih]
theorem flat_len (l : List R3) : (flat l).length = l.length * 3 := by
  induction l with
  | nil => rfl
  | cons q l ih => simp only [flat, List.length_cons, ih]; omega
def regs : List Int → List R3
  | v :: t :: b :: r => (v, t, b) :: regs r
  | _ => []
theorem regs_flat (l : List R3) : regs (flat l) = l := by
  induction l with
  | nil => rfl
  | cons q l ih => simp only [flat, regs, ih]
theorem three_more {s : ByteArray} {a g u : Int} {l : List R3} {x y z b : Int} {bad : Bool} (h : SS s a (((g :: u :: flat l) ++ [x]) ++ [y] ++ [z]) b bad) : SS s a (g :: u :: flat (l ++ [(x, y, z)])) b bad := by
  rw [flat_snoc]; simpa using h
abbrev R6 := Int × Int × List R3 × ByteArray × Int × Bool
def zero6 : R6 := (0, 0, [], ⟨#[]⟩, 0, false)
/-- What ReadMail answers: number, number, flags, text, place, whether. -/
def rm6 (s : ByteArray) (a : Int) : R6 := match rds s a 11 with
  | some (g :: u :: r, b) => match rsh s b with
    | some (t, c) => if mlOk g u (regs r) t = true then (g, u, regs r, t, c, true) else zero6
    | none => zero6
  | _ => zero6
theorem rm6_dead {s : ByteArray} {a : Int} (h : rds s a 11 = none) : rm6 s a = zero6 := by unfold rm6; rw [h]
theorem rm6_short {s : ByteArray} {a g u b : Int} {l : List R3} (h : rds s a 11 = some (g :: u :: flat l, b)) (hs : rsh s b = none) : rm6 s a = zero6 := by unfold rm6; rw [h]; simp only [hs]
theorem rm6_wrong {s : ByteArray} {a g u b c : Int} {l : List R3} {t : ByteArray} (h : rds s a 11 = some (g :: u :: flat l, b)) (hs : rsh s b = some (t, c)) (hm : mlOk g u l t = false) : rm6 s a = zero6 := by
  unfold rm6; rw [h]; simp only [hs, regs_flat, hm]; rfl
theorem rm6_good {s : ByteArray} {a g u b c : Int} {l : List R3} {t : ByteArray} (h : rds s a 11 = some (g :: u :: flat l, b)) (hs : rsh s b = some (t, c)) (hm : mlOk g u l t = true) : rm6 s a = (g, u, l, t, c, true) := by
  unfold rm6; rw [h]; simp only [hs, regs_flat, hm]; rfl
/-- The cursor's end. -/
theorem rm6_bad {s : ByteArray} {a g u b b' : Int} {bad : Bool} {l : List R3} {t : ByteArray} (hl : l.length = 3) (h : SS s a (g :: u :: flat l) b bad) (hn : nxtS s b bad t b' true) : rm6 s a = zero6 := by
  have e : (g :: u :: flat l).length = 11 := by simp [flat_len, hl]
  rcases hn with ⟨_, h2, _⟩ | ⟨_, _, _, h4⟩
  · cases h2
  · rcases h with ⟨k1, k2⟩ | ⟨_, k2⟩
    · rcases h4 with h4 | h4
      · rw [k1] at h4; cases h4
      · rw [e] at k2; exact rm6_short k2 h4
    · rw [e] at k2; exact rm6_dead k2
theorem rm6_ok {s : ByteArray} {a g u b b' : Int} {bad : Bool} {l : List R3} {t : ByteArray} (hl : l.length = 3) (h : SS s a (g :: u :: flat l) b bad) (hn : nxtS s b bad t b' false) : rm6 s a = if mlOk g u l t = true then (g, u, l, t, b', true) else zero6 := by
  have e : (g :: u :: flat l).length = 11 := by simp [flat_len, hl]
  rcases hn with ⟨h1, _, h3⟩ | ⟨h1, _⟩
  · rcases h with ⟨_, k2⟩ | ⟨k1, _⟩
    · rw [e] at k2
      cases hm : mlOk g u l t with
      | true => rw [rm6_good k2 h3 hm]; rfl
      | false => rw [rm6_wrong k2 h3 hm]; rfl
    · rw [h1] at k1; cases k1
  · cases h1
/-- How a call of ReadMail ends. -/
def RmPost (s : ByteArray) (a : Int) (w : World) (e : Ending) (w' : World) : Prop :=
  ∃ g u l t c q v, rm6 s a = (g, u, l, t, c, q) ∧ e = .returned (.tuple #[.agg #[.int .i64 g, .int .i64 u, v, .string t], .int .i64 c, .bool q]) ∧ Ow w' w.heap.size v l ∧ Below w.heap.size w w'
theorem RmPost.zero {s : ByteArray} {a : Int} {w w' : World} (h : rm6 s a = zero6) (hb : Below w.heap.size w w') : RmPost s a w (.returned (.tuple #[.agg #[.int .i64 0, .int .i64 0, .slice none 0 0, .string ⟨#[]⟩], .int .i64 0, .bool false])) w' :=
  ⟨0, 0, [], ⟨#[]⟩, 0, false, .slice none 0 0, h, rfl, ⟨rfl, .inl ⟨rfl, rfl⟩⟩, hb⟩
end Go.Proofs.YtlhofbnnonljaaaGreatDoor
