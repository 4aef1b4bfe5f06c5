/- A mail's text. -/
import Derived.Test.YtldcmfkmnjdfiaaMf
import Derived.Test.YtldcmfkmnjdfiaaRShort
namespace Go.Proofs.Ytldcmfkmnjdfiaa
open Go.RowKit

/-- A number's bytes; those of many; a register's; those of many; a mail's. -/
def vi (n : Int) : ByteArray := ⟨(vbs n.toNat).toArray⟩
def vis : List Int → ByteArray
  | [] => ⟨#[]⟩
  | n :: l => vi n ++ vis l
def rt (p : R3) : ByteArray := vi p.1 ++ vi p.2.1 ++ vi p.2.2
def rts : List R3 → ByteArray
  | [] => ⟨#[]⟩
  | p :: l => rt p ++ rts l
def mtx (g u : Int) (l : List R3) (t : ByteArray) : ByteArray := vi g ++ vi u ++ rts l ++ vi t.size ++ t

theorem ba_nil (s : ByteArray) : (⟨#[]⟩ : ByteArray) ++ s = s := ByteArray.empty_append
theorem nil_ba (s : ByteArray) : s ++ (⟨#[]⟩ : ByteArray) = s := ByteArray.append_empty
theorem vis_snoc (l : List Int) (n : Int) : vis (l ++ [n]) = vis l ++ vi n := by
  induction l with
  | nil => simp only [List.nil_append, vis, ba_nil, nil_ba]
  | cons a l ih => simp only [List.cons_append, vis, ih, ByteArray.append_assoc]
theorem rts_snoc (l : List R3) (p : R3) : rts (l ++ [p]) = rts l ++ rt p := by
  induction l with
  | nil => simp only [List.nil_append, rts, ba_nil, nil_ba]
  | cons a l ih => simp only [List.cons_append, rts, ih, ByteArray.append_assoc]
theorem vi_size (n : Int) (h : n ≤ 1000000000) : (vi n).size ≤ 1000000001 := by
  have := vbs_len n.toNat
  show (vbs n.toNat).toArray.size ≤ _
  simp only [List.size_toArray]
  omega

theorem var_s (n : Int) (h0 : 0 ≤ n) (h1 : n ≤ 1000000000) : ∃ x : ByteArray, Hid (x = vi n) ∧ x.size ≤ 1000000001 ∧ Hid (∀ w, Calls Try.prog 58 #[.int .i64 n] w fun e w' => e = .returned (.string x) ∧ Below w.heap.size w w') := by
  obtain ⟨k, rfl⟩ : ∃ k : Nat, n = k := ⟨n.toNat, by omega⟩
  exact ⟨vi k, rfl, vi_size _ h1, fun w => l01Var_any k w (by omega)⟩
theorem var_i (n : Int) (h0 : 0 ≤ n) (h1 : n ≤ 1000000000) : ∃ x : ByteArray, Hid (x = vi n) ∧ x.size ≤ 1000000001 ∧ Hid (∀ w, Calls Try.prog 50 #[.int .i64 n] w fun e w' => e = .returned (.tuple #[.string x, .bool true]) ∧ Below w.heap.size w w') := by
  obtain ⟨k, rfl⟩ : ∃ k : Nat, n = k := ⟨n.toNat, by omega⟩
  exact ⟨vi k, rfl, vi_size _ h1, fun w => implVar_any k w (by omega)⟩

theorem take_next {α : Type} (l : List α) (i : Nat) (h : i < l.length) : l.take (i + 1) = l.take i ++ [l[i]] := List.take_succ_eq_append_getElem h

set_option maxHeartbeats 400000 in
set_option maxRecDepth 100000 in
theorem varTexts_any (k : Nat) (xs : List Int) (n : Nat) (w : World) (hn : xs.length = n) (h3 : n ≤ 3) (hx : ∀ x ∈ xs, 0 ≤ x ∧ x ≤ 1000000000) (hk : k < w.heap.size) (hc : ∀ i (h : i < xs.length), w.cell? ⟨k, i, none⟩ = some (.int .i64 xs[i])) :
    Calls Try.prog 24 #[.slice (some ⟨k, 0, none⟩) n n] w fun e w' => e = .returned (.string (vis xs)) ∧ Below w.heap.size w w' := by
  have HN := hid hn
  have HX := hid hx
  have HC := hid hc
  have HK := hid hk
  clear hn hx hc hk
  go_enter Try.func24, Try.ntmps24
  go_wp2
  go_loopw [3, 10] (fun sv iv wr => ∃ (i : Nat) (s : ByteArray), i ≤ n ∧ iv = .int .i64 (i : Int) ∧ sv = .string s ∧ Hid (s = vis (xs.take i)) ∧ s.size ≤ i * 1000000001 ∧ Below w.heap.size w wr) (fun _ iv _ => n - (intOf iv).toNat)
  case atStart => exact ⟨0, ⟨#[]⟩, Nat.zero_le _, rfl, rfl, rfl, (Nat.zero_le _ : 0 ≤ 0 * 1000000001), bre _⟩
  case round =>
    obtain ⟨i, s, hi, rfl, rfl, HS, hs, hb⟩ := hrel
    have HB := hid hb
    clear hb
    by_cases hlt : i < n
    · have hil : i < xs.length := by rw [HN.out]; exact hlt
      have HT : Hid (xs.take (i + 1) = xs.take i ++ [xs[i]]) := take_next xs i hil
      have hc : wr.cell? ⟨k, i, none⟩ = some (.int .i64 xs[i]) := (HB.out.cell (p := ⟨k, i, none⟩) HK.out).trans (HC.out i hil)
      have hm := HX.out xs[i] (List.getElem_mem hil)
      obtain ⟨x, hx⟩ : ∃ x, xs[i] = x := ⟨_, rfl⟩
      have HE := hid hx
      rw [hx] at hc hm
      clear hx
      obtain ⟨y, hy, hys, cy⟩ := var_i x hm.1 hm.2
      go_wp2_with fail
      refine (cy.out _).mono ?_; rintro e w1 ⟨rfl, hb1⟩
      have HB1 := hid (btr HB.out hb1)
      clear hc hb1
      go_wp2
      go_roundw
      case rel => exact ⟨i + 1, s ++ y, by omega, by go_num, rfl, by show _ = _; rw [HT.out, HE.out, vis_snoc, ← HS.out, hy.out], by rw [ByteArray.size_append]; omega, HB1.out⟩
      case measure => simp [intOf]; omega
    · have HE : Hid (xs.take i = xs) := List.take_of_length_le (by rw [HN.out]; omega)
      go_wp2
      go_ret
      exact ⟨by rw [← HE.out, ← HS.out]; rfl, HB.out⟩

theorem okp_in {p : R3} (h : okp p = true) : (0 ≤ p.1 ∧ p.1 ≤ 1) ∧ (0 ≤ p.2.1 ∧ p.2.1 ≤ 100000) ∧ (0 ≤ p.2.2 ∧ p.2.2 ≤ 2) := by
  simp only [okp, rgOk, stOk, Bool.and_eq_true, decide_eq_true_eq] at h
  omega
theorem mlOk_in {g u : Int} {l : List R3} {t : ByteArray} (h : mlOk g u l t = true) : (1 ≤ g ∧ g ≤ 9999) ∧ (1 ≤ u ∧ u ≤ 9999) ∧ l.length = 3 ∧ (∀ p ∈ l, okp p = true) ∧ t.size ≤ 60 := by
  simp only [mlOk, gok, flOk, Bool.and_eq_true, decide_eq_true_eq, List.all_eq_true] at h
  exact ⟨h.1, h.2.1, h.2.2.1.1, h.2.2.1.2, by omega⟩

theorem two_ints (w : World) (x y : Int) (e : Nat) : ∀ i (h : i < [x, y].length), (w.alloc (.cells #[.int .i64 x, .int .i64 y] e)).cell? ⟨w.heap.size, i, none⟩ = some (.int .i64 [x, y][i]) := by
  intro i hi
  have h := heap_alloc_new w (.cells #[.int .i64 x, .int .i64 y] e)
  have h2 : i = 0 ∨ i = 1 := by simp at hi; omega
  rcases h2 with rfl | rfl
  · exact cell_of_row _ _ 0 _ _ _ h
  · exact cell_of_row _ _ 1 _ _ _ h
theorem three_ints (w : World) (x y z : Int) (e : Nat) : ∀ i (h : i < [x, y, z].length), (w.alloc (.cells #[.int .i64 x, .int .i64 y, .int .i64 z] e)).cell? ⟨w.heap.size, i, none⟩ = some (.int .i64 [x, y, z][i]) := by
  intro i hi
  have h := heap_alloc_new w (.cells #[.int .i64 x, .int .i64 y, .int .i64 z] e)
  have h2 : i = 0 ∨ i = 1 ∨ i = 2 := by simp at hi; omega
  rcases h2 with rfl | rfl | rfl
  · exact cell_of_row _ _ 0 _ _ _ h
  · exact cell_of_row _ _ 1 _ _ _ h
  · exact cell_of_row _ _ 2 _ _ _ h
theorem texts2 (x y : Int) (hx : 0 ≤ x ∧ x ≤ 1000000000) (hy : 0 ≤ y ∧ y ≤ 1000000000) : ∃ s : ByteArray, Hid (s = vi x ++ vi y) ∧ s.size ≤ 2000000002 ∧ Hid (∀ w k, k = w.heap.size → Calls Try.prog 24 #[.slice (some ⟨k, 0, none⟩) 2 2] (w.alloc (.cells #[.int .i64 x, .int .i64 y] 3)) fun e w' => e = .returned (.string s) ∧ Below w.heap.size w w') := by
  have a := vi_size x hx.2
  have b := vi_size y hy.2
  refine ⟨vis [x, y], ?_, ?_, fun w k hk => ?_⟩
  · show _ = _; simp only [vis, nil_ba]
  · simp only [vis, nil_ba, ByteArray.size_append]; omega
  · subst hk
    refine (varTexts_any w.heap.size [x, y] 2 _ rfl (by omega) (by intro z hz; simp at hz; rcases hz with rfl | rfl <;> assumption) (by simp) (two_ints w x y 3)).mono fun _ _ h => ⟨h.1, btr (bpush (bre _) _) h.2⟩
theorem texts3 (x y z : Int) (hx : 0 ≤ x ∧ x ≤ 1000000000) (hy : 0 ≤ y ∧ y ≤ 1000000000) (hz : 0 ≤ z ∧ z ≤ 1000000000) : ∃ s : ByteArray, Hid (s = rt (x, y, z)) ∧ s.size ≤ 3000000003 ∧ Hid (∀ w k, k = w.heap.size → Calls Try.prog 24 #[.slice (some ⟨k, 0, none⟩) 3 3] (w.alloc (.cells #[.int .i64 x, .int .i64 y, .int .i64 z] 3)) fun e w' => e = .returned (.string s) ∧ Below w.heap.size w w') := by
  have a := vi_size x hx.2
  have b := vi_size y hy.2
  have c := vi_size z hz.2
  refine ⟨vis [x, y, z], ?_, ?_, fun w k hk => ?_⟩
  · show _ = _; simp only [vis, rt, nil_ba, ByteArray.append_assoc]
  · simp only [vis, nil_ba, ByteArray.size_append]; omega
  · subst hk
    refine (varTexts_any w.heap.size [x, y, z] 3 _ rfl (by omega) (by intro v hv; simp at hv; rcases hv with rfl | rfl | rfl <;> assumption) (by simp) (three_ints w x y z 3)).mono fun _ _ h => ⟨h.1, btr (bpush (bre _) _) h.2⟩

theorem short_i (t : ByteArray) (ht : t.size ≤ 60) : ∃ s : ByteArray, Hid (s = vi t.size ++ t) ∧ s.size ≤ 121 ∧ Hid (∀ w, Calls Try.prog 25 #[.string t] w fun e w' => e = .returned (.tuple #[.string s, .bool true]) ∧ Below w.heap.size w w') := by
  refine ⟨vi t.size ++ t, rfl, ?_, fun w => implShort_yes t w (by omega)⟩
  have := vbs_len t.size
  rw [ByteArray.size_append]
  have e : (vi t.size).size = (vbs t.size).length := by show (vbs ((t.size : Int).toNat)).toArray.size = _; simp
  omega

/-- What MailText answers. -/
def mtR (g u : Int) (l : List R3) (t : ByteArray) : Value := if mlOk g u l t = true then .tuple #[.string (mtx g u l t), .bool true] else .tuple #[.string ⟨#[]⟩, .bool false]

theorem implMailOk_l (g u : Int) (ao : Option Addr) (n cap : Nat) (l : List R3) (t : ByteArray) (hl : l.length = n) (hn : n ≤ 1048576) : ∃ p : Bool, Hid (p = mlOk g u l t) ∧ Hid (∀ w, Rs w ao l → Calls Try.prog 13 #[.agg #[.int .i64 g, .int .i64 u, .slice ao n cap, .string t]] w fun e w' => e = .returned (.bool p) ∧ Below w.heap.size w w') :=
  ⟨_, rfl, fun w h => implMailOk_any g u ao n cap l t w hl hn h⟩
theorem specMailOk_l (g u : Int) (ao : Option Addr) (n cap : Nat) (l : List R3) (t : ByteArray) (hl : l.length = n) (hn : n ≤ 1048576) : ∃ p : Bool, Hid (p = mlOk g u l t) ∧ Hid (∀ w, Rs w ao l → Calls Try.prog 12 #[.agg #[.int .i64 g, .int .i64 u, .slice ao n cap, .string t]] w fun e w' => e = .returned (.bool p) ∧ Below w.heap.size w w') :=
  ⟨_, rfl, fun w h => specMailOk_any g u ao n cap l t w hl hn h⟩

set_option maxHeartbeats 800000 in
set_option maxRecDepth 100000 in
theorem implMailText_any (g u : Int) (ao : Option Addr) (n cap : Nat) (l : List R3) (t : ByteArray) (w : World) (hl : l.length = n) (hn : n ≤ 1048576) (hr : Rs w ao l) :
    Calls Try.prog 7 #[.agg #[.int .i64 g, .int .i64 u, .slice ao n cap, .string t]] w fun e w' => e = .returned (mtR g u l t) ∧ Below w.heap.size w w' := by
  obtain ⟨q, hq, cq⟩ := implMailOk_l g u ao n cap l t hl hn
  obtain ⟨W0, hW0⟩ : ∃ W0, w.alloc (.cells #[.int .i64 g, .int .i64 u, .slice ao n cap, .string t] 26) = W0 := ⟨_, rfl⟩
  have A0 : Hid (Mg W0 w.heap.size 26 g u (.slice ao n cap) t) := by subst hW0; exact Mg.new _ _ _ _ _ _
  have B0 : Hid (Below w.heap.size w W0) := by subst hW0; exact bpush (bre _) _
  have HR := hid (hr.later B0.out)
  have HL := hid hl
  have c0 := A0.out.cells
  clear hr hl
  cases q
  · have HE : Hid (mtR g u l t = .tuple #[.string ⟨#[]⟩, .bool false]) := by show _ = _; rw [mtR, ← hq.out]; rfl
    rw [HE.out]
    go_enter Try.func7, Try.ntmps7
    go_wp2_with fail
    refine (cq.out _ HR.out).mono ?_; rintro e w1 ⟨rfl, hb1⟩
    go_wp2
    go_ret2
    exact ⟨rfl, btr B0.out hb1⟩
  · have HE : Hid (mtR g u l t = .tuple #[.string (mtx g u l t), .bool true]) := by show _ = _; rw [mtR, ← hq.out]; rfl
    rw [HE.out]
    obtain ⟨hg, hu, h3, hp, ht⟩ := mlOk_in hq.out.symm
    have HP := hid hp
    have HN : Hid (n = 3) := HL.out.symm.trans h3
    clear hp h3
    obtain ⟨s2, e2, z2, c2⟩ := texts2 g u (by omega) (by omega)
    obtain ⟨s4, e4, z4, c4⟩ := short_i t ht
    go_enter Try.func7, Try.ntmps7
    go_wp2_with fail
    refine (cq.out _ HR.out).mono ?_; rintro e w1 ⟨rfl, hb1⟩
    have B1 := hid (btr B0.out hb1)
    have A1 := hid (A0.out.later hb1)
    have HR1 := hid (HR.out.later hb1)
    have d := A1.out.cells
    clear hb1 c0 hW0 A0 HR
    go_wp2_with fail
    refine (c2.out _ _ rfl).mono ?_; rintro e w2 ⟨rfl, hb2⟩
    have B2 := hid (btr B1.out hb2)
    have A2 := hid (A1.out.later hb2)
    have HR2 := hid (HR1.out.later hb2)
    have d := A2.out.cells
    clear hb2 A1 HR1 B1
    go_wp2
    go_loopw [4, 21] (fun sv iv wr => ∃ (i : Nat) (s : ByteArray), i ≤ n ∧ iv = .int .i64 (i : Int) ∧ sv = .string s ∧ Hid (s = vi g ++ vi u ++ rts (l.take i)) ∧ s.size ≤ 2000000002 + i * 3000000003 ∧ Below w2.heap.size w2 wr) (fun _ iv _ => n - (intOf iv).toNat)
    case atStart => exact ⟨0, s2, Nat.zero_le _, rfl, rfl, by show _ = _; rw [List.take_zero, rts, nil_ba, e2.out], by omega, bre _⟩
    case round =>
      obtain ⟨i, s, hi, rfl, rfl, HS, hs, hb⟩ := hrel
      have HB := hid hb
      clear hb
      by_cases hlt : i < n
      · have hil : i < l.length := by rw [HL.out]; exact hlt
        have HT : Hid (l.take (i + 1) = l.take i ++ [l[i]]) := take_next l i hil
        obtain ⟨k, o, rfl, hk, c⟩ := (HR2.out.later HB.out).at hil
        have hok := okp_in (HP.out l[i] (List.getElem_mem hil))
        obtain ⟨p, hp⟩ : ∃ p, l[i] = p := ⟨_, rfl⟩
        rw [hp] at c hok
        obtain ⟨v, x, y⟩ := p
        have HEP := hid hp
        clear hp
        simp only at hok
        obtain ⟨s3, e3, z3, c3⟩ := texts3 v x y (by omega) (by omega) (by omega)
        have hb9 : i < 3 := by have := HN.out; omega
        clear hok
        go_wp2_with fail
        refine (c3.out _ _ (by simp)).mono ?_; rintro e w3 ⟨rfl, hb3⟩
        have B3 := hid (btr HB.out (btr (bpush (bre _) _) hb3))
        clear c hb3
        go_wp2
        go_roundw
        case rel => exact ⟨i + 1, s ++ s3, by omega, by go_num, rfl, by show _ = _; rw [HT.out, HEP.out, rts_snoc, HS.out, e3.out, ByteArray.append_assoc], by rw [ByteArray.size_append]; omega, B3.out⟩
        case measure => simp [intOf]; omega
      · have HE : Hid (l.take i = l) := List.take_of_length_le (by rw [HL.out]; omega)
        have d := (A2.out.later HB.out).cells
        have hs' : s.size ≤ 100000000000 := by have := HN.out; omega
        go_wp2_with fail
        refine (c4.out _).mono ?_; rintro e w4 ⟨rfl, hb4⟩
        have B4 := hid (btr HB.out hb4)
        clear d hb4
        go_wp2
        go_ret2
        exact ⟨ret_strok (by rw [HS.out, HE.out, e4.out, mtx]; exact ByteArray.append_assoc.symm), btr B2.out B4.out⟩

set_option maxHeartbeats 1600000 in
set_option maxRecDepth 100000 in
theorem specMailText_any (g u : Int) (ao : Option Addr) (n cap : Nat) (l : List R3) (t : ByteArray) (w : World) (hl : l.length = n) (hn : n ≤ 1048576) (hr : Rs w ao l) :
    Calls Try.prog 29 #[.agg #[.int .i64 g, .int .i64 u, .slice ao n cap, .string t]] w fun e w' => e = .returned (mtR g u l t) ∧ Below w.heap.size w w' := by
  obtain ⟨q, hq, cq⟩ := specMailOk_l g u ao n cap l t hl hn
  obtain ⟨W0, hW0⟩ : ∃ W0, w.alloc (.cells #[.int .i64 g, .int .i64 u, .slice ao n cap, .string t] 26) = W0 := ⟨_, rfl⟩
  have A0 : Hid (Mg W0 w.heap.size 26 g u (.slice ao n cap) t) := by subst hW0; exact Mg.new _ _ _ _ _ _
  have B0 : Hid (Below w.heap.size w W0) := by subst hW0; exact bpush (bre _) _
  have HR := hid (hr.later B0.out)
  have HL := hid hl
  have c0 := A0.out.cells
  clear hr hl
  cases q
  · have HE : Hid (mtR g u l t = .tuple #[.string ⟨#[]⟩, .bool false]) := by show _ = _; rw [mtR, ← hq.out]; rfl
    rw [HE.out]
    go_enter Try.func29, Try.ntmps29
    go_wp2_with fail
    refine (cq.out _ HR.out).mono ?_; rintro e w1 ⟨rfl, hb1⟩
    go_wp2
    go_ret2
    exact ⟨rfl, btr B0.out hb1⟩
  · have HE : Hid (mtR g u l t = .tuple #[.string (mtx g u l t), .bool true]) := by show _ = _; rw [mtR, ← hq.out]; rfl
    rw [HE.out]
    obtain ⟨hg, hu, h3, hp, ht⟩ := mlOk_in hq.out.symm
    have HP := hid hp
    have HN : Hid (n = 3) := HL.out.symm.trans h3
    clear hp h3
    obtain ⟨s1, e1, z1, c1⟩ := var_s g (by omega) (by omega)
    obtain ⟨s2, e2, z2, c2⟩ := var_s u (by omega) (by omega)
    obtain ⟨s4, e4, z4, c4⟩ := var_s t.size (by omega) (by omega)
    go_enter Try.func29, Try.ntmps29
    go_wp2_with fail
    refine (cq.out _ HR.out).mono ?_; rintro e w1 ⟨rfl, hb1⟩
    have B1 := hid (btr B0.out hb1)
    have A1 := hid (A0.out.later hb1)
    have HR1 := hid (HR.out.later hb1)
    clear hb1 c0 hW0 A0 HR
    have HS : Hid (∀ W, Below w1.heap.size w1 W → (W.cell? ⟨w.heap.size, 0, none⟩ = some (.int .i64 g) ∧ W.cell? ⟨w.heap.size, 1, none⟩ = some (.int .i64 u) ∧ W.cell? ⟨w.heap.size, 2, none⟩ = some (.slice ao n cap) ∧ W.cell? ⟨w.heap.size, 3, none⟩ = some (.string t))) := fun W h => (A1.out.later h).cells
    go_wp2_with fail
    have n12 : (s1.size + s2.size > 9223372036854775807) = False := eq_false (by omega)
    go_region_held3 (fun W => (W.cell? ⟨w.heap.size, 0, none⟩ = some (.int .i64 g) ∧ W.cell? ⟨w.heap.size, 1, none⟩ = some (.int .i64 u) ∧ W.cell? ⟨w.heap.size, 2, none⟩ = some (.slice ao n cap) ∧ W.cell? ⟨w.heap.size, 3, none⟩ = some (.string t)))
      ((refine HS.out _ ?_; repeat (first | exact bdr (bre _) | refine btr ?_ (by assumption))))
      ((first
        | (go_at_call 58; (with_reducible refine (c1.out _).mono ?_); rintro e w2 ⟨rfl, hb2⟩)
        | (go_at_call 58; (with_reducible refine (c2.out _).mono ?_); rintro e w3 ⟨rfl, hb3⟩)))
    have B3' : Hid (Below w1.heap.size w1 w3) := by show Below _ _ _; repeat (first | exact bdr (bre _) | refine btr ?_ (by assumption))
    have B3 := hid (btr B1.out B3'.out)
    have A3 := hid (A1.out.later B3'.out)
    have HR3 := hid (HR1.out.later B3'.out)
    clear hb2 hb3 B3' A1 HR1 B1 HS
    go_wp2
    go_loopw [4, 5] (fun sv iv wr => ∃ (i : Nat) (s : ByteArray), i ≤ n ∧ iv = .int .i64 (i : Int) ∧ sv = .string s ∧ Hid (s = vi g ++ vi u ++ rts (l.take i)) ∧ s.size ≤ 2000000002 + i * 3000000003 ∧ Below w3.heap.size w3 wr) (fun _ iv _ => n - (intOf iv).toNat)
    case atStart => exact ⟨0, s1 ++ s2, Nat.zero_le _, rfl, rfl, by show _ = _; rw [List.take_zero, rts, nil_ba, e1.out, e2.out], by rw [ByteArray.size_append]; omega, bre _⟩
    case round =>
      obtain ⟨i, s, hi, rfl, rfl, HS, hs, hb⟩ := hrel
      have HB := hid hb
      have d := (A3.out.later hb).cells
      clear hb
      by_cases hlt : i < n
      · have hil : i < l.length := by rw [HL.out]; exact hlt
        have HT : Hid (l.take (i + 1) = l.take i ++ [l[i]]) := take_next l i hil
        obtain ⟨k, o, rfl, hk, c⟩ := (HR3.out.later HB.out).at hil
        have hok := okp_in (HP.out l[i] (List.getElem_mem hil))
        obtain ⟨p, hp⟩ : ∃ p, l[i] = p := ⟨_, rfl⟩
        rw [hp] at c hok
        obtain ⟨v, x, y⟩ := p
        have HEP := hid hp
        clear hp
        simp only at hok
        obtain ⟨t1, f1, y1, d1⟩ := var_s v (by omega) (by omega)
        obtain ⟨t2, f2, y2, d2⟩ := var_s x (by omega) (by omega)
        obtain ⟨t3, f3, y3, d3⟩ := var_s y (by omega) (by omega)
        have hb9 : i < 3 := by have := HN.out; omega
        have hI : (0 : Int) ≤ (i : Int) ∧ (i : Int) < (n : Int) := by omega
        clear hok
        have HS3 : Hid (∀ W, Below wr.heap.size wr W → (W.cell? ⟨w.heap.size, 0, none⟩ = some (.int .i64 g) ∧ W.cell? ⟨w.heap.size, 1, none⟩ = some (.int .i64 u) ∧ W.cell? ⟨w.heap.size, 2, none⟩ = some (.slice (some ⟨k, o, none⟩) n cap) ∧ W.cell? ⟨w.heap.size, 3, none⟩ = some (.string t)) ∧ (W.cell? ⟨k, o + i * 3, none⟩ = some (.int .i64 v) ∧ W.cell? ⟨k, o + i * 3 + 1, none⟩ = some (.int .i64 x) ∧ W.cell? ⟨k, o + i * 3 + 2, none⟩ = some (.int .i64 y))) :=
          fun W h => ⟨(A3.out.later (btr HB.out h)).cells, (h.cell (p := ⟨k, _, none⟩) hk).trans c.1, (h.cell (p := ⟨k, _, none⟩) hk).trans c.2.1, (h.cell (p := ⟨k, _, none⟩) hk).trans c.2.2⟩
        clear c
        go_wp2_with fail
        clear d
        have n1 : (s.size + t1.size > 9223372036854775807) = False := eq_false (by omega)
        have n2 : (s.size + t1.size + t2.size > 9223372036854775807) = False := eq_false (by omega)
        have n3 : (s.size + t1.size + t2.size + t3.size > 9223372036854775807) = False := eq_false (by omega)
        go_region_held3 (fun W => (W.cell? ⟨w.heap.size, 0, none⟩ = some (.int .i64 g) ∧ W.cell? ⟨w.heap.size, 1, none⟩ = some (.int .i64 u) ∧ W.cell? ⟨w.heap.size, 2, none⟩ = some (.slice (some ⟨k, o, none⟩) n cap) ∧ W.cell? ⟨w.heap.size, 3, none⟩ = some (.string t)) ∧ (W.cell? ⟨k, o + i * 3, none⟩ = some (.int .i64 v) ∧ W.cell? ⟨k, o + i * 3 + 1, none⟩ = some (.int .i64 x) ∧ W.cell? ⟨k, o + i * 3 + 2, none⟩ = some (.int .i64 y)))
          ((refine HS3.out _ ?_; repeat (first | exact bdr (bre _) | refine btr ?_ (by assumption))))
          ((first
            | (go_at_call 58; (with_reducible refine (d1.out _).mono ?_); rintro e w4 ⟨rfl, hb4⟩)
            | (go_at_call 58; (with_reducible refine (d2.out _).mono ?_); rintro e w5 ⟨rfl, hb5⟩)
            | (go_at_call 58; (with_reducible refine (d3.out _).mono ?_); rintro e w6 ⟨rfl, hb6⟩)))
        have B6 : Hid (Below wr.heap.size wr w6) := by show Below _ _ _; repeat (first | exact bdr (bre _) | refine btr ?_ (by assumption))
        clear hb4 hb5 hb6 HS3
        go_wp2
        go_roundw
        case rel => exact ⟨i + 1, s ++ t1 ++ t2 ++ t3, by omega, by go_num, rfl, by show _ = _; rw [HT.out, HEP.out, rts_snoc, HS.out, f1.out, f2.out, f3.out, rt]; simp only [ByteArray.append_assoc], by simp only [ByteArray.size_append]; omega, btr HB.out B6.out⟩
        case measure => simp [intOf]; omega
      · have HE : Hid (l.take i = l) := List.take_of_length_le (by rw [HL.out]; omega)
        have hs' : s.size ≤ 100000000000 := by have := HN.out; omega
        have HS3 : Hid (∀ W, Below wr.heap.size wr W → (W.cell? ⟨w.heap.size, 0, none⟩ = some (.int .i64 g) ∧ W.cell? ⟨w.heap.size, 1, none⟩ = some (.int .i64 u) ∧ W.cell? ⟨w.heap.size, 2, none⟩ = some (.slice ao n cap) ∧ W.cell? ⟨w.heap.size, 3, none⟩ = some (.string t))) := fun W h => (A3.out.later (btr HB.out h)).cells
        go_wp2_with fail
        clear d
        have n1 : (s.size + s4.size > 9223372036854775807) = False := eq_false (by omega)
        have n2 : (s.size + s4.size + t.size > 9223372036854775807) = False := eq_false (by omega)
        go_region_held3 (fun W => (W.cell? ⟨w.heap.size, 0, none⟩ = some (.int .i64 g) ∧ W.cell? ⟨w.heap.size, 1, none⟩ = some (.int .i64 u) ∧ W.cell? ⟨w.heap.size, 2, none⟩ = some (.slice ao n cap) ∧ W.cell? ⟨w.heap.size, 3, none⟩ = some (.string t)))
          ((refine HS3.out _ ?_; repeat (first | exact bdr (bre _) | refine btr ?_ (by assumption))))
          ((go_at_call 58; (with_reducible refine (c4.out _).mono ?_); rintro e w4 ⟨rfl, hb4⟩))
        have B4 : Hid (Below wr.heap.size wr w4) := by show Below _ _ _; repeat (first | exact bdr (bre _) | refine btr ?_ (by assumption))
        clear hb4 HS3
        go_wp2
        go_ret2
        exact ⟨ret_strok (by rw [HS.out, HE.out, e4.out, mtx]), btr B3.out (btr HB.out B4.out)⟩
end Go.Proofs.Ytldcmfkmnjdfiaa
