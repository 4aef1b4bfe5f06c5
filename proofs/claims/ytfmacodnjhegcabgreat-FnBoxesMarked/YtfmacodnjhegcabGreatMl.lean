/- BoxQ, Sbx, Bdp, Bdl, Bdr, in one text. -/
import Derived.Test.YtfmacodnjhegcabGreatTky
namespace Go.Proofs.YtfmacodnjhegcabGreat
open Go.RowKit Go.ChangeMaps

theorem bx_iff {g : Int} {nm : ByteArray} {t b nx : Int} {L : List M4} {G : List Int} : bxOk g nm t b nx L G = true ↔
    gok g = true ∧ nmOk nm = true ∧ stOk t b = true ∧ (1 ≤ nx ∧ nx ≤ 10000) ∧ L.length ≤ 10 ∧ gnOk G = true ∧ (∀ m ∈ L, mlOk m.1 m.2.1 m.2.2.1 m.2.2.2 = true ∧ m.2.1 < nx ∧ inl m.1 G = false) ∧ Upr L ∧ uq L = true := by
  constructor
  · intro h
    have hp := bx_parts h
    simp only [bxOk, Bool.and_eq_true, decide_eq_true_eq, bxm] at h
    obtain ⟨h1, h2, h3, h4, h5, h6, h7, h8⟩ := h
    refine ⟨h1, h2, h3, h4, by omega, h6, fun m hm => ?_, alr_upr h7, h8⟩
    obtain ⟨i, hi, rfl⟩ := List.getElem_of_mem hm
    have h9 := List.all_eq_true.1 h7 i (List.mem_range.2 hi)
    rw [stp_at hi (g := L[i].1) (u := L[i].2.1) (l := L[i].2.2.1) (t := L[i].2.2.2) rfl] at h9
    simp only [Bool.and_eq_true, decide_eq_true_eq, Bool.not_eq_true'] at h9
    exact ⟨h9.1, h9.2.1, h9.2.2.2⟩
  · rintro ⟨h1, h2, h3, h4, h5, h6, h7, h8, h9⟩
    simp only [bxOk, Bool.and_eq_true, decide_eq_true_eq, bxm]
    refine ⟨h1, h2, h3, h4, by omega, h6, alr_all (fun i hi => ?_), h9⟩
    have hm := h7 L[i] (List.getElem_mem hi)
    rw [stp_at hi (g := L[i].1) (u := L[i].2.1) (l := L[i].2.2.1) (t := L[i].2.2.2) rfl]
    simp only [Bool.and_eq_true, decide_eq_true_eq, Bool.not_eq_true']
    refine ⟨hm.1, hm.2.1, ?_, hm.2.2⟩
    cases i with
    | zero => rw [us_zero]; exact mlOk_pos hm.1
    | succ i =>
      rw [us_succ (by omega)]
      exact List.pairwise_iff_getElem.1 h8 i (i + 1) (by omega) hi (by omega)
/-- What a right box takes at most. -/
theorem bx_small {g : Int} {nm : ByteArray} {t b nx : Int} {L : List M4} {G : List Int} (h : bxOk g nm t b nx L G = true) : L.length ≤ 10 ∧ G.length ≤ 40 ∧ (∀ m ∈ L, m.2.2.1.length = 3 ∧ m.2.2.2.size ≤ 60) := by
  obtain ⟨_, _, _, _, h5, h6, h7, _⟩ := bx_iff.1 h
  simp only [gnOk, Bool.and_eq_true, decide_eq_true_eq] at h6
  refine ⟨h5, by omega, fun m hm => ?_⟩
  have h8 := (h7 m hm).1
  simp only [mlOk, Bool.and_eq_true, decide_eq_true_eq, flOk] at h8
  exact ⟨h8.2.2.1.1, by omega⟩
theorem bit_le (n : Int) (i : Nat) : 0 ≤ bit n i ∧ bit n i ≤ 1 := by unfold bit; omega
theorem sl_ok {l : List R3} {n t b : Int} (h : flOk l = true) : flOk (sl l n t b) = true := by
  unfold sl
  split
  · simp only [flOk, Bool.and_eq_true, decide_eq_true_eq, List.all_eq_true] at h ⊢
    refine ⟨by rw [List.length_mapIdx]; exact h.1, fun p hp => ?_⟩
    obtain ⟨i, hi, rfl⟩ := List.mem_mapIdx.1 hp
    have ho := h.2 l[i] (List.getElem_mem hi)
    unfold sp
    split
    · exact ho
    · unfold pp
      split
      · next h1 =>
        simp only [Bool.and_eq_true] at h1
        have h2 := bit_le n i
        simp only [okp, Bool.and_eq_true, decide_eq_true_eq]
        exact ⟨h1.1, h2.2⟩
      · exact ho
  · exact h
theorem fgm_ok {m : M4} {n st sb : Int} (h : mlOk m.1 m.2.1 m.2.2.1 m.2.2.2 = true) : mlOk (fgm m n st sb).1 (fgm m n st sb).2.1 (fgm m n st sb).2.2.1 (fgm m n st sb).2.2.2 = true := by
  simp only [mlOk, Bool.and_eq_true, fgm] at h ⊢
  exact ⟨h.1, h.2.1, sl_ok h.2.2.1, h.2.2.2⟩
theorem fm_right {g : Int} {nm : ByteArray} {t b nx : Int} {L : List M4} {G : List Int} {p : Bool} {gid n st sb : Int} (h : bxOk g nm t b nx L G = true) : bxOk g nm t b nx (fmL p L gid n st sb) G = true := by
  cases p with
  | false => rw [fmL_no]; exact h
  | true =>
    obtain ⟨h1, h2, h3, h4, h5, h6, h7, h8, h9⟩ := bx_iff.1 h
    refine bx_iff.2 ⟨h1, h2, h3, h4, by rw [fmL_len]; exact h5, h6, fun m hm => ?_, ?_, ?_⟩
    · rw [fmL, if_pos rfl] at hm
      obtain ⟨x, hx, rfl⟩ := List.mem_map.1 hm
      have hx' := h7 x hx
      split
      · exact ⟨fgm_ok hx'.1, hx'.2.1, hx'.2.2⟩
      · exact hx'
    · rw [fmL, if_pos rfl]
      unfold Upr
      rw [List.pairwise_map]
      refine h8.imp (fun {x y} hxy => ?_)
      have e : ∀ z : M4, (if z.1 = gid then fgm z n st sb else z).2.1 = z.2.1 := fun z => by split <;> rfl
      rw [e, e]
      exact hxy
    · unfold uq at h9 ⊢
      rw [fmL, if_pos rfl, List.map_map]
      have e : ((fun m : M4 => m.1) ∘ fun m => if m.1 = gid then fgm m n st sb else m) = fun m : M4 => m.1 := by
        funext z
        simp only [Function.comp]
        split <;> rfl
      rw [e]
      exact h9
theorem inl_pin {x y : Int} {G : List Int} (h : inl y G = false) (hx : y ≠ x) : inl y (pin x G) = false := by
  cases hi : inl y (pin x G) with
  | false => rfl
  | true =>
    have hmem : ∀ {l : List Int}, inl y l = true → y ∈ l := by
      intro l
      induction l with
      | nil => intro h; simp [inl] at h
      | cons a l ih =>
        intro h
        simp only [inl, Bool.or_eq_true, decide_eq_true_eq] at h
        rcases h with h | h
        · rw [h]; exact List.mem_cons_self ..
        · exact List.mem_cons_of_mem _ (ih h)
    have h1 := hmem hi
    unfold pin at h1
    rcases List.mem_append.1 h1 with h1 | h1
    · exact absurd rfl (inl_not h y (List.mem_filter.1 h1).1)
    · rcases List.mem_cons.1 h1 with h1 | h1
      · exact absurd h1 hx
      · exact absurd rfl (inl_not h y (List.mem_filter.1 h1).1)
theorem asc_of {G : List Int} {a : Int} (hp : G.Pairwise (· < ·)) (hg : ∀ y ∈ G, gok y = true) (ha : ∀ y ∈ G, a < y) : asc a G = true := by
  induction G generalizing a with
  | nil => rfl
  | cons x G ih =>
    obtain ⟨h1, h2⟩ := List.pairwise_cons.1 hp
    simp only [asc, Bool.and_eq_true, decide_eq_true_eq]
    exact ⟨⟨ha x (List.mem_cons_self ..), hg x (List.mem_cons_self ..)⟩, ih h2 (fun y hy => hg y (List.mem_cons_of_mem _ hy)) h1⟩
theorem asc_gok {G : List Int} {a : Int} (h : asc a G = true) : ∀ y ∈ G, gok y = true := by
  induction G generalizing a with
  | nil => intro y hy; simp at hy
  | cons x G ih =>
    simp only [asc, Bool.and_eq_true, decide_eq_true_eq] at h
    intro y hy
    rcases List.mem_cons.1 hy with rfl | hy
    · exact h.1.2
    · exact ih h.2 y hy
theorem pin_gn {x : Int} {G : List Int} (h : gnOk G = true) (hx : gok x = true) (hn : ∀ y ∈ G, y ≠ x) (hl : G.length < 40) : gnOk (pin x G) = true ∧ (pin x G).length = G.length + 1 := by
  simp only [gnOk, Bool.and_eq_true, decide_eq_true_eq] at h ⊢
  have hp := asc_pair h.1
  have hk := asc_gok h.1
  have hlen : (pin x G).length = G.length + 1 := by
    rw [pin_place hp hn]
    rw [List.length_append, List.length_cons, List.length_take, List.length_drop]
    have := List.countP_le_length (p := fun y => decide (y < x)) (l := G)
    omega
  refine ⟨⟨asc_of ?_ ?_ ?_, by rw [hlen]; omega⟩, hlen⟩
  · unfold pin
    rw [List.pairwise_append, List.pairwise_cons]
    refine ⟨hp.filter _, ⟨fun y hy => by simpa using (List.mem_filter.1 hy).2, hp.filter _⟩, fun y hy z hz => ?_⟩
    have h1 : y < x := by simpa using (List.mem_filter.1 hy).2
    rcases List.mem_cons.1 hz with rfl | hz
    · exact h1
    · have h2 : x < z := by simpa using (List.mem_filter.1 hz).2
      omega
  · intro y hy
    unfold pin at hy
    rcases List.mem_append.1 hy with hy | hy
    · exact hk y (List.mem_filter.1 hy).1
    · rcases List.mem_cons.1 hy with rfl | hy
      · exact hx
      · exact hk y (List.mem_filter.1 hy).1
  · intro y hy
    have : gok y = true := by
      unfold pin at hy
      rcases List.mem_append.1 hy with hy | hy
      · exact hk y (List.mem_filter.1 hy).1
      · rcases List.mem_cons.1 hy with rfl | hy
        · exact hx
        · exact hk y (List.mem_filter.1 hy).1
    exact gok_pos this
theorem tk_right {g : Int} {nm : ByteArray} {t b nx : Int} {L : List M4} {G : List Int} {gid : Int} (h : bxOk g nm t b nx L G = true) : bxOk g nm t b nx (tkL (tkOk g nm t b nx L G gid) L gid) (tkG (tkOk g nm t b nx L G gid) G gid) = true := by
  cases hk : tkOk g nm t b nx L G gid with
  | false => rw [tkL_no, tkG_no]; exact h
  | true =>
    simp only [tkOk, Bool.and_eq_true, decide_eq_true_eq] at hk
    obtain ⟨h1, h2, h3, h4, h5, h6, h7, h8, h9⟩ := bx_iff.1 h
    obtain ⟨A, m, C, hL, hm, hA, hC⟩ := any_split h9 hk.2.1
    have hmem : m ∈ L := by rw [hL]; simp
    have hmm := h7 m hmem
    have hgk : gok gid = true := by
      have := hmm.1
      simp only [mlOk, Bool.and_eq_true] at this
      rw [← hm]
      exact this.1
    have hni : ∀ y ∈ G, y ≠ gid := by rw [← hm]; exact inl_not hmm.2.2
    have hsub := tk_sub true L gid
    rw [tkG, if_pos rfl]
    refine bx_iff.2 ⟨h1, h2, h3, h4, Nat.le_trans hsub.length_le h5, (pin_gn h6 hgk hni hk.2.2).1, fun x hx => ?_, upr_sub hsub h8, ?_⟩
    · have hx' := h7 x (hsub.subset hx)
      refine ⟨hx'.1, hx'.2.1, inl_pin hx'.2.2 ?_⟩
      rw [tkL, if_pos rfl] at hx
      simpa using (List.mem_filter.1 hx).2
    · unfold uq at h9 ⊢
      simp only [decide_eq_true_eq] at h9 ⊢
      exact h9.sublist (hsub.map _)
theorem am_right {g : Int} {nm : ByteArray} {t b nx : Int} {L : List M4} {G : List Int} {gid fl : Int} {tx : ByteArray} {st sb : Int} (h : bxOk g nm t b nx L G = true) : bxOk g nm t b (amN (amOk g nm t b nx L G gid fl tx st sb) nx) (amL (amOk g nm t b nx L G gid fl tx st sb) L (nwm gid nx fl tx st sb)) G = true := by
  cases hk : amOk g nm t b nx L G gid fl tx st sb with
  | false => rw [amN, amL, if_neg (by decide), if_neg (by decide)]; exact h
  | true =>
    rw [amN, amL, if_pos rfl, if_pos rfl]
    simp only [amOk, Bool.and_eq_true] at hk
    exact hk.2.2.2.2
end Go.Proofs.YtfmacodnjhegcabGreat

namespace Go.Proofs.YtfmacodnjhegcabGreat
open Go.RowKit

set_option maxHeartbeats 800000 in
set_option maxRecDepth 100000 in
/-- Two rows of the same numbers are told alike. -/
theorem sameInts_any (l1 h1 l2 h2 : Nat) (ao bo : Option Addr) (n ca cb : Nat) (G : List Int) (w : World) (hl : G.length = n) (hn : n ≤ 1048576) (ha : Is l1 h1 w ao G) (hb : Is l2 h2 w bo G) :
    Calls Tryz.prog 41 #[.slice ao n ca, .slice bo n cb] w fun e w' => e = .returned (.bool true) ∧ Below w.heap.size w w' := by
  have hnn : ((n : Int) != (n : Int)) = false := by simp
  have HA := hid ha
  have HB := hid hb
  have HL := hid hl
  clear ha hb hl
  go_enter Tryz.func41, Tryz.ntmps41
  go_wp2
  clear hnn
  go_loopw [5] (fun iv wr => ∃ i : Nat, i ≤ n ∧ iv = .int .i64 (i : Int) ∧ Below w.heap.size w wr) (fun iv _ => n - (intOf iv).toNat)
  case atStart => exact ⟨0, Nat.zero_le _, rfl, bre _⟩
  case round =>
    obtain ⟨i, hi, rfl, hb⟩ := hrel
    have HBE := hid hb
    clear hb
    by_cases hlt : i < n
    · have hil : i < G.length := by rw [HL.out]; exact hlt
      obtain ⟨k, o, rfl, hk, c⟩ := (HA.out.later HBE.out).at hil
      obtain ⟨k', o', rfl, hk', d⟩ := (HB.out.later HBE.out).at hil
      obtain ⟨x, hx⟩ : ∃ x, G[i] = x := ⟨_, rfl⟩
      rw [hx] at c d
      clear hx
      have hI : (0 : Int) ≤ (i : Int) ∧ (i : Int) < (n : Int) := by omega
      have hxx : (x != x) = false := by simp
      go_wp2_with fail
      go_quiet (fail)
      go_wp2
      go_roundw
      case rel => exact ⟨i + 1, by omega, by go_num, bdn HBE.out _⟩
      case measure => simp [intOf]; omega
    · go_wp2
      go_ret
      exact ⟨rfl, HBE.out⟩

theorem smail_self (g u : Int) (l : List R3) (t : ByteArray) : smail g u l t g u l t = true := by simp [smail]

set_option maxHeartbeats 1600000 in
set_option maxRecDepth 100000 in
/-- Two boxes of the same data are told alike. -/
theorem sameBox_any (l1 h1 l2 h2 l3 h3 l4 h4 : Nat) (g : Int) (nm : ByteArray) (t b nx : Int) (ma : Option Addr) (mn mc : Nat) (ga : Option Addr) (gn gc : Nat) (ma' : Option Addr) (mc' : Nat) (ga' : Option Addr) (gc' : Nat) (L : List M4) (G : List Int) (w : World) (hl : L.length = mn) (hn : mn ≤ 1048576) (hsm : Sm L) (hm : Ms l1 h1 w ma L) (hm' : Ms l2 h2 w ma' L)
    (hgl : G.length = gn) (hgn : gn ≤ 1048576) (hs : Is l3 h3 w ga G) (hs' : Is l4 h4 w ga' G) :
    Calls Tryz.prog 10 #[.agg #[.int .i64 g, .string nm, .int .i64 t, .int .i64 b, .int .i64 nx, .slice ma mn mc, .slice ga gn gc], .agg #[.int .i64 g, .string nm, .int .i64 t, .int .i64 b, .int .i64 nx, .slice ma' mn mc', .slice ga' gn gc']] w fun e w' => e = .returned (.bool true) ∧ Below w.heap.size w w' := by
  obtain ⟨W0, hW0⟩ : ∃ W0, ((w.alloc (.cells #[.int .i64 g, .string nm, .int .i64 t, .int .i64 b, .int .i64 nx, .slice ma mn mc, .slice ga gn gc] 29)).alloc (.cells #[.int .i64 g, .string nm, .int .i64 t, .int .i64 b, .int .i64 nx, .slice ma' mn mc', .slice ga' gn gc'] 29)) = W0 := ⟨_, rfl⟩
  obtain ⟨a0, a1, b0, _⟩ := two_boxes w _ _ _ _ _ _ _ _ _ _ _ _ _ _ _ _ W0 hW0
  have A0 := hid a0
  have A1 := hid a1
  have B0 := hid b0
  have c0 := a0.cells
  have c1 := a1.cells
  have HM := hid hm
  have HM' := hid hm'
  have HS := hid hs
  have HS' := hid hs'
  have HX := hid hsm
  have HL := hid hl
  have e1 : (g != g) = false := by simp
  have e2 : (nx != nx) = false := by simp
  have e3 : (!nm.toList == nm.toList) = false := by simp
  have e4 : (t != t) = false := by simp
  have e5 : (b != b) = false := by simp
  have e6 : ((mn : Int) != (mn : Int)) = false := by simp
  clear a0 a1 b0 hm hm' hs hs' hsm hl
  go_enter Tryz.func10, Tryz.ntmps10
  go_wp2_with fail
  clear hW0
  refine (sameInts_any l3 h3 l4 h4 ga ga' gn gc gc' G _ hgl hgn (HS.out.later B0.out) (HS'.out.later B0.out)).mono ?_; rintro e w1 ⟨rfl, hb1⟩
  have K0 := hid (A0.out.later hb1)
  have K1 := hid (A1.out.later hb1)
  have B1 := hid (btr B0.out hb1)
  clear hb1 A0 A1 B0 c0 c1 e1 e2 e3 e4 e5 e6
  go_wp2
  go_loopw [5] (fun iv wr => ∃ i : Nat, i ≤ mn ∧ iv = .int .i64 (i : Int) ∧ Bx wr w.heap.size 29 g nm t b nx (.slice ma mn mc) (.slice ga gn gc) ∧ Bx wr (w.heap.size + 1) 29 g nm t b nx (.slice ma' mn mc') (.slice ga' gn gc') ∧ Below w.heap.size w wr) (fun iv _ => mn - (intOf iv).toNat)
  case atStart => exact ⟨0, Nat.zero_le _, rfl, K0.out, K1.out, B1.out⟩
  case round =>
    obtain ⟨i, hi, rfl, hk0, hk1, hb⟩ := hrel
    have A0 := hid hk0
    have A1 := hid hk1
    have HBE := hid hb
    have c0 := hk0.cells
    clear hk0 hk1 hb K0 K1 B1
    by_cases hlt : i < mn
    · have hil : i < L.length := by rw [HL.out]; exact hlt
      obtain ⟨k, o, fa, fc, rfl, hk, c, hr1, _⟩ := (HM.out.later HBE.out).at hil
      obtain ⟨k', o', fa', fc', rfl, hk', d, hr2, _⟩ := (HM'.out.later HBE.out).at hil
      have hmem := HX.out L[i] (List.getElem_mem hil)
      obtain ⟨p, hp⟩ : ∃ p, L[i] = p := ⟨_, rfl⟩
      rw [hp] at c d hr1 hr2 hmem
      obtain ⟨g2, u, l, tx⟩ := p
      dsimp only at c d hr1 hr2 hmem
      obtain ⟨m, hm⟩ : ∃ m, l.length = m := ⟨_, rfl⟩
      rw [hm] at c d
      have HMM : Hid (m ≤ 1048576) := by show _ ≤ _; rw [← hm]; exact hmem.1
      have HLM := hid hm
      have HR1 := hid hr1
      have HR2 := hid hr2
      clear hp hm hmem hr1 hr2
      have hI : (0 : Int) ≤ (i : Int) ∧ (i : Int) < (mn : Int) := by omega
      have HSS : Hid (∀ W, Below wr.heap.size wr W → ((W.cell? ⟨w.heap.size, 5, none⟩ = some (.slice (some ⟨k, o, none⟩) mn mc) ∧ W.cell? ⟨w.heap.size + 1, 5, none⟩ = some (.slice (some ⟨k', o', none⟩) mn mc')) ∧ W.cell? ⟨k, o + i * 4, none⟩ = some (.int .i64 g2) ∧ W.cell? ⟨k, o + i * 4 + 1, none⟩ = some (.int .i64 u) ∧ W.cell? ⟨k, o + i * 4 + 2, none⟩ = some (.slice fa m fc) ∧ W.cell? ⟨k, o + i * 4 + 3, none⟩ = some (.string tx)) ∧ (W.cell? ⟨k', o' + i * 4, none⟩ = some (.int .i64 g2) ∧ W.cell? ⟨k', o' + i * 4 + 1, none⟩ = some (.int .i64 u) ∧ W.cell? ⟨k', o' + i * 4 + 2, none⟩ = some (.slice fa' m fc') ∧ W.cell? ⟨k', o' + i * 4 + 3, none⟩ = some (.string tx))) :=
        fun W h => ⟨⟨⟨(A0.out.later h).cells.2.2.2.2.2.1, (A1.out.later h).cells.2.2.2.2.2.1⟩, C4.later c hk h⟩, C4.later d hk' h⟩
      clear c d
      go_wp2_with fail
      go_region_held3 (fun W => ((W.cell? ⟨w.heap.size, 5, none⟩ = some (.slice (some ⟨k, o, none⟩) mn mc) ∧ W.cell? ⟨w.heap.size + 1, 5, none⟩ = some (.slice (some ⟨k', o', none⟩) mn mc')) ∧ W.cell? ⟨k, o + i * 4, none⟩ = some (.int .i64 g2) ∧ W.cell? ⟨k, o + i * 4 + 1, none⟩ = some (.int .i64 u) ∧ W.cell? ⟨k, o + i * 4 + 2, none⟩ = some (.slice fa m fc) ∧ W.cell? ⟨k, o + i * 4 + 3, none⟩ = some (.string tx)) ∧ (W.cell? ⟨k', o' + i * 4, none⟩ = some (.int .i64 g2) ∧ W.cell? ⟨k', o' + i * 4 + 1, none⟩ = some (.int .i64 u) ∧ W.cell? ⟨k', o' + i * 4 + 2, none⟩ = some (.slice fa' m fc') ∧ W.cell? ⟨k', o' + i * 4 + 3, none⟩ = some (.string tx)))
        ((refine HSS.out _ ?_; repeat (first | exact bdr (bre _) | refine btr ?_ (by assumption))))
        ((go_at_call 15; refine (specSame_any g2 u fa m fc l tx g2 u fa' m fc' l tx _ HLM.out HLM.out HMM.out (HR1.out.later (by repeat (first | exact bdr (bre _) | exact bre _ | refine btr ?_ (by assumption)))) (HR2.out.later (by repeat (first | exact bdr (bre _) | exact bre _ | refine btr ?_ (by assumption))))).mono ?_; rintro e w1 ⟨rfl, hb1⟩; rw [smail_self]))
      have HB1 : Hid (Below wr.heap.size wr w1) := by show Below _ _ _; repeat (first | exact bdr (bre _) | refine btr ?_ (by assumption))
      clear c0
      go_wp2
      go_roundw
      case rel => exact ⟨i + 1, by omega, by go_num, A0.out.later HB1.out, A1.out.later HB1.out, btr HBE.out HB1.out⟩
      case measure => simp [intOf]; omega
    · go_wp2
      go_ret
      exact ⟨rfl, HBE.out⟩
end Go.Proofs.YtfmacodnjhegcabGreat

namespace Go.Proofs.YtfmacodnjhegcabGreat
open Go.RowKit Go.ChangeMaps

def gdm (m : M4) : Prop := (10 ≤ m.1 ∧ m.1 ≤ 18) ∧ ∀ p ∈ m.2.2.1, gd p
/-- What a drawn box is behind k steps. -/
structure Dbx (k : Nat) (g : Int) (nm : ByteArray) (t b nx : Int) (L : List M4) (G : List Int) : Prop where
  right : bxOk g nm t b nx L G = true
  next : nx ≤ 4 + (k : Int)
  gone : G.length ≤ k
  each : ∀ m ∈ L, gdm m
  out : ∀ x ∈ G, 10 ≤ x ∧ x ≤ 18
section
variable {k : Nat} {g : Int} {nm : ByteArray} {t b nx : Int} {L : List M4} {G : List Int}
theorem Dbx.mono {k' : Nat} (h : Dbx k g nm t b nx L G) (hk : k ≤ k') : Dbx k' g nm t b nx L G :=
  ⟨h.right, by have := h.next; omega, Nat.le_trans h.gone hk, h.each, h.out⟩
theorem gd_fnew {fl st sb : Int} (hs : 0 ≤ st ∧ st < 12 ∧ 1 ≤ sb ∧ sb ≤ 2) : ∀ p ∈ fnew fl st sb, gd p := by
  intro p hp
  simp only [fnew, List.mem_cons, List.not_mem_nil, or_false] at hp
  have h0 := bit_le fl 0
  have h1 := bit_le fl 1
  have h2 := bit_le fl 2
  rcases hp with rfl | rfl | rfl
  · exact ⟨⟨h0.1, by omega⟩, hs⟩
  · exact ⟨⟨h1.1, by omega⟩, hs⟩
  · exact ⟨⟨h2.1, by omega⟩, hs⟩
theorem gd_sl {l : List R3} {n st sb : Int} (hs : 0 ≤ st ∧ st < 12 ∧ 1 ≤ sb ∧ sb ≤ 2) (h : ∀ p ∈ l, gd p) : ∀ p ∈ sl l n st sb, gd p := by
  intro p hp
  unfold sl at hp
  split at hp
  · obtain ⟨i, hi, rfl⟩ := List.mem_mapIdx.1 hp
    have ho := h l[i] (List.getElem_mem hi)
    unfold sp
    split
    · exact ho
    · unfold pp
      split
      · have h0 := bit_le n i
        exact ⟨⟨h0.1, by show bit n i < 2; omega⟩, hs⟩
      · exact ho
  · exact h p hp
theorem Dbx.add {gid fl : Int} {tx : ByteArray} {st sb : Int} (h : Dbx k g nm t b nx L G) (hg : 10 ≤ gid ∧ gid ≤ 18) (hs : 0 ≤ st ∧ st < 12 ∧ 1 ≤ sb ∧ sb ≤ 2) :
    Dbx (k + 1) g nm t b (amN (amOk g nm t b nx L G gid fl tx st sb) nx) (amL (amOk g nm t b nx L G gid fl tx st sb) L (nwm gid nx fl tx st sb)) G := by
  refine ⟨am_right h.right, ?_, Nat.le_succ_of_le h.gone, fun m hm => ?_, h.out⟩
  · have := h.next
    unfold amN
    split <;> omega
  · unfold amL at hm
    split at hm
    · rcases List.mem_append.1 hm with hm | hm
      · exact h.each m hm
      · simp only [List.mem_cons, List.not_mem_nil, or_false] at hm
        subst hm
        exact ⟨hg, gd_fnew hs⟩
    · exact h.each m hm
theorem Dbx.flag {p : Bool} {gid n st sb : Int} (h : Dbx k g nm t b nx L G) (hs : 0 ≤ st ∧ st < 12 ∧ 1 ≤ sb ∧ sb ≤ 2) :
    Dbx (k + 1) g nm t b nx (fmL p L gid n st sb) G := by
  refine ⟨fm_right h.right, by have := h.next; omega, Nat.le_succ_of_le h.gone, fun m hm => ?_, h.out⟩
  unfold fmL at hm
  split at hm
  · obtain ⟨x, hx, rfl⟩ := List.mem_map.1 hm
    have hx' := h.each x hx
    split
    · exact ⟨hx'.1, gd_sl hs hx'.2⟩
    · exact hx'
  · exact h.each m hm
theorem Dbx.take {gid : Int} (h : Dbx k g nm t b nx L G) (hg : 10 ≤ gid ∧ gid ≤ 18) :
    Dbx (k + 1) g nm t b nx (tkL (tkOk g nm t b nx L G gid) L gid) (tkG (tkOk g nm t b nx L G gid) G gid) := by
  refine ⟨tk_right h.right, by have := h.next; omega, ?_, fun m hm => h.each m ((tk_sub _ L gid).subset hm), fun x hx => ?_⟩
  · unfold tkG
    split
    · next hk =>
      simp only [tkOk, Bool.and_eq_true, decide_eq_true_eq] at hk
      obtain ⟨h1, h2, h3, h4, h5, h6, h7, h8, h9⟩ := bx_iff.1 h.right
      obtain ⟨A, m, C, hL, hm, hA, hC⟩ := any_split h9 hk.2.1
      have hmm := h7 m (by rw [hL]; simp)
      have hgk : gok gid = true := by
        have := hmm.1
        simp only [mlOk, Bool.and_eq_true] at this
        rw [← hm]
        exact this.1
      have hni : ∀ y ∈ G, y ≠ gid := by rw [← hm]; exact inl_not hmm.2.2
      rw [(pin_gn h6 hgk hni hk.2.2).2]
      have := h.gone
      omega
    · exact Nat.le_succ_of_le h.gone
  · unfold tkG at hx
    split at hx
    · unfold pin at hx
      rcases List.mem_append.1 hx with hx | hx
      · exact h.out x (List.mem_filter.1 hx).1
      · rcases List.mem_cons.1 hx with rfl | hx
        · exact hg
        · exact h.out x (List.mem_filter.1 hx).1
    · exact h.out x hx
end
theorem dbx_start {nm : ByteArray} {t b : Int} (y : Nat) (hn : nmOk nm = true) (hs : 0 ≤ t ∧ t < 12 ∧ 1 ≤ b ∧ b ≤ 2) (hy : y < 4) : Dbx 0 7 nm t b (1 + (y : Int)) [] [] := by
  refine ⟨bx_iff.2 ⟨by decide, hn, by simp only [stOk, decide_eq_true_eq]; omega, ⟨by omega, by omega⟩, by simp, by decide, fun m hm => by simp at hm, List.Pairwise.nil, by decide⟩, by omega, by simp, fun m hm => by simp at hm, fun x hx => by simp at hx⟩
theorem Dbx.sm {k : Nat} {g : Int} {nm : ByteArray} {t b nx : Int} {L : List M4} {G : List Int} (h : Dbx k g nm t b nx L G) : L.length ≤ 10 ∧ G.length ≤ 40 ∧ Sm L ∧ nm.size ≤ 12 := by
  obtain ⟨h1, h2, h3⟩ := bx_small h.right
  refine ⟨h1, h2, fun m hm => ?_, ?_⟩
  · have := h3 m hm
    omega
  · have := (bx_iff.1 h.right).2.1
    simp only [nmOk, Bool.and_eq_true, decide_eq_true_eq] at this
    omega
end Go.Proofs.YtfmacodnjhegcabGreat

namespace Go.Proofs.YtfmacodnjhegcabGreat
open Go.RowKit Go.ChangeMaps

theorem own_none {W : World} {B e size n c m : Nat} {a : Option Addr} {xs : List Value} (h : W.ownsRow B e size (.slice a n c) m xs) : a = none → c = 0 := by
  intro ha
  subst ha
  rcases h.2 with ⟨h1, _⟩ | ⟨g, cap, cur, h1, _⟩
  · simpa using congrArg (fun v => match v with | .slice _ _ c => c | _ => 0) h1
  · simp at h1
theorem OwB.shape {W : World} {B : Nat} {mv gv : Value} {L : List M4} {G : List Int} (h : OwB W B mv gv L G) : ∃ a c a' c', mv = .slice a L.length c ∧ gv = .slice a' G.length c' := by
  obtain ⟨Z, rfl, h2, h3, _⟩ := h
  obtain ⟨a, c, hv⟩ := h2.shape
  obtain ⟨a', c', hv', _⟩ := h3.shape
  exact ⟨a, c, a', c', by rw [List.length_map]; exact hv, hv'⟩
theorem OwB.none {W : World} {B n c n' c' : Nat} {a a' : Option Addr} {L : List M4} {G : List Int} (h : OwB W B (.slice a n c) (.slice a' n' c') L G) : (a = none → c = 0) ∧ (a' = none → c' = 0) := by
  obtain ⟨Z, _, h2, h3, _⟩ := h
  exact ⟨own_none h2.row, own_none h3⟩
theorem OwB.nil (W : World) (B : Nat) : OwB W B (.slice .none 0 0) (.slice .none 0 0) [] [] :=
  ⟨[], rfl, ⟨World.ownsRow_nil _ _ _ _, fun z hz => by simp at hz, fun z hz => by simp at hz, List.Pairwise.nil⟩, World.ownsRow_nil _ _ _ _, Dj.nil _, fun z hz => by simp at hz⟩

section
variable {k : Nat} {g : Int} {nm : ByteArray} {t b nx : Int} {L : List M4} {G : List Int}
theorem add_l (h : Dbx k g nm t b nx L G) (mn gn : Nat) (hl : L.length = mn) (hgl : G.length = gn) (gid fl : Int) (tx : ByteArray) (st sb : Int) (hg : 10 ≤ gid ∧ gid ≤ 18) (hs : 0 ≤ st ∧ st < 12 ∧ 1 ≤ sb ∧ sb ≤ 2) (htx : tx.size ≤ 1048576) :
    ∃ (p : Bool) (ny : Int) (K : List M4) (N : Nat), Hid (K.length = N) ∧ Hid (Dbx (k + 1) g nm t b ny K G) ∧
      Hid (∀ (lo hh lo' hh' : Nat) (ma : Option Addr) (mc : Nat) (ga : Option Addr) (gc : Nat) (w : World), Ms lo hh w ma L → Is lo' hh' w ga G → (ga = none → gc = 0) →
        Calls Tryz.prog 20 #[.agg #[.int .i64 g, .string nm, .int .i64 t, .int .i64 b, .int .i64 nx, .slice ma mn mc, .slice ga gn gc], .int .i64 gid, .int .i64 fl, .string tx, .agg #[.int .i64 st, .int .i64 sb]] w fun e w' => ∃ a c a' c', e = .returned (.tuple #[.agg #[.int .i64 g, .string nm, .int .i64 t, .int .i64 b, .int .i64 ny, .slice a N c, .slice a' gn c'], .bool p]) ∧ OwB w' w.heap.size (.slice a N c) (.slice a' gn c') K G ∧ Below w.heap.size w w') := by
  obtain ⟨h1, h2, h3, h4⟩ := h.sm
  refine ⟨amOk g nm t b nx L G gid fl tx st sb, amN (amOk g nm t b nx L G gid fl tx st sb) nx, amL (amOk g nm t b nx L G gid fl tx st sb) L (nwm gid nx fl tx st sb), _, rfl, h.add (gid := gid) (fl := fl) (tx := tx) hg hs, fun lo hh lo' hh' ma mc ga gc w hm hi h0 => ?_⟩
  refine (specAdd_any lo hh lo' hh' g nm t b nx ma mn mc ga gn gc L G gid fl tx st sb w (by omega) hl (by omega) h3 hm hgl (by omega) hi h0 htx).mono ?_
  rintro e w' ⟨mv, gv, rfl, ho, hb⟩
  obtain ⟨a, c, a', c', rfl, rfl⟩ := ho.shape
  rw [hgl] at ho ⊢
  exact ⟨a, c, a', c', rfl, ho, hb⟩
theorem flag_l (h : Dbx k g nm t b nx L G) (mn gn : Nat) (hl : L.length = mn) (hgl : G.length = gn) (gid n st sb : Int) (hs : 0 ≤ st ∧ st < 12 ∧ 1 ≤ sb ∧ sb ≤ 2) :
    ∃ (p : Bool) (K : List M4), Hid (K.length = mn) ∧ Hid (Dbx (k + 1) g nm t b nx K G) ∧
      Hid (∀ (lo hh lo' hh' : Nat) (ma : Option Addr) (mc : Nat) (ga : Option Addr) (gc : Nat) (w : World), Ms lo hh w ma L → Is lo' hh' w ga G → (ga = none → gc = 0) →
        Calls Tryz.prog 22 #[.agg #[.int .i64 g, .string nm, .int .i64 t, .int .i64 b, .int .i64 nx, .slice ma mn mc, .slice ga gn gc], .int .i64 gid, .int .i64 n, .agg #[.int .i64 st, .int .i64 sb]] w fun e w' => ∃ a c a' c', e = .returned (.tuple #[.agg #[.int .i64 g, .string nm, .int .i64 t, .int .i64 b, .int .i64 nx, .slice a mn c, .slice a' gn c'], .bool p]) ∧ OwB w' w.heap.size (.slice a mn c) (.slice a' gn c') K G ∧ Below w.heap.size w w') := by
  obtain ⟨h1, h2, h3, h4⟩ := h.sm
  refine ⟨fmOk g nm t b nx L G gid n st sb, fmL (fmOk g nm t b nx L G gid n st sb) L gid n st sb, ?_, h.flag (p := fmOk g nm t b nx L G gid n st sb) (gid := gid) (n := n) hs, fun lo hh lo' hh' ma mc ga gc w hm hi h0 => ?_⟩
  · show _ = _
    rw [fmL_len, hl]
  refine (specFlag_any lo hh lo' hh' g nm t b nx ma mn mc ga gn gc L G gid n st sb w (by omega) hl (by omega) h3 hm hgl (by omega) hi h0).mono ?_
  rintro e w' ⟨mv, gv, rfl, ho, hb⟩
  obtain ⟨a, c, a', c', rfl, rfl⟩ := ho.shape
  rw [fmL_len, hl, hgl] at ho ⊢
  exact ⟨a, c, a', c', rfl, ho, hb⟩
theorem take_l (h : Dbx k g nm t b nx L G) (mn gn : Nat) (hl : L.length = mn) (hgl : G.length = gn) (gid : Int) (hg : 10 ≤ gid ∧ gid ≤ 18) :
    ∃ (p : Bool) (K : List M4) (H : List Int) (N M : Nat), Hid (K.length = N) ∧ Hid (H.length = M) ∧ Hid (Dbx (k + 1) g nm t b nx K H) ∧
      Hid (∀ (lo hh lo' hh' : Nat) (ma : Option Addr) (mc : Nat) (ga : Option Addr) (gc : Nat) (w : World), Ms lo hh w ma L → Is lo' hh' w ga G → (ga = none → gc = 0) →
        Calls Tryz.prog 24 #[.agg #[.int .i64 g, .string nm, .int .i64 t, .int .i64 b, .int .i64 nx, .slice ma mn mc, .slice ga gn gc], .int .i64 gid] w fun e w' => ∃ a c a' c', e = .returned (.tuple #[.agg #[.int .i64 g, .string nm, .int .i64 t, .int .i64 b, .int .i64 nx, .slice a N c, .slice a' M c'], .bool p]) ∧ OwB w' w.heap.size (.slice a N c) (.slice a' M c') K H ∧ Below w.heap.size w w') := by
  obtain ⟨h1, h2, h3, h4⟩ := h.sm
  refine ⟨tkOk g nm t b nx L G gid, tkL (tkOk g nm t b nx L G gid) L gid, tkG (tkOk g nm t b nx L G gid) G gid, _, _, rfl, rfl, h.take (gid := gid) hg, fun lo hh lo' hh' ma mc ga gc w hm hi h0 => ?_⟩
  refine (specTake_any lo hh lo' hh' g nm t b nx ma mn mc ga gn gc L G gid w (by omega) hl (by omega) h3 hm hgl (by omega) hi h0).mono ?_
  rintro e w' ⟨mv, gv, rfl, ho, hb⟩
  obtain ⟨a, c, a', c', rfl, rfl⟩ := ho.shape
  exact ⟨a, c, a', c', rfl, ho, hb⟩
end
end Go.Proofs.YtfmacodnjhegcabGreat

namespace Go.Proofs.YtfmacodnjhegcabGreat
open Go.RowKit Go.ChangeMaps

/-- One of a row of texts that lies in another block: which. -/
theorem pickm_any (cb g k : Nat) (zs : List ByteArray) (ao : Option Addr) (n cap : Nat) (w : World) (hn : n ≤ 1048576) (hcur : Cur w cb ao n cap) (hcode : Code w cb ao n) (hk : zs.length = k) (hk0 : 0 < k) (hk2 : k ≤ 1000) (hg : g ≠ cb)
    (hcell : ∀ i (h : i < zs.length), w.cell? ⟨g, i, none⟩ = some (.string zs[i])) :
    Calls Tryz.prog 64 #[.pointer (some ⟨cb, 0, none⟩), .slice (some ⟨g, 0, none⟩) k k] w fun e w' => ∃ x : ByteArray, x ∈ zs ∧ e = .returned (.string x) ∧ Cur w' cb ao n cap ∧ w.grownBy w' (some cb) := by
  have HC := hide hcur
  have HO := hide hcode
  have HK := hide hk
  have HCELL := hide hcell
  clear hcur hcode hk hcell
  go_enter Tryz.func64, Tryz.ntmps64
  go_wp2_with fail
  refine (below4 cb ao n cap _ hn (unhide HC) (unhide HO) k (by omega) (by omega)).mono ?_; rintro e w1 ⟨x, hx, rfl, hc1, hb1⟩
  have hxl : x < zs.length := by rw [unhide HK]; omega
  obtain ⟨y, hy⟩ : ∃ y, zs[x] = y := ⟨_, rfl⟩
  have hc : w1.cell? ⟨g, x, none⟩ = some (.string y) := hb1.cell (by rw [← hy]; exact unhide HCELL x hxl) (by simp; omega)
  have HY : Hid (y ∈ zs) := by show _ ∈ _; rw [← hy]; exact List.getElem_mem _
  have HC1 := hide hc1
  have hI : (0 : Int) ≤ (x : Int) ∧ (x : Int) < (k : Int) := by omega
  clear hc1 hy
  go_wp2
  go_ret
  exact ⟨y, HY.out, rfl, unhide HC1, hb1⟩

theorem three_strs {W : World} {k e : Nat} {a b c : ByteArray} (h : W.heap[k]? = some (.cells #[.string a, .string b, .string c] e (0, 0))) : ∀ i (h : i < [a, b, c].length), W.cell? ⟨k, i, none⟩ = some (.string [a, b, c][i]) := by
  intro i hi
  have h2 : i = 0 ∨ i = 1 ∨ i = 2 := by simp at hi; omega
  rcases h2 with rfl | rfl | rfl
  · exact cell_of_row _ _ 0 _ _ _ h
  · exact cell_of_row _ _ 1 _ _ _ h
  · exact cell_of_row _ _ 2 _ _ _ h

/-- Ahead of the box: the answer's block, a stamp, the cursor. -/
structure Pb (w W : World) (cb : Nat) (ao : Option Addr) (n cap kS : Nat) (t b : Int) : Prop where
  res : Bx W w.heap.size 29 0 ⟨#[]⟩ 0 0 0 (.slice none 0 0) (.slice none 0 0)
  sg : Sg W kS 25 t b
  cur : Cur W cb ao n cap
  gr : w.grownBy W (some cb)
  lo : w.heap.size < kS
  hi : cb < w.heap.size
section
variable {w W W' : World} {cb : Nat} {ao : Option Addr} {n cap kS : Nat} {t b : Int}
theorem Pb.drew (h : Pb w W cb ao n cap kS t b) : Pb w W.drew cb ao n cap kS t b := ⟨h.res, h.sg, h.cur, gdr h.gr, h.lo, h.hi⟩
theorem Pb.alloc (h : Pb w W cb ao n cap kS t b) (o : Obj) : Pb w (W.alloc o) cb ao n cap kS t b :=
  ⟨h.res.later (bpush (bre _) _), h.sg.later (bpush (bre _) _), h.cur.alloc _, gal h.gr _, h.lo, h.hi⟩
theorem Pb.draw (h : Pb w W cb ao n cap kS t b) (hg : W.grownBy W' (some cb)) (hc : Cur W' cb ao n cap) : Pb w W' cb ao n cap kS t b := by
  have h1 := h.lo
  have h2 := h.hi
  exact ⟨h.res.grown hg (fun e => by simp only [Option.some.injEq] at e; omega), h.sg.kept hg (by omega), hc, only_trans h.gr hg, h.lo, h.hi⟩
theorem Pb.size (h : Pb w W cb ao n cap kS t b) : w.heap.size < W.heap.size := h.res.lt
end
theorem Bx.far {W W' : World} {k ty cb : Nat} {g : Int} {nm : ByteArray} {t b nx : Int} {ms gs : Value} (h : Bx W k ty g nm t b nx ms gs) (hg : W.grownBy W' (some cb)) (hk : k ≠ cb) : Bx W' k ty g nm t b nx ms gs := h.grown hg (fun e => by simp only [Option.some.injEq] at e; omega)

/-- While a box is drawn. -/
structure Lb (w W : World) (cb : Nat) (ao : Option Addr) (n cap kb k : Nat) (nm : ByteArray) (t b nx : Int) (ma : Option Addr) (mn mc : Nat) (ga : Option Addr) (gn gc : Nat) (L : List M4) (G : List Int) : Prop where
  res : Bx W w.heap.size 29 0 ⟨#[]⟩ 0 0 0 (.slice none 0 0) (.slice none 0 0)
  box : Bx W kb 29 7 nm t b nx (.slice ma mn mc) (.slice ga gn gc)
  own : OwB W (kb + 1) (.slice ma mn mc) (.slice ga gn gc) L G
  dbx : Dbx k 7 nm t b nx L G
  cur : Cur W cb ao n cap
  gr : w.grownBy W (some cb)
  lo : w.heap.size < kb
  hi : cb < w.heap.size
section
variable {w W W' : World} {cb : Nat} {ao : Option Addr} {n cap kb k : Nat} {nm : ByteArray} {t b nx : Int} {ma : Option Addr} {mn mc : Nat} {ga : Option Addr} {gn gc : Nat} {L : List M4} {G : List Int}
theorem Lb.drew (h : Lb w W cb ao n cap kb k nm t b nx ma mn mc ga gn gc L G) : Lb w W.drew cb ao n cap kb k nm t b nx ma mn mc ga gn gc L G :=
  ⟨h.res, h.box, h.own.later (bdr (bre _)), h.dbx, h.cur, gdr h.gr, h.lo, h.hi⟩
theorem Lb.later (h : Lb w W cb ao n cap kb k nm t b nx ma mn mc ga gn gc L G) (hb : Below W.heap.size W W') : Lb w W' cb ao n cap kb k nm t b nx ma mn mc ga gn gc L G :=
  ⟨h.res.later hb, h.box.later hb, h.own.later hb, h.dbx, h.cur.later hb h.cur.lt, only_add h.gr (hb.mono h.gr.size), h.lo, h.hi⟩
theorem Lb.draw (h : Lb w W cb ao n cap kb k nm t b nx ma mn mc ga gn gc L G) (hg : W.grownBy W' (some cb)) (hc : Cur W' cb ao n cap) : Lb w W' cb ao n cap kb k nm t b nx ma mn mc ga gn gc L G := by
  have h1 := h.lo
  have h2 := h.hi
  exact ⟨h.res.far hg (by omega), h.box.far hg (by omega), h.own.grown hg (by omega), h.dbx, hc, only_trans h.gr hg, h.lo, h.hi⟩
theorem Lb.reads (h : Lb w W cb ao n cap kb k nm t b nx ma mn mc ga gn gc L G) : mn = L.length ∧ gn = G.length ∧ Ms (kb + 1) W.heap.size W ma L ∧ Is (kb + 1) W.heap.size W ga G := h.own.reads
/-- Another box stored in its place. -/
theorem Lb.put {k' : Nat} {nx' : Int} {a : Option Addr} {N c : Nat} {a' : Option Addr} {M c' : Nat} {K : List M4} {H : List Int} {wv : World} (h : Lb w W cb ao n cap kb k nm t b nx ma mn mc ga gn gc L G) (hb : Below W.heap.size W wv) (ho : OwB wv W.heap.size (.slice a N c) (.slice a' M c') K H) (hd : Dbx k' 7 nm t b nx' K H) :
    Lb w (((((((wv.setCell ⟨kb, 0, none⟩ (.int .i64 7)).setCell ⟨kb, 1, none⟩ (.string nm)).setCell ⟨kb, 2, none⟩ (.int .i64 t)).setCell ⟨kb, 3, none⟩ (.int .i64 b)).setCell ⟨kb, 4, none⟩ (.int .i64 nx')).setCell ⟨kb, 5, none⟩ (.slice a N c)).setCell ⟨kb, 6, none⟩ (.slice a' M c')) cb ao n cap kb k' nm t b nx' a N c a' M c' K H := by
  have h1 := h.lo
  have h2 := h.hi
  have h3 := h.box.lt
  have hl := h.later hb
  have hg := set7_grown wv kb 7 nm t b nx' (.slice a N c) (.slice a' M c')
  have hx := hl.box.set7 7 nm t b nx' (.slice a N c) (.slice a' M c')
  unfold set7 at hg hx
  refine ⟨hl.res.far hg (by omega), hx, ?_, hd, ?_, ?_, h1, h2⟩
  · exact (ho.base (B := kb + 1) (by omega)).grown hg (by omega)
  · exact ((((((hl.cur.set (by omega)).set (by omega)).set (by omega)).set (by omega)).set (by omega)).set (by omega)).set (by omega)
  · exact gset (gset (gset (gset (gset (gset (gset hl.gr (by omega) _ _) (by omega) _ _) (by omega) _ _) (by omega) _ _) (by omega) _ _) (by omega) _ _) (by omega) _ _
end
theorem nm_three {nm : ByteArray} (h : nm ∈ ([⟨#[105, 110, 98, 111, 120]⟩, ⟨#[119, 111, 114, 107]⟩, ⟨#[111, 108, 100, 57]⟩] : List ByteArray)) : nmOk nm = true := by
  simp only [List.mem_cons, List.not_mem_nil, or_false] at h
  rcases h with rfl | rfl | rfl <;> decide
theorem Lb.first {w W : World} {cb : Nat} {ao : Option Addr} {n cap kS k : Nat} {nm : ByteArray} {t b nx : Int} (h : Pb w W cb ao n cap kS t b) (hx : Bx W k 29 0 ⟨#[]⟩ 0 0 0 (.slice none 0 0) (.slice none 0 0)) (hk : w.heap.size < k) (hs : kS ≠ k) (hd : Dbx 0 7 nm t b nx [] []) :
    Lb w (((((((W.setCell ⟨k, 0, none⟩ (.int .i64 7)).setCell ⟨k, 1, none⟩ (.string nm)).setCell ⟨k, 2, none⟩ (.int .i64 t)).setCell ⟨k, 3, none⟩ (.int .i64 b)).setCell ⟨k, 4, none⟩ (.int .i64 nx)).setCell ⟨k, 5, none⟩ (.slice none 0 0)).setCell ⟨k, 6, none⟩ (.slice none 0 0)) cb ao n cap k 0 nm t b nx none 0 0 none 0 0 [] [] ∧
    Sg (((((((W.setCell ⟨k, 0, none⟩ (.int .i64 7)).setCell ⟨k, 1, none⟩ (.string nm)).setCell ⟨k, 2, none⟩ (.int .i64 t)).setCell ⟨k, 3, none⟩ (.int .i64 b)).setCell ⟨k, 4, none⟩ (.int .i64 nx)).setCell ⟨k, 5, none⟩ (.slice none 0 0)).setCell ⟨k, 6, none⟩ (.slice none 0 0)) kS 25 t b := by
  have h2 := h.hi
  have hg := set7_grown W k 7 nm t b nx (.slice none 0 0) (.slice none 0 0)
  have hy := hx.set7 7 nm t b nx (.slice none 0 0) (.slice none 0 0)
  unfold set7 at hg hy
  refine ⟨⟨h.res.far hg (by omega), hy, OwB.nil _ _, hd, ?_, ?_, hk, h2⟩, h.sg.kept hg hs⟩
  · exact ((((((h.cur.set (by omega)).set (by omega)).set (by omega)).set (by omega)).set (by omega)).set (by omega)).set (by omega)
  · exact gset (gset (gset (gset (gset (gset (gset h.gr (by omega) _ _) (by omega) _ _) (by omega) _ _) (by omega) _ _) (by omega) _ _) (by omega) _ _) (by omega) _ _
theorem Lb.firstA {w W : World} {cb : Nat} {ao : Option Addr} {n cap kS : Nat} {nm : ByteArray} {t b nx : Int} (h : Pb w W cb ao n cap kS t b) (hd : Dbx 0 7 nm t b nx [] []) :
    Lb w (W.alloc (.cells #[.int .i64 7, .string nm, .int .i64 t, .int .i64 b, .int .i64 nx, .slice none 0 0, .slice none 0 0] 29)) cb ao n cap W.heap.size 0 nm t b nx none 0 0 none 0 0 [] [] ∧
    Sg (W.alloc (.cells #[.int .i64 7, .string nm, .int .i64 t, .int .i64 b, .int .i64 nx, .slice none 0 0, .slice none 0 0] 29)) kS 25 t b := by
  have hp := h.alloc (.cells #[.int .i64 7, .string nm, .int .i64 t, .int .i64 b, .int .i64 nx, .slice none 0 0, .slice none 0 0] 29)
  exact ⟨⟨hp.res, Bx.new _ _ _ _ _ _ _ _ _, OwB.nil _ _, hd, hp.cur, hp.gr, h.res.lt, h.hi⟩, hp.sg⟩
/-- How a call ends that draws a box. -/
def Box1 (cb : Nat) (ao : Option Addr) (n cap : Nat) (w : World) (e : Ending) (w' : World) : Prop :=
  ∃ (nm : ByteArray) (t b nx : Int) (ma : Option Addr) (mn mc : Nat) (ga : Option Addr) (gn gc : Nat) (L : List M4) (G : List Int), e = .returned (.agg #[.int .i64 7, .string nm, .int .i64 t, .int .i64 b, .int .i64 nx, .slice ma mn mc, .slice ga gn gc]) ∧ Dbx 11 7 nm t b nx L G ∧ OwB w' (w.heap.size + 1) (.slice ma mn mc) (.slice ga gn gc) L G ∧ Cur w' cb ao n cap ∧ w.grownBy w' (some cb)
/-- The round's state, its lists whatever they are. -/
def Lx (w W : World) (cb : Nat) (ao : Option Addr) (n cap kb k : Nat) (nm : ByteArray) (t b : Int) : Prop :=
  ∃ (nx : Int) (ma : Option Addr) (mn mc : Nat) (ga : Option Addr) (gn gc : Nat) (L : List M4) (G : List Int), Lb w W cb ao n cap kb k nm t b nx ma mn mc ga gn gc L G

set_option maxHeartbeats 16000000 in
set_option maxRecDepth 100000 in
theorem l06Box_any (cb : Nat) (ao : Option Addr) (n cap : Nat) (w : World) (hn : n ≤ 1048576) (hcur : Cur w cb ao n cap) (hcode : Code w cb ao n) :
    Calls Tryz.prog 30 #[.pointer (some ⟨cb, 0, none⟩)] w fun e w' => Box1 cb ao n cap w e w' := by
  have hlt := hcur.lt
  have R0 := hid (Bx.new w 29 0 ⟨#[]⟩ 0 0 0 (.slice none 0 0) (.slice none 0 0))
  have C0 := hid (hcur.alloc (.cells #[.int .i64 0, .string ⟨#[]⟩, .int .i64 0, .int .i64 0, .int .i64 0, .slice none 0 0, .slice none 0 0] 29))
  have HO := hid hcode
  have G0 := hid (World.grownBy_alloc w (.cells #[.int .i64 0, .string ⟨#[]⟩, .int .i64 0, .int .i64 0, .int .i64 0, .slice none 0 0, .slice none 0 0] 29) (some cb))
  clear hcur hcode
  go_enter Tryz.func30, Tryz.ntmps30
  go_wp2_with fail
  refine (l03Stamp_any cb ao n cap _ hn C0.out (HO.out.later G0.out)).mono ?_; rintro e w1 ⟨t, b, htb, rfl, hc1, hg1⟩
  have HTB := hid htb
  obtain ⟨W1, hW1⟩ : ∃ W1, w1.alloc (.cells #[.int .i64 t, .int .i64 b] 25) = W1 := ⟨_, rfl⟩
  obtain ⟨kS, hkS⟩ : ∃ kS, w1.heap.size = kS := ⟨_, rfl⟩
  have PS : Hid (Pb w W1.drew cb ao n cap kS t b) := by
    subst hkS
    subst hW1
    have h1 : Bx w1 w.heap.size 29 0 ⟨#[]⟩ 0 0 0 (.slice none 0 0) (.slice none 0 0) := R0.out.far hg1 (by omega)
    exact Pb.drew ⟨h1.later (bpush (bre _) _), Sg.new w1 _ t b, hc1.alloc _, gal (only_trans G0.out hg1) _, h1.lt, hlt⟩
  clear hc1 hg1 htb R0 C0 G0
  go_wp2_with fail
  try rw [hkS]
  try rw [hW1]
  clear hW1 hkS
  go_cut [4] from 8 (fun s wx => ∃ (kb : Nat) (nm : ByteArray), s = .pointer (some ⟨kb, 0, none⟩) ∧ Lx w wx cb ao n cap kb 0 nm t b)
  case first =>
    refine wp_region_noPanic ?_
    refine wp_region_held_drew (S := (fun W => W.cell? ⟨kS, 0, none⟩ = some (.int .i64 t) ∧ W.cell? ⟨kS, 1, none⟩ = some (.int .i64 b))) (by kernel_rfl) (PS.out.sg.cells) (fun hHeld => ?_)
    refine wpAnyH_take (i := 0) (oi := { dst := some 10, op := Op.move (Operand.tmp 0), type := 54, pos := "l06_box.go:118", after := #[], guard := none }) (v := ?vb1_0) rfl (by kernel_rfl) (by kernel_rfl) (by kernel_rfl) (fun _ _ _ h => h) (Or.inl ⟨by rfl, ?hyb1_0⟩) (by assumption) ?restb1_0
    case hyb1_0 => (intro w hSw; (try dsimp only at hSw); go_simp; try with_reducible rfl)
    try simp only [Act.put, List.setIfInBounds_toArray, List.set_cons_zero, List.set_cons_succ]
    refine wpAnyH_take (i := 3) (oi := { dst := some 13, op := Op.load 25 (Operand.tmp 3), type := 25, pos := "l06_box.go:118", after := #[], guard := none }) (v := ?vb2_3) rfl (by kernel_rfl) (by kernel_rfl) (by kernel_rfl) (fun _ _ _ h => h) (Or.inl ⟨by rfl, ?hyb2_3⟩) (by assumption) ?restb2_3
    case hyb2_3 => (intro w hSw; (try dsimp only at hSw); go_simp; try with_reducible rfl)
    try simp only [Act.put, List.setIfInBounds_toArray, List.set_cons_zero, List.set_cons_succ]
    refine wpAnyH_take (i := 4) (oi := { dst := some 14, op := Op.move (Operand.tmp 0), type := 54, pos := "l06_box.go:118", after := #[], guard := none }) (v := ?vb3_4) rfl (by kernel_rfl) (by kernel_rfl) (by kernel_rfl) (fun _ _ _ h => h) (Or.inl ⟨by rfl, ?hyb3_4⟩) (by assumption) ?restb3_4
    case hyb3_4 => (intro w hSw; (try dsimp only at hSw); go_simp; try with_reducible rfl)
    try simp only [Act.put, List.setIfInBounds_toArray, List.set_cons_zero, List.set_cons_succ]
    clear hHeld
    refine wpAnyH_ready (rs := [1, 8]) (by kernel_rfl) (by simp) ?_
    refine AllReadyH.cons (o := { dst := some 11, op := Op.buildSlice 84 3 #[(0, Operand.const (Value.string { data := #[105, 110, 98, 111, 120] })), (1, Operand.const (Value.string { data := #[119, 111, 114, 107] })), (2, Operand.const (Value.string { data := #[111, 108, 100, 57] }))], type := 84, pos := "l06_box.go:118", after := #[], guard := none }) rfl (fun K hK => ?_) ?_
    · go_simp
      have PSB := hid (PS.out.alloc (.cells #[.string ⟨#[105, 110, 98, 111, 120]⟩, .string ⟨#[119, 111, 114, 107]⟩, .string ⟨#[111, 108, 100, 57]⟩] 9))
      have EA : (W1.drew).heap.size = W1.heap.size := by simp
      have TB : Hid (((W1.drew).alloc (.cells #[.string ⟨#[105, 110, 98, 111, 120]⟩, .string ⟨#[119, 111, 114, 107]⟩, .string ⟨#[111, 108, 100, 57]⟩] 9)).heap[W1.heap.size]? = some (.cells #[.string ⟨#[105, 110, 98, 111, 120]⟩, .string ⟨#[119, 111, 114, 107]⟩, .string ⟨#[111, 108, 100, 57]⟩] 9 (0, 0))) := by rw [← EA]; exact heap_alloc_new _ _
      have TL : Hid (W1.heap.size ≠ cb) := by rw [← EA]; have h1 := PS.out.size; have h2 := PS.out.hi; show _ ≠ _; omega
      clear EA
      refine hK.out _ _ (PSB.out.sg.cells) (fun hHeld => ?_)
      clear hK K
      try simp only [Act.put, List.setIfInBounds_toArray, List.set_cons_zero, List.set_cons_succ]
      clear hHeld
      refine wpAnyH_ready (rs := [2, 8]) (by kernel_rfl) (by simp) ?_
      refine AllReadyH.cons (o := { dst := some 12, op := Op.call { callee := Callee.value (Operand.func 64), args := #[Operand.tmp 10, Operand.tmp 11], argTypes := #[54, 84] }, type := 9, pos := "l06_box.go:118", after := #[{ on := 0, ground := Ground.data }, { on := 1, ground := Ground.data }], guard := none }) rfl (fun K hK => ?_) ?_
      · go_simp
        refine (pickm_any cb _ 3 [⟨#[105, 110, 98, 111, 120]⟩, ⟨#[119, 111, 114, 107]⟩, ⟨#[111, 108, 100, 57]⟩] ao n cap _ hn PSB.out.cur (HO.out.later PSB.out.gr) rfl (by decide) (by decide) TL.out (three_strs TB.out)).mono ?_
        rintro e w2 ⟨nm, hnm, rfl, hc2, hg2⟩
        have PSBP := hid (PSB.out.draw hg2 hc2)
        have HNM := hid hnm
        clear hc2 hg2 hnm
        go_wp2_with fail
        refine hK.out _ _ (PSBP.out.sg.cells) (fun hHeld => ?_)
        clear hK K
        try simp only [Act.put, List.setIfInBounds_toArray, List.set_cons_zero, List.set_cons_succ]
        clear hHeld
        refine wpAnyH_ready (rs := [5, 8]) (by kernel_rfl) (by simp) ?_
        refine AllReadyH.cons (o := { dst := some 15, op := Op.call { callee := Callee.value (Operand.func 33), args := #[Operand.tmp 14, Operand.const (Value.int IntKind.i64 4)], argTypes := #[54, 3] }, type := 3, pos := "l06_box.go:118", after := #[{ on := 4, ground := Ground.data }, { on := 2, ground := Ground.chain }], guard := none }) rfl (fun K hK => ?_) ?_
        · go_simp
          refine (below4 cb ao n cap _ hn PSBP.out.cur (HO.out.later PSBP.out.gr) 4 (by decide) (by decide)).mono ?_
          rintro e w3 ⟨y, hy, rfl, hc3, hg3⟩
          have PSBPQ := hid (PSBP.out.draw hg3 hc3)
          have HY := hid hy
          clear hc3 hg3 hy
          go_wp2_with fail
          refine hK.out _ _ (PSBPQ.out.sg.cells) (fun hHeld => ?_)
          clear hK K
          try simp only [Act.put, List.setIfInBounds_toArray, List.set_cons_zero, List.set_cons_succ]
          refine wpAnyH_take (i := 6) (oi := { dst := some 16, op := Op.binOp BinOp.add 3 (Operand.const (Value.int IntKind.i64 1)) (Operand.tmp 15) 3, type := 3, pos := "l06_box.go:118", after := #[{ on := 5, ground := Ground.data }], guard := none }) (v := ?vb4_6) rfl (by kernel_rfl) (by kernel_rfl) (by kernel_rfl) (fun _ _ _ h => h) (Or.inl ⟨by rfl, ?hyb4_6⟩) (by assumption) ?restb4_6
          case hyb4_6 => (intro w hSw; (try dsimp only at hSw); go_simp; try with_reducible rfl)
          try simp only [Act.put, List.setIfInBounds_toArray, List.set_cons_zero, List.set_cons_succ]
          refine wpAnyH_take (i := 7) (oi := { dst := some 17, op := Op.build 29 #[(0, Operand.const (Value.int IntKind.i64 7)), (1, Operand.tmp 12), (2, Operand.tmp 13), (3, Operand.tmp 16)], type := 29, pos := "l06_box.go:118", after := #[{ on := 2, ground := Ground.data }, { on := 3, ground := Ground.data }, { on := 6, ground := Ground.data }], guard := none }) (v := ?vb5_7) rfl (by kernel_rfl) (by kernel_rfl) (by kernel_rfl) (fun _ _ _ h => h) (Or.inl ⟨by rfl, ?hyb5_7⟩) (by assumption) ?restb5_7
          case hyb5_7 => (intro w hSw; (try dsimp only at hSw); go_simp; try with_reducible rfl)
          try simp only [Act.put, List.setIfInBounds_toArray, List.set_cons_zero, List.set_cons_succ]
          clear hHeld
          refine wpAnyH_ready (rs := [8]) (by kernel_rfl) (by simp) ?_
          refine AllReadyH.cons (o := { dst := some 4, op := Op.alloc 29, type := 0, pos := "l06_box.go:118", after := #[], guard := none }) rfl (fun K hK => ?_) AllReadyH.nil
          go_simp
          have PSBPQA := hid (PSBPQ.out.alloc (.cells #[.int .i64 0, .string ⟨#[]⟩, .int .i64 0, .int .i64 0, .int .i64 0, .slice none 0 0, .slice none 0 0] 29))
          have EA : (w3).heap.size = w3.heap.size := by simp
          have RA : Hid (Bx ((w3).alloc (.cells #[.int .i64 0, .string ⟨#[]⟩, .int .i64 0, .int .i64 0, .int .i64 0, .slice none 0 0, .slice none 0 0] 29)) (w3.heap.size) 29 0 ⟨#[]⟩ 0 0 0 (.slice none 0 0) (.slice none 0 0)) := by rw [← EA]; exact Bx.new _ _ _ _ _ _ _ _ _
          have RL : Hid (w.heap.size < w3.heap.size ∧ kS < w3.heap.size) := by rw [← EA]; exact ⟨PSBPQ.out.size, PSBPQ.out.sg.lt⟩
          clear EA
          refine hK.out _ _ (PSBPQA.out.sg.cells) (fun hHeld => ?_)
          clear hK K
          try simp only [Act.put, List.setIfInBounds_toArray, List.set_cons_zero, List.set_cons_succ]
          clear hHeld
          refine wpAnyH_ready (rs := [9]) (by kernel_rfl) (by simp) ?_
          refine AllReadyH.cons (o := { dst := none, op := Op.store 29 (Operand.tmp 4) (Operand.tmp 17), type := 0, pos := "l06_box.go:118", after := #[{ on := 8, ground := Ground.data }, { on := 7, ground := Ground.data }, { on := 5, ground := Ground.chain }, { on := 0, ground := Ground.phase }, { on := 1, ground := Ground.phase }, { on := 2, ground := Ground.phase }, { on := 3, ground := Ground.phase }, { on := 4, ground := Ground.phase }, { on := 5, ground := Ground.phase }, { on := 6, ground := Ground.phase }, { on := 7, ground := Ground.phase }, { on := 8, ground := Ground.phase }], guard := none }) rfl (fun K hK => ?_) AllReadyH.nil
          go_simp
          have hwr : IntKind.i64.wrap (1 + (y : Int)) = 1 + (y : Int) := by rw [IntKind.wrap_i64]; have := HY.out; omega
          rw [hwr]
          clear hwr
          have LB := hid (Lb.firstA PSBPQ.out (dbx_start y (nm_three HNM.out) HTB.out (by have := HY.out; omega)))
          refine hK.out _ _ (LB.out.2.cells) (fun hHeld => ?_)
          clear hK K
          try simp only [Act.put, List.setIfInBounds_toArray, List.set_cons_zero, List.set_cons_succ]
          refine wpAnyH_done (by kernel_rfl) ?_ _
          refine NoPanic.normal ?_
          try go_wp2_with fail
          go_meet
          exact ⟨_, nm, rfl, _, _, _, _, _, _, _, _, _, LB.out.1⟩
        refine AllReadyH.cons (o := { dst := some 4, op := Op.alloc 29, type := 0, pos := "l06_box.go:118", after := #[], guard := none }) rfl (fun K hK => ?_) AllReadyH.nil
        go_simp
        have PSBPA := hid (PSBP.out.alloc (.cells #[.int .i64 0, .string ⟨#[]⟩, .int .i64 0, .int .i64 0, .int .i64 0, .slice none 0 0, .slice none 0 0] 29))
        have EA : (w2).heap.size = w2.heap.size := by simp
        have RA : Hid (Bx ((w2).alloc (.cells #[.int .i64 0, .string ⟨#[]⟩, .int .i64 0, .int .i64 0, .int .i64 0, .slice none 0 0, .slice none 0 0] 29)) (w2.heap.size) 29 0 ⟨#[]⟩ 0 0 0 (.slice none 0 0) (.slice none 0 0)) := by rw [← EA]; exact Bx.new _ _ _ _ _ _ _ _ _
        have RL : Hid (w.heap.size < w2.heap.size ∧ kS < w2.heap.size) := by rw [← EA]; exact ⟨PSBP.out.size, PSBP.out.sg.lt⟩
        clear EA
        refine hK.out _ _ (PSBPA.out.sg.cells) (fun hHeld => ?_)
        clear hK K
        try simp only [Act.put, List.setIfInBounds_toArray, List.set_cons_zero, List.set_cons_succ]
        clear hHeld
        refine wpAnyH_ready (rs := [5]) (by kernel_rfl) (by simp) ?_
        refine AllReadyH.cons (o := { dst := some 15, op := Op.call { callee := Callee.value (Operand.func 33), args := #[Operand.tmp 14, Operand.const (Value.int IntKind.i64 4)], argTypes := #[54, 3] }, type := 3, pos := "l06_box.go:118", after := #[{ on := 4, ground := Ground.data }, { on := 2, ground := Ground.chain }], guard := none }) rfl (fun K hK => ?_) AllReadyH.nil
        go_simp
        refine (below4 cb ao n cap _ hn PSBPA.out.cur (HO.out.later PSBPA.out.gr) 4 (by decide) (by decide)).mono ?_
        rintro e w3 ⟨y, hy, rfl, hc3, hg3⟩
        have PSBPAQ := hid (PSBPA.out.draw hg3 hc3)
        have HY := hid hy
        have RQ := hid (RA.out.far hg3 (by have h1 := RL.out; have h2 := PSBPA.out.hi; omega))
        have fq := RQ.out.loose
        have cq := RQ.out.cells
        clear hc3 hg3 hy
        go_wp2_with fail
        refine hK.out _ _ (PSBPAQ.out.sg.cells) (fun hHeld => ?_)
        clear hK K
        try simp only [Act.put, List.setIfInBounds_toArray, List.set_cons_zero, List.set_cons_succ]
        refine wpAnyH_take (i := 6) (oi := { dst := some 16, op := Op.binOp BinOp.add 3 (Operand.const (Value.int IntKind.i64 1)) (Operand.tmp 15) 3, type := 3, pos := "l06_box.go:118", after := #[{ on := 5, ground := Ground.data }], guard := none }) (v := ?vb6_6) rfl (by kernel_rfl) (by kernel_rfl) (by kernel_rfl) (fun _ _ _ h => h) (Or.inl ⟨by rfl, ?hyb6_6⟩) (by assumption) ?restb6_6
        case hyb6_6 => (intro w hSw; (try dsimp only at hSw); go_simp; try with_reducible rfl)
        try simp only [Act.put, List.setIfInBounds_toArray, List.set_cons_zero, List.set_cons_succ]
        refine wpAnyH_take (i := 7) (oi := { dst := some 17, op := Op.build 29 #[(0, Operand.const (Value.int IntKind.i64 7)), (1, Operand.tmp 12), (2, Operand.tmp 13), (3, Operand.tmp 16)], type := 29, pos := "l06_box.go:118", after := #[{ on := 2, ground := Ground.data }, { on := 3, ground := Ground.data }, { on := 6, ground := Ground.data }], guard := none }) (v := ?vb7_7) rfl (by kernel_rfl) (by kernel_rfl) (by kernel_rfl) (fun _ _ _ h => h) (Or.inl ⟨by rfl, ?hyb7_7⟩) (by assumption) ?restb7_7
        case hyb7_7 => (intro w hSw; (try dsimp only at hSw); go_simp; try with_reducible rfl)
        try simp only [Act.put, List.setIfInBounds_toArray, List.set_cons_zero, List.set_cons_succ]
        clear hHeld
        refine wpAnyH_ready (rs := [9]) (by kernel_rfl) (by simp) ?_
        refine AllReadyH.cons (o := { dst := none, op := Op.store 29 (Operand.tmp 4) (Operand.tmp 17), type := 0, pos := "l06_box.go:118", after := #[{ on := 8, ground := Ground.data }, { on := 7, ground := Ground.data }, { on := 5, ground := Ground.chain }, { on := 0, ground := Ground.phase }, { on := 1, ground := Ground.phase }, { on := 2, ground := Ground.phase }, { on := 3, ground := Ground.phase }, { on := 4, ground := Ground.phase }, { on := 5, ground := Ground.phase }, { on := 6, ground := Ground.phase }, { on := 7, ground := Ground.phase }, { on := 8, ground := Ground.phase }], guard := none }) rfl (fun K hK => ?_) AllReadyH.nil
        go_simp
        have hwr : IntKind.i64.wrap (1 + (y : Int)) = 1 + (y : Int) := by rw [IntKind.wrap_i64]; have := HY.out; omega
        rw [hwr]
        clear hwr
        have LB := hid (Lb.first PSBPAQ.out RQ.out RL.out.1 (fun e => by have h1 := RL.out; omega) (dbx_start y (nm_three HNM.out) HTB.out (by have := HY.out; omega)))
        refine hK.out _ _ (LB.out.2.cells) (fun hHeld => ?_)
        clear hK K
        try simp only [Act.put, List.setIfInBounds_toArray, List.set_cons_zero, List.set_cons_succ]
        refine wpAnyH_done (by kernel_rfl) ?_ _
        refine NoPanic.normal ?_
        try go_wp2_with fail
        go_meet
        exact ⟨_, nm, rfl, _, _, _, _, _, _, _, _, _, LB.out.1⟩
      refine AllReadyH.cons (o := { dst := some 4, op := Op.alloc 29, type := 0, pos := "l06_box.go:118", after := #[], guard := none }) rfl (fun K hK => ?_) AllReadyH.nil
      go_simp
      have PSBA := hid (PSB.out.alloc (.cells #[.int .i64 0, .string ⟨#[]⟩, .int .i64 0, .int .i64 0, .int .i64 0, .slice none 0 0, .slice none 0 0] 29))
      have EA : (((W1.drew).alloc (.cells #[.string ⟨#[105, 110, 98, 111, 120]⟩, .string ⟨#[119, 111, 114, 107]⟩, .string ⟨#[111, 108, 100, 57]⟩] 9))).heap.size = W1.heap.size + 1 := by simp
      have RA : Hid (Bx ((((W1.drew).alloc (.cells #[.string ⟨#[105, 110, 98, 111, 120]⟩, .string ⟨#[119, 111, 114, 107]⟩, .string ⟨#[111, 108, 100, 57]⟩] 9))).alloc (.cells #[.int .i64 0, .string ⟨#[]⟩, .int .i64 0, .int .i64 0, .int .i64 0, .slice none 0 0, .slice none 0 0] 29)) (W1.heap.size + 1) 29 0 ⟨#[]⟩ 0 0 0 (.slice none 0 0) (.slice none 0 0)) := by rw [← EA]; exact Bx.new _ _ _ _ _ _ _ _ _
      have RL : Hid (w.heap.size < W1.heap.size + 1 ∧ kS < W1.heap.size + 1) := by rw [← EA]; exact ⟨PSB.out.size, PSB.out.sg.lt⟩
      clear EA
      have TB2 := hid ((Below.heap_alloc _ (.cells #[.int .i64 0, .string ⟨#[]⟩, .int .i64 0, .int .i64 0, .int .i64 0, .slice none 0 0, .slice none 0 0] 29) _ (Array.getElem?_eq_some_iff.1 TB.out).1).trans TB.out)
      refine hK.out _ _ (PSBA.out.sg.cells) (fun hHeld => ?_)
      clear hK K
      try simp only [Act.put, List.setIfInBounds_toArray, List.set_cons_zero, List.set_cons_succ]
      clear hHeld
      refine wpAnyH_ready (rs := [2]) (by kernel_rfl) (by simp) ?_
      refine AllReadyH.cons (o := { dst := some 12, op := Op.call { callee := Callee.value (Operand.func 64), args := #[Operand.tmp 10, Operand.tmp 11], argTypes := #[54, 84] }, type := 9, pos := "l06_box.go:118", after := #[{ on := 0, ground := Ground.data }, { on := 1, ground := Ground.data }], guard := none }) rfl (fun K hK => ?_) AllReadyH.nil
      go_simp
      refine (pickm_any cb _ 3 [⟨#[105, 110, 98, 111, 120]⟩, ⟨#[119, 111, 114, 107]⟩, ⟨#[111, 108, 100, 57]⟩] ao n cap _ hn PSBA.out.cur (HO.out.later PSBA.out.gr) rfl (by decide) (by decide) TL.out (three_strs TB2.out)).mono ?_
      rintro e w2 ⟨nm, hnm, rfl, hc2, hg2⟩
      have PSBAP := hid (PSBA.out.draw hg2 hc2)
      have HNM := hid hnm
      have RP := hid (RA.out.far hg2 (by have h1 := RL.out; have h2 := PSBA.out.hi; omega))
      clear hc2 hg2 hnm
      go_wp2_with fail
      refine hK.out _ _ (PSBAP.out.sg.cells) (fun hHeld => ?_)
      clear hK K
      try simp only [Act.put, List.setIfInBounds_toArray, List.set_cons_zero, List.set_cons_succ]
      clear hHeld
      refine wpAnyH_ready (rs := [5]) (by kernel_rfl) (by simp) ?_
      refine AllReadyH.cons (o := { dst := some 15, op := Op.call { callee := Callee.value (Operand.func 33), args := #[Operand.tmp 14, Operand.const (Value.int IntKind.i64 4)], argTypes := #[54, 3] }, type := 3, pos := "l06_box.go:118", after := #[{ on := 4, ground := Ground.data }, { on := 2, ground := Ground.chain }], guard := none }) rfl (fun K hK => ?_) AllReadyH.nil
      go_simp
      refine (below4 cb ao n cap _ hn PSBAP.out.cur (HO.out.later PSBAP.out.gr) 4 (by decide) (by decide)).mono ?_
      rintro e w3 ⟨y, hy, rfl, hc3, hg3⟩
      have PSBAPQ := hid (PSBAP.out.draw hg3 hc3)
      have HY := hid hy
      have RQ := hid (RP.out.far hg3 (by have h1 := RL.out; have h2 := PSBAP.out.hi; omega))
      have fq := RQ.out.loose
      have cq := RQ.out.cells
      clear hc3 hg3 hy
      go_wp2_with fail
      refine hK.out _ _ (PSBAPQ.out.sg.cells) (fun hHeld => ?_)
      clear hK K
      try simp only [Act.put, List.setIfInBounds_toArray, List.set_cons_zero, List.set_cons_succ]
      refine wpAnyH_take (i := 6) (oi := { dst := some 16, op := Op.binOp BinOp.add 3 (Operand.const (Value.int IntKind.i64 1)) (Operand.tmp 15) 3, type := 3, pos := "l06_box.go:118", after := #[{ on := 5, ground := Ground.data }], guard := none }) (v := ?vb8_6) rfl (by kernel_rfl) (by kernel_rfl) (by kernel_rfl) (fun _ _ _ h => h) (Or.inl ⟨by rfl, ?hyb8_6⟩) (by assumption) ?restb8_6
      case hyb8_6 => (intro w hSw; (try dsimp only at hSw); go_simp; try with_reducible rfl)
      try simp only [Act.put, List.setIfInBounds_toArray, List.set_cons_zero, List.set_cons_succ]
      refine wpAnyH_take (i := 7) (oi := { dst := some 17, op := Op.build 29 #[(0, Operand.const (Value.int IntKind.i64 7)), (1, Operand.tmp 12), (2, Operand.tmp 13), (3, Operand.tmp 16)], type := 29, pos := "l06_box.go:118", after := #[{ on := 2, ground := Ground.data }, { on := 3, ground := Ground.data }, { on := 6, ground := Ground.data }], guard := none }) (v := ?vb9_7) rfl (by kernel_rfl) (by kernel_rfl) (by kernel_rfl) (fun _ _ _ h => h) (Or.inl ⟨by rfl, ?hyb9_7⟩) (by assumption) ?restb9_7
      case hyb9_7 => (intro w hSw; (try dsimp only at hSw); go_simp; try with_reducible rfl)
      try simp only [Act.put, List.setIfInBounds_toArray, List.set_cons_zero, List.set_cons_succ]
      clear hHeld
      refine wpAnyH_ready (rs := [9]) (by kernel_rfl) (by simp) ?_
      refine AllReadyH.cons (o := { dst := none, op := Op.store 29 (Operand.tmp 4) (Operand.tmp 17), type := 0, pos := "l06_box.go:118", after := #[{ on := 8, ground := Ground.data }, { on := 7, ground := Ground.data }, { on := 5, ground := Ground.chain }, { on := 0, ground := Ground.phase }, { on := 1, ground := Ground.phase }, { on := 2, ground := Ground.phase }, { on := 3, ground := Ground.phase }, { on := 4, ground := Ground.phase }, { on := 5, ground := Ground.phase }, { on := 6, ground := Ground.phase }, { on := 7, ground := Ground.phase }, { on := 8, ground := Ground.phase }], guard := none }) rfl (fun K hK => ?_) AllReadyH.nil
      go_simp
      have hwr : IntKind.i64.wrap (1 + (y : Int)) = 1 + (y : Int) := by rw [IntKind.wrap_i64]; have := HY.out; omega
      rw [hwr]
      clear hwr
      have LB := hid (Lb.first PSBAPQ.out RQ.out RL.out.1 (fun e => by have h1 := RL.out; omega) (dbx_start y (nm_three HNM.out) HTB.out (by have := HY.out; omega)))
      refine hK.out _ _ (LB.out.2.cells) (fun hHeld => ?_)
      clear hK K
      try simp only [Act.put, List.setIfInBounds_toArray, List.set_cons_zero, List.set_cons_succ]
      refine wpAnyH_done (by kernel_rfl) ?_ _
      refine NoPanic.normal ?_
      try go_wp2_with fail
      go_meet
      exact ⟨_, nm, rfl, _, _, _, _, _, _, _, _, _, LB.out.1⟩
    refine AllReadyH.cons (o := { dst := some 4, op := Op.alloc 29, type := 0, pos := "l06_box.go:118", after := #[], guard := none }) rfl (fun K hK => ?_) AllReadyH.nil
    go_simp
    have PSA := hid (PS.out.alloc (.cells #[.int .i64 0, .string ⟨#[]⟩, .int .i64 0, .int .i64 0, .int .i64 0, .slice none 0 0, .slice none 0 0] 29))
    have EA : (W1.drew).heap.size = W1.heap.size := by simp
    have RA : Hid (Bx ((W1.drew).alloc (.cells #[.int .i64 0, .string ⟨#[]⟩, .int .i64 0, .int .i64 0, .int .i64 0, .slice none 0 0, .slice none 0 0] 29)) (W1.heap.size) 29 0 ⟨#[]⟩ 0 0 0 (.slice none 0 0) (.slice none 0 0)) := by rw [← EA]; exact Bx.new _ _ _ _ _ _ _ _ _
    have RL : Hid (w.heap.size < W1.heap.size ∧ kS < W1.heap.size) := by rw [← EA]; exact ⟨PS.out.size, PS.out.sg.lt⟩
    clear EA
    refine hK.out _ _ (PSA.out.sg.cells) (fun hHeld => ?_)
    clear hK K
    try simp only [Act.put, List.setIfInBounds_toArray, List.set_cons_zero, List.set_cons_succ]
    clear hHeld
    refine wpAnyH_ready (rs := [1]) (by kernel_rfl) (by simp) ?_
    refine AllReadyH.cons (o := { dst := some 11, op := Op.buildSlice 84 3 #[(0, Operand.const (Value.string { data := #[105, 110, 98, 111, 120] })), (1, Operand.const (Value.string { data := #[119, 111, 114, 107] })), (2, Operand.const (Value.string { data := #[111, 108, 100, 57] }))], type := 84, pos := "l06_box.go:118", after := #[], guard := none }) rfl (fun K hK => ?_) AllReadyH.nil
    go_simp
    have PSAB := hid (PSA.out.alloc (.cells #[.string ⟨#[105, 110, 98, 111, 120]⟩, .string ⟨#[119, 111, 114, 107]⟩, .string ⟨#[111, 108, 100, 57]⟩] 9))
    have EA : (((W1.drew).alloc (.cells #[.int .i64 0, .string ⟨#[]⟩, .int .i64 0, .int .i64 0, .int .i64 0, .slice none 0 0, .slice none 0 0] 29))).heap.size = W1.heap.size + 1 := by simp
    have TB : Hid (((((W1.drew).alloc (.cells #[.int .i64 0, .string ⟨#[]⟩, .int .i64 0, .int .i64 0, .int .i64 0, .slice none 0 0, .slice none 0 0] 29))).alloc (.cells #[.string ⟨#[105, 110, 98, 111, 120]⟩, .string ⟨#[119, 111, 114, 107]⟩, .string ⟨#[111, 108, 100, 57]⟩] 9)).heap[W1.heap.size + 1]? = some (.cells #[.string ⟨#[105, 110, 98, 111, 120]⟩, .string ⟨#[119, 111, 114, 107]⟩, .string ⟨#[111, 108, 100, 57]⟩] 9 (0, 0))) := by rw [← EA]; exact heap_alloc_new _ _
    have TL : Hid (W1.heap.size + 1 ≠ cb) := by rw [← EA]; have h1 := PSA.out.size; have h2 := PSA.out.hi; show _ ≠ _; omega
    clear EA
    have RA2 := hid (RA.out.later (bpush (bre _) (.cells #[.string ⟨#[105, 110, 98, 111, 120]⟩, .string ⟨#[119, 111, 114, 107]⟩, .string ⟨#[111, 108, 100, 57]⟩] 9)))
    refine hK.out _ _ (PSAB.out.sg.cells) (fun hHeld => ?_)
    clear hK K
    try simp only [Act.put, List.setIfInBounds_toArray, List.set_cons_zero, List.set_cons_succ]
    clear hHeld
    refine wpAnyH_ready (rs := [2]) (by kernel_rfl) (by simp) ?_
    refine AllReadyH.cons (o := { dst := some 12, op := Op.call { callee := Callee.value (Operand.func 64), args := #[Operand.tmp 10, Operand.tmp 11], argTypes := #[54, 84] }, type := 9, pos := "l06_box.go:118", after := #[{ on := 0, ground := Ground.data }, { on := 1, ground := Ground.data }], guard := none }) rfl (fun K hK => ?_) AllReadyH.nil
    go_simp
    refine (pickm_any cb _ 3 [⟨#[105, 110, 98, 111, 120]⟩, ⟨#[119, 111, 114, 107]⟩, ⟨#[111, 108, 100, 57]⟩] ao n cap _ hn PSAB.out.cur (HO.out.later PSAB.out.gr) rfl (by decide) (by decide) TL.out (three_strs TB.out)).mono ?_
    rintro e w2 ⟨nm, hnm, rfl, hc2, hg2⟩
    have PSABP := hid (PSAB.out.draw hg2 hc2)
    have HNM := hid hnm
    have RP := hid (RA2.out.far hg2 (by have h1 := RL.out; have h2 := PSAB.out.hi; omega))
    clear hc2 hg2 hnm
    go_wp2_with fail
    refine hK.out _ _ (PSABP.out.sg.cells) (fun hHeld => ?_)
    clear hK K
    try simp only [Act.put, List.setIfInBounds_toArray, List.set_cons_zero, List.set_cons_succ]
    clear hHeld
    refine wpAnyH_ready (rs := [5]) (by kernel_rfl) (by simp) ?_
    refine AllReadyH.cons (o := { dst := some 15, op := Op.call { callee := Callee.value (Operand.func 33), args := #[Operand.tmp 14, Operand.const (Value.int IntKind.i64 4)], argTypes := #[54, 3] }, type := 3, pos := "l06_box.go:118", after := #[{ on := 4, ground := Ground.data }, { on := 2, ground := Ground.chain }], guard := none }) rfl (fun K hK => ?_) AllReadyH.nil
    go_simp
    refine (below4 cb ao n cap _ hn PSABP.out.cur (HO.out.later PSABP.out.gr) 4 (by decide) (by decide)).mono ?_
    rintro e w3 ⟨y, hy, rfl, hc3, hg3⟩
    have PSABPQ := hid (PSABP.out.draw hg3 hc3)
    have HY := hid hy
    have RQ := hid (RP.out.far hg3 (by have h1 := RL.out; have h2 := PSABP.out.hi; omega))
    have fq := RQ.out.loose
    have cq := RQ.out.cells
    clear hc3 hg3 hy
    go_wp2_with fail
    refine hK.out _ _ (PSABPQ.out.sg.cells) (fun hHeld => ?_)
    clear hK K
    try simp only [Act.put, List.setIfInBounds_toArray, List.set_cons_zero, List.set_cons_succ]
    refine wpAnyH_take (i := 6) (oi := { dst := some 16, op := Op.binOp BinOp.add 3 (Operand.const (Value.int IntKind.i64 1)) (Operand.tmp 15) 3, type := 3, pos := "l06_box.go:118", after := #[{ on := 5, ground := Ground.data }], guard := none }) (v := ?vb10_6) rfl (by kernel_rfl) (by kernel_rfl) (by kernel_rfl) (fun _ _ _ h => h) (Or.inl ⟨by rfl, ?hyb10_6⟩) (by assumption) ?restb10_6
    case hyb10_6 => (intro w hSw; (try dsimp only at hSw); go_simp; try with_reducible rfl)
    try simp only [Act.put, List.setIfInBounds_toArray, List.set_cons_zero, List.set_cons_succ]
    refine wpAnyH_take (i := 7) (oi := { dst := some 17, op := Op.build 29 #[(0, Operand.const (Value.int IntKind.i64 7)), (1, Operand.tmp 12), (2, Operand.tmp 13), (3, Operand.tmp 16)], type := 29, pos := "l06_box.go:118", after := #[{ on := 2, ground := Ground.data }, { on := 3, ground := Ground.data }, { on := 6, ground := Ground.data }], guard := none }) (v := ?vb11_7) rfl (by kernel_rfl) (by kernel_rfl) (by kernel_rfl) (fun _ _ _ h => h) (Or.inl ⟨by rfl, ?hyb11_7⟩) (by assumption) ?restb11_7
    case hyb11_7 => (intro w hSw; (try dsimp only at hSw); go_simp; try with_reducible rfl)
    try simp only [Act.put, List.setIfInBounds_toArray, List.set_cons_zero, List.set_cons_succ]
    clear hHeld
    refine wpAnyH_ready (rs := [9]) (by kernel_rfl) (by simp) ?_
    refine AllReadyH.cons (o := { dst := none, op := Op.store 29 (Operand.tmp 4) (Operand.tmp 17), type := 0, pos := "l06_box.go:118", after := #[{ on := 8, ground := Ground.data }, { on := 7, ground := Ground.data }, { on := 5, ground := Ground.chain }, { on := 0, ground := Ground.phase }, { on := 1, ground := Ground.phase }, { on := 2, ground := Ground.phase }, { on := 3, ground := Ground.phase }, { on := 4, ground := Ground.phase }, { on := 5, ground := Ground.phase }, { on := 6, ground := Ground.phase }, { on := 7, ground := Ground.phase }, { on := 8, ground := Ground.phase }], guard := none }) rfl (fun K hK => ?_) AllReadyH.nil
    go_simp
    have hwr : IntKind.i64.wrap (1 + (y : Int)) = 1 + (y : Int) := by rw [IntKind.wrap_i64]; have := HY.out; omega
    rw [hwr]
    clear hwr
    have LB := hid (Lb.first PSABPQ.out RQ.out RL.out.1 (fun e => by have h1 := RL.out; omega) (dbx_start y (nm_three HNM.out) HTB.out (by have := HY.out; omega)))
    refine hK.out _ _ (LB.out.2.cells) (fun hHeld => ?_)
    clear hK K
    try simp only [Act.put, List.setIfInBounds_toArray, List.set_cons_zero, List.set_cons_succ]
    refine wpAnyH_done (by kernel_rfl) ?_ _
    refine NoPanic.normal ?_
    try go_wp2_with fail
    go_meet
    exact ⟨_, nm, rfl, _, _, _, _, _, _, _, _, _, LB.out.1⟩

  case rest =>
    obtain ⟨kb, nm, rfl, hLx⟩ := hcut
    have HLX := hid hLx
    clear hLx PS HTB
    go_wp2
    go_loopw [5] (fun iv wr => ∃ i : Nat, i ≤ 11 ∧ iv = .int .i64 (i : Int) ∧ Lx w wr cb ao n cap kb i nm t b) (fun iv _ => 12 - (intOf iv).toNat)
    case atStart => exact ⟨0, by omega, rfl, HLX.out⟩
    case round =>
      obtain ⟨i, hi, rfl, nx, ma, mn, mc, ga, gn, gc, L, G, hT⟩ := hrel
      have T := hid hT
      clear hT HLX
      go_wp2_with fail
      refine (below4 cb ao n cap _ hn T.out.cur (HO.out.later T.out.gr) 12 (by decide) (by decide)).mono ?_; rintro e w2 ⟨x, hx, rfl, hc, hg⟩
      have T2 := hid (T.out.draw hg hc)
      clear hc hg T
      by_cases hix : i < x
      · have HX : Hid (i < 11) := by show _ < _; omega
        have hix' : (i : Int) < (x : Int) := by omega
        clear hix hx
        go_wp2_with fail
        refine (below4 cb ao n cap _ hn T2.out.cur (HO.out.later T2.out.gr) 9 (by decide) (by decide)).mono ?_; rintro e w3 ⟨y, hy, rfl, hc, hg⟩
        have HY := hid hy
        have T3 := hid (T2.out.draw hg hc)
        clear hc hg T2
        go_wp2_with fail
        clear hy
        refine (l03Stamp_any cb ao n cap _ hn T3.out.cur (HO.out.later T3.out.gr)).mono ?_; rintro e w4 ⟨st, sb, hst, rfl, hc, hg⟩
        have HST := hid hst
        obtain ⟨W4, hW4⟩ : ∃ W4, w4.alloc (.cells #[.int .i64 st, .int .i64 sb] 25) = W4 := ⟨_, rfl⟩
        obtain ⟨kt, hkt⟩ : ∃ kt, w4.heap.size = kt := ⟨_, rfl⟩
        have t4 := T3.out.draw hg hc
        have T4 : Hid (Lb w W4 cb ao n cap kb i nm t b nx ma mn mc ga gn gc L G) := by subst hW4; exact t4.later (bpush (bre _) _)
        have SG4 : Hid (Sg W4 kt 25 st sb) := by subst hkt; subst hW4; exact Sg.new w4 _ st sb
        have KT : Hid (kt ≠ kb) := by have := t4.box.lt; show _ ≠ _; omega
        have KC : Hid (kt ≠ cb) := by have := t4.cur.lt; show _ ≠ _; omega
        clear hc hg hst t4 T3
        go_wp2_with fail
        try rw [hkt]
        try rw [hW4]
        clear hW4 hkt
        refine (below4 cb ao n cap _ hn T4.out.cur (HO.out.later T4.out.gr) 5 (by decide) (by decide)).mono ?_; rintro e w5 ⟨z, hz, rfl, hc, hg⟩
        have T5 : Hid (Lb w w5.drew cb ao n cap kb i nm t b nx ma mn mc ga gn gc L G) := (T4.out.draw hg hc).drew
        have T5s := hid (T4.out.draw hg hc)
        have SG5 : Hid (Sg w5.drew kt 25 st sb) := SG4.out.kept (gdr hg) KC.out
        clear hc hg T4 SG4
        have hz5 : z = 0 ∨ z = 1 ∨ z = 2 ∨ z = 3 ∨ z = 4 := by omega
        clear hz
        rcases hz5 with rfl | rfl | rfl | rfl | rfl
        · clear T5s
          go_wp2_with fail
          refine wp_region_noPanic ?_
          refine wp_region_held_drew (S := (fun W => W.cell? ⟨kt, 0, none⟩ = some (.int .i64 st) ∧ W.cell? ⟨kt, 1, none⟩ = some (.int .i64 sb))) (by kernel_rfl) (SG5.out.cells) (fun hHeld => ?_)
          refine wpAnyH_take (i := 1) (oi := { dst := some 43, op := Op.move (Operand.tmp 6), type := 3, pos := "l06_box.go:124", after := #[], guard := none }) (v := ?vc1_1) rfl (by kernel_rfl) (by kernel_rfl) (by kernel_rfl) (fun _ _ _ h => h) (Or.inl ⟨by rfl, ?hyc1_1⟩) (by assumption) ?restc1_1
          case hyc1_1 => (intro w hSw; (try dsimp only at hSw); go_simp; try with_reducible rfl)
          try simp only [Act.put, List.setIfInBounds_toArray, List.set_cons_zero, List.set_cons_succ]
          refine wpAnyH_take (i := 2) (oi := { dst := some 44, op := Op.move (Operand.tmp 0), type := 54, pos := "l06_box.go:124", after := #[], guard := none }) (v := ?vc2_2) rfl (by kernel_rfl) (by kernel_rfl) (by kernel_rfl) (fun _ _ _ h => h) (Or.inl ⟨by rfl, ?hyc2_2⟩) (by assumption) ?restc2_2
          case hyc2_2 => (intro w hSw; (try dsimp only at hSw); go_simp; try with_reducible rfl)
          try simp only [Act.put, List.setIfInBounds_toArray, List.set_cons_zero, List.set_cons_succ]
          refine wpAnyH_take (i := 4) (oi := { dst := some 46, op := Op.move (Operand.tmp 0), type := 54, pos := "l06_box.go:124", after := #[], guard := none }) (v := ?vc3_4) rfl (by kernel_rfl) (by kernel_rfl) (by kernel_rfl) (fun _ _ _ h => h) (Or.inl ⟨by rfl, ?hyc3_4⟩) (by assumption) ?restc3_4
          case hyc3_4 => (intro w hSw; (try dsimp only at hSw); go_simp; try with_reducible rfl)
          try simp only [Act.put, List.setIfInBounds_toArray, List.set_cons_zero, List.set_cons_succ]
          refine wpAnyH_take (i := 6) (oi := { dst := some 48, op := Op.load 25 (Operand.tmp 7), type := 25, pos := "l06_box.go:124", after := #[], guard := none }) (v := ?vc4_6) rfl (by kernel_rfl) (by kernel_rfl) (by kernel_rfl) (fun _ _ _ h => h) (Or.inl ⟨by rfl, ?hyc4_6⟩) (by assumption) ?restc4_6
          case hyc4_6 => (intro w hSw; (try dsimp only at hSw); go_simp; try with_reducible rfl)
          try simp only [Act.put, List.setIfInBounds_toArray, List.set_cons_zero, List.set_cons_succ]
          clear hHeld
          refine wpAnyH_ready (rs := [0, 3]) (by kernel_rfl) (by simp) ?_
          refine AllReadyH.cons (o := { dst := some 42, op := Op.load 29 (Operand.tmp 4), type := 29, pos := "l06_box.go:124", after := #[], guard := none }) rfl (fun K hK => ?_) ?_
          · have q0 := T5.out.box.cells
            go_simp
            clear q0
            refine hK.out _ _ (SG5.out.cells) (fun hHeld => ?_)
            clear hK K
            try simp only [Act.put, List.setIfInBounds_toArray, List.set_cons_zero, List.set_cons_succ]
            clear hHeld
            refine wpAnyH_ready (rs := [3]) (by kernel_rfl) (by simp) ?_
            refine AllReadyH.cons (o := { dst := some 45, op := Op.call { callee := Callee.value (Operand.func 33), args := #[Operand.tmp 44, Operand.const (Value.int IntKind.i64 8)], argTypes := #[54, 3] }, type := 3, pos := "l06_box.go:124", after := #[{ on := 2, ground := Ground.data }], guard := none }) rfl (fun K hK => ?_) AllReadyH.nil
            go_simp
            refine (below4 cb ao n cap _ hn T5.out.cur (HO.out.later T5.out.gr) 8 (by decide) (by decide)).mono ?_
            rintro e w6 ⟨fl, hfl, rfl, hc6, hg6⟩
            have T6 := hid (T5.out.draw hg6 hc6)
            have SG6 := hid (SG5.out.kept hg6 KC.out)
            clear hc6 hg6 hfl
            go_wp2_with fail
            refine hK.out _ _ (SG6.out.cells) (fun hHeld => ?_)
            clear hK K
            try simp only [Act.put, List.setIfInBounds_toArray, List.set_cons_zero, List.set_cons_succ]
            clear hHeld
            refine wpAnyH_ready (rs := [5]) (by kernel_rfl) (by simp) ?_
            refine AllReadyH.cons (o := { dst := some 47, op := Op.call { callee := Callee.value (Operand.func 51), args := #[Operand.tmp 46], argTypes := #[54] }, type := 9, pos := "l06_box.go:124", after := #[{ on := 4, ground := Ground.data }, { on := 3, ground := Ground.chain }], guard := none }) rfl (fun K hK => ?_) AllReadyH.nil
            go_simp
            refine (l05Text_any cb ao n cap _ hn T6.out.cur (HO.out.later T6.out.gr)).mono ?_
            rintro e w7 ⟨tx, htx, rfl, hc7, hg7⟩
            have T7 := hid (T6.out.draw hg7 hc7)
            have SG7 := hid (SG6.out.kept hg7 KC.out)
            have HTX := hid htx
            clear hc7 hg7 htx
            go_wp2_with fail
            refine hK.out _ _ (SG7.out.cells) (fun hHeld => ?_)
            clear hK K
            try simp only [Act.put, List.setIfInBounds_toArray, List.set_cons_zero, List.set_cons_succ]
            clear hHeld
            refine wpAnyH_ready (rs := [7]) (by kernel_rfl) (by simp) ?_
            refine AllReadyH.cons (o := { dst := some 49, op := Op.call { callee := Callee.value (Operand.func 20), args := #[Operand.tmp 42, Operand.tmp 43, Operand.tmp 45, Operand.tmp 47, Operand.tmp 48], argTypes := #[29, 3, 3, 9, 25] }, type := 32, pos := "l06_box.go:124", after := #[{ on := 0, ground := Ground.data }, { on := 1, ground := Ground.data }, { on := 3, ground := Ground.data }, { on := 5, ground := Ground.data }, { on := 6, ground := Ground.data }, { on := 5, ground := Ground.chain }], guard := none }) rfl (fun K hK => ?_) AllReadyH.nil
            go_simp
            obtain ⟨p, ny, KL, N, hN, hD, hcall⟩ := add_l T7.out.dbx mn gn T7.out.reads.1.symm T7.out.reads.2.1.symm (10 + (y : Int)) (fl : Int) tx st sb (by have := HY.out; omega) HST.out (by have := HTX.out; omega)
            refine (hcall.out _ _ _ _ ma mc ga gc _ T7.out.reads.2.2.1 T7.out.reads.2.2.2 T7.out.own.none.2).mono ?_
            rintro e w8 ⟨a, c, a', c', rfl, ho8, hb8⟩
            have T8 := hid (T7.out.later hb8)
            have SG8 := hid (SG7.out.later hb8)
            have f8 := T8.out.box.loose
            have c8 := T8.out.box.cells
            have NEW := hid (T7.out.put hb8 ho8 hD.out)
            clear ho8 hb8 hN hcall
            go_wp2_with fail
            refine hK.out _ _ (SG8.out.cells) (fun hHeld => ?_)
            clear hK K
            try simp only [Act.put, List.setIfInBounds_toArray, List.set_cons_zero, List.set_cons_succ]
            refine wpAnyH_take (i := 8) (oi := { dst := some 41, op := Op.move (Operand.tmp 49), type := 32, pos := "l06_box.go:124", after := #[{ on := 7, ground := Ground.data }], guard := none }) (v := ?vc5_8) rfl (by kernel_rfl) (by kernel_rfl) (by kernel_rfl) (fun _ _ _ h => h) (Or.inl ⟨by rfl, ?hyc5_8⟩) (by assumption) ?restc5_8
            case hyc5_8 => (intro w hSw; (try dsimp only at hSw); go_simp; try with_reducible rfl)
            try simp only [Act.put, List.setIfInBounds_toArray, List.set_cons_zero, List.set_cons_succ]
            refine wpAnyH_take (i := 9) (oi := { dst := some 50, op := Op.extract (Operand.tmp 41) 0, type := 29, pos := "l06_box.go:124", after := #[{ on := 8, ground := Ground.data }], guard := none }) (v := ?vc6_9) rfl (by kernel_rfl) (by kernel_rfl) (by kernel_rfl) (fun _ _ _ h => h) (Or.inl ⟨by rfl, ?hyc6_9⟩) (by assumption) ?restc6_9
            case hyc6_9 => (intro w hSw; (try dsimp only at hSw); go_simp; try with_reducible rfl)
            try simp only [Act.put, List.setIfInBounds_toArray, List.set_cons_zero, List.set_cons_succ]
            refine wpAnyH_take (i := 10) (oi := { dst := some 51, op := Op.extract (Operand.tmp 41) 1, type := 4, pos := "l06_box.go:124", after := #[{ on := 8, ground := Ground.data }, { on := 11, ground := Ground.gcOnly Departure.lateStores }], guard := none }) (v := ?vc7_10) rfl (by kernel_rfl) (by kernel_rfl) (by kernel_rfl) (fun _ _ _ h => h) (Or.inl ⟨by rfl, ?hyc7_10⟩) (by assumption) ?restc7_10
            case hyc7_10 => (intro w hSw; (try dsimp only at hSw); go_simp; try with_reducible rfl)
            try simp only [Act.put, List.setIfInBounds_toArray, List.set_cons_zero, List.set_cons_succ]
            clear hHeld
            refine wpAnyH_ready (rs := [11]) (by kernel_rfl) (by simp) ?_
            refine AllReadyH.cons (o := { dst := none, op := Op.store 29 (Operand.tmp 4) (Operand.tmp 50), type := 0, pos := "l06_box.go:124", after := #[{ on := 9, ground := Ground.data }, { on := 7, ground := Ground.chain }, { on := 0, ground := Ground.phase }, { on := 1, ground := Ground.phase }, { on := 2, ground := Ground.phase }, { on := 3, ground := Ground.phase }, { on := 4, ground := Ground.phase }, { on := 5, ground := Ground.phase }, { on := 6, ground := Ground.phase }, { on := 7, ground := Ground.phase }, { on := 8, ground := Ground.phase }, { on := 9, ground := Ground.phase }, { on := 10, ground := Ground.textOnly Departure.lateStores }], guard := none }) rfl (fun K hK => ?_) AllReadyH.nil
            go_simp
            refine hK.out _ _ ((SG8.out.kept (cb := kb) (wst (wst (wst (wst (wst (wst (wst (wre _ _) _ _) _ _) _ _) _ _) _ _) _ _) _ _) KT.out).cells) (fun hHeld => ?_)
            clear hK K
            try simp only [Act.put, List.setIfInBounds_toArray, List.set_cons_zero, List.set_cons_succ]
            refine wpAnyH_done (by kernel_rfl) ?_ _
            refine NoPanic.normal ?_
            go_wp2
            go_roundw
            case rel => exact ⟨i + 1, by have := HX.out; omega, by go_num, _, _, _, _, _, _, _, _, _, NEW.out⟩
            case measure => simp [intOf]; have := HX.out; omega
          refine AllReadyH.cons (o := { dst := some 45, op := Op.call { callee := Callee.value (Operand.func 33), args := #[Operand.tmp 44, Operand.const (Value.int IntKind.i64 8)], argTypes := #[54, 3] }, type := 3, pos := "l06_box.go:124", after := #[{ on := 2, ground := Ground.data }], guard := none }) rfl (fun K hK => ?_) AllReadyH.nil
          go_simp
          refine (below4 cb ao n cap _ hn T5.out.cur (HO.out.later T5.out.gr) 8 (by decide) (by decide)).mono ?_
          rintro e w6 ⟨fl, hfl, rfl, hc6, hg6⟩
          have T6 := hid (T5.out.draw hg6 hc6)
          have SG6 := hid (SG5.out.kept hg6 KC.out)
          clear hc6 hg6 hfl
          go_wp2_with fail
          refine hK.out _ _ (SG6.out.cells) (fun hHeld => ?_)
          clear hK K
          try simp only [Act.put, List.setIfInBounds_toArray, List.set_cons_zero, List.set_cons_succ]
          clear hHeld
          refine wpAnyH_ready (rs := [0, 5]) (by kernel_rfl) (by simp) ?_
          refine AllReadyH.cons (o := { dst := some 42, op := Op.load 29 (Operand.tmp 4), type := 29, pos := "l06_box.go:124", after := #[], guard := none }) rfl (fun K hK => ?_) ?_
          · have q0 := T6.out.box.cells
            go_simp
            clear q0
            refine hK.out _ _ (SG6.out.cells) (fun hHeld => ?_)
            clear hK K
            try simp only [Act.put, List.setIfInBounds_toArray, List.set_cons_zero, List.set_cons_succ]
            clear hHeld
            refine wpAnyH_ready (rs := [5]) (by kernel_rfl) (by simp) ?_
            refine AllReadyH.cons (o := { dst := some 47, op := Op.call { callee := Callee.value (Operand.func 51), args := #[Operand.tmp 46], argTypes := #[54] }, type := 9, pos := "l06_box.go:124", after := #[{ on := 4, ground := Ground.data }, { on := 3, ground := Ground.chain }], guard := none }) rfl (fun K hK => ?_) AllReadyH.nil
            go_simp
            refine (l05Text_any cb ao n cap _ hn T6.out.cur (HO.out.later T6.out.gr)).mono ?_
            rintro e w7 ⟨tx, htx, rfl, hc7, hg7⟩
            have T7 := hid (T6.out.draw hg7 hc7)
            have SG7 := hid (SG6.out.kept hg7 KC.out)
            have HTX := hid htx
            clear hc7 hg7 htx
            go_wp2_with fail
            refine hK.out _ _ (SG7.out.cells) (fun hHeld => ?_)
            clear hK K
            try simp only [Act.put, List.setIfInBounds_toArray, List.set_cons_zero, List.set_cons_succ]
            clear hHeld
            refine wpAnyH_ready (rs := [7]) (by kernel_rfl) (by simp) ?_
            refine AllReadyH.cons (o := { dst := some 49, op := Op.call { callee := Callee.value (Operand.func 20), args := #[Operand.tmp 42, Operand.tmp 43, Operand.tmp 45, Operand.tmp 47, Operand.tmp 48], argTypes := #[29, 3, 3, 9, 25] }, type := 32, pos := "l06_box.go:124", after := #[{ on := 0, ground := Ground.data }, { on := 1, ground := Ground.data }, { on := 3, ground := Ground.data }, { on := 5, ground := Ground.data }, { on := 6, ground := Ground.data }, { on := 5, ground := Ground.chain }], guard := none }) rfl (fun K hK => ?_) AllReadyH.nil
            go_simp
            obtain ⟨p, ny, KL, N, hN, hD, hcall⟩ := add_l T7.out.dbx mn gn T7.out.reads.1.symm T7.out.reads.2.1.symm (10 + (y : Int)) (fl : Int) tx st sb (by have := HY.out; omega) HST.out (by have := HTX.out; omega)
            refine (hcall.out _ _ _ _ ma mc ga gc _ T7.out.reads.2.2.1 T7.out.reads.2.2.2 T7.out.own.none.2).mono ?_
            rintro e w8 ⟨a, c, a', c', rfl, ho8, hb8⟩
            have T8 := hid (T7.out.later hb8)
            have SG8 := hid (SG7.out.later hb8)
            have f8 := T8.out.box.loose
            have c8 := T8.out.box.cells
            have NEW := hid (T7.out.put hb8 ho8 hD.out)
            clear ho8 hb8 hN hcall
            go_wp2_with fail
            refine hK.out _ _ (SG8.out.cells) (fun hHeld => ?_)
            clear hK K
            try simp only [Act.put, List.setIfInBounds_toArray, List.set_cons_zero, List.set_cons_succ]
            refine wpAnyH_take (i := 8) (oi := { dst := some 41, op := Op.move (Operand.tmp 49), type := 32, pos := "l06_box.go:124", after := #[{ on := 7, ground := Ground.data }], guard := none }) (v := ?vc8_8) rfl (by kernel_rfl) (by kernel_rfl) (by kernel_rfl) (fun _ _ _ h => h) (Or.inl ⟨by rfl, ?hyc8_8⟩) (by assumption) ?restc8_8
            case hyc8_8 => (intro w hSw; (try dsimp only at hSw); go_simp; try with_reducible rfl)
            try simp only [Act.put, List.setIfInBounds_toArray, List.set_cons_zero, List.set_cons_succ]
            refine wpAnyH_take (i := 9) (oi := { dst := some 50, op := Op.extract (Operand.tmp 41) 0, type := 29, pos := "l06_box.go:124", after := #[{ on := 8, ground := Ground.data }], guard := none }) (v := ?vc9_9) rfl (by kernel_rfl) (by kernel_rfl) (by kernel_rfl) (fun _ _ _ h => h) (Or.inl ⟨by rfl, ?hyc9_9⟩) (by assumption) ?restc9_9
            case hyc9_9 => (intro w hSw; (try dsimp only at hSw); go_simp; try with_reducible rfl)
            try simp only [Act.put, List.setIfInBounds_toArray, List.set_cons_zero, List.set_cons_succ]
            refine wpAnyH_take (i := 10) (oi := { dst := some 51, op := Op.extract (Operand.tmp 41) 1, type := 4, pos := "l06_box.go:124", after := #[{ on := 8, ground := Ground.data }, { on := 11, ground := Ground.gcOnly Departure.lateStores }], guard := none }) (v := ?vc10_10) rfl (by kernel_rfl) (by kernel_rfl) (by kernel_rfl) (fun _ _ _ h => h) (Or.inl ⟨by rfl, ?hyc10_10⟩) (by assumption) ?restc10_10
            case hyc10_10 => (intro w hSw; (try dsimp only at hSw); go_simp; try with_reducible rfl)
            try simp only [Act.put, List.setIfInBounds_toArray, List.set_cons_zero, List.set_cons_succ]
            clear hHeld
            refine wpAnyH_ready (rs := [11]) (by kernel_rfl) (by simp) ?_
            refine AllReadyH.cons (o := { dst := none, op := Op.store 29 (Operand.tmp 4) (Operand.tmp 50), type := 0, pos := "l06_box.go:124", after := #[{ on := 9, ground := Ground.data }, { on := 7, ground := Ground.chain }, { on := 0, ground := Ground.phase }, { on := 1, ground := Ground.phase }, { on := 2, ground := Ground.phase }, { on := 3, ground := Ground.phase }, { on := 4, ground := Ground.phase }, { on := 5, ground := Ground.phase }, { on := 6, ground := Ground.phase }, { on := 7, ground := Ground.phase }, { on := 8, ground := Ground.phase }, { on := 9, ground := Ground.phase }, { on := 10, ground := Ground.textOnly Departure.lateStores }], guard := none }) rfl (fun K hK => ?_) AllReadyH.nil
            go_simp
            refine hK.out _ _ ((SG8.out.kept (cb := kb) (wst (wst (wst (wst (wst (wst (wst (wre _ _) _ _) _ _) _ _) _ _) _ _) _ _) _ _) KT.out).cells) (fun hHeld => ?_)
            clear hK K
            try simp only [Act.put, List.setIfInBounds_toArray, List.set_cons_zero, List.set_cons_succ]
            refine wpAnyH_done (by kernel_rfl) ?_ _
            refine NoPanic.normal ?_
            go_wp2
            go_roundw
            case rel => exact ⟨i + 1, by have := HX.out; omega, by go_num, _, _, _, _, _, _, _, _, _, NEW.out⟩
            case measure => simp [intOf]; have := HX.out; omega
          refine AllReadyH.cons (o := { dst := some 47, op := Op.call { callee := Callee.value (Operand.func 51), args := #[Operand.tmp 46], argTypes := #[54] }, type := 9, pos := "l06_box.go:124", after := #[{ on := 4, ground := Ground.data }, { on := 3, ground := Ground.chain }], guard := none }) rfl (fun K hK => ?_) AllReadyH.nil
          go_simp
          refine (l05Text_any cb ao n cap _ hn T6.out.cur (HO.out.later T6.out.gr)).mono ?_
          rintro e w7 ⟨tx, htx, rfl, hc7, hg7⟩
          have T7 := hid (T6.out.draw hg7 hc7)
          have SG7 := hid (SG6.out.kept hg7 KC.out)
          have HTX := hid htx
          clear hc7 hg7 htx
          go_wp2_with fail
          refine hK.out _ _ (SG7.out.cells) (fun hHeld => ?_)
          clear hK K
          try simp only [Act.put, List.setIfInBounds_toArray, List.set_cons_zero, List.set_cons_succ]
          clear hHeld
          refine wpAnyH_ready (rs := [0]) (by kernel_rfl) (by simp) ?_
          refine AllReadyH.cons (o := { dst := some 42, op := Op.load 29 (Operand.tmp 4), type := 29, pos := "l06_box.go:124", after := #[], guard := none }) rfl (fun K hK => ?_) AllReadyH.nil
          have q0 := T7.out.box.cells
          go_simp
          clear q0
          refine hK.out _ _ (SG7.out.cells) (fun hHeld => ?_)
          clear hK K
          try simp only [Act.put, List.setIfInBounds_toArray, List.set_cons_zero, List.set_cons_succ]
          clear hHeld
          refine wpAnyH_ready (rs := [7]) (by kernel_rfl) (by simp) ?_
          refine AllReadyH.cons (o := { dst := some 49, op := Op.call { callee := Callee.value (Operand.func 20), args := #[Operand.tmp 42, Operand.tmp 43, Operand.tmp 45, Operand.tmp 47, Operand.tmp 48], argTypes := #[29, 3, 3, 9, 25] }, type := 32, pos := "l06_box.go:124", after := #[{ on := 0, ground := Ground.data }, { on := 1, ground := Ground.data }, { on := 3, ground := Ground.data }, { on := 5, ground := Ground.data }, { on := 6, ground := Ground.data }, { on := 5, ground := Ground.chain }], guard := none }) rfl (fun K hK => ?_) AllReadyH.nil
          go_simp
          obtain ⟨p, ny, KL, N, hN, hD, hcall⟩ := add_l T7.out.dbx mn gn T7.out.reads.1.symm T7.out.reads.2.1.symm (10 + (y : Int)) (fl : Int) tx st sb (by have := HY.out; omega) HST.out (by have := HTX.out; omega)
          refine (hcall.out _ _ _ _ ma mc ga gc _ T7.out.reads.2.2.1 T7.out.reads.2.2.2 T7.out.own.none.2).mono ?_
          rintro e w8 ⟨a, c, a', c', rfl, ho8, hb8⟩
          have T8 := hid (T7.out.later hb8)
          have SG8 := hid (SG7.out.later hb8)
          have f8 := T8.out.box.loose
          have c8 := T8.out.box.cells
          have NEW := hid (T7.out.put hb8 ho8 hD.out)
          clear ho8 hb8 hN hcall
          go_wp2_with fail
          refine hK.out _ _ (SG8.out.cells) (fun hHeld => ?_)
          clear hK K
          try simp only [Act.put, List.setIfInBounds_toArray, List.set_cons_zero, List.set_cons_succ]
          refine wpAnyH_take (i := 8) (oi := { dst := some 41, op := Op.move (Operand.tmp 49), type := 32, pos := "l06_box.go:124", after := #[{ on := 7, ground := Ground.data }], guard := none }) (v := ?vc11_8) rfl (by kernel_rfl) (by kernel_rfl) (by kernel_rfl) (fun _ _ _ h => h) (Or.inl ⟨by rfl, ?hyc11_8⟩) (by assumption) ?restc11_8
          case hyc11_8 => (intro w hSw; (try dsimp only at hSw); go_simp; try with_reducible rfl)
          try simp only [Act.put, List.setIfInBounds_toArray, List.set_cons_zero, List.set_cons_succ]
          refine wpAnyH_take (i := 9) (oi := { dst := some 50, op := Op.extract (Operand.tmp 41) 0, type := 29, pos := "l06_box.go:124", after := #[{ on := 8, ground := Ground.data }], guard := none }) (v := ?vc12_9) rfl (by kernel_rfl) (by kernel_rfl) (by kernel_rfl) (fun _ _ _ h => h) (Or.inl ⟨by rfl, ?hyc12_9⟩) (by assumption) ?restc12_9
          case hyc12_9 => (intro w hSw; (try dsimp only at hSw); go_simp; try with_reducible rfl)
          try simp only [Act.put, List.setIfInBounds_toArray, List.set_cons_zero, List.set_cons_succ]
          refine wpAnyH_take (i := 10) (oi := { dst := some 51, op := Op.extract (Operand.tmp 41) 1, type := 4, pos := "l06_box.go:124", after := #[{ on := 8, ground := Ground.data }, { on := 11, ground := Ground.gcOnly Departure.lateStores }], guard := none }) (v := ?vc13_10) rfl (by kernel_rfl) (by kernel_rfl) (by kernel_rfl) (fun _ _ _ h => h) (Or.inl ⟨by rfl, ?hyc13_10⟩) (by assumption) ?restc13_10
          case hyc13_10 => (intro w hSw; (try dsimp only at hSw); go_simp; try with_reducible rfl)
          try simp only [Act.put, List.setIfInBounds_toArray, List.set_cons_zero, List.set_cons_succ]
          clear hHeld
          refine wpAnyH_ready (rs := [11]) (by kernel_rfl) (by simp) ?_
          refine AllReadyH.cons (o := { dst := none, op := Op.store 29 (Operand.tmp 4) (Operand.tmp 50), type := 0, pos := "l06_box.go:124", after := #[{ on := 9, ground := Ground.data }, { on := 7, ground := Ground.chain }, { on := 0, ground := Ground.phase }, { on := 1, ground := Ground.phase }, { on := 2, ground := Ground.phase }, { on := 3, ground := Ground.phase }, { on := 4, ground := Ground.phase }, { on := 5, ground := Ground.phase }, { on := 6, ground := Ground.phase }, { on := 7, ground := Ground.phase }, { on := 8, ground := Ground.phase }, { on := 9, ground := Ground.phase }, { on := 10, ground := Ground.textOnly Departure.lateStores }], guard := none }) rfl (fun K hK => ?_) AllReadyH.nil
          go_simp
          refine hK.out _ _ ((SG8.out.kept (cb := kb) (wst (wst (wst (wst (wst (wst (wst (wre _ _) _ _) _ _) _ _) _ _) _ _) _ _) _ _) KT.out).cells) (fun hHeld => ?_)
          clear hK K
          try simp only [Act.put, List.setIfInBounds_toArray, List.set_cons_zero, List.set_cons_succ]
          refine wpAnyH_done (by kernel_rfl) ?_ _
          refine NoPanic.normal ?_
          go_wp2
          go_roundw
          case rel => exact ⟨i + 1, by have := HX.out; omega, by go_num, _, _, _, _, _, _, _, _, _, NEW.out⟩
          case measure => simp [intOf]; have := HX.out; omega

        · clear T5s
          go_wp2_with fail
          refine wp_region_noPanic ?_
          refine wp_region_held_drew (S := (fun W => W.cell? ⟨kt, 0, none⟩ = some (.int .i64 st) ∧ W.cell? ⟨kt, 1, none⟩ = some (.int .i64 sb))) (by kernel_rfl) (SG5.out.cells) (fun hHeld => ?_)
          refine wpAnyH_take (i := 1) (oi := { dst := some 43, op := Op.move (Operand.tmp 6), type := 3, pos := "l06_box.go:124", after := #[], guard := none }) (v := ?vd1_1) rfl (by kernel_rfl) (by kernel_rfl) (by kernel_rfl) (fun _ _ _ h => h) (Or.inl ⟨by rfl, ?hyd1_1⟩) (by assumption) ?restd1_1
          case hyd1_1 => (intro w hSw; (try dsimp only at hSw); go_simp; try with_reducible rfl)
          try simp only [Act.put, List.setIfInBounds_toArray, List.set_cons_zero, List.set_cons_succ]
          refine wpAnyH_take (i := 2) (oi := { dst := some 44, op := Op.move (Operand.tmp 0), type := 54, pos := "l06_box.go:124", after := #[], guard := none }) (v := ?vd2_2) rfl (by kernel_rfl) (by kernel_rfl) (by kernel_rfl) (fun _ _ _ h => h) (Or.inl ⟨by rfl, ?hyd2_2⟩) (by assumption) ?restd2_2
          case hyd2_2 => (intro w hSw; (try dsimp only at hSw); go_simp; try with_reducible rfl)
          try simp only [Act.put, List.setIfInBounds_toArray, List.set_cons_zero, List.set_cons_succ]
          refine wpAnyH_take (i := 4) (oi := { dst := some 46, op := Op.move (Operand.tmp 0), type := 54, pos := "l06_box.go:124", after := #[], guard := none }) (v := ?vd3_4) rfl (by kernel_rfl) (by kernel_rfl) (by kernel_rfl) (fun _ _ _ h => h) (Or.inl ⟨by rfl, ?hyd3_4⟩) (by assumption) ?restd3_4
          case hyd3_4 => (intro w hSw; (try dsimp only at hSw); go_simp; try with_reducible rfl)
          try simp only [Act.put, List.setIfInBounds_toArray, List.set_cons_zero, List.set_cons_succ]
          refine wpAnyH_take (i := 6) (oi := { dst := some 48, op := Op.load 25 (Operand.tmp 7), type := 25, pos := "l06_box.go:124", after := #[], guard := none }) (v := ?vd4_6) rfl (by kernel_rfl) (by kernel_rfl) (by kernel_rfl) (fun _ _ _ h => h) (Or.inl ⟨by rfl, ?hyd4_6⟩) (by assumption) ?restd4_6
          case hyd4_6 => (intro w hSw; (try dsimp only at hSw); go_simp; try with_reducible rfl)
          try simp only [Act.put, List.setIfInBounds_toArray, List.set_cons_zero, List.set_cons_succ]
          clear hHeld
          refine wpAnyH_ready (rs := [0, 3]) (by kernel_rfl) (by simp) ?_
          refine AllReadyH.cons (o := { dst := some 42, op := Op.load 29 (Operand.tmp 4), type := 29, pos := "l06_box.go:124", after := #[], guard := none }) rfl (fun K hK => ?_) ?_
          · have q0 := T5.out.box.cells
            go_simp
            clear q0
            refine hK.out _ _ (SG5.out.cells) (fun hHeld => ?_)
            clear hK K
            try simp only [Act.put, List.setIfInBounds_toArray, List.set_cons_zero, List.set_cons_succ]
            clear hHeld
            refine wpAnyH_ready (rs := [3]) (by kernel_rfl) (by simp) ?_
            refine AllReadyH.cons (o := { dst := some 45, op := Op.call { callee := Callee.value (Operand.func 33), args := #[Operand.tmp 44, Operand.const (Value.int IntKind.i64 8)], argTypes := #[54, 3] }, type := 3, pos := "l06_box.go:124", after := #[{ on := 2, ground := Ground.data }], guard := none }) rfl (fun K hK => ?_) AllReadyH.nil
            go_simp
            refine (below4 cb ao n cap _ hn T5.out.cur (HO.out.later T5.out.gr) 8 (by decide) (by decide)).mono ?_
            rintro e w6 ⟨fl, hfl, rfl, hc6, hg6⟩
            have T6 := hid (T5.out.draw hg6 hc6)
            have SG6 := hid (SG5.out.kept hg6 KC.out)
            clear hc6 hg6 hfl
            go_wp2_with fail
            refine hK.out _ _ (SG6.out.cells) (fun hHeld => ?_)
            clear hK K
            try simp only [Act.put, List.setIfInBounds_toArray, List.set_cons_zero, List.set_cons_succ]
            clear hHeld
            refine wpAnyH_ready (rs := [5]) (by kernel_rfl) (by simp) ?_
            refine AllReadyH.cons (o := { dst := some 47, op := Op.call { callee := Callee.value (Operand.func 51), args := #[Operand.tmp 46], argTypes := #[54] }, type := 9, pos := "l06_box.go:124", after := #[{ on := 4, ground := Ground.data }, { on := 3, ground := Ground.chain }], guard := none }) rfl (fun K hK => ?_) AllReadyH.nil
            go_simp
            refine (l05Text_any cb ao n cap _ hn T6.out.cur (HO.out.later T6.out.gr)).mono ?_
            rintro e w7 ⟨tx, htx, rfl, hc7, hg7⟩
            have T7 := hid (T6.out.draw hg7 hc7)
            have SG7 := hid (SG6.out.kept hg7 KC.out)
            have HTX := hid htx
            clear hc7 hg7 htx
            go_wp2_with fail
            refine hK.out _ _ (SG7.out.cells) (fun hHeld => ?_)
            clear hK K
            try simp only [Act.put, List.setIfInBounds_toArray, List.set_cons_zero, List.set_cons_succ]
            clear hHeld
            refine wpAnyH_ready (rs := [7]) (by kernel_rfl) (by simp) ?_
            refine AllReadyH.cons (o := { dst := some 49, op := Op.call { callee := Callee.value (Operand.func 20), args := #[Operand.tmp 42, Operand.tmp 43, Operand.tmp 45, Operand.tmp 47, Operand.tmp 48], argTypes := #[29, 3, 3, 9, 25] }, type := 32, pos := "l06_box.go:124", after := #[{ on := 0, ground := Ground.data }, { on := 1, ground := Ground.data }, { on := 3, ground := Ground.data }, { on := 5, ground := Ground.data }, { on := 6, ground := Ground.data }, { on := 5, ground := Ground.chain }], guard := none }) rfl (fun K hK => ?_) AllReadyH.nil
            go_simp
            obtain ⟨p, ny, KL, N, hN, hD, hcall⟩ := add_l T7.out.dbx mn gn T7.out.reads.1.symm T7.out.reads.2.1.symm (10 + (y : Int)) (fl : Int) tx st sb (by have := HY.out; omega) HST.out (by have := HTX.out; omega)
            refine (hcall.out _ _ _ _ ma mc ga gc _ T7.out.reads.2.2.1 T7.out.reads.2.2.2 T7.out.own.none.2).mono ?_
            rintro e w8 ⟨a, c, a', c', rfl, ho8, hb8⟩
            have T8 := hid (T7.out.later hb8)
            have SG8 := hid (SG7.out.later hb8)
            have f8 := T8.out.box.loose
            have c8 := T8.out.box.cells
            have NEW := hid (T7.out.put hb8 ho8 hD.out)
            clear ho8 hb8 hN hcall
            go_wp2_with fail
            refine hK.out _ _ (SG8.out.cells) (fun hHeld => ?_)
            clear hK K
            try simp only [Act.put, List.setIfInBounds_toArray, List.set_cons_zero, List.set_cons_succ]
            refine wpAnyH_take (i := 8) (oi := { dst := some 41, op := Op.move (Operand.tmp 49), type := 32, pos := "l06_box.go:124", after := #[{ on := 7, ground := Ground.data }], guard := none }) (v := ?vd5_8) rfl (by kernel_rfl) (by kernel_rfl) (by kernel_rfl) (fun _ _ _ h => h) (Or.inl ⟨by rfl, ?hyd5_8⟩) (by assumption) ?restd5_8
            case hyd5_8 => (intro w hSw; (try dsimp only at hSw); go_simp; try with_reducible rfl)
            try simp only [Act.put, List.setIfInBounds_toArray, List.set_cons_zero, List.set_cons_succ]
            refine wpAnyH_take (i := 9) (oi := { dst := some 50, op := Op.extract (Operand.tmp 41) 0, type := 29, pos := "l06_box.go:124", after := #[{ on := 8, ground := Ground.data }], guard := none }) (v := ?vd6_9) rfl (by kernel_rfl) (by kernel_rfl) (by kernel_rfl) (fun _ _ _ h => h) (Or.inl ⟨by rfl, ?hyd6_9⟩) (by assumption) ?restd6_9
            case hyd6_9 => (intro w hSw; (try dsimp only at hSw); go_simp; try with_reducible rfl)
            try simp only [Act.put, List.setIfInBounds_toArray, List.set_cons_zero, List.set_cons_succ]
            refine wpAnyH_take (i := 10) (oi := { dst := some 51, op := Op.extract (Operand.tmp 41) 1, type := 4, pos := "l06_box.go:124", after := #[{ on := 8, ground := Ground.data }, { on := 11, ground := Ground.gcOnly Departure.lateStores }], guard := none }) (v := ?vd7_10) rfl (by kernel_rfl) (by kernel_rfl) (by kernel_rfl) (fun _ _ _ h => h) (Or.inl ⟨by rfl, ?hyd7_10⟩) (by assumption) ?restd7_10
            case hyd7_10 => (intro w hSw; (try dsimp only at hSw); go_simp; try with_reducible rfl)
            try simp only [Act.put, List.setIfInBounds_toArray, List.set_cons_zero, List.set_cons_succ]
            clear hHeld
            refine wpAnyH_ready (rs := [11]) (by kernel_rfl) (by simp) ?_
            refine AllReadyH.cons (o := { dst := none, op := Op.store 29 (Operand.tmp 4) (Operand.tmp 50), type := 0, pos := "l06_box.go:124", after := #[{ on := 9, ground := Ground.data }, { on := 7, ground := Ground.chain }, { on := 0, ground := Ground.phase }, { on := 1, ground := Ground.phase }, { on := 2, ground := Ground.phase }, { on := 3, ground := Ground.phase }, { on := 4, ground := Ground.phase }, { on := 5, ground := Ground.phase }, { on := 6, ground := Ground.phase }, { on := 7, ground := Ground.phase }, { on := 8, ground := Ground.phase }, { on := 9, ground := Ground.phase }, { on := 10, ground := Ground.textOnly Departure.lateStores }], guard := none }) rfl (fun K hK => ?_) AllReadyH.nil
            go_simp
            refine hK.out _ _ ((SG8.out.kept (cb := kb) (wst (wst (wst (wst (wst (wst (wst (wre _ _) _ _) _ _) _ _) _ _) _ _) _ _) _ _) KT.out).cells) (fun hHeld => ?_)
            clear hK K
            try simp only [Act.put, List.setIfInBounds_toArray, List.set_cons_zero, List.set_cons_succ]
            refine wpAnyH_done (by kernel_rfl) ?_ _
            refine NoPanic.normal ?_
            go_wp2
            go_roundw
            case rel => exact ⟨i + 1, by have := HX.out; omega, by go_num, _, _, _, _, _, _, _, _, _, NEW.out⟩
            case measure => simp [intOf]; have := HX.out; omega
          refine AllReadyH.cons (o := { dst := some 45, op := Op.call { callee := Callee.value (Operand.func 33), args := #[Operand.tmp 44, Operand.const (Value.int IntKind.i64 8)], argTypes := #[54, 3] }, type := 3, pos := "l06_box.go:124", after := #[{ on := 2, ground := Ground.data }], guard := none }) rfl (fun K hK => ?_) AllReadyH.nil
          go_simp
          refine (below4 cb ao n cap _ hn T5.out.cur (HO.out.later T5.out.gr) 8 (by decide) (by decide)).mono ?_
          rintro e w6 ⟨fl, hfl, rfl, hc6, hg6⟩
          have T6 := hid (T5.out.draw hg6 hc6)
          have SG6 := hid (SG5.out.kept hg6 KC.out)
          clear hc6 hg6 hfl
          go_wp2_with fail
          refine hK.out _ _ (SG6.out.cells) (fun hHeld => ?_)
          clear hK K
          try simp only [Act.put, List.setIfInBounds_toArray, List.set_cons_zero, List.set_cons_succ]
          clear hHeld
          refine wpAnyH_ready (rs := [0, 5]) (by kernel_rfl) (by simp) ?_
          refine AllReadyH.cons (o := { dst := some 42, op := Op.load 29 (Operand.tmp 4), type := 29, pos := "l06_box.go:124", after := #[], guard := none }) rfl (fun K hK => ?_) ?_
          · have q0 := T6.out.box.cells
            go_simp
            clear q0
            refine hK.out _ _ (SG6.out.cells) (fun hHeld => ?_)
            clear hK K
            try simp only [Act.put, List.setIfInBounds_toArray, List.set_cons_zero, List.set_cons_succ]
            clear hHeld
            refine wpAnyH_ready (rs := [5]) (by kernel_rfl) (by simp) ?_
            refine AllReadyH.cons (o := { dst := some 47, op := Op.call { callee := Callee.value (Operand.func 51), args := #[Operand.tmp 46], argTypes := #[54] }, type := 9, pos := "l06_box.go:124", after := #[{ on := 4, ground := Ground.data }, { on := 3, ground := Ground.chain }], guard := none }) rfl (fun K hK => ?_) AllReadyH.nil
            go_simp
            refine (l05Text_any cb ao n cap _ hn T6.out.cur (HO.out.later T6.out.gr)).mono ?_
            rintro e w7 ⟨tx, htx, rfl, hc7, hg7⟩
            have T7 := hid (T6.out.draw hg7 hc7)
            have SG7 := hid (SG6.out.kept hg7 KC.out)
            have HTX := hid htx
            clear hc7 hg7 htx
            go_wp2_with fail
            refine hK.out _ _ (SG7.out.cells) (fun hHeld => ?_)
            clear hK K
            try simp only [Act.put, List.setIfInBounds_toArray, List.set_cons_zero, List.set_cons_succ]
            clear hHeld
            refine wpAnyH_ready (rs := [7]) (by kernel_rfl) (by simp) ?_
            refine AllReadyH.cons (o := { dst := some 49, op := Op.call { callee := Callee.value (Operand.func 20), args := #[Operand.tmp 42, Operand.tmp 43, Operand.tmp 45, Operand.tmp 47, Operand.tmp 48], argTypes := #[29, 3, 3, 9, 25] }, type := 32, pos := "l06_box.go:124", after := #[{ on := 0, ground := Ground.data }, { on := 1, ground := Ground.data }, { on := 3, ground := Ground.data }, { on := 5, ground := Ground.data }, { on := 6, ground := Ground.data }, { on := 5, ground := Ground.chain }], guard := none }) rfl (fun K hK => ?_) AllReadyH.nil
            go_simp
            obtain ⟨p, ny, KL, N, hN, hD, hcall⟩ := add_l T7.out.dbx mn gn T7.out.reads.1.symm T7.out.reads.2.1.symm (10 + (y : Int)) (fl : Int) tx st sb (by have := HY.out; omega) HST.out (by have := HTX.out; omega)
            refine (hcall.out _ _ _ _ ma mc ga gc _ T7.out.reads.2.2.1 T7.out.reads.2.2.2 T7.out.own.none.2).mono ?_
            rintro e w8 ⟨a, c, a', c', rfl, ho8, hb8⟩
            have T8 := hid (T7.out.later hb8)
            have SG8 := hid (SG7.out.later hb8)
            have f8 := T8.out.box.loose
            have c8 := T8.out.box.cells
            have NEW := hid (T7.out.put hb8 ho8 hD.out)
            clear ho8 hb8 hN hcall
            go_wp2_with fail
            refine hK.out _ _ (SG8.out.cells) (fun hHeld => ?_)
            clear hK K
            try simp only [Act.put, List.setIfInBounds_toArray, List.set_cons_zero, List.set_cons_succ]
            refine wpAnyH_take (i := 8) (oi := { dst := some 41, op := Op.move (Operand.tmp 49), type := 32, pos := "l06_box.go:124", after := #[{ on := 7, ground := Ground.data }], guard := none }) (v := ?vd8_8) rfl (by kernel_rfl) (by kernel_rfl) (by kernel_rfl) (fun _ _ _ h => h) (Or.inl ⟨by rfl, ?hyd8_8⟩) (by assumption) ?restd8_8
            case hyd8_8 => (intro w hSw; (try dsimp only at hSw); go_simp; try with_reducible rfl)
            try simp only [Act.put, List.setIfInBounds_toArray, List.set_cons_zero, List.set_cons_succ]
            refine wpAnyH_take (i := 9) (oi := { dst := some 50, op := Op.extract (Operand.tmp 41) 0, type := 29, pos := "l06_box.go:124", after := #[{ on := 8, ground := Ground.data }], guard := none }) (v := ?vd9_9) rfl (by kernel_rfl) (by kernel_rfl) (by kernel_rfl) (fun _ _ _ h => h) (Or.inl ⟨by rfl, ?hyd9_9⟩) (by assumption) ?restd9_9
            case hyd9_9 => (intro w hSw; (try dsimp only at hSw); go_simp; try with_reducible rfl)
            try simp only [Act.put, List.setIfInBounds_toArray, List.set_cons_zero, List.set_cons_succ]
            refine wpAnyH_take (i := 10) (oi := { dst := some 51, op := Op.extract (Operand.tmp 41) 1, type := 4, pos := "l06_box.go:124", after := #[{ on := 8, ground := Ground.data }, { on := 11, ground := Ground.gcOnly Departure.lateStores }], guard := none }) (v := ?vd10_10) rfl (by kernel_rfl) (by kernel_rfl) (by kernel_rfl) (fun _ _ _ h => h) (Or.inl ⟨by rfl, ?hyd10_10⟩) (by assumption) ?restd10_10
            case hyd10_10 => (intro w hSw; (try dsimp only at hSw); go_simp; try with_reducible rfl)
            try simp only [Act.put, List.setIfInBounds_toArray, List.set_cons_zero, List.set_cons_succ]
            clear hHeld
            refine wpAnyH_ready (rs := [11]) (by kernel_rfl) (by simp) ?_
            refine AllReadyH.cons (o := { dst := none, op := Op.store 29 (Operand.tmp 4) (Operand.tmp 50), type := 0, pos := "l06_box.go:124", after := #[{ on := 9, ground := Ground.data }, { on := 7, ground := Ground.chain }, { on := 0, ground := Ground.phase }, { on := 1, ground := Ground.phase }, { on := 2, ground := Ground.phase }, { on := 3, ground := Ground.phase }, { on := 4, ground := Ground.phase }, { on := 5, ground := Ground.phase }, { on := 6, ground := Ground.phase }, { on := 7, ground := Ground.phase }, { on := 8, ground := Ground.phase }, { on := 9, ground := Ground.phase }, { on := 10, ground := Ground.textOnly Departure.lateStores }], guard := none }) rfl (fun K hK => ?_) AllReadyH.nil
            go_simp
            refine hK.out _ _ ((SG8.out.kept (cb := kb) (wst (wst (wst (wst (wst (wst (wst (wre _ _) _ _) _ _) _ _) _ _) _ _) _ _) _ _) KT.out).cells) (fun hHeld => ?_)
            clear hK K
            try simp only [Act.put, List.setIfInBounds_toArray, List.set_cons_zero, List.set_cons_succ]
            refine wpAnyH_done (by kernel_rfl) ?_ _
            refine NoPanic.normal ?_
            go_wp2
            go_roundw
            case rel => exact ⟨i + 1, by have := HX.out; omega, by go_num, _, _, _, _, _, _, _, _, _, NEW.out⟩
            case measure => simp [intOf]; have := HX.out; omega
          refine AllReadyH.cons (o := { dst := some 47, op := Op.call { callee := Callee.value (Operand.func 51), args := #[Operand.tmp 46], argTypes := #[54] }, type := 9, pos := "l06_box.go:124", after := #[{ on := 4, ground := Ground.data }, { on := 3, ground := Ground.chain }], guard := none }) rfl (fun K hK => ?_) AllReadyH.nil
          go_simp
          refine (l05Text_any cb ao n cap _ hn T6.out.cur (HO.out.later T6.out.gr)).mono ?_
          rintro e w7 ⟨tx, htx, rfl, hc7, hg7⟩
          have T7 := hid (T6.out.draw hg7 hc7)
          have SG7 := hid (SG6.out.kept hg7 KC.out)
          have HTX := hid htx
          clear hc7 hg7 htx
          go_wp2_with fail
          refine hK.out _ _ (SG7.out.cells) (fun hHeld => ?_)
          clear hK K
          try simp only [Act.put, List.setIfInBounds_toArray, List.set_cons_zero, List.set_cons_succ]
          clear hHeld
          refine wpAnyH_ready (rs := [0]) (by kernel_rfl) (by simp) ?_
          refine AllReadyH.cons (o := { dst := some 42, op := Op.load 29 (Operand.tmp 4), type := 29, pos := "l06_box.go:124", after := #[], guard := none }) rfl (fun K hK => ?_) AllReadyH.nil
          have q0 := T7.out.box.cells
          go_simp
          clear q0
          refine hK.out _ _ (SG7.out.cells) (fun hHeld => ?_)
          clear hK K
          try simp only [Act.put, List.setIfInBounds_toArray, List.set_cons_zero, List.set_cons_succ]
          clear hHeld
          refine wpAnyH_ready (rs := [7]) (by kernel_rfl) (by simp) ?_
          refine AllReadyH.cons (o := { dst := some 49, op := Op.call { callee := Callee.value (Operand.func 20), args := #[Operand.tmp 42, Operand.tmp 43, Operand.tmp 45, Operand.tmp 47, Operand.tmp 48], argTypes := #[29, 3, 3, 9, 25] }, type := 32, pos := "l06_box.go:124", after := #[{ on := 0, ground := Ground.data }, { on := 1, ground := Ground.data }, { on := 3, ground := Ground.data }, { on := 5, ground := Ground.data }, { on := 6, ground := Ground.data }, { on := 5, ground := Ground.chain }], guard := none }) rfl (fun K hK => ?_) AllReadyH.nil
          go_simp
          obtain ⟨p, ny, KL, N, hN, hD, hcall⟩ := add_l T7.out.dbx mn gn T7.out.reads.1.symm T7.out.reads.2.1.symm (10 + (y : Int)) (fl : Int) tx st sb (by have := HY.out; omega) HST.out (by have := HTX.out; omega)
          refine (hcall.out _ _ _ _ ma mc ga gc _ T7.out.reads.2.2.1 T7.out.reads.2.2.2 T7.out.own.none.2).mono ?_
          rintro e w8 ⟨a, c, a', c', rfl, ho8, hb8⟩
          have T8 := hid (T7.out.later hb8)
          have SG8 := hid (SG7.out.later hb8)
          have f8 := T8.out.box.loose
          have c8 := T8.out.box.cells
          have NEW := hid (T7.out.put hb8 ho8 hD.out)
          clear ho8 hb8 hN hcall
          go_wp2_with fail
          refine hK.out _ _ (SG8.out.cells) (fun hHeld => ?_)
          clear hK K
          try simp only [Act.put, List.setIfInBounds_toArray, List.set_cons_zero, List.set_cons_succ]
          refine wpAnyH_take (i := 8) (oi := { dst := some 41, op := Op.move (Operand.tmp 49), type := 32, pos := "l06_box.go:124", after := #[{ on := 7, ground := Ground.data }], guard := none }) (v := ?vd11_8) rfl (by kernel_rfl) (by kernel_rfl) (by kernel_rfl) (fun _ _ _ h => h) (Or.inl ⟨by rfl, ?hyd11_8⟩) (by assumption) ?restd11_8
          case hyd11_8 => (intro w hSw; (try dsimp only at hSw); go_simp; try with_reducible rfl)
          try simp only [Act.put, List.setIfInBounds_toArray, List.set_cons_zero, List.set_cons_succ]
          refine wpAnyH_take (i := 9) (oi := { dst := some 50, op := Op.extract (Operand.tmp 41) 0, type := 29, pos := "l06_box.go:124", after := #[{ on := 8, ground := Ground.data }], guard := none }) (v := ?vd12_9) rfl (by kernel_rfl) (by kernel_rfl) (by kernel_rfl) (fun _ _ _ h => h) (Or.inl ⟨by rfl, ?hyd12_9⟩) (by assumption) ?restd12_9
          case hyd12_9 => (intro w hSw; (try dsimp only at hSw); go_simp; try with_reducible rfl)
          try simp only [Act.put, List.setIfInBounds_toArray, List.set_cons_zero, List.set_cons_succ]
          refine wpAnyH_take (i := 10) (oi := { dst := some 51, op := Op.extract (Operand.tmp 41) 1, type := 4, pos := "l06_box.go:124", after := #[{ on := 8, ground := Ground.data }, { on := 11, ground := Ground.gcOnly Departure.lateStores }], guard := none }) (v := ?vd13_10) rfl (by kernel_rfl) (by kernel_rfl) (by kernel_rfl) (fun _ _ _ h => h) (Or.inl ⟨by rfl, ?hyd13_10⟩) (by assumption) ?restd13_10
          case hyd13_10 => (intro w hSw; (try dsimp only at hSw); go_simp; try with_reducible rfl)
          try simp only [Act.put, List.setIfInBounds_toArray, List.set_cons_zero, List.set_cons_succ]
          clear hHeld
          refine wpAnyH_ready (rs := [11]) (by kernel_rfl) (by simp) ?_
          refine AllReadyH.cons (o := { dst := none, op := Op.store 29 (Operand.tmp 4) (Operand.tmp 50), type := 0, pos := "l06_box.go:124", after := #[{ on := 9, ground := Ground.data }, { on := 7, ground := Ground.chain }, { on := 0, ground := Ground.phase }, { on := 1, ground := Ground.phase }, { on := 2, ground := Ground.phase }, { on := 3, ground := Ground.phase }, { on := 4, ground := Ground.phase }, { on := 5, ground := Ground.phase }, { on := 6, ground := Ground.phase }, { on := 7, ground := Ground.phase }, { on := 8, ground := Ground.phase }, { on := 9, ground := Ground.phase }, { on := 10, ground := Ground.textOnly Departure.lateStores }], guard := none }) rfl (fun K hK => ?_) AllReadyH.nil
          go_simp
          refine hK.out _ _ ((SG8.out.kept (cb := kb) (wst (wst (wst (wst (wst (wst (wst (wre _ _) _ _) _ _) _ _) _ _) _ _) _ _) _ _) KT.out).cells) (fun hHeld => ?_)
          clear hK K
          try simp only [Act.put, List.setIfInBounds_toArray, List.set_cons_zero, List.set_cons_succ]
          refine wpAnyH_done (by kernel_rfl) ?_ _
          refine NoPanic.normal ?_
          go_wp2
          go_roundw
          case rel => exact ⟨i + 1, by have := HX.out; omega, by go_num, _, _, _, _, _, _, _, _, _, NEW.out⟩
          case measure => simp [intOf]; have := HX.out; omega

        · clear T5s
          go_wp2_with fail
          refine wp_region_noPanic ?_
          refine wp_region_held_drew (S := (fun W => W.cell? ⟨kt, 0, none⟩ = some (.int .i64 st) ∧ W.cell? ⟨kt, 1, none⟩ = some (.int .i64 sb))) (by kernel_rfl) (SG5.out.cells) (fun hHeld => ?_)
          refine wpAnyH_take (i := 1) (oi := { dst := some 43, op := Op.move (Operand.tmp 6), type := 3, pos := "l06_box.go:124", after := #[], guard := none }) (v := ?ve1_1) rfl (by kernel_rfl) (by kernel_rfl) (by kernel_rfl) (fun _ _ _ h => h) (Or.inl ⟨by rfl, ?hye1_1⟩) (by assumption) ?reste1_1
          case hye1_1 => (intro w hSw; (try dsimp only at hSw); go_simp; try with_reducible rfl)
          try simp only [Act.put, List.setIfInBounds_toArray, List.set_cons_zero, List.set_cons_succ]
          refine wpAnyH_take (i := 2) (oi := { dst := some 44, op := Op.move (Operand.tmp 0), type := 54, pos := "l06_box.go:124", after := #[], guard := none }) (v := ?ve2_2) rfl (by kernel_rfl) (by kernel_rfl) (by kernel_rfl) (fun _ _ _ h => h) (Or.inl ⟨by rfl, ?hye2_2⟩) (by assumption) ?reste2_2
          case hye2_2 => (intro w hSw; (try dsimp only at hSw); go_simp; try with_reducible rfl)
          try simp only [Act.put, List.setIfInBounds_toArray, List.set_cons_zero, List.set_cons_succ]
          refine wpAnyH_take (i := 4) (oi := { dst := some 46, op := Op.move (Operand.tmp 0), type := 54, pos := "l06_box.go:124", after := #[], guard := none }) (v := ?ve3_4) rfl (by kernel_rfl) (by kernel_rfl) (by kernel_rfl) (fun _ _ _ h => h) (Or.inl ⟨by rfl, ?hye3_4⟩) (by assumption) ?reste3_4
          case hye3_4 => (intro w hSw; (try dsimp only at hSw); go_simp; try with_reducible rfl)
          try simp only [Act.put, List.setIfInBounds_toArray, List.set_cons_zero, List.set_cons_succ]
          refine wpAnyH_take (i := 6) (oi := { dst := some 48, op := Op.load 25 (Operand.tmp 7), type := 25, pos := "l06_box.go:124", after := #[], guard := none }) (v := ?ve4_6) rfl (by kernel_rfl) (by kernel_rfl) (by kernel_rfl) (fun _ _ _ h => h) (Or.inl ⟨by rfl, ?hye4_6⟩) (by assumption) ?reste4_6
          case hye4_6 => (intro w hSw; (try dsimp only at hSw); go_simp; try with_reducible rfl)
          try simp only [Act.put, List.setIfInBounds_toArray, List.set_cons_zero, List.set_cons_succ]
          clear hHeld
          refine wpAnyH_ready (rs := [0, 3]) (by kernel_rfl) (by simp) ?_
          refine AllReadyH.cons (o := { dst := some 42, op := Op.load 29 (Operand.tmp 4), type := 29, pos := "l06_box.go:124", after := #[], guard := none }) rfl (fun K hK => ?_) ?_
          · have q0 := T5.out.box.cells
            go_simp
            clear q0
            refine hK.out _ _ (SG5.out.cells) (fun hHeld => ?_)
            clear hK K
            try simp only [Act.put, List.setIfInBounds_toArray, List.set_cons_zero, List.set_cons_succ]
            clear hHeld
            refine wpAnyH_ready (rs := [3]) (by kernel_rfl) (by simp) ?_
            refine AllReadyH.cons (o := { dst := some 45, op := Op.call { callee := Callee.value (Operand.func 33), args := #[Operand.tmp 44, Operand.const (Value.int IntKind.i64 8)], argTypes := #[54, 3] }, type := 3, pos := "l06_box.go:124", after := #[{ on := 2, ground := Ground.data }], guard := none }) rfl (fun K hK => ?_) AllReadyH.nil
            go_simp
            refine (below4 cb ao n cap _ hn T5.out.cur (HO.out.later T5.out.gr) 8 (by decide) (by decide)).mono ?_
            rintro e w6 ⟨fl, hfl, rfl, hc6, hg6⟩
            have T6 := hid (T5.out.draw hg6 hc6)
            have SG6 := hid (SG5.out.kept hg6 KC.out)
            clear hc6 hg6 hfl
            go_wp2_with fail
            refine hK.out _ _ (SG6.out.cells) (fun hHeld => ?_)
            clear hK K
            try simp only [Act.put, List.setIfInBounds_toArray, List.set_cons_zero, List.set_cons_succ]
            clear hHeld
            refine wpAnyH_ready (rs := [5]) (by kernel_rfl) (by simp) ?_
            refine AllReadyH.cons (o := { dst := some 47, op := Op.call { callee := Callee.value (Operand.func 51), args := #[Operand.tmp 46], argTypes := #[54] }, type := 9, pos := "l06_box.go:124", after := #[{ on := 4, ground := Ground.data }, { on := 3, ground := Ground.chain }], guard := none }) rfl (fun K hK => ?_) AllReadyH.nil
            go_simp
            refine (l05Text_any cb ao n cap _ hn T6.out.cur (HO.out.later T6.out.gr)).mono ?_
            rintro e w7 ⟨tx, htx, rfl, hc7, hg7⟩
            have T7 := hid (T6.out.draw hg7 hc7)
            have SG7 := hid (SG6.out.kept hg7 KC.out)
            have HTX := hid htx
            clear hc7 hg7 htx
            go_wp2_with fail
            refine hK.out _ _ (SG7.out.cells) (fun hHeld => ?_)
            clear hK K
            try simp only [Act.put, List.setIfInBounds_toArray, List.set_cons_zero, List.set_cons_succ]
            clear hHeld
            refine wpAnyH_ready (rs := [7]) (by kernel_rfl) (by simp) ?_
            refine AllReadyH.cons (o := { dst := some 49, op := Op.call { callee := Callee.value (Operand.func 20), args := #[Operand.tmp 42, Operand.tmp 43, Operand.tmp 45, Operand.tmp 47, Operand.tmp 48], argTypes := #[29, 3, 3, 9, 25] }, type := 32, pos := "l06_box.go:124", after := #[{ on := 0, ground := Ground.data }, { on := 1, ground := Ground.data }, { on := 3, ground := Ground.data }, { on := 5, ground := Ground.data }, { on := 6, ground := Ground.data }, { on := 5, ground := Ground.chain }], guard := none }) rfl (fun K hK => ?_) AllReadyH.nil
            go_simp
            obtain ⟨p, ny, KL, N, hN, hD, hcall⟩ := add_l T7.out.dbx mn gn T7.out.reads.1.symm T7.out.reads.2.1.symm (10 + (y : Int)) (fl : Int) tx st sb (by have := HY.out; omega) HST.out (by have := HTX.out; omega)
            refine (hcall.out _ _ _ _ ma mc ga gc _ T7.out.reads.2.2.1 T7.out.reads.2.2.2 T7.out.own.none.2).mono ?_
            rintro e w8 ⟨a, c, a', c', rfl, ho8, hb8⟩
            have T8 := hid (T7.out.later hb8)
            have SG8 := hid (SG7.out.later hb8)
            have f8 := T8.out.box.loose
            have c8 := T8.out.box.cells
            have NEW := hid (T7.out.put hb8 ho8 hD.out)
            clear ho8 hb8 hN hcall
            go_wp2_with fail
            refine hK.out _ _ (SG8.out.cells) (fun hHeld => ?_)
            clear hK K
            try simp only [Act.put, List.setIfInBounds_toArray, List.set_cons_zero, List.set_cons_succ]
            refine wpAnyH_take (i := 8) (oi := { dst := some 41, op := Op.move (Operand.tmp 49), type := 32, pos := "l06_box.go:124", after := #[{ on := 7, ground := Ground.data }], guard := none }) (v := ?ve5_8) rfl (by kernel_rfl) (by kernel_rfl) (by kernel_rfl) (fun _ _ _ h => h) (Or.inl ⟨by rfl, ?hye5_8⟩) (by assumption) ?reste5_8
            case hye5_8 => (intro w hSw; (try dsimp only at hSw); go_simp; try with_reducible rfl)
            try simp only [Act.put, List.setIfInBounds_toArray, List.set_cons_zero, List.set_cons_succ]
            refine wpAnyH_take (i := 9) (oi := { dst := some 50, op := Op.extract (Operand.tmp 41) 0, type := 29, pos := "l06_box.go:124", after := #[{ on := 8, ground := Ground.data }], guard := none }) (v := ?ve6_9) rfl (by kernel_rfl) (by kernel_rfl) (by kernel_rfl) (fun _ _ _ h => h) (Or.inl ⟨by rfl, ?hye6_9⟩) (by assumption) ?reste6_9
            case hye6_9 => (intro w hSw; (try dsimp only at hSw); go_simp; try with_reducible rfl)
            try simp only [Act.put, List.setIfInBounds_toArray, List.set_cons_zero, List.set_cons_succ]
            refine wpAnyH_take (i := 10) (oi := { dst := some 51, op := Op.extract (Operand.tmp 41) 1, type := 4, pos := "l06_box.go:124", after := #[{ on := 8, ground := Ground.data }, { on := 11, ground := Ground.gcOnly Departure.lateStores }], guard := none }) (v := ?ve7_10) rfl (by kernel_rfl) (by kernel_rfl) (by kernel_rfl) (fun _ _ _ h => h) (Or.inl ⟨by rfl, ?hye7_10⟩) (by assumption) ?reste7_10
            case hye7_10 => (intro w hSw; (try dsimp only at hSw); go_simp; try with_reducible rfl)
            try simp only [Act.put, List.setIfInBounds_toArray, List.set_cons_zero, List.set_cons_succ]
            clear hHeld
            refine wpAnyH_ready (rs := [11]) (by kernel_rfl) (by simp) ?_
            refine AllReadyH.cons (o := { dst := none, op := Op.store 29 (Operand.tmp 4) (Operand.tmp 50), type := 0, pos := "l06_box.go:124", after := #[{ on := 9, ground := Ground.data }, { on := 7, ground := Ground.chain }, { on := 0, ground := Ground.phase }, { on := 1, ground := Ground.phase }, { on := 2, ground := Ground.phase }, { on := 3, ground := Ground.phase }, { on := 4, ground := Ground.phase }, { on := 5, ground := Ground.phase }, { on := 6, ground := Ground.phase }, { on := 7, ground := Ground.phase }, { on := 8, ground := Ground.phase }, { on := 9, ground := Ground.phase }, { on := 10, ground := Ground.textOnly Departure.lateStores }], guard := none }) rfl (fun K hK => ?_) AllReadyH.nil
            go_simp
            refine hK.out _ _ ((SG8.out.kept (cb := kb) (wst (wst (wst (wst (wst (wst (wst (wre _ _) _ _) _ _) _ _) _ _) _ _) _ _) _ _) KT.out).cells) (fun hHeld => ?_)
            clear hK K
            try simp only [Act.put, List.setIfInBounds_toArray, List.set_cons_zero, List.set_cons_succ]
            refine wpAnyH_done (by kernel_rfl) ?_ _
            refine NoPanic.normal ?_
            go_wp2
            go_roundw
            case rel => exact ⟨i + 1, by have := HX.out; omega, by go_num, _, _, _, _, _, _, _, _, _, NEW.out⟩
            case measure => simp [intOf]; have := HX.out; omega
          refine AllReadyH.cons (o := { dst := some 45, op := Op.call { callee := Callee.value (Operand.func 33), args := #[Operand.tmp 44, Operand.const (Value.int IntKind.i64 8)], argTypes := #[54, 3] }, type := 3, pos := "l06_box.go:124", after := #[{ on := 2, ground := Ground.data }], guard := none }) rfl (fun K hK => ?_) AllReadyH.nil
          go_simp
          refine (below4 cb ao n cap _ hn T5.out.cur (HO.out.later T5.out.gr) 8 (by decide) (by decide)).mono ?_
          rintro e w6 ⟨fl, hfl, rfl, hc6, hg6⟩
          have T6 := hid (T5.out.draw hg6 hc6)
          have SG6 := hid (SG5.out.kept hg6 KC.out)
          clear hc6 hg6 hfl
          go_wp2_with fail
          refine hK.out _ _ (SG6.out.cells) (fun hHeld => ?_)
          clear hK K
          try simp only [Act.put, List.setIfInBounds_toArray, List.set_cons_zero, List.set_cons_succ]
          clear hHeld
          refine wpAnyH_ready (rs := [0, 5]) (by kernel_rfl) (by simp) ?_
          refine AllReadyH.cons (o := { dst := some 42, op := Op.load 29 (Operand.tmp 4), type := 29, pos := "l06_box.go:124", after := #[], guard := none }) rfl (fun K hK => ?_) ?_
          · have q0 := T6.out.box.cells
            go_simp
            clear q0
            refine hK.out _ _ (SG6.out.cells) (fun hHeld => ?_)
            clear hK K
            try simp only [Act.put, List.setIfInBounds_toArray, List.set_cons_zero, List.set_cons_succ]
            clear hHeld
            refine wpAnyH_ready (rs := [5]) (by kernel_rfl) (by simp) ?_
            refine AllReadyH.cons (o := { dst := some 47, op := Op.call { callee := Callee.value (Operand.func 51), args := #[Operand.tmp 46], argTypes := #[54] }, type := 9, pos := "l06_box.go:124", after := #[{ on := 4, ground := Ground.data }, { on := 3, ground := Ground.chain }], guard := none }) rfl (fun K hK => ?_) AllReadyH.nil
            go_simp
            refine (l05Text_any cb ao n cap _ hn T6.out.cur (HO.out.later T6.out.gr)).mono ?_
            rintro e w7 ⟨tx, htx, rfl, hc7, hg7⟩
            have T7 := hid (T6.out.draw hg7 hc7)
            have SG7 := hid (SG6.out.kept hg7 KC.out)
            have HTX := hid htx
            clear hc7 hg7 htx
            go_wp2_with fail
            refine hK.out _ _ (SG7.out.cells) (fun hHeld => ?_)
            clear hK K
            try simp only [Act.put, List.setIfInBounds_toArray, List.set_cons_zero, List.set_cons_succ]
            clear hHeld
            refine wpAnyH_ready (rs := [7]) (by kernel_rfl) (by simp) ?_
            refine AllReadyH.cons (o := { dst := some 49, op := Op.call { callee := Callee.value (Operand.func 20), args := #[Operand.tmp 42, Operand.tmp 43, Operand.tmp 45, Operand.tmp 47, Operand.tmp 48], argTypes := #[29, 3, 3, 9, 25] }, type := 32, pos := "l06_box.go:124", after := #[{ on := 0, ground := Ground.data }, { on := 1, ground := Ground.data }, { on := 3, ground := Ground.data }, { on := 5, ground := Ground.data }, { on := 6, ground := Ground.data }, { on := 5, ground := Ground.chain }], guard := none }) rfl (fun K hK => ?_) AllReadyH.nil
            go_simp
            obtain ⟨p, ny, KL, N, hN, hD, hcall⟩ := add_l T7.out.dbx mn gn T7.out.reads.1.symm T7.out.reads.2.1.symm (10 + (y : Int)) (fl : Int) tx st sb (by have := HY.out; omega) HST.out (by have := HTX.out; omega)
            refine (hcall.out _ _ _ _ ma mc ga gc _ T7.out.reads.2.2.1 T7.out.reads.2.2.2 T7.out.own.none.2).mono ?_
            rintro e w8 ⟨a, c, a', c', rfl, ho8, hb8⟩
            have T8 := hid (T7.out.later hb8)
            have SG8 := hid (SG7.out.later hb8)
            have f8 := T8.out.box.loose
            have c8 := T8.out.box.cells
            have NEW := hid (T7.out.put hb8 ho8 hD.out)
            clear ho8 hb8 hN hcall
            go_wp2_with fail
            refine hK.out _ _ (SG8.out.cells) (fun hHeld => ?_)
            clear hK K
            try simp only [Act.put, List.setIfInBounds_toArray, List.set_cons_zero, List.set_cons_succ]
            refine wpAnyH_take (i := 8) (oi := { dst := some 41, op := Op.move (Operand.tmp 49), type := 32, pos := "l06_box.go:124", after := #[{ on := 7, ground := Ground.data }], guard := none }) (v := ?ve8_8) rfl (by kernel_rfl) (by kernel_rfl) (by kernel_rfl) (fun _ _ _ h => h) (Or.inl ⟨by rfl, ?hye8_8⟩) (by assumption) ?reste8_8
            case hye8_8 => (intro w hSw; (try dsimp only at hSw); go_simp; try with_reducible rfl)
            try simp only [Act.put, List.setIfInBounds_toArray, List.set_cons_zero, List.set_cons_succ]
            refine wpAnyH_take (i := 9) (oi := { dst := some 50, op := Op.extract (Operand.tmp 41) 0, type := 29, pos := "l06_box.go:124", after := #[{ on := 8, ground := Ground.data }], guard := none }) (v := ?ve9_9) rfl (by kernel_rfl) (by kernel_rfl) (by kernel_rfl) (fun _ _ _ h => h) (Or.inl ⟨by rfl, ?hye9_9⟩) (by assumption) ?reste9_9
            case hye9_9 => (intro w hSw; (try dsimp only at hSw); go_simp; try with_reducible rfl)
            try simp only [Act.put, List.setIfInBounds_toArray, List.set_cons_zero, List.set_cons_succ]
            refine wpAnyH_take (i := 10) (oi := { dst := some 51, op := Op.extract (Operand.tmp 41) 1, type := 4, pos := "l06_box.go:124", after := #[{ on := 8, ground := Ground.data }, { on := 11, ground := Ground.gcOnly Departure.lateStores }], guard := none }) (v := ?ve10_10) rfl (by kernel_rfl) (by kernel_rfl) (by kernel_rfl) (fun _ _ _ h => h) (Or.inl ⟨by rfl, ?hye10_10⟩) (by assumption) ?reste10_10
            case hye10_10 => (intro w hSw; (try dsimp only at hSw); go_simp; try with_reducible rfl)
            try simp only [Act.put, List.setIfInBounds_toArray, List.set_cons_zero, List.set_cons_succ]
            clear hHeld
            refine wpAnyH_ready (rs := [11]) (by kernel_rfl) (by simp) ?_
            refine AllReadyH.cons (o := { dst := none, op := Op.store 29 (Operand.tmp 4) (Operand.tmp 50), type := 0, pos := "l06_box.go:124", after := #[{ on := 9, ground := Ground.data }, { on := 7, ground := Ground.chain }, { on := 0, ground := Ground.phase }, { on := 1, ground := Ground.phase }, { on := 2, ground := Ground.phase }, { on := 3, ground := Ground.phase }, { on := 4, ground := Ground.phase }, { on := 5, ground := Ground.phase }, { on := 6, ground := Ground.phase }, { on := 7, ground := Ground.phase }, { on := 8, ground := Ground.phase }, { on := 9, ground := Ground.phase }, { on := 10, ground := Ground.textOnly Departure.lateStores }], guard := none }) rfl (fun K hK => ?_) AllReadyH.nil
            go_simp
            refine hK.out _ _ ((SG8.out.kept (cb := kb) (wst (wst (wst (wst (wst (wst (wst (wre _ _) _ _) _ _) _ _) _ _) _ _) _ _) _ _) KT.out).cells) (fun hHeld => ?_)
            clear hK K
            try simp only [Act.put, List.setIfInBounds_toArray, List.set_cons_zero, List.set_cons_succ]
            refine wpAnyH_done (by kernel_rfl) ?_ _
            refine NoPanic.normal ?_
            go_wp2
            go_roundw
            case rel => exact ⟨i + 1, by have := HX.out; omega, by go_num, _, _, _, _, _, _, _, _, _, NEW.out⟩
            case measure => simp [intOf]; have := HX.out; omega
          refine AllReadyH.cons (o := { dst := some 47, op := Op.call { callee := Callee.value (Operand.func 51), args := #[Operand.tmp 46], argTypes := #[54] }, type := 9, pos := "l06_box.go:124", after := #[{ on := 4, ground := Ground.data }, { on := 3, ground := Ground.chain }], guard := none }) rfl (fun K hK => ?_) AllReadyH.nil
          go_simp
          refine (l05Text_any cb ao n cap _ hn T6.out.cur (HO.out.later T6.out.gr)).mono ?_
          rintro e w7 ⟨tx, htx, rfl, hc7, hg7⟩
          have T7 := hid (T6.out.draw hg7 hc7)
          have SG7 := hid (SG6.out.kept hg7 KC.out)
          have HTX := hid htx
          clear hc7 hg7 htx
          go_wp2_with fail
          refine hK.out _ _ (SG7.out.cells) (fun hHeld => ?_)
          clear hK K
          try simp only [Act.put, List.setIfInBounds_toArray, List.set_cons_zero, List.set_cons_succ]
          clear hHeld
          refine wpAnyH_ready (rs := [0]) (by kernel_rfl) (by simp) ?_
          refine AllReadyH.cons (o := { dst := some 42, op := Op.load 29 (Operand.tmp 4), type := 29, pos := "l06_box.go:124", after := #[], guard := none }) rfl (fun K hK => ?_) AllReadyH.nil
          have q0 := T7.out.box.cells
          go_simp
          clear q0
          refine hK.out _ _ (SG7.out.cells) (fun hHeld => ?_)
          clear hK K
          try simp only [Act.put, List.setIfInBounds_toArray, List.set_cons_zero, List.set_cons_succ]
          clear hHeld
          refine wpAnyH_ready (rs := [7]) (by kernel_rfl) (by simp) ?_
          refine AllReadyH.cons (o := { dst := some 49, op := Op.call { callee := Callee.value (Operand.func 20), args := #[Operand.tmp 42, Operand.tmp 43, Operand.tmp 45, Operand.tmp 47, Operand.tmp 48], argTypes := #[29, 3, 3, 9, 25] }, type := 32, pos := "l06_box.go:124", after := #[{ on := 0, ground := Ground.data }, { on := 1, ground := Ground.data }, { on := 3, ground := Ground.data }, { on := 5, ground := Ground.data }, { on := 6, ground := Ground.data }, { on := 5, ground := Ground.chain }], guard := none }) rfl (fun K hK => ?_) AllReadyH.nil
          go_simp
          obtain ⟨p, ny, KL, N, hN, hD, hcall⟩ := add_l T7.out.dbx mn gn T7.out.reads.1.symm T7.out.reads.2.1.symm (10 + (y : Int)) (fl : Int) tx st sb (by have := HY.out; omega) HST.out (by have := HTX.out; omega)
          refine (hcall.out _ _ _ _ ma mc ga gc _ T7.out.reads.2.2.1 T7.out.reads.2.2.2 T7.out.own.none.2).mono ?_
          rintro e w8 ⟨a, c, a', c', rfl, ho8, hb8⟩
          have T8 := hid (T7.out.later hb8)
          have SG8 := hid (SG7.out.later hb8)
          have f8 := T8.out.box.loose
          have c8 := T8.out.box.cells
          have NEW := hid (T7.out.put hb8 ho8 hD.out)
          clear ho8 hb8 hN hcall
          go_wp2_with fail
          refine hK.out _ _ (SG8.out.cells) (fun hHeld => ?_)
          clear hK K
          try simp only [Act.put, List.setIfInBounds_toArray, List.set_cons_zero, List.set_cons_succ]
          refine wpAnyH_take (i := 8) (oi := { dst := some 41, op := Op.move (Operand.tmp 49), type := 32, pos := "l06_box.go:124", after := #[{ on := 7, ground := Ground.data }], guard := none }) (v := ?ve11_8) rfl (by kernel_rfl) (by kernel_rfl) (by kernel_rfl) (fun _ _ _ h => h) (Or.inl ⟨by rfl, ?hye11_8⟩) (by assumption) ?reste11_8
          case hye11_8 => (intro w hSw; (try dsimp only at hSw); go_simp; try with_reducible rfl)
          try simp only [Act.put, List.setIfInBounds_toArray, List.set_cons_zero, List.set_cons_succ]
          refine wpAnyH_take (i := 9) (oi := { dst := some 50, op := Op.extract (Operand.tmp 41) 0, type := 29, pos := "l06_box.go:124", after := #[{ on := 8, ground := Ground.data }], guard := none }) (v := ?ve12_9) rfl (by kernel_rfl) (by kernel_rfl) (by kernel_rfl) (fun _ _ _ h => h) (Or.inl ⟨by rfl, ?hye12_9⟩) (by assumption) ?reste12_9
          case hye12_9 => (intro w hSw; (try dsimp only at hSw); go_simp; try with_reducible rfl)
          try simp only [Act.put, List.setIfInBounds_toArray, List.set_cons_zero, List.set_cons_succ]
          refine wpAnyH_take (i := 10) (oi := { dst := some 51, op := Op.extract (Operand.tmp 41) 1, type := 4, pos := "l06_box.go:124", after := #[{ on := 8, ground := Ground.data }, { on := 11, ground := Ground.gcOnly Departure.lateStores }], guard := none }) (v := ?ve13_10) rfl (by kernel_rfl) (by kernel_rfl) (by kernel_rfl) (fun _ _ _ h => h) (Or.inl ⟨by rfl, ?hye13_10⟩) (by assumption) ?reste13_10
          case hye13_10 => (intro w hSw; (try dsimp only at hSw); go_simp; try with_reducible rfl)
          try simp only [Act.put, List.setIfInBounds_toArray, List.set_cons_zero, List.set_cons_succ]
          clear hHeld
          refine wpAnyH_ready (rs := [11]) (by kernel_rfl) (by simp) ?_
          refine AllReadyH.cons (o := { dst := none, op := Op.store 29 (Operand.tmp 4) (Operand.tmp 50), type := 0, pos := "l06_box.go:124", after := #[{ on := 9, ground := Ground.data }, { on := 7, ground := Ground.chain }, { on := 0, ground := Ground.phase }, { on := 1, ground := Ground.phase }, { on := 2, ground := Ground.phase }, { on := 3, ground := Ground.phase }, { on := 4, ground := Ground.phase }, { on := 5, ground := Ground.phase }, { on := 6, ground := Ground.phase }, { on := 7, ground := Ground.phase }, { on := 8, ground := Ground.phase }, { on := 9, ground := Ground.phase }, { on := 10, ground := Ground.textOnly Departure.lateStores }], guard := none }) rfl (fun K hK => ?_) AllReadyH.nil
          go_simp
          refine hK.out _ _ ((SG8.out.kept (cb := kb) (wst (wst (wst (wst (wst (wst (wst (wre _ _) _ _) _ _) _ _) _ _) _ _) _ _) _ _) KT.out).cells) (fun hHeld => ?_)
          clear hK K
          try simp only [Act.put, List.setIfInBounds_toArray, List.set_cons_zero, List.set_cons_succ]
          refine wpAnyH_done (by kernel_rfl) ?_ _
          refine NoPanic.normal ?_
          go_wp2
          go_roundw
          case rel => exact ⟨i + 1, by have := HX.out; omega, by go_num, _, _, _, _, _, _, _, _, _, NEW.out⟩
          case measure => simp [intOf]; have := HX.out; omega

        · clear T5s
          go_wp2_with fail
          refine wp_region_noPanic ?_
          refine wp_region_held_drew (S := (fun W => W.cell? ⟨kt, 0, none⟩ = some (.int .i64 st) ∧ W.cell? ⟨kt, 1, none⟩ = some (.int .i64 sb))) (by kernel_rfl) (SG5.out.cells) (fun hHeld => ?_)
          refine wpAnyH_take (i := 1) (oi := { dst := some 56, op := Op.move (Operand.tmp 6), type := 3, pos := "l06_box.go:126", after := #[], guard := none }) (v := ?vf1_1) rfl (by kernel_rfl) (by kernel_rfl) (by kernel_rfl) (fun _ _ _ h => h) (Or.inl ⟨by rfl, ?hyf1_1⟩) (by assumption) ?restf1_1
          case hyf1_1 => (intro w hSw; (try dsimp only at hSw); go_simp; try with_reducible rfl)
          try simp only [Act.put, List.setIfInBounds_toArray, List.set_cons_zero, List.set_cons_succ]
          refine wpAnyH_take (i := 2) (oi := { dst := some 57, op := Op.move (Operand.tmp 0), type := 54, pos := "l06_box.go:126", after := #[], guard := none }) (v := ?vf2_2) rfl (by kernel_rfl) (by kernel_rfl) (by kernel_rfl) (fun _ _ _ h => h) (Or.inl ⟨by rfl, ?hyf2_2⟩) (by assumption) ?restf2_2
          case hyf2_2 => (intro w hSw; (try dsimp only at hSw); go_simp; try with_reducible rfl)
          try simp only [Act.put, List.setIfInBounds_toArray, List.set_cons_zero, List.set_cons_succ]
          refine wpAnyH_take (i := 4) (oi := { dst := some 59, op := Op.load 25 (Operand.tmp 7), type := 25, pos := "l06_box.go:126", after := #[], guard := none }) (v := ?vf3_4) rfl (by kernel_rfl) (by kernel_rfl) (by kernel_rfl) (fun _ _ _ h => h) (Or.inl ⟨by rfl, ?hyf3_4⟩) (by assumption) ?restf3_4
          case hyf3_4 => (intro w hSw; (try dsimp only at hSw); go_simp; try with_reducible rfl)
          try simp only [Act.put, List.setIfInBounds_toArray, List.set_cons_zero, List.set_cons_succ]
          clear hHeld
          refine wpAnyH_ready (rs := [0, 3]) (by kernel_rfl) (by simp) ?_
          refine AllReadyH.cons (o := { dst := some 55, op := Op.load 29 (Operand.tmp 4), type := 29, pos := "l06_box.go:126", after := #[], guard := none }) rfl (fun K hK => ?_) ?_
          · have q0 := T5.out.box.cells
            go_simp
            clear q0
            refine hK.out _ _ (SG5.out.cells) (fun hHeld => ?_)
            clear hK K
            try simp only [Act.put, List.setIfInBounds_toArray, List.set_cons_zero, List.set_cons_succ]
            clear hHeld
            refine wpAnyH_ready (rs := [3]) (by kernel_rfl) (by simp) ?_
            refine AllReadyH.cons (o := { dst := some 58, op := Op.call { callee := Callee.value (Operand.func 33), args := #[Operand.tmp 57, Operand.const (Value.int IntKind.i64 8)], argTypes := #[54, 3] }, type := 3, pos := "l06_box.go:126", after := #[{ on := 2, ground := Ground.data }], guard := none }) rfl (fun K hK => ?_) AllReadyH.nil
            go_simp
            refine (below4 cb ao n cap _ hn T5.out.cur (HO.out.later T5.out.gr) 8 (by decide) (by decide)).mono ?_
            rintro e w6 ⟨fl, hfl, rfl, hc6, hg6⟩
            have T6 := hid (T5.out.draw hg6 hc6)
            have SG6 := hid (SG5.out.kept hg6 KC.out)
            clear hc6 hg6 hfl
            go_wp2_with fail
            refine hK.out _ _ (SG6.out.cells) (fun hHeld => ?_)
            clear hK K
            try simp only [Act.put, List.setIfInBounds_toArray, List.set_cons_zero, List.set_cons_succ]
            clear hHeld
            refine wpAnyH_ready (rs := [5]) (by kernel_rfl) (by simp) ?_
            refine AllReadyH.cons (o := { dst := some 60, op := Op.call { callee := Callee.value (Operand.func 22), args := #[Operand.tmp 55, Operand.tmp 56, Operand.tmp 58, Operand.tmp 59], argTypes := #[29, 3, 3, 25] }, type := 32, pos := "l06_box.go:126", after := #[{ on := 0, ground := Ground.data }, { on := 1, ground := Ground.data }, { on := 3, ground := Ground.data }, { on := 4, ground := Ground.data }, { on := 3, ground := Ground.chain }], guard := none }) rfl (fun K hK => ?_) AllReadyH.nil
            go_simp
            obtain ⟨p, KL, hN, hD, hcall⟩ := flag_l T6.out.dbx mn gn T6.out.reads.1.symm T6.out.reads.2.1.symm (10 + (y : Int)) (fl : Int) st sb HST.out
            refine (hcall.out _ _ _ _ ma mc ga gc _ T6.out.reads.2.2.1 T6.out.reads.2.2.2 T6.out.own.none.2).mono ?_
            rintro e w8 ⟨a, c, a', c', rfl, ho8, hb8⟩
            have T8 := hid (T6.out.later hb8)
            have SG8 := hid (SG6.out.later hb8)
            have f8 := T8.out.box.loose
            have c8 := T8.out.box.cells
            have NEW := hid (T6.out.put hb8 ho8 hD.out)
            clear ho8 hb8 hN hcall
            go_wp2_with fail
            refine hK.out _ _ (SG8.out.cells) (fun hHeld => ?_)
            clear hK K
            try simp only [Act.put, List.setIfInBounds_toArray, List.set_cons_zero, List.set_cons_succ]
            refine wpAnyH_take (i := 6) (oi := { dst := some 54, op := Op.move (Operand.tmp 60), type := 32, pos := "l06_box.go:126", after := #[{ on := 5, ground := Ground.data }], guard := none }) (v := ?vf4_6) rfl (by kernel_rfl) (by kernel_rfl) (by kernel_rfl) (fun _ _ _ h => h) (Or.inl ⟨by rfl, ?hyf4_6⟩) (by assumption) ?restf4_6
            case hyf4_6 => (intro w hSw; (try dsimp only at hSw); go_simp; try with_reducible rfl)
            try simp only [Act.put, List.setIfInBounds_toArray, List.set_cons_zero, List.set_cons_succ]
            refine wpAnyH_take (i := 7) (oi := { dst := some 61, op := Op.extract (Operand.tmp 54) 0, type := 29, pos := "l06_box.go:126", after := #[{ on := 6, ground := Ground.data }], guard := none }) (v := ?vf5_7) rfl (by kernel_rfl) (by kernel_rfl) (by kernel_rfl) (fun _ _ _ h => h) (Or.inl ⟨by rfl, ?hyf5_7⟩) (by assumption) ?restf5_7
            case hyf5_7 => (intro w hSw; (try dsimp only at hSw); go_simp; try with_reducible rfl)
            try simp only [Act.put, List.setIfInBounds_toArray, List.set_cons_zero, List.set_cons_succ]
            refine wpAnyH_take (i := 8) (oi := { dst := some 62, op := Op.extract (Operand.tmp 54) 1, type := 4, pos := "l06_box.go:126", after := #[{ on := 6, ground := Ground.data }, { on := 9, ground := Ground.gcOnly Departure.lateStores }], guard := none }) (v := ?vf6_8) rfl (by kernel_rfl) (by kernel_rfl) (by kernel_rfl) (fun _ _ _ h => h) (Or.inl ⟨by rfl, ?hyf6_8⟩) (by assumption) ?restf6_8
            case hyf6_8 => (intro w hSw; (try dsimp only at hSw); go_simp; try with_reducible rfl)
            try simp only [Act.put, List.setIfInBounds_toArray, List.set_cons_zero, List.set_cons_succ]
            clear hHeld
            refine wpAnyH_ready (rs := [9]) (by kernel_rfl) (by simp) ?_
            refine AllReadyH.cons (o := { dst := none, op := Op.store 29 (Operand.tmp 4) (Operand.tmp 61), type := 0, pos := "l06_box.go:126", after := #[{ on := 7, ground := Ground.data }, { on := 5, ground := Ground.chain }, { on := 0, ground := Ground.phase }, { on := 1, ground := Ground.phase }, { on := 2, ground := Ground.phase }, { on := 3, ground := Ground.phase }, { on := 4, ground := Ground.phase }, { on := 5, ground := Ground.phase }, { on := 6, ground := Ground.phase }, { on := 7, ground := Ground.phase }, { on := 8, ground := Ground.textOnly Departure.lateStores }], guard := none }) rfl (fun K hK => ?_) AllReadyH.nil
            go_simp
            refine hK.out _ _ ((SG8.out.kept (cb := kb) (wst (wst (wst (wst (wst (wst (wst (wre _ _) _ _) _ _) _ _) _ _) _ _) _ _) _ _) KT.out).cells) (fun hHeld => ?_)
            clear hK K
            try simp only [Act.put, List.setIfInBounds_toArray, List.set_cons_zero, List.set_cons_succ]
            refine wpAnyH_done (by kernel_rfl) ?_ _
            refine NoPanic.normal ?_
            go_wp2
            go_roundw
            case rel => exact ⟨i + 1, by have := HX.out; omega, by go_num, _, _, _, _, _, _, _, _, _, NEW.out⟩
            case measure => simp [intOf]; have := HX.out; omega
          refine AllReadyH.cons (o := { dst := some 58, op := Op.call { callee := Callee.value (Operand.func 33), args := #[Operand.tmp 57, Operand.const (Value.int IntKind.i64 8)], argTypes := #[54, 3] }, type := 3, pos := "l06_box.go:126", after := #[{ on := 2, ground := Ground.data }], guard := none }) rfl (fun K hK => ?_) AllReadyH.nil
          go_simp
          refine (below4 cb ao n cap _ hn T5.out.cur (HO.out.later T5.out.gr) 8 (by decide) (by decide)).mono ?_
          rintro e w6 ⟨fl, hfl, rfl, hc6, hg6⟩
          have T6 := hid (T5.out.draw hg6 hc6)
          have SG6 := hid (SG5.out.kept hg6 KC.out)
          clear hc6 hg6 hfl
          go_wp2_with fail
          refine hK.out _ _ (SG6.out.cells) (fun hHeld => ?_)
          clear hK K
          try simp only [Act.put, List.setIfInBounds_toArray, List.set_cons_zero, List.set_cons_succ]
          clear hHeld
          refine wpAnyH_ready (rs := [0]) (by kernel_rfl) (by simp) ?_
          refine AllReadyH.cons (o := { dst := some 55, op := Op.load 29 (Operand.tmp 4), type := 29, pos := "l06_box.go:126", after := #[], guard := none }) rfl (fun K hK => ?_) AllReadyH.nil
          have q0 := T6.out.box.cells
          go_simp
          clear q0
          refine hK.out _ _ (SG6.out.cells) (fun hHeld => ?_)
          clear hK K
          try simp only [Act.put, List.setIfInBounds_toArray, List.set_cons_zero, List.set_cons_succ]
          clear hHeld
          refine wpAnyH_ready (rs := [5]) (by kernel_rfl) (by simp) ?_
          refine AllReadyH.cons (o := { dst := some 60, op := Op.call { callee := Callee.value (Operand.func 22), args := #[Operand.tmp 55, Operand.tmp 56, Operand.tmp 58, Operand.tmp 59], argTypes := #[29, 3, 3, 25] }, type := 32, pos := "l06_box.go:126", after := #[{ on := 0, ground := Ground.data }, { on := 1, ground := Ground.data }, { on := 3, ground := Ground.data }, { on := 4, ground := Ground.data }, { on := 3, ground := Ground.chain }], guard := none }) rfl (fun K hK => ?_) AllReadyH.nil
          go_simp
          obtain ⟨p, KL, hN, hD, hcall⟩ := flag_l T6.out.dbx mn gn T6.out.reads.1.symm T6.out.reads.2.1.symm (10 + (y : Int)) (fl : Int) st sb HST.out
          refine (hcall.out _ _ _ _ ma mc ga gc _ T6.out.reads.2.2.1 T6.out.reads.2.2.2 T6.out.own.none.2).mono ?_
          rintro e w8 ⟨a, c, a', c', rfl, ho8, hb8⟩
          have T8 := hid (T6.out.later hb8)
          have SG8 := hid (SG6.out.later hb8)
          have f8 := T8.out.box.loose
          have c8 := T8.out.box.cells
          have NEW := hid (T6.out.put hb8 ho8 hD.out)
          clear ho8 hb8 hN hcall
          go_wp2_with fail
          refine hK.out _ _ (SG8.out.cells) (fun hHeld => ?_)
          clear hK K
          try simp only [Act.put, List.setIfInBounds_toArray, List.set_cons_zero, List.set_cons_succ]
          refine wpAnyH_take (i := 6) (oi := { dst := some 54, op := Op.move (Operand.tmp 60), type := 32, pos := "l06_box.go:126", after := #[{ on := 5, ground := Ground.data }], guard := none }) (v := ?vf7_6) rfl (by kernel_rfl) (by kernel_rfl) (by kernel_rfl) (fun _ _ _ h => h) (Or.inl ⟨by rfl, ?hyf7_6⟩) (by assumption) ?restf7_6
          case hyf7_6 => (intro w hSw; (try dsimp only at hSw); go_simp; try with_reducible rfl)
          try simp only [Act.put, List.setIfInBounds_toArray, List.set_cons_zero, List.set_cons_succ]
          refine wpAnyH_take (i := 7) (oi := { dst := some 61, op := Op.extract (Operand.tmp 54) 0, type := 29, pos := "l06_box.go:126", after := #[{ on := 6, ground := Ground.data }], guard := none }) (v := ?vf8_7) rfl (by kernel_rfl) (by kernel_rfl) (by kernel_rfl) (fun _ _ _ h => h) (Or.inl ⟨by rfl, ?hyf8_7⟩) (by assumption) ?restf8_7
          case hyf8_7 => (intro w hSw; (try dsimp only at hSw); go_simp; try with_reducible rfl)
          try simp only [Act.put, List.setIfInBounds_toArray, List.set_cons_zero, List.set_cons_succ]
          refine wpAnyH_take (i := 8) (oi := { dst := some 62, op := Op.extract (Operand.tmp 54) 1, type := 4, pos := "l06_box.go:126", after := #[{ on := 6, ground := Ground.data }, { on := 9, ground := Ground.gcOnly Departure.lateStores }], guard := none }) (v := ?vf9_8) rfl (by kernel_rfl) (by kernel_rfl) (by kernel_rfl) (fun _ _ _ h => h) (Or.inl ⟨by rfl, ?hyf9_8⟩) (by assumption) ?restf9_8
          case hyf9_8 => (intro w hSw; (try dsimp only at hSw); go_simp; try with_reducible rfl)
          try simp only [Act.put, List.setIfInBounds_toArray, List.set_cons_zero, List.set_cons_succ]
          clear hHeld
          refine wpAnyH_ready (rs := [9]) (by kernel_rfl) (by simp) ?_
          refine AllReadyH.cons (o := { dst := none, op := Op.store 29 (Operand.tmp 4) (Operand.tmp 61), type := 0, pos := "l06_box.go:126", after := #[{ on := 7, ground := Ground.data }, { on := 5, ground := Ground.chain }, { on := 0, ground := Ground.phase }, { on := 1, ground := Ground.phase }, { on := 2, ground := Ground.phase }, { on := 3, ground := Ground.phase }, { on := 4, ground := Ground.phase }, { on := 5, ground := Ground.phase }, { on := 6, ground := Ground.phase }, { on := 7, ground := Ground.phase }, { on := 8, ground := Ground.textOnly Departure.lateStores }], guard := none }) rfl (fun K hK => ?_) AllReadyH.nil
          go_simp
          refine hK.out _ _ ((SG8.out.kept (cb := kb) (wst (wst (wst (wst (wst (wst (wst (wre _ _) _ _) _ _) _ _) _ _) _ _) _ _) _ _) KT.out).cells) (fun hHeld => ?_)
          clear hK K
          try simp only [Act.put, List.setIfInBounds_toArray, List.set_cons_zero, List.set_cons_succ]
          refine wpAnyH_done (by kernel_rfl) ?_ _
          refine NoPanic.normal ?_
          go_wp2
          go_roundw
          case rel => exact ⟨i + 1, by have := HX.out; omega, by go_num, _, _, _, _, _, _, _, _, _, NEW.out⟩
          case measure => simp [intOf]; have := HX.out; omega

        · have q0 := T5s.out.box.cells
          clear T5
          go_wp2_with fail
          obtain ⟨p, K, H, N, M, hN, hM, hD, hcall⟩ := take_l T5s.out.dbx mn gn T5s.out.reads.1.symm T5s.out.reads.2.1.symm (10 + (y : Int)) (by have := HY.out; omega)
          refine (hcall.out _ _ _ _ ma mc ga gc _ T5s.out.reads.2.2.1 T5s.out.reads.2.2.2 T5s.out.own.none.2).mono ?_
          rintro e w8 ⟨a, c, a', c', rfl, ho8, hb8⟩
          have f8 := (T5s.out.later hb8).box.loose
          have q8 := (T5s.out.later hb8).box.cells
          have NEW := hid (T5s.out.put hb8 ho8 hD.out)
          clear ho8 hb8 hN hM hcall q0
          go_wp2
          go_roundw
          case rel => exact ⟨i + 1, by have := HX.out; omega, by go_num, _, _, _, _, _, _, _, _, _, NEW.out⟩
          case measure => simp [intOf]; have := HX.out; omega
      · have hix' : ¬ (i : Int) < (x : Int) := by omega
        have q0 := T2.out.box.cells
        have q1 := T2.out.res.cells
        have f1 := T2.out.res.loose
        clear hix hx
        go_wp2
        have e2 := set7_grown w2 w.heap.size 7 nm t b nx (.slice ma mn mc) (.slice ga gn gc)
        have d1 := (T2.out.res.set7 7 nm t b nx (.slice ma mn mc) (.slice ga gn gc)).cells
        have e3 : w.grownBy (set7 w2 w.heap.size 7 nm t b nx (.slice ma mn mc) (.slice ga gn gc)) (some cb) := by
          unfold set7
          exact gset (gset (gset (gset (gset (gset (gset T2.out.gr (Nat.le_refl _) _ _) (Nat.le_refl _) _ _) (Nat.le_refl _) _ _) (Nat.le_refl _) _ _) (Nat.le_refl _) _ _) (Nat.le_refl _) _ _) (Nat.le_refl _) _ _
        have h3 := T2.out.hi
        have h4 := T2.out.lo
        have e4 : Cur (set7 w2 w.heap.size 7 nm t b nx (.slice ma mn mc) (.slice ga gn gc)) cb ao n cap := by
          unfold set7
          exact ((((((T2.out.cur.set (by omega)).set (by omega)).set (by omega)).set (by omega)).set (by omega)).set (by omega)).set (by omega)
        unfold set7 at d1 e2 e3 e4
        refine bodyPost_ret (v := .agg #[.int .i64 7, .string nm, .int .i64 t, .int .i64 b, .int .i64 nx, .slice ma mn mc, .slice ga gn gc]) (by simp [results, Tryz.results30, go_sem, d1]) rfl ⟨nm, t, b, nx, ma, mn, mc, ga, gn, gc, L, G, rfl, T2.out.dbx.mono (by omega), ?_, e4, e3⟩
        exact (OwB.grown T2.out.own e2 (by omega)).base (by omega)
end Go.Proofs.YtfmacodnjhegcabGreat

