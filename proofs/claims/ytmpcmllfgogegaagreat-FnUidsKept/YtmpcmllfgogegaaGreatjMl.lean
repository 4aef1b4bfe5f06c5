/- Ml. -/

import Derived.Test.YtmpcmllfgogegaaGreatjTky
namespace Go.Proofs.YtmpcmllfgogegaaGreat
open Go.RowKit Go.ChangeMaps
theorem bx_iff {g : Int} {nm : ByteArray} {t b nx : Int} {L : List M4} {G : List Int} : bxOk g nm t b nx L G = true ↔
  gok g = true ∧ nmOk nm = true ∧ stOk t b = true ∧ (1 ≤ nx ∧ nx ≤ 10000) ∧ L.length ≤ 10 ∧ gnOk G = true ∧ (∀ m ∈ L, mlOk m.1 m.2.1 m.2.2.1 m.2.2.2 = true ∧ m.2.1 < nx ∧ inl m.1 G = false) ∧ Upr L ∧ uq L = true := by
 constructor
 ·intro h
  have hp := bx_parts h
  simp only [bxOk, Bool.and_eq_true, decide_eq_true_eq, bxm] at h
  obtain ⟨h1, h2, h3, h4, h5, h6, h7, h8⟩ := h
  refine ⟨h1, h2, h3, h4, by omega, h6, fun m hm => ?_, alr_upr h7, h8⟩
  obtain ⟨i, hi, rfl⟩ := List.getElem_of_mem hm
  have h9 := List.all_eq_true.1 h7 i (List.mem_range.2 hi)
  rw [stp_at hi (g := L[i].1) (u := L[i].2.1) (l := L[i].2.2.1) (t := L[i].2.2.2) rfl] at h9
  simp only [Bool.and_eq_true, decide_eq_true_eq, Bool.not_eq_true'] at h9
  exact ⟨h9.1, h9.2.1, h9.2.2.2⟩
 ·rintro ⟨h1, h2, h3, h4, h5, h6, h7, h8, h9⟩
  simp only [bxOk, Bool.and_eq_true, decide_eq_true_eq, bxm]
  refine ⟨h1, h2, h3, h4, by omega, h6, alr_all (fun i hi => ?_), h9⟩
  have hm := h7 L[i] (List.getElem_mem hi)
  rw [stp_at hi (g := L[i].1) (u := L[i].2.1) (l := L[i].2.2.1) (t := L[i].2.2.2) rfl]
  simp only [Bool.and_eq_true, decide_eq_true_eq, Bool.not_eq_true']
  refine ⟨hm.1, hm.2.1, ?_, hm.2.2⟩
  cases i with
  | zero => rw [us_zero]; exact mlOk_pos hm.1
  | succ i =>
   rw [us_succ (by omega)]
   exact List.pairwise_iff_getElem.1 h8 i (i + 1) (by omega) hi (by omega)
theorem bx_small {g : Int} {nm : ByteArray} {t b nx : Int} {L : List M4} {G : List Int} (h : bxOk g nm t b nx L G = true) : L.length ≤ 10 ∧ G.length ≤ 40 ∧ (∀ m ∈ L, m.2.2.1.length = 3 ∧ m.2.2.2.size ≤ 60) := by
 obtain ⟨_, _, _, _, h5, h6, h7, _⟩ := bx_iff.1 h
 simp only [gnOk, Bool.and_eq_true, decide_eq_true_eq] at h6
 refine ⟨h5, by omega, fun m hm => ?_⟩
 have h8 := (h7 m hm).1
 simp only [mlOk, Bool.and_eq_true, decide_eq_true_eq, flOk] at h8
 exact ⟨h8.2.2.1.1, by omega⟩
theorem bit_le (n : Int) (i : Nat) : 0 ≤ bit n i ∧ bit n i ≤ 1 := by unfold bit; omega
theorem sl_ok {l : List R3} {n t b : Int} (h : flOk l = true) : flOk (sl l n t b) = true := by
 unfold sl
 split
 ·simp only [flOk, Bool.and_eq_true, decide_eq_true_eq, List.all_eq_true] at h ⊢
  refine ⟨by rw [List.length_mapIdx]; exact h.1, fun p hp => ?_⟩
  obtain ⟨i, hi, rfl⟩ := List.mem_mapIdx.1 hp
  have ho := h.2 l[i] (List.getElem_mem hi)
  unfold sp
  split
  ·exact ho
  ·unfold pp
   split
   ·next h1 =>
    simp only [Bool.and_eq_true] at h1
    have h2 := bit_le n i
    simp only [okp, Bool.and_eq_true, decide_eq_true_eq]
    exact ⟨h1.1, h2.2⟩
   ·exact ho
 ·exact h
theorem fgm_ok {m : M4} {n st sb : Int} (h : mlOk m.1 m.2.1 m.2.2.1 m.2.2.2 = true) : mlOk (fgm m n st sb).1 (fgm m n st sb).2.1 (fgm m n st sb).2.2.1 (fgm m n st sb).2.2.2 = true := by
 simp only [mlOk, Bool.and_eq_true, fgm] at h ⊢
 exact ⟨h.1, h.2.1, sl_ok h.2.2.1, h.2.2.2⟩
theorem fm_right {g : Int} {nm : ByteArray} {t b nx : Int} {L : List M4} {G : List Int} {p : Bool} {gid n st sb : Int} (h : bxOk g nm t b nx L G = true) : bxOk g nm t b nx (fmL p L gid n st sb) G = true := by
 cases p with
 | false => rw [fmL_no]; exact h
 | true =>
  obtain ⟨h1, h2, h3, h4, h5, h6, h7, h8, h9⟩ := bx_iff.1 h
  refine bx_iff.2 ⟨h1, h2, h3, h4, by rw [fmL_len]; exact h5, h6, fun m hm => ?_, ?_, ?_⟩
  ·rw [fmL, if_pos rfl] at hm
   obtain ⟨x, hx, rfl⟩ := List.mem_map.1 hm
   have hx' := h7 x hx
   split
   ·exact ⟨fgm_ok hx'.1, hx'.2.1, hx'.2.2⟩
   ·exact hx'
  ·rw [fmL, if_pos rfl]
   unfold Upr
   rw [List.pairwise_map]
   refine h8.imp (fun {x y} hxy => ?_)
   have e : ∀ z : M4, (if z.1 = gid then fgm z n st sb else z).2.1 = z.2.1 := fun z => by split <;> rfl
   rw [e, e]
   exact hxy
  ·unfold uq at h9 ⊢
   rw [fmL, if_pos rfl, List.map_map]
   have e : ((fun m : M4 => m.1) ∘ fun m => if m.1 = gid then fgm m n st sb else m) = fun m : M4 => m.1 := by
    funext z
    simp only [Function.comp]
    split <;> rfl
   rw [e]
   exact h9
theorem inl_pin {x y : Int} {G : List Int} (h : inl y G = false) (hx : y ≠ x) : inl y (pin x G) = false := by
 cases hi : inl y (pin x G) with
 | false => rfl
 | true =>
  have hmem : ∀ {l : List Int}, inl y l = true → y ∈ l := by
   intro l
   induction l with
   | nil => intro h; simp [inl] at h
   | cons a l ih =>
    intro h
    simp only [inl, Bool.or_eq_true, decide_eq_true_eq] at h
    rcases h with h | h
    ·rw [h]; exact List.mem_cons_self ..
    ·exact List.mem_cons_of_mem _ (ih h)
  have h1 := hmem hi
  unfold pin at h1
  rcases List.mem_append.1 h1 with h1 | h1
  ·exact absurd rfl (inl_not h y (List.mem_filter.1 h1).1)
  ·rcases List.mem_cons.1 h1 with h1 | h1
   ·exact absurd h1 hx
   ·exact absurd rfl (inl_not h y (List.mem_filter.1 h1).1)
theorem asc_of {G : List Int} {a : Int} (hp : G.Pairwise (· < ·)) (hg : ∀ y ∈ G, gok y = true) (ha : ∀ y ∈ G, a < y) : asc a G = true := by
 induction G generalizing a with
 | nil => rfl
 | cons x G ih =>
  obtain ⟨h1, h2⟩ := List.pairwise_cons.1 hp
  simp only [asc, Bool.and_eq_true, decide_eq_true_eq]
  exact ⟨⟨ha x (List.mem_cons_self ..), hg x (List.mem_cons_self ..)⟩, ih h2 (fun y hy => hg y (List.mem_cons_of_mem _ hy)) h1⟩
theorem asc_gok {G : List Int} {a : Int} (h : asc a G = true) : ∀ y ∈ G, gok y = true := by
 induction G generalizing a with
 | nil => intro y hy; simp at hy
 | cons x G ih =>
  simp only [asc, Bool.and_eq_true, decide_eq_true_eq] at h
  intro y hy
  rcases List.mem_cons.1 hy with rfl | hy
  ·exact h.1.2
  ·exact ih h.2 y hy
theorem pin_gn {x : Int} {G : List Int} (h : gnOk G = true) (hx : gok x = true) (hn : ∀ y ∈ G, y ≠ x) (hl : G.length < 40) : gnOk (pin x G) = true ∧ (pin x G).length = G.length + 1 := by
 simp only [gnOk, Bool.and_eq_true, decide_eq_true_eq] at h ⊢
 have hp := asc_pair h.1
 have hk := asc_gok h.1
 have hlen : (pin x G).length = G.length + 1 := by
  rw [pin_place hp hn]
  rw [List.length_append, List.length_cons, List.length_take, List.length_drop]
  have := List.countP_le_length (p := fun y => decide (y < x)) (l := G)
  omega
 refine ⟨⟨asc_of ?_ ?_ ?_, by rw [hlen]; omega⟩, hlen⟩
 ·unfold pin
  rw [List.pairwise_append, List.pairwise_cons]
  refine ⟨hp.filter _, ⟨fun y hy => by simpa using (List.mem_filter.1 hy).2, hp.filter _⟩, fun y hy z hz => ?_⟩
  have h1 : y < x := by simpa using (List.mem_filter.1 hy).2
  rcases List.mem_cons.1 hz with rfl | hz
  ·exact h1
  ·have h2 : x < z := by simpa using (List.mem_filter.1 hz).2
   omega
 ·intro y hy
  unfold pin at hy
  rcases List.mem_append.1 hy with hy | hy
  ·exact hk y (List.mem_filter.1 hy).1
  ·rcases List.mem_cons.1 hy with rfl | hy
   ·exact hx
   ·exact hk y (List.mem_filter.1 hy).1
 ·intro y hy
  have : gok y = true := by
   unfold pin at hy
   rcases List.mem_append.1 hy with hy | hy
   ·exact hk y (List.mem_filter.1 hy).1
   ·rcases List.mem_cons.1 hy with rfl | hy
    ·exact hx
    ·exact hk y (List.mem_filter.1 hy).1
  exact gok_pos this
theorem tk_right {g : Int} {nm : ByteArray} {t b nx : Int} {L : List M4} {G : List Int} {gid : Int} (h : bxOk g nm t b nx L G = true) : bxOk g nm t b nx (tkL (tkOk g nm t b nx L G gid) L gid) (tkG (tkOk g nm t b nx L G gid) G gid) = true := by
 cases hk : tkOk g nm t b nx L G gid with
 | false => rw [tkL_no, tkG_no]; exact h
 | true =>
  simp only [tkOk, Bool.and_eq_true, decide_eq_true_eq] at hk
  obtain ⟨h1, h2, h3, h4, h5, h6, h7, h8, h9⟩ := bx_iff.1 h
  obtain ⟨A, m, C, hL, hm, hA, hC⟩ := any_split h9 hk.2.1
  have hmem : m ∈ L := by rw [hL]; simp
  have hmm := h7 m hmem
  have hgk : gok gid = true := by
   have := hmm.1
   simp only [mlOk, Bool.and_eq_true] at this
   rw [← hm]
   exact this.1
  have hni : ∀ y ∈ G, y ≠ gid := by rw [← hm]; exact inl_not hmm.2.2
  have hsub := tk_sub true L gid
  rw [tkG, if_pos rfl]
  refine bx_iff.2 ⟨h1, h2, h3, h4, Nat.le_trans hsub.length_le h5, (pin_gn h6 hgk hni hk.2.2).1, fun x hx => ?_, upr_sub hsub h8, ?_⟩
  ·have hx' := h7 x (hsub.subset hx)
   refine ⟨hx'.1, hx'.2.1, inl_pin hx'.2.2 ?_⟩
   rw [tkL, if_pos rfl] at hx
   simpa using (List.mem_filter.1 hx).2
  ·unfold uq at h9 ⊢
   simp only [decide_eq_true_eq] at h9 ⊢
   exact h9.sublist (hsub.map _)
theorem am_right {g : Int} {nm : ByteArray} {t b nx : Int} {L : List M4} {G : List Int} {gid fl : Int} {tx : ByteArray} {st sb : Int} (h : bxOk g nm t b nx L G = true) : bxOk g nm t b (amN (amOk g nm t b nx L G gid fl tx st sb) nx) (amL (amOk g nm t b nx L G gid fl tx st sb) L (nwm gid nx fl tx st sb)) G = true := by
 cases hk : amOk g nm t b nx L G gid fl tx st sb with
 | false => rw [amN, amL, if_neg (by decide), if_neg (by decide)]; exact h
 | true =>
  rw [amN, amL, if_pos rfl, if_pos rfl]
  simp only [amOk, Bool.and_eq_true] at hk
  exact hk.2.2.2.2
end Go.Proofs.YtmpcmllfgogegaaGreat
namespace Go.Proofs.YtmpcmllfgogegaaGreat
open Go.RowKit
set_option maxHeartbeats 800000 in
set_option maxRecDepth 100000 in
theorem sameInts_any (l1 h1 l2 h2 : Nat) (ao bo : Option Addr) (n ca cb : Nat) (G : List Int) (w : World) (hl : G.length = n) (hn : n ≤ 1048576) (ha : Is l1 h1 w ao G) (hb : Is l2 h2 w bo G) :
  Calls Tryz.prog 25 #[.slice ao n ca, .slice bo n cb] w fun e w' => e = .returned (.bool true) ∧ Below w.heap.size w w' := by
 have hnn : ((n : Int) != (n : Int)) = false := by simp
 have HA := hid ha
 have HB := hid hb
 have HL := hid hl
 clear ha hb hl
 go_enter Tryz.func25, Tryz.ntmps25
 go_wp2
 clear hnn
 go_loopw [5] (fun iv wr => ∃ i : Nat, i ≤ n ∧ iv = .int .i64 (i : Int) ∧ Below w.heap.size w wr) (fun iv _ => n - (intOf iv).toNat)
 case atStart => exact ⟨0, Nat.zero_le _, rfl, bre _⟩
 case round =>
  obtain ⟨i, hi, rfl, hb⟩ := hrel
  have HBE := hid hb
  clear hb
  by_cases hlt : i < n
  ·have hil : i < G.length := by rw [HL.out]; exact hlt
   obtain ⟨k, o, rfl, hk, c⟩ := (HA.out.later HBE.out).at hil
   obtain ⟨k', o', rfl, hk', d⟩ := (HB.out.later HBE.out).at hil
   obtain ⟨x, hx⟩ : ∃ x, G[i] = x := ⟨_, rfl⟩
   rw [hx] at c d
   clear hx
   have hI : (0 : Int) ≤ (i : Int) ∧ (i : Int) < (n : Int) := by omega
   have hxx : (x != x) = false := by simp
   go_wp2_with fail
   go_quiet (fail)
   go_wp2
   go_roundw
   case rel => exact ⟨i + 1, by omega, by go_num, bdn HBE.out _⟩
   case measure => simp [intOf]; omega
  ·go_wp2
   go_ret
   exact ⟨rfl, HBE.out⟩
theorem smail_self (g u : Int) (l : List R3) (t : ByteArray) : smail g u l t g u l t = true := by simp [smail]
set_option maxHeartbeats 1600000 in
set_option maxRecDepth 100000 in
theorem sameBox_any (l1 h1 l2 h2 l3 h3 l4 h4 : Nat) (g : Int) (nm : ByteArray) (t b nx : Int) (ma : Option Addr) (mn mc : Nat) (ga : Option Addr) (gn gc : Nat) (ma' : Option Addr) (mc' : Nat) (ga' : Option Addr) (gc' : Nat) (L : List M4) (G : List Int) (w : World) (hl : L.length = mn) (hn : mn ≤ 1048576) (hsm : Sm L) (hm : Ms l1 h1 w ma L) (hm' : Ms l2 h2 w ma' L)
  (hgl : G.length = gn) (hgn : gn ≤ 1048576) (hs : Is l3 h3 w ga G) (hs' : Is l4 h4 w ga' G) :
  Calls Tryz.prog 11 #[.agg #[.int .i64 g, .string nm, .int .i64 t, .int .i64 b, .int .i64 nx, .slice ma mn mc, .slice ga gn gc], .agg #[.int .i64 g, .string nm, .int .i64 t, .int .i64 b, .int .i64 nx, .slice ma' mn mc', .slice ga' gn gc']] w fun e w' => e = .returned (.bool true) ∧ Below w.heap.size w w' := by
 obtain ⟨W0, hW0⟩ : ∃ W0, ((w.alloc (.cells #[.int .i64 g, .string nm, .int .i64 t, .int .i64 b, .int .i64 nx, .slice ma mn mc, .slice ga gn gc] 29)).alloc (.cells #[.int .i64 g, .string nm, .int .i64 t, .int .i64 b, .int .i64 nx, .slice ma' mn mc', .slice ga' gn gc'] 29)) = W0 := ⟨_, rfl⟩
 obtain ⟨a0, a1, b0, _⟩ := two_boxes w _ _ _ _ _ _ _ _ _ _ _ _ _ _ _ _ W0 hW0
 have A0 := hid a0
 have A1 := hid a1
 have B0 := hid b0
 have c0 := a0.cells
 have c1 := a1.cells
 have HM := hid hm
 have HM' := hid hm'
 have HS := hid hs
 have HS' := hid hs'
 have HX := hid hsm
 have HL := hid hl
 have e1 : (g != g) = false := by simp
 have e2 : (nx != nx) = false := by simp
 have e3 : (!nm.toList == nm.toList) = false := by simp
 have e4 : (t != t) = false := by simp
 have e5 : (b != b) = false := by simp
 have e6 : ((mn : Int) != (mn : Int)) = false := by simp
 clear a0 a1 b0 hm hm' hs hs' hsm hl
 go_enter Tryz.func11, Tryz.ntmps11
 go_wp2_with fail
 clear hW0
 refine (sameInts_any l3 h3 l4 h4 ga ga' gn gc gc' G _ hgl hgn (HS.out.later B0.out) (HS'.out.later B0.out)).mono ?_; rintro e w1 ⟨rfl, hb1⟩
 have K0 := hid (A0.out.later hb1)
 have K1 := hid (A1.out.later hb1)
 have B1 := hid (btr B0.out hb1)
 clear hb1 A0 A1 B0 c0 c1 e1 e2 e3 e4 e5 e6
 go_wp2
 go_loopw [5] (fun iv wr => ∃ i : Nat, i ≤ mn ∧ iv = .int .i64 (i : Int) ∧ Bx wr w.heap.size 29 g nm t b nx (.slice ma mn mc) (.slice ga gn gc) ∧ Bx wr (w.heap.size + 1) 29 g nm t b nx (.slice ma' mn mc') (.slice ga' gn gc') ∧ Below w.heap.size w wr) (fun iv _ => mn - (intOf iv).toNat)
 case atStart => exact ⟨0, Nat.zero_le _, rfl, K0.out, K1.out, B1.out⟩
 case round =>
  obtain ⟨i, hi, rfl, hk0, hk1, hb⟩ := hrel
  have A0 := hid hk0
  have A1 := hid hk1
  have HBE := hid hb
  have c0 := hk0.cells
  clear hk0 hk1 hb K0 K1 B1
  by_cases hlt : i < mn
  ·have hil : i < L.length := by rw [HL.out]; exact hlt
   obtain ⟨k, o, fa, fc, rfl, hk, c, hr1, _⟩ := (HM.out.later HBE.out).at hil
   obtain ⟨k', o', fa', fc', rfl, hk', d, hr2, _⟩ := (HM'.out.later HBE.out).at hil
   have hmem := HX.out L[i] (List.getElem_mem hil)
   obtain ⟨p, hp⟩ : ∃ p, L[i] = p := ⟨_, rfl⟩
   rw [hp] at c d hr1 hr2 hmem
   obtain ⟨g2, u, l, tx⟩ := p
   dsimp only at c d hr1 hr2 hmem
   obtain ⟨m, hm⟩ : ∃ m, l.length = m := ⟨_, rfl⟩
   rw [hm] at c d
   have HMM : Hid (m ≤ 1048576) := by show _ ≤ _; rw [← hm]; exact hmem.1
   have HLM := hid hm
   have HR1 := hid hr1
   have HR2 := hid hr2
   clear hp hm hmem hr1 hr2
   have hI : (0 : Int) ≤ (i : Int) ∧ (i : Int) < (mn : Int) := by omega
   have HSS : Hid (∀ W, Below wr.heap.size wr W → ((W.cell? ⟨w.heap.size, 5, none⟩ = some (.slice (some ⟨k, o, none⟩) mn mc) ∧ W.cell? ⟨w.heap.size + 1, 5, none⟩ = some (.slice (some ⟨k', o', none⟩) mn mc')) ∧ W.cell? ⟨k, o + i * 4, none⟩ = some (.int .i64 g2) ∧ W.cell? ⟨k, o + i * 4 + 1, none⟩ = some (.int .i64 u) ∧ W.cell? ⟨k, o + i * 4 + 2, none⟩ = some (.slice fa m fc) ∧ W.cell? ⟨k, o + i * 4 + 3, none⟩ = some (.string tx)) ∧ (W.cell? ⟨k', o' + i * 4, none⟩ = some (.int .i64 g2) ∧ W.cell? ⟨k', o' + i * 4 + 1, none⟩ = some (.int .i64 u) ∧ W.cell? ⟨k', o' + i * 4 + 2, none⟩ = some (.slice fa' m fc') ∧ W.cell? ⟨k', o' + i * 4 + 3, none⟩ = some (.string tx))) :=
    fun W h => ⟨⟨⟨(A0.out.later h).cells.2.2.2.2.2.1, (A1.out.later h).cells.2.2.2.2.2.1⟩, C4.later c hk h⟩, C4.later d hk' h⟩
   clear c d
   go_wp2_with fail
   go_region_held3 (fun W => ((W.cell? ⟨w.heap.size, 5, none⟩ = some (.slice (some ⟨k, o, none⟩) mn mc) ∧ W.cell? ⟨w.heap.size + 1, 5, none⟩ = some (.slice (some ⟨k', o', none⟩) mn mc')) ∧ W.cell? ⟨k, o + i * 4, none⟩ = some (.int .i64 g2) ∧ W.cell? ⟨k, o + i * 4 + 1, none⟩ = some (.int .i64 u) ∧ W.cell? ⟨k, o + i * 4 + 2, none⟩ = some (.slice fa m fc) ∧ W.cell? ⟨k, o + i * 4 + 3, none⟩ = some (.string tx)) ∧ (W.cell? ⟨k', o' + i * 4, none⟩ = some (.int .i64 g2) ∧ W.cell? ⟨k', o' + i * 4 + 1, none⟩ = some (.int .i64 u) ∧ W.cell? ⟨k', o' + i * 4 + 2, none⟩ = some (.slice fa' m fc') ∧ W.cell? ⟨k', o' + i * 4 + 3, none⟩ = some (.string tx)))
    ((refine HSS.out _ ?_; repeat (first | exact bdr (bre _) | refine btr ?_ (by assumption))))
    ((go_at_call 41; refine (specSame_any g2 u fa m fc l tx g2 u fa' m fc' l tx _ HLM.out HLM.out HMM.out (HR1.out.later (by repeat (first | exact bdr (bre _) | exact bre _ | refine btr ?_ (by assumption)))) (HR2.out.later (by repeat (first | exact bdr (bre _) | exact bre _ | refine btr ?_ (by assumption))))).mono ?_; rintro e w1 ⟨rfl, hb1⟩; rw [smail_self]))
   have HB1 : Hid (Below wr.heap.size wr w1) := by show Below _ _ _; repeat (first | exact bdr (bre _) | refine btr ?_ (by assumption))
   clear c0
   go_wp2
   go_roundw
   case rel => exact ⟨i + 1, by omega, by go_num, A0.out.later HB1.out, A1.out.later HB1.out, btr HBE.out HB1.out⟩
   case measure => simp [intOf]; omega
  ·go_wp2
   go_ret
   exact ⟨rfl, HBE.out⟩
end Go.Proofs.YtmpcmllfgogegaaGreat
namespace Go.Proofs.YtmpcmllfgogegaaGreat
open Go.RowKit Go.ChangeMaps
def gdm (m : M4) : Prop := (10 ≤ m.1 ∧ m.1 ≤ 18) ∧ ∀ p ∈ m.2.2.1, gd p
structure Dbx (k : Nat) (g : Int) (nm : ByteArray) (t b nx : Int) (L : List M4) (G : List Int) : Prop where
 right : bxOk g nm t b nx L G = true
 next : nx ≤ 4 + (k : Int)
 gone : G.length ≤ k
 each : ∀ m ∈ L, gdm m
 out : ∀ x ∈ G, 10 ≤ x ∧ x ≤ 18
section
variable {k : Nat} {g : Int} {nm : ByteArray} {t b nx : Int} {L : List M4} {G : List Int}
end
theorem own_none {W : World} {B e size n c m : Nat} {a : Option Addr} {xs : List Value} (h : W.ownsRow B e size (.slice a n c) m xs) : a = none → c = 0 := by
 intro ha
 subst ha
 rcases h.2 with ⟨h1, _⟩ | ⟨g, cap, cur, h1, _⟩
 ·simpa using congrArg (fun v => match v with | .slice _ _ c => c | _ => 0) h1
 ·simp at h1
theorem OwB.shape {W : World} {B : Nat} {mv gv : Value} {L : List M4} {G : List Int} (h : OwB W B mv gv L G) : ∃ a c a' c', mv = .slice a L.length c ∧ gv = .slice a' G.length c' := by
 obtain ⟨Z, rfl, h2, h3, _⟩ := h
 obtain ⟨a, c, hv⟩ := h2.shape
 obtain ⟨a', c', hv', _⟩ := h3.shape
 exact ⟨a, c, a', c', by rw [List.length_map]; exact hv, hv'⟩
theorem OwB.none {W : World} {B n c n' c' : Nat} {a a' : Option Addr} {L : List M4} {G : List Int} (h : OwB W B (.slice a n c) (.slice a' n' c') L G) : (a = none → c = 0) ∧ (a' = none → c' = 0) := by
 obtain ⟨Z, _, h2, h3, _⟩ := h
 exact ⟨own_none h2.row, own_none h3⟩
theorem OwB.nil (W : World) (B : Nat) : OwB W B (.slice .none 0 0) (.slice .none 0 0) [] [] :=
 ⟨[], rfl, ⟨World.ownsRow_nil _ _ _ _, fun z hz => by simp at hz, fun z hz => by simp at hz, List.Pairwise.nil⟩, World.ownsRow_nil _ _ _ _, Dj.nil _, fun z hz => by simp at hz⟩
section
variable {k : Nat} {g : Int} {nm : ByteArray} {t b nx : Int} {L : List M4} {G : List Int}
end
end Go.Proofs.YtmpcmllfgogegaaGreat
namespace Go.Proofs.YtmpcmllfgogegaaGreat
open Go.RowKit Go.ChangeMaps
structure Pb (w W : World) (cb : Nat) (ao : Option Addr) (n cap kS : Nat) (t b : Int) : Prop where
 res : Bx W w.heap.size 29 0 ⟨#[]⟩ 0 0 0 (.slice none 0 0) (.slice none 0 0)
 sg : Sg W kS 25 t b
 cur : Cur W cb ao n cap
 gr : w.grownBy W (some cb)
 lo : w.heap.size < kS
 hi : cb < w.heap.size
section
variable {w W W' : World} {cb : Nat} {ao : Option Addr} {n cap kS : Nat} {t b : Int}
end
structure Lb (w W : World) (cb : Nat) (ao : Option Addr) (n cap kb k : Nat) (nm : ByteArray) (t b nx : Int) (ma : Option Addr) (mn mc : Nat) (ga : Option Addr) (gn gc : Nat) (L : List M4) (G : List Int) : Prop where
 res : Bx W w.heap.size 29 0 ⟨#[]⟩ 0 0 0 (.slice none 0 0) (.slice none 0 0)
 box : Bx W kb 29 7 nm t b nx (.slice ma mn mc) (.slice ga gn gc)
 own : OwB W (kb + 1) (.slice ma mn mc) (.slice ga gn gc) L G
 dbx : Dbx k 7 nm t b nx L G
 cur : Cur W cb ao n cap
 gr : w.grownBy W (some cb)
 lo : w.heap.size < kb
 hi : cb < w.heap.size
section
variable {w W W' : World} {cb : Nat} {ao : Option Addr} {n cap kb k : Nat} {nm : ByteArray} {t b nx : Int} {ma : Option Addr} {mn mc : Nat} {ga : Option Addr} {gn gc : Nat} {L : List M4} {G : List Int}
end
def Box1 (cb : Nat) (ao : Option Addr) (n cap : Nat) (w : World) (e : Ending) (w' : World) : Prop :=
 ∃ (nm : ByteArray) (t b nx : Int) (ma : Option Addr) (mn mc : Nat) (ga : Option Addr) (gn gc : Nat) (L : List M4) (G : List Int), e = .returned (.agg #[.int .i64 7, .string nm, .int .i64 t, .int .i64 b, .int .i64 nx, .slice ma mn mc, .slice ga gn gc]) ∧ Dbx 11 7 nm t b nx L G ∧ OwB w' (w.heap.size + 1) (.slice ma mn mc) (.slice ga gn gc) L G ∧ Cur w' cb ao n cap ∧ w.grownBy w' (some cb)
def Lx (w W : World) (cb : Nat) (ao : Option Addr) (n cap kb k : Nat) (nm : ByteArray) (t b : Int) : Prop :=
 ∃ (nx : Int) (ma : Option Addr) (mn mc : Nat) (ga : Option Addr) (gn gc : Nat) (L : List M4) (G : List Int), Lb w W cb ao n cap kb k nm t b nx ma mn mc ga gn gc L G
end Go.Proofs.YtmpcmllfgogegaaGreat
