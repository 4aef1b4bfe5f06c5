/- What is marked and taken out of a drawn box, as numbers and lists; a number looked for in a list. -/
import Derived.Test.YtfmacodnjhegcabGreatBfn
namespace Go.Proofs.YtfmacodnjhegcabGreat
open Go.RowKit Go.ChangeMaps

set_option maxHeartbeats 800000 in
set_option maxRecDepth 100000 in
theorem lawIn_any (lo hi : Nat) (ao : Option Addr) (n cap : Nat) (G : List Int) (x : Int) (w : World) (hl : G.length = n) (hn : n ≤ 1048576) (hr : Is lo hi w ao G) :
    Calls Tryz.prog 17 #[.slice ao n cap, .int .i64 x] w fun e w' => e = .returned (.bool (inl x G)) ∧ w' = w := by
  have HR := hid hr
  have HL := hid hl
  have HI := hid (idx_inl x G 0)
  clear hr hl
  go_enter Tryz.func17, Tryz.ntmps17
  go_wp2
  go_loopw [5] (fun iv wr => ∃ (i : Nat), i ≤ n ∧ iv = .int .i64 (i : Int) ∧ Hid (idx x G 0 = idx x (G.drop i) i) ∧ wr = w) (fun iv _ => n - (intOf iv).toNat)
  case atStart => exact ⟨0, Nat.zero_le _, rfl, rfl, rfl⟩
  case round =>
    obtain ⟨i, hi, rfl, HQ, hw⟩ := hrel
    subst hw
    by_cases hlt : i < n
    · have hil : i < G.length := by rw [HL.out]; exact hlt
      obtain ⟨k, o, rfl, hk, c⟩ := HR.out.at hil
      obtain ⟨y, hy⟩ : ∃ y, G[i] = y := ⟨_, rfl⟩
      rw [hy] at c
      have hI : (0 : Int) ≤ (i : Int) ∧ (i : Int) < (n : Int) := by omega
      by_cases hxy : y = x
      · have HE : Hid (inl x G = true) := by show _ = _; rw [← HI.out, HQ.out, idx_here hil (by rw [hy, hxy])]; simp
        subst hxy
        clear hy
        go_wp2
        go_ret
        exact ⟨by rw [HE.out]; rfl, rfl⟩
      · have HE : Hid (idx x G 0 = idx x (G.drop (i + 1)) (i + 1)) := by show _ = _; rw [HQ.out, idx_on hil (by rw [hy]; exact hxy)]
        have hxy' : (y == x) = false := by simp [hxy]
        clear hy
        go_wp2
        go_roundw
        case rel => exact ⟨i + 1, by omega, by go_num, HE, by first | rfl | trivial⟩
        case measure => simp [intOf]; omega
    · have HE : Hid (inl x G = false) := by show _ = _; rw [← HI.out, HQ.out, List.drop_of_length_le (by rw [HL.out]; omega)]; rfl
      go_wp2
      go_ret
      exact ⟨by rw [HE.out]; rfl, rfl⟩

theorem sp_sixty {n : Int} {i : Nat} {p : R3} (h : gd p) : (sp n 60 1 i p).1 = bit n i := by
  unfold sp
  by_cases e : bit n i = p.1
  · rw [if_pos e]; exact e.symm
  · rw [if_neg e]
    obtain ⟨_, h3, h4, h5, h6⟩ := h
    have h1 : rgOk (bit n i) 60 1 = true := by have := bit_two n i; simp [rgOk, stOk]; omega
    have h2 : later 60 1 p.2.1 p.2.2 = true := later_iff.2 (by omega)
    unfold pp; rw [h1, h2]; rfl
theorem fof_sixty {l : List R3} {n : Int} (hl : flOk l = true) (hg : ∀ p ∈ l, gd p) (hn : 0 ≤ n ∧ n ≤ 7) : (sl l n 60 1).length = 3 ∧ ((fof (sl l n 60 1) 3 : Nat) : Int) = n := by
  have h3 : l.length = 3 := by simp only [flOk, Bool.and_eq_true, decide_eq_true_eq] at hl; exact hl.1
  refine ⟨by rw [sl_len]; exact h3, ?_⟩
  obtain ⟨p, q, r, rfl⟩ := three h3
  have e : sl [p, q, r] n 60 1 = [sp n 60 1 0 p, sp n 60 1 1 q, sp n 60 1 2 r] := by
    unfold sl
    rw [if_pos (by simp [hl, hn])]
    rfl
  rw [e]
  exact fof_bits hn (sp_sixty (hg p (by simp))) (sp_sixty (hg q (by simp))) (sp_sixty (hg r (by simp)))
section
variable {g : Int} {nm : ByteArray} {t b nx : Int} {L : List M4} {G : List Int}
theorem any_at {i : Nat} (hi : i < L.length) : L.any (fun m => decide (m.1 = L[i].1)) = true := by
  rw [List.any_eq_true]
  exact ⟨L[i], List.getElem_mem hi, by simp⟩
theorem uq_ne (h : uq L = true) {i k : Nat} (hi : i < L.length) (hk : k < L.length) (hne : k ≠ i) : L[k].1 ≠ L[i].1 := by
  intro e
  have h1 := mat_uniq h hi
  have h2 := mat_uniq h hk
  rw [e, h1] at h2
  omega
/-- All that the law of marked boxes asks: of the mail at r. -/
theorem fn_marked {n : Int} {r : Nat} (h : Dbx 11 g nm t b nx L G) (hn : 0 ≤ n ∧ n ≤ 7) (hr : r < L.length) :
    fmOk g nm t b nx L G L[r].1 n 60 1 = true ∧ tkOk g nm t b nx L G L[r].1 = true ∧
    (∀ k (hk : k < L.length), k ≠ r → (fmL true L L[r].1 n 60 1)[k]? = some L[k]) ∧ (fmL true L L[r].1 n 60 1)[r]? = some (fgm L[r] n 60 1) ∧
    mat L[r].1 (tkL true L L[r].1) 0 = -1 ∧
    (∀ k (hk : k < L.length), k ≠ r → ∃ j : Nat, mat L[k].1 (tkL true L L[r].1) 0 = (j : Int) ∧ (tkL true L L[r].1)[j]? = some L[k]) ∧
    inl L[r].1 (tkG true G L[r].1) = true ∧ (sl L[r].2.2.1 n 60 1).length = 3 ∧ ((fof (sl L[r].2.2.1 n 60 1) 3 : Nat) : Int) = n := by
  obtain ⟨h1, h2, h3, h4, h5, h6, h7, h8, h9⟩ := bx_iff.1 h.right
  have hg := h.gone
  have hm := h7 L[r] (List.getElem_mem hr)
  have hf : flOk L[r].2.2.1 = true := by
    have := hm.1
    simp only [mlOk, Bool.and_eq_true] at this
    exact this.2.2.1
  have hx := fof_sixty hf (h.each L[r] (List.getElem_mem hr)).2 hn
  refine ⟨?_, ?_, fun k hk hne => ?_, ?_, ?_, fun k hk hne => ?_, ?_, hx.1, hx.2⟩
  · unfold fmOk
    rw [h.right, any_at hr]
    have : flr n = true := by simp only [flr, Bool.and_eq_true, decide_eq_true_eq]; exact hn
    rw [this]
    decide
  · unfold tkOk
    rw [h.right, any_at hr]
    simp only [Bool.true_and, decide_eq_true_eq]
    omega
  · rw [fmL, if_pos rfl, List.getElem?_map, List.getElem?_eq_getElem hk, Option.map_some, if_neg (uq_ne h9 hr hk hne)]
  · rw [fmL, if_pos rfl, List.getElem?_map, List.getElem?_eq_getElem hr, Option.map_some, if_pos rfl]
  · refine mat_none _ 0 (fun x hx => ?_)
    rw [tkL, if_pos rfl] at hx
    simpa using (List.mem_filter.1 hx).2
  · have hne' := uq_ne h9 hr hk hne
    have hmem : L[k] ∈ tkL true L L[r].1 := by
      rw [tkL, if_pos rfl]
      exact List.mem_filter.2 ⟨List.getElem_mem hk, by simpa using hne'⟩
    obtain ⟨j, hj, e⟩ := List.getElem_of_mem hmem
    have huq : uq (tkL true L L[r].1) = true := by
      unfold uq at h9 ⊢
      simp only [decide_eq_true_eq] at h9 ⊢
      exact h9.sublist ((tk_sub true L L[r].1).map _)
    refine ⟨j, ?_, by rw [List.getElem?_eq_getElem hj, e]⟩
    have := mat_uniq huq hj
    rw [e] at this
    exact this
  · rw [tkG, if_pos rfl]
    exact inl_mem (pin_in _ _)
theorem fn_none {gid n st sb : Int} (h : L.length = 0) : fmOk g nm t b nx L G gid n st sb = false ∧ tkOk g nm t b nx L G gid = false := by
  obtain rfl := List.length_eq_zero_iff.1 h
  exact ⟨by simp [fmOk], by simp [tkOk]⟩
end
/-- The four cells of a mail that is the i-th of a list, and its flags. -/
theorem ml_at {W : World} {a : Option Addr} {N c : Nat} {a' : Option Addr} {M c' : Nat} {K : List M4} {H : List Int} {i : Nat} {m : M4} (h : Bz W a N c a' M c' K H) (hk : K[i]? = some m) :
    i < N ∧ m.2.2.1.length ≤ 1048576 ∧ ∃ k o fa fc, a = some ⟨k, o, none⟩ ∧ k < W.heap.size ∧ C4 W k (o + i * 4) m.1 m.2.1 (.slice fa m.2.2.1.length fc) m.2.2.2 ∧ Rs W fa m.2.2.1 := by
  obtain ⟨lo, hh, hm⟩ := h.mails
  obtain ⟨hil, e⟩ := List.getElem?_eq_some_iff.1 hk
  refine ⟨by rw [← h.len]; exact hil, ?_, ?_⟩
  · have := (h.sm m (by rw [← e]; exact List.getElem_mem hil)).1
    exact this
  obtain ⟨k, o, fa, fc, e1, e2, e3, e4, _⟩ := hm.at hil
  rw [e] at e3 e4
  exact ⟨k, o, fa, fc, e1, e2, e3, e4⟩
theorem tmodBy (x m : Nat) (h : 0 < m) : ∃ r : Nat, (x : Int).tmod (m : Int) = (r : Int) ∧ r < m := ⟨x % m, by rw [Int.tmod_eq_emod_of_nonneg (by omega)]; omega, Nat.mod_lt _ h⟩
end Go.Proofs.YtfmacodnjhegcabGreat
