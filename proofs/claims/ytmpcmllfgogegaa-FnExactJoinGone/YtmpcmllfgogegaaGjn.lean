/- Two lists of numbers joined: each number once, ascending. -/
import Derived.Test.YtmpcmllfgogegaaGsj
import Derived.Test.YtmpcmllfgogegaaJgp
import Derived.Laws.EntriesVeiled
namespace Go.Proofs.Ytmpcmllfgogegaa
open Go.RowKit Go.Shelf Go.ChangeMaps

set_option maxHeartbeats 1600000 in
theorem sortedi_any (kb Bm b c B : Nat) (E : List Ei) (w : World) (hN : E.length ≤ 4194304) (hBm : Bm < w.heap.size) (hm : w.cell? ⟨Bm, 0, none⟩ = some (.map (some b))) (hmp : OwGm w B b E c) (hk : Kd w kb 32 12 13) :
    Calls Try.prog 18 #[.func (.func 25) #[] #[.pointer (some ⟨Bm, 0, none⟩)], .func (.func 20) #[] #[.pointer (some ⟨kb, 0, none⟩)]] w fun e w' =>
      ∃ v G, e = .returned v ∧ G.Perm (E.map (fun e => e.1)) ∧ G.Pairwise (· ≤ ·) ∧ OwI w' w.heap.size v G ∧ Below w.heap.size w w' := by
  have HC := hid (collecti_any Bm b c B E w hN hBm hm hmp)
  have HK := hid hk
  have HN := hid hN
  clear hBm hm hmp hN hk
  go_enter Try.func18, Try.ntmps18
  go_wp2_with fail
  refine HC.out.mono ?_; rintro e w1 ⟨v, G0, rfl, h1, h2, h3⟩
  have hle : G0.length = E.length := by have := h1.length_eq; simpa using this
  have H1 := hid h1
  have H2 := hid h2
  have H3 := hid h3
  have HLE := hid hle
  have HKB : Hid (v.ownBlock ≠ some kb) := fun e => by
    have h4 := (h2.lt kb e).1
    have h5 := HK.out.lt
    omega
  clear h1 h2 h3 hle
  go_wp2_with fail
  refine (sorti_any w.heap.size kb v G0 _ (by rw [HLE.out]; exact HN.out) H2.out (HK.out.later H3.out) HKB.out).mono ?_; rintro e w2 ⟨⟨v2, rfl⟩, G, g1, g2, g3, g4⟩
  have K1 := hid (g1.trans H1.out)
  have K2 := hid g2
  have K3 := hid g3
  have K4 : Hid (Below w.heap.size w w2) := H3.out.trans (below_grownR g4 (fun j hj => (H2.out.lt j hj).1) H3.out.size)
  clear g1 g2 g3 g4
  go_wp2
  go_ret
  exact ⟨v, G, rfl, K1.out, K2.out, K3.out, K4.out⟩

set_option maxRecDepth 100000 in
set_option maxHeartbeats 1600000 in
/-- What a map of numbers holds, told in order. -/
theorem toldi_any (b c B : Nat) (E : List Ei) (w : World) (hN : E.length ≤ 4194304) (hmp : OwGm w B b E c) :
    Calls Try.prog 16 #[.agg #[.func (.func 12) #[] #[], .func (.func 13) #[] #[]], .map (some b)] w fun e w' =>
      ∃ v G, e = .returned v ∧ G.Perm (E.map (fun e => e.1)) ∧ G.Pairwise (· ≤ ·) ∧ OwI w' w.heap.size v G ∧ Below w.heap.size w w' := by
  obtain ⟨W0, hW0⟩ : ∃ W0, w.alloc (.cells #[.func (.func 12) #[] #[], .func (.func 13) #[] #[]] 32) = W0 := ⟨_, rfl⟩
  have k0 : Kd W0 w.heap.size 32 12 13 := by subst hW0; exact heap_alloc_new w _
  have b0 : Below w.heap.size w W0 := by subst hW0; exact bpush (bre _) _
  have K0 := hid k0
  have B0 := hid b0
  have HM := hid hmp
  have HN := hid hN
  clear k0 b0 hmp hN
  go_enter Try.func16, Try.ntmps16
  go_wp2_with fail
  clear hW0
  refine (valuesi_any b _).mono ?_; rintro e w4 ⟨rfl, h4⟩
  obtain ⟨W5, hW5⟩ : ∃ W5, W0.alloc (.cells #[.map (some b)] 33) = W5 := ⟨_, rfl⟩
  have b5 : Below W0.heap.size W0 W5 := by subst hW5; exact bpush (bre _) _
  have x5 : W5.heap[W0.heap.size]? = some (.cells #[.map (some b)] 33) := by subst hW5; exact heap_alloc_new W0 _
  rw [hW5] at h4
  subst h4
  have HC := hid (sortedi_any w.heap.size W0.heap.size b c B E w4 HN.out (Array.getElem?_eq_some_iff.1 x5).1 (cell_of_rowb x5) ((HM.out.later B0.out).later b5) (K0.out.later b5))
  have H5 := hid b5
  clear hW5 b5 x5
  go_wp2_with fail
  refine HC.out.mono ?_; rintro e w6 ⟨v, Gs, rfl, g1, g2, g3, g4⟩
  have G1 := hid g1
  have G2 := hid g2
  have HO := hid (own_base g3 (Nat.le_trans B0.out.size H5.out.size))
  have HBE := hid (btr B0.out (btr H5.out g4))
  clear g1 g2 g3 g4
  go_wp2
  go_ret
  exact ⟨v, Gs, rfl, G1.out, G2.out, HO.out, HBE.out⟩

/-- A list that ascends, each number once. -/
theorem asl_perm {G E : List Int} (h1 : G.Perm E) (h2 : G.Pairwise (· ≤ ·)) (h3 : E.Nodup) {H : List Int} (h4 : ∀ y, y ∈ E ↔ y ∈ H) : G = asl H := by
  have hnd : G.Nodup := h1.nodup_iff.2 h3
  have hlt : G.Pairwise (· < ·) := by
    have := h2.and hnd
    exact this.imp (fun {a b} h => Int.lt_iff_le_and_ne.2 h)
  exact asc_same hlt (asl_asc H) (fun y => by rw [h1.mem_iff, h4, asl_mem])

set_option maxRecDepth 100000 in
set_option maxHeartbeats 4000000 in
theorem joinedi_any (l1 h1 l2 h2 : Nat) (a : Option Addr) (n c : Nat) (G : List Int) (a' : Option Addr) (n' c' : Nat) (G' : List Int) (w : World) (hl : G.length = n) (hn : n ≤ 1048576) (his : Is l1 h1 w a G) (hl' : G'.length = n') (hn' : n' ≤ 1048576) (his' : Is l2 h2 w a' G') :
    Calls Try.prog 14 #[.agg #[.func (.func 12) #[] #[], .func (.func 13) #[] #[]], .slice a n c, .slice a' n' c'] w fun e w' =>
      ∃ v, e = .returned v ∧ OwI w' w.heap.size v (asl (G ++ G')) ∧ Below w.heap.size w w' := by
  obtain ⟨W0, hW0⟩ : ∃ W0, w.alloc (.cells #[.func (.func 12) #[] #[], .func (.func 13) #[] #[]] 32) = W0 := ⟨_, rfl⟩
  have k0 : Kd W0 w.heap.size 32 12 13 := by subst hW0; exact heap_alloc_new w _
  have b0 : Below w.heap.size w W0 := by subst hW0; exact bpush (bre _) _
  have K0 := hid k0
  have B0 := hid b0
  have HIS := hid (his.later b0)
  have HIS' := hid (his'.later b0)
  have HL := hid hl
  have HL' := hid hl'
  have c0 := k0.cells
  clear k0 b0 his his' hl hl'
  go_enter Try.func14, Try.ntmps14
  go_wp2_with fail
  clear hW0 c0
  refine (firstsi_any l1 h1 a n c G _ HL.out hn HIS.out).mono ?_; rintro e w1 ⟨b1, E1, c1, rfl, m1, e1, n1, p1⟩
  have M1 := hid m1
  have E1H := hid e1
  have N1 := hid n1
  have P1 := hid p1
  have c0 := (K0.out.later p1).cells
  clear m1 e1 n1 p1
  go_wp2_with fail
  clear c0
  refine (firstsi_any l2 h2 a' n' c' G' _ HL'.out hn' (HIS'.out.later P1.out)).mono ?_; rintro e w2 ⟨b2, E2, c2, rfl, m2, e2, n2, p2⟩
  have M2 := hid m2
  have E2H := hid e2
  have N2 := hid n2
  have P2 := hid p2
  have hrg := run_range_gm m2.lies
  clear m2 e2 n2 p2
  have HOL : Hid (∀ x ∈ ((E2.map enti).toArray).toList, x.born < c2) := by
    intro x hx
    rw [List.toList_toArray] at hx
    obtain ⟨e, he, rfl⟩ := List.mem_map.1 hx
    exact M2.out.old e he
  have HBN : Hid ((((E2.map enti).toArray).toList.map (·.born)).Nodup) := by
    show List.Nodup _
    rw [List.toList_toArray, List.map_map]
    exact M2.out.births
  have HB2 : Hid (b1 < w1.heap.size ∧ w1.heap.size ≤ b2 ∧ b2 < w2.heap.size ∧ w.heap.size < W0.heap.size ∧ W0.heap.size ≤ b1) := ⟨M1.out.lt, M2.out.base, M2.out.lt, K0.out.lt, M1.out.base⟩
  have eg : ∀ args w, (callFunc 13 args).run Try.prog w = .ok (.enter 13 args) w := enters_of Try.func13 (by kernel_rfl) rfl
  go_wp2
  clear hrg
  go_loopw [19] (fun _ wr => ∃ (seen : Array Nat) (ps E : List Ei) (c3 : Nat), wr.heap[w2.heap.size]? = some (.mapIter (some b2) c2 seen c2) ∧ wr.heap[b2]? = some (.map (E2.map enti).toArray c2) ∧ (ps ++ lfI E2 seen).Perm E2 ∧ OwGm wr W0.heap.size b1 E c3 ∧ (∀ y, y ∈ E.map (·.1) ↔ y ∈ E1.map (·.1) ∨ y ∈ ps.map (·.1)) ∧ E.length ≤ E1.length + ps.length ∧ Kd wr w.heap.size 32 12 13 ∧ Below w.heap.size w wr)
    (fun _ wr => lfti b2 w2.heap.size wr)
  case atStart =>
    have hp : Below W0.heap.size W0 (w2.alloc (.mapIter (some b2) c2 #[] c2)) := bpush (btr P1.out P2.out) _
    refine ⟨#[], [], E1, c1, heap_alloc_new w2 _, (Below.heap_alloc _ _ b2 HB2.out.2.2.1).trans M2.out.lies, ?_, M1.out.later (bpush P2.out _), by simp, by simp, K0.out.later hp, btr B0.out hp⟩
    have : lfI E2 #[] = E2 := by unfold lfI; rw [List.filter_eq_self.2]; simp
    rw [this]; exact List.Perm.refl _
  case round =>
    obtain ⟨seen, ps, E, c3, hr, hb, hP, hM, hE, hEl, hKd, hBw⟩ := hrel
    have HR := hid hr
    have HB := hid hb
    have HP := hid hP
    have HM := hid hM
    have HE := hid hE
    have HEL := hid hEl
    have HKD := hid hKd
    have HBW := hid hBw
    have hnx := run_next_at (P := Try.prog) wr 0 w2.heap.size b2 c2 c2 seen (E2.map enti).toArray c2 hr hb HOL.out (Nat.le_refl _)
    rw [lfi_of] at hnx
    clear hr hb hP hM hE hEl hKd hBw
    rcases hnx with ⟨hz, hrun⟩ | ⟨e, he, w3, hw3, hrun⟩
    · have HZ : Hid (lfI E2 seen = []) := by
        show _ = _
        rw [List.size_toArray, List.length_map] at hz
        exact List.eq_nil_of_length_eq_zero hz
      clear hz
      have ck := HKD.out.cells
      go_wp2_with fail
      clear hrun ck
      have HPP : Hid (ps.Perm E2) := by
        have := HP.out
        rwa [HZ.out, List.append_nil] at this
      have HLEN : Hid (E.length ≤ 4194304) := by
        have h1 := HEL.out
        have h2 := HPP.out.length_eq
        have h3 := N1.out
        have h4 := N2.out
        show _ ≤ _
        omega
      have HALL : Hid (∀ y, y ∈ E.map (·.1) ↔ y ∈ G ++ G') := fun y => by
        rw [HE.out, E1H.out, (HPP.out.map (·.1)).mem_iff, E2H.out, List.mem_append]
      refine (toldi_any b1 c3 W0.heap.size E wr HLEN.out HM.out).mono ?_; rintro e w6 ⟨v, Gs, rfl, g1, g2, g3, g4⟩
      have HA : Hid (Gs = asl (G ++ G')) := asl_perm g1 g2 HM.out.keys HALL.out
      have HO := hid (own_base g3 HBW.out.size)
      have HBE := hid (HBW.out.trans (g4.mono HBW.out.size))
      clear g1 g2 g3 g4
      go_wp2
      go_ret
      exact ⟨v, rfl, HA.out ▸ HO.out, HBE.out⟩
    · rw [List.toList_toArray] at he
      obtain ⟨x, hx, rfl⟩ := List.mem_map.1 he
      have hxE : x ∈ E2 := (List.mem_filter.1 hx).1
      have HXL := hid hx
      have hwh : w3.heap = wr.heap := by rcases hw3 with rfl | rfl <;> rfl
      have hr1 : w3.heap[w2.heap.size]? = some (.mapIter (some b2) c2 seen c2) := by rw [hwh]; exact HR.out
      obtain ⟨W2, hW2⟩ : ∃ W2, setBlock w3 w2.heap.size (.mapIter (some b2) c2 (seen.push x.2) c2) = W2 := ⟨_, rfl⟩
      have hg2 : wr.grownBy W2 (some w2.heap.size) := by
        subst hW2
        have hlt := (Array.getElem?_eq_some_iff.1 hr1).1
        refine ⟨?_, ?_, ?_, ?_, ?_⟩
        · rcases hw3 with rfl | rfl <;> rfl
        · rcases hw3 with rfl | rfl <;> rfl
        · rcases hw3 with rfl | rfl <;> rfl
        · simp [setBlock, hwh]
        · intro k hk hne
          simp only [setBlock, hwh]
          exact Array.getElem?_setIfInBounds_ne (fun e => hne (by rw [e]))
      have hr2 : W2.heap[w2.heap.size]? = some (.mapIter (some b2) c2 (seen.push x.2) c2) := by
        subst hW2
        simp only [setBlock]
        rw [Array.getElem?_setIfInBounds_self_of_lt (Array.getElem?_eq_some_iff.1 hr1).1]
      have hlt2 := HB2.out
      have hb2 : W2.heap[b2]? = some (.map (E2.map enti).toArray c2) := (hg2.block b2 (Array.getElem?_eq_some_iff.1 HB.out).1 (fun e => by simp at e; omega)).trans HB.out
      have hen := run_entry_at (P := Try.prog) W2 w2.heap.size b2 c2 seen (E2.map enti).toArray c2 (enti x) hr2 hb2 (by rw [List.toList_toArray]; exact List.mem_map.2 ⟨x, hxE, rfl⟩) HBN.out
      have hrun' : (Instr.next (.pointer (some ⟨w2.heap.size, 0, none⟩)) false 0).run Try.prog wr = .ok (.tuple #[.bool true, .int .i64 x.1, .int .i64 x.1]) W2 := by rw [← hW2]; exact hrun
      have hen' : (Instr.entry (.pointer (some ⟨w2.heap.size, 0, none⟩))).run Try.prog W2 = .ok (.tuple #[.int .i64 x.1, .int .i64 x.1]) W2 := hen
      have hM2 : OwGm W2 W0.heap.size b1 E c3 := HM.out.same (hg2.block b1 HM.out.lt (fun e => by simp at e; omega))
      have hK2 : Kd W2 w.heap.size 32 12 13 := (hg2.block _ HKD.out.lt (fun e => by simp at e; omega)).trans HKD.out
      obtain ⟨W4, E4, c4, hput, hM4, hE4, hEl4, hg4⟩ := hM2.put x.1
      have hr4 : W4.heap[w2.heap.size]? = some (.mapIter (some b2) c2 (seen.push x.2) c2) := (hg4.block _ (Array.getElem?_eq_some_iff.1 hr2).1 (fun e => by simp at e; omega)).trans hr2
      have hb4 : W4.heap[b2]? = some (.map (E2.map enti).toArray c2) := (hg4.block _ (Array.getElem?_eq_some_iff.1 hb2).1 (fun e => by simp at e; omega)).trans hb2
      have hK4 : Kd W4 w.heap.size 32 12 13 := (hg4.block _ hK2.lt (fun e => by simp at e; omega)).trans hK2
      have hBw4 : Below w.heap.size w W4 := (HBW.out.trans (below_of_grown hg2 (by omega) HBW.out.size)).trans (below_of_grown hg4 (by omega) (Nat.le_trans HBW.out.size hg2.size))
      have hP4 : ((ps ++ [x]) ++ lfI E2 (seen.push x.2)).Perm E2 := by
        rw [lfi_push, List.append_assoc]
        exact List.Perm.trans (List.Perm.append_left _ (permi_out _ _ HXL.out (lfi_nodup M2.out.births seen))) HP.out
      have HMS : Hid (lfti b2 w2.heap.size W4 < lfti b2 w2.heap.size wr) := by
        show _ < _
        unfold lfti
        rw [hr4, hb4, HR.out, HB.out]
        dsimp only
        rw [lfi_of, lfi_of, List.size_toArray, List.size_toArray, List.length_map, List.length_map, lfi_push]
        have := (permi_out _ _ HXL.out (lfi_nodup M2.out.births seen)).length_eq
        rw [List.length_cons] at this
        exact Nat.lt_of_succ_le (Nat.le_of_eq this)
      have HREL : Hid (∃ (seen : Array Nat) (ps E : List Ei) (c3 : Nat), W4.heap[w2.heap.size]? = some (.mapIter (some b2) c2 seen c2) ∧ W4.heap[b2]? = some (.map (E2.map enti).toArray c2) ∧ (ps ++ lfI E2 seen).Perm E2 ∧ OwGm W4 W0.heap.size b1 E c3 ∧ (∀ y, y ∈ E.map (·.1) ↔ y ∈ E1.map (·.1) ∨ y ∈ ps.map (·.1)) ∧ E.length ≤ E1.length + ps.length ∧ Kd W4 w.heap.size 32 12 13 ∧ Below w.heap.size w W4) := by
        refine ⟨_, ps ++ [x], E4, c4, hr4, hb4, hP4, hM4, fun y => ?_, ?_, hK4, hBw4⟩
        · rw [hE4, HE.out, List.map_append, List.mem_append]
          simp only [List.map_cons, List.map_nil, List.mem_singleton]
          constructor
          · rintro (h | h | h)
            · exact Or.inr (Or.inr h)
            · exact Or.inl h
            · exact Or.inr (Or.inl h)
          · rintro (h | h | h)
            · exact Or.inr (Or.inl h)
            · exact Or.inr (Or.inr h)
            · exact Or.inl h
        · have h1 := HEL.out
          simp only [List.length_append, List.length_cons, List.length_nil]
          omega
      have hask := hM2.ask x.1
      have ck := hK2.cells
      clear hrun hen hr2 hb2 hg2 hW2 hr1 hwh hw3 hx he w3 hlt2 hM2 hK2 hM4 hE4 hEl4 hg4 hr4 hb4 hK4 hBw4 hP4 HR HB HP HM HE HEL HKD HBW HXL hxE
      obtain ⟨g, bo⟩ := x
      dsimp only at hrun' hen' hput hask
      rcases hask with ⟨_, hlk⟩ | ⟨_, hlk⟩
      · go_wp2
        go_roundw
        case rel => exact HREL.out
        case measure => exact HMS.out
      · go_wp2_with (go_at_call 13; refine (jni_any _ _ _).mono ?_; rintro e w5 ⟨rfl, h⟩; subst h)
        go_roundw
        case rel => exact HREL.out
        case measure => exact HMS.out

set_option maxRecDepth 100000 in
theorem implJoinGone_any (l1 h1 l2 h2 : Nat) (a : Option Addr) (n c : Nat) (G : List Int) (a' : Option Addr) (n' c' : Nat) (G' : List Int) (w : World) (hl : G.length = n) (hn : n ≤ 1048576) (his : Is l1 h1 w a G) (hl' : G'.length = n') (hn' : n' ≤ 1048576) (his' : Is l2 h2 w a' G') :
    Calls Try.prog 6 #[.slice a n c, .slice a' n' c'] w fun e w' => ∃ v, e = .returned v ∧ OwI w' w.heap.size v (asl (G ++ G')) ∧ Below w.heap.size w w' := by
  obtain ⟨W0, hW0⟩ : ∃ W0, w.alloc (.cells #[.func (.func 12) #[] #[], .func (.func 13) #[] #[]] 32) = W0 := ⟨_, rfl⟩
  have b0 : Below w.heap.size w W0 := by subst hW0; exact bpush (bre _) _
  have k0 : Kd W0 w.heap.size 32 12 13 := by subst hW0; exact heap_alloc_new w _
  have c0 := k0.cells
  have B0 := hid b0
  have HC := hid (joinedi_any l1 h1 l2 h2 a n c G a' n' c' G' W0 hl hn (his.later b0) hl' hn' (his'.later b0))
  clear b0 k0 his his' hl hl'
  go_enter Try.func6, Try.ntmps6
  go_wp2_with fail
  refine HC.out.mono ?_; rintro e w1 ⟨v, rfl, g1, g2⟩
  have HO := hid (own_base g1 B0.out.size)
  have HB := hid (btr B0.out g2)
  clear g1 g2
  go_wp2
  go_ret
  exact ⟨v, rfl, HO.out, HB.out⟩
end Go.Proofs.Ytmpcmllfgogegaa
