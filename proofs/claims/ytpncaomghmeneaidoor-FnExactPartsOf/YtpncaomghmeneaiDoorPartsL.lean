/- The walk of the law over the two functions that part a line. -/
import Derived.Test.YtpncaomghmeneaiDoorPartsB
namespace Go.Proofs.YtpncaomghmeneaiDoor
open Go.RowKit

/-- A row of texts as the comparing function wants it. -/
theorem row_view {w : World} {B n : Nat} {v : Value} {xs : List (List UInt8)} (h : w.ownsRow B 9 1 v n (xs.map sv)) :
    ∃ ao ga cap, v = .slice ao n cap ∧ xs.length = n ∧ (0 < n → ao = some ⟨ga, 0, none⟩ ∧ ga < w.heap.size) ∧ ∀ i (h : i < xs.length), w.cell? ⟨ga, i, none⟩ = some (sv xs[i]) := by
  have hl : xs.length = n := by have := h.1; simpa using this
  rcases h.2 with ⟨h1, h2⟩ | ⟨g, cap, _, h1, _⟩
  · refine ⟨none, 0, 0, by rw [h1, h2], hl, fun hp => by omega, fun i hi => by omega⟩
  · subst h1
    refine ⟨_, g, cap, rfl, hl, fun _ => ⟨rfl, (h.lt g rfl).2⟩, fun i hi => ?_⟩
    rw [h.cellAt i (by omega), List.getElem?_map, List.getElem?_eq_getElem hi]; rfl

theorem markS_nil (k : Nat) (w : World) (_hk : k ≤ 1000) : Calls Tryd.prog 10 #[.slice none 0 0, .int .i64 k] w fun e w' => e = .returned (.int .i64 k) ∧ w = w' := by
  go_enter Tryd.func10, Tryd.ntmps10
  go_wp2
  refine wp_loop_rounds 1 ?_
  rw [rounds_succ]
  go_wp2
  go_ret
  exact ⟨rfl, rfl⟩
theorem heldS_nil (k : Nat) (w : World) (_hk : k ≤ 1000) : Calls Tryd.prog 11 #[.slice none 0 0, .int .i64 k] w fun e w' => e = .returned (.int .i64 k) ∧ w = w' := by
  go_enter Tryd.func11, Tryd.ntmps11
  go_wp2
  refine wp_loop_rounds 1 ?_
  rw [rounds_succ]
  go_wp2
  go_ret
  exact ⟨rfl, rfl⟩

theorem mark1 (B g n cap : Nat) (xs : List Value) (w : World) (hown : w.ownsRow B 9 1 (.slice (some ⟨g, 0, none⟩) n cap) n xs) (hn : n ≤ 1000) (hB : B ≤ g) :
    Calls Tryd.prog 10 #[.slice (some ⟨g, 0, none⟩) n cap, .int .i64 1] w fun e w' => e = .returned (.int .i64 (1 + n : Nat)) ∧ w'.ownsRow B 9 1 (.slice (some ⟨g, 0, none⟩) n cap) n ((marks 1 n).map sv) ∧ Below B w w' :=
  markS_any B g n cap 1 xs w hown (by decide) (by omega) hB
theorem held1 (B g n cap : Nat) (w : World) (hown : w.ownsRow B 9 1 (.slice (some ⟨g, 0, none⟩) n cap) n ((marks 1 n).map sv)) (hn : n ≤ 1000) :
    Calls Tryd.prog 11 #[.slice (some ⟨g, 0, none⟩) n cap, .int .i64 1] w fun e w' => e = .returned (.int .i64 (1 + n : Nat)) ∧ Below w.heap.size w w' :=
  heldS_any B g n cap 1 w hown (by decide) (by omega)
theorem mark1_nil (w : World) : Calls Tryd.prog 10 #[.slice none 0 0, .int .i64 1] w fun e w' => e = .returned (.int .i64 1) ∧ w = w' := markS_nil 1 w (by decide)
theorem held1_nil (w : World) : Calls Tryd.prog 11 #[.slice none 0 0, .int .i64 1] w fun e w' => e = .returned (.int .i64 1) ∧ w = w' := heldS_nil 1 w (by decide)

theorem below_drewN' {B : Nat} {w w1 : World} (h : Below B w w1) (k : Nat) : Below B w (w1.drewN k) := ⟨h.os, h.tape, h.output, h.size, h.block⟩

set_option maxHeartbeats 1000000 in
set_option maxRecDepth 100000 in
theorem lawParts_any (s : ByteArray) (w : World) (hm : s.size ≤ maxLen) (htab : Lib.TabIs Tryd.prog w "strings.asciiSpace" .u8 Lib.asciiSpaceTab) :
    Calls Tryd.prog 4 #[.string s] w fun e w' => e = .returned (.bool true) ∧ Below w.heap.size w w' := by
  unfold maxLen at hm
  have HT := hide htab
  clear htab
  by_cases hs : s.size ≤ 1048576
  · by_cases hok : okLine s.data.toList
    · have HOK := hide hok
      obtain ⟨n, hn⟩ : ∃ n, (Lib.fields s.data.toList).length = n := ⟨_, rfl⟩
      have hn10 : n ≤ 10 := by rw [← hn]; exact hok.2.2
      have HN := hide hn
      clear hok hn
      have hA : ∀ W : World, Calls Tryd.prog 7 #[.string s] W fun e w' => ∃ v, e = .returned (.tuple #[v, .bool true]) ∧ w'.ownsRow W.heap.size 9 1 v n ((Lib.fields s.data.toList).map sv) ∧ Below W.heap.size W w' := fun W =>
        (specParts_any s W hs).mono fun e w' h => by
          rcases h.1 with ⟨_, v, h1, h2⟩ | ⟨h1, _⟩
          · rw [unhide HN] at h2; exact ⟨v, h1, h2, h.2⟩
          · exact absurd (unhide HOK) h1
      have hB : ∀ W : World, Lib.TabIs Tryd.prog W "strings.asciiSpace" .u8 Lib.asciiSpaceTab → Calls Tryd.prog 8 #[.string s] W fun e w' => ∃ g, W.heap.size ≤ g ∧ e = .returned (.tuple #[.slice (some ⟨g, 0, none⟩) n n, .bool true]) ∧ w'.ownsRow W.heap.size 9 1 (.slice (some ⟨g, 0, none⟩) n n) n ((Lib.fields s.data.toList).map sv) ∧ Below W.heap.size W w' := fun W hW =>
        (implParts_any s W hs hW).mono fun e w' h => by
          rcases h.1 with ⟨_, g, h0, h1, h2⟩ | ⟨h1, _⟩
          · rw [unhide HN] at h1 h2; exact ⟨g, h0, h1, h2, h.2⟩
          · exact absurd (unhide HOK) h1
      have HA := hide hA
      have HB := hide hB
      clear hA hB
      go_enter Tryd.func4, Tryd.ntmps4
      go_wp2_with fail
      refine (unhide HA _).mono ?_; rintro e w1 ⟨v0, rfl, hown0, hb1⟩
      obtain ⟨ao, ga, ca, hv0, hxl, hga, hcell⟩ := row_view hown0
      subst hv0
      have HXL := hide hxl
      have HGA := hide hga
      have HCELL := hide hcell
      clear hown0 hxl hga hcell
      go_wp2_with fail
      refine (unhide HB _ (space_later hb1 (unhide HT))).mono ?_; rintro e w2 ⟨g, hg, rfl, hown2, hb2⟩
      have hgl := (hown2.lt g rfl).2
      have HC2 : Hid (∀ i (h : i < (Lib.fields s.data.toList).length), w2.cell? ⟨g, i, none⟩ = some (sv (Lib.fields s.data.toList)[i])) := by
        intro i hi
        rw [hown2.cellAt i (by rw [← unhide HXL]; omega), List.getElem?_map, List.getElem?_eq_getElem hi]; rfl
      have HO2 := hide hown2
      clear hown2
      go_wp2_with fail
      refine (eqS_any (some ⟨g, 0, none⟩) ao n n ca g ga (Lib.fields s.data.toList) _ (unhide HXL) (by omega) (fun _ => rfl) (fun h => (unhide HGA h).1) (unhide HC2)
        (fun i hi => (hb2.cell (p := ⟨ga, i, none⟩) ((unhide HGA (by rw [← unhide HXL]; omega)).2)).trans (unhide HCELL i hi))).mono ?_
      rintro e w2' ⟨rfl, k1, rfl⟩
      go_wp2_with fail
      refine (mark1 w1.heap.size g n n _ (w2.drewN k1) (unhide HO2) (by omega) hg).mono ?_; rintro e w3 ⟨rfl, hown3, hb3⟩
      have hb23 : Below w1.heap.size w1 w3 := (below_drewN' hb2 k1).trans hb3
      have HO3 := hide hown3
      clear hown3 HC2 HO2
      go_wp2_with fail
      refine (held1 w1.heap.size g n n _ (unhide HO3) (by omega)).mono ?_; rintro e w4 ⟨rfl, hb4⟩
      have hb14 : Below w1.heap.size w1 w4 := hb23.trans (hb4.mono hb23.size)
      have hb04 : Below w.heap.size w w4 := hb1.trans (hb14.mono hb1.size)
      have HO4 := hide (own_later (unhide HO3) hb4)
      clear HO3
      go_wp2_with fail
      refine (unhide HB _ (space_later hb04 (unhide HT))).mono ?_; rintro e w5 ⟨g', hg', rfl, hown5, hb5⟩
      have hb15 : Below w1.heap.size w1 w5 := hb14.trans (hb5.mono hb14.size)
      have HC5 : Hid (∀ i (h : i < (Lib.fields s.data.toList).length), w5.cell? ⟨g', i, none⟩ = some (sv (Lib.fields s.data.toList)[i])) := by
        intro i hi
        rw [hown5.cellAt i (by rw [← unhide HXL]; omega), List.getElem?_map, List.getElem?_eq_getElem hi]; rfl
      have HO5 := hide (own_later (unhide HO4) hb5)
      clear hown5 HO4
      go_wp2_with fail
      refine (eqS_any (some ⟨g', 0, none⟩) ao n n ca g' ga (Lib.fields s.data.toList) _ (unhide HXL) (by omega) (fun _ => rfl) (fun h => (unhide HGA h).1) (unhide HC5)
        (fun i hi => (hb15.cell (p := ⟨ga, i, none⟩) ((unhide HGA (by rw [← unhide HXL]; omega)).2)).trans (unhide HCELL i hi))).mono ?_
      rintro e w5' ⟨rfl, k2, rfl⟩
      go_wp2_with fail
      refine (held1 w1.heap.size g n n (w5.drewN k2) (unhide HO5) (by omega)).mono ?_; rintro e w6 ⟨rfl, hb6⟩
      go_wp2
      go_ret
      exact ⟨rfl, (hb1.trans ((below_drewN' hb15 k2).mono hb1.size)).trans (hb6.mono (Nat.le_trans hb1.size hb15.size))⟩
    · have HNO := hide hok
      clear hok
      have hA : ∀ W : World, Calls Tryd.prog 7 #[.string s] W fun e w' => ∃ v, e = .returned (.tuple #[v, .bool false]) ∧ w'.ownsRow W.heap.size 9 1 v 0 [] ∧ Below W.heap.size W w' := fun W =>
        (specParts_any s W hs).mono fun e w' h => by
          rcases h.1 with ⟨h1, _⟩ | ⟨_, v, h1, h2⟩
          · exact absurd h1 (unhide HNO)
          · exact ⟨v, h1, h2, h.2⟩
      have hB : ∀ W : World, Lib.TabIs Tryd.prog W "strings.asciiSpace" .u8 Lib.asciiSpaceTab → Calls Tryd.prog 8 #[.string s] W fun e w' => e = .returned (.tuple #[.slice none 0 0, .bool false]) ∧ Below W.heap.size W w' := fun W hW =>
        (implParts_any s W hs hW).mono fun e w' h => by
          rcases h.1 with ⟨h1, _⟩ | ⟨_, h1⟩
          · exact absurd h1 (unhide HNO)
          · exact ⟨h1, h.2⟩
      have HA := hide hA
      have HB := hide hB
      clear hA hB
      go_enter Tryd.func4, Tryd.ntmps4
      go_wp2_with fail
      refine (unhide HA _).mono ?_; rintro e w1 ⟨v0, rfl, hown0, hb1⟩
      obtain ⟨ao, ca, hv0⟩ := slice_shape hown0
      subst hv0
      clear hown0
      go_wp2_with fail
      refine (unhide HB _ (space_later hb1 (unhide HT))).mono ?_; rintro e w2 ⟨rfl, hb2⟩
      have hb02 : Below w.heap.size w w2 := hb1.trans (hb2.mono hb1.size)
      go_wp2_with fail
      refine (eqS_any none ao 0 0 ca 0 0 [] _ rfl (by omega) (fun h => by omega) (fun h => by omega) (fun i hi => by simp at hi) (fun i hi => by simp at hi)).mono ?_
      rintro e w2' ⟨rfl, k1, rfl⟩
      go_wp2_with fail
      refine (mark1_nil _).mono ?_; rintro e w3 ⟨rfl, rfl⟩
      go_wp2_with fail
      refine (held1_nil _).mono ?_; rintro e w4 ⟨rfl, rfl⟩
      go_wp2_with fail
      refine (unhide HB _ (space_later (below_drewN' hb02 k1) (unhide HT))).mono ?_; rintro e w5 ⟨rfl, hb5⟩
      have hb05 : Below w.heap.size w w5 := (below_drewN' hb02 k1).trans (hb5.mono hb02.size)
      go_wp2_with fail
      refine (eqS_any none ao 0 0 ca 0 0 [] _ rfl (by omega) (fun h => by omega) (fun h => by omega) (fun i hi => by simp at hi) (fun i hi => by simp at hi)).mono ?_
      rintro e w5' ⟨rfl, k2, rfl⟩
      go_wp2_with fail
      refine (held1_nil _).mono ?_; rintro e w6 ⟨rfl, rfl⟩
      go_wp2
      go_ret
      exact ⟨rfl, below_drewN' hb05 k2⟩
  · go_enter Tryd.func4, Tryd.ntmps4
    go_wp2
    go_ret
    exact ⟨rfl, Below.refl _ _⟩
end Go.Proofs.YtpncaomghmeneaiDoor
