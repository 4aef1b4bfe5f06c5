/- Iter, IterB, Cmp, Sort, Told, Rapp, in one text. -/
import Derived.Test.YtmpcmllfgogegaaMi
import Derived.RangeFuncNested
import Derived.RangeFuncBound
import Derived.RangeFuncCalls
import Derived.RangeFuncLeaves
import Derived.RangeFuncBox
import Derived.Shelf.Abstract
import Derived.WalkKit
import Derived.OwnWalkIn
import Derived.TacticsInMore
import Derived.LoopNIn
import Derived.LoopIn
import Derived.Maps.AppendAt
namespace Go.Proofs.Ytmpcmllfgogegaa
open Go.RowKit Go.Shelf Go.ChangeMaps

attribute [local go_sem] Oper.semAt_some

/-- The mails that have not come yet. -/
def lfE (E : List En) (seen : Array Nat) : List En := E.filter (fun e => !seen.contains e.2)
theorem lf_of (E : List En) (seen : Array Nat) : leftOf (E.map ent).toArray seen = ((lfE E seen).map ent).toArray := by
  unfold leftOf lfE
  apply Array.ext'
  simp only [Array.toList_filter, List.filter_map]
  rfl
theorem lf_push (E : List En) (seen : Array Nat) (b : Nat) : lfE E (seen.push b) = (lfE E seen).filter (fun e => !(e.2 == b)) := by
  unfold lfE
  rw [List.filter_filter]
  apply List.filter_congr
  intro e _
  simp only [Array.contains_push, Bool.not_or]
  rw [Bool.and_comm]
theorem perm_out (R : List En) (e : En) (he : e ∈ R) (hn : (R.map (·.2)).Nodup) : (e :: R.filter (fun x => !(x.2 == e.2))).Perm R := by
  induction R with
  | nil => cases he
  | cons x R ih =>
    rw [List.map_cons, List.nodup_cons] at hn
    rcases List.mem_cons.1 he with rfl | he
    · have hf : (e :: R).filter (fun x => !(x.2 == e.2)) = R := by
        rw [List.filter_cons_of_neg (by simp), List.filter_eq_self.2]
        intro y hy
        have : y.2 ≠ e.2 := fun h => hn.1 (h ▸ List.mem_map.2 ⟨y, hy, rfl⟩)
        simpa using this
      rw [hf]
    · have hx : x.2 ≠ e.2 := fun h => hn.1 (h ▸ List.mem_map.2 ⟨e, he, rfl⟩)
      rw [List.filter_cons_of_pos (by simpa using hx)]
      exact (List.Perm.swap x e _).trans ((ih he hn.2).cons x)
theorem lf_nodup {E : List En} (h : (E.map (·.2)).Nodup) (seen : Array Nat) : ((lfE E seen).map (·.2)).Nodup :=
  List.Nodup.sublist (List.Sublist.map _ List.filter_sublist) h

/-- How many are left, read off the world. -/
def lft (b r : Nat) (W : World) : Nat :=
  match W.heap[r]?, W.heap[b]? with
  | some (.mapIter _ _ seen _), some (.map es _) => (leftOf es seen).size
  | _, _ => 0

end Go.Proofs.Ytmpcmllfgogegaa

namespace Go.Proofs.Ytmpcmllfgogegaa
open Go.RowKit Go.Shelf Go.ChangeMaps

attribute [local go_sem] Oper.semAt_some

theorem zc_one {Z : List Z5} (h : ∀ z ∈ Z, ∃ a k c, z.2.2.1 = .slice a k c) : ∀ u ∈ zc Z, u.oneCell' = true := by
  induction Z with
  | nil => intro u hu; cases hu
  | cons z Z ih =>
    intro u hu
    simp only [zc, List.mem_cons] at hu
    rcases hu with rfl | rfl | rfl | rfl | hu
    · rfl
    · rfl
    · obtain ⟨a, k, c, hz⟩ := h z (by simp)
      rw [hz]; rfl
    · rfl
    · exact ih (fun y hy => h y (by simp [hy])) u hu
theorem cells_new4 (w : World) (z : Z5) (e : Nat) : ∀ j u, (zc [z])[j]? = some u → (w.alloc (.cells #[.int .i64 z.1, .int .i64 z.2.1, z.2.2.1, .string z.2.2.2.2] e)).cell? ((⟨w.heap.size, 0, none⟩ : Addr).add j) = some u := by
  intro j u hu
  have h := heap_alloc_new w (.cells #[.int .i64 z.1, .int .i64 z.2.1, z.2.2.1, .string z.2.2.2.2] e)
  rw [addr_add, Nat.zero_add, cell_of_row _ _ _ _ _ _ h]
  simpa [zc] using hu

/-- The mails of what has come. -/
def got {E : List En} (pre : List { e : En // e ∈ E }) : List Z5 := pre.map (fun x => x.1.1)
theorem got_snoc {E : List En} (pre : List { e : En // e ∈ E }) (x : { e : En // e ∈ E }) : got (pre ++ [x]) = got pre ++ [x.1.1] := by simp [got]
theorem got_len {E : List En} (pre : List { e : En // e ∈ E }) : (got pre).length = pre.length := by simp [got]

end Go.Proofs.Ytmpcmllfgogegaa

namespace Go.Proofs.Ytmpcmllfgogegaa
open Go.RowKit Go.ChangeMaps

theorem nan_any (x : Int) (w : World) : Calls Try.prog 26 #[.int .i64 x] w fun e w' => e = .returned (.bool false) ∧ w' = w := by
  have h : (x != x) = false := by simp
  go_enter Try.func26, Try.ntmps26
  go_wp2
  go_ret
  exact ⟨rfl, rfl⟩

/-- Which of two numbers is less. -/
def cpr (x y : Int) : Int := if x < y then -1 else if y < x then 1 else 0
theorem cpr_less (x y : Int) : decide (cpr x y < 0) = decide (x < y) := by
  unfold cpr
  by_cases h : x < y
  · simp [h]
  · by_cases h2 : y < x
    · simp [h, h2]
    · simp [h, h2]

theorem compare_any (x y : Int) (w : World) : Calls Try.prog 21 #[.int .i64 x, .int .i64 y] w fun e w' => e = .returned (.int .i64 (cpr x y)) ∧ w' = w := by
  by_cases h1 : x < y
  · have HE : Hid (cpr x y = -1) := by show _ = _; simp [cpr, h1]
    go_enter Try.func21, Try.ntmps21
    go_wp2_with fail
    refine (nan_any x _).mono ?_; rintro e w1 ⟨rfl, h⟩
    subst h
    go_wp2_with fail
    refine (nan_any y _).mono ?_; rintro e w1 ⟨rfl, h⟩
    subst h
    go_wp2
    go_ret
    exact ⟨by rw [HE.out]; rfl, rfl⟩
  · by_cases h2 : y < x
    · have HE : Hid (cpr x y = 1) := by show _ = _; simp [cpr, h1, h2]
      go_enter Try.func21, Try.ntmps21
      go_wp2_with fail
      refine (nan_any x _).mono ?_; rintro e w1 ⟨rfl, h⟩
      subst h
      go_wp2_with fail
      refine (nan_any y _).mono ?_; rintro e w1 ⟨rfl, h⟩
      subst h
      go_wp2
      go_ret
      exact ⟨by rw [HE.out]; rfl, rfl⟩
    · have HE : Hid (cpr x y = 0) := by show _ = _; simp [cpr, h1, h2]
      go_enter Try.func21, Try.ntmps21
      go_wp2_with fail
      refine (nan_any x _).mono ?_; rintro e w1 ⟨rfl, h⟩
      subst h
      go_wp2_with fail
      refine (nan_any y _).mono ?_; rintro e w1 ⟨rfl, h⟩
      subst h
      go_wp2
      go_ret
      exact ⟨by rw [HE.out]; rfl, rfl⟩

set_option maxRecDepth 100000 in
theorem len64_any (n : Nat) (hn : n ≤ 12) (w : World) : Calls Try.prog 39 #[.int .u64 (n : Int)] w fun e w' => (∃ k, e = .returned (.int .i64 k)) ∧ w' = w := by
  have h : n = 0 ∨ n = 1 ∨ n = 2 ∨ n = 3 ∨ n = 4 ∨ n = 5 ∨ n = 6 ∨ n = 7 ∨ n = 8 ∨ n = 9 ∨ n = 10 ∨ n = 11 ∨ n = 12 := by omega
  rcases h with rfl | rfl | rfl | rfl | rfl | rfl | rfl | rfl | rfl | rfl | rfl | rfl | rfl
  all_goals
    clear hn
    go_enter Try.func39, Try.ntmps39
    go_wp2
    go_ret
    exact ⟨⟨_, rfl⟩, rfl⟩
end Go.Proofs.Ytmpcmllfgogegaa

namespace Go.Proofs.Ytmpcmllfgogegaa
open Go.RowKit Go.ChangeMaps

def uz (Z : List Z5) (k : Nat) : Int := ((Z[k]?).map (fun z => z.2.1)).getD 0
theorem uz_at {Z : List Z5} {k : Nat} (h : k < Z.length) : uz Z k = Z[k].2.1 := by unfold uz; rw [List.getElem?_eq_getElem h]; rfl
def sw (Z : List Z5) (q : Nat) (x y : Z5) : List Z5 := (Z.set (q + 1) x).set q y
theorem sw_len (Z : List Z5) (q : Nat) (x y : Z5) : (sw Z q x y).length = Z.length := by simp [sw]
theorem sw_perm {Z : List Z5} {q : Nat} (h : q + 1 < Z.length) : (sw Z q Z[q] Z[q + 1]).Perm Z := by
  induction Z generalizing q with
  | nil => simp at h
  | cons a Z ih =>
    cases q with
    | zero =>
      cases Z with
      | nil => simp at h
      | cons b Z => exact List.Perm.swap a b Z
    | succ q =>
      have h' : q + 1 < Z.length := by simpa using h
      exact (ih h').cons a
theorem sw_uz {Z : List Z5} {q : Nat} (h : q + 1 < Z.length) (k : Nat) : uz (sw Z q Z[q] Z[q + 1]) k = if k = q then uz Z (q + 1) else if k = q + 1 then uz Z q else uz Z k := by
  unfold uz sw
  by_cases h1 : k = q
  · subst h1
    rw [if_pos rfl, List.getElem?_set_self (by simp; omega), List.getElem?_eq_getElem h]
  · rw [if_neg h1, List.getElem?_set_ne (Ne.symm h1)]
    by_cases h2 : k = q + 1
    · subst h2
      rw [if_pos rfl, List.getElem?_set_self h, List.getElem?_eq_getElem (by omega)]
    · rw [if_neg h2, List.getElem?_set_ne (Ne.symm h2)]

/-- The first i are in order. -/
def Srt (Z : List Z5) (i : Nat) : Prop := ∀ a b, a < b → b < i → uz Z a ≤ uz Z b
/-- The first i + 1 but the j-th are in order; it is not above what stands behind it. -/
def Ins (Z : List Z5) (i j : Nat) : Prop := (∀ a b, a < b → b ≤ i → a ≠ j → b ≠ j → uz Z a ≤ uz Z b) ∧ (∀ b, j < b → b ≤ i → uz Z j ≤ uz Z b)
theorem Ins.start {Z : List Z5} {i : Nat} (h : Srt Z i) : Ins Z i i := ⟨fun a b h1 h2 _ h4 => h a b h1 (by omega), fun b h1 h2 => by omega⟩
theorem Ins.fin0 {Z : List Z5} {i : Nat} (h : Ins Z i 0) : Srt Z (i + 1) := by
  intro a b h1 h2
  by_cases ha : a = 0
  · subst ha; exact h.2 b h1 (by omega)
  · exact h.1 a b h1 (by omega) ha (by omega)
theorem Ins.fin {Z : List Z5} {i q : Nat} (h : Ins Z i (q + 1)) (hu : uz Z q ≤ uz Z (q + 1)) : Srt Z (i + 1) := by
  intro a b h1 h2
  by_cases ha : a = q + 1
  · subst ha; exact h.2 b h1 (by omega)
  · by_cases hb : b = q + 1
    · subst hb
      by_cases haq : a = q
      · subst haq; exact hu
      · exact Int.le_trans (h.1 a q (by omega) (by omega) ha (by omega)) hu
    · exact h.1 a b h1 (by omega) ha hb
theorem Ins.step {Z : List Z5} {i q : Nat} (hl : q + 1 < Z.length) (h : Ins Z i (q + 1)) (hu : uz Z (q + 1) < uz Z q) : Ins (sw Z q Z[q] Z[q + 1]) i q := by
  refine ⟨fun a b h1 h2 h3 h4 => ?_, fun b h1 h2 => ?_⟩
  · rw [sw_uz hl, sw_uz hl, if_neg h3, if_neg h4]
    by_cases ha : a = q + 1
    · rw [if_pos ha, if_neg (by omega)]
      exact h.1 q b (by omega) h2 (by omega) (by omega)
    · rw [if_neg ha]
      by_cases hb : b = q + 1
      · rw [if_pos hb]
        exact h.1 a q (by omega) (by omega) ha (by omega)
      · rw [if_neg hb]
        exact h.1 a b h1 h2 ha hb
  · rw [sw_uz hl, sw_uz hl, if_pos rfl, if_neg (by omega)]
    by_cases hb : b = q + 1
    · rw [if_pos hb]; omega
    · rw [if_neg hb]
      exact h.2 b (by omega) h2

theorem gbl {a w w' : World} {r : Option Nat} (h : a.grownBy w r) (hb : Below w.heap.size w w') : a.grownBy w' r := wtr h ⟨hb.os, hb.tape, hb.output, hb.size, fun k hk _ => hb.block k hk⟩

end Go.Proofs.Ytmpcmllfgogegaa

namespace Go.Proofs.Ytmpcmllfgogegaa
open Go.RowKit Go.ChangeMaps

theorem bitsLen_any (n : Nat) (hn : n ≤ 12) (w : World) : Calls Try.prog 29 #[.int .u64 (n : Int)] w fun e w' => (∃ k, e = .returned (.int .i64 k)) ∧ w' = w := by
  have HC := hid (len64_any n hn w)
  clear hn
  go_enter Try.func29, Try.ntmps29
  go_wp2_with fail
  refine HC.out.mono ?_; rintro e w1 ⟨⟨k, rfl⟩, h⟩
  subst h
  go_wp2
  go_ret
  exact ⟨⟨k, rfl⟩, rfl⟩

theorem got_perm {E : List En} {xs : List { e : En // e ∈ E }} (h : (xs.map (fun x => x.1)).Perm E) : (got xs).Perm (E.map (fun e => e.1)) := by
  have := h.map (fun e : En => e.1)
  rwa [List.map_map] at this

end Go.Proofs.Ytmpcmllfgogegaa

namespace Go.Proofs.Ytmpcmllfgogegaa
open Go.RowKit Go.ChangeMaps

/-! Numbers copied. -/
theorem Is.all {lo hi : Nat} {W : World} {ad : Addr} {G : List Int} (h : Is lo hi W (some ad) G) : ∀ j u, (G.map (Value.int .i64))[j]? = some u → W.cell? (ad.add j) = some u := by
  intro j u hu
  have hj : j < G.length := by have := (List.getElem?_eq_some_iff.1 hu).1; simpa using this
  obtain ⟨k, o, h1, _, _, hc⟩ := h.2 j hj
  simp only [Option.some.injEq] at h1
  subst h1
  rw [addr_add, hc]
  rw [List.getElem?_map, List.getElem?_eq_getElem hj] at hu
  simpa using hu
theorem int_one (G : List Int) : ∀ u ∈ G.map (Value.int .i64), u.oneCell' = true := by
  intro u hu
  obtain ⟨x, _, rfl⟩ := List.mem_map.1 hu
  rfl
theorem ownI_empty (W : World) (B : Nat) (hB : B ≤ W.heap.size) : OwI (W.alloc (.cells #[] 3)) B (.slice (some ⟨W.heap.size, 0, none⟩) 0 0) [] :=
  World.ownsRow_lit (base := B) (e := 3) (size := 1) W #[] 0 hB (by unfold maxLen; omega) rfl
theorem info_int : (Try.prog.info? 3).map (fun i => (i.zero, i.size, i.bytes)) = some (some (.int .i64 0), 1, 8) := by kernel_rfl

end Go.Proofs.Ytmpcmllfgogegaa

