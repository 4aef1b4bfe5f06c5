/- Iter, IterB, Cmp, Sort, Told, Rapp, in one text. -/
import Derived.Test.YtanahkieondboaaDoorMi
import Derived.RangeFuncNested
import Derived.RangeFuncBound
import Derived.RangeFuncCalls
import Derived.RangeFuncLeaves
import Derived.RangeFuncBox
import Derived.Shelf.Abstract
import Derived.WalkKit
import Derived.OwnWalkIn
import Derived.TacticsInMore
import Derived.LoopNIn
import Derived.LoopIn
import Derived.Maps.AppendAt
namespace Go.Proofs.YtanahkieondboaaDoor
open Go.RowKit Go.Shelf Go.ChangeMaps

attribute [local go_sem] Oper.semAt_some

/-- The mails that have not come yet. -/
def lfE (E : List En) (seen : Array Nat) : List En := E.filter (fun e => !seen.contains e.2)
theorem lf_of (E : List En) (seen : Array Nat) : leftOf (E.map ent).toArray seen = ((lfE E seen).map ent).toArray := by
  unfold leftOf lfE
  apply Array.ext'
  simp only [Array.toList_filter, List.filter_map]
  rfl
theorem lf_push (E : List En) (seen : Array Nat) (b : Nat) : lfE E (seen.push b) = (lfE E seen).filter (fun e => !(e.2 == b)) := by
  unfold lfE
  rw [List.filter_filter]
  apply List.filter_congr
  intro e _
  simp only [Array.contains_push, Bool.not_or]
  rw [Bool.and_comm]
theorem perm_out (R : List En) (e : En) (he : e ∈ R) (hn : (R.map (·.2)).Nodup) : (e :: R.filter (fun x => !(x.2 == e.2))).Perm R := by
  induction R with
  | nil => cases he
  | cons x R ih =>
    rw [List.map_cons, List.nodup_cons] at hn
    rcases List.mem_cons.1 he with rfl | he
    · have hf : (e :: R).filter (fun x => !(x.2 == e.2)) = R := by
        rw [List.filter_cons_of_neg (by simp), List.filter_eq_self.2]
        intro y hy
        have : y.2 ≠ e.2 := fun h => hn.1 (h ▸ List.mem_map.2 ⟨y, hy, rfl⟩)
        simpa using this
      rw [hf]
    · have hx : x.2 ≠ e.2 := fun h => hn.1 (h ▸ List.mem_map.2 ⟨e, he, rfl⟩)
      rw [List.filter_cons_of_pos (by simpa using hx)]
      exact (List.Perm.swap x e _).trans ((ih he hn.2).cons x)
theorem lf_nodup {E : List En} (h : (E.map (·.2)).Nodup) (seen : Array Nat) : ((lfE E seen).map (·.2)).Nodup :=
  List.Nodup.sublist (List.Sublist.map _ List.filter_sublist) h

/-- How many are left, read off the world. -/
def lft (b r : Nat) (W : World) : Nat :=
  match W.heap[r]?, W.heap[b]? with
  | some (.mapIter _ _ seen _), some (.map es _) => (leftOf es seen).size
  | _, _ => 0

end Go.Proofs.YtanahkieondboaaDoor

namespace Go.Proofs.YtanahkieondboaaDoor
open Go.RowKit Go.Shelf Go.ChangeMaps

attribute [local go_sem] Oper.semAt_some

theorem zc_one {Z : List Z5} (h : ∀ z ∈ Z, ∃ a k c, z.2.2.1 = .slice a k c) : ∀ u ∈ zc Z, u.oneCell' = true := by
  induction Z with
  | nil => intro u hu; cases hu
  | cons z Z ih =>
    intro u hu
    simp only [zc, List.mem_cons] at hu
    rcases hu with rfl | rfl | rfl | rfl | hu
    · rfl
    · rfl
    · obtain ⟨a, k, c, hz⟩ := h z (by simp)
      rw [hz]; rfl
    · rfl
    · exact ih (fun y hy => h y (by simp [hy])) u hu
theorem cells_new4 (w : World) (z : Z5) (e : Nat) : ∀ j u, (zc [z])[j]? = some u → (w.alloc (.cells #[.int .i64 z.1, .int .i64 z.2.1, z.2.2.1, .string z.2.2.2.2] e)).cell? ((⟨w.heap.size, 0, none⟩ : Addr).add j) = some u := by
  intro j u hu
  have h := heap_alloc_new w (.cells #[.int .i64 z.1, .int .i64 z.2.1, z.2.2.1, .string z.2.2.2.2] e)
  rw [addr_add, Nat.zero_add, cell_of_row _ _ _ _ _ _ h]
  simpa [zc] using hu

/-- The mails of what has come. -/
def got {E : List En} (pre : List { e : En // e ∈ E }) : List Z5 := pre.map (fun x => x.1.1)
theorem got_snoc {E : List En} (pre : List { e : En // e ∈ E }) (x : { e : En // e ∈ E }) : got (pre ++ [x]) = got pre ++ [x.1.1] := by simp [got]
theorem got_len {E : List En} (pre : List { e : En // e ∈ E }) : (got pre).length = pre.length := by simp [got]

end Go.Proofs.YtanahkieondboaaDoor

namespace Go.Proofs.YtanahkieondboaaDoor
open Go.RowKit Go.ChangeMaps

/-- Which of two numbers is less. -/
def cpr (x y : Int) : Int := if x < y then -1 else if y < x then 1 else 0
theorem cpr_less (x y : Int) : decide (cpr x y < 0) = decide (x < y) := by
  unfold cpr
  by_cases h : x < y
  · simp [h]
  · by_cases h2 : y < x
    · simp [h, h2]
    · simp [h, h2]

set_option maxRecDepth 100000 in
theorem len64_any (n : Nat) (hn : n ≤ 12) (w : World) : Calls Tryd.prog 54 #[.int .u64 (n : Int)] w fun e w' => (∃ k, e = .returned (.int .i64 k)) ∧ w' = w := by
  have h : n = 0 ∨ n = 1 ∨ n = 2 ∨ n = 3 ∨ n = 4 ∨ n = 5 ∨ n = 6 ∨ n = 7 ∨ n = 8 ∨ n = 9 ∨ n = 10 ∨ n = 11 ∨ n = 12 := by omega
  rcases h with rfl | rfl | rfl | rfl | rfl | rfl | rfl | rfl | rfl | rfl | rfl | rfl | rfl
  all_goals
    clear hn
    go_enter Tryd.func54, Tryd.ntmps54
    go_wp2
    go_ret
    exact ⟨⟨_, rfl⟩, rfl⟩
end Go.Proofs.YtanahkieondboaaDoor

namespace Go.Proofs.YtanahkieondboaaDoor
open Go.RowKit Go.ChangeMaps

def uz (Z : List Z5) (k : Nat) : Int := ((Z[k]?).map (fun z => z.2.1)).getD 0
theorem uz_at {Z : List Z5} {k : Nat} (h : k < Z.length) : uz Z k = Z[k].2.1 := by unfold uz; rw [List.getElem?_eq_getElem h]; rfl
def sw (Z : List Z5) (q : Nat) (x y : Z5) : List Z5 := (Z.set (q + 1) x).set q y
theorem sw_len (Z : List Z5) (q : Nat) (x y : Z5) : (sw Z q x y).length = Z.length := by simp [sw]
theorem sw_perm {Z : List Z5} {q : Nat} (h : q + 1 < Z.length) : (sw Z q Z[q] Z[q + 1]).Perm Z := by
  induction Z generalizing q with
  | nil => simp at h
  | cons a Z ih =>
    cases q with
    | zero =>
      cases Z with
      | nil => simp at h
      | cons b Z => exact List.Perm.swap a b Z
    | succ q =>
      have h' : q + 1 < Z.length := by simpa using h
      exact (ih h').cons a
theorem sw_uz {Z : List Z5} {q : Nat} (h : q + 1 < Z.length) (k : Nat) : uz (sw Z q Z[q] Z[q + 1]) k = if k = q then uz Z (q + 1) else if k = q + 1 then uz Z q else uz Z k := by
  unfold uz sw
  by_cases h1 : k = q
  · subst h1
    rw [if_pos rfl, List.getElem?_set_self (by simp; omega), List.getElem?_eq_getElem h]
  · rw [if_neg h1, List.getElem?_set_ne (Ne.symm h1)]
    by_cases h2 : k = q + 1
    · subst h2
      rw [if_pos rfl, List.getElem?_set_self h, List.getElem?_eq_getElem (by omega)]
    · rw [if_neg h2, List.getElem?_set_ne (Ne.symm h2)]

/-- The first i are in order. -/
def Srt (Z : List Z5) (i : Nat) : Prop := ∀ a b, a < b → b < i → uz Z a ≤ uz Z b
/-- The first i + 1 but the j-th are in order; it is not above what stands behind it. -/
def Ins (Z : List Z5) (i j : Nat) : Prop := (∀ a b, a < b → b ≤ i → a ≠ j → b ≠ j → uz Z a ≤ uz Z b) ∧ (∀ b, j < b → b ≤ i → uz Z j ≤ uz Z b)
theorem Ins.start {Z : List Z5} {i : Nat} (h : Srt Z i) : Ins Z i i := ⟨fun a b h1 h2 _ h4 => h a b h1 (by omega), fun b h1 h2 => by omega⟩
theorem Ins.fin0 {Z : List Z5} {i : Nat} (h : Ins Z i 0) : Srt Z (i + 1) := by
  intro a b h1 h2
  by_cases ha : a = 0
  · subst ha; exact h.2 b h1 (by omega)
  · exact h.1 a b h1 (by omega) ha (by omega)
theorem Ins.fin {Z : List Z5} {i q : Nat} (h : Ins Z i (q + 1)) (hu : uz Z q ≤ uz Z (q + 1)) : Srt Z (i + 1) := by
  intro a b h1 h2
  by_cases ha : a = q + 1
  · subst ha; exact h.2 b h1 (by omega)
  · by_cases hb : b = q + 1
    · subst hb
      by_cases haq : a = q
      · subst haq; exact hu
      · exact Int.le_trans (h.1 a q (by omega) (by omega) ha (by omega)) hu
    · exact h.1 a b h1 (by omega) ha hb
theorem Ins.step {Z : List Z5} {i q : Nat} (hl : q + 1 < Z.length) (h : Ins Z i (q + 1)) (hu : uz Z (q + 1) < uz Z q) : Ins (sw Z q Z[q] Z[q + 1]) i q := by
  refine ⟨fun a b h1 h2 h3 h4 => ?_, fun b h1 h2 => ?_⟩
  · rw [sw_uz hl, sw_uz hl, if_neg h3, if_neg h4]
    by_cases ha : a = q + 1
    · rw [if_pos ha, if_neg (by omega)]
      exact h.1 q b (by omega) h2 (by omega) (by omega)
    · rw [if_neg ha]
      by_cases hb : b = q + 1
      · rw [if_pos hb]
        exact h.1 a q (by omega) (by omega) ha (by omega)
      · rw [if_neg hb]
        exact h.1 a b h1 h2 ha hb
  · rw [sw_uz hl, sw_uz hl, if_pos rfl, if_neg (by omega)]
    by_cases hb : b = q + 1
    · rw [if_pos hb]; omega
    · rw [if_neg hb]
      exact h.2 b (by omega) h2

/-- A row of mails, the cells alone. -/
abbrev Rw (W : World) (B g n cap : Nat) (Z : List Z5) : Prop := W.ownsRow B 46 4 (.slice (some ⟨g, 0, none⟩) n cap) n (zc Z)
theorem Rw.len {W : World} {B g n cap : Nat} {Z : List Z5} (h : Rw W B g n cap Z) : Z.length = n := by have := h.1; rw [zc_len] at this; omega
theorem Rw.set {W : World} {B g n cap : Nat} {Z : List Z5} (h : Rw W B g n cap Z) (i : Nat) (hi : i < n) (z : Z5) :
    Rw ((((W.setCell ⟨g, i * 4, none⟩ (.int .i64 z.1)).setCell ⟨g, i * 4 + 1, none⟩ (.int .i64 z.2.1)).setCell ⟨g, i * 4 + 2, none⟩ z.2.2.1).setCell ⟨g, i * 4 + 3, none⟩ (.string z.2.2.2.2)) B g n cap (Z.set i z) := by
  have h1 := (World.ownsRow.stored h (i * 4) (.int .i64 z.1)).1
  have h2 := (World.ownsRow.stored h1 (i * 4 + 1) (.int .i64 z.2.1)).1
  have h3 := (World.ownsRow.stored h2 (i * 4 + 2) z.2.2.1).1
  have h4 := (World.ownsRow.stored h3 (i * 4 + 3) (.string z.2.2.2.2)).1
  rw [zc_set Z i z (by rw [h.len]; exact hi)] at h4
  exact h4
theorem Rw.spot {W : World} {B g n cap : Nat} {Z : List Z5} (h : Rw W B g n cap Z) (i : Nat) (hi : i < Z.length) :
    (W.cell? ⟨g, i * 4, none⟩ = some (.int .i64 Z[i].1) ∧ W.cell? ⟨g, i * 4 + 1, none⟩ = some (.int .i64 Z[i].2.1) ∧ W.cell? ⟨g, i * 4 + 2, none⟩ = some Z[i].2.2.1 ∧ W.cell? ⟨g, i * 4 + 3, none⟩ = some (.string Z[i].2.2.2.2)) ∧
    W.frozen? ⟨g, i * 4, none⟩ = false ∧ W.frozen? ⟨g, i * 4 + 1, none⟩ = false ∧ W.frozen? ⟨g, i * 4 + 2, none⟩ = false ∧ W.frozen? ⟨g, i * 4 + 3, none⟩ = false := by
  have e := zc_at Z i hi
  have hl := h.len
  exact ⟨⟨(h.cellAt _ (by omega)).trans e.1, (h.cellAt _ (by omega)).trans e.2.1, (h.cellAt _ (by omega)).trans e.2.2.1, (h.cellAt _ (by omega)).trans e.2.2.2⟩, h.frozenAt _, h.frozenAt _, h.frozenAt _, h.frozenAt _⟩

theorem gbl {a w w' : World} {r : Option Nat} (h : a.grownBy w r) (hb : Below w.heap.size w w') : a.grownBy w' r := wtr h ⟨hb.os, hb.tape, hb.output, hb.size, fun k hk _ => hb.block k hk⟩

end Go.Proofs.YtanahkieondboaaDoor

namespace Go.Proofs.YtanahkieondboaaDoor
open Go.RowKit Go.ChangeMaps

theorem got_perm {E : List En} {xs : List { e : En // e ∈ E }} (h : (xs.map (fun x => x.1)).Perm E) : (got xs).Perm (E.map (fun e => e.1)) := by
  have := h.map (fun e : En => e.1)
  rwa [List.map_map] at this

end Go.Proofs.YtanahkieondboaaDoor

namespace Go.Proofs.YtanahkieondboaaDoor
open Go.RowKit Go.ChangeMaps

/-- What comes of an owned row when a mail is appended: the mail lies in a block of its own, laid just ahead. -/
theorem OwZ.snoc {w w' : World} {B : Nat} {v v' : Value} {Z : List Z5} (hown : OwZ w B v Z) (z : Z5) (ho : Ow w B z.2.2.1 z.2.2.2.1) (hv : Dj v z.2.2.1) (hd : ∀ y ∈ Z, Dj y.2.2.1 z.2.2.1) (o : Obj)
    (hrow : w'.ownsRow B 46 4 v' (Z.length + 1) (zc Z ++ zc [z])) (hg : (w.alloc o).grownBy w' v.ownBlock) (hloc : v'.ownBlock = v.ownBlock ∨ v'.ownBlock = some (w.alloc o).heap.size) : OwZ w' B v' (Z ++ [z]) := by
  have hkeep : ∀ {x : Value} {l : List R3}, Ow w B x l → Dj v x → Ow w' B x l := fun hx hdx => by
    have h1 := hx.alloc o
    refine World.ownsRow.kept h1 hg ?_
    cases hxb : Value.ownBlock _ with
    | none => exact Or.inl rfl
    | some j => exact Or.inr (fun e => hdx j e.symm hxb)
  have hoff : ∀ {x : Value} {l : List R3}, Ow w B x l → Dj v x → Dj v' x := fun hx hdx j hj hj' => by
    rcases hloc with h | h
    · exact hdx j (by rw [← h]; exact hj) hj'
    · rw [h] at hj
      have := (hx.lt j hj').2
      simp at hj
      omega
  refine ⟨?_, fun y hy => ?_, fun y hy => ?_, ?_⟩
  · rw [zc_app]; simpa using hrow
  · rcases List.mem_append.1 hy with hy | hy
    · exact hkeep (hown.each y hy) (hown.off y hy)
    · simp at hy; subst hy; exact hkeep ho hv
  · rcases List.mem_append.1 hy with hy | hy
    · exact hoff (hown.each y hy) (hown.off y hy)
    · simp at hy; subst hy; exact hoff ho hv
  · rw [List.pairwise_append]
    refine ⟨hown.apart, by simp, ?_⟩
    intro x hx y hy
    simp at hy
    subst hy
    exact hd x hx

theorem z_one {z : Z5} {W : World} {B : Nat} (ho : Ow W B z.2.2.1 z.2.2.2.1) : ∀ u ∈ zc [z], u.oneCell' = true :=
  zc_one (fun y hy => by simp at hy; subst hy; obtain ⟨a, c, h, _⟩ := Ow.shape ho; exact ⟨a, _, c, h⟩)

/-- One mail appended, as one step of a region that draws its order. -/
theorem step_append_ml {ops : Array Oper} {o : Oper} {a : Act} {w : World} {K : Act → World → Prop} {Q : Exit → Act → World → Prop} {E : Prop}
    (hg : o.guard = none) (s x : Operand) (hop : o.op = Op.call { callee := Callee.builtin Builtin.append, args := #[s, x], argTypes := #[41, 41] })
    (B : Nat) (v : Value) (Z : List Z5) (hs : a.eval s = v) (z : Z5) (hown : OwZ w B v Z) (ho : Ow w B z.2.2.1 z.2.2.2.1) (hv : Dj v z.2.2.1) (hd : ∀ y ∈ Z, Dj y.2.2.1 z.2.2.1)
    (hx : a.eval x = .slice (some ⟨w.heap.size, 0, none⟩) 1 1) (hlen : Z.length ≤ 1048576) (hB : B ≤ w.heap.size)
    (hK : ∀ v' w', OwZ w' B v' (Z ++ [z]) → Below B w w' → (w.alloc (.cells #[.int .i64 z.1, .int .i64 z.2.1, z.2.2.1, .string z.2.2.2.2] 46)).grownBy w' v.ownBlock → (∀ j, v'.ownBlock = some j → v.ownBlock = some j ∨ w.heap.size ≤ j) → K (a.put o.dst v') w') :
    if Region.wanted o (yielded ops a.tmps) = true then Oper.wp Tryd.prog o a (w.alloc (.cells #[.int .i64 z.1, .int .i64 z.2.1, z.2.2.1, .string z.2.2.2.2] 46)) K Q else E := by
  have hw : Region.wanted o (yielded ops a.tmps) = true := by simp [Region.wanted, hg]
  rw [if_pos hw]
  obtain ⟨i0, hi, hz0, hz1, hz2⟩ := info_parts3 info_ml
  obtain ⟨v', w', hr, h2, h3, h4, h5⟩ := run_append_own_at (P := Tryd.prog) (w.alloc (.cells #[.int .i64 z.1, .int .i64 z.2.1, z.2.2.1, .string z.2.2.2.2] 46)) B 41 o.type 46 i0 _ 4 56 Tryd.underlying41 hi hz0 hz1 hz2 rfl (by decide) v _ _ (hown.row.alloc _) ⟨w.heap.size, 0, none⟩ 1 1 (zc [z]) rfl (cells_new4 w z 46) (z_one ho) (by unfold maxLen; omega) (by omega) (by simp; omega)
  unfold Oper.wp execOp
  simp only [hop, resolve, invoke, builtin, Sem.run_bind, Sem.run_pure, Result.andThen_ok, List.map_toArray, List.map_cons, List.map_nil, hs, hx, hr]
  exact hK v' w' (hown.snoc z ho hv hd _ h2 h3 h5) (((Below.refl B w).alloc hB _).grown h3 (by simp; omega) (fun k hk => (hown.row.lt k hk).1)) h3 (fun j hj => by
    rcases h5 with h5 | h5
    · exact .inl (by rw [← h5]; exact hj)
    · rw [h5] at hj; simp at hj; exact .inr (by omega))

/-- The same where the order is given. -/
theorem wpList_append_ml {ops : Array Oper} {rest : List Oper} {o : Oper} {a : Act} {w : World} {Q : Exit → Act → World → Prop} (hgd : o.guard = none) (s x : Operand)
    (hop : o.op = .call { callee := .builtin .append, args := #[s, x], argTypes := #[41, 41] })
    (B : Nat) (v : Value) (Z : List Z5) (hs : a.eval s = v) (z : Z5) (hown : OwZ w B v Z) (ho : Ow w B z.2.2.1 z.2.2.2.1) (hv : Dj v z.2.2.1) (hd : ∀ y ∈ Z, Dj y.2.2.1 z.2.2.1)
    (hx : a.eval x = .slice (some ⟨w.heap.size, 0, none⟩) 1 1) (hlen : Z.length ≤ 1048576) (hB : B ≤ w.heap.size)
    (hK : ∀ v' w', OwZ w' B v' (Z ++ [z]) → Below B w w' → (w.alloc (.cells #[.int .i64 z.1, .int .i64 z.2.1, z.2.2.1, .string z.2.2.2.2] 46)).grownBy w' v.ownBlock → (∀ j, v'.ownBlock = some j → v.ownBlock = some j ∨ w.heap.size ≤ j) → wpList Tryd.prog ops Q rest (a.put o.dst v') w') :
    wpList Tryd.prog ops Q (o :: rest) a (w.alloc (.cells #[.int .i64 z.1, .int .i64 z.2.1, z.2.2.1, .string z.2.2.2.2] 46)) := by
  obtain ⟨i0, hi, hz0, hz1, hz2⟩ := info_parts3 info_ml
  refine wpList_append_own_at _ hgd s x 41 hop B 46 i0 _ 4 56 Tryd.underlying41 hi hz0 hz1 hz2 rfl (by decide) v _ _ hs (hown.row.alloc _) ⟨w.heap.size, 0, none⟩ 1 1 (zc [z]) hx rfl (cells_new4 w z 46) (z_one ho) (by unfold maxLen; omega) (by omega) (by simp; omega) ?_
  intro v' w' h2 h3 h4 h5
  exact hK v' w' (hown.snoc z ho hv hd _ h2 h3 h5) (((Below.refl B w).alloc hB _).grown h3 (by simp; omega) (fun k hk => (hown.row.lt k hk).1)) h3 (fun j hj => by
    rcases h5 with h5 | h5
    · exact .inl (by rw [← h5]; exact hj)
    · rw [h5] at hj; simp at hj; exact .inr (by omega))

theorem ownZ_empty (W : World) (B : Nat) (hB : B ≤ W.heap.size) : OwZ (W.alloc (.cells #[] 46)) B (.slice (some ⟨W.heap.size, 0, none⟩) 0 0) [] :=
  ⟨World.ownsRow_lit (base := B) (e := 46) (size := 4) W #[] 0 hB (by unfold maxLen; omega) rfl, (fun z hz => by cases hz), (fun z hz => by cases hz), List.Pairwise.nil⟩

/-! Numbers copied. -/
theorem Is.all {lo hi : Nat} {W : World} {ad : Addr} {G : List Int} (h : Is lo hi W (some ad) G) : ∀ j u, (G.map (Value.int .i64))[j]? = some u → W.cell? (ad.add j) = some u := by
  intro j u hu
  have hj : j < G.length := by have := (List.getElem?_eq_some_iff.1 hu).1; simpa using this
  obtain ⟨k, o, h1, _, _, hc⟩ := h.2 j hj
  simp only [Option.some.injEq] at h1
  subst h1
  rw [addr_add, hc]
  rw [List.getElem?_map, List.getElem?_eq_getElem hj] at hu
  simpa using hu
theorem int_one (G : List Int) : ∀ u ∈ G.map (Value.int .i64), u.oneCell' = true := by
  intro u hu
  obtain ⟨x, _, rfl⟩ := List.mem_map.1 hu
  rfl
theorem ownI_empty (W : World) (B : Nat) (hB : B ≤ W.heap.size) : OwI (W.alloc (.cells #[] 3)) B (.slice (some ⟨W.heap.size, 0, none⟩) 0 0) [] :=
  World.ownsRow_lit (base := B) (e := 3) (size := 1) W #[] 0 hB (by unfold maxLen; omega) rfl
theorem info_int : (Tryd.prog.info? 3).map (fun i => (i.zero, i.size, i.bytes)) = some (some (.int .i64 0), 1, 8) := by kernel_rfl

end Go.Proofs.YtanahkieondboaaDoor

