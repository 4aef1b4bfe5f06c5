/- Itz. -/
import Derived.Test.YtckenihadlmlaaaB3
namespace Go.Proofs.Ytckenihadlmlaaa
open Go.RowKit Go.Shelf Go.ChangeMaps
attribute [local go_sem] Oper.semAt_some
end Go.Proofs.Ytckenihadlmlaaa
namespace Go.Proofs.Ytckenihadlmlaaa
open Go.RowKit Go.Shelf Go.ChangeMaps
attribute [local go_sem] Oper.semAt_some
theorem zc_one {Z : List Z5} (h : ∀ z ∈ Z, ∃ a k c, z.2.2.1 = .slice a k c) : ∀ u ∈ zc Z, u.oneCell' = true := by
  induction Z with
  | nil => intro u hu; cases hu
  | cons z Z ih =>
    intro u hu
    simp only [zc, List.mem_cons] at hu
    rcases hu with rfl | rfl | rfl | rfl | hu
    · rfl
    · rfl
    · obtain ⟨a, k, c, hz⟩ := h z (by simp)
      rw [hz]; rfl
    · rfl
    · exact ih (fun y hy => h y (by simp [hy])) u hu
theorem cells_new4 (w : World) (z : Z5) (e : Nat) : ∀ j u, (zc [z])[j]? = some u → (w.alloc (.cells #[.int .i64 z.1, .int .i64 z.2.1, z.2.2.1, .string z.2.2.2.2] e)).cell? ((⟨w.heap.size, 0, none⟩ : Addr).add j) = some u := by
  intro j u hu
  have h := heap_alloc_new w (.cells #[.int .i64 z.1, .int .i64 z.2.1, z.2.2.1, .string z.2.2.2.2] e)
  rw [addr_add, Nat.zero_add, cell_of_row _ _ _ _ _ _ h]
  simpa [zc] using hu
end Go.Proofs.Ytckenihadlmlaaa
namespace Go.Proofs.Ytckenihadlmlaaa
open Go.RowKit Go.ChangeMaps
end Go.Proofs.Ytckenihadlmlaaa
namespace Go.Proofs.Ytckenihadlmlaaa
open Go.RowKit Go.ChangeMaps
/-- A row of mails, the cells alone. -/
abbrev Rw (W : World) (B g n cap : Nat) (Z : List Z5) : Prop := W.ownsRow B 115 4 (.slice (some ⟨g, 0, none⟩) n cap) n (zc Z)
theorem Rw.len {W : World} {B g n cap : Nat} {Z : List Z5} (h : Rw W B g n cap Z) : Z.length = n := by have := h.1; rw [zc_len] at this; omega
theorem Rw.set {W : World} {B g n cap : Nat} {Z : List Z5} (h : Rw W B g n cap Z) (i : Nat) (hi : i < n) (z : Z5) :
    Rw ((((W.setCell ⟨g, i * 4, none⟩ (.int .i64 z.1)).setCell ⟨g, i * 4 + 1, none⟩ (.int .i64 z.2.1)).setCell ⟨g, i * 4 + 2, none⟩ z.2.2.1).setCell ⟨g, i * 4 + 3, none⟩ (.string z.2.2.2.2)) B g n cap (Z.set i z) := by
  have h1 := (World.ownsRow.stored h (i * 4) (.int .i64 z.1)).1
  have h2 := (World.ownsRow.stored h1 (i * 4 + 1) (.int .i64 z.2.1)).1
  have h3 := (World.ownsRow.stored h2 (i * 4 + 2) z.2.2.1).1
  have h4 := (World.ownsRow.stored h3 (i * 4 + 3) (.string z.2.2.2.2)).1
  rw [zc_set Z i z (by rw [h.len]; exact hi)] at h4
  exact h4
theorem Rw.spot {W : World} {B g n cap : Nat} {Z : List Z5} (h : Rw W B g n cap Z) (i : Nat) (hi : i < Z.length) :
    (W.cell? ⟨g, i * 4, none⟩ = some (.int .i64 Z[i].1) ∧ W.cell? ⟨g, i * 4 + 1, none⟩ = some (.int .i64 Z[i].2.1) ∧ W.cell? ⟨g, i * 4 + 2, none⟩ = some Z[i].2.2.1 ∧ W.cell? ⟨g, i * 4 + 3, none⟩ = some (.string Z[i].2.2.2.2)) ∧
    W.frozen? ⟨g, i * 4, none⟩ = false ∧ W.frozen? ⟨g, i * 4 + 1, none⟩ = false ∧ W.frozen? ⟨g, i * 4 + 2, none⟩ = false ∧ W.frozen? ⟨g, i * 4 + 3, none⟩ = false := by
  have e := zc_at Z i hi
  have hl := h.len
  exact ⟨⟨(h.cellAt _ (by omega)).trans e.1, (h.cellAt _ (by omega)).trans e.2.1, (h.cellAt _ (by omega)).trans e.2.2.1, (h.cellAt _ (by omega)).trans e.2.2.2⟩, h.frozenAt _, h.frozenAt _, h.frozenAt _, h.frozenAt _⟩
end Go.Proofs.Ytckenihadlmlaaa
namespace Go.Proofs.Ytckenihadlmlaaa
open Go.RowKit Go.ChangeMaps
end Go.Proofs.Ytckenihadlmlaaa
namespace Go.Proofs.Ytckenihadlmlaaa
open Go.RowKit Go.ChangeMaps
/-- What comes of an owned row when a mail is appended: the mail lies in a block of its own, laid just ahead. -/
theorem OwZ.snoc {w w' : World} {B : Nat} {v v' : Value} {Z : List Z5} (hown : OwZ w B v Z) (z : Z5) (ho : Ow w B z.2.2.1 z.2.2.2.1) (hv : Dj v z.2.2.1) (hd : ∀ y ∈ Z, Dj y.2.2.1 z.2.2.1) (o : Obj)
    (hrow : w'.ownsRow B 115 4 v' (Z.length + 1) (zc Z ++ zc [z])) (hg : (w.alloc o).grownBy w' v.ownBlock) (hloc : v'.ownBlock = v.ownBlock ∨ v'.ownBlock = some (w.alloc o).heap.size) : OwZ w' B v' (Z ++ [z]) := by
  have hkeep : ∀ {x : Value} {l : List R3}, Ow w B x l → Dj v x → Ow w' B x l := fun hx hdx => by
    have h1 := hx.alloc o
    refine World.ownsRow.kept h1 hg ?_
    cases hxb : Value.ownBlock _ with
    | none => exact Or.inl rfl
    | some j => exact Or.inr (fun e => hdx j e.symm hxb)
  have hoff : ∀ {x : Value} {l : List R3}, Ow w B x l → Dj v x → Dj v' x := fun hx hdx j hj hj' => by
    rcases hloc with h | h
    · exact hdx j (by rw [← h]; exact hj) hj'
    · rw [h] at hj
      have := (hx.lt j hj').2
      simp at hj
      omega
  refine ⟨?_, fun y hy => ?_, fun y hy => ?_, ?_⟩
  · rw [zc_app]; simpa using hrow
  · rcases List.mem_append.1 hy with hy | hy
    · exact hkeep (hown.each y hy) (hown.off y hy)
    · simp at hy; subst hy; exact hkeep ho hv
  · rcases List.mem_append.1 hy with hy | hy
    · exact hoff (hown.each y hy) (hown.off y hy)
    · simp at hy; subst hy; exact hoff ho hv
  · rw [List.pairwise_append]
    refine ⟨hown.apart, by simp, ?_⟩
    intro x hx y hy
    simp at hy
    subst hy
    exact hd x hx
theorem z_one {z : Z5} {W : World} {B : Nat} (ho : Ow W B z.2.2.1 z.2.2.2.1) : ∀ u ∈ zc [z], u.oneCell' = true :=
  zc_one (fun y hy => by simp at hy; subst hy; obtain ⟨a, c, h, _⟩ := Ow.shape ho; exact ⟨a, _, c, h⟩)
/-- One mail appended, as one step of a region that draws its order. -/
theorem step_append_ml {ops : Array Oper} {o : Oper} {a : Act} {w : World} {K : Act → World → Prop} {Q : Exit → Act → World → Prop} {E : Prop}
    (hg : o.guard = none) (s x : Operand) (hop : o.op = Op.call { callee := Callee.builtin Builtin.append, args := #[s, x], argTypes := #[97, 97] })
    (B : Nat) (v : Value) (Z : List Z5) (hs : a.eval s = v) (z : Z5) (hown : OwZ w B v Z) (ho : Ow w B z.2.2.1 z.2.2.2.1) (hv : Dj v z.2.2.1) (hd : ∀ y ∈ Z, Dj y.2.2.1 z.2.2.1)
    (hx : a.eval x = .slice (some ⟨w.heap.size, 0, none⟩) 1 1) (hlen : Z.length ≤ 1048576) (hB : B ≤ w.heap.size)
    (hK : ∀ v' w', OwZ w' B v' (Z ++ [z]) → Below B w w' → (w.alloc (.cells #[.int .i64 z.1, .int .i64 z.2.1, z.2.2.1, .string z.2.2.2.2] 115)).grownBy w' v.ownBlock → (∀ j, v'.ownBlock = some j → v.ownBlock = some j ∨ w.heap.size ≤ j) → K (a.put o.dst v') w') :
    if Region.wanted o (yielded ops a.tmps) = true then Oper.wp Try.prog o a (w.alloc (.cells #[.int .i64 z.1, .int .i64 z.2.1, z.2.2.1, .string z.2.2.2.2] 115)) K Q else E := by
  have hw : Region.wanted o (yielded ops a.tmps) = true := by simp [Region.wanted, hg]
  rw [if_pos hw]
  obtain ⟨i0, hi, hz0, hz1, hz2⟩ := info_parts3 info_ml
  obtain ⟨v', w', hr, h2, h3, h4, h5⟩ := run_append_own_at (P := Try.prog) (w.alloc (.cells #[.int .i64 z.1, .int .i64 z.2.1, z.2.2.1, .string z.2.2.2.2] 115)) B 97 o.type 115 i0 _ 4 56 Try.underlying97 hi hz0 hz1 hz2 rfl (by decide) v _ _ (hown.row.alloc _) ⟨w.heap.size, 0, none⟩ 1 1 (zc [z]) rfl (cells_new4 w z 115) (z_one ho) (by unfold maxLen; omega) (by omega) (by simp; omega)
  unfold Oper.wp execOp
  simp only [hop, resolve, invoke, builtin, Sem.run_bind, Sem.run_pure, Result.andThen_ok, List.map_toArray, List.map_cons, List.map_nil, hs, hx, hr]
  exact hK v' w' (hown.snoc z ho hv hd _ h2 h3 h5) (((Below.refl B w).alloc hB _).grown h3 (by simp; omega) (fun k hk => (hown.row.lt k hk).1)) h3 (fun j hj => by
    rcases h5 with h5 | h5
    · exact .inl (by rw [← h5]; exact hj)
    · rw [h5] at hj; simp at hj; exact .inr (by omega))
theorem ownZ_empty (W : World) (B : Nat) (hB : B ≤ W.heap.size) : OwZ (W.alloc (.cells #[] 115)) B (.slice (some ⟨W.heap.size, 0, none⟩) 0 0) [] :=
  ⟨World.ownsRow_lit (base := B) (e := 115) (size := 4) W #[] 0 hB (by unfold maxLen; omega) rfl, (fun z hz => by cases hz), (fun z hz => by cases hz), List.Pairwise.nil⟩
/-! Numbers copied. -/
theorem Is.all {lo hi : Nat} {W : World} {ad : Addr} {G : List Int} (h : Is lo hi W (some ad) G) : ∀ j u, (G.map (Value.int .i64))[j]? = some u → W.cell? (ad.add j) = some u := by
  intro j u hu
  have hj : j < G.length := by have := (List.getElem?_eq_some_iff.1 hu).1; simpa using this
  obtain ⟨k, o, h1, _, _, hc⟩ := h.2 j hj
  simp only [Option.some.injEq] at h1
  subst h1
  rw [addr_add, hc]
  rw [List.getElem?_map, List.getElem?_eq_getElem hj] at hu
  simpa using hu
theorem int_one (G : List Int) : ∀ u ∈ G.map (Value.int .i64), u.oneCell' = true := by
  intro u hu
  obtain ⟨x, _, rfl⟩ := List.mem_map.1 hu
  rfl
theorem ownI_empty (W : World) (B : Nat) (hB : B ≤ W.heap.size) : OwI (W.alloc (.cells #[] 3)) B (.slice (some ⟨W.heap.size, 0, none⟩) 0 0) [] :=
  World.ownsRow_lit (base := B) (e := 3) (size := 1) W #[] 0 hB (by unfold maxLen; omega) rfl
theorem info_int : (Try.prog.info? 3).map (fun i => (i.zero, i.size, i.bytes)) = some (some (.int .i64 0), 1, 8) := by kernel_rfl
set_option maxHeartbeats 400000 in
set_option maxRecDepth 100000 in
theorem cloneI_any (lo hh : Nat) (ao : Option Addr) (n cap : Nat) (G : List Int) (w : World) (hl : G.length = n) (hn : n ≤ 1048576) (hr : Is lo hh w ao G) (h0 : ao = none → cap = 0) :
    Calls Try.prog 61 #[.slice ao n cap] w fun e w' => ∃ v, e = .returned v ∧ OwI w' w.heap.size v G ∧ Below w.heap.size w w' := by
  have HR := hid hr
  have HL := hid hl
  have HN := hid hn
  clear hr hl hn
  cases ao with
  | none =>
    have hn0 : n = 0 := by
      by_cases h : 0 < n
      · obtain ⟨_, _, h1, _⟩ := HR.out.2 0 (by rw [HL.out]; exact h)
        cases h1
      · omega
    subst hn0
    obtain rfl := h0 rfl
    have hle : G = [] := List.eq_nil_of_length_eq_zero HL.out
    subst hle
    clear h0
    have hnil : ∀ W, (binOp .eql 23 (.slice none 0 0) (.slice none 0 0)).run Try.prog W = .ok (.bool true) W := fun W => Lib.run_eql_slice_nil_nil W 0 0 Try.underlying23
    go_enter Try.func61, Try.ntmps61
    go_wp2
    go_ret
    exact ⟨_, rfl, ⟨rfl, .inl ⟨rfl, rfl⟩⟩, bre _⟩
  | some ad =>
    clear h0
    obtain ⟨i0, hi, hz0, hz1, hz2⟩ := info_parts3 info_int
    have HSRC : Hid (∀ j u, (G.map (Value.int .i64))[j]? = some u → (w.alloc (.cells #[] 3)).cell? (ad.add j) = some u) := (HR.out.later (bpush (bre _) _)).all
    have hnil : ∀ W, (binOp .eql 23 (.slice (some ad) n cap) (.slice none 0 0)).run Try.prog W = .ok (.bool false) W := fun W => Lib.run_eql_slice_some_nil W ad n cap Try.underlying23
    go_enter Try.func61, Try.ntmps61
    go_wp2_with (at_builtin; refine wpList_append_own _ rfl (.tmp 5) (.tmp 6) 23 rfl w.heap.size 3 i0 _ 1 8 Try.underlying23 hi hz0 hz1 hz2 rfl (by decide) _ 0 [] (by rfl) (ownI_empty w _ (Nat.le_refl _)) ad n cap (G.map (Value.int .i64)) (by rfl) (by rw [List.length_map, HL.out, Nat.mul_one]) HSRC.out (int_one G) (by have := HN.out; unfold maxLen; omega) (by have := HN.out; omega) (by simp) ?_; intro v1 w1 hown1 hg1 _)
    go_ret
    exact ⟨_, rfl, by simpa [OwI, HL.out] using hown1, (bpush (bre _) _).grown hg1 (by simp) (by intro k hk; simp [Value.ownBlock] at hk; omega)⟩
end Go.Proofs.Ytckenihadlmlaaa
