/- A box appended to a row of boxes that a call owns; three stores side by side. -/
import Derived.Test.YtanahkieondboaaDoorSso
import Derived.Test.YtanahkieondboaaDoorSat
namespace Go.Proofs.YtanahkieondboaaDoor
open Go.RowKit Go.ChangeMaps

theorem yc_one {y : Y9} (h1 : ∃ a k c, y.mv = .slice a k c) (h2 : ∃ a k c, y.gv = .slice a k c) : ∀ u ∈ yc [y], u.oneCell' = true := by
  obtain ⟨a, k, c, e1⟩ := h1
  obtain ⟨a', k', c', e2⟩ := h2
  intro u hu
  simp only [yc, List.mem_cons, List.not_mem_nil, or_false] at hu
  rcases hu with rfl | rfl | rfl | rfl | rfl | rfl | rfl
  · rfl
  · rfl
  · rfl
  · rfl
  · rfl
  · rw [e1]; rfl
  · rw [e2]; rfl
theorem OwX.slices {W : World} {lo hi : Nat} {mv gv : Value} {L : List M4} {G : List Int} (h : OwX W lo hi mv gv L G) : (∃ a k c, mv = .slice a k c) ∧ ∃ a k c, gv = .slice a k c := by
  obtain ⟨a, c, a', c', h1, h2, _⟩ := h.reads
  exact ⟨⟨_, _, _, h1⟩, ⟨_, _, _, h2⟩⟩
/-- One box appended, as one step of a region that draws its order. -/
theorem step_append_bx {ops : Array Oper} {o : Oper} {a : Act} {w : World} {K : Act → World → Prop} {Q : Exit → Act → World → Prop} {E : Prop}
    (hg : o.guard = none) (s x : Operand) (hop : o.op = Op.call { callee := Callee.builtin Builtin.append, args := #[s, x], argTypes := #[30, 30] })
    (B : Nat) (v : Value) (Y : List Y9) (hs : a.eval s = v) (y : Y9) (hown : OwS w B v Y) (ho : OwX w y.lo y.hi y.mv y.gv y.L y.G) (hB : B ≤ y.lo) (hv : ∀ j, v.ownBlock = some j → j < y.lo ∨ y.hi ≤ j) (hd : ∀ x ∈ Y, x.hi ≤ y.lo ∨ y.hi ≤ x.lo)
    (hx : a.eval x = .slice (some ⟨w.heap.size, 0, none⟩) 1 1) (hlen : Y.length ≤ 1048576) (hBw : B ≤ w.heap.size)
    (hK : ∀ v' w', OwS w' B v' (Y ++ [y]) → Below B w w' → (w.alloc (.cells #[.int .i64 y.g, .string y.nm, .int .i64 y.t, .int .i64 y.b, .int .i64 y.nx, y.mv, y.gv] 43)).grownBy w' v.ownBlock → (∀ j, v'.ownBlock = some j → v.ownBlock = some j ∨ w.heap.size < j) → K (a.put o.dst v') w') :
    if Region.wanted o (yielded ops a.tmps) = true then Oper.wp Tryd.prog o a (w.alloc (.cells #[.int .i64 y.g, .string y.nm, .int .i64 y.t, .int .i64 y.b, .int .i64 y.nx, y.mv, y.gv] 43)) K Q else E := by
  have hw : Region.wanted o (yielded ops a.tmps) = true := by simp [Region.wanted, hg]
  rw [if_pos hw]
  obtain ⟨i0, hi, hz0, hz1, hz2⟩ := info_parts3 info_bx
  obtain ⟨v', w', hr, h2, h3, h4, h5⟩ := run_append_own_at (P := Tryd.prog) (w.alloc (.cells #[.int .i64 y.g, .string y.nm, .int .i64 y.t, .int .i64 y.b, .int .i64 y.nx, y.mv, y.gv] 43)) B 30 o.type 43 i0 _ 7 96 Tryd.underlying30 hi hz0 hz1 hz2 rfl (by decide) v _ _ (hown.row.alloc _) ⟨w.heap.size, 0, none⟩ 1 1 (yc [y]) rfl (cells_new7 w y 43) (yc_one ho.slices.1 ho.slices.2) (by unfold maxLen; omega) (by omega) (by simp; omega)
  unfold Oper.wp execOp
  simp only [hop, resolve, invoke, builtin, Sem.run_bind, Sem.run_pure, Result.andThen_ok, List.map_toArray, List.map_cons, List.map_nil, hs, hx, hr]
  have hloc : ∀ j, v'.ownBlock = some j → v.ownBlock = some j ∨ w.heap.size < j := fun j hj => by
    rcases h5 with h5 | h5
    · exact .inl (by rw [← h5]; exact hj)
    · rw [h5] at hj; simp at hj; exact .inr (by omega)
  exact hK v' w' (hown.snoc y ho hB hv hd _ (by rw [yc_app]; simpa using h2) h3 hloc) (((Below.refl B w).alloc hBw _).grown h3 (by simp; omega) (fun k hk => (hown.row.lt k hk).1)) h3 hloc
/-- The same where the order is given. -/
theorem wpList_append_bx {ops : Array Oper} {rest : List Oper} {o : Oper} {a : Act} {w : World} {Q : Exit → Act → World → Prop} (hgd : o.guard = none) (s x : Operand)
    (hop : o.op = .call { callee := .builtin .append, args := #[s, x], argTypes := #[30, 30] })
    (B : Nat) (v : Value) (Y : List Y9) (hs : a.eval s = v) (y : Y9) (hown : OwS w B v Y) (ho : OwX w y.lo y.hi y.mv y.gv y.L y.G) (hB : B ≤ y.lo) (hv : ∀ j, v.ownBlock = some j → j < y.lo ∨ y.hi ≤ j) (hd : ∀ x ∈ Y, x.hi ≤ y.lo ∨ y.hi ≤ x.lo)
    (hx : a.eval x = .slice (some ⟨w.heap.size, 0, none⟩) 1 1) (hlen : Y.length ≤ 1048576) (hBw : B ≤ w.heap.size)
    (hK : ∀ v' w', OwS w' B v' (Y ++ [y]) → Below B w w' → (w.alloc (.cells #[.int .i64 y.g, .string y.nm, .int .i64 y.t, .int .i64 y.b, .int .i64 y.nx, y.mv, y.gv] 43)).grownBy w' v.ownBlock → (∀ j, v'.ownBlock = some j → v.ownBlock = some j ∨ w.heap.size < j) → wpList Tryd.prog ops Q rest (a.put o.dst v') w') :
    wpList Tryd.prog ops Q (o :: rest) a (w.alloc (.cells #[.int .i64 y.g, .string y.nm, .int .i64 y.t, .int .i64 y.b, .int .i64 y.nx, y.mv, y.gv] 43)) := by
  obtain ⟨i0, hi, hz0, hz1, hz2⟩ := info_parts3 info_bx
  refine wpList_append_own_at _ hgd s x 30 hop B 43 i0 _ 7 96 Tryd.underlying30 hi hz0 hz1 hz2 rfl (by decide) v _ _ hs (hown.row.alloc _) ⟨w.heap.size, 0, none⟩ 1 1 (yc [y]) hx rfl (cells_new7 w y 43) (yc_one ho.slices.1 ho.slices.2) (by unfold maxLen; omega) (by omega) (by simp; omega) ?_
  intro v' w' h2 h3 h4 h5
  have hloc : ∀ j, v'.ownBlock = some j → v.ownBlock = some j ∨ w.heap.size < j := fun j hj => by
    rcases h5 with h5 | h5
    · exact .inl (by rw [← h5]; exact hj)
    · rw [h5] at hj; simp at hj; exact .inr (by omega)
  exact hK v' w' (hown.snoc y ho hB hv hd _ (by rw [yc_app]; simpa using h2) h3 hloc) (((Below.refl B w).alloc hBw _).grown h3 (by simp; omega) (fun k hk => (hown.row.lt k hk).1)) h3 hloc
theorem three_stores (w : World) (ta tb tc : Nat) (y tm y1 tm1 y2 tm2 : Int) (bv gv bv1 gv1 bv2 gv2 : Value) (W0 : World)
    (h : (((w.alloc (.cells #[.int .i64 y, .int .i64 tm, bv, gv] ta)).alloc (.cells #[.int .i64 y1, .int .i64 tm1, bv1, gv1] tb)).alloc (.cells #[.int .i64 y2, .int .i64 tm2, bv2, gv2] tc)) = W0) :
    Sx W0 w.heap.size ta y tm bv gv ∧ Sx W0 (w.heap.size + 1) tb y1 tm1 bv1 gv1 ∧ Sx W0 (w.heap.size + 1 + 1) tc y2 tm2 bv2 gv2 ∧ Below w.heap.size w W0 ∧ W0.heap.size = w.heap.size + 1 + 1 + 1 := by
  have e1 : (w.alloc (.cells #[.int .i64 y, .int .i64 tm, bv, gv] ta)).heap.size = w.heap.size + 1 := by simp
  have e2 : ((w.alloc (.cells #[.int .i64 y, .int .i64 tm, bv, gv] ta)).alloc (.cells #[.int .i64 y1, .int .i64 tm1, bv1, gv1] tb)).heap.size = w.heap.size + 1 + 1 := by simp
  have h1 := Sx.new (w.alloc (.cells #[.int .i64 y, .int .i64 tm, bv, gv] ta)) tb y1 tm1 bv1 gv1
  have h2 := Sx.new ((w.alloc (.cells #[.int .i64 y, .int .i64 tm, bv, gv] ta)).alloc (.cells #[.int .i64 y1, .int .i64 tm1, bv1, gv1] tb)) tc y2 tm2 bv2 gv2
  rw [e1] at h1
  rw [e2] at h2
  subst h
  exact ⟨(Sx.new w ta y tm bv gv).later (bpush (bpush (bre _) _) _), h1.later (bpush (bre _) _), h2, bpush (bpush (bpush (bre _) _) _) _, by simp⟩
end Go.Proofs.YtanahkieondboaaDoor
