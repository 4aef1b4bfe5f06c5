/- Tik, Til, Tim, Tin, Tio, Tip. -/
import Derived.Test.YtjobfolipbfhlaoGreatbTij
import Derived.Lib.AppendZerosOnto
namespace Go.Proofs.YtjobfolipbfhlaoGreat
open Go.RowKit Go.ChangeMaps

theorem own_cellsN {W : World} {B g N cap e s : Nat} {cur : Array Value} {R : List Value} (hb : W.heap[g]? = some (.cells cur e (0, 0))) (hB : B ≤ g) (hN : N ≤ cap) (hc : cap ≤ maxLen) (hs : cur.size = cap * s) (hR : R.length = N * s) (hcell : ∀ j, j < N * s → W.cell? ⟨g, j, none⟩ = R[j]?) :
    W.ownsRow B e s (.slice (some ⟨g, 0, none⟩) N cap) N R := by
  refine ⟨hR, .inr ⟨g, cap, cur, rfl, hB, hb, hN, hc, hs, ?_⟩⟩
  apply List.ext_getElem?
  intro j
  rw [List.getElem?_take]
  by_cases hj : j < N * s
  · rw [if_pos hj]
    have h1 := hcell j hj
    rw [cell_of_row W g j cur e (0, 0) hb] at h1
    rw [← h1]
    simp
  · rw [if_neg hj, List.getElem?_eq_none (by omega)]
theorem size_bx : (Tryz.prog.info? 53).map (·.size) = some 7 := by kernel_rfl

end Go.Proofs.YtjobfolipbfhlaoGreat

namespace Go.Proofs.YtjobfolipbfhlaoGreat
open Go.RowKit Go.ChangeMaps

abbrev zbx : Value := .agg #[.int .i64 0, .string ⟨#[]⟩, .int .i64 0, .int .i64 0, .int .i64 0, .slice none 0 0, .slice none 0 0]
theorem zbx_cells : zbx.cells = #[.int .i64 0, .string ⟨#[]⟩, .int .i64 0, .int .i64 0, .int .i64 0, .slice none 0 0, .slice none 0 0] := by rfl
theorem zbx_size (k : Nat) : (Builtin.zeroCells zbx.cells k).size = k * 7 := by rw [zbx_cells]; simp [Builtin.zeroCells]

end Go.Proofs.YtjobfolipbfhlaoGreat

namespace Go.Proofs.YtjobfolipbfhlaoGreat
open Go.RowKit Go.ChangeMaps

theorem yc_take (Y : List Y9) (i : Nat) (h : i ≤ Y.length) : yc (Y.take i) = (yc Y).take (i * 7) := by
  have e : yc Y = yc (Y.take i) ++ yc (Y.drop i) := by rw [← yc_app, List.take_append_drop]
  have hl : (yc (Y.take i)).length = i * 7 := by rw [yc_len, List.length_take, Nat.min_eq_left h]
  rw [e]
  exact (List.take_left' hl).symm
theorem yc_drop (Y : List Y9) (i : Nat) (h : i ≤ Y.length) : yc (Y.drop i) = (yc Y).drop (i * 7) := by
  have e : yc Y = yc (Y.take i) ++ yc (Y.drop i) := by rw [← yc_app, List.take_append_drop]
  have hl : (yc (Y.take i)).length = i * 7 := by rw [yc_len, List.length_take, Nat.min_eq_left h]
  rw [e]
  exact (List.drop_left' hl).symm
def insY (i : Nat) (y : Y9) (Y : List Y9) : List Y9 := Y.take i ++ y :: Y.drop i
theorem insY_len {i : Nat} {y : Y9} {Y : List Y9} (h : i ≤ Y.length) : (insY i y Y).length = Y.length + 1 := by
  unfold insY
  simp only [List.length_append, List.length_cons, List.length_take, List.length_drop]
  omega
theorem insY_perm (i : Nat) (y : Y9) (Y : List Y9) : (insY i y Y).Perm (Y ++ [y]) := by
  unfold insY
  have h1 : (Y.take i ++ y :: Y.drop i).Perm (y :: (Y.take i ++ Y.drop i)) := List.perm_middle
  rw [List.take_append_drop] at h1
  exact h1.trans (List.perm_append_singleton y Y).symm
theorem yc_ins {i : Nat} {y : Y9} {Y : List Y9} (h : i ≤ Y.length) : yc (insY i y Y) = (yc Y).take (i * 7) ++ (yc [y] ++ (yc Y).drop (i * 7)) := by
  unfold insY
  rw [yc_app, yc_take Y i h]
  congr 1
  rw [← yc_drop Y i h, ← yc_app]
  rfl
theorem ins_lt {cs vs : List Value} {a j : Nat} (ha : a ≤ cs.length) (h : j < a) : (cs.take a ++ (vs ++ cs.drop a))[j]? = cs[j]? := by
  rw [List.getElem?_append_left (by rw [List.length_take]; omega), List.getElem?_take_of_lt h]
theorem ins_mid {cs vs : List Value} {a j : Nat} (ha : a ≤ cs.length) (h : a ≤ j) (h2 : j < a + vs.length) : (cs.take a ++ (vs ++ cs.drop a))[j]? = vs[j - a]? := by
  rw [List.getElem?_append_right (by rw [List.length_take]; omega), List.length_take, Nat.min_eq_left ha, List.getElem?_append_left (by omega)]
theorem ins_gt {cs vs : List Value} {a j : Nat} (ha : a ≤ cs.length) (h : a + vs.length ≤ j) : (cs.take a ++ (vs ++ cs.drop a))[j]? = (cs.drop a)[j - (a + vs.length)]? := by
  rw [List.getElem?_append_right (by rw [List.length_take]; omega), List.length_take, Nat.min_eq_left ha, List.getElem?_append_right (by omega)]
  congr 1
  omega
theorem grown_cells {a w : World} {g : Nat} (h : a.grownBy w (some g)) : ∀ (vs : List Value) (o : Nat), a.grownBy (w.setCells g o vs) (some g)
  | vs, o => by
    induction vs generalizing o w with
    | nil => exact h
    | cons v vs ih => exact ih (wst h o v) (o + 1)
theorem heap_drew (W : World) : W.drew.heap = W.heap := rfl
theorem cell_drew (W : World) (p : Addr) : W.drew.cell? p = W.cell? p := rfl
theorem OwX.one {W : World} {y : Y9} (h : OwX W y.lo y.hi y.mv y.gv y.L y.G) : ∀ u ∈ yc [y], u.oneCell' = true := yc_one h.slices.1 h.slices.2
theorem OwS.ones {W : World} {B : Nat} {v : Value} {Y : List Y9} (h : OwS W B v Y) : ∀ u ∈ yc Y, u.oneCell' = true := by
  have h2 := h.each
  clear h
  induction Y with
  | nil => intro u hu; cases hu
  | cons y Y ih =>
    intro u hu
    have e : yc (y :: Y) = yc [y] ++ yc Y := by rw [← yc_app]; rfl
    rw [e] at hu
    rcases List.mem_append.1 hu with hu | hu
    · exact (h2 y (by simp)).1.one u hu
    · exact ih (fun x hx => h2 x (by simp [hx])) u hu

end Go.Proofs.YtjobfolipbfhlaoGreat

namespace Go.Proofs.YtjobfolipbfhlaoGreat
open Go.RowKit Go.ChangeMaps

theorem step_append_runI {P : Program} {ops : Array Oper} {o : Oper} {a : Act} {w : World} {K : Act → World → Prop} {Q : Exit → Act → World → Prop} {E : Prop}
    (hg : o.guard = none) (d x : Operand) (dT sT : TypeId) (hop : o.op = Op.call { callee := Callee.builtin Builtin.append, args := #[d, x], argTypes := #[dT, sT] })
    (v u : Value) (hd : a.eval d = v) (hx : a.eval x = u) {v' : Value} {w' : World} (hr : (Builtin.append_ #[dT, sT] o.type #[v, u]).run P w = .ok v' w') (hK : K (a.put o.dst v') w') :
    if Region.wanted o (yielded ops a.tmps) = true then Oper.wp P o a w K Q else E := by
  have hw : Region.wanted o (yielded ops a.tmps) = true := by simp [Region.wanted, hg]
  rw [if_pos hw]
  unfold Oper.wp
  simp [execOp, hop, resolve, invoke, builtin, hd, hx, hr, Result.andThen]
  exact hK
theorem wpList_clear_runI {P : Program} (w : World) {ops : Array Oper} {rest : List Oper} {o : Oper} {a : Act} {Q : Exit → Act → World → Prop} (hgd : o.guard = none) (d : Operand) (t : TypeId)
    (ho : o.op = .call { callee := .builtin .clear, args := #[d], argTypes := #[t] }) (v : Value) (hd : a.eval d = v) {v' : Value} {w' : World}
    (hr : (Builtin.clear_ #[t] o.type #[v]).run P w = .ok v' w') (h : wpList P ops Q rest (a.put o.dst v') w') : wpList P ops Q (o :: rest) a w :=
  wpList_plain hgd fun _ hK => by
    unfold Oper.wp execOp
    simp only [ho, resolve, invoke, builtin, Sem.run_bind, Sem.run_pure, Result.andThen_ok, List.map_toArray, List.map_cons, List.map_nil, hd, hr]
    exact hK _ _ h
theorem run_clear_n {P : Program} (w : World) (t e ty : TypeId) (z : Value) (ht : P.underlying t = some (.slice e)) (hv : ∀ w, (zeroValue e).run P w = .ok z w) (b o n c : Nat) (hn : 0 < n)
    (hc : ∀ j, j < (Builtin.zeroCells z.cells n).toList.length → (w.cell? ⟨b, o + j, none⟩).isSome = true) (hf : ∀ j, w.frozen? ⟨b, o + j, none⟩ = false) (h1 : ∀ v ∈ (Builtin.zeroCells z.cells n).toList, v.oneCell' = true) :
    (Builtin.clear_ #[t] ty #[.slice (some ⟨b, o, none⟩) n c]).run P w = .ok (.tuple #[]) (w.setCells b o (Builtin.zeroCells z.cells n).toList) := by
  have hst := run_storeCells_cells (P := P) b o (Builtin.zeroCells z.cells n).toList 0 w (by simpa using hc) (fun j _ => by simp [hf]) h1
  simp only [Nat.add_zero] at hst
  obtain ⟨m, rfl⟩ : ∃ m, n = m + 1 := ⟨n - 1, by omega⟩
  simp [Builtin.clear_, run_underlying ht, hv] at hst ⊢
  rw [hst]
  rfl
abbrev zb7 : List Value := (Builtin.zeroCells zbx.cells 1).toList
theorem zb7_len : zb7.length = 7 := by
  have := zbx_size 1
  simpa [zb7] using this
theorem zb7_one : ∀ v ∈ zb7, v.oneCell' = true := by
  intro v hv
  have e : zb7 = [.int .i64 0, .string ⟨#[]⟩, .int .i64 0, .int .i64 0, .int .i64 0, .slice none 0 0, .slice none 0 0] := by
    show (Builtin.zeroCells zbx.cells 1).toList = _
    rw [zbx_cells]
    kernel_rfl
  rw [e] at hv
  simp only [List.mem_cons, List.not_mem_nil, or_false] at hv
  rcases hv with rfl | rfl | rfl | rfl | rfl | rfl | rfl <;> rfl

set_option maxHeartbeats 4000000 in
set_option maxRecDepth 100000 in
theorem delBx (b n c i : Nat) (cs : List Value) (w : World) (hi : i < n) (hnc : n ≤ c) (hc63 : c ≤ 9223372036854775807) (hcl : cs.length = n * 7)
    (hcs : ∀ j v, cs[j]? = some v → w.cell? ⟨b, j, none⟩ = some v) (hfz : ∀ j, w.frozen? ⟨b, j, none⟩ = false) (h1c : ∀ v ∈ cs, v.oneCell' = true) :
    Calls Tryz.prog 47 #[.slice (some ⟨b, 0, none⟩) n c, .int .i64 i, .int .i64 ((i : Int) + 1)] w fun e w' =>
      e = .returned (.slice (some ⟨b, 0, none⟩) (n - 1) c) ∧ w' = (w.drew.setCells b (i * 7) (cs.drop ((i + 1) * 7))).setCells b ((n - 1) * 7) zb7 := by
  obtain ⟨i0, hi0, hz0, hzs, hzb⟩ := info_parts3 info_bx
  have hne : ¬ ((i : Int) = (i : Int) + 1) := by omega
  have hw1 : IntKind.i64.wrap ((i : Int) + 1) = (i : Int) + 1 := by rw [IntKind.wrap_i64]; omega
  have hb1 : (0 : Int) ≤ (i : Int) + 1 := by omega
  have hin : (i : Int) ≤ (n : Int) := by omega
  have hin2 : (i : Int) + 1 ≤ (n : Int) := by omega
  have htn : ((i : Int) + 1).toNat = i + 1 := by omega
  have hdl : (cs.drop ((i + 1) * 7)).length = (n - (i + 1)) * 7 := by rw [List.length_drop, hcl, Nat.sub_mul]
  have hsp : ∀ j, j < n * 7 → (w.cell? ⟨b, j, none⟩).isSome = true := fun j hj => by rw [hcs j _ (List.getElem?_eq_getElem (by omega))]; rfl
  have hlen : i + (n - (i + 1)) = n - 1 := by omega
  have hap : ∀ ty o sc, (n - (i + 1) = 0 ∨ o = (i + 1) * 7) → (Builtin.append_ #[27, 27] ty #[.slice (some ⟨b, 0, none⟩) i c, .slice (some ⟨b, o, none⟩) (n - (i + 1)) sc]).run Tryz.prog w.drew = .ok (.slice (some ⟨b, 0, none⟩) (n - 1) c) (w.drew.setCells b (i * 7) (cs.drop ((i + 1) * 7))) := fun ty o sc ho => by
    have hsrc : Src Tryz.prog i0.size 27 (.slice (some ⟨b, o, none⟩) (n - (i + 1)) sc) (n - (i + 1)) (cs.drop ((i + 1) * 7)) w.drew := by
      rw [hzs]
      refine Src.ofSlice w.drew Tryz.underlying27 ⟨b, o, none⟩ (n - (i + 1)) sc _ hdl (fun j u hj => ?_) (fun v hv => h1c v (List.mem_of_mem_drop hv))
      have hj' := (List.getElem?_eq_some_iff.1 hj).1
      rw [hdl] at hj'
      rcases ho with h0 | rfl
      · rw [h0] at hj'; omega
      · rw [Addr.add_lit]
        exact hcs ((i + 1) * 7 + j) u (by rwa [List.getElem?_drop] at hj)
    have h := run_append_room_src (P := Tryz.prog) (w := w.drew) 27 27 ty 53 i0 Tryz.underlying27 hi0 b 0 i c _ (n - (i + 1)) _ hsrc (by omega) (fun j hj => by
      rw [hzs, Nat.zero_add]
      rw [hdl] at hj
      exact hsp _ (by omega)) (fun j _ => hfz _)
    rw [hlen, hzs, Nat.zero_add] at h
    exact h
  obtain ⟨W1, hW1⟩ : ∃ W1, W1 = w.drew.setCells b (i * 7) (cs.drop ((i + 1) * 7)) := ⟨_, rfl⟩
  have hsp1 : ∀ k, k < n * 7 → (W1.cell? ⟨b, k, none⟩).isSome = true := fun k hk => by
    rw [hW1]
    exact isSome_setCells b (cs.drop ((i + 1) * 7)) (i * 7) w.drew (fun j hj => hsp (i * 7 + j) (by rw [hdl] at hj; omega)) k (hsp k hk)
  have hcr : ∀ ty cc, (Builtin.clear_ #[27] ty #[.slice (some ⟨b, (n - 1) * 7, none⟩) 1 cc]).run Tryz.prog W1 = .ok (.tuple #[]) (W1.setCells b ((n - 1) * 7) zb7) := fun ty cc =>
    run_clear_n W1 27 53 ty zbx Tryz.underlying27 Tryz.zeroValue53 b ((n - 1) * 7) 1 cc (by omega) (fun j hj => hsp1 _ (by have h7 : j < zb7.length := hj; rw [zb7_len] at h7; omega)) (fun j => by rw [hW1, World.frozen?_setCells]; exact hfz _) zb7_one
  rw [← hW1] at hap ⊢
  have hn1 : ¬ (c = n - 1) := by omega
  have hn2 : ¬ (c = i) := by omega
  go_enter Tryz.func47, Tryz.ntmps47
  have hic : i ≤ c := by omega
  have hic2 : (i : Int) ≤ (c : Int) := by omega
  have hic3 : i + 1 ≤ n := by omega
  have hic4 : i ≤ n := by omega
  have hn3 : ((n - 1 : Nat) : Int) ≤ (n : Int) := by omega
  have hn4 : n - (n - 1) = 1 := by omega
  by_cases hce : c = i + 1
  · have hceT : (c = i + 1) = True := by simp [hce]
    have hl0 : n - (i + 1) = 0 := by omega
    have hni : n - i = 1 := by omega
    have hnn : n - 1 = i := by omega
    have hd0 : cs.drop ((i + 1) * 7) = [] := List.drop_of_length_le (by rw [hcl]; omega)
    have hw0 : W1 = w.drew := by rw [hW1, hd0]; rfl
    subst hw0
    rw [hnn] at hcr ⊢
    clear hce hap hW1 hd0
    go_wp2_with fail
    go_region
    go_wp2_with (refine wpList_clear_runI _ rfl _ 27 rfl _ rfl (hcr _ _) ?_)
    go_ret
    exact ⟨rfl, rfl⟩
  · have hap2 := fun ty sc => hap ty ((i + 1) * 7) sc (.inr rfl)
    clear hap hW1
    go_wp2_with fail
    go_region_law (refine step_append_runI rfl _ _ 27 27 rfl (.slice (some ⟨b, 0, none⟩) i c) (.slice (some ⟨b, (i + 1) * 7, none⟩) (n - (i + 1)) (c - (i + 1))) (by simp [Act.eval, Act.put]) (by simp [Act.eval, Act.put]) (hap2 _ _) ?_)
    go_wp2_with (refine wpList_clear_runI _ rfl _ 27 rfl _ rfl (hcr _ _) ?_)
    go_ret
    exact ⟨rfl, rfl⟩

def delY (i : Nat) (Y : List Y9) : List Y9 := Y.take i ++ Y.drop (i + 1)
theorem delY_len {i : Nat} {Y : List Y9} (h : i < Y.length) : (delY i Y).length = Y.length - 1 := by
  unfold delY
  simp only [List.length_append, List.length_take, List.length_drop]
  omega
theorem delY_sub (i : Nat) (Y : List Y9) : (delY i Y).Sublist Y := by
  unfold delY
  have h : (Y.take i ++ Y.drop (i + 1)).Sublist (Y.take i ++ Y.drop i) := by
    refine List.Sublist.append (List.Sublist.refl _) ?_
    rw [← List.drop_drop]
    exact List.drop_sublist _ _
  rwa [List.take_append_drop] at h
theorem yc_del {i : Nat} {Y : List Y9} (h : i < Y.length) : yc (delY i Y) = (yc Y).take (i * 7) ++ (yc Y).drop ((i + 1) * 7) := by
  unfold delY
  rw [yc_app, yc_take Y i (by omega), yc_drop Y (i + 1) (by omega)]
theorem LsP.sub {W : World} {B : Nat} {v v' : Value} {Y Y' : List Y9} (h : LsP W B v Y) (hs : Y'.Sublist Y) (hv : v'.ownBlock = v.ownBlock) : LsP W B v' Y' :=
  ⟨fun y hy => h.each y (hs.subset hy), fun y hy j hj => h.off y (hs.subset hy) j (by rw [← hv]; exact hj), h.apart.sublist hs⟩

set_option maxHeartbeats 1600000 in
set_option maxRecDepth 100000 in
theorem deleteBx_any (B g c i : Nat) (Y : List Y9) (w : World) (hown : OwS w B (.slice (some ⟨g, 0, none⟩) Y.length c) Y) (hi : i < Y.length) :
    Calls Tryz.prog 47 #[.slice (some ⟨g, 0, none⟩) Y.length c, .int .i64 i, .int .i64 ((i : Int) + 1)] w fun e w' =>
      e = .returned (.slice (some ⟨g, 0, none⟩) (Y.length - 1) c) ∧ OwS w' B (.slice (some ⟨g, 0, none⟩) (Y.length - 1) c) (delY i Y) ∧ w.grownBy w' (some g) := by
  rcases hown.row.2 with ⟨_, h2⟩ | ⟨g', c', cur, hv0, hBg, hbl, hnc, hcm, hcs, _⟩
  · omega
  simp only [Value.slice.injEq, Option.some.injEq, Addr.mk.injEq, and_true, true_and] at hv0
  obtain ⟨rfl, rfl⟩ := hv0
  have hold : ∀ j, j < Y.length * 7 → w.cell? ⟨g, j, none⟩ = (yc Y)[j]? := fun j hj => hown.row.cellAt j hj
  have holds : ∀ j u, (yc Y)[j]? = some u → w.cell? ⟨g, j, none⟩ = some u := fun j u hj => by
    have hj' := (List.getElem?_eq_some_iff.1 hj).1
    rw [yc_len] at hj'
    rw [hold j hj', hj]
  have hsome : ∀ j, j < c * 7 → (w.cell? ⟨g, j, none⟩).isSome = true := fun j hj => by rw [cell_of_row w g j cur 53 (0, 0) hbl, Array.getElem?_eq_getElem (by omega)]; rfl
  have hcl : (yc Y).length = Y.length * 7 := yc_len Y
  have hdl : ((yc Y).drop ((i + 1) * 7)).length = (Y.length - (i + 1)) * 7 := by rw [List.length_drop, hcl, Nat.sub_mul]
  refine (delBx g Y.length c i (yc Y) w hi hnc (by unfold maxLen at hcm; omega) hcl holds (fun j => frozen_of_row w g j cur 53 hbl) hown.ones).mono ?_
  rintro e w' ⟨rfl, rfl⟩
  obtain ⟨c1, hb1, hs1⟩ := heap_setCells g 53 ((yc Y).drop ((i + 1) * 7)) (i * 7) w.drew cur hbl
  obtain ⟨c2, hb2, hs2⟩ := heap_setCells g 53 zb7 ((Y.length - 1) * 7) _ c1 hb1
  have hrow := own_cellsN (B := B) (s := 7) (N := Y.length - 1) (R := yc (delY i Y)) hb2 hBg (by omega) hcm (by omega) (by rw [yc_len, delY_len hi]) (fun j hj => by
    rw [World.cell?_setCells_out g _ _ _ _ (fun _ _ => by simp; omega), yc_del hi]
    by_cases h1 : j < i * 7
    · rw [World.cell?_setCells_out g _ _ _ _ (fun _ _ => by simp; omega), List.getElem?_append_left (by rw [List.length_take]; omega), List.getElem?_take_of_lt h1]
      exact hold j (by omega)
    · have := World.cell?_setCells_in g ((yc Y).drop ((i + 1) * 7)) (i * 7) w.drew (fun t ht => hsome _ (by rw [hdl] at ht; omega)) (j - i * 7) (by rw [hdl]; omega)
      rw [show i * 7 + (j - i * 7) = j by omega] at this
      rw [this, List.getElem?_append_right (by rw [List.length_take]; omega), List.length_take, hcl, Nat.min_eq_left (by omega), List.getElem?_eq_getElem])
  have hg : w.grownBy ((w.drew.setCells g (i * 7) ((yc Y).drop ((i + 1) * 7))).setCells g ((Y.length - 1) * 7) zb7) (some g) := grown_cells (grown_cells (grown_below (bdr (bre _)) _) _ _) _ _
  obtain ⟨WF, hWF⟩ : ∃ WF, (w.drew.setCells g (i * 7) ((yc Y).drop ((i + 1) * 7))).setCells g ((Y.length - 1) * 7) zb7 = WF := ⟨_, rfl⟩
  rw [hWF] at hrow hg ⊢
  clear hWF hb1 hb2
  have hls : LsP w B (.slice (some ⟨g, 0, none⟩) Y.length c) Y := ⟨hown.each, hown.off, hown.apart⟩
  have hl2 : LsP WF B (.slice (some ⟨g, 0, none⟩) (Y.length - 1) c) (delY i Y) := (hls.grown hg).sub (delY_sub i Y) rfl
  exact ⟨rfl, ⟨by rw [delY_len hi]; exact hrow, hl2.each, hl2.off, hl2.apart⟩, hg⟩
end Go.Proofs.YtjobfolipbfhlaoGreat

namespace Go.Proofs.YtjobfolipbfhlaoGreat
open Go.RowKit Go.ChangeMaps

end Go.Proofs.YtjobfolipbfhlaoGreat

namespace Go.Proofs.YtjobfolipbfhlaoGreat
open Go.RowKit Go.ChangeMaps

def insX (x : X7) (S : List X7) : List X7 := S.take (S.countP (fun b => decide (b.1 < x.1))) ++ x :: S.drop (S.countP (fun b => decide (b.1 < x.1)))
theorem owx_nils (W : World) : OwX W W.heap.size W.heap.size (.slice none 0 0) (.slice none 0 0) [] [] := by
  refine ⟨⟨[], rfl, ⟨⟨rfl, .inl ⟨rfl, rfl⟩⟩, (fun z hz => by cases hz), (fun z hz => by cases hz), List.Pairwise.nil⟩, ⟨rfl, .inl ⟨rfl, rfl⟩⟩, Dj.nil _, (fun z hz => by cases hz), (fun j hj => by simp [Value.ownBlock] at hj), (fun j hj => by simp [Value.ownBlock] at hj), (fun z hz => by cases hz)⟩, Nat.le_refl _⟩

end Go.Proofs.YtjobfolipbfhlaoGreat

