/- Hsm, Hjn, Hjo. -/

import Derived.Test.YtmpcmllfgogegaaGreatjHa
namespace Go.Proofs.YtmpcmllfgogegaaGreat
open Go.RowKit Go.Shelf Go.ChangeMaps
theorem Kd.grown {W W' : World} {k ty f g : Nat} {r : Option Nat} (h : Kd W k ty f g) (hg : W.grownBy W' r) (hne : r ≠ some k) : Kd W' k ty f g := (hg.block k h.lt (fun e => hne e.symm)).trans h
set_option maxRecDepth 100000 in
set_option maxHeartbeats 1600000 in
theorem cmp9_any (kb : Nat) (g u : Int) (fa : Option Addr) (fn fc : Nat) (t : ByteArray) (g' u' : Int) (fa' : Option Addr) (fn' fc' : Nat) (t' : ByteArray) (w : World) (hk : Kd w kb 102 85 86) :
  Calls Tryz.prog 147 #[.agg #[.int .i64 g, .int .i64 u, .slice fa fn fc, .string t], .agg #[.int .i64 g', .int .i64 u', .slice fa' fn' fc', .string t'], .pointer (some ⟨kb, 0, none⟩)] w fun e w' => e = .returned (.int .i64 (cpr g g')) ∧ ∃ q os, w' = Go.Sort.grow (w.drewN q) os := by
 have eg : ∀ args w, (callFunc 85 args).run Tryz.prog w = .ok (.enter 85 args) w := enters_of Tryz.func85 (by kernel_rfl) rfl
 obtain ⟨W0, hW0⟩ : ∃ W0, ((w.alloc (.cells #[.int .i64 g, .int .i64 u, .slice fa fn fc, .string t] 37)).alloc (.cells #[.int .i64 g', .int .i64 u', .slice fa' fn' fc', .string t'] 37)) = W0 := ⟨_, rfl⟩
 obtain ⟨a0, a1, b0⟩ := two_mails w _ _ _ _ _ _ _ _ _ _ W0 hW0
 have HS : Hid (∀ W, Below W0.heap.size W0 W → (W.cell? ⟨kb, 0, none⟩ = some (.func (.func 85) #[] #[])) ∧ (W.cell? ⟨w.heap.size, 0, none⟩ = some (.int .i64 g) ∧ W.cell? ⟨w.heap.size, 1, none⟩ = some (.int .i64 u) ∧ W.cell? ⟨w.heap.size, 2, none⟩ = some (.slice fa fn fc) ∧ W.cell? ⟨w.heap.size, 3, none⟩ = some (.string t)) ∧ (W.cell? ⟨w.heap.size + 1, 0, none⟩ = some (.int .i64 g') ∧ W.cell? ⟨w.heap.size + 1, 1, none⟩ = some (.int .i64 u') ∧ W.cell? ⟨w.heap.size + 1, 2, none⟩ = some (.slice fa' fn' fc') ∧ W.cell? ⟨w.heap.size + 1, 3, none⟩ = some (.string t'))) :=
  fun W h => ⟨((hk.later b0).later h).cells.1, (a0.later h).cells, (a1.later h).cells⟩
 have HG : Hid (∃ os, W0 = Go.Sort.grow w os) := by
  subst hW0
  exact ⟨_, by rw [Go.Sort.alloc_eq_grow, Go.Sort.alloc_eq_grow, Go.Sort.grow_grow]⟩
 obtain ⟨q, hq⟩ : ∃ q, cpr g g' = q := ⟨_, rfl⟩
 have HQ := hid hq
 rw [hq]
 clear hq hk a0 a1 b0
 go_enter Tryz.func147, Tryz.ntmps147
 go_wp2_with fail
 clear hW0
 go_region_held3 (fun W => (W.cell? ⟨kb, 0, none⟩ = some (.func (.func 85) #[] #[])) ∧ (W.cell? ⟨w.heap.size, 0, none⟩ = some (.int .i64 g) ∧ W.cell? ⟨w.heap.size, 1, none⟩ = some (.int .i64 u) ∧ W.cell? ⟨w.heap.size, 2, none⟩ = some (.slice fa fn fc) ∧ W.cell? ⟨w.heap.size, 3, none⟩ = some (.string t)) ∧ (W.cell? ⟨w.heap.size + 1, 0, none⟩ = some (.int .i64 g') ∧ W.cell? ⟨w.heap.size + 1, 1, none⟩ = some (.int .i64 u') ∧ W.cell? ⟨w.heap.size + 1, 2, none⟩ = some (.slice fa' fn' fc') ∧ W.cell? ⟨w.heap.size + 1, 3, none⟩ = some (.string t')))
  ((first | exact HS.out _ (bdr (bre _)) | exact HS.out _ (bpush (bdr (bre _)) _) | exact HS.out _ (bpush (bpush (bdr (bre _)) _) _)))
  (first
    | (go_at_call 85; refine (nm9_any _ _ _ _ _).mono ?_; rintro e w1 ⟨rfl, h⟩; subst h)
    | (go_at_call 92; refine (compare_any _ _ _).mono ?_; rintro e w1 ⟨rfl, h⟩; subst h; rw [HQ.out]))
 go_wp2
 go_ret
 obtain ⟨os, hos⟩ := HG.out
 exact ⟨rfl, 1, _, by rw [hos]; simp only [Go.Sort.alloc_eq_grow, Go.Sort.drew_grow, Go.Sort.grow_grow]; rfl⟩
def encZ (z : Zs) : List Value := [.int .i64 z.1.1, .int .i64 z.1.2.1, z.1.2.2.1, .string z.1.2.2.2.2]
def cpz (x y : Zs) : Int := cpr x.1.1 y.1.1
theorem lt_cpz (x y : Zs) : Go.Proofs.ltOf cpz x y = decide (x.1.1 < y.1.1) := cpr_less x.1.1 y.1.1
theorem swo_cpz : Go.Sort.SWO (Go.Proofs.ltOf cpz) where
 irrefl x := by rw [lt_cpz]; simp
 trans x y z h1 h2 := by rw [lt_cpz] at *; simp at *; omega
 ntrans x y z h1 h2 := by rw [lt_cpz] at *; simp at *; omega
def zsl (Z : List Z5) (h : ∀ z ∈ Z, ∃ a k c, z.2.2.1 = Value.slice a k c) : List Zs := Z.pmap Subtype.mk h
theorem zsl_val (Z : List Z5) (h : ∀ z ∈ Z, ∃ a k c, z.2.2.1 = Value.slice a k c) : (zsl Z h).map (·.1) = Z := by
 unfold zsl
 rw [List.map_pmap, List.pmap_eq_map]
 simp
theorem flat_zc [Inhabited Zs] (L : List Zs) : (Go.Sort.flatK encZ 4 L.toArray).toList = zc (L.map (·.1)) := by
 apply List.ext_getElem
 ·simp [zc_len]
 ·intro t h1 h2
  have ht : t < L.length * 4 := by simpa using h1
  have hi : t / 4 < L.length := by omega
  have hi' : t / 4 < (L.map (·.1)).length := by simpa using hi
  have hl : (Go.Sort.flatK encZ 4 L.toArray).toList[t] = (encZ L[t / 4])[t % 4]! := by
   have hs : t < (Go.Sort.flatK encZ 4 L.toArray).size := by simpa using ht
   have := Go.Sort.get_flatK encZ 4 L.toArray t (by simpa using ht)
   rw [getElem!_pos _ t hs, getElem!_pos L.toArray (t / 4) (by simpa using hi)] at this
   simpa using this
  rw [hl]
  have e := zc_at (L.map (·.1)) (t / 4) hi'
  have hv : (L.map (·.1))[t / 4] = L[t / 4].1 := by simp
  rw [hv] at e
  obtain ⟨e0, e1, e2, e3⟩ := e
  have hm : t = t / 4 * 4 + t % 4 := by omega
  have hc : t % 4 = 0 ∨ t % 4 = 1 ∨ t % 4 = 2 ∨ t % 4 = 3 := by omega
  have key : ∀ {v : Value}, (zc (L.map (·.1)))[t]? = some v → v = (zc (L.map (·.1)))[t] := fun {v} hh => by
   rw [List.getElem?_eq_getElem h2] at hh
   exact (Option.some.inj hh).symm
  rcases hc with c | c | c | c
  ·rw [show t / 4 * 4 = t by omega] at e0
   rw [c, ← key e0]
   rfl
  ·rw [show t / 4 * 4 + 1 = t by omega] at e1
   rw [c, ← key e1]
   rfl
  ·rw [show t / 4 * 4 + 2 = t by omega] at e2
   rw [c, ← key e2]
   rfl
  ·rw [show t / 4 * 4 + 3 = t by omega] at e3
   rw [c, ← key e3]
   rfl
theorem heap_sortedV {w : World} {g n : Nat} {os : Array Obj} {cur : Array Value} {e : TypeId} {fr : Nat × Nat} (d : Array Value) (hb : w.heap[g]? = some (.cells cur e fr)) :
  (Go.Sort.grow (Go.Sort.putRow id (Go.Sort.ahead w n) g 0 d) os).heap[g]? = some (.cells (Go.Sort.putCells id 0 d cur) e fr) := by
 have hg : g < w.heap.size := (Array.getElem?_eq_some_iff.1 hb).1
 rw [Go.Sort.heap_grow_old _ _ (by simpa using hg)]
 simp [Go.Sort.putRow, Go.Sort.mapBlock, Go.Sort.ahead, Array.getElem?_modify, hb, Go.Sort.onCells]
theorem grownBy_sortedV {w : World} {g n : Nat} {os : Array Obj} (d : Array Value) : w.grownBy (Go.Sort.grow (Go.Sort.putRow id (Go.Sort.ahead w n) g 0 d) os) (some g) := by
 refine ⟨rfl, rfl, rfl, by simp, fun k hk hne => ?_⟩
 rw [Go.Sort.heap_grow_old _ _ (by simpa using hk)]
 have : g ≠ k := fun e => hne (by rw [e])
 simp [Go.Sort.putRow, Go.Sort.mapBlock, Go.Sort.ahead, Array.getElem?_modify, this]
theorem take_putCellsV (cur d : Array Value) (h : d.size ≤ cur.size) : (Go.Sort.putCells id 0 d cur).toList.take d.size = d.toList := by
 apply List.ext_getElem?
 intro j
 by_cases hj : j < d.size
 ·rw [List.getElem?_take_of_lt hj, Array.getElem?_toList]
  simp [Go.Sort.putCells, hj, show j < cur.size by omega]
 ·rw [List.getElem?_take_eq_none (by omega), List.getElem?_eq_none (by simp; omega)]
theorem sort9_any (B kb : Nat) (v : Value) (Z : List Z5) (w : World) (hn : Z.length ≤ 4194304) (hsl : ∀ z ∈ Z, ∃ a k c, z.2.2.1 = Value.slice a k c) (hrow : w.ownsRow B 37 4 v Z.length (zc Z)) (hk : Kd w kb 102 85 86) (hkb : v.ownBlock ≠ some kb) :
  Calls Tryz.prog 165 #[v, .func (.func 147) #[] #[.pointer (some ⟨kb, 0, none⟩)]] w fun e w' =>
   (∃ u, e = .returned u) ∧ ∃ Z' : List Z5, Z'.Perm Z ∧ Z'.Pairwise (fun x y => x.1 ≤ y.1) ∧ w'.ownsRow B 37 4 v Z'.length (zc Z') ∧ w.grownBy w' v.ownBlock := by
 have eg : ∀ args w, (callFunc 147 args).run Tryz.prog w = .ok (.enter 147 args) w := enters_of Tryz.func147 (by kernel_rfl) rfl
 haveI : Inhabited Zs := ⟨⟨(0, 0, .slice none 0 0, [], ⟨#[]⟩), _, _, _, rfl⟩⟩
 rcases hrow.2 with ⟨h1, h2⟩ | ⟨g, cap, cur, h1, h2, h3, h4, h5, h6, h7⟩
 ·obtain rfl : Z = [] := List.eq_nil_of_length_eq_zero h2
  subst h1
  have hc := Go.Proofs.AnyF.slices_SortFunc_none (P := Tryz.prog) (ρ := sortM_ren) sortM none 0 (.func (.func 147) #[] #[.pointer (some ⟨kb, 0, none⟩)]) w
  refine Calls.mono hc ?_
  rintro e w' ⟨rfl, rfl⟩
  exact ⟨⟨_, rfl⟩, [], List.Perm.refl _, List.Pairwise.nil, hrow, ⟨rfl, rfl, rfl, Nat.le_refl _, fun _ _ _ => rfl⟩⟩
 ·subst h1
  have hlt := (Array.getElem?_eq_some_iff.1 h3).1
  have hkg : kb ≠ g := fun e => hkb (by rw [e]; rfl)
  obtain ⟨L, hL⟩ : ∃ L : List Zs, L.map (·.1) = Z := ⟨zsl Z hsl, zsl_val Z hsl⟩
  have hLl : L.length = Z.length := by rw [← hL, List.length_map]
  have hH : Go.Sort.HoldsK encZ 4 w g 0 L.toArray := by
   intro j hj
   have hj4 : j < Z.length * 4 := by rw [← hLl]; simpa using hj
   have hzl : j < (zc Z).length := by rw [zc_len]; exact hj4
   refine ⟨?_, by simp [World.frozen?, h3]⟩
   have hx : (Go.Sort.flatK encZ 4 L.toArray)[j]! = (zc Z)[j] := by
    rw [getElem!_pos _ j hj]
    have e := flat_zc L
    rw [hL] at e
    have e2 : (Go.Sort.flatK encZ 4 L.toArray).toList[j]? = (zc Z)[j]? := by rw [e]
    rw [Array.getElem?_toList, Array.getElem?_eq_getElem hj, List.getElem?_eq_getElem hzl] at e2
    exact Option.some.inj e2
   rw [hx, Nat.zero_add, hrow.cellAt j (by omega), List.getElem?_eq_getElem hzl]
   rfl
  have hcmp : Go.Proofs.CmpLays Tryz.prog 147 #[.pointer (some ⟨kb, 0, none⟩)] encZ 4 cpz g 0 L.toArray.size w := by
   intro m os dk _ x y
   obtain ⟨⟨gx, ux, fx, lx, tx⟩, ax, kx, cx, hx⟩ := x
   obtain ⟨⟨gy, uy, fy, ly, ty⟩, ay, ky, cy, hy⟩ := y
   dsimp only at hx hy
   subst hx hy
   refine (cmp9_any kb gx ux ax kx cx tx gy uy ay ky cy ty _ ?_).mono ?_
   ·refine Eq.trans ?_ hk
    unfold Go.Proofs.sortWorldK
    rw [Go.Sort.heap_grow_old _ _ (by simpa [Go.Sort.putRowK] using hk.lt)]
    simp [Go.Sort.putRowK, Go.Sort.putRow, Go.Sort.mapBlock, Go.Sort.ahead, Array.getElem?_modify, Ne.symm hkg]
   ·rintro e w' ⟨rfl, q, os', rfl⟩
    exact ⟨rfl, q, os', rfl⟩
  have hc := Go.Proofs.AnyQ.slices_SortFunc sortM 4 Tryz.isAgg37 Tryz.sizeOf37 encZ (fun _ => rfl) (fun x v hv => by
    obtain ⟨⟨gx, ux, fx, lx, tx⟩, ax, kx, cx, hx⟩ := x
    dsimp only at hx
    subst hx
    simp [encZ] at hv
    rcases hv with rfl | rfl | rfl | rfl <;> rfl) cpz swo_cpz 147 #[.pointer (some ⟨kb, 0, none⟩)] g 0 cap L.toArray w eg hcmp hH hlt (by simp; omega)
  have hsz : L.toArray.size = Z.length := by simp [hLl]
  rw [hsz] at hc
  refine Calls.mono (show Calls Tryz.prog 165 #[.slice (some ⟨g, 0, none⟩) Z.length cap, _] w _ from hc) ?_
  rintro e w' ⟨rfl, d', n, os, hp, hs, rfl⟩
  have hd : d'.size = Z.length := by rw [hp.1, hsz]
  have hZl : (d'.toList.map (·.1)).length = Z.length := by rw [List.length_map, Array.length_toList, hd]
  have hfl := flat_zc d'.toList
  rw [Array.toArray_toList] at hfl
  have hfs : (Go.Sort.flatK encZ 4 d').size = Z.length * 4 := by simp [hd]
  refine ⟨⟨_, rfl⟩, d'.toList.map (·.1), ?_, ?_, ?_, ?_⟩
  ·have hp3 := hp.2.2
   have e1 : d'.extract 0 Z.length = d' := by rw [← hd]; simp
   have e2 : L.toArray.extract 0 Z.length = L.toArray := by rw [← hsz]; simp
   rw [e1, e2] at hp3
   rw [← hL]
   exact hp3.map _
  ·rw [List.pairwise_map, List.pairwise_iff_getElem]
   intro i j hi hj hij
   have hj' : j < d'.size := by simpa using hj
   have hi' : i < d'.size := by omega
   have h8 := hs i j (Nat.zero_le _) hij (by rw [← hd]; exact hj')
   rw [lt_cpz, getElem!_pos d' i hi', getElem!_pos d' j hj'] at h8
   have h9 : ¬ d'[j].1.1 < d'[i].1.1 := by simpa using h8
   simpa using h9
  ·rw [hZl]
   refine ⟨by rw [zc_len, hZl], .inr ⟨g, cap, _, rfl, h2, heap_sortedV _ h3, h4, h5, by simp [Go.Sort.putCells, h6], ?_⟩⟩
   rw [← hfl, ← hfs]
   exact take_putCellsV cur _ (by rw [hfs, h6]; exact Nat.mul_le_mul_right 4 h4)
  ·exact grownBy_sortedV _
set_option maxHeartbeats 1600000 in
theorem sorted9_any (kb Bm b c B : Nat) (E : List En) (w : World) (hN : E.length ≤ 4194304) (hBm : Bm < w.heap.size) (hm : w.cell? ⟨Bm, 0, none⟩ = some (.map (some b))) (hmp : Mp w B b E c) (hsl : ∀ e ∈ E, ∃ a k c, e.1.2.2.1 = Value.slice a k c) (hk : Kd w kb 102 85 86) :
  Calls Tryz.prog 145 #[.func (.func 166) #[] #[.pointer (some ⟨Bm, 0, none⟩)], .func (.func 147) #[] #[.pointer (some ⟨kb, 0, none⟩)]] w fun e w' =>
   ∃ v Z, e = .returned v ∧ Z.Perm (E.map (fun e => e.1)) ∧ Z.Pairwise (fun x y => x.1 ≤ y.1) ∧ w'.ownsRow w.heap.size 37 4 v Z.length (zc Z) ∧ Below w.heap.size w w' := by
 have HC := hid (collect9_any Bm b c B E w hN hBm hm hmp hsl)
 have HK := hid hk
 have HN := hid hN
 have HSL := hid hsl
 clear hBm hm hmp hN hk hsl
 go_enter Tryz.func145, Tryz.ntmps145
 go_wp2_with fail
 refine HC.out.mono ?_; rintro e w1 ⟨v, xs, rfl, h1, h2, h3⟩
 have hp := got_perm h1
 have hle : (got xs).length = E.length := by have := hp.length_eq; simpa using this
 have H2 := hid h2
 have H3 := hid h3
 have HP := hid hp
 have HLE := hid hle
 have HZS : Hid (∀ z ∈ got xs, ∃ a k c, z.2.2.1 = Value.slice a k c) := by
  intro z hz
  obtain ⟨e, he, rfl⟩ := List.mem_map.1 (hp.mem_iff.1 hz)
  exact HSL.out e he
 have HKB : Hid (v.ownBlock ≠ some kb) := fun e => by
  have h4 := (h2.lt kb e).1
  have h5 := HK.out.lt
  omega
 clear h1 h2 h3 hle hp
 go_wp2_with fail
 refine (sort9_any w.heap.size kb v (got xs) _ (by rw [HLE.out]; exact HN.out) HZS.out H2.out (HK.out.later H3.out) HKB.out).mono ?_; rintro e w2 ⟨⟨v2, rfl⟩, Z, g1, g2, g3, g4⟩
 have K1 := hid (g1.trans HP.out)
 have K2 := hid g2
 have K3 := hid g3
 have K4 : Hid (Below w.heap.size w w2) := H3.out.trans (below_grownR g4 (fun j hj => (H2.out.lt j hj).1) H3.out.size)
 clear g1 g2 g3 g4
 go_wp2
 go_ret
 exact ⟨v, Z, rfl, K1.out, K2.out, K3.out, K4.out⟩
set_option maxRecDepth 100000 in
set_option maxHeartbeats 1600000 in
theorem told9_any (b c B : Nat) (E : List En) (w : World) (hN : E.length ≤ 4194304) (hmp : Mp w B b E c) (hsl : ∀ e ∈ E, ∃ a k c, e.1.2.2.1 = Value.slice a k c) :
  Calls Tryz.prog 122 #[.agg #[.func (.func 85) #[] #[], .func (.func 86) #[] #[]], .map (some b)] w fun e w' =>
   ∃ v Z, e = .returned v ∧ Z.Perm (E.map (fun e => e.1)) ∧ Z.Pairwise (fun x y => x.1 ≤ y.1) ∧ w'.ownsRow w.heap.size 37 4 v Z.length (zc Z) ∧ Below w.heap.size w w' := by
 obtain ⟨W0, hW0⟩ : ∃ W0, w.alloc (.cells #[.func (.func 85) #[] #[], .func (.func 86) #[] #[]] 102) = W0 := ⟨_, rfl⟩
 have k0 : Kd W0 w.heap.size 102 85 86 := by subst hW0; exact heap_alloc_new w _
 have b0 : Below w.heap.size w W0 := by subst hW0; exact bpush (bre _) _
 have K0 := hid k0
 have B0 := hid b0
 have HM := hid hmp
 have HN := hid hN
 have HSL := hid hsl
 clear k0 b0 hmp hN hsl
 go_enter Tryz.func122, Tryz.ntmps122
 go_wp2_with fail
 clear hW0
 refine (values9_any b _).mono ?_; rintro e w4 ⟨rfl, h4⟩
 obtain ⟨W5, hW5⟩ : ∃ W5, W0.alloc (.cells #[.map (some b)] 114) = W5 := ⟨_, rfl⟩
 have b5 : Below W0.heap.size W0 W5 := by subst hW5; exact bpush (bre _) _
 have x5 : W5.heap[W0.heap.size]? = some (.cells #[.map (some b)] 114) := by subst hW5; exact heap_alloc_new W0 _
 rw [hW5] at h4
 subst h4
 have HC := hid (sorted9_any w.heap.size W0.heap.size b c B E w4 HN.out (Array.getElem?_eq_some_iff.1 x5).1 (cell_of_rowb x5) ((HM.out.later B0.out).later b5) HSL.out (K0.out.later b5))
 have H5 := hid b5
 clear hW5 b5 x5
 go_wp2_with fail
 refine HC.out.mono ?_; rintro e w6 ⟨v, Y, rfl, g1, g2, g3, g4⟩
 have G1 := hid g1
 have G2 := hid g2
 have HO := hid (own_base g3 (Nat.le_trans B0.out.size H5.out.size))
 have HBE := hid (btr B0.out (btr H5.out g4))
 clear g1 g2 g3 g4
 go_wp2
 go_ret
 exact ⟨v, Y, rfl, G1.out, G2.out, HO.out, HBE.out⟩
theorem fnd_snoc (g : Int) (P : List M4) (x : M4) : fnd g (P ++ [x]) = if fnd g P = none then (if x.1 = g then some x else none) else fnd g P := by
 induction P with
 | nil => simp [fnd]
 | cons y P ih =>
  rw [List.cons_append, fnd, fnd]
  by_cases h : y.1 = g
  ·simp [h]
  ·rw [if_neg h, if_neg h, ih]
theorem gm_cong {A P Q : List M4} {g : Int} (h : fnd g P = fnd g Q) : gm A P g = gm A Q g := by unfold gm; rw [h]
def Hd (A P : List M4) (M : List M4) : Prop := ∀ m, m ∈ M ↔ ¬ (fnd m.1 A = none ∧ fnd m.1 P = none) ∧ m = gm A P m.1
theorem Hd.step {A P M M' : List M4} {x z : M4} (h : Hd A P M) (hx : fnd x.1 P = none) (hz : z = gm A (P ++ [x]) x.1) (hM : ∀ m, m ∈ M' ↔ m = z ∨ (m ∈ M ∧ m.1 ≠ z.1)) : Hd A (P ++ [x]) M' := by
 have hf : fnd x.1 (P ++ [x]) = some x := by rw [fnd_snoc, if_pos hx, if_pos rfl]
 have hz1 : z.1 = x.1 := by
  rw [hz]
  exact gm_gid (by rw [hf]; simp)
 have ho : ∀ g, g ≠ x.1 → fnd g (P ++ [x]) = fnd g P := fun g hg => by
  rw [fnd_snoc]
  by_cases h : fnd g P = none
  ·rw [if_pos h, if_neg (fun e => hg e.symm), h]
  ·rw [if_neg h]
 intro m
 rw [hM]
 by_cases hm : m.1 = x.1
 ·constructor
  ·rintro (rfl | ⟨_, h2⟩)
   ·rw [hm, hf]
    exact ⟨by simp, hz⟩
   ·exact absurd (hm.trans hz1.symm) h2
  ·rintro ⟨_, h2⟩
   exact Or.inl (by rw [h2, hm, hz])
 ·rw [ho m.1 hm, gm_cong (ho m.1 hm), ← h m]
  constructor
  ·rintro (rfl | ⟨h1, _⟩)
   ·exact absurd hz1 hm
   ·exact h1
  ·exact fun h1 => Or.inr ⟨h1, fun e => hm (e.trans hz1)⟩
theorem lfE_perm_new {E2 ps : List En} {seen : Array Nat} {x : En} (hP : (ps ++ lfE E2 seen).Perm E2) (hk : (E2.map (fun e => e.1.1)).Nodup) (hx : x ∈ lfE E2 seen) : ∀ e ∈ ps, e.1.1 ≠ x.1.1 := by
 intro e he h
 have h1 := (hP.map (fun e => e.1.1)).nodup_iff.2 hk
 rw [List.map_append, List.nodup_append] at h1
 exact h1.2.2 _ (List.mem_map.2 ⟨e, he, rfl⟩) _ (List.mem_map.2 ⟨x, hx, rfl⟩) h
theorem fnd_none {g : Int} {P : List M4} (h : ∀ m ∈ P, m.1 ≠ g) : fnd g P = none := by
 induction P with
 | nil => rfl
 | cons y P ih =>
  rw [fnd, if_neg (h y (by simp))]
  exact ih (fun m hm => h m (by simp [hm]))
structure Jr (w W0 : World) (B b1 b2 r c2 : Nat) (Z : List Z5) (E2 : List En) (N : Nat) (wr : World) (seen : Array Nat) (ps E : List En) (c3 : Nat) : Prop where
 iter : wr.heap[r]? = some (.mapIter (some b2) c2 seen c2)
 map2 : wr.heap[b2]? = some (.map (E2.map ent).toArray c2)
 perm : (ps ++ lfE E2 seen).Perm E2
 mp : Mp wr W0.heap.size b1 E c3
 hd : Hd (Z.map md) (ps.map mde) (E.map mde)
 len : E.length ≤ N + ps.length
 each : ∀ e ∈ E, Ow wr B e.1.2.2.1 e.1.2.2.2.1
 apart : E.Pairwise fun x y => Dj x.1.2.2.1 y.1.2.2.1
 rest : ∀ e ∈ E, ∀ x ∈ lfE E2 seen, Dj e.1.2.2.1 x.1.2.2.1
 kind : Kd wr w.heap.size 102 85 86
 below : Below w.heap.size w wr
theorem apart_of {E : List En} (hk : (E.map (fun e => e.1.1)).Nodup) (h : ∀ x ∈ E, ∀ y ∈ E, x.1.1 ≠ y.1.1 → Dj x.1.2.2.1 y.1.2.2.1) : E.Pairwise fun x y => Dj x.1.2.2.1 y.1.2.2.1 := by
 have h1 : E.Pairwise (fun x y => x.1.1 ≠ y.1.1) := List.pairwise_map.1 hk
 exact List.Pairwise.imp_of_mem (fun {a b} ha hb hab => h a ha b hb hab) h1
theorem apart_at {E : List En} (h : E.Pairwise fun x y => Dj x.1.2.2.1 y.1.2.2.1) {x y : En} (hx : x ∈ E) (hy : y ∈ E) (hne : x.1.1 ≠ y.1.1) : Dj x.1.2.2.1 y.1.2.2.1 := by
 obtain ⟨i, hi, rfl⟩ := List.mem_iff_getElem.1 hx
 obtain ⟨j, hj, rfl⟩ := List.mem_iff_getElem.1 hy
 rcases Nat.lt_trichotomy i j with e | e | e
 ·exact (List.pairwise_iff_getElem.1 h) i j hi hj e
 ·subst e; exact absurd rfl hne
 ·exact ((List.pairwise_iff_getElem.1 h) j i hj hi e).symm
theorem Jr.next {w W0 wr W5 : World} {B b1 b2 r c2 N c3 c5 : Nat} {Z : List Z5} {E2 ps E E5 : List En} {seen : Array Nat} {x : En} {z : Z5} (h : Jr w W0 B b1 b2 r c2 Z E2 N wr seen ps E c3) (hx : x ∈ lfE E2 seen) (hk : (E2.map (fun e => e.1.1)).Nodup) (hb : (E2.map (·.2)).Nodup)
  (hz : md z = gm (Z.map md) (ps.map mde ++ [mde x]) x.1.1) (hoz : Ow W5 B z.2.2.1 z.2.2.2.1) (hdz : ∀ e ∈ E, e.1.1 ≠ z.1 → Dj z.2.2.1 e.1.2.2.1) (hdr : ∀ y ∈ lfE E2 (seen.push x.2), Dj z.2.2.1 y.1.2.2.1)
  (hkeep : ∀ k, k < wr.heap.size → k ≠ r → k ≠ b1 → W5.heap[k]? = wr.heap[k]?) (hbl : Below w.heap.size w W5) (hr : r ≠ b1) (hr2 : b2 ≠ r) (hr3 : b2 ≠ b1) (hw : w.heap.size ≠ r) (hw1 : w.heap.size ≠ b1)
  (hit : W5.heap[r]? = some (.mapIter (some b2) c2 (seen.push x.2) c2)) (hmp : Mp W5 W0.heap.size b1 E5 c5) (hE5 : ∀ y, y ∈ E5.map (·.1) ↔ y = z ∨ (y ∈ E.map (·.1) ∧ y.1 ≠ z.1)) (hlen : E5.length ≤ E.length + 1) :
  Jr w W0 B b1 b2 r c2 Z E2 N W5 (seen.push x.2) (ps ++ [x]) E5 c5 := by
 have hown : ∀ e ∈ E, Ow W5 B e.1.2.2.1 e.1.2.2.2.1 := fun e he => ow_same (h.each e he) (fun j hj => by
   refine hkeep j ((h.each e he).lt j hj).2 (fun e' => ?_) (fun e' => ?_)
   · subst e'
     rcases (h.each e he).2 with ⟨h1, _⟩ | ⟨g, cap, cur, h1, h2, h3, _⟩
     · rw [h1] at hj; simp [Value.ownBlock] at hj
     · rw [h1] at hj
       simp only [Value.ownBlock, Option.some.injEq] at hj
       rw [hj, h.iter] at h3
       simp at h3
   · subst e'
     rcases (h.each e he).2 with ⟨h1, _⟩ | ⟨g, cap, cur, h1, h2, h3, _⟩
     · rw [h1] at hj; simp [Value.ownBlock] at hj
     · rw [h1] at hj
       simp only [Value.ownBlock, Option.some.injEq] at hj
       rw [hj, h.mp.lies] at h3
       simp at h3)
 have hmem : ∀ e ∈ E5, e.1 = z ∨ ∃ e' ∈ E, e'.1 = e.1 ∧ e.1.1 ≠ z.1 := fun e he => by
  rcases (hE5 e.1).1 (List.mem_map.2 ⟨e, he, rfl⟩) with h1 | ⟨h1, h2⟩
  ·exact Or.inl h1
  ·obtain ⟨e', he', h3⟩ := List.mem_map.1 h1
   exact Or.inr ⟨e', he', h3, h2⟩
 have hsub : ∀ y ∈ lfE E2 (seen.push x.2), y ∈ lfE E2 seen := fun y hy => by
  rw [lf_push] at hy
  exact (List.mem_filter.1 hy).1
 refine ⟨hit, (hkeep b2 (Array.getElem?_eq_some_iff.1 h.map2).1 hr2 hr3).trans h.map2, ?_, hmp, ?_, ?_, ?_, ?_, ?_, (hkeep _ h.kind.lt hw hw1).trans h.kind, hbl⟩
 ·rw [lf_push, List.append_assoc]
  exact List.Perm.trans (List.Perm.append_left _ (perm_out _ _ hx (lf_nodup hb seen))) h.perm
 ·rw [List.map_append]
  refine Hd.step h.hd (x := mde x) (z := md z) ?_ hz (fun m => ?_)
  ·exact fnd_none (fun m hm => by
     obtain ⟨e, he, rfl⟩ := List.mem_map.1 hm
     exact lfE_perm_new h.perm hk hx e he)
  ·constructor
   ·intro hm
    obtain ⟨e, he, rfl⟩ := List.mem_map.1 hm
    rcases hmem e he with h1 | ⟨e', h1, h2, h3⟩
    ·exact Or.inl (by unfold mde; rw [h1])
    ·exact Or.inr ⟨List.mem_map.2 ⟨e', h1, by unfold mde; rw [h2]⟩, h3⟩
   ·rintro (rfl | ⟨hm, hne⟩)
    ·obtain ⟨e, he, h1⟩ := List.mem_map.1 ((hE5 z).2 (Or.inl rfl))
     exact List.mem_map.2 ⟨e, he, by unfold mde; rw [h1]⟩
    ·obtain ⟨e, he, rfl⟩ := List.mem_map.1 hm
     obtain ⟨e', he', h1⟩ := List.mem_map.1 ((hE5 e.1).2 (Or.inr ⟨List.mem_map.2 ⟨e, he, rfl⟩, hne⟩))
     exact List.mem_map.2 ⟨e', he', by unfold mde; rw [h1]⟩
 ·have := h.len
  rw [List.length_append]
  simp only [List.length_cons, List.length_nil]
  omega
 ·intro e he
  rcases hmem e he with h1 | ⟨e', h1, h2, h3⟩
  ·rw [h1]; exact hoz
  ·rw [← h2]; exact hown e' h1
 ·refine apart_of hmp.keys (fun a ha b hb' hab => ?_)
  rcases hmem a ha with h1 | ⟨a', h1, h2, h3⟩
  ·rcases hmem b hb' with k1 | ⟨b', k1, k2, k3⟩
   ·exact absurd (by rw [h1, k1]) hab
   ·rw [h1, ← k2]; exact hdz b' k1 (by rw [k2]; exact k3)
  ·rcases hmem b hb' with k1 | ⟨b', k1, k2, k3⟩
   ·rw [k1, ← h2]; exact (hdz a' h1 (by rw [h2]; exact h3)).symm
   ·rw [← h2, ← k2]
    exact apart_at h.apart h1 k1 (by rw [h2, k2]; exact hab)
 ·intro e he y hy
  rcases hmem e he with h1 | ⟨e', h1, h2, h3⟩
  ·rw [h1]; exact hdr y hy
  ·rw [← h2]; exact h.rest e' h1 y (hsub y hy)
theorem zs_of {W : World} {B : Nat} {v : Value} {l : List R3} (h : Ow W B v l) : ∃ a k c, v = Value.slice a k c := by
 obtain ⟨a, c, e, _⟩ := Ow.shape h
 exact ⟨a, _, c, e⟩
theorem mem_dj {Z : List Z5} (h : Z.Pairwise fun x y => Dj x.2.2.1 y.2.2.1) {x y : Z5} (hx : x ∈ Z) (hy : y ∈ Z) (hne : x.1 ≠ y.1) : Dj x.2.2.1 y.2.2.1 := by
 obtain ⟨i, hi, rfl⟩ := List.mem_iff_getElem.1 hx
 obtain ⟨j, hj, rfl⟩ := List.mem_iff_getElem.1 hy
 rcases Nat.lt_trichotomy i j with e | e | e
 ·exact (List.pairwise_iff_getElem.1 h) i j hi hj e
 ·subst e; exact absurd rfl hne
 ·exact ((List.pairwise_iff_getElem.1 h) j i hj hi e).symm
theorem Ow.rs8 {W : World} {B n c : Nat} {a : Option Addr} {l : List R3} (h : Ow W B (.slice a n c) l) : l.length = n ∧ Rs W a l ∧ (a = none → c = 0) := by
 obtain ⟨a', c', e, h0⟩ := Ow.shape h
 simp only [Value.slice.injEq] at e
 obtain ⟨rfl, rfl, rfl⟩ := e
 refine ⟨rfl, h0, fun e => ?_⟩
 rcases h.2 with ⟨h1, _⟩ | ⟨q, cap, cur, h1, _⟩
 ·simp only [Value.slice.injEq] at h1
  exact h1.2.2
 ·rw [e] at h1
  simp at h1
theorem key_inj {α β : Type} {f : α → β} {E : List α} (h : (E.map f).Nodup) {x y : α} (hx : x ∈ E) (hy : y ∈ E) (e : f x = f y) : x = y := by
 induction E with
 | nil => cases hx
 | cons z E ih =>
  rw [List.map_cons, List.nodup_cons] at h
  rcases List.mem_cons.1 hx with h1 | h1
  ·rcases List.mem_cons.1 hy with h2 | h2
   ·rw [h1, h2]
   ·exact absurd (show f z ∈ E.map f from List.mem_map.2 ⟨y, h2, by rw [← h1]; exact e.symm⟩) h.1
  ·rcases List.mem_cons.1 hy with h2 | h2
   ·exact absurd (show f z ∈ E.map f from List.mem_map.2 ⟨x, h1, by rw [← h2]; exact e⟩) h.1
   ·exact ih h.2 h1 h2
set_option maxRecDepth 100000 in
set_option maxHeartbeats 4000000 in
theorem joined9_any (B : Nat) (a : Option Addr) (n c : Nat) (Z : List Z5) (a' : Option Addr) (n' c' : Nat) (Z' : List Z5) (w : World) (hB : B ≤ w.heap.size) (hl : Z.length = n) (hn : n ≤ 1048576) (ho : OwZ w B (.slice a n c) Z) (hsm : Sm (Z.map md)) (hl' : Z'.length = n') (hn' : n' ≤ 1048576) (ho' : OwZ w B (.slice a' n' c') Z') (hsm' : Sm (Z'.map md)) (hdj : ∀ z ∈ Z, ∀ z' ∈ Z', Dj z.2.2.1 z'.2.2.1) :
  Calls Tryz.prog 87 #[.agg #[.func (.func 85) #[] #[], .func (.func 86) #[] #[]], .slice a n c, .slice a' n' c'] w fun e w' =>
   ∃ v Y, e = .returned v ∧ OwZ w' B v Y ∧ Y.map md = (asl ((Z.map md).map (·.1) ++ (Z'.map md).map (·.1))).map (gm (Z.map md) (Z'.map md)) ∧ Below w.heap.size w w' := by
 obtain ⟨W0, hW0⟩ : ∃ W0, w.alloc (.cells #[.func (.func 85) #[] #[], .func (.func 86) #[] #[]] 102) = W0 := ⟨_, rfl⟩
 have k0 : Kd W0 w.heap.size 102 85 86 := by subst hW0; exact heap_alloc_new w _
 have b0 : Below w.heap.size w W0 := by subst hW0; exact bpush (bre _) _
 have K0 := hid k0
 have B0 := hid b0
 have HO := hid ho
 have HO' := hid ho'
 have HSM := hid hsm
 have HSM' := hid hsm'
 have HDJ := hid hdj
 have HL := hid hl
 have HL' := hid hl'
 have HBB := hid hB
 have c0 := k0.cells
 have HZ := hid (ho.zr.later b0)
 have HZ' := hid (ho'.zr.later b0)
 clear k0 b0 ho ho' hsm hsm' hdj hl hl' hB
 go_enter Tryz.func87, Tryz.ntmps87
 go_wp2_with fail
 clear hW0 c0
 refine (firsts9_any _ _ a n c Z _ HL.out hn HZ.out HO.out.sl).mono ?_; rintro e w1 ⟨b1, E1, c1, rfl, m1, e1, n1, p1⟩
 have M1 := hid m1
 have E1H := hid e1
 have N1 := hid n1
 have P1 := hid p1
 have c0 := (K0.out.later p1).cells
 clear m1 e1 n1 p1
 go_wp2_with fail
 clear c0
 refine (firsts9_any _ _ a' n' c' Z' _ HL'.out hn' (HZ'.out.later P1.out) HO'.out.sl).mono ?_; rintro e w2 ⟨b2, E2, c2, rfl, m2, e2, n2, p2⟩
 have M2 := hid m2
 have E2H := hid e2
 have N2 := hid n2
 have P2 := hid p2
 have hrg := run_range_mp m2.lies
 clear m2 e2 n2 p2
 have HOL : Hid (∀ x ∈ ((E2.map ent).toArray).toList, x.born < c2) := by
  intro x hx
  rw [List.toList_toArray] at hx
  obtain ⟨e, he, rfl⟩ := List.mem_map.1 hx
  exact M2.out.old e he
 have HBN : Hid ((((E2.map ent).toArray).toList.map (·.born)).Nodup) := by
  show List.Nodup _
  rw [List.toList_toArray, List.map_map]
  exact M2.out.births
 have HB2 : Hid (b1 < w1.heap.size ∧ w1.heap.size ≤ b2 ∧ b2 < w2.heap.size ∧ w.heap.size < W0.heap.size ∧ W0.heap.size ≤ b1) := ⟨M1.out.lt, M2.out.base, M2.out.lt, K0.out.lt, M1.out.base⟩
 have HM1 : Hid (∀ e ∈ E1, e.1 ∈ Z) := fun e he => (fdz_mem ((E1H.out e.1).1 (List.mem_map.2 ⟨e, he, rfl⟩))).1
 have HM2 : Hid (∀ e ∈ E2, e.1 ∈ Z') := fun e he => (fdz_mem ((E2H.out e.1).1 (List.mem_map.2 ⟨e, he, rfl⟩))).1
 have eg : ∀ args w, (callFunc 86 args).run Tryz.prog w = .ok (.enter 86 args) w := enters_of Tryz.func86 (by kernel_rfl) rfl
 go_wp2
 clear hrg
 go_loopw [19] (fun _ wr => ∃ (seen : Array Nat) (ps E : List En) (c3 : Nat), Jr w W0 B b1 b2 w2.heap.size c2 Z E2 n wr seen ps E c3) (fun _ wr => lft b2 w2.heap.size wr)
 case atStart =>
  have hp : Below W0.heap.size W0 (w2.alloc (.mapIter (some b2) c2 #[] c2)) := bpush (btr P1.out P2.out) _
  have hpw : Below w.heap.size w (w2.alloc (.mapIter (some b2) c2 #[] c2)) := btr B0.out hp
  have h0 : lfE E2 #[] = E2 := by unfold lfE; rw [List.filter_eq_self.2]; simp
  refine ⟨#[], [], E1, c1, heap_alloc_new w2 _, (Below.heap_alloc _ _ b2 HB2.out.2.2.1).trans M2.out.lies, by rw [h0]; exact List.Perm.refl _, M1.out.later (bpush P2.out _), ?_, by have := N1.out; simp; omega, fun e he => own_later (HO.out.each e.1 (HM1.out e he)) hpw, ?_, fun e he x hx => HDJ.out _ (HM1.out e he) _ (HM2.out x (by rw [h0] at hx; exact hx)), K0.out.later hp, hpw⟩
  ·intro m
   have key : gm (Z.map md) ([].map mde) m.1 = (fnd m.1 (Z.map md)).getD (0, 0, [], ⟨#[]⟩) := by
    unfold gm
    cases fnd m.1 (Z.map md) <;> rfl
   rw [key, fdz_md]
   constructor
   ·intro hm
    obtain ⟨e, he, rfl⟩ := List.mem_map.1 hm
    have h1 := (E1H.out e.1).1 (List.mem_map.2 ⟨e, he, rfl⟩)
    have h2 : fdz (mde e).1 Z = some e.1 := h1
    rw [h2]
    exact ⟨by simp, rfl⟩
   ·rintro ⟨h1, h2⟩
    cases h3 : fdz m.1 Z with
    | none => exact absurd ⟨by rw [h3]; rfl, rfl⟩ h1
    | some z =>
     rw [h3] at h2
     have hz : m = md z := h2
     have h4 := (fdz_mem h3).2
     obtain ⟨e, he, h5⟩ := List.mem_map.1 ((E1H.out z).2 (by rw [h4]; exact h3))
     exact List.mem_map.2 ⟨e, he, by rw [hz]; unfold mde; rw [h5]⟩
  ·exact apart_of M1.out.keys (fun x hx y hy hne => mem_dj HO.out.apart (HM1.out x hx) (HM1.out y hy) hne)
 case round =>
  obtain ⟨seen, ps, E, c3, hJ⟩ := hrel
  have HJ := hid hJ
  have hnx := run_next_at (P := Tryz.prog) wr 0 w2.heap.size b2 c2 c2 seen (E2.map ent).toArray c2 hJ.iter hJ.map2 HOL.out (Nat.le_refl _)
  rw [lf_of] at hnx
  clear hJ
  rcases hnx with ⟨hz, hrun⟩ | ⟨e, he, w3, hw3, hrun⟩
  ·have HZE : Hid (lfE E2 seen = []) := by
    show _ = _
    rw [List.size_toArray, List.length_map] at hz
    exact List.eq_nil_of_length_eq_zero hz
   clear hz
   have ck := HJ.out.kind.cells
   go_wp2_with fail
   clear hrun ck
   have HPP : Hid (ps.Perm E2) := by
    have := HJ.out.perm
    rwa [HZE.out, List.append_nil] at this
   have HLEN : Hid (E.length ≤ 4194304) := by
    have h1 := HJ.out.len
    have h2 := HPP.out.length_eq
    have h4 := N2.out
    show _ ≤ _
    omega
   have HFN : Hid (∀ x, fnd x (ps.map mde) = fnd x (Z'.map md)) := by
    intro x
    rw [fdz_md]
    cases h3 : fdz x Z' with
    | none =>
     refine fnd_none (fun m hm hmx => ?_)
     obtain ⟨e, he, rfl⟩ := List.mem_map.1 hm
     have h4 := (E2H.out e.1).1 (List.mem_map.2 ⟨e, HPP.out.mem_iff.1 he, rfl⟩)
     rw [show e.1.1 = x from hmx, h3] at h4
     cases h4
    | some z =>
     have hzx := (fdz_mem h3).2
     obtain ⟨e, he, h5⟩ := List.mem_map.1 ((E2H.out z).2 (by rw [hzx]; exact h3))
     have hm : mde e ∈ ps.map mde := List.mem_map.2 ⟨e, HPP.out.mem_iff.2 he, rfl⟩
     have h6 : (mde e).1 = x := by show e.1.1 = x; rw [h5, hzx]
     have h7 := fnd_one (L := ps.map mde) (fun a ha b hb hab => by
       obtain ⟨ea, hea, rfl⟩ := List.mem_map.1 ha
       obtain ⟨eb, heb, rfl⟩ := List.mem_map.1 hb
       rw [key_inj M2.out.keys (HPP.out.mem_iff.1 hea) (HPP.out.mem_iff.1 heb) hab]) hm
     rw [h6] at h7
     rw [h7]
     show some (md e.1) = some (md z)
     rw [h5]
   refine (told9_any b1 c3 W0.heap.size E wr HLEN.out HJ.out.mp (fun e he => zs_of (HJ.out.each e he))).mono ?_; rintro e w6 ⟨v, Y, rfl, g1, g2, g3, g4⟩
   have hb6 : Below wr.heap.size wr w6 := g4
   have HOY : Hid (OwZ w6 B v Y) := by
    refine ⟨own_base g3 (Nat.le_trans HBB.out HJ.out.below.size), fun z hz => ?_, fun z hz j hj hj' => ?_, ?_⟩
    ·obtain ⟨e, he, rfl⟩ := List.mem_map.1 (g1.mem_iff.1 hz)
     exact own_later (HJ.out.each e he) hb6
    ·obtain ⟨e, he, rfl⟩ := List.mem_map.1 (g1.mem_iff.1 hz)
     have k1 := ((HJ.out.each e he).lt j hj').2
     have k2 := (g3.lt j hj).1
     omega
    ·refine (g1.pairwise_iff (fun h => h.symm)).2 ?_
     exact List.pairwise_map.2 HJ.out.apart
   have HYM : Hid (Y.map md = (asl ((Z.map md).map (·.1) ++ (Z'.map md).map (·.1))).map (gm (Z.map md) (Z'.map md))) := by
    have hmem : ∀ m, m ∈ Y.map md ↔ ¬ (fnd m.1 (Z.map md) = none ∧ fnd m.1 (Z'.map md) = none) ∧ m = gm (Z.map md) (Z'.map md) m.1 := fun m => by
     rw [← HFN.out m.1, ← gm_cong (A := Z.map md) (HFN.out m.1), ← HJ.out.hd m, (g1.map md).mem_iff, List.map_map]
     rfl
    have hgid : ∀ g ∈ asl ((Z.map md).map (·.1) ++ (Z'.map md).map (·.1)), (gm (Z.map md) (Z'.map md) g).1 = g := fun g hg => gm_gid (gids_have hg)
    refine strict_same (R := fun x y : M4 => x.1 < y.1) (fun x y h1 h2 => by omega) ?_ ?_ (fun m => ?_)
    ·have hle : (Y.map md).Pairwise (fun x y => x.1 ≤ y.1) := List.pairwise_map.2 g2
     have hnd : (Y.map md).Pairwise (fun x y => x.1 ≠ y.1) := by
      have h1 : ((E.map (fun e => e.1)).map (fun z => z.1)).Nodup := by rw [List.map_map]; exact HJ.out.mp.keys
      have h2 : (Y.map (fun z => z.1)).Nodup := (g1.map (fun z => z.1)).nodup_iff.2 h1
      exact List.pairwise_map.2 (List.pairwise_map.1 h2)
     exact (hle.and hnd).imp (fun {a b} h => by have h1 := h.1; have h2 := h.2; omega)
    ·refine List.pairwise_map.2 (List.Pairwise.imp_of_mem (fun {a b} ha hb hab => ?_) (asl_asc _))
     rw [hgid a ha, hgid b hb]
     exact hab
    ·rw [hmem m]
     constructor
     ·rintro ⟨h1, h2⟩
      refine List.mem_map.2 ⟨m.1, ?_, h2.symm⟩
      rw [asl_mem, List.mem_append]
      by_cases h3 : fnd m.1 (Z.map md) = none
      ·right
       cases h4 : fnd m.1 (Z'.map md) with
       | none => exact absurd ⟨h3, h4⟩ h1
       | some x => exact List.mem_map.2 ⟨x, (fnd_mem h4).1, (fnd_mem h4).2⟩
      ·left
       cases h4 : fnd m.1 (Z.map md) with
       | none => exact absurd h4 h3
       | some x => exact List.mem_map.2 ⟨x, (fnd_mem h4).1, (fnd_mem h4).2⟩
     ·intro hm
      obtain ⟨g, hg, rfl⟩ := List.mem_map.1 hm
      rw [hgid g hg]
      exact ⟨gids_have hg, rfl⟩
   have HBE := hid (HJ.out.below.trans (hb6.mono HJ.out.below.size))
   clear g1 g2 g3 g4 hb6
   go_wp2
   go_ret
   exact ⟨v, Y, rfl, HOY.out, HYM.out, HBE.out⟩
  ·rw [List.toList_toArray] at he
   obtain ⟨x, hx, rfl⟩ := List.mem_map.1 he
   have hxE : x ∈ E2 := (List.mem_filter.1 hx).1
   have HXL := hid hx
   have hwh : w3.heap = wr.heap := by rcases hw3 with rfl | rfl <;> rfl
   have hr1 : w3.heap[w2.heap.size]? = some (.mapIter (some b2) c2 seen c2) := by rw [hwh]; exact HJ.out.iter
   obtain ⟨W2, hW2⟩ : ∃ W2, setBlock w3 w2.heap.size (.mapIter (some b2) c2 (seen.push x.2) c2) = W2 := ⟨_, rfl⟩
   have hg2 : wr.grownBy W2 (some w2.heap.size) := by
    subst hW2
    have hlt := (Array.getElem?_eq_some_iff.1 hr1).1
    refine ⟨?_, ?_, ?_, ?_, ?_⟩
    ·rcases hw3 with rfl | rfl <;> rfl
    ·rcases hw3 with rfl | rfl <;> rfl
    ·rcases hw3 with rfl | rfl <;> rfl
    ·simp [setBlock, hwh]
    ·intro k hk hne
     simp only [setBlock, hwh]
     exact Array.getElem?_setIfInBounds_ne (fun e => hne (by rw [e]))
   have hr2 : W2.heap[w2.heap.size]? = some (.mapIter (some b2) c2 (seen.push x.2) c2) := by
    subst hW2
    simp only [setBlock]
    rw [Array.getElem?_setIfInBounds_self_of_lt (Array.getElem?_eq_some_iff.1 hr1).1]
   have hlt2 := HB2.out
   have hb2 : W2.heap[b2]? = some (.map (E2.map ent).toArray c2) := (hg2.block b2 (Array.getElem?_eq_some_iff.1 HJ.out.map2).1 (fun e => by simp at e; omega)).trans HJ.out.map2
   have hen := run_entry_at (P := Tryz.prog) W2 w2.heap.size b2 c2 seen (E2.map ent).toArray c2 (ent x) hr2 hb2 (by rw [List.toList_toArray]; exact List.mem_map.2 ⟨x, hxE, rfl⟩) HBN.out
   have hrun' : (Instr.next (.pointer (some ⟨w2.heap.size, 0, none⟩)) false 0).run Tryz.prog wr = .ok (.tuple #[.bool true, .int .i64 x.1.1, zv x.1]) W2 := by rw [← hW2]; exact hrun
   have hen' : (Instr.entry (.pointer (some ⟨w2.heap.size, 0, none⟩))).run Tryz.prog W2 = .ok (.tuple #[.int .i64 x.1.1, zv x.1]) W2 := hen
   have hM2 : Mp W2 W0.heap.size b1 E c3 := HJ.out.mp.same (hg2.block b1 HJ.out.mp.lt (fun e => by simp at e; omega))
   have hK2 : Kd W2 w.heap.size 102 85 86 := HJ.out.kind.grown hg2 (fun e => by simp at e; omega)
   have HXZ := hid (HM2.out x hxE)
   have HG2 := hid hg2
   have HR2 := hid hr2
   have HM2' := hid hM2
   have HK2 := hid hK2
   clear hrun hen hr2 hb2 hg2 hW2 hr1 hwh hw3 hx he w3 hlt2 hM2 hK2
   obtain ⟨⟨g, u, f, fl, t⟩, bo⟩ := x
   have hox := own_later (HO'.out.each _ HXZ.out) HJ.out.below
   dsimp only at hox hrun' hen'
   obtain ⟨fa, fn', fc, hf⟩ := zs_of hox
   subst hf
   have HOX := hid hox
   clear hox
   dsimp only [zv] at hrun' hen'
   obtain ⟨W3, hW3⟩ : ∃ W3, W2.alloc (.cells #[.int .i64 g, .int .i64 u, .slice fa fn' fc, .string t] 37) = W3 := ⟨_, rfl⟩
   have b3 : Below W2.heap.size W2 W3 := by subst hW3; exact bpush (bre _) _
   have T3 : Mg W3 W2.heap.size 37 g u (.slice fa fn' fc) t := by subst hW3; exact Mg.new _ _ _ _ _ _
   have hask := (HM2'.out.later b3).ask g
   have HB3 := hid b3
   have HT3 := hid T3
   have ct := T3.cells
   clear b3 T3
   have NEXT : Hid (∀ (W5 : World) (E5 : List En) (c5 : Nat) (z : Z5), W2.grownBy W5 (some b1) → Mp W5 W0.heap.size b1 E5 c5 → md z = gm (Z.map md) (ps.map mde ++ [(g, u, fl, t)]) g → Ow W5 B z.2.2.1 z.2.2.2.1 → (∀ e ∈ E, e.1.1 ≠ z.1 → Dj z.2.2.1 e.1.2.2.1) → (∀ y ∈ lfE E2 (seen.push bo), Dj z.2.2.1 y.1.2.2.1) →
       (∀ y, y ∈ E5.map (·.1) ↔ y = z ∨ (y ∈ E.map (·.1) ∧ y.1 ≠ z.1)) → E5.length ≤ E.length + 1 → (∃ (seen : Array Nat) (ps E : List En) (c3 : Nat), Jr w W0 B b1 b2 w2.heap.size c2 Z E2 n W5 seen ps E c3) ∧ lft b2 w2.heap.size W5 < lft b2 w2.heap.size wr) := by
    intro W5 E5 c5 z hg hmp hz hoz hdz hdr hE5 hlen
    have hlt := HB2.out
    have hr5 : W5.heap[w2.heap.size]? = some (.mapIter (some b2) c2 (seen.push bo) c2) := (hg.block _ (Array.getElem?_eq_some_iff.1 HR2.out).1 (fun e => by simp at e; omega)).trans HR2.out
    have hJ5 := HJ.out.next HXL.out M2.out.keys M2.out.births hz hoz hdz hdr
     (fun k hk h1 h2 => (hg.block k (Nat.lt_of_lt_of_le hk HG2.out.size) (fun e => h2 (by cases e; rfl))).trans (HG2.out.block k hk (fun e => h1 (by cases e; rfl))))
     ((HJ.out.below.trans (below_of_grown HG2.out (by omega) HJ.out.below.size)).trans (below_of_grown hg (by omega) (Nat.le_trans HJ.out.below.size HG2.out.size)))
     (by omega) (by omega) (by omega) (by omega) (by omega) hr5 hmp hE5 hlen
    refine ⟨⟨_, _, _, _, hJ5⟩, ?_⟩
    unfold lft
    rw [hr5, hJ5.map2, HJ.out.iter, HJ.out.map2]
    dsimp only
    rw [lf_of, lf_of, List.size_toArray, List.size_toArray, List.length_map, List.length_map, lf_push]
    have := (perm_out _ _ HXL.out (lf_nodup M2.out.births seen)).length_eq
    rw [List.length_cons] at this
    exact Nat.lt_of_succ_le (Nat.le_of_eq this)
   have HPN : Hid (fnd g (ps.map mde) = none) := fnd_none (fun m hm => by
     obtain ⟨e, he, rfl⟩ := List.mem_map.1 hm
     exact lfE_perm_new HJ.out.perm M2.out.keys HXL.out e he)
   have HSN : Hid (fnd g (ps.map mde ++ [(g, u, fl, t)]) = some (g, u, fl, t)) := by
    show _ = _
    rw [fnd_snoc, if_pos HPN.out, if_pos rfl]
   have HXO : Hid (∀ y ∈ lfE E2 (seen.push bo), Dj (.slice fa fn' fc) y.1.2.2.1) := fun y hy => by
    rw [lf_push] at hy
    obtain ⟨h1, h2⟩ := List.mem_filter.1 hy
    have hyE : y ∈ E2 := (List.mem_filter.1 h1).1
    have hne : ((g, u, Value.slice fa fn' fc, fl, t) : Z5).1 ≠ y.1.1 := fun e => by
     have hnd := M2.out.keys
     have h3 : y = ((g, u, Value.slice fa fn' fc, fl, t), bo) := key_inj hnd hyE hxE e.symm
     rw [h3] at h2
     simp at h2
    exact mem_dj HO'.out.apart HXZ.out (HM2.out y hyE) hne
   rcases hask with ⟨hno, hlk⟩ | ⟨z, hz, hzg, hlk⟩
   ·obtain ⟨W4, hW4⟩ : ∃ W4, W3.alloc (.cells #[.int .i64 0, .int .i64 0, .slice none 0 0, .string ⟨#[]⟩] 37) = W4 := ⟨_, rfl⟩
    have b4 : Below W2.heap.size W2 W4 := by subst hW4; exact bpush HB3.out _
    have b34 : Below W3.heap.size W3 W4 := by subst hW4; exact bpush (bre _) _
    have ct4 := (HT3.out.later b34).cells
    obtain ⟨W5, E5, c5, hput, hM5, hE5, hEl5, hg5⟩ := (HM2'.out.later b4).put (g, u, .slice fa fn' fc, fl, t)
    dsimp only [zv] at hput
    have hfa : fnd g (Z.map md) = none := by
     by_cases h : fnd g (Z.map md) = none
     ·exact h
     ·exfalso
      have hm := (HJ.out.hd (gm (Z.map md) (ps.map mde) g)).2 (by
        have hg1 : (gm (Z.map md) (ps.map mde) g).1 = g := gm_gid (fun hh => h hh.1)
        rw [hg1]
        exact ⟨fun hh => h hh.1, rfl⟩)
      obtain ⟨e, he, h1⟩ := List.mem_map.1 hm
      have hg1 : (gm (Z.map md) (ps.map mde) g).1 = g := gm_gid (fun hh => h hh.1)
      exact hno e he (by rw [← hg1, ← h1]; rfl)
    have HREL := hid (NEXT.out W5 E5 c5 (g, u, .slice fa fn' fc, fl, t) ⟨hg5.os.trans b4.os, hg5.tape.trans b4.tape, hg5.output.trans b4.output, Nat.le_trans b4.size hg5.size, fun k hk hne => (hg5.block k (Nat.lt_of_lt_of_le hk b4.size) hne).trans (b4.block k hk)⟩ hM5
      (by unfold gm; rw [hfa, HSN.out]; rfl)
      (by
        refine ow_same HOX.out (fun j hj => ?_)
        have hjl := (HOX.out.lt j hj).2
        have hjb : j ≠ b1 := fun e => by
          rcases HOX.out.2 with ⟨h1, _⟩ | ⟨q, cap, cur, h1, h2, h3, _⟩
          · rw [h1] at hj; simp [Value.ownBlock] at hj
          · rw [h1] at hj
            simp only [Value.ownBlock, Option.some.injEq] at hj
            rw [hj, e, HJ.out.mp.lies] at h3
            simp at h3
        have hjr : j ≠ w2.heap.size := fun e => by
          rcases HOX.out.2 with ⟨h1, _⟩ | ⟨q, cap, cur, h1, h2, h3, _⟩
          · rw [h1] at hj; simp [Value.ownBlock] at hj
          · rw [h1] at hj
            simp only [Value.ownBlock, Option.some.injEq] at hj
            rw [hj, e, HJ.out.iter] at h3
            simp at h3
        have h2 := HG2.out.size
        exact ((hg5.block j (by have := b4.size; omega) (fun e => hjb (by cases e; rfl))).trans (b4.block j (by omega))).trans (HG2.out.block j hjl (fun e => hjr (by cases e; rfl))))
      (fun e he _ => (HJ.out.rest e he _ HXL.out).symm) HXO.out hE5 hEl5)
    clear hM5 hE5 hEl5 hg5 b4 b34 NEXT hfa hno HOX HXO HPN HSN HXZ HG2 HR2 HM2' HK2 HB3 HT3 HXL
    subst hW4
    go_wp2
    go_roundw
    case rel => exact HREL.out.1
    case measure => exact HREL.out.2
   ·obtain ⟨ez, hez, rfl⟩ := List.mem_map.1 hz
    obtain ⟨⟨g0, u0, f0, l0, t0⟩, bz⟩ := ez
    dsimp only at hzg
    subst hzg
    have hoe := HJ.out.each _ hez
    dsimp only at hoe
    obtain ⟨ea, en, ec, hf0⟩ := zs_of hoe
    subst hf0
    dsimp only [zv] at hlk
    have hmz := (HJ.out.hd (g0, u0, l0, t0)).1 (List.mem_map.2 ⟨_, hez, rfl⟩)
    dsimp only at hmz
    have hfa : fnd g0 (Z.map md) = some (g0, u0, l0, t0) := by
     obtain ⟨h1, h2⟩ := hmz
     cases h3 : fnd g0 (Z.map md) with
     | none => exact absurd ⟨h3, HPN.out⟩ h1
     | some m =>
      unfold gm at h2
      rw [h3, HPN.out] at h2
      rw [h2]
    have hgm : gm (Z.map md) (ps.map mde ++ [(g0, u, fl, t)]) g0 = (g0, jmu g0 u0 g0 u, jml g0 l0 g0 fl, jmt g0 t0 g0 t) := by
     unfold gm
     rw [hfa, HSN.out]
    have hs1 := HSM.out _ (fnd_mem hfa).1
    have hs2 := HSM'.out (g0, u, fl, t) (List.mem_map.2 ⟨_, HXZ.out, rfl⟩)
    dsimp only at hs1 hs2
    have owx : Ow W2 B (.slice fa fn' fc) fl := own_kept HOX.out HG2.out (fun j hj e => by
      rcases HOX.out.2 with ⟨h1, _⟩ | ⟨q, cap, cur, h1, h2, h3, _⟩
      · rw [h1] at hj; simp [Value.ownBlock] at hj
      · rw [h1] at hj
        simp only [Value.ownBlock, Option.some.injEq] at hj e
        rw [hj, ← e, HJ.out.iter] at h3
        simp at h3)
    have owe : Ow W2 B (.slice ea en ec) l0 := own_kept hoe HG2.out (fun j hj e => by
      rcases hoe.2 with ⟨h1, _⟩ | ⟨q, cap, cur, h1, h2, h3, _⟩
      · rw [h1] at hj; simp [Value.ownBlock] at hj
      · rw [h1] at hj
        simp only [Value.ownBlock, Option.some.injEq] at hj e
        rw [hj, ← e, HJ.out.iter] at h3
        simp at h3)
    obtain ⟨W4, hW4⟩ : ∃ W4, W3.alloc (.cells #[.int .i64 g0, .int .i64 u0, .slice ea en ec, .string t0] 37) = W4 := ⟨_, rfl⟩
    have b4 : Below W2.heap.size W2 W4 := by subst hW4; exact bpush HB3.out _
    have b34 : Below W3.heap.size W3 W4 := by subst hW4; exact bpush (bre _) _
    have T4 := HT3.out.later b34
    have H4 : Mg W4 W3.heap.size 37 g0 u0 (.slice ea en ec) t0 := by subst hW4; exact Mg.new _ _ _ _ _ _
    have ct4 := T4.cells
    have ch4 := H4.cells
    have ck4 := (HK2.out.later b4).cells
    have rx := Ow.rs8 (own_later owx b4)
    have re := Ow.rs8 (own_later owe b4)
    have HC := hid (implJoinMail_any g0 u0 ea en ec l0 t0 g0 u fa fn' fc fl t W4 re.1 rx.1 (by rw [← re.1]; exact hs1.1) (by rw [← rx.1]; exact hs2.1) hs1.2 hs2.2 re.2.1 rx.2.1 re.2.2)
    have HT4 := hid T4
    have HB4 := hid b4
    have HGM := hid hgm
    have HSZ : Hid (W2.heap.size < W4.heap.size) := T4.lt
    clear T4 H4 b4 b34 hmz hfa hgm hs1 hs2 owx owe rx re hoe
    go_wp2_with fail
    clear hW4 ct4 ch4 ck4 hlk hrun' hen' hW3 ct
    refine HC.out.mono ?_; rintro e w6 ⟨v, rfl, o6, p6⟩
    obtain ⟨q, hq⟩ : ∃ q, jmu g0 u0 g0 u = q := ⟨_, rfl⟩
    obtain ⟨ql, hql⟩ : ∃ ql, jml g0 l0 g0 fl = ql := ⟨_, rfl⟩
    obtain ⟨y, hy⟩ : ∃ y, jmt g0 t0 g0 t = y := ⟨_, rfl⟩
    rw [hql] at o6
    rw [hq, hy]
    rw [hq, hql, hy] at HGM
    obtain ⟨va, vn, vc, hv⟩ := zs_of o6
    subst hv
    have T6 := HT4.out.later p6
    have dt6 := T6.cells
    have df6 := T6.loose
    obtain ⟨W7, hW7⟩ : ∃ W7, ((((w6.setCell ⟨W2.heap.size, 0, none⟩ (.int .i64 g0)).setCell ⟨W2.heap.size, 1, none⟩ (.int .i64 q)).setCell ⟨W2.heap.size, 2, none⟩ (.slice va vn vc)).setCell ⟨W2.heap.size, 3, none⟩ (.string y)) = W7 := ⟨_, rfl⟩
    have T7 : Mg W7 W2.heap.size 37 g0 q (.slice va vn vc) y := by subst hW7; exact set4 T6 g0 q (.slice va vn vc) y
    have b7 : Below W2.heap.size W2 W7 := by subst hW7; exact bs4 (HB4.out.trans (p6.mono (Nat.le_of_lt HSZ.out))) (Nat.le_refl _) _ _ _ _
    have o7 : Ow W7 B (.slice va vn vc) ql := by
     subst hW7
     exact own_base (own4 o6 HSZ.out _ _ _ _) (Nat.le_trans HBB.out (Nat.le_trans HJ.out.below.size (Nat.le_trans HG2.out.size HB4.out.size)))
    have dt7 := T7.cells
    have hfr : ∀ j, Value.ownBlock (.slice va vn vc) = some j → W4.heap.size ≤ j := fun j hj => (o6.lt j hj).1
    obtain ⟨W5, E5, c5, hput, hM5, hE5, hEl5, hg5⟩ := (HM2'.out.later b7).put (g0, q, .slice va vn vc, ql, y)
    dsimp only [zv] at hput
    have hlt2 := HB2.out
    have hszs := HG2.out.size
    have hitl := (Array.getElem?_eq_some_iff.1 HR2.out).1
    have HREL := hid (NEXT.out W5 E5 c5 (g0, q, .slice va vn vc, ql, y) ⟨hg5.os.trans b7.os, hg5.tape.trans b7.tape, hg5.output.trans b7.output, Nat.le_trans b7.size hg5.size, fun k hk hne => (hg5.block k (Nat.lt_of_lt_of_le hk b7.size) hne).trans (b7.block k hk)⟩ hM5
      (by rw [HGM.out]; rfl)
      (own_kept o7 hg5 (fun j hj e => by
        have h1 := hfr j hj
        have h2 := HSZ.out
        simp only [Option.some.injEq] at e
        omega))
      (fun e he _ j hj hj' => by
        have h1 := hfr j hj
        have h2 := HSZ.out
        have h3 := ((HJ.out.each e he).lt j hj').2
        omega)
      (fun y' hy' j hj hj' => by
        have h1 := hfr j hj
        have h2 := HSZ.out
        have h3 : y' ∈ E2 := by rw [lf_push] at hy'; exact (List.mem_filter.1 (List.mem_filter.1 hy').1).1
        have h4 := ((HO'.out.each _ (HM2.out y' h3)).lt j hj').2
        have h5 := HJ.out.below.size
        omega) hE5 hEl5)
    clear hM5 hE5 hEl5 hg5 b7 o7 hfr T7 T6 o6 p6 NEXT HOX HXO HPN HSN HXZ HG2 HR2 HM2' HK2 HB3 HT3 HXL HT4 HB4 HGM HSZ hq hql hy hlt2 hszs hitl hez
    go_wp2
    go_roundw
    case rel => exact HREL.out.1
    case measure => exact HREL.out.2
end Go.Proofs.YtmpcmllfgogegaaGreat
