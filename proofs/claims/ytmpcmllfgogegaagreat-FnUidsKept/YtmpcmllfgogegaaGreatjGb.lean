/- Gfi, Gsj, Gjn. -/
import Derived.Test.YtmpcmllfgogegaaGreatjGa
import Derived.Shelf.SlSortCmp.NoneTotal
import Derived.Laws.EntriesVeiled
namespace Go.Proofs.YtmpcmllfgogegaaGreat
open Go.RowKit Go.Shelf Go.ChangeMaps
attribute [local go_sem] Oper.semAt_some
theorem cell_of_rowb {W : World} {k : Nat} {v : Value} {t : Nat} (h : W.heap[k]? = some (.cells #[v] t)) : W.cell? ⟨k, 0, none⟩ = some v := cell_of_row _ _ 0 _ _ _ h
set_option maxRecDepth 100000 in
set_option maxHeartbeats 4000000 in
theorem firstsi_any (lo hh : Nat) (a : Option Addr) (n c : Nat) (G : List Int) (w : World) (hl : G.length = n) (hn : n ≤ 1048576) (his : Is lo hh w a G) :
  Calls Tryz.prog 109 #[.agg #[.func (.func 57) #[] #[], .func (.func 58) #[] #[]], .slice a n c] w fun e w' =>
   ∃ b E c', e = .returned (.map (some b)) ∧ OwGm w' w.heap.size b E c' ∧ (∀ y, y ∈ E.map (·.1) ↔ y ∈ G) ∧ E.length ≤ n ∧ Below w.heap.size w w' := by
 have eg : ∀ args w, (callFunc 57 args).run Tryz.prog w = .ok (.enter 57 args) w := enters_of Tryz.func57 (by kernel_rfl) rfl
 have mixed : Tryz.prog.follows .mixedOrders = true := by kernel_rfl
 have HIS := hid his
 have HL := hid hl
 clear his hl
 have hmk := make_gm n
 refine (callsIn_wide (n := 3)).1 ?_
 refine callsIn_of_wp_marks Tryz.func109 rfl trivial ?_ rfl
 simp only [Tryz.ntmps109, List.size_toArray, List.length_cons, List.length_nil, Nat.reduceAdd, Nat.reduceSub, Array.replicate_succ, Array.replicate_zero, List.push_toArray, List.append_toArray, List.nil_append, List.cons_append]
 gi_wp2
 refine ⟨trivial, (callsIn_wide.2 (backi_any a n c _)).mono ?_⟩; rintro e w1 ⟨rfl, h1⟩
 subst h1
 gi_wp2
 obtain ⟨W0, hW0⟩ : ∃ W0, (((w.alloc (.cells #[.func (.func 57) #[] #[], .func (.func 58) #[] #[]] 78)).alloc (.map #[] 0)).alloc (.cells #[.map (some (w.heap.size + 1))] 119)).alloc (.cells #[.slice a n c] 27) = W0 := ⟨_, rfl⟩
 have s0 : W0.heap.size = w.heap.size + 4 := by subst hW0; simp
 have b0 : Below w.heap.size w W0 := by subst hW0; exact bpush (bpush (bpush (bpush (bre _) _) _) _) _
 have k0 : Kd W0 w.heap.size 78 57 58 := by
  subst hW0
  show _ = _
  rw [Below.heap_alloc _ _ _ (by simp; omega), Below.heap_alloc _ _ _ (by simp; omega), Below.heap_alloc _ _ _ (by simp)]
  exact heap_alloc_new w _
 have m0 : W0.heap[w.heap.size + 1]? = some (.map #[] 0) := by
  subst hW0
  rw [Below.heap_alloc _ _ _ (by simp), Below.heap_alloc _ _ _ (by simp)]
  have h := heap_alloc_new (w.alloc (.cells #[.func (.func 57) #[] #[], .func (.func 58) #[] #[]] 78)) (.map #[] 0)
  simpa using h
 have t0 : W0.heap[w.heap.size + 2]? = some (.cells #[.map (some (w.heap.size + 1))] 119) := by
  subst hW0
  rw [Below.heap_alloc _ _ _ (by simp)]
  have h := heap_alloc_new ((w.alloc (.cells #[.func (.func 57) #[] #[], .func (.func 58) #[] #[]] 78)).alloc (.map #[] 0)) (.cells #[.map (some (w.heap.size + 1))] 119)
  simpa using h
 have x0 : W0.heap[w.heap.size + 3]? = some (.cells #[.slice a n c] 27) := by
  subst hW0
  have h := heap_alloc_new (((w.alloc (.cells #[.func (.func 57) #[] #[], .func (.func 58) #[] #[]] 78)).alloc (.map #[] 0)).alloc (.cells #[.map (some (w.heap.size + 1))] 119)) (.cells #[.slice a n c] 27)
  simpa using h
 rw [hW0]
 obtain ⟨xb, hxb⟩ : ∃ xb, w.heap.size + 1 + 1 + 1 = xb := ⟨_, rfl⟩
 obtain ⟨tb, htb⟩ : ∃ tb, w.heap.size + 1 + 1 = tb := ⟨_, rfl⟩
 obtain ⟨mb, hmb⟩ : ∃ mb, w.heap.size + 1 = mb := ⟨_, rfl⟩
 rw [hxb, htb, hmb]
 rw [hmb] at m0 t0
 rw [show w.heap.size + 2 = tb by omega] at t0
 rw [show w.heap.size + 3 = xb by omega] at x0
 have hH : hh ≤ w.heap.size := HIS.out.1
 have K0 := hid k0
 have M0 := hid m0
 have T0 := hid t0
 have B0 := hid b0
 have S0 := hid s0
 have X0 := hid (cell_of_rowb x0)
 have HX := hid hxb
 have HT := hid htb
 have HMB := hid hmb
 clear hW0 k0 m0 t0 b0 x0 hmk
 refine wpIn_rangeFunc_ownH (F := Fence.wide) (n := 3) rfl (by decide) (gf := 156) (lb := #[.pointer (some ⟨xb, 0, none⟩)]) rfl trivial (enters_of Tryz.func156 (by kernel_rfl) rfl)
  (backi_stops Fence.wide (3 - 1) trivial rfl (by decide) xb mb a c n lo hh G HL.out hn W0 (by omega) (by omega) (by omega) X0.out (HIS.out.later B0.out)) (fun h k => h.trans k) (kbK_b (Nat.le_refl _)) (Below.refl _ _) (fun _ => rfl)
  (fun pre W => (∃ E c', OwGm W w.heap.size mb E c' ∧ (∀ y, y ∈ E.map (·.1) ↔ y ∈ pre.map (·.2)) ∧ E.length ≤ pre.length) ∧ Kd W w.heap.size 78 57 58 ∧ W.heap[tb]? = some (.cells #[.map (some mb)] 119) ∧ Below w.heap.size w W ∧ W0.heap.size ≤ W.heap.size) (fun _ _ _ => False)
  ?own (fun _ _ _ _ _ hs _ _ => hs)
  ⟨⟨[], 0, ⟨M0.out, by have := HMB.out; omega, by simp, by simp, by simp⟩, by simp, by simp⟩, K0.out, T0.out, B0.out, Nat.le_refl _⟩
  (fun x a' W => a' = { tmps := #[.agg #[.func (.func 57) #[] #[], .func (.func 58) #[] #[]], .slice a n c, .pointer (some ⟨w.heap.size, 0, none⟩), undef, .map none, .pointer (some ⟨tb, 0, none⟩), undef, .int .i64 x.2, .slice a n c, .int .i64 n, .map (some mb), .slice a n c, .func (.func 156) #[] #[.pointer (some ⟨xb, 0, none⟩)], .int .i64 x.1, .int .i64 x.2, undef, undef, undef, undef, undef, undef, undef], defers := [] })
  ?hax ?assign ?body ?done ?stop
 case own =>
  rintro pre W W' row ⟨⟨E, c', h1, h2, h3⟩, h4, h5, h6, h7⟩ hg hr
  have key : ∀ k, k < W0.heap.size → W'.heap[k]? = W.heap[k]? := fun k hk => hg.block k (by omega) (fun e => by have := (hr k e.symm).1; omega)
  have z0 := S0.out
  have z1 := HT.out
  have z2 := HMB.out
  exact ⟨⟨E, c', h1.same (key mb (by omega)), h2, h3⟩, (key _ (by omega)).trans h4, (key _ (by omega)).trans h5, h6.trans ⟨hg.os, hg.tape, hg.output, hg.size, fun k hk => key k (by omega)⟩, Nat.le_trans h7 hg.size⟩
 case hax =>
  rintro x a' _ X Y row h3 hg hr
  exact h3
 case assign =>
  rintro l pre ⟨i, x⟩ W K hI hK
  have HI := hid hI
  clear hI
  gi_wp2
  exact hK _ _ ((KeepsOthers.refl _).from _) (Kb.refl _ _ _) HI.out rfl
 case body =>
  rintro l pre ⟨i, x⟩ a' W hl ⟨r, hr⟩ ⟨⟨E, c', h1, h2, h3⟩, h4, h5, h6, h7⟩ rfl hlt
  have c1 := h4.cells.1
  have c2 := cell_of_rowb h5
  obtain ⟨W3, E3, c3, hrun, g1, g2, g3, g4⟩ := (h1.later (bdr (bre _))).put x
  have HG1 := hid g1
  have HG2 := hid g2
  have HG3 := hid g3
  have HG4 := hid g4
  have H2 := hid h2
  have H3 := hid h3
  have H4 := hid h4
  have H5 := hid h5
  have H6 := hid h6
  have H7 := hid h7
  have hsz : W.drew.heap.size = W.heap.size := rfl
  have z0 := S0.out
  have z1 := HT.out
  have z2 := HMB.out
  have K3 : Hid (Kd W3 w.heap.size 78 57 58) := (g4.block w.heap.size (by omega) (fun e => by cases e; omega)).trans h4
  have T3 : Hid (W3.heap[tb]? = some (.cells #[.map (some mb)] 119)) := (g4.block tb (by omega) (fun e => by cases e; omega)).trans h5
  have S3 := hid (show W3.cell? ⟨w.heap.size, 0, none⟩ = some (.func (.func 57) #[] #[]) ∧ W3.cell? ⟨tb, 0, none⟩ = some (.map (some mb)) from ⟨K3.out.cells.1, cell_of_rowb T3.out⟩)
  clear g1 g2 g3 g4 h1 h2 h3 h4 h5 h6 h7 hr z0 z1 z2 hsz hxb htb hmb s0
  gi_wp2
  refine region_round (S := fun W => W.cell? ⟨w.heap.size, 0, none⟩ = some (.func (.func 57) #[] #[]) ∧ W.cell? ⟨tb, 0, none⟩ = some (.map (some mb))) mixed (by kernel_rfl) (by rintro ⟨a, w, h⟩; exact h) ⟨c1, c2⟩ (fun hHeld => ?_)
  refine tk 0 ?_
  refine tk 1 ?_
  refine tk 2 ?_
  refine tk 3 ?_
  refine tk 5 ?_
  refine ry 4 (fun K hK => ?_)
  go_simp
  refine (nmi_any _ _).mono ?_
  rintro e w1 ⟨rfl, h⟩
  subst h
  go_wp2_with fail
  refine hK.out _ _ hHeld (fun hHeld => ?_)
  clear hK K
  refine ry 6 (fun K hK => ?_)
  go_simp
  refine hK.out _ _ S3.out (fun hHeld => ?_)
  refine wpAnyH_done (by kernel_rfl) ?_ _
  have hd4 := HG4.out
  refine ⟨⟨hd4.size, fun k o hB hk _ => (hd4.block k (Array.getElem?_eq_some_iff.1 hk).1 (fun e => by have h1 := S0.out; have h2 := HMB.out; cases e; omega)).trans hk⟩, ⟨hd4.size, fun k hk hm => hd4.block k (Nat.lt_of_lt_of_le hk H7.out) (fun e => hm (by cases e; rfl))⟩, ⟨E3, c3, HG1.out, fun y => ?_, ?_⟩, K3.out, T3.out, ?_, Nat.le_trans H7.out hd4.size⟩
  ·rw [HG2.out, H2.out, List.map_append, List.mem_append, Or.comm]
   simp
  ·have h1 := HG3.out
   have h2 := H3.out
   rw [List.length_append]
   simp only [List.length_cons, List.length_nil]
   omega
  ·refine H6.out.trans ⟨hd4.os, hd4.tape, hd4.output, hd4.size, fun k hk => hd4.block k (Nat.lt_of_lt_of_le hk H6.out.size) (fun e => by have h2 := HMB.out; cases e; omega)⟩
 case done =>
  rintro D xs W hD hS ⟨⟨E, c', h1, h2, h3⟩, h4, h5, h6, h7⟩ hK
  have c1 := cell_of_rowb h5
  have H1 := hid h1
  have HLX : Hid (E.length ≤ n) := by
   have hh := congrArg List.length hS
   rw [List.length_map, List.length_reverse, HL.out] at hh
   show _ ≤ _
   omega
  have H2 : Hid (∀ y, y ∈ E.map (·.1) ↔ y ∈ G) := fun y => by rw [h2 y, hS, List.mem_reverse]
  have H6 := hid h6
  have H7 := hid h7
  have HK := hid hK
  have HD := hid hD
  clear h1 h2 h3 h4 h5 h6 h7 hS hD
  gi_wp2
  refine ⟨by simp, .inl ⟨_, _, rfl, run_takeDeferred HK.out, ?_⟩⟩
  refine ⟨_, results_tmp rfl _ _ _, mb, E, c', rfl, H1.out.same ?_, H2.out, HLX.out, H6.out.trans (belowK_b (w := W0) (by have := B0.out.size; omega) W D _ _ HD.out HK.out rfl rfl)⟩
  have hne : D ≠ mb := by have h1 := HD.out; have h2 := S0.out; have h3 := HMB.out; omega
  exact (grownBy_putObj' W D _).block mb H1.out.lt (fun e => hne (by cases e; rfl))
 case stop =>
  rintro D c' pre W _ _ h _
  exact h.elim
theorem lt_cpr (x y : Int) : Go.Proofs.ltOf cpr x y = decide (x < y) := cpr_less x y
theorem swo_cpr : Go.Sort.SWO (Go.Proofs.ltOf cpr) where
 irrefl x := by rw [lt_cpr]; simp
 trans x y z h1 h2 := by rw [lt_cpr] at *; simp at *; omega
 ntrans x y z h1 h2 := by rw [lt_cpr] at *; simp at *; omega
theorem sortWorld_at {α : Type} [Inhabited α] {enc : α → Value} {w : World} {blk off m k : Nat} {dk : Array α} {os : Array Obj} (h : k < w.heap.size) (hne : k ≠ blk) : (sortWorld enc w blk off m dk os).heap[k]? = w.heap[k]? := by
 unfold sortWorld
 rw [Go.Sort.heap_grow_old _ _ (by simpa using h)]
 simp [Go.Sort.putRow, Go.Sort.mapBlock, Go.Sort.ahead, Array.getElem?_modify, Ne.symm hne]
theorem sorti_any (B kb : Nat) (v : Value) (G : List Int) (w : World) (hn : G.length ≤ 4194304) (hrow : OwI w B v G) (hk : Kd w kb 78 57 58) (hkb : v.ownBlock ≠ some kb) :
  Calls Tryz.prog 158 #[v, .func (.func 138) #[] #[.pointer (some ⟨kb, 0, none⟩)]] w fun e w' =>
   (∃ u, e = .returned u) ∧ ∃ G' : List Int, G'.Perm G ∧ G'.Pairwise (· ≤ ·) ∧ OwI w' B v G' ∧ w.grownBy w' v.ownBlock := by
 have eg : ∀ args w, (callFunc 138 args).run Tryz.prog w = .ok (.enter 138 args) w := enters_of Tryz.func138 (by kernel_rfl) rfl
 rcases hrow.2 with ⟨h1, h2⟩ | ⟨g, cap, cur, h1, h2, h3, h4, h5, h6, h7⟩
 ·obtain rfl : G = [] := List.eq_nil_of_length_eq_zero h2
  subst h1
  have hc := Go.Proofs.AnyF.slices_SortFunc_none (P := Tryz.prog) (ρ := sortI_ren) { sortI with } none 0 (.func (.func 138) #[] #[.pointer (some ⟨kb, 0, none⟩)]) w
  refine Calls.mono hc ?_
  rintro e w' ⟨rfl, rfl⟩
  exact ⟨⟨_, rfl⟩, [], List.Perm.refl _, List.Pairwise.nil, hrow, ⟨rfl, rfl, rfl, Nat.le_refl _, fun _ _ _ => rfl⟩⟩
 ·subst h1
  have hlt := (Array.getElem?_eq_some_iff.1 h3).1
  have hkg : kb ≠ g := fun e => hkb (by rw [e]; rfl)
  have hH := holds_of_blockI (ss := G) h3 (by rw [← h7, Nat.mul_one])
  have hcmp : Go.Proofs.CmpLays1 Tryz.prog 138 #[.pointer (some ⟨kb, 0, none⟩)] (Value.int .i64) cpr g 0 G.toArray.size w := by
   intro m os dk _ x y
   refine (cmpi_any kb x y _ ?_).mono ?_
   ·exact (sortWorld_at hk.lt hkg).trans hk
   ·rintro e w' ⟨rfl, q, rfl⟩
    exact ⟨rfl, q, #[], by rw [Go.Sort.grow_empty]⟩
  have hc := Go.Proofs.Any.slices_SortFunc sortI (Value.int .i64) (fun _ => rfl) cpr swo_cpr 138 #[.pointer (some ⟨kb, 0, none⟩)] g 0 cap G.toArray w eg hcmp hH hlt (by simp; omega)
  have hsz : G.toArray.size = G.length := by simp
  refine Calls.mono (show Calls Tryz.prog 158 #[.slice (some ⟨g, 0, none⟩) G.length cap, _] w _ from hc) ?_
  rintro e w' ⟨rfl, d', n, os, hp, hs, rfl⟩
  refine ⟨⟨_, rfl⟩, d'.toList, ?_, ?_, ?_, ?_⟩
  ·have hp3 := hp.2.2
   have e1 : d'.extract 0 G.toArray.size = d' := by rw [← hp.1]; simp
   have e2 : G.toArray.extract 0 G.toArray.size = G.toArray := by simp
   rw [e1, e2] at hp3
   exact hp3
  ·rw [List.pairwise_iff_getElem]
   intro i j hi hj hij
   have hj' : j < d'.size := by simpa using hj
   have hi' : i < d'.size := by omega
   have h8 := hs i j (Nat.zero_le _) hij (by rw [← hp.1]; exact hj')
   rw [lt_cpr, getElem!_pos d' i hi', getElem!_pos d' j hj'] at h8
   have h9 : ¬ d'[j] < d'[i] := by simpa using h8
   simpa using h9
  ·have hl : d'.toList.length = G.length := by rw [Array.length_toList, hp.1, hsz]
   have h8 := ownsRow_sortedI (w := w) (base := B) (g := g) (cap := cap) (n := n) (os := os) (ss := G) (ts := d'.toList) hl h2 h3 h4 h5 h6
   rw [Array.toArray_toList] at h8
   show World.ownsRow _ _ _ _ _ _ _
   rw [hl]
   exact h8
  ·exact grownBy_sortedI d'
set_option maxHeartbeats 1600000 in
theorem sortedi_any (kb Bm b c B : Nat) (E : List Ei) (w : World) (hN : E.length ≤ 4194304) (hBm : Bm < w.heap.size) (hm : w.cell? ⟨Bm, 0, none⟩ = some (.map (some b))) (hmp : OwGm w B b E c) (hk : Kd w kb 78 57 58) :
  Calls Tryz.prog 136 #[.func (.func 159) #[] #[.pointer (some ⟨Bm, 0, none⟩)], .func (.func 138) #[] #[.pointer (some ⟨kb, 0, none⟩)]] w fun e w' =>
   ∃ v G, e = .returned v ∧ G.Perm (E.map (fun e => e.1)) ∧ G.Pairwise (· ≤ ·) ∧ OwI w' w.heap.size v G ∧ Below w.heap.size w w' := by
 have HC := hid (collecti_any Bm b c B E w hN hBm hm hmp)
 have HK := hid hk
 have HN := hid hN
 clear hBm hm hmp hN hk
 go_enter Tryz.func136, Tryz.ntmps136
 go_wp2_with fail
 refine HC.out.mono ?_; rintro e w1 ⟨v, G0, rfl, h1, h2, h3⟩
 have hle : G0.length = E.length := by have := h1.length_eq; simpa using this
 have H1 := hid h1
 have H2 := hid h2
 have H3 := hid h3
 have HLE := hid hle
 have HKB : Hid (v.ownBlock ≠ some kb) := fun e => by
  have h4 := (h2.lt kb e).1
  have h5 := HK.out.lt
  omega
 clear h1 h2 h3 hle
 go_wp2_with fail
 refine (sorti_any w.heap.size kb v G0 _ (by rw [HLE.out]; exact HN.out) H2.out (HK.out.later H3.out) HKB.out).mono ?_; rintro e w2 ⟨⟨v2, rfl⟩, G, g1, g2, g3, g4⟩
 have K1 := hid (g1.trans H1.out)
 have K2 := hid g2
 have K3 := hid g3
 have K4 : Hid (Below w.heap.size w w2) := H3.out.trans (below_grownR g4 (fun j hj => (H2.out.lt j hj).1) H3.out.size)
 clear g1 g2 g3 g4
 go_wp2
 go_ret
 exact ⟨v, G, rfl, K1.out, K2.out, K3.out, K4.out⟩
set_option maxRecDepth 100000 in
set_option maxHeartbeats 1600000 in
theorem toldi_any (b c B : Nat) (E : List Ei) (w : World) (hN : E.length ≤ 4194304) (hmp : OwGm w B b E c) :
  Calls Tryz.prog 110 #[.agg #[.func (.func 57) #[] #[], .func (.func 58) #[] #[]], .map (some b)] w fun e w' =>
   ∃ v G, e = .returned v ∧ G.Perm (E.map (fun e => e.1)) ∧ G.Pairwise (· ≤ ·) ∧ OwI w' w.heap.size v G ∧ Below w.heap.size w w' := by
 obtain ⟨W0, hW0⟩ : ∃ W0, w.alloc (.cells #[.func (.func 57) #[] #[], .func (.func 58) #[] #[]] 78) = W0 := ⟨_, rfl⟩
 have k0 : Kd W0 w.heap.size 78 57 58 := by subst hW0; exact heap_alloc_new w _
 have b0 : Below w.heap.size w W0 := by subst hW0; exact bpush (bre _) _
 have K0 := hid k0
 have B0 := hid b0
 have HM := hid hmp
 have HN := hid hN
 clear k0 b0 hmp hN
 go_enter Tryz.func110, Tryz.ntmps110
 go_wp2_with fail
 clear hW0
 refine (valuesi_any b _).mono ?_; rintro e w4 ⟨rfl, h4⟩
 obtain ⟨W5, hW5⟩ : ∃ W5, W0.alloc (.cells #[.map (some b)] 119) = W5 := ⟨_, rfl⟩
 have b5 : Below W0.heap.size W0 W5 := by subst hW5; exact bpush (bre _) _
 have x5 : W5.heap[W0.heap.size]? = some (.cells #[.map (some b)] 119) := by subst hW5; exact heap_alloc_new W0 _
 rw [hW5] at h4
 subst h4
 have HC := hid (sortedi_any w.heap.size W0.heap.size b c B E w4 HN.out (Array.getElem?_eq_some_iff.1 x5).1 (cell_of_rowb x5) ((HM.out.later B0.out).later b5) (K0.out.later b5))
 have H5 := hid b5
 clear hW5 b5 x5
 go_wp2_with fail
 refine HC.out.mono ?_; rintro e w6 ⟨v, Gs, rfl, g1, g2, g3, g4⟩
 have G1 := hid g1
 have G2 := hid g2
 have HO := hid (own_base g3 (Nat.le_trans B0.out.size H5.out.size))
 have HBE := hid (btr B0.out (btr H5.out g4))
 clear g1 g2 g3 g4
 go_wp2
 go_ret
 exact ⟨v, Gs, rfl, G1.out, G2.out, HO.out, HBE.out⟩
theorem asl_perm {G E : List Int} (h1 : G.Perm E) (h2 : G.Pairwise (· ≤ ·)) (h3 : E.Nodup) {H : List Int} (h4 : ∀ y, y ∈ E ↔ y ∈ H) : G = asl H := by
 have hnd : G.Nodup := h1.nodup_iff.2 h3
 have hlt : G.Pairwise (· < ·) := by
  have := h2.and hnd
  exact this.imp (fun {a b} h => Int.lt_iff_le_and_ne.2 h)
 exact asc_same hlt (asl_asc H) (fun y => by rw [h1.mem_iff, h4, asl_mem])
set_option maxRecDepth 100000 in
set_option maxHeartbeats 4000000 in
theorem joinedi_any (l1 h1 l2 h2 : Nat) (a : Option Addr) (n c : Nat) (G : List Int) (a' : Option Addr) (n' c' : Nat) (G' : List Int) (w : World) (hl : G.length = n) (hn : n ≤ 1048576) (his : Is l1 h1 w a G) (hl' : G'.length = n') (hn' : n' ≤ 1048576) (his' : Is l2 h2 w a' G') :
  Calls Tryz.prog 59 #[.agg #[.func (.func 57) #[] #[], .func (.func 58) #[] #[]], .slice a n c, .slice a' n' c'] w fun e w' =>
   ∃ v, e = .returned v ∧ OwI w' w.heap.size v (asl (G ++ G')) ∧ Below w.heap.size w w' := by
 obtain ⟨W0, hW0⟩ : ∃ W0, w.alloc (.cells #[.func (.func 57) #[] #[], .func (.func 58) #[] #[]] 78) = W0 := ⟨_, rfl⟩
 have k0 : Kd W0 w.heap.size 78 57 58 := by subst hW0; exact heap_alloc_new w _
 have b0 : Below w.heap.size w W0 := by subst hW0; exact bpush (bre _) _
 have K0 := hid k0
 have B0 := hid b0
 have HIS := hid (his.later b0)
 have HIS' := hid (his'.later b0)
 have HL := hid hl
 have HL' := hid hl'
 have c0 := k0.cells
 clear k0 b0 his his' hl hl'
 go_enter Tryz.func59, Tryz.ntmps59
 go_wp2_with fail
 clear hW0 c0
 refine (firstsi_any l1 h1 a n c G _ HL.out hn HIS.out).mono ?_; rintro e w1 ⟨b1, E1, c1, rfl, m1, e1, n1, p1⟩
 have M1 := hid m1
 have E1H := hid e1
 have N1 := hid n1
 have P1 := hid p1
 have c0 := (K0.out.later p1).cells
 clear m1 e1 n1 p1
 go_wp2_with fail
 clear c0
 refine (firstsi_any l2 h2 a' n' c' G' _ HL'.out hn' (HIS'.out.later P1.out)).mono ?_; rintro e w2 ⟨b2, E2, c2, rfl, m2, e2, n2, p2⟩
 have M2 := hid m2
 have E2H := hid e2
 have N2 := hid n2
 have P2 := hid p2
 have hrg := run_range_gm m2.lies
 clear m2 e2 n2 p2
 have HOL : Hid (∀ x ∈ ((E2.map enti).toArray).toList, x.born < c2) := by
  intro x hx
  rw [List.toList_toArray] at hx
  obtain ⟨e, he, rfl⟩ := List.mem_map.1 hx
  exact M2.out.old e he
 have HBN : Hid ((((E2.map enti).toArray).toList.map (·.born)).Nodup) := by
  show List.Nodup _
  rw [List.toList_toArray, List.map_map]
  exact M2.out.births
 have HB2 : Hid (b1 < w1.heap.size ∧ w1.heap.size ≤ b2 ∧ b2 < w2.heap.size ∧ w.heap.size < W0.heap.size ∧ W0.heap.size ≤ b1) := ⟨M1.out.lt, M2.out.base, M2.out.lt, K0.out.lt, M1.out.base⟩
 have eg : ∀ args w, (callFunc 58 args).run Tryz.prog w = .ok (.enter 58 args) w := enters_of Tryz.func58 (by kernel_rfl) rfl
 go_wp2
 clear hrg
 go_loopw [19] (fun _ wr => ∃ (seen : Array Nat) (ps E : List Ei) (c3 : Nat), wr.heap[w2.heap.size]? = some (.mapIter (some b2) c2 seen c2) ∧ wr.heap[b2]? = some (.map (E2.map enti).toArray c2) ∧ (ps ++ lfI E2 seen).Perm E2 ∧ OwGm wr W0.heap.size b1 E c3 ∧ (∀ y, y ∈ E.map (·.1) ↔ y ∈ E1.map (·.1) ∨ y ∈ ps.map (·.1)) ∧ E.length ≤ E1.length + ps.length ∧ Kd wr w.heap.size 78 57 58 ∧ Below w.heap.size w wr)
  (fun _ wr => lfti b2 w2.heap.size wr)
 case atStart =>
  have hp : Below W0.heap.size W0 (w2.alloc (.mapIter (some b2) c2 #[] c2)) := bpush (btr P1.out P2.out) _
  refine ⟨#[], [], E1, c1, heap_alloc_new w2 _, (Below.heap_alloc _ _ b2 HB2.out.2.2.1).trans M2.out.lies, ?_, M1.out.later (bpush P2.out _), by simp, by simp, K0.out.later hp, btr B0.out hp⟩
  have : lfI E2 #[] = E2 := by unfold lfI; rw [List.filter_eq_self.2]; simp
  rw [this]; exact List.Perm.refl _
 case round =>
  obtain ⟨seen, ps, E, c3, hr, hb, hP, hM, hE, hEl, hKd, hBw⟩ := hrel
  have HR := hid hr
  have HB := hid hb
  have HP := hid hP
  have HM := hid hM
  have HE := hid hE
  have HEL := hid hEl
  have HKD := hid hKd
  have HBW := hid hBw
  have hnx := run_next_at (P := Tryz.prog) wr 0 w2.heap.size b2 c2 c2 seen (E2.map enti).toArray c2 hr hb HOL.out (Nat.le_refl _)
  rw [lfi_of] at hnx
  clear hr hb hP hM hE hEl hKd hBw
  rcases hnx with ⟨hz, hrun⟩ | ⟨e, he, w3, hw3, hrun⟩
  ·have HZ : Hid (lfI E2 seen = []) := by
    show _ = _
    rw [List.size_toArray, List.length_map] at hz
    exact List.eq_nil_of_length_eq_zero hz
   clear hz
   have ck := HKD.out.cells
   go_wp2_with fail
   clear hrun ck
   have HPP : Hid (ps.Perm E2) := by
    have := HP.out
    rwa [HZ.out, List.append_nil] at this
   have HLEN : Hid (E.length ≤ 4194304) := by
    have h1 := HEL.out
    have h2 := HPP.out.length_eq
    have h3 := N1.out
    have h4 := N2.out
    show _ ≤ _
    omega
   have HALL : Hid (∀ y, y ∈ E.map (·.1) ↔ y ∈ G ++ G') := fun y => by
    rw [HE.out, E1H.out, (HPP.out.map (·.1)).mem_iff, E2H.out, List.mem_append]
   refine (toldi_any b1 c3 W0.heap.size E wr HLEN.out HM.out).mono ?_; rintro e w6 ⟨v, Gs, rfl, g1, g2, g3, g4⟩
   have HA : Hid (Gs = asl (G ++ G')) := asl_perm g1 g2 HM.out.keys HALL.out
   have HO := hid (own_base g3 HBW.out.size)
   have HBE := hid (HBW.out.trans (g4.mono HBW.out.size))
   clear g1 g2 g3 g4
   go_wp2
   go_ret
   exact ⟨v, rfl, HA.out ▸ HO.out, HBE.out⟩
  ·rw [List.toList_toArray] at he
   obtain ⟨x, hx, rfl⟩ := List.mem_map.1 he
   have hxE : x ∈ E2 := (List.mem_filter.1 hx).1
   have HXL := hid hx
   have hwh : w3.heap = wr.heap := by rcases hw3 with rfl | rfl <;> rfl
   have hr1 : w3.heap[w2.heap.size]? = some (.mapIter (some b2) c2 seen c2) := by rw [hwh]; exact HR.out
   obtain ⟨W2, hW2⟩ : ∃ W2, setBlock w3 w2.heap.size (.mapIter (some b2) c2 (seen.push x.2) c2) = W2 := ⟨_, rfl⟩
   have hg2 : wr.grownBy W2 (some w2.heap.size) := by
    subst hW2
    have hlt := (Array.getElem?_eq_some_iff.1 hr1).1
    refine ⟨?_, ?_, ?_, ?_, ?_⟩
    ·rcases hw3 with rfl | rfl <;> rfl
    ·rcases hw3 with rfl | rfl <;> rfl
    ·rcases hw3 with rfl | rfl <;> rfl
    ·simp [setBlock, hwh]
    ·intro k hk hne
     simp only [setBlock, hwh]
     exact Array.getElem?_setIfInBounds_ne (fun e => hne (by rw [e]))
   have hr2 : W2.heap[w2.heap.size]? = some (.mapIter (some b2) c2 (seen.push x.2) c2) := by
    subst hW2
    simp only [setBlock]
    rw [Array.getElem?_setIfInBounds_self_of_lt (Array.getElem?_eq_some_iff.1 hr1).1]
   have hlt2 := HB2.out
   have hb2 : W2.heap[b2]? = some (.map (E2.map enti).toArray c2) := (hg2.block b2 (Array.getElem?_eq_some_iff.1 HB.out).1 (fun e => by simp at e; omega)).trans HB.out
   have hen := run_entry_at (P := Tryz.prog) W2 w2.heap.size b2 c2 seen (E2.map enti).toArray c2 (enti x) hr2 hb2 (by rw [List.toList_toArray]; exact List.mem_map.2 ⟨x, hxE, rfl⟩) HBN.out
   have hrun' : (Instr.next (.pointer (some ⟨w2.heap.size, 0, none⟩)) false 0).run Tryz.prog wr = .ok (.tuple #[.bool true, .int .i64 x.1, .int .i64 x.1]) W2 := by rw [← hW2]; exact hrun
   have hen' : (Instr.entry (.pointer (some ⟨w2.heap.size, 0, none⟩))).run Tryz.prog W2 = .ok (.tuple #[.int .i64 x.1, .int .i64 x.1]) W2 := hen
   have hM2 : OwGm W2 W0.heap.size b1 E c3 := HM.out.same (hg2.block b1 HM.out.lt (fun e => by simp at e; omega))
   have hK2 : Kd W2 w.heap.size 78 57 58 := (hg2.block _ HKD.out.lt (fun e => by simp at e; omega)).trans HKD.out
   obtain ⟨W4, E4, c4, hput, hM4, hE4, hEl4, hg4⟩ := hM2.put x.1
   have hr4 : W4.heap[w2.heap.size]? = some (.mapIter (some b2) c2 (seen.push x.2) c2) := (hg4.block _ (Array.getElem?_eq_some_iff.1 hr2).1 (fun e => by simp at e; omega)).trans hr2
   have hb4 : W4.heap[b2]? = some (.map (E2.map enti).toArray c2) := (hg4.block _ (Array.getElem?_eq_some_iff.1 hb2).1 (fun e => by simp at e; omega)).trans hb2
   have hK4 : Kd W4 w.heap.size 78 57 58 := (hg4.block _ hK2.lt (fun e => by simp at e; omega)).trans hK2
   have hBw4 : Below w.heap.size w W4 := (HBW.out.trans (below_of_grown hg2 (by omega) HBW.out.size)).trans (below_of_grown hg4 (by omega) (Nat.le_trans HBW.out.size hg2.size))
   have hP4 : ((ps ++ [x]) ++ lfI E2 (seen.push x.2)).Perm E2 := by
    rw [lfi_push, List.append_assoc]
    exact List.Perm.trans (List.Perm.append_left _ (permi_out _ _ HXL.out (lfi_nodup M2.out.births seen))) HP.out
   have HMS : Hid (lfti b2 w2.heap.size W4 < lfti b2 w2.heap.size wr) := by
    show _ < _
    unfold lfti
    rw [hr4, hb4, HR.out, HB.out]
    dsimp only
    rw [lfi_of, lfi_of, List.size_toArray, List.size_toArray, List.length_map, List.length_map, lfi_push]
    have := (permi_out _ _ HXL.out (lfi_nodup M2.out.births seen)).length_eq
    rw [List.length_cons] at this
    exact Nat.lt_of_succ_le (Nat.le_of_eq this)
   have HREL : Hid (∃ (seen : Array Nat) (ps E : List Ei) (c3 : Nat), W4.heap[w2.heap.size]? = some (.mapIter (some b2) c2 seen c2) ∧ W4.heap[b2]? = some (.map (E2.map enti).toArray c2) ∧ (ps ++ lfI E2 seen).Perm E2 ∧ OwGm W4 W0.heap.size b1 E c3 ∧ (∀ y, y ∈ E.map (·.1) ↔ y ∈ E1.map (·.1) ∨ y ∈ ps.map (·.1)) ∧ E.length ≤ E1.length + ps.length ∧ Kd W4 w.heap.size 78 57 58 ∧ Below w.heap.size w W4) := by
    refine ⟨_, ps ++ [x], E4, c4, hr4, hb4, hP4, hM4, fun y => ?_, ?_, hK4, hBw4⟩
    ·rw [hE4, HE.out, List.map_append, List.mem_append]
     simp only [List.map_cons, List.map_nil, List.mem_singleton]
     constructor
     ·rintro (h | h | h)
      ·exact Or.inr (Or.inr h)
      ·exact Or.inl h
      ·exact Or.inr (Or.inl h)
     ·rintro (h | h | h)
      ·exact Or.inr (Or.inl h)
      ·exact Or.inr (Or.inr h)
      ·exact Or.inl h
    ·have h1 := HEL.out
     simp only [List.length_append, List.length_cons, List.length_nil]
     omega
   have hask := hM2.ask x.1
   have ck := hK2.cells
   clear hrun hen hr2 hb2 hg2 hW2 hr1 hwh hw3 hx he w3 hlt2 hM2 hK2 hM4 hE4 hEl4 hg4 hr4 hb4 hK4 hBw4 hP4 HR HB HP HM HE HEL HKD HBW HXL hxE
   obtain ⟨g, bo⟩ := x
   dsimp only at hrun' hen' hput hask
   rcases hask with ⟨_, hlk⟩ | ⟨_, hlk⟩
   ·go_wp2
    go_roundw
    case rel => exact HREL.out
    case measure => exact HMS.out
   ·go_wp2_with (go_at_call 58; refine (jni_any _ _ _).mono ?_; rintro e w5 ⟨rfl, h⟩; subst h)
    go_roundw
    case rel => exact HREL.out
    case measure => exact HMS.out
set_option maxRecDepth 100000 in
theorem implJoinGone_any (l1 h1 l2 h2 : Nat) (a : Option Addr) (n c : Nat) (G : List Int) (a' : Option Addr) (n' c' : Nat) (G' : List Int) (w : World) (hl : G.length = n) (hn : n ≤ 1048576) (his : Is l1 h1 w a G) (hl' : G'.length = n') (hn' : n' ≤ 1048576) (his' : Is l2 h2 w a' G') :
  Calls Tryz.prog 26 #[.slice a n c, .slice a' n' c'] w fun e w' => ∃ v, e = .returned v ∧ OwI w' w.heap.size v (asl (G ++ G')) ∧ Below w.heap.size w w' := by
 obtain ⟨W0, hW0⟩ : ∃ W0, w.alloc (.cells #[.func (.func 57) #[] #[], .func (.func 58) #[] #[]] 78) = W0 := ⟨_, rfl⟩
 have b0 : Below w.heap.size w W0 := by subst hW0; exact bpush (bre _) _
 have k0 : Kd W0 w.heap.size 78 57 58 := by subst hW0; exact heap_alloc_new w _
 have c0 := k0.cells
 have B0 := hid b0
 have HC := hid (joinedi_any l1 h1 l2 h2 a n c G a' n' c' G' W0 hl hn (his.later b0) hl' hn' (his'.later b0))
 clear b0 k0 his his' hl hl'
 go_enter Tryz.func26, Tryz.ntmps26
 go_wp2_with fail
 refine HC.out.mono ?_; rintro e w1 ⟨v, rfl, g1, g2⟩
 have HO := hid (own_base g1 B0.out.size)
 have HB := hid (btr B0.out g2)
 clear g1 g2
 go_wp2
 go_ret
 exact ⟨v, rfl, HO.out, HB.out⟩
end Go.Proofs.YtmpcmllfgogegaaGreat
