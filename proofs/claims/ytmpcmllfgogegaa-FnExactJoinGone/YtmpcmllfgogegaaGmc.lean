/- The numbers of a map collected in a list. -/
import Derived.Test.YtmpcmllfgogegaaGmb
namespace Go.Proofs.Ytmpcmllfgogegaa
open Go.RowKit Go.Shelf Go.ChangeMaps

attribute [local go_sem] Oper.semAt_some

theorem valuesi_stops (F : Fence) (n : Nat) (h7 : F.fn 25) (hro : F.round = none) (hn : 1 ≤ n) (Bm b c B : Nat) (E : List Ei) (w : World) (hBm : Bm < w.heap.size) (hm : w.cell? ⟨Bm, 0, none⟩ = some (.map (some b))) (hmp : OwGm w B b E c) :
    SeqStopsK F n Try.prog 25 #[.pointer (some ⟨Bm, 0, none⟩)] (fun x : { e : Ei // e ∈ E } => #[.int .i64 x.1.1]) KeepsWalks (fun xs => (xs.map (·.1)).Perm E) (fun _ => True) E.length w := fun l J Jx W hW hJ _ hY h0 =>
  values1i_in F n h7 hro hn l Bm b c E J Jx hY W hJ ((hW.cell (p := ⟨Bm, 0, none⟩) hBm).trans hm) (hmp.later hW).lies hmp.old hmp.births h0

theorem int_onei (G : List Int) : ∀ u ∈ G.map (Value.int .i64), u.oneCell' = true := by
  intro u hu
  obtain ⟨x, _, rfl⟩ := List.mem_map.1 hu
  rfl
theorem cells_new1 (w : World) (x : Int) (e : Nat) : ∀ j u, ([x].map (Value.int .i64))[j]? = some u → (w.alloc (.cells #[.int .i64 x] e)).cell? ((⟨w.heap.size, 0, none⟩ : Addr).add j) = some u := by
  intro j u hu
  have h := heap_alloc_new w (.cells #[.int .i64 x] e)
  rw [addr_add, Nat.zero_add, cell_of_row _ _ _ _ _ _ h]
  simpa using hu
theorem info_inti : (Try.prog.info? 3).map (fun i => (i.zero, i.size, i.bytes)) = some (some (.int .i64 0), 1, 8) := by kernel_rfl

/-- The numbers of what has come. -/
def goti {E : List Ei} (pre : List { e : Ei // e ∈ E }) : List Int := pre.map (fun x => x.1.1)
theorem goti_snoc {E : List Ei} (pre : List { e : Ei // e ∈ E }) (x : { e : Ei // e ∈ E }) : goti (pre ++ [x]) = goti pre ++ [x.1.1] := by simp [goti]
theorem goti_len {E : List Ei} (pre : List { e : Ei // e ∈ E }) : (goti pre).length = pre.length := by simp [goti]

set_option maxRecDepth 100000 in
set_option maxHeartbeats 4000000 in
theorem appendSeqi_any (Bm b c B : Nat) (E : List Ei) (w : World) (hN : E.length ≤ 4194304) (hBm : Bm < w.heap.size) (hm : w.cell? ⟨Bm, 0, none⟩ = some (.map (some b))) (hmp : OwGm w B b E c) :
    Calls Try.prog 27 #[.slice none 0 0, .func (.func 25) #[] #[.pointer (some ⟨Bm, 0, none⟩)]] w fun e w' =>
      ∃ v xs, e = .returned v ∧ (xs.map (fun x : { e : Ei // e ∈ E } => x.1)).Perm E ∧ w'.ownsRow w.heap.size 3 1 v (goti xs).length ((goti xs).map (Value.int .i64)) ∧ Below w.heap.size w w' := by
  have HMP := hid hmp
  have HM := hid hm
  have HBM := hid hBm
  clear hmp hm hBm
  refine (callsIn_wide (n := 3)).1 ?_
  refine callsIn_of_wp_marks Try.func27 rfl trivial ?_ rfl
  simp only [Try.ntmps27, List.size_toArray, List.length_cons, List.length_nil, Nat.reduceAdd, Nat.reduceSub, Array.replicate_succ, Array.replicate_zero, List.push_toArray, List.append_toArray, List.nil_append, List.cons_append]
  gi_wp2
  obtain ⟨W0, hW0⟩ : ∃ W0, w.alloc (.cells #[.slice none 0 0] 22) = W0 := ⟨_, rfl⟩
  rw [hW0]
  have hbox : Boxed W0 w.heap.size 22 (.slice none 0 0) := by subst hW0; exact Boxed.new w _ _
  have b0 : Below w.heap.size w W0 := by subst hW0; exact bpush (bre _) _
  have s0 : W0.heap.size = w.heap.size + 1 := by subst hW0; simp
  obtain ⟨i0, hi, hz0, hz1, hz2⟩ := info_parts3 info_inti
  refine wpIn_rangeFunc_ownH (F := Fence.wide) (n := 3) rfl (by decide) (gf := 25) (lb := #[.pointer (some ⟨Bm, 0, none⟩)]) rfl trivial (enters_of Try.func25 (by kernel_rfl) rfl)
    (valuesi_stops Fence.wide (3 - 1) trivial rfl (by decide) Bm b c B E W0 (Nat.lt_of_lt_of_le HBM.out b0.size) ((b0.cell (p := ⟨Bm, 0, none⟩) HBM.out).trans HM.out) (HMP.out.later b0)) walksK_t walksK_b (Below.refl _ _) (fun _ => rfl)
    (fun pre W => (∃ v, Boxed W w.heap.size 22 v ∧ W.ownsRow w.heap.size 3 1 v (goti pre).length ((goti pre).map (Value.int .i64)) ∧ True) ∧ Below w.heap.size w W) (fun _ _ _ => False)
    (OwnFrom.and (Own.from (holdsRow_own w.heap.size w.heap.size 22 3 1 (fun pre => (goti pre).length) (fun pre => (goti pre).map (Value.int .i64)) (fun _ _ => True)) _) (ownFrom_below (Nat.le_refl _) (by omega)))
    (fun _ _ _ _ _ hs _ _ => hs)
    ⟨⟨_, hbox, World.ownsRow_nil _ _ _ _, trivial⟩, b0⟩
    (fun x a' W => a' = { tmps := #[.slice none 0 0, .func (.func 25) #[] #[.pointer (some ⟨Bm, 0, none⟩)], .pointer (some ⟨w.heap.size, 0, none⟩), undef, .slice none 0 0, .int .i64 x.1.1, .func (.func 25) #[] #[.pointer (some ⟨Bm, 0, none⟩)], .int .i64 x.1.1, undef, undef, undef, undef, undef], defers := [] })
    ?hax ?assign ?body ?done ?stop
  case hax =>
    rintro x a' _ X Y row h3 hg hr
    exact h3
  case assign =>
    rintro l pre ⟨⟨g, bo⟩, hx⟩ W K ⟨⟨v, hv, hrow, _⟩, hB⟩ hK
    have HV := hid hv
    have HRW := hid hrow
    have HB := hid hB
    clear hv hrow hB
    gi_wp2
    exact hK _ _ ((KeepsOthers.refl _).from _) (KeepsWalks.refl _) ⟨⟨v, HV.out, HRW.out, trivial⟩, HB.out⟩ rfl
  case body =>
    rintro l pre ⟨⟨g, bo⟩, hx⟩ a' W hl ⟨r, hr⟩ ⟨⟨v, hv, hrow, _⟩, hB⟩ rfl hlt
    have HV := hid hv
    have HRW := hid hrow
    have HB := hid hB
    have c1 := hv.cell
    have HLT := hid hlt
    clear hrow hB hr hl hlt hv
    gi_wp2_with (gi_at_builtin; refine wpListIn_append_own _ rfl _ _ 22 rfl w.heap.size 3 i0 (.int .i64 0) 1 8 Try.underlying22 hi hz0 hz1 hz2 rfl (by decide) _ _ _ rfl (HRW.out.alloc _) ⟨W.heap.size, 0, none⟩ 1 1 ([g].map (Value.int .i64)) rfl rfl (cells_new1 W g 3) (int_onei [g]) (by have := HLT.out; rw [goti_len]; unfold maxLen; omega) (by have := HLT.out; rw [goti_len]; omega) (by have := HB.out.size; simp; omega) ?_; intro v' w1 hown' hgrow _; obtain ⟨g', cap', rfl⟩ := ownsRow_succ hown'; obtain ⟨hv1, hv2, hr2, hk2, hb2⟩ := HV.out.appended (by decide) HRW.out HB.out.size (Nat.le_refl _) hown' hgrow; have hc1 := hv1.cell; have hf1 := hv1.frozen; have HR2 := hid hr2; have HK2 := hid hk2; have HB2 := hid hb2; have HV2 := hid hv2; clear hr2 hk2 hb2 hv2 hv1 hgrow hown')
    refine ⟨HK2.out.from _, ⟨HK2.out.size, fun k o h hw => HK2.out.same k o h (by cases o <;> first | rfl | cases hw)⟩, ⟨⟨_, HV2.out, ?_⟩, HB.out.trans HB2.out⟩⟩
    first
    | (refine ⟨?_, trivial⟩; have := HR2.out; rw [goti_snoc, List.map_append]; simpa using this)
    | (have := HR2.out; rw [goti_snoc, List.map_append]; simpa using this)
  case done =>
    rintro D xs W hD hS ⟨⟨v, hv, hrow, _⟩, hB⟩ hK
    have c1 := hv.cell
    have HS := hid hS
    have HRW := hid hrow
    have HB := hid hB
    have HK := hid hK
    clear hS hrow hB hv
    gi_wp2
    refine ⟨by simp, .inl ⟨_, _, rfl, run_takeDeferred HK.out, ?_⟩⟩
    refine ⟨_, results_tmp rfl _ _ _, v, xs, rfl, HS.out, ownsRow_putObj HRW.out _ HK.out rfl, HB.out.trans (belowK_b (w := w) (Nat.le_refl _) W D _ _ (by omega) HK.out rfl rfl)⟩
  case stop =>
    rintro D c' pre W _ _ h _
    exact h.elim

theorem collecti_any (Bm b c B : Nat) (E : List Ei) (w : World) (hN : E.length ≤ 4194304) (hBm : Bm < w.heap.size) (hm : w.cell? ⟨Bm, 0, none⟩ = some (.map (some b))) (hmp : OwGm w B b E c) :
    Calls Try.prog 23 #[.func (.func 25) #[] #[.pointer (some ⟨Bm, 0, none⟩)]] w fun e w' =>
      ∃ v G, e = .returned v ∧ G.Perm (E.map (fun e => e.1)) ∧ OwI w' w.heap.size v G ∧ Below w.heap.size w w' := by
  have HC := hid (appendSeqi_any Bm b c B E w hN hBm hm hmp)
  clear hBm hm hmp
  go_enter Try.func23, Try.ntmps23
  go_wp2_with fail
  refine HC.out.mono ?_; rintro e w1 ⟨v, xs, rfl, h1, h2, h3⟩
  have H1 : Hid ((goti xs).Perm (E.map (fun e => e.1))) := by
    have := h1.map (fun e : Ei => e.1)
    rwa [List.map_map] at this
  have H2 := hid h2
  have H3 := hid h3
  clear h1 h2 h3
  go_wp2
  go_ret
  exact ⟨v, _, rfl, H1.out, H2.out, H3.out⟩

theorem valuesi_any (b : Nat) (w : World) :
    Calls Try.prog 19 #[.map (some b)] w fun e w' => e = .returned (.func (.func 25) #[] #[.pointer (some ⟨w.heap.size, 0, none⟩)]) ∧ w' = w.alloc (.cells #[.map (some b)] 33) := by
  go_enter Try.func19, Try.ntmps19
  go_wp2
  go_ret
  exact ⟨rfl, rfl⟩
end Go.Proofs.Ytmpcmllfgogegaa
