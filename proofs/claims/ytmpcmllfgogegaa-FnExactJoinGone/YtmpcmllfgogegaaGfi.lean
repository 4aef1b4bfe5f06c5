/- The first of each number of a list, in a map. -/
import Derived.Test.YtmpcmllfgogegaaRnd
namespace Go.Proofs.Ytmpcmllfgogegaa
open Go.RowKit Go.Shelf Go.ChangeMaps

attribute [local go_sem] Oper.semAt_some

theorem cell_of_rowb {W : World} {k : Nat} {v : Value} {t : Nat} (h : W.heap[k]? = some (.cells #[v] t)) : W.cell? ⟨k, 0, none⟩ = some v := cell_of_row _ _ 0 _ _ _ h

set_option maxRecDepth 100000 in
set_option maxHeartbeats 4000000 in
theorem firstsi_any (lo hh : Nat) (a : Option Addr) (n c : Nat) (G : List Int) (w : World) (hl : G.length = n) (hn : n ≤ 1048576) (his : Is lo hh w a G) :
    Calls Try.prog 15 #[.agg #[.func (.func 12) #[] #[], .func (.func 13) #[] #[]], .slice a n c] w fun e w' =>
      ∃ b E c', e = .returned (.map (some b)) ∧ OwGm w' w.heap.size b E c' ∧ (∀ y, y ∈ E.map (·.1) ↔ y ∈ G) ∧ E.length ≤ n ∧ Below w.heap.size w w' := by
  have eg : ∀ args w, (callFunc 12 args).run Try.prog w = .ok (.enter 12 args) w := enters_of Try.func12 (by kernel_rfl) rfl
  have mixed : Try.prog.follows .mixedOrders = true := by kernel_rfl
  have HIS := hid his
  have HL := hid hl
  clear his hl
  have hmk := make_gm n
  refine (callsIn_wide (n := 3)).1 ?_
  refine callsIn_of_wp_marks Try.func15 rfl trivial ?_ rfl
  simp only [Try.ntmps15, List.size_toArray, List.length_cons, List.length_nil, Nat.reduceAdd, Nat.reduceSub, Array.replicate_succ, Array.replicate_zero, List.push_toArray, List.append_toArray, List.nil_append, List.cons_append]
  gi_wp2
  refine ⟨trivial, (callsIn_wide.2 (backi_any a n c _)).mono ?_⟩; rintro e w1 ⟨rfl, h1⟩
  subst h1
  gi_wp2
  obtain ⟨W0, hW0⟩ : ∃ W0, (((w.alloc (.cells #[.func (.func 12) #[] #[], .func (.func 13) #[] #[]] 32)).alloc (.map #[] 0)).alloc (.cells #[.map (some (w.heap.size + 1))] 33)).alloc (.cells #[.slice a n c] 22) = W0 := ⟨_, rfl⟩
  have s0 : W0.heap.size = w.heap.size + 4 := by subst hW0; simp
  have b0 : Below w.heap.size w W0 := by subst hW0; exact bpush (bpush (bpush (bpush (bre _) _) _) _) _
  have k0 : Kd W0 w.heap.size 32 12 13 := by
    subst hW0
    show _ = _
    rw [Below.heap_alloc _ _ _ (by simp; omega), Below.heap_alloc _ _ _ (by simp; omega), Below.heap_alloc _ _ _ (by simp)]
    exact heap_alloc_new w _
  have m0 : W0.heap[w.heap.size + 1]? = some (.map #[] 0) := by
    subst hW0
    rw [Below.heap_alloc _ _ _ (by simp), Below.heap_alloc _ _ _ (by simp)]
    have h := heap_alloc_new (w.alloc (.cells #[.func (.func 12) #[] #[], .func (.func 13) #[] #[]] 32)) (.map #[] 0)
    simpa using h
  have t0 : W0.heap[w.heap.size + 2]? = some (.cells #[.map (some (w.heap.size + 1))] 33) := by
    subst hW0
    rw [Below.heap_alloc _ _ _ (by simp)]
    have h := heap_alloc_new ((w.alloc (.cells #[.func (.func 12) #[] #[], .func (.func 13) #[] #[]] 32)).alloc (.map #[] 0)) (.cells #[.map (some (w.heap.size + 1))] 33)
    simpa using h
  have x0 : W0.heap[w.heap.size + 3]? = some (.cells #[.slice a n c] 22) := by
    subst hW0
    have h := heap_alloc_new (((w.alloc (.cells #[.func (.func 12) #[] #[], .func (.func 13) #[] #[]] 32)).alloc (.map #[] 0)).alloc (.cells #[.map (some (w.heap.size + 1))] 33)) (.cells #[.slice a n c] 22)
    simpa using h
  rw [hW0]
  obtain ⟨xb, hxb⟩ : ∃ xb, w.heap.size + 1 + 1 + 1 = xb := ⟨_, rfl⟩
  obtain ⟨tb, htb⟩ : ∃ tb, w.heap.size + 1 + 1 = tb := ⟨_, rfl⟩
  obtain ⟨mb, hmb⟩ : ∃ mb, w.heap.size + 1 = mb := ⟨_, rfl⟩
  rw [hxb, htb, hmb]
  rw [hmb] at m0 t0
  rw [show w.heap.size + 2 = tb by omega] at t0
  rw [show w.heap.size + 3 = xb by omega] at x0
  have hH : hh ≤ w.heap.size := HIS.out.1
  have K0 := hid k0
  have M0 := hid m0
  have T0 := hid t0
  have B0 := hid b0
  have S0 := hid s0
  have X0 := hid (cell_of_rowb x0)
  have HX := hid hxb
  have HT := hid htb
  have HMB := hid hmb
  clear hW0 k0 m0 t0 b0 x0 hmk
  refine wpIn_rangeFunc_ownH (F := Fence.wide) (n := 3) rfl (by decide) (gf := 22) (lb := #[.pointer (some ⟨xb, 0, none⟩)]) rfl trivial (enters_of Try.func22 (by kernel_rfl) rfl)
    (backi_stops Fence.wide (3 - 1) trivial rfl (by decide) xb mb a c n lo hh G HL.out hn W0 (by omega) (by omega) (by omega) X0.out (HIS.out.later B0.out)) (fun h k => h.trans k) (kbK_b (Nat.le_refl _)) (Below.refl _ _) (fun _ => rfl)
    (fun pre W => (∃ E c', OwGm W w.heap.size mb E c' ∧ (∀ y, y ∈ E.map (·.1) ↔ y ∈ pre.map (·.2)) ∧ E.length ≤ pre.length) ∧ Kd W w.heap.size 32 12 13 ∧ W.heap[tb]? = some (.cells #[.map (some mb)] 33) ∧ Below w.heap.size w W ∧ W0.heap.size ≤ W.heap.size) (fun _ _ _ => False)
    ?own (fun _ _ _ _ _ hs _ _ => hs)
    ⟨⟨[], 0, ⟨M0.out, by have := HMB.out; omega, by simp, by simp, by simp⟩, by simp, by simp⟩, K0.out, T0.out, B0.out, Nat.le_refl _⟩
    (fun x a' W => a' = { tmps := #[.agg #[.func (.func 12) #[] #[], .func (.func 13) #[] #[]], .slice a n c, .pointer (some ⟨w.heap.size, 0, none⟩), undef, .map none, .pointer (some ⟨tb, 0, none⟩), undef, .int .i64 x.2, .slice a n c, .int .i64 n, .map (some mb), .slice a n c, .func (.func 22) #[] #[.pointer (some ⟨xb, 0, none⟩)], .int .i64 x.1, .int .i64 x.2, undef, undef, undef, undef, undef, undef, undef], defers := [] })
    ?hax ?assign ?body ?done ?stop
  case own =>
    rintro pre W W' row ⟨⟨E, c', h1, h2, h3⟩, h4, h5, h6, h7⟩ hg hr
    have key : ∀ k, k < W0.heap.size → W'.heap[k]? = W.heap[k]? := fun k hk => hg.block k (by omega) (fun e => by have := (hr k e.symm).1; omega)
    have z0 := S0.out
    have z1 := HT.out
    have z2 := HMB.out
    exact ⟨⟨E, c', h1.same (key mb (by omega)), h2, h3⟩, (key _ (by omega)).trans h4, (key _ (by omega)).trans h5, h6.trans ⟨hg.os, hg.tape, hg.output, hg.size, fun k hk => key k (by omega)⟩, Nat.le_trans h7 hg.size⟩
  case hax =>
    rintro x a' _ X Y row h3 hg hr
    exact h3
  case assign =>
    rintro l pre ⟨i, x⟩ W K hI hK
    have HI := hid hI
    clear hI
    gi_wp2
    exact hK _ _ ((KeepsOthers.refl _).from _) (Kb.refl _ _ _) HI.out rfl
  case body =>
    rintro l pre ⟨i, x⟩ a' W hl ⟨r, hr⟩ ⟨⟨E, c', h1, h2, h3⟩, h4, h5, h6, h7⟩ rfl hlt
    have c1 := h4.cells.1
    have c2 := cell_of_rowb h5
    obtain ⟨W3, E3, c3, hrun, g1, g2, g3, g4⟩ := (h1.later (bdr (bre _))).put x
    have HG1 := hid g1
    have HG2 := hid g2
    have HG3 := hid g3
    have HG4 := hid g4
    have H2 := hid h2
    have H3 := hid h3
    have H4 := hid h4
    have H5 := hid h5
    have H6 := hid h6
    have H7 := hid h7
    have hsz : W.drew.heap.size = W.heap.size := rfl
    have z0 := S0.out
    have z1 := HT.out
    have z2 := HMB.out
    have K3 : Hid (Kd W3 w.heap.size 32 12 13) := (g4.block w.heap.size (by omega) (fun e => by cases e; omega)).trans h4
    have T3 : Hid (W3.heap[tb]? = some (.cells #[.map (some mb)] 33)) := (g4.block tb (by omega) (fun e => by cases e; omega)).trans h5
    have S3 := hid (show W3.cell? ⟨w.heap.size, 0, none⟩ = some (.func (.func 12) #[] #[]) ∧ W3.cell? ⟨tb, 0, none⟩ = some (.map (some mb)) from ⟨K3.out.cells.1, cell_of_rowb T3.out⟩)
    clear g1 g2 g3 g4 h1 h2 h3 h4 h5 h6 h7 hr z0 z1 z2 hsz hxb htb hmb s0
    gi_wp2
    refine region_round (S := fun W => W.cell? ⟨w.heap.size, 0, none⟩ = some (.func (.func 12) #[] #[]) ∧ W.cell? ⟨tb, 0, none⟩ = some (.map (some mb))) mixed (by kernel_rfl) (by rintro ⟨a, w, h⟩; exact h) ⟨c1, c2⟩ (fun hHeld => ?_)
    refine tk 0 ?_
    refine tk 1 ?_
    refine tk 2 ?_
    refine tk 3 ?_
    refine tk 5 ?_
    refine ry 4 (fun K hK => ?_)
    go_simp
    refine (nmi_any _ _).mono ?_
    rintro e w1 ⟨rfl, h⟩
    subst h
    go_wp2_with fail
    refine hK.out _ _ hHeld (fun hHeld => ?_)
    clear hK K
    refine ry 6 (fun K hK => ?_)
    go_simp
    refine hK.out _ _ S3.out (fun hHeld => ?_)
    refine wpAnyH_done (by kernel_rfl) ?_ _
    have hd4 := HG4.out
    refine ⟨⟨hd4.size, fun k o hB hk _ => (hd4.block k (Array.getElem?_eq_some_iff.1 hk).1 (fun e => by have h1 := S0.out; have h2 := HMB.out; cases e; omega)).trans hk⟩, ⟨hd4.size, fun k hk hm => hd4.block k (Nat.lt_of_lt_of_le hk H7.out) (fun e => hm (by cases e; rfl))⟩, ⟨E3, c3, HG1.out, fun y => ?_, ?_⟩, K3.out, T3.out, ?_, Nat.le_trans H7.out hd4.size⟩
    · rw [HG2.out, H2.out, List.map_append, List.mem_append, Or.comm]
      simp
    · have h1 := HG3.out
      have h2 := H3.out
      rw [List.length_append]
      simp only [List.length_cons, List.length_nil]
      omega
    · refine H6.out.trans ⟨hd4.os, hd4.tape, hd4.output, hd4.size, fun k hk => hd4.block k (Nat.lt_of_lt_of_le hk H6.out.size) (fun e => by have h2 := HMB.out; cases e; omega)⟩
  case done =>
    rintro D xs W hD hS ⟨⟨E, c', h1, h2, h3⟩, h4, h5, h6, h7⟩ hK
    have c1 := cell_of_rowb h5
    have H1 := hid h1
    have HLX : Hid (E.length ≤ n) := by
      have hh := congrArg List.length hS
      rw [List.length_map, List.length_reverse, HL.out] at hh
      show _ ≤ _
      omega
    have H2 : Hid (∀ y, y ∈ E.map (·.1) ↔ y ∈ G) := fun y => by rw [h2 y, hS, List.mem_reverse]
    have H6 := hid h6
    have H7 := hid h7
    have HK := hid hK
    have HD := hid hD
    clear h1 h2 h3 h4 h5 h6 h7 hS hD
    gi_wp2
    refine ⟨by simp, .inl ⟨_, _, rfl, run_takeDeferred HK.out, ?_⟩⟩
    refine ⟨_, results_tmp rfl _ _ _, mb, E, c', rfl, H1.out.same ?_, H2.out, HLX.out, H6.out.trans (belowK_b (w := W0) (by have := B0.out.size; omega) W D _ _ HD.out HK.out rfl rfl)⟩
    have hne : D ≠ mb := by have h1 := HD.out; have h2 := S0.out; have h3 := HMB.out; omega
    exact (grownBy_putObj' W D _).block mb H1.out.lt (fun e => hne (by cases e; rfl))
  case stop =>
    rintro D c' pre W _ _ h _
    exact h.elim
end Go.Proofs.Ytmpcmllfgogegaa
