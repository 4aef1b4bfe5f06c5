/- Tie, Tig, Tir, Mkw. -/
import Derived.Test.YtckenihadlmlaaaB8
namespace Go.Proofs.Ytckenihadlmlaaa
open Go.RowKit Go.ChangeMaps
/-- What is wanted to read the lists of a box. -/
def Rdx (lo hh : Nat) (W : World) (x : Y9) : Prop := ∃ a c a' c', x.mv = .slice a x.L.length c ∧ x.gv = .slice a' x.G.length c' ∧ Ms lo hh W a x.L ∧ Is lo hh W a' x.G ∧ (a = none → c = 0) ∧ (a' = none → c' = 0)
theorem Rdx.later {lo hh : Nat} {W W' : World} {x : Y9} (h : Rdx lo hh W x) (hb : Below W.heap.size W W') : Rdx lo hh W' x := by
  obtain ⟨a, c, a', c', h1, h2, h3, h4, h5⟩ := h
  exact ⟨a, c, a', c', h1, h2, h3.later hb, h4.later hb, h5⟩
/-- A row of boxes as it lies, with the values of the lists. -/
theorem Bs.src {lo hh : Nat} {W : World} {ad : Addr} {S : List X7} (h : Bs lo hh W (some ad) S) : ∃ X : List Y9, X.map yd = S ∧ (∀ x ∈ X, Rdx lo hh W x) ∧ (∀ j u, (yc X)[j]? = some u → W.cell? (ad.add j) = some u) := by
  have hx : ∀ i, i < S.length → ∃ z : Y9, (∀ hi : i < S.length, yd z = S[i]) ∧ Rdx lo hh W z ∧ (W.cell? (ad.add (i * 7)) = some (.int .i64 z.g) ∧ W.cell? (ad.add (i * 7 + 1)) = some (.string z.nm) ∧ W.cell? (ad.add (i * 7 + 2)) = some (.int .i64 z.t) ∧ W.cell? (ad.add (i * 7 + 3)) = some (.int .i64 z.b) ∧ W.cell? (ad.add (i * 7 + 4)) = some (.int .i64 z.nx) ∧ W.cell? (ad.add (i * 7 + 5)) = some z.mv ∧ W.cell? (ad.add (i * 7 + 6)) = some z.gv) := by
    intro i hi
    obtain ⟨k, o, ma, mc, ga, gc, h1, _, _, h3, h4, h5, h6, h7⟩ := h.2 i hi
    simp only [Option.some.injEq] at h1
    subst h1
    refine ⟨⟨S[i].1, S[i].2.1, S[i].2.2.1, S[i].2.2.2.1, S[i].2.2.2.2.1, .slice ma S[i].2.2.2.2.2.1.length mc, .slice ga S[i].2.2.2.2.2.2.length gc, S[i].2.2.2.2.2.1, S[i].2.2.2.2.2.2, 0, 0⟩, fun _ => rfl, ⟨ma, mc, ga, gc, rfl, rfl, h4, h5, h6, h7⟩, ?_⟩
    simp only [addr_add]
    unfold C7 at h3
    simpa only [Nat.add_assoc] using h3
  haveI : Inhabited Y9 := ⟨⟨0, ⟨#[]⟩, 0, 0, 0, .slice none 0 0, .slice none 0 0, [], [], 0, 0⟩⟩
  obtain ⟨r, hr⟩ := Go.Deep.choose_lt hx
  refine ⟨(List.range S.length).map r, ?_, ?_, ?_⟩
  · apply List.ext_getElem
    · simp
    · intro i h1 h2
      simp only [List.getElem_map, List.getElem_range]
      exact (hr i h2).1 h2
  · intro x hx
    obtain ⟨i, hi, rfl⟩ := List.mem_map.1 hx
    exact (hr i (List.mem_range.1 hi)).2.1
  · intro j u hu
    have hj : j < (yc ((List.range S.length).map r)).length := (List.getElem?_eq_some_iff.1 hu).1
    rw [yc_len] at hj
    have hi : j / 7 < ((List.range S.length).map r).length := by omega
    have hi' : j / 7 < S.length := by simpa using hi
    have e := yc_at _ (j / 7) hi
    simp only [List.getElem_map, List.getElem_range] at e
    obtain ⟨c0, c1, c2, c3, c4, c5, c6⟩ := (hr (j / 7) hi').2.2
    have h4 : j % 7 = 0 ∨ j % 7 = 1 ∨ j % 7 = 2 ∨ j % 7 = 3 ∨ j % 7 = 4 ∨ j % 7 = 5 ∨ j % 7 = 6 := by omega
    rcases h4 with h4 | h4 | h4 | h4 | h4 | h4 | h4
    · have ej : j = j / 7 * 7 := by omega
      rw [← ej] at e c0
      rw [c0, ← e.1, hu]
    · have ej : j = j / 7 * 7 + 1 := by omega
      rw [← ej] at e c1
      rw [c1, ← e.2.1, hu]
    · have ej : j = j / 7 * 7 + 2 := by omega
      rw [← ej] at e c2
      rw [c2, ← e.2.2.1, hu]
    · have ej : j = j / 7 * 7 + 3 := by omega
      rw [← ej] at e c3
      rw [c3, ← e.2.2.2.1, hu]
    · have ej : j = j / 7 * 7 + 4 := by omega
      rw [← ej] at e c4
      rw [c4, ← e.2.2.2.2.1, hu]
    · have ej : j = j / 7 * 7 + 5 := by omega
      rw [← ej] at e c5
      rw [c5, ← e.2.2.2.2.2.1, hu]
    · have ej : j = j / 7 * 7 + 6 := by omega
      rw [← ej] at e c6
      rw [c6, ← e.2.2.2.2.2.2, hu]
theorem yc_ones {lo hh : Nat} {W : World} {X : List Y9} (h : ∀ x ∈ X, Rdx lo hh W x) : ∀ u ∈ yc X, u.oneCell' = true := by
  induction X with
  | nil => intro u hu; cases hu
  | cons x X ih =>
    intro u hu
    have e : yc (x :: X) = yc [x] ++ yc X := by rw [← yc_app]; rfl
    rw [e] at hu
    rcases List.mem_append.1 hu with hu | hu
    · obtain ⟨a, c, a', c', h1, h2, _⟩ := h x (by simp)
      exact yc_one ⟨_, _, _, h1⟩ ⟨_, _, _, h2⟩ u hu
    · exact ih (fun y hy => h y (by simp [hy])) u hu
set_option maxHeartbeats 400000 in
set_option maxRecDepth 100000 in
theorem cloneBx_any (lo hh : Nat) (ba : Option Addr) (n cap : Nat) (S : List X7) (w : World) (hl : S.length = n) (hn : n ≤ 1048576) (hr : Bs lo hh w ba S) (h0 : ba = none → cap = 0) :
    Calls Try.prog 73 #[.slice ba n cap] w fun e w' => ∃ a c X, e = .returned (.slice a n c) ∧ X.map yd = S ∧ (∀ x ∈ X, Rdx lo hh w x) ∧ w'.ownsRow w.heap.size 99 7 (.slice a n c) n (yc X) ∧ Below w.heap.size w w' := by
  have HR := hid hr
  have HL := hid hl
  have HN := hid hn
  clear hr hl hn
  cases ba with
  | none =>
    have hn0 : n = 0 := by
      by_cases h : 0 < n
      · obtain ⟨_, _, _, _, _, _, h1, _⟩ := HR.out.2 0 (by rw [HL.out]; exact h)
        cases h1
      · omega
    subst hn0
    obtain rfl := h0 rfl
    have hle : S = [] := List.eq_nil_of_length_eq_zero HL.out
    subst hle
    clear h0
    have hnil : ∀ W, (binOp .eql 22 (.slice none 0 0) (.slice none 0 0)).run Try.prog W = .ok (.bool true) W := fun W => Lib.run_eql_slice_nil_nil W 0 0 Try.underlying22
    go_enter Try.func73, Try.ntmps73
    go_wp2
    go_ret
    exact ⟨none, 0, [], rfl, rfl, (fun x hx => by cases hx), ⟨rfl, .inl ⟨rfl, rfl⟩⟩, bre _⟩
  | some ad =>
    clear h0
    obtain ⟨i0, hi, hz0, hz1, hz2⟩ := info_parts3 info_bx
    obtain ⟨X, hX1, hX2, hX3⟩ := HR.out.src
    have hxl : X.length = n := by have := congrArg List.length hX1; simpa [HL.out] using this
    have HX1 := hid hX1
    have HX2 := hid hX2
    have HXL := hid hxl
    have HSRC : Hid (∀ j u, (yc X)[j]? = some u → (w.alloc (.cells #[] 99)).cell? (ad.add j) = some u) := by
      intro j u hu
      have hc := hX3 j u hu
      exact ((bpush (bre w) (.cells #[] 99)).cell (p := ad.add j) (World.block_lt_of_cell? w _ hc)).trans hc
    clear hX1 hX2 hX3 hxl
    have hnil : ∀ W, (binOp .eql 22 (.slice (some ad) n cap) (.slice none 0 0)).run Try.prog W = .ok (.bool false) W := fun W => Lib.run_eql_slice_some_nil W ad n cap Try.underlying22
    go_enter Try.func73, Try.ntmps73
    go_wp2_with (at_builtin; refine wpList_append_own _ rfl (.tmp 5) (.tmp 6) 22 rfl w.heap.size 99 i0 _ 7 96 Try.underlying22 hi hz0 hz1 hz2 rfl (by decide) _ 0 [] (by rfl) (ownS_empty w _ (Nat.le_refl _)).row ad n cap (yc X) (by rfl) (by rw [yc_len, HXL.out]) HSRC.out (yc_ones HX2.out) (by have := HN.out; unfold maxLen; omega) (by have := HN.out; omega) (by simp) ?_; intro v1 w1 hown1 hg1 _)
    have hown2 : w1.ownsRow w.heap.size 99 7 v1 n (yc X) := by simpa using hown1
    have hsh : ∃ a c, v1 = .slice a n c := by
      rcases hown2.2 with ⟨h1, h2⟩ | ⟨g, cap, cur, h1, _⟩
      · exact ⟨none, 0, by rw [h1, h2]⟩
      · exact ⟨_, _, h1⟩
    obtain ⟨a, c, rfl⟩ := hsh
    go_ret
    exact ⟨a, c, X, rfl, HX1.out, HX2.out, hown2, (bpush (bre _) _).grown hg1 (by simp) (by intro k hk; simp [Value.ownBlock] at hk; omega)⟩
/-- A row of boxes in a block of its own; what their lists are is told beside it. -/
abbrev Ry (W : World) (B g n cap : Nat) (Y : List Y9) : Prop := W.ownsRow B 99 7 (.slice (some ⟨g, 0, none⟩) n cap) n (yc Y)
theorem Ry.len {W : World} {B g n cap : Nat} {Y : List Y9} (h : Ry W B g n cap Y) : Y.length = n := by have := h.1; rw [yc_len] at this; omega
theorem Ry.set {W : World} {B g n cap : Nat} {Y : List Y9} (h : Ry W B g n cap Y) (i : Nat) (hi : i < n) (y : Y9) : Ry (put7 W g (i * 7) y) B g n cap (Y.set i y) := by
  have h1 := (World.ownsRow.stored h (i * 7) (.int .i64 y.g)).1
  have h2 := (World.ownsRow.stored h1 (i * 7 + 1) (.string y.nm)).1
  have h3 := (World.ownsRow.stored h2 (i * 7 + 2) (.int .i64 y.t)).1
  have h4 := (World.ownsRow.stored h3 (i * 7 + 3) (.int .i64 y.b)).1
  have h5 := (World.ownsRow.stored h4 (i * 7 + 4) (.int .i64 y.nx)).1
  have h6 := (World.ownsRow.stored h5 (i * 7 + 5) y.mv).1
  have h7 := (World.ownsRow.stored h6 (i * 7 + 6) y.gv).1
  rw [yc_set Y i y (by rw [h.len]; exact hi)] at h7
  exact h7
theorem Ry.spot {W : World} {B g n cap : Nat} {Y : List Y9} (h : Ry W B g n cap Y) (i : Nat) (hi : i < Y.length) :
    C7 W g (i * 7) Y[i].g Y[i].nm Y[i].t Y[i].b Y[i].nx Y[i].mv Y[i].gv ∧ ∀ j, W.frozen? ⟨g, j, none⟩ = false := by
  have hl := h.len
  have e := yc_at Y i hi
  exact ⟨⟨(h.cellAt _ (by omega)).trans e.1, (h.cellAt _ (by omega)).trans e.2.1, (h.cellAt _ (by omega)).trans e.2.2.1, (h.cellAt _ (by omega)).trans e.2.2.2.1, (h.cellAt _ (by omega)).trans e.2.2.2.2.1, (h.cellAt _ (by omega)).trans e.2.2.2.2.2.1, (h.cellAt _ (by omega)).trans e.2.2.2.2.2.2⟩, fun j => h.frozenAt _⟩
/-- The lists of boxes, each owned, none in the row's block. -/
structure LsP (W : World) (B : Nat) (v : Value) (Y : List Y9) : Prop where
  each : ∀ y ∈ Y, OwX W y.lo y.hi y.mv y.gv y.L y.G ∧ B ≤ y.lo
  off : ∀ y ∈ Y, ∀ j, v.ownBlock = some j → j < y.lo ∨ y.hi ≤ j
  apart : Y.Pairwise fun x y => x.hi ≤ y.lo ∨ y.hi ≤ x.lo
theorem LsP.nil (W : World) (B : Nat) (v : Value) : LsP W B v [] := ⟨(fun z hz => by cases hz), (fun z hz => by cases hz), List.Pairwise.nil⟩
theorem LsP.kept {W W' : World} {B : Nat} {v : Value} {Y : List Y9} (h : LsP W B v Y) (hs : W.heap.size ≤ W'.heap.size) (he : ∀ y ∈ Y, ∀ j, y.lo ≤ j → j < y.hi → W'.heap[j]? = W.heap[j]?) : LsP W' B v Y :=
  ⟨fun y hy => ⟨(h.each y hy).1.same (Nat.le_trans (h.each y hy).1.top hs) (he y hy), (h.each y hy).2⟩, h.off, h.apart⟩
theorem LsP.later {W W' : World} {B : Nat} {v : Value} {Y : List Y9} (h : LsP W B v Y) (hb : Below W.heap.size W W') : LsP W' B v Y :=
  h.kept hb.size (fun y hy j _ hj => hb.block j (Nat.lt_of_lt_of_le hj (h.each y hy).1.top))
/-- A store into the row itself. -/
theorem LsP.grown {W W' : World} {B : Nat} {v : Value} {Y : List Y9} (h : LsP W B v Y) (hg : W.grownBy W' v.ownBlock) : LsP W' B v Y :=
  h.kept hg.size (fun y hy j h1 h2 => hg.block j (Nat.lt_of_lt_of_le h2 (h.each y hy).1.top) (fun e => by have := h.off y hy j e.symm; omega))
theorem LsP.snoc {W : World} {B : Nat} {v : Value} {Y : List Y9} (h : LsP W B v Y) (y : Y9) (ho : OwX W y.lo y.hi y.mv y.gv y.L y.G) (hB : B ≤ y.lo) (hv : ∀ j, v.ownBlock = some j → j < y.lo ∨ y.hi ≤ j) (hd : ∀ x ∈ Y, x.hi ≤ y.lo ∨ y.hi ≤ x.lo) : LsP W B v (Y ++ [y]) := by
  refine ⟨fun x hx => ?_, fun x hx => ?_, ?_⟩
  · rcases List.mem_append.1 hx with hx | hx
    · exact h.each x hx
    · simp only [List.mem_cons, List.not_mem_nil, or_false] at hx
      subst hx
      exact ⟨ho, hB⟩
  · rcases List.mem_append.1 hx with hx | hx
    · exact h.off x hx
    · simp only [List.mem_cons, List.not_mem_nil, or_false] at hx
      subst hx
      exact hv
  · rw [List.pairwise_append]
    refine ⟨h.apart, List.pairwise_singleton _ _, fun x hx z hz => ?_⟩
    simp only [List.mem_cons, List.not_mem_nil, or_false] at hz
    subst hz
    exact hd x hx
theorem ymid_set {P : List Y9} {x z : Y9} {C : List Y9} : (P ++ x :: C).set P.length z = P ++ z :: C := by
  rw [List.set_append_right _ _ (Nat.le_refl _)]; simp
set_option maxHeartbeats 8000000 in
set_option maxRecDepth 100000 in
theorem opened_any (lo hh lo' hh' : Nat) (y tm : Int) (ba : Option Addr) (bn bc : Nat) (ga : Option Addr) (gn gc : Nat) (S : List X7) (G : List Int) (w : World) (hl : S.length = bn) (hn : bn ≤ 1048576) (hsm : Sb S) (hm : Bs lo hh w ba S) (hm0 : ba = none → bc = 0) (hgl : G.length = gn) (hgn : gn ≤ 1048576) (hs : Is lo' hh' w ga G) (hg0 : ga = none → gc = 0) :
    Calls Try.prog 60 #[.agg #[.int .i64 y, .int .i64 tm, .slice ba bn bc, .slice ga gn gc]] w fun e w' => e = .returned (.pointer (some ⟨w.heap.size, 0, none⟩)) ∧ ∃ bv gv, Sx w' w.heap.size 25 y tm bv gv ∧ OwT w' (w.heap.size + 1) bv gv S G ∧ Below w.heap.size w w' := by
  obtain ⟨W2, hW2⟩ : ∃ W2, w.alloc (.cells #[.int .i64 y, .int .i64 tm, .slice ba bn bc, .slice ga gn gc] 25) = W2 := ⟨_, rfl⟩
  have a0 : Sx W2 w.heap.size 25 y tm (.slice ba bn bc) (.slice ga gn gc) := by subst hW2; exact Sx.new w _ y tm _ _
  have b0 : Below w.heap.size w W2 := by subst hW2; exact bpush (bre _) _
  have s0 : W2.heap.size = w.heap.size + 1 := by subst hW2; simp
  have c0 := a0.cells
  have X2 := hid a0
  have B2 := hid b0
  have S2 := hid s0
  have HL := hid hl
  have HSM := hid hsm
  have HR := hid hm
  have HM0 := hid hm0
  have HGL := hid hgl
  have HGN := hid hgn
  have HIS := hid hs
  have HG0 := hid hg0
  clear a0 b0 s0 hl hsm hm hm0 hgl hgn hs hg0
  go_enter Try.func60, Try.ntmps60
  go_wp2_with fail
  clear hW2
  refine (cloneBx_any lo hh ba bn bc S W2 HL.out hn (HR.out.later B2.out) HM0.out).mono ?_; rintro e w3 ⟨va, vc, X, rfl, hX1, hX2, hrow, hb3⟩
  have x3 := X2.out.later hb3
  have c0 := x3.cells
  have f0 := x3.loose
  have X3 := hid x3
  have B3 := hid (btr B2.out hb3)
  obtain ⟨RB, hRB⟩ : ∃ RB, W2.heap.size = RB := ⟨_, rfl⟩
  rw [hRB] at hrow
  have HRB : Hid (RB = w.heap.size + 1) := by show _ = _; rw [← hRB]; exact S2.out
  have HRW := hid hrow
  have HX1 := hid hX1
  have HX2 : Hid (∀ W, Below w.heap.size w W → ∀ x ∈ X, Rdx lo hh W x) := fun W hW x hx => by
    obtain ⟨a, c, a', c', h1, h2, h3, h4, h5⟩ := hX2 x hx
    have hh1 := HR.out.1
    have hk : ∀ k, lo ≤ k → k < hh → W.heap[k]? = W2.heap[k]? := fun k _ hk => (hW.block k (by omega)).trans (B2.out.block k (by omega)).symm
    exact ⟨a, c, a', c', h1, h2, h3.same (Nat.le_trans hh1 hW.size) hk, h4.same (Nat.le_trans hh1 hW.size) hk, h5⟩
  have HXL : Hid (X.length = bn) := by show _ = _; have := congrArg List.length hX1; simpa [HL.out] using this
  have HB2 : Hid (RB ≤ w3.heap.size) := by show _ ≤ _; rw [← hRB]; exact hb3.size
  clear hrow hX1 hX2 x3 hb3 S2 hRB X2
  go_wp2_with fail
  obtain ⟨W4, hW4⟩ : ∃ W4, w3.setCell ⟨w.heap.size, 2, none⟩ (.slice va bn vc) = W4 := ⟨_, rfl⟩
  have G4 : w3.grownBy W4 (some w.heap.size) := by subst hW4; exact wst (wre _ _) _ _
  have x4 : Sx W4 w.heap.size 25 y tm (.slice va bn vc) (.slice ga gn gc) := by subst hW4; exact X3.out.s2 _
  have b4 : Below w.heap.size w W4 := B3.out.trans (below_of_grown G4 (Nat.le_refl _) B3.out.size)
  have w4 : W4.ownsRow RB 99 7 (.slice va bn vc) bn (yc X) := World.ownsRow.kept HRW.out G4 (by
    cases hv : Value.ownBlock (.slice va bn vc) with
    | none => exact Or.inl rfl
    | some j => exact Or.inr (fun e => by have := (HRW.out.lt j hv).1; have := HRB.out; simp at e; omega))
  rw [hW4]
  have X4 := hid x4
  have B4 := hid b4
  have W4R := hid w4
  have S4 : Hid (RB ≤ W4.heap.size) := by show _ ≤ _; have h1 := HB2.out; have h2 := G4.size; omega
  clear hW4 c0 f0 x4 b4 w4 G4 X3 B3 HRW
  have c0 := X4.out.cells
  go_wp2
  clear c0
  go_loopw [12] (fun iv wr => ∃ i : Nat, i ≤ bn ∧ iv = .int .i64 (i : Int) ∧ ∃ P : List Y9, P.map yd = S.take i ∧ P.length = i ∧ wr.ownsRow RB 99 7 (.slice va bn vc) bn (yc (P ++ X.drop i)) ∧ LsP wr RB (.slice va bn vc) P ∧ Sx wr w.heap.size 25 y tm (.slice va bn vc) (.slice ga gn gc) ∧ RB ≤ wr.heap.size ∧ Below w.heap.size w wr) (fun iv _ => bn - (intOf iv).toNat)
  case atStart => exact ⟨0, Nat.zero_le _, rfl, [], rfl, rfl, by simpa using W4R.out, LsP.nil _ _ _, X4.out, S4.out, B4.out⟩
  case round =>
    obtain ⟨i, hin, rfl, P, hP1, hP2, hrow, hP3, hsx, hsz, hb⟩ := hrel
    have HP1 := hid hP1
    have HP2 := hid hP2
    have HP3 := hid hP3
    have HRW := hid hrow
    have X5 := hid hsx
    have S5 := hid hsz
    have B5 := hid hb
    have c0 := hsx.cells
    clear hP1 hP2 hP3 hsx hb hsz hrow
    by_cases hlt : i < bn
    · have hix : i < X.length := by rw [HXL.out]; exact hlt
      have hil : i < S.length := by rw [HL.out]; exact hlt
      rcases HRW.out.2 with ⟨_, h2⟩ | ⟨gr, cap, cur, hva, hgr, _⟩
      · omega
      simp only [Value.slice.injEq, true_and] at hva
      obtain ⟨rfl, rfl⟩ := hva
      have hyl : i < (P ++ X.drop i).length := by rw [List.length_append, HP2.out, List.length_drop]; omega
      obtain ⟨d, f⟩ := Ry.spot HRW.out i hyl
      have hyi : (P ++ X.drop i)[i] = X[i] := by
        rw [List.getElem_append_right (by rw [HP2.out]; omega)]
        simp [HP2.out]
      rw [hyi] at d
      have hset := fun (W : World) (h : Ry W RB gr bn vc (P ++ X.drop i)) (z : Y9) => Ry.set h i hlt z
      have hmid : ∀ z, (P ++ X.drop i).set i z = (P ++ [z]) ++ X.drop (i + 1) := fun z => by
        have := ymid_set (P := P) (x := X[i]) (z := z) (C := X.drop (i + 1))
        rw [← List.drop_eq_getElem_cons hix, HP2.out] at this
        rw [this]; simp
      have hxm := HX2.out wr B5.out X[i] (List.getElem_mem hix)
      have hmd : yd X[i] = S[i] := by have e := congrArg (fun l => l[i]?) HX1.out; simpa [hix, hil] using e
      have hmem := HSM.out S[i] (List.getElem_mem hil)
      rw [← hmd] at hmem
      obtain ⟨x, hxe⟩ : ∃ x, X[i] = x := ⟨_, rfl⟩
      rw [hxe] at d hxm hmd hmem
      obtain ⟨g1, nm1, t1, b1, nx1, mv1, gv1, L1, G1, _, _⟩ := x
      obtain ⟨ma1, mc1, ga1, gc1, hf1, hf2, hms, his, hz0, hz1⟩ := hxm
      dsimp only [yd] at hf1 hf2 d hms his hmem hmd
      subst hf1
      subst hf2
      obtain ⟨m1, hm1⟩ : ∃ m1, L1.length = m1 := ⟨_, rfl⟩
      obtain ⟨n1, hn1⟩ : ∃ n1, G1.length = n1 := ⟨_, rfl⟩
      rw [hm1, hn1] at d hmem
      have HM1 := hid hm1
      have HN1 := hid hn1
      have HNM := hid hmem.1
      have HML := hid hmem.2.1
      have HSL := hid hmem.2.2.1
      have HNL := hid hmem.2.2.2
      have HMS := hid hms
      have HI1 := hid his
      have HZ0 := hid hz0
      have HZ1 := hid hz1
      have HMD := hid hmd
      have HST := hid hset
      have HMI := hid hmid
      have HGR := hid hgr
      have hI : (0 : Int) ≤ (i : Int) ∧ (i : Int) < (bn : Int) := by omega
      unfold C7 at d
      clear hm1 hn1 hmem hms his hz0 hz1 hmd hset hmid hgr hyi hxe hyl f
      go_wp2_with fail
      obtain ⟨W1, hW1⟩ : ∃ W1, wr.alloc (.cells #[.int .i64 g1, .string nm1, .int .i64 t1, .int .i64 b1, .int .i64 nx1, .slice ma1 m1 mc1, .slice ga1 n1 gc1] 99) = W1 := ⟨_, rfl⟩
      have A1 : Hid (Bx W1 wr.heap.size 99 g1 nm1 t1 b1 nx1 (.slice ma1 m1 mc1) (.slice ga1 n1 gc1)) := by subst hW1; exact Bx.new _ _ _ _ _ _ _ _ _
      have B1 : Hid (Below wr.heap.size wr W1) := by subst hW1; exact bpush (bre _) _
      rw [hW1]
      have HS : Hid (∀ W, Below W1.heap.size W1 W → (W.cell? ⟨w.heap.size, 0, none⟩ = some (.int .i64 y) ∧ W.cell? ⟨w.heap.size, 1, none⟩ = some (.int .i64 tm) ∧ W.cell? ⟨w.heap.size, 2, none⟩ = some (.slice (some ⟨gr, 0, none⟩) bn vc) ∧ W.cell? ⟨w.heap.size, 3, none⟩ = some (.slice ga gn gc)) ∧ (W.cell? ⟨wr.heap.size, 0, none⟩ = some (.int .i64 g1) ∧ W.cell? ⟨wr.heap.size, 1, none⟩ = some (.string nm1) ∧ W.cell? ⟨wr.heap.size, 2, none⟩ = some (.int .i64 t1) ∧ W.cell? ⟨wr.heap.size, 3, none⟩ = some (.int .i64 b1) ∧ W.cell? ⟨wr.heap.size, 4, none⟩ = some (.int .i64 nx1) ∧ W.cell? ⟨wr.heap.size, 5, none⟩ = some (.slice ma1 m1 mc1) ∧ W.cell? ⟨wr.heap.size, 6, none⟩ = some (.slice ga1 n1 gc1))) := fun W h => ⟨(X5.out.later (btr B1.out h)).cells, (A1.out.later h).cells⟩
      clear c0 d hW1
      refine wp_region_noPanic ?_
      refine wp_region_held_drew (S := (fun W => (W.cell? ⟨w.heap.size, 0, none⟩ = some (.int .i64 y) ∧ W.cell? ⟨w.heap.size, 1, none⟩ = some (.int .i64 tm) ∧ W.cell? ⟨w.heap.size, 2, none⟩ = some (.slice (some ⟨gr, 0, none⟩) bn vc) ∧ W.cell? ⟨w.heap.size, 3, none⟩ = some (.slice ga gn gc)) ∧ (W.cell? ⟨wr.heap.size, 0, none⟩ = some (.int .i64 g1) ∧ W.cell? ⟨wr.heap.size, 1, none⟩ = some (.string nm1) ∧ W.cell? ⟨wr.heap.size, 2, none⟩ = some (.int .i64 t1) ∧ W.cell? ⟨wr.heap.size, 3, none⟩ = some (.int .i64 b1) ∧ W.cell? ⟨wr.heap.size, 4, none⟩ = some (.int .i64 nx1) ∧ W.cell? ⟨wr.heap.size, 5, none⟩ = some (.slice ma1 m1 mc1) ∧ W.cell? ⟨wr.heap.size, 6, none⟩ = some (.slice ga1 n1 gc1)))) (by kernel_rfl) (HS.out _ (bdr (bre _))) (fun hHeld => ?_)
      refine wpAnyH_take (i := 0) (oi := { dst := some 17, op := Op.fieldAddr 25 (Operand.tmp 1) 2, type := 0, pos := "l07_store.go:148", after := #[], guard := none }) (v := ?vb1_0) rfl (by kernel_rfl) (by kernel_rfl) (by kernel_rfl) (fun _ _ _ h => h) (Or.inl ⟨by rfl, ?hyb1_0⟩) (by assumption) ?restb1_0
      case hyb1_0 => (intro w hSw; (try dsimp only at hSw); go_simp; try with_reducible rfl)
      try simp only [Act.put, List.setIfInBounds_toArray, List.set_cons_zero, List.set_cons_succ]
      refine wpAnyH_take (i := 1) (oi := { dst := some 18, op := Op.load 22 (Operand.tmp 17), type := 22, pos := "l07_store.go:148", after := #[{ on := 0, ground := Ground.data }], guard := none }) (v := ?vb2_1) rfl (by kernel_rfl) (by kernel_rfl) (by kernel_rfl) (fun _ _ _ h => h) (Or.inl ⟨by rfl, ?hyb2_1⟩) (by assumption) ?restb2_1
      case hyb2_1 => (intro w hSw; (try dsimp only at hSw); go_simp; try with_reducible rfl)
      try simp only [Act.put, List.setIfInBounds_toArray, List.set_cons_zero, List.set_cons_succ]
      refine wpAnyH_take (i := 2) (oi := { dst := some 19, op := Op.move (Operand.tmp 3), type := 3, pos := "l07_store.go:148", after := #[], guard := none }) (v := ?vb3_2) rfl (by kernel_rfl) (by kernel_rfl) (by kernel_rfl) (fun _ _ _ h => h) (Or.inl ⟨by rfl, ?hyb3_2⟩) (by assumption) ?restb3_2
      case hyb3_2 => (intro w hSw; (try dsimp only at hSw); go_simp; try with_reducible rfl)
      try simp only [Act.put, List.setIfInBounds_toArray, List.set_cons_zero, List.set_cons_succ]
      refine wpAnyH_take (i := 3) (oi := { dst := some 20, op := Op.load 99 (Operand.tmp 4), type := 99, pos := "l07_store.go:148", after := #[], guard := none }) (v := ?vb4_3) rfl (by kernel_rfl) (by kernel_rfl) (by kernel_rfl) (fun _ _ _ h => h) (Or.inl ⟨by rfl, ?hyb4_3⟩) (by assumption) ?restb4_3
      case hyb4_3 => (intro w hSw; (try dsimp only at hSw); go_simp; try with_reducible rfl)
      try simp only [Act.put, List.setIfInBounds_toArray, List.set_cons_zero, List.set_cons_succ]
      clear hHeld
      refine wpAnyH_ready (rs := [4]) (by kernel_rfl) (by simp) ?_
      refine AllReadyH.cons (o := { dst := some 21, op := Op.call { callee := Callee.value (Operand.func 74), args := #[Operand.tmp 20], argTypes := #[99] }, type := 99, pos := "l07_store.go:148", after := #[{ on := 3, ground := Ground.data }], guard := none }) rfl (fun K hK => ?_) AllReadyH.nil
      go_simp
      refine (copyOfBox_any lo hh lo hh g1 nm1 t1 b1 nx1 ma1 m1 mc1 ga1 n1 gc1 L1 G1 _ HNM.out HM1.out HML.out HSL.out (HMS.out.later (btr B1.out (bdr (bre _)))) HZ0.out HN1.out HNL.out (HI1.out.later (btr B1.out (bdr (bre _)))) HZ1.out).mono ?_; rintro e w2 ⟨mv2, gv2, rfl, how, hb2⟩
      have hox := how.owx
      obtain ⟨a2, c2, a3, c3, hv2, hv3, _⟩ := hox.reads
      rw [HM1.out] at hv2
      rw [HN1.out] at hv3
      subst hv2
      subst hv3
      have B2 := hid (show Below wr.heap.size wr w2 from btr (btr B1.out (bdr (bre _))) hb2)
      have hr2 := own_later HRW.out B2.out
      have hsp := Ry.spot hr2 i (by rw [List.length_append, HP2.out, List.length_drop]; omega)
      obtain ⟨e0, e1, e2, e3, e4, e5, e6⟩ := hsp.1
      have f2 := hsp.2
      have hr5 := HST.out w2 hr2 ⟨g1, nm1, t1, b1, nx1, .slice a2 m1 c2, .slice a3 n1 c3, L1, G1, W1.heap.size, w2.heap.size⟩
      rw [HMI.out] at hr5
      have g5 := put7_grown w2 gr (i * 7) ⟨g1, nm1, t1, b1, nx1, .slice a2 m1 c2, .slice a3 n1 c3, L1, G1, W1.heap.size, w2.heap.size⟩
      unfold put7 at hr5 g5
      dsimp only at hr5 g5
      have HR5 := hid hr5
      have HOX := hid (show OwX w2 W1.heap.size w2.heap.size (.slice a2 m1 c2) (.slice a3 n1 c3) L1 G1 from hox)
      have HG5 := hid g5
      have HGN2 : w.heap.size < gr := by have h1 := HRB.out; have h2 := HGR.out; omega
      have HGW : gr < wr.heap.size := (HRW.out.lt gr rfl).2
      have HS5 := hid (And.intro (Sx.cells ((X5.out.later B2.out).off g5 (by omega))) (Bx.cells ((A1.out.later (btr (bdr (bre _)) hb2)).grown g5 (fun e => by simp only [Option.some.injEq] at e; omega))))
      clear hsp hr5 how g5 hr2 hox
      go_wp2_with fail
      refine hK.out _ _ (HS.out _ (btr (bdr (bre _)) hb2)) (fun hHeld => ?_)
      clear hK K
      try simp only [Act.put, List.setIfInBounds_toArray, List.set_cons_zero, List.set_cons_succ]
      refine wpAnyH_take (i := 5) (oi := { dst := some 22, op := Op.indexAddr 22 (Operand.tmp 18) (Operand.tmp 19), type := 0, pos := "l07_store.go:148", after := #[{ on := 1, ground := Ground.data }, { on := 2, ground := Ground.data }, { on := 0, ground := Ground.phase }, { on := 1, ground := Ground.phase }, { on := 2, ground := Ground.phase }, { on := 3, ground := Ground.phase }, { on := 4, ground := Ground.phase }], guard := none }) (v := ?vb5_5) rfl (by kernel_rfl) (by kernel_rfl) (by kernel_rfl) (fun _ _ _ h => h) (Or.inl ⟨by rfl, ?hyb5_5⟩) (by assumption) ?restb5_5
      case hyb5_5 => (intro w hSw; (try dsimp only at hSw); go_simp; try with_reducible rfl)
      try simp only [Act.put, List.setIfInBounds_toArray, List.set_cons_zero, List.set_cons_succ]
      clear hHeld
      refine wpAnyH_ready (rs := [6]) (by kernel_rfl) (by simp) ?_
      refine AllReadyH.cons (o := { dst := none, op := Op.store 99 (Operand.tmp 22) (Operand.tmp 21), type := 0, pos := "l07_store.go:148", after := #[{ on := 5, ground := Ground.data }, { on := 4, ground := Ground.data }, { on := 4, ground := Ground.chain }, { on := 0, ground := Ground.phase }, { on := 1, ground := Ground.phase }, { on := 2, ground := Ground.phase }, { on := 3, ground := Ground.phase }, { on := 4, ground := Ground.phase }], guard := none }) rfl (fun K hK => ?_) AllReadyH.nil
      go_simp
      refine hK.out _ _ (HS5.out) (fun hHeld => ?_)
      clear hK K
      try simp only [Act.put, List.setIfInBounds_toArray, List.set_cons_zero, List.set_cons_succ]
      refine wpAnyH_done (by kernel_rfl) ?_ _
      refine NoPanic.normal ?_
      clear hHeld
      obtain ⟨W5, hW5⟩ : ∃ W5, ((((((w2.setCell ⟨gr, i * 7, none⟩ (.int .i64 g1)).setCell ⟨gr, i * 7 + 1, none⟩ (.string nm1)).setCell ⟨gr, i * 7 + 2, none⟩ (.int .i64 t1)).setCell ⟨gr, i * 7 + 3, none⟩ (.int .i64 b1)).setCell ⟨gr, i * 7 + 4, none⟩ (.int .i64 nx1)).setCell ⟨gr, i * 7 + 5, none⟩ (.slice a2 m1 c2)).setCell ⟨gr, i * 7 + 6, none⟩ (.slice a3 n1 c3) = W5 := ⟨_, rfl⟩
      rw [hW5] at HR5 HG5 HS5 ⊢
      have x5 := (X5.out.later B2.out).off HG5.out (by omega)
      have s5 : RB ≤ W5.heap.size := by have h1 := S5.out; have h2 := B2.out.size; have h3 := HG5.out.size; omega
      have b5 : Below w.heap.size w W5 := (btr B5.out B2.out).trans (below_of_grown HG5.out (by omega) (by have h1 := B5.out.size; have h2 := B2.out.size; omega))
      have hb1s := B1.out.size
      have p3 : LsP W5 RB (.slice (some ⟨gr, 0, none⟩) bn vc) (P ++ [⟨g1, nm1, t1, b1, nx1, .slice a2 m1 c2, .slice a3 n1 c3, L1, G1, W1.heap.size, w2.heap.size⟩]) := by
        refine ((HP3.out.later B2.out).snoc ⟨g1, nm1, t1, b1, nx1, .slice a2 m1 c2, .slice a3 n1 c3, L1, G1, W1.heap.size, w2.heap.size⟩ HOX.out (by have h1 := S5.out; show RB ≤ W1.heap.size; omega) (fun j hj => ?_) (fun x hx => .inl ?_)).grown HG5.out
        · have e : j = gr := by simpa [Value.ownBlock] using hj.symm
          exact .inl (by rw [e]; show gr < W1.heap.size; omega)
        · show x.hi ≤ W1.heap.size
          exact Nat.le_trans (HP3.out.each x hx).1.top hb1s
      have X6 := hid x5
      have S6 := hid s5
      have B6 := hid b5
      have P3 := hid p3
      have P1 : Hid ((P ++ [(⟨g1, nm1, t1, b1, nx1, .slice a2 m1 c2, .slice a3 n1 c3, L1, G1, W1.heap.size, w2.heap.size⟩ : Y9)]).map yd = S.take (i + 1)) := by
        show _ = _
        rw [List.map_append, HP1.out, List.take_succ_eq_append_getElem hil, ← HMD.out]; rfl
      have P2 : Hid ((P ++ [(⟨g1, nm1, t1, b1, nx1, .slice a2 m1 c2, .slice a3 n1 c3, L1, G1, W1.heap.size, w2.heap.size⟩ : Y9)]).length = i + 1) := by
        show _ = _
        rw [List.length_append, HP2.out]; rfl
      clear x5 s5 b5 p3 hW5 e0 e1 e2 e3 e4 e5 e6 f2 hb2 hb1s HGN2 HGW
      go_wp2
      go_roundw
      case rel => exact ⟨i + 1, by omega, by go_num, _, P1.out, P2.out, HR5.out, P3.out, X6.out, S6.out, B6.out⟩
      case measure => simp [intOf]; omega
    · have him : i = bn := by omega
      have HE : Hid (P.map yd = S) := by show _ = _; rw [HP1.out, List.take_of_length_le (by rw [HL.out]; omega)]
      have HOZ : Hid (OwS wr RB (.slice va bn vc) P) := by
        have h := HRW.out
        rw [List.drop_of_length_le (by rw [HXL.out]; omega), List.append_nil] at h
        refine ⟨?_, HP3.out.each, HP3.out.off, HP3.out.apart⟩
        rw [HP2.out, him]; exact h
      clear him
      go_wp2_with fail
      refine (cloneI_any lo' hh' ga gn gc G _ HGL.out HGN.out (HIS.out.later B5.out) HG0.out).mono ?_; rintro e w6 ⟨gv, rfl, hown6, hb6⟩
      obtain ⟨ag, cg, hgv, _⟩ := hown6.shape
      rw [HGL.out] at hgv
      subst hgv
      have x6 := X5.out.later hb6
      have k2 := x6.cells
      have f2 := x6.loose
      have X6 := hid x6
      have B6 := hid hb6
      have O6 := hid hown6
      clear x6 hb6 hown6 c0
      go_wp2
      have k2 := X6.out.s3 (.slice ag gn cg)
      have e1 : w6.grownBy (w6.setCell ⟨w.heap.size, 3, none⟩ (.slice ag gn cg)) (some w.heap.size) := wst (wre _ _) _ _
      have HD := Dj.later HOZ.out.row O6.out (Nat.le_refl _)
      have h1 := HRB.out
      have h2 := S5.out
      have h3 := B5.out.size
      have h4 := B6.out.size
      have h5 := e1.size
      go_ret
      refine ⟨rfl, _, _, k2, ⟨P, HE.out, ?_, ?_, HD, fun y hy j hj => ?_⟩, ?_⟩
      · exact ((HOZ.out.later B6.out).grown e1 (by omega)).base (by omega)
      · exact own_base (OwI.grown O6.out e1 (by omega)) (by omega)
      · have h6 := (HP3.out.each y hy).1.top
        have h7 := (O6.out.lt j hj).1
        exact .inr (by omega)
      · exact (btr B5.out B6.out).trans (below_of_grown e1 (Nat.le_refl _) (by omega))
/-- A box of an owned store stored anew: its lists are newer than the store. -/
theorem OwT.put {W0 W : World} {B g n c : Nat} {gv : Value} {S : List X7} {G : List Int} (h : OwT W0 B (.slice (some ⟨g, 0, none⟩) n c) gv S G) (hb : Below W0.heap.size W0 W) (i : Nat) (hi : i < S.length) (y : Y9) (ho : OwX W y.lo y.hi y.mv y.gv y.L y.G) (hB : B ≤ W0.heap.size) (hW : W0.heap.size ≤ y.lo) :
    OwT (put7 W g (i * 7) y) B (.slice (some ⟨g, 0, none⟩) n c) gv (S.set i (yd y)) G := by
  obtain ⟨Y, h1, h2, h3, h4, h5⟩ := h.own
  have hlen : Y.length = S.length := by rw [← h1, List.length_map]
  have hgr := put7_grown W g (i * 7) y
  have k2 := h2.later hb
  have k3 := own_later h3 hb
  have hg := (h2.row.lt g rfl).2
  refine ⟨Y.set i y, ?_, k2.stored i (by omega) y ho (by omega) (.inl (by omega)) (fun x hx => .inl (Nat.le_trans (h2.each x hx).1.top hW)), ?_, h4, fun z hz j hj => ?_⟩
  · rw [← h1, List.map_set]
  · exact World.ownsRow.kept k3 hgr (by
      cases hv : Value.ownBlock gv with
      | none => exact Or.inl rfl
      | some j => exact Or.inr (fun e => by simp only [Option.some.injEq] at e; subst e; exact h4 _ hv rfl))
  · rcases mem_set hz with hz | rfl
    · exact h5 z hz j hj
    · have := (h3.lt j hj).2
      exact .inl (by omega)
/-- What is read of the i-th box of an owned store. -/
theorem OwT.cells {W : World} {B g n c : Nat} {gv : Value} {S : List X7} {G : List Int} (h : OwT W B (.slice (some ⟨g, 0, none⟩) n c) gv S G) (i : Nat) (hi : i < S.length) :
    ∃ ma mc ga gc, C7 W g (i * 7) S[i].1 S[i].2.1 S[i].2.2.1 S[i].2.2.2.1 S[i].2.2.2.2.1 (.slice ma S[i].2.2.2.2.2.1.length mc) (.slice ga S[i].2.2.2.2.2.2.length gc) ∧ Ms B W.heap.size W ma S[i].2.2.2.2.2.1 ∧ Is B W.heap.size W ga S[i].2.2.2.2.2.2 ∧ (ma = none → mc = 0) ∧ (ga = none → gc = 0) ∧ ∀ j, W.frozen? ⟨g, j, none⟩ = false := by
  obtain ⟨Y, h1, h2, h3, h4, h5⟩ := h.own
  have hb := h2.bs.2
  rw [h1] at hb
  obtain ⟨k, o, ma, mc, ga, gc, e1, _, d, m1, m2, m3, m4⟩ := hb.at hi
  simp only [Option.some.injEq, Addr.mk.injEq, and_true] at e1
  obtain ⟨rfl, rfl⟩ := e1
  refine ⟨ma, mc, ga, gc, by simpa using d, m1, m2, m3, m4, (h2.spot i (by rw [← h1, List.length_map] at hi; exact hi)).2⟩
/-- The lists of a store that a call owns, none of them in a block of P. -/
structure OwN (W : World) (B : Nat) (P : Nat → Prop) (bv gv : Value) (S : List X7) (G : List Int) : Prop where
  own : ∃ Y, Y.map yd = S ∧ OwS W B bv Y ∧ OwI W B gv G ∧ Dj gv bv ∧ (∀ y ∈ Y, ∀ j, gv.ownBlock = some j → j < y.lo ∨ y.hi ≤ j) ∧ (∀ j, bv.ownBlock = some j → ¬ P j) ∧ (∀ j, gv.ownBlock = some j → ¬ P j) ∧ ∀ y ∈ Y, ∀ j, y.lo ≤ j → j < y.hi → ¬ P j
section
variable {W W' : World} {B B' : Nat} {P : Nat → Prop} {bv gv : Value} {S : List X7} {G : List Int}
theorem OwT.far (h : OwT W B bv gv S G) (hk : ∀ j, P j → W.heap.size ≤ j ∨ j < B) : OwN W B P bv gv S G := by
  obtain ⟨Y, h1, h2, h3, h4, h5⟩ := h.own
  exact ⟨Y, h1, h2, h3, h4, h5, fun j e hp => by have h6 := h2.row.lt j e; have h7 := hk j hp; omega, fun j e hp => by have h6 := h3.lt j e; have h7 := hk j hp; omega, fun y hy j j1 j2 hp => by have h6 := h2.each y hy; have h7 := hk j hp; have h8 := h6.1.top; have h9 := h6.2; omega⟩
theorem OwN.later (h : OwN W B P bv gv S G) (hb : Below W.heap.size W W') : OwN W' B P bv gv S G := by
  obtain ⟨Y, h1, h2, h3, h4, h5, h6⟩ := h.own
  exact ⟨Y, h1, h2.later hb, own_later h3 hb, h4, h5, h6⟩
theorem OwN.base (h : OwN W B' P bv gv S G) (hB : B ≤ B') : OwN W B P bv gv S G := by
  obtain ⟨Y, h1, h2, h3, h4, h5, h6⟩ := h.own
  exact ⟨Y, h1, h2.base hB, own_base h3 hB, h4, h5, h6⟩
/-- A store into the block beside. -/
theorem OwN.set {k : Nat} (h : OwN W B P bv gv S G) (hg : W.grownBy W' (some k)) (hk : P k) : OwN W' B P bv gv S G := by
  obtain ⟨Y, h1, h2, h3, h4, h5, h6, h7, h8⟩ := h.own
  refine ⟨Y, h1, h2.kept hg.size (fun j hj => hg.block j (h2.row.lt j hj).2 (fun e => by simp only [Option.some.injEq] at e; subst e; exact h6 _ hj hk)) (fun y hy j hj1 hj2 => hg.block j (Nat.lt_of_lt_of_le hj2 (h2.each y hy).1.top) (fun e => ?_)), World.ownsRow.kept h3 hg (.inr (fun e => h7 k e hk)), h4, h5, h6, h7, h8⟩
  simp only [Option.some.injEq] at e
  subst e
  exact h8 y hy _ hj1 hj2 hk
end
/-- A box stored anew: its lists are older than the store. -/
theorem OwN.put {W : World} {B B' g n c : Nat} {P : Nat → Prop} {gv : Value} {S : List X7} {G : List Int} (h : OwN W B' P (.slice (some ⟨g, 0, none⟩) n c) gv S G) (i : Nat) (hi : i < S.length) (y : Y9) (ho : OwX W y.lo y.hi y.mv y.gv y.L y.G) (hB : B ≤ y.lo) (hB2 : B ≤ B') (hy : y.hi ≤ B') (hk : ∀ j, y.lo ≤ j → j < y.hi → ¬ P j) :
    OwN (put7 W g (i * 7) y) B P (.slice (some ⟨g, 0, none⟩) n c) gv (S.set i (yd y)) G := by
  obtain ⟨Y, h1, h2, h3, h4, h5, h6, h7, h8⟩ := h.own
  have hlen : Y.length = S.length := by rw [← h1, List.length_map]
  have hgr := put7_grown W g (i * 7) y
  have hg := (h2.row.lt g rfl).1
  refine ⟨Y.set i y, ?_, (h2.base hB2).stored i (by omega) y ho hB (.inr (by omega)) (fun x hx => .inr (Nat.le_trans hy (h2.each x hx).2)), ?_, h4, fun z hz j hj => ?_, h6, h7, fun z hz => ?_⟩
  · rw [← h1, List.map_set]
  · exact World.ownsRow.kept (own_base h3 hB2) hgr (by
      cases hv : Value.ownBlock gv with
      | none => exact Or.inl rfl
      | some j => exact Or.inr (fun e => by simp only [Option.some.injEq] at e; subst e; exact h4 _ hv rfl))
  · rcases mem_set hz with hz | rfl
    · exact h5 z hz j hj
    · have := (h3.lt j hj).1
      exact .inr (by omega)
  · rcases mem_set hz with hz | rfl
    · exact h8 z hz
    · exact hk
theorem OwN.lt {W : World} {B g n c : Nat} {P : Nat → Prop} {gv : Value} {S : List X7} {G : List Int} (h : OwN W B P (.slice (some ⟨g, 0, none⟩) n c) gv S G) : B ≤ g ∧ g < W.heap.size ∧ ¬ P g := by
  obtain ⟨Y, _, h2, _, _, _, h6, _⟩ := h.own
  have := h2.row.lt g rfl
  exact ⟨this.1, this.2, h6 g rfl⟩
set_option maxHeartbeats 800000 in
set_option maxRecDepth 100000 in
theorem markRS6_any (B g n cap k : Nat) (l : List R3) (w : World) (hown : Ow w B (.slice (some ⟨g, 0, none⟩) n cap) l) (hl : l.length = n) (hn : n ≤ 1048576) (hk : k ≤ 6291456) :
    Calls Try.prog 79 #[.slice (some ⟨g, 0, none⟩) n cap, .int .i64 (k : Int)] w fun e w' => e = .returned (.int .i64 ((k + n * 3 : Nat) : Int)) ∧ Ow w' B (.slice (some ⟨g, 0, none⟩) n cap) (mks k n) ∧ w.grownBy w' (some g) := by
  have HO := hid hown
  have HL := hid hl
  clear hown hl
  go_enter Try.func79, Try.ntmps79
  go_wp2
  go_loopw [1, 5] (fun kv iv wr => ∃ i : Nat, i ≤ n ∧ kv = .int .i64 ((k + i * 3 : Nat) : Int) ∧ iv = .int .i64 (i : Int) ∧ Ow wr B (.slice (some ⟨g, 0, none⟩) n cap) (mkd k l i) ∧ w.grownBy wr (some g)) (fun _ iv _ => n - (intOf iv).toNat)
  case atStart => exact ⟨0, Nat.zero_le _, by simp, rfl, by rw [mkd_zero]; exact HO.out, wre _ _⟩
  case round =>
    obtain ⟨i, hi, rfl, rfl, hown, hb⟩ := hrel
    have HOW := hid hown
    have HG := hid hb
    clear hown hb
    by_cases hlt : i < n
    · have hil : i < l.length := by rw [HL.out]; exact hlt
      have hil' : i < (mkd k l i).length := by rw [mkd_len _ _ _ (by omega)]; exact hil
      obtain ⟨x, y, z, hc, hf⟩ := Ow.spot HOW.out i hil'
      obtain ⟨q, hq⟩ : ∃ q : Nat, k + i * 3 = q := ⟨_, rfl⟩
      have HQ := hid hq
      have hqb : q ≤ 9500000 := by omega
      rw [hq]
      have HST := hid (Ow.stored HOW.out i hil' ((q : Int), (q : Int) + 1, (q : Int) + 1 + 1))
      clear hq hil'
      go_wp2
      go_roundw
      case rel => exact ⟨i + 1, by omega, by rw [show ((k + (i + 1) * 3 : Nat) : Int) = (q : Int) + 1 + 1 + 1 by have := HQ.out; omega], by go_num, HST.out.cast (mkd_set k l i hil _ (by rw [HQ.out]; rfl)), wst (wst (wst HG.out _ _) _ _) _ _⟩
      case measure => simp [intOf]; omega
    · have HE : Hid (i = l.length) := by show _ = _; rw [HL.out]; omega
      have HN : Hid (i = n) := by show _ = _; omega
      go_wp2
      go_ret
      exact ⟨by rw [HN.out]; rfl, HOW.out.cast (by rw [HE.out, mkd_all, HL.out]), HG.out⟩
set_option maxHeartbeats 800000 in
set_option maxRecDepth 100000 in
theorem heldRS6_any (B g n cap k : Nat) (w : World) (hown : Ow w B (.slice (some ⟨g, 0, none⟩) n cap) (mks k n)) (hn : n ≤ 1048576) (hk : k ≤ 6291456) :
    Calls Try.prog 80 #[.slice (some ⟨g, 0, none⟩) n cap, .int .i64 (k : Int)] w fun e w' => e = .returned (.int .i64 ((k + n * 3 : Nat) : Int)) ∧ w' = w := by
  have HO := hid hown
  clear hown
  go_enter Try.func80, Try.ntmps80
  go_wp2
  go_loop [1, 5] (fun kv iv => ∃ i : Nat, i ≤ n ∧ kv = .int .i64 ((k + i * 3 : Nat) : Int) ∧ iv = .int .i64 (i : Int)) (fun _ iv => n - (intOf iv).toNat)
  case atStart => exact ⟨0, Nat.zero_le _, by simp, rfl⟩
  case round =>
    obtain ⟨i, hi, rfl, rfl⟩ := hrel
    by_cases hlt : i < n
    · have hil : i < (mks k n).length := by rw [mks_len]; exact hlt
      obtain ⟨k', o', e, hk', c⟩ := (Ow.rs HO.out).2.at hil
      simp only [Option.some.injEq, Addr.mk.injEq, and_true] at e
      obtain ⟨rfl, rfl⟩ := e
      rw [mks_at] at c
      obtain ⟨q, hq⟩ : ∃ q : Nat, k + i * 3 = q := ⟨_, rfl⟩
      have HQ := hid hq
      have hqb : q ≤ 9500000 := by omega
      rw [hq] at c ⊢
      simp only [Nat.zero_add] at c
      rw [show ((q + 1 : Nat) : Int) = (q : Int) + 1 by omega, show ((q + 2 : Nat) : Int) = (q : Int) + 1 + 1 by omega] at c
      have e1 : ((q : Int) != (q : Int)) = false := by simp
      have e2 : ((q : Int) + 1 != (q : Int) + 1) = false := by simp
      have e3 : ((q : Int) + 1 + 1 != (q : Int) + 1 + 1) = false := by simp
      clear hq
      go_wp2
      go_round
      case rel => exact ⟨i + 1, by omega, by rw [show ((k + (i + 1) * 3 : Nat) : Int) = (q : Int) + 1 + 1 + 1 by have := HQ.out; omega], by go_num⟩
      case measure => simp [intOf]; omega
    · have HN : Hid (i = n) := by show _ = _; omega
      go_wp2
      go_ret
      exact ⟨by rw [HN.out]; rfl, rfl⟩
theorem markRS6_gen (B : Nat) (a : Option Addr) (n cap k : Nat) (l : List R3) (w : World) (hown : Ow w B (.slice a n cap) l) (hl : l.length = n) (hn : n ≤ 1048576) (hk : k ≤ 6291456) :
    Calls Try.prog 79 #[.slice a n cap, .int .i64 (k : Int)] w fun e w' => e = .returned (.int .i64 ((k + n * 3 : Nat) : Int)) ∧ Ow w' B (.slice a n cap) (mks k n) ∧ w.grownBy w' (Value.ownBlock (.slice a n cap)) := by
  by_cases h0 : 0 < n
  · obtain ⟨k0, rfl⟩ := own_some hown h0
    exact markRS6_any B k0 n cap k l w hown hl hn hk
  · obtain rfl : n = 0 := by omega
    obtain rfl : l = [] := List.eq_nil_of_length_eq_zero hl
    refine (markRS_zero a cap k w).mono ?_
    rintro e w1 ⟨rfl, h1⟩
    subst h1
    exact ⟨by simp, hown, wre _ _⟩
theorem heldRS6_gen (B : Nat) (a : Option Addr) (n cap k : Nat) (w : World) (hown : Ow w B (.slice a n cap) (mks k n)) (hn : n ≤ 1048576) (hk : k ≤ 6291456) :
    Calls Try.prog 80 #[.slice a n cap, .int .i64 (k : Int)] w fun e w' => e = .returned (.int .i64 ((k + n * 3 : Nat) : Int)) ∧ w' = w := by
  by_cases h0 : 0 < n
  · obtain ⟨k0, rfl⟩ := own_some hown h0
    exact heldRS6_any B k0 n cap k w hown hn hk
  · obtain rfl : n = 0 := by omega
    refine (heldRS_zero a cap k w).mono ?_
    rintro e w1 ⟨rfl, h1⟩
    subst h1
    exact ⟨by simp, rfl⟩
set_option maxHeartbeats 8000000 in
set_option maxRecDepth 100000 in
theorem markMS6_any (P : Nat → Prop) (B : Nat) (a : Option Addr) (n cap k : Nat) (Z : List Z5) (w : World) (hown : OwZ w B (.slice a n cap) Z) (hl : Z.length = n) (hn : n ≤ 1048576) (hk : 0 < k) (hkz : kz k Z ≤ 6291456) (hsm : Sm (Z.map md)) (hv : ∀ j, Value.ownBlock (.slice a n cap) = some j → P j) (he : ∀ z ∈ Z, ∀ j, z.2.2.1.ownBlock = some j → P j) :
    Calls Try.prog 68 #[.slice a n cap, .int .i64 (k : Int)] w fun e w' => e = .returned (.int .i64 (kz k Z : Int)) ∧ OwZ w' B (.slice a n cap) (mzs k Z) ∧ Chg P w w' := by
  have HO := hid hown
  have HL := hid hl
  have HV := hid hv
  have HEE := hid he
  have HK := hid hk
  have HKZ := hid hkz
  have HSM := hid hsm
  clear hown hl hv he hk hkz hsm
  go_enter Try.func68, Try.ntmps68
  go_wp2
  go_loopw [1, 5] (fun kv iv wr => ∃ i : Nat, i ≤ n ∧ kv = .int .i64 ((kz k (Z.take i) : Nat) : Int) ∧ iv = .int .i64 (i : Int) ∧ OwZ wr B (.slice a n cap) (mzs k (Z.take i) ++ Z.drop i) ∧ Chg P w wr) (fun _ iv _ => n - (intOf iv).toNat)
  case atStart => exact ⟨0, Nat.zero_le _, by simp [kz], rfl, by simpa [mzs] using HO.out, Chg.refl _ _⟩
  case round =>
    obtain ⟨i, hin, rfl, rfl, hown, hc⟩ := hrel
    have HOW := hid hown
    have HC := hid hc
    clear hown hc
    by_cases hlt : i < n
    · have hiz : i < Z.length := by rw [HL.out]; exact hlt
      have hz := dropc hiz
      have hpl : (mzs k (Z.take i)).length = i := by rw [mzs_len, List.length_take]; omega
      have hown := HOW.out
      rw [hz] at hown
      rcases hown.row.2 with ⟨_, h2⟩ | ⟨gr, cap', cur, h1, hB, _⟩
      · exfalso
        rw [List.length_append, List.length_cons] at h2
        omega
      simp only [Value.slice.injEq] at h1
      obtain ⟨rfl, -, rfl⟩ := h1
      have hyl : i < (mzs k (Z.take i) ++ Z[i] :: Z.drop (i + 1)).length := by rw [List.length_append, hpl, List.length_cons]; omega
      obtain ⟨c, f⟩ := hown.spot i hyl
      have hyi : (mzs k (Z.take i) ++ Z[i] :: Z.drop (i + 1))[i] = Z[i] := by
        rw [List.getElem_append_right (by omega)]
        simp [hpl]
      rw [hyi] at c
      have hkq := kz_snoc k (Z.take i) Z[i]
      have hmq := mzs_snoc k (Z.take i) Z[i]
      rw [← List.take_succ_eq_append_getElem hiz] at hkq hmq
      have hlim := Nat.le_trans (kz_take k Z (i + 1)) HKZ.out
      have hge := kz_le k (Z.take i)
      have hset := zc_set3 (mzs k (Z.take i) ++ Z[i] :: Z.drop (i + 1)) i (mz1 (kz k (Z.take i)) Z[i]) hyl (by rw [hyi]; rfl)
      have hmid := mid_set (P := mzs k (Z.take i)) (x := Z[i]) (z := mz1 (kz k (Z.take i)) Z[i]) (C := Z.drop (i + 1))
      rw [hpl] at hmid
      rw [hmid] at hset
      have hmem : Z[i] ∈ mzs k (Z.take i) ++ Z[i] :: Z.drop (i + 1) := List.mem_append.2 (.inr (List.mem_cons_self ..))
      have heach := hown.each Z[i] hmem
      have hoff := far_of hown hmem
      have hbl := HEE.out Z[i] (List.getElem_mem hiz)
      have hmb := (HSM.out (md Z[i]) (List.mem_map_of_mem (List.getElem_mem hiz))).1
      obtain ⟨q, hq⟩ : ∃ q : Nat, kz k (Z.take i) = q := ⟨_, rfl⟩
      rw [hq] at hkq hmq hset hmid hge
      obtain ⟨x, hxe⟩ : ∃ x, Z[i] = x := ⟨_, rfl⟩
      rw [hxe] at c hkq hmq hset hmid heach hoff hbl hown hmb
      obtain ⟨g1, u1, f1, l1, t1⟩ := x
      obtain ⟨fa, fc, hf1, _⟩ := Ow.shape heach
      dsimp only at hf1
      subst hf1
      obtain ⟨m, hm⟩ : ∃ m, l1.length = m := ⟨_, rfl⟩
      simp only [mz1, kz1] at hset hkq hmq hmid
      dsimp only at c heach hoff hbl
      dsimp only [md] at hmb
      rw [hm] at c hkq heach hoff hbl hmb
      have hlq : q + 2 + m * 3 + 1 ≤ 6291456 := by rw [← hkq]; exact hlim
      have HM := hid hm
      have HOW2 := hid hown
      have HSET := hid hset
      have HKQ := hid hkq
      have HMQ := hid hmq
      have HEA := hid heach
      have HOF := hid hoff
      have HBL := hid hbl
      have HHI := hid (HV.out gr rfl)
      have HBG := hid hB
      have HPL := hid hpl
      have HK0 := HK.out
      rw [hq]
      clear hown hset hkq hmq hmid heach hoff hbl hB hyl hyi hz hm hxe hq hlim hpl hmem
      go_wp2_with fail
      rw [show ((q : Int) + 1 + 1) = ((q + 2 : Nat) : Int) by omega]
      obtain ⟨W2, hW2⟩ : ∃ W2, W2 = (wr.setCell ⟨gr, i * 4, none⟩ (Value.int IntKind.i64 q)).setCell ⟨gr, i * 4 + 1, none⟩ (Value.int IntKind.i64 (q + 1)) := ⟨_, rfl⟩
      rw [← hW2]
      have g2 : wr.grownBy W2 (some gr) := by rw [hW2]; exact wst (wst (wre _ _) _ _) _ _
      have HG2 := hid g2
      have HW2 := hid hW2
      clear hW2 g2
      refine (markRS6_gen B fa m fc (q + 2) l1 W2 (World.ownsRow.kept HEA.out HG2.out (Or.inr HOF.out)) HM.out hmb (by omega)).mono ?_; rintro e w1 ⟨rfl, ho1, hg1⟩
      have HO1 := hid ho1
      have HG1 := hid hg1
      clear ho1 hg1
      obtain ⟨p, hp⟩ : ∃ p : Nat, q + 2 + m * 3 = p := ⟨_, rfl⟩
      rw [hp] at HKQ hlq ⊢
      have HP := hid hp
      have hp0 : 0 < p := by omega
      clear hp
      go_wp2_with fail
      refine (markText_any p w1 hp0 (by omega)).mono ?_; rintro e w2 ⟨rfl, hb2⟩
      have HTH := OwZ.three (W1 := w1) (W2 := w2) (z' := ((q : Int), ((q + 1 : Nat) : Int), Value.slice fa l1.length fc, mks (q + 2) l1.length, mtx6 (q + 2 + l1.length * 3))) HOW2.out HPL.out rfl (by dsimp only; rw [HM.out, show ((q + 1 : Nat) : Int) = (q : Int) + 1 by omega, ← HW2.out]; exact HG1.out) (by dsimp only; rw [HM.out]; exact HO1.out) hb2
      obtain ⟨⟨ck, fk⟩, hz⟩ := HTH
      dsimp only at ck hz
      rw [HM.out, HP.out] at hz
      have HZ := hid hz
      have HB2 := hid hb2
      clear hz hb2
      have HCH : Hid (Chg P wr w2) := Chg.trans (Chg.trans (Chg.of_grown HG2.out (fun j hj => by simp only [Option.some.injEq] at hj; subst hj; exact HHI.out)) (Chg.of_grown HG1.out (fun j hj => HBL.out j hj))) (Chg.of_below HB2.out)
      go_wp2
      go_roundw
      case rel =>
        refine ⟨i + 1, by omega, by rw [HKQ.out]; simp, by go_num, ?_, Chg.trans HC.out (Chg.trans HCH.out (Chg.of_grown (r := some gr) (wst (wre _ _) _ _) (fun j hj => by simp only [Option.some.injEq] at hj; subst hj; exact HHI.out)))⟩
        rw [HMQ.out, List.append_assoc, HM.out, HP.out]
        exact HZ.out
      case measure => simp [intOf]; omega
    · have HE1 : Hid (Z.take i = Z) := List.take_of_length_le (by rw [HL.out]; omega)
      have HE2 : Hid (Z.drop i = []) := List.drop_of_length_le (by rw [HL.out]; omega)
      go_wp2
      go_ret
      have h := HOW.out
      rw [HE1.out, HE2.out, List.append_nil] at h
      exact ⟨by rw [HE1.out]; rfl, h, HC.out⟩
set_option maxHeartbeats 8000000 in
set_option maxRecDepth 100000 in
theorem heldMS6_any (B : Nat) (a : Option Addr) (n cap k : Nat) (Z : List Z5) (w : World) (hown : OwZ w B (.slice a n cap) (mzs k Z)) (hl : Z.length = n) (hn : n ≤ 1048576) (hk : 0 < k) (hkz : kz k Z ≤ 6291456) (hsm : Sm (Z.map md)) :
    Calls Try.prog 69 #[.slice a n cap, .int .i64 (k : Int)] w fun e w' => e = .returned (.int .i64 (kz k Z : Int)) ∧ Below w.heap.size w w' := by
  have HO := hid hown
  have HL := hid hl
  have HK := hid hk
  have HKZ := hid hkz
  have HSM := hid hsm
  clear hown hl hk hkz hsm
  go_enter Try.func69, Try.ntmps69
  go_wp2
  go_loopw [1, 5] (fun kv iv wr => ∃ i : Nat, i ≤ n ∧ kv = .int .i64 ((kz k (Z.take i) : Nat) : Int) ∧ iv = .int .i64 (i : Int) ∧ Below w.heap.size w wr) (fun _ iv _ => n - (intOf iv).toNat)
  case atStart => exact ⟨0, Nat.zero_le _, by simp [kz], rfl, bre _⟩
  case round =>
    obtain ⟨i, hin, rfl, rfl, hb⟩ := hrel
    have HB := hid hb
    clear hb
    by_cases hlt : i < n
    · have hiz : i < Z.length := by rw [HL.out]; exact hlt
      have hown := HO.out.later HB.out
      have hyl : i < (mzs k Z).length := by rw [mzs_len]; exact hiz
      rcases hown.row.2 with ⟨_, h2⟩ | ⟨gr, cap', cur, h1, hB, hr⟩
      · exfalso
        omega
      simp only [Value.slice.injEq] at h1
      obtain ⟨rfl, -, rfl⟩ := h1
      clear hr
      obtain ⟨c, -⟩ := hown.spot i hyl
      have heach := hown.each _ (List.getElem_mem hyl)
      rw [mzs_at k Z i hiz hyl] at c heach
      have hkq := kz_snoc k (Z.take i) Z[i]
      rw [← List.take_succ_eq_append_getElem hiz] at hkq
      have hlim := Nat.le_trans (kz_take k Z (i + 1)) HKZ.out
      have hge := kz_le k (Z.take i)
      have hmb := (HSM.out (md Z[i]) (List.mem_map_of_mem (List.getElem_mem hiz))).1
      have hgr : gr < wr.heap.size := (hown.row.lt gr rfl).2
      obtain ⟨q, hq⟩ : ∃ q : Nat, kz k (Z.take i) = q := ⟨_, rfl⟩
      rw [hq] at hkq hge c heach
      obtain ⟨x, hxe⟩ : ∃ x, Z[i] = x := ⟨_, rfl⟩
      rw [hxe] at c hkq heach hmb
      obtain ⟨g1, u1, f1, l1, t1⟩ := x
      simp only [mz1, kz1] at c heach hkq
      obtain ⟨m, hm⟩ : ∃ m, l1.length = m := ⟨_, rfl⟩
      dsimp only [md] at hmb
      rw [hm] at c heach hkq hmb
      obtain ⟨fa, fc, hf1, -⟩ := Ow.shape heach
      rw [mks_len] at hf1
      subst hf1
      have hlq : q + 2 + m * 3 + 1 ≤ 6291456 := by rw [← hkq]; exact hlim
      obtain ⟨p, hp⟩ : ∃ p : Nat, q + 2 + m * 3 = p := ⟨_, rfl⟩
      rw [hp] at hkq hlq c
      have hqb : q + 3 ≤ 6291456 := by omega
      have HP := hid hp
      have HKQ := hid hkq
      have HEA := hid heach
      have HK0 := HK.out
      have hp0 : 0 < p := by omega
      obtain ⟨tx, htx⟩ : ∃ tx, mtx6 p = tx := ⟨_, rfl⟩
      rw [htx] at c
      have HTX := hid htx
      have e1 : ((q : Int) != (q : Int)) = false := by simp
      have e2 : (((q : Int) + 1) != ((q : Int) + 1)) = false := by simp
      have e3 : ¬ ((p : Int) < 0) := by omega
      have e4 : (!tx.toList == tx.toList) = false := by simp
      have hI : (0 : Int) ≤ (i : Int) ∧ (i : Int) < (n : Int) := by omega
      rw [show ((q + 1 : Nat) : Int) = (q : Int) + 1 by omega] at c
      have HSS : Hid (∀ W, Below wr.heap.size wr W → (W.cell? ⟨gr, i * 4, none⟩ = some (.int .i64 q) ∧ W.cell? ⟨gr, i * 4 + 1, none⟩ = some (.int .i64 (q + 1)) ∧ W.cell? ⟨gr, i * 4 + 2, none⟩ = some (.slice fa m fc) ∧ W.cell? ⟨gr, i * 4 + 3, none⟩ = some (.string tx))) := fun W h => C4.later c hgr h
      rw [hq]
      clear hown heach hkq hyl hm hxe hq hlim hp htx hgr hB
      go_wp2_with fail
      rw [show ((q : Int) + 1 + 1) = ((q + 2 : Nat) : Int) by omega]
      refine (heldRS6_gen B fa m fc (q + 2) wr HEA.out hmb (by omega)).mono ?_; rintro e w1 ⟨rfl, hw1⟩
      subst hw1
      rw [HP.out]
      go_wp2_with fail
      go_region_held3 (fun W => W.cell? ⟨gr, i * 4, none⟩ = some (.int .i64 q) ∧ W.cell? ⟨gr, i * 4 + 1, none⟩ = some (.int .i64 (q + 1)) ∧ W.cell? ⟨gr, i * 4 + 2, none⟩ = some (.slice fa m fc) ∧ W.cell? ⟨gr, i * 4 + 3, none⟩ = some (.string tx))
        ((refine HSS.out _ ?_; repeat (first | exact bdr (bre _) | refine btr ?_ (by assumption))))
        ((go_at_call 67; refine (markText_any p _ hp0 (by omega)).mono ?_; rintro e w1 ⟨rfl, hb1⟩; rw [HTX.out]))
      have HB1 : Hid (Below w.heap.size w w1) := by show Below _ _ _; refine btr HB.out ?_; repeat (first | exact bdr (bre _) | refine btr ?_ (by assumption))
      go_wp2
      go_roundw
      case rel => exact ⟨i + 1, by omega, by rw [HKQ.out]; simp, by go_num, HB1.out⟩
      case measure => simp [intOf]; omega
    · have HE1 : Hid (Z.take i = Z) := List.take_of_length_le (by rw [HL.out]; omega)
      go_wp2
      go_ret
      exact ⟨by rw [HE1.out]; rfl, HB.out⟩
end Go.Proofs.Ytckenihadlmlaaa
