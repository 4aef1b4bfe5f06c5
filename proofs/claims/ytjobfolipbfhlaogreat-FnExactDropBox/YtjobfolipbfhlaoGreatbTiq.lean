/- Tiq. -/

import Derived.Test.YtjobfolipbfhlaoGreatbTip
namespace Go.Proofs.YtjobfolipbfhlaoGreat
open Go.RowKit Go.ChangeMaps

/-! What a right store is. -/
theorem sOk_all {y tm : Int} {S : List X7} {G : List Int} (h : sOk y tm S G = true) : S.length ≤ 5 ∧ gnM 20 G = true ∧ (∀ i, i < S.length → stp7 tm G S i = true) ∧ (gids S).Nodup := by
  unfold sOk at h
  simp only [Bool.and_eq_true, decide_eq_true_eq] at h
  obtain ⟨_, _, h1, h2, h3, h4⟩ := h
  exact ⟨by omega, h2, fun i hi => List.all_eq_true.1 h3 i (List.mem_range.2 hi), h4⟩
theorem stp7_all {tm : Int} {G : List Int} {S : List X7} (h : ∀ i, i < S.length → stp7 tm G S i = true) {i : Nat} (hi : i < S.length) : bxx S[i] = true ∧ pg S i < S[i].1 ∧ fidx (isN S[i].2.1) S 0 = (i : Int) ∧ inl S[i].1 G = false ∧ tmOk tm S[i].2.2.1 S[i].2.2.2.2.2.1 = true := by
  have h1 := h i hi
  rw [stp7_at hi rfl] at h1
  simp only [Bool.and_eq_true, decide_eq_true_eq, Bool.not_eq_true'] at h1
  exact ⟨h1.1, h1.2.1, h1.2.2.1, h1.2.2.2.1, h1.2.2.2.2⟩
theorem sOk_pw {y tm : Int} {S : List X7} {G : List Int} (h : sOk y tm S G = true) : S.Pairwise (fun a b => a.1 < b.1) := by
  obtain ⟨_, _, h3, _⟩ := sOk_all h
  have hs : ∀ i (hi : i + 1 < S.length), S[i].1 < S[i + 1].1 := fun i hi => by
    have h1 := (stp7_all h3 hi).2.1
    rw [pg_succ (by omega)] at h1
    exact h1
  rw [List.pairwise_iff_getElem]
  intro i j hi hj hij
  obtain ⟨d, rfl⟩ : ∃ d, j = i + 1 + d := ⟨j - (i + 1), by omega⟩
  induction d with
  | zero => exact hs i hj
  | succ d ih =>
    have h1 := ih (by omega) (by omega)
    have h2 := hs (i + 1 + d) hj
    exact Int.lt_trans h1 h2
theorem gnM_parts {mo : Int} {G : List Int} (h : gnM mo G = true) : asc 0 G = true ∧ (G.length : Int) ≤ mo := by
  unfold gnM at h
  simpa only [Bool.and_eq_true, decide_eq_true_eq] using h
theorem sOk_gone {y tm : Int} {S : List X7} {G : List Int} (h : sOk y tm S G = true) : G.Pairwise (· < ·) ∧ G.length ≤ 20 := by
  obtain ⟨h1, h2⟩ := gnM_parts (sOk_all h).2.1
  exact ⟨asc_pair h1, by omega⟩

/-! A box of an owned store renamed. -/
theorem yc_set1 (Y : List Y9) (i : Nat) (nm : ByteArray) (h : i < Y.length) : (yc Y).set (i * 7 + 1) (.string nm) = yc (Y.set i { Y[i] with nm := nm }) := by
  induction Y generalizing i with
  | nil => simp at h
  | cons x Y ih =>
    cases i with
    | zero => rfl
    | succ i =>
      have h' : i < Y.length := by simpa using h
      have := ih i h'
      have e : (i + 1) * 7 = i * 7 + 1 + 1 + 1 + 1 + 1 + 1 + 1 := by omega
      rw [e]
      simpa [yc] using this
theorem yc_set2 (Y : List Y9) (i : Nat) (t b : Int) (h : i < Y.length) : ((yc Y).set (i * 7 + 2) (.int .i64 t)).set (i * 7 + 3) (.int .i64 b) = yc (Y.set i { Y[i] with t := t, b := b }) := by
  induction Y generalizing i with
  | nil => simp at h
  | cons x Y ih =>
    cases i with
    | zero => rfl
    | succ i =>
      have h' : i < Y.length := by simpa using h
      have := ih i h'
      have e : (i + 1) * 7 = i * 7 + 1 + 1 + 1 + 1 + 1 + 1 + 1 := by omega
      rw [e]
      simpa [yc] using this
def rnK (nm : ByteArray) (S : List X7) (_ : X7) : Bool := !(S.any (isN nm))
def rnF (y tm : Int) (nm : ByteArray) (x : X7) : X7 := (x.1, nm, tm + 1, y, x.2.2.2.2)
def dbO (S : List X7) (gid : Int) : Bool := decide (0 ≤ fidx (isG gid) S 0)
def dbS (S : List X7) (gid : Int) : List X7 := if 0 ≤ fidx (isG gid) S 0 then S.take (fidx (isG gid) S 0).toNat ++ S.drop ((fidx (isG gid) S 0).toNat + 1) else S
theorem db_no {S : List X7} {gid : Int} (h : fidx (isG gid) S 0 < 0) : dbO S gid = false ∧ dbS S gid = S := by
  unfold dbO dbS
  rw [if_neg (by omega)]
  exact ⟨by simp; omega, rfl⟩
theorem db_at {S : List X7} {gid : Int} {i : Nat} (h : fidx (isG gid) S 0 = (i : Int)) : dbO S gid = true ∧ dbS S gid = S.take i ++ S.drop (i + 1) := by
  unfold dbO dbS
  rw [if_pos (by omega), h]
  exact ⟨by simp, by simp⟩

set_option maxHeartbeats 3200000 in
set_option maxRecDepth 100000 in
theorem dropOutB_any (k : Nat) (y tm : Int) (bv gv : Value) (S : List X7) (G : List Int) (gid : Int) (k1 : Nat) (w : World) (h : Sx w k 29 y tm bv gv) (ho : OwT w (k + 1) bv gv S G) (hn : S.length ≤ 1048576) (hsb : Sb S) (hgn : G.length ≤ 1048576) (hgp : G.Pairwise (· < ·)) (hgx : ∀ x ∈ S, x.1 = gid → ∀ z ∈ G, z ≠ gid) (hk1 : k1 < k) (ck1 : w.cell? ⟨k1, 0, none⟩ = some (.int .i64 gid)) :
    Calls Tryz.prog 45 #[.pointer (some ⟨k, 0, none⟩), .pointer (some ⟨k1, 0, none⟩)] w fun e w' => e = .returned (.bool (dbO S gid)) ∧ (dbO S gid = true → ∃ bv' gv', Sx w' k 29 y tm bv' gv' ∧ OwT w' (k + 1) bv' gv' (dbS S gid) (pin gid G)) ∧ Below k w w' := by
  obtain ⟨sn, hsn⟩ : ∃ sn, S.length = sn := ⟨_, rfl⟩
  obtain ⟨gn, hgn'⟩ : ∃ gn, G.length = gn := ⟨_, rfl⟩
  obtain ⟨ba, bc, ga, gc, hv1, hv2⟩ := ho.shape
  rw [hsn] at hv1
  rw [hgn'] at hv2
  subst hv1
  subst hv2
  have hrd := ho.reads.2.2.1
  have hrg := ho.reads.2.2.2
  have c0 := h.cells
  have hkl := h.lt
  have HKL := hid hkl
  have A0 := hid h
  have O0 := hid ho
  have HRD := hid hrd
  have HRG := hid hrg
  have HSB := hid hsb
  have HSN := hid hsn
  have HGN := hid hgn'
  rw [hsn] at hn
  rw [hgn'] at hgn
  have HN := hid hn
  have HG := hid hgn
  have hg0 : ga = none → gc = 0 := by
    obtain ⟨Y, _, _, h3, _⟩ := ho.own
    obtain ⟨a9, c9, e9, e8⟩ := h3.shape
    simp only [Value.slice.injEq] at e9
    intro hga
    rw [e9.2.2]
    exact e8 (by rw [← e9.1]; exact hga)
  have HG0 := hid hg0
  have HGP := hid hgp
  have HGXX := hid hgx
  have HCk1 := hid ck1
  have HLk1 := hid hk1
  have HS : Hid (∀ W, Below w.heap.size w W → ((W.cell? ⟨k, 0, none⟩ = some (.int .i64 y) ∧ W.cell? ⟨k, 1, none⟩ = some (.int .i64 tm) ∧ W.cell? ⟨k, 2, none⟩ = some (.slice ba sn bc) ∧ W.cell? ⟨k, 3, none⟩ = some (.slice ga gn gc)) ∧ W.cell? ⟨k1, 0, none⟩ = some (.int .i64 gid))) := fun W hb => ⟨(A0.out.later hb).cells, (hb.cell (p := ⟨k1, 0, none⟩) (by have h1 := HKL.out; have h2 := HLk1.out; show k1 < w.heap.size; omega)).trans HCk1.out⟩
  obtain ⟨zz, hzz⟩ : ∃ zz, fidx (isG gid) S 0 = zz := ⟨_, rfl⟩
  have HZ := hid hzz
  clear h ho hrd hrg hsb hsn hgn' hgn hkl hk1 hzz hg0 hgp hgx
  go_enter Tryz.func45, Tryz.ntmps45
  go_wp2_with fail
  clear c0 ck1
  refine wp_region_noPanic ?_
  refine wp_region_held_drew (S := (fun W => ((W.cell? ⟨k, 0, none⟩ = some (.int .i64 y) ∧ W.cell? ⟨k, 1, none⟩ = some (.int .i64 tm) ∧ W.cell? ⟨k, 2, none⟩ = some (.slice ba sn bc) ∧ W.cell? ⟨k, 3, none⟩ = some (.slice ga gn gc)) ∧ W.cell? ⟨k1, 0, none⟩ = some (.int .i64 gid)))) (by kernel_rfl) (HS.out _ (by repeat (first | exact bre _ | refine bdr ?_ | refine btr ?_ (by assumption) | refine bpush ?_ _))) (fun hHeld => ?_)
  refine wpAnyH_take (i := 0) (oi := { dst := some 5, op := Op.move (Operand.tmp 0), type := 58, pos := "l07_store.go:75", after := #[], guard := none }) (v := ?vd1_0) rfl (by kernel_rfl) (by kernel_rfl) (by kernel_rfl) (fun _ _ _ h => h) (Or.inl ⟨by rfl, ?hyd1_0⟩) (by assumption) ?restd1_0
  case hyd1_0 => (intro w hSw; (try dsimp only at hSw); go_simp; try with_reducible rfl)
  try simp only [Act.put, List.setIfInBounds_toArray, List.set_cons_zero, List.set_cons_succ]
  refine wpAnyH_take (i := 1) (oi := { dst := some 6, op := Op.nilCheck (Operand.tmp 5), type := 0, pos := "l07_store.go:75", after := #[{ on := 0, ground := Ground.data }], guard := none }) (v := ?vd2_1) rfl (by kernel_rfl) (by kernel_rfl) (by kernel_rfl) (fun _ _ _ h => h) (Or.inl ⟨by rfl, ?hyd2_1⟩) (by assumption) ?restd2_1
  case hyd2_1 => (intro w hSw; (try dsimp only at hSw); go_simp; try with_reducible rfl)
  try simp only [Act.put, List.setIfInBounds_toArray, List.set_cons_zero, List.set_cons_succ]
  refine wpAnyH_take (i := 2) (oi := { dst := some 7, op := Op.load 29 (Operand.tmp 6), type := 29, pos := "l07_store.go:75", after := #[{ on := 1, ground := Ground.data }], guard := none }) (v := ?vd3_2) rfl (by kernel_rfl) (by kernel_rfl) (by kernel_rfl) (fun _ _ _ h => h) (Or.inl ⟨by rfl, ?hyd3_2⟩) (by assumption) ?restd3_2
  case hyd3_2 => (intro w hSw; (try dsimp only at hSw); go_simp; try with_reducible rfl)
  try simp only [Act.put, List.setIfInBounds_toArray, List.set_cons_zero, List.set_cons_succ]
  refine wpAnyH_take (i := 3) (oi := { dst := some 8, op := Op.load 3 (Operand.tmp 1), type := 3, pos := "l07_store.go:75", after := #[], guard := none }) (v := ?vd4_3) rfl (by kernel_rfl) (by kernel_rfl) (by kernel_rfl) (fun _ _ _ h => h) (Or.inl ⟨by rfl, ?hyd4_3⟩) (by assumption) ?restd4_3
  case hyd4_3 => (intro w hSw; (try dsimp only at hSw); go_simp; try with_reducible rfl)
  try simp only [Act.put, List.setIfInBounds_toArray, List.set_cons_zero, List.set_cons_succ]
  clear hHeld
  refine wpAnyH_ready (rs := [4]) (by kernel_rfl) (by simp) ?_
  refine AllReadyH.cons (o := { dst := some 9, op := Op.call { callee := Callee.value (Operand.func 46), args := #[Operand.tmp 7, Operand.tmp 8], argTypes := #[29, 3] }, type := 3, pos := "l07_store.go:75", after := #[{ on := 2, ground := Ground.data }, { on := 3, ground := Ground.data }], guard := none }) rfl (fun K hK => ?_) AllReadyH.nil
  go_simp
  refine (implBoxAt_any _ _ y tm ba sn bc (.slice ga gn gc) S gid _ HSN.out HN.out (HRD.out.later (by repeat (first | exact bre _ | refine bdr ?_ | refine btr ?_ (by assumption) | refine bpush ?_ _)))).mono ?_; rintro e w1 ⟨rfl, hb1⟩
  rw [HZ.out]
  go_wp2_with fail
  refine hK.out _ _ (HS.out _ (by repeat (first | exact bre _ | refine bdr ?_ | refine btr ?_ (by assumption) | refine bpush ?_ _))) (fun hHeld => ?_)
  clear hK K
  try simp only [Act.put, List.setIfInBounds_toArray, List.set_cons_zero, List.set_cons_succ]
  refine wpAnyH_take (i := 5) (oi := { dst := some 4, op := Op.assign (Operand.tmp 9), type := 3, pos := "l07_store.go:75", after := #[{ on := 4, ground := Ground.data }, { on := 4, ground := Ground.chain }, { on := 0, ground := Ground.phase }, { on := 1, ground := Ground.phase }, { on := 2, ground := Ground.phase }, { on := 3, ground := Ground.phase }, { on := 4, ground := Ground.phase }], guard := none }) (v := ?vd6_5) rfl (by kernel_rfl) (by kernel_rfl) (by kernel_rfl) (fun _ _ _ h => h) (Or.inl ⟨by rfl, ?hyd6_5⟩) (by assumption) ?restd6_5
  case hyd6_5 => (intro w hSw; (try dsimp only at hSw); go_simp; try with_reducible rfl)
  try simp only [Act.put, List.setIfInBounds_toArray, List.set_cons_zero, List.set_cons_succ]
  refine wpAnyH_done (by kernel_rfl) ?_ _
  refine NoPanic.normal ?_
  clear hHeld
  have hb01 : Below w.heap.size w w1 := by repeat (first | exact bre _ | refine bdr ?_ | refine btr ?_ (by assumption) | refine bpush ?_ _)
  have A1 := hid (A0.out.later hb01)
  have O1 := hid (O0.out.later hb01)
  have HB1 := hid hb01
  clear hb1 hb01
  rcases fidx_cases (isG gid) S 0 with hneg | ⟨i, hi, hiz, hpi⟩
  · have HE := hid (db_no hneg)
    rw [HZ.out] at hneg
    go_wp2
    go_ret
    exact ⟨by rw [HE.out.1]; rfl, (fun h => by rw [HE.out.1] at h; cases h), HB1.out.mono (Nat.le_of_lt HKL.out)⟩
  rw [Nat.zero_add] at hiz
  have HE := hid (db_at hiz)
  have HGX : Hid (∀ z ∈ G, z ≠ gid) := HGXX.out S[i] (List.getElem_mem hi) (by simpa [isG] using hpi)
  rw [HZ.out] at hiz
  subst hiz
  obtain ⟨gb, rfl⟩ := O1.out.addr hi
  obtain ⟨Y, hY1, hY2, hY3, hY4, hY5⟩ := O1.out.own
  have hYl : Y.length = sn := by rw [← HSN.out, ← hY1, List.length_map]
  have hiY : i < Y.length := by rw [hYl, ← HSN.out]; exact hi
  have HDL := hid (deleteBx_any (k + 1) gb bc i Y w1 (by rw [hYl]; exact hY2) hiY)
  rw [hYl] at HDL
  have HY1 := hid hY1
  have HY3 := hid hY3
  have HY4 := hid hY4
  have HY5 := hid hY5
  have HYL := hid hYl
  have hgb := hY2.row.lt gb rfl
  have HGB := hid hgb
  have hib : i < sn := by rw [← hYl]; exact hiY
  have hi1 : ¬ (i : Int) < 0 := by omega
  have hsnb := HN.out
  have c1 := A1.out.cells
  clear hY1 hY2 hY3 hY4 hY5 hYl hgb hpi
  go_wp2_with fail
  refine HDL.out.mono ?_; rintro e w3 ⟨rfl, hos3, hg3⟩
  have a3 := A1.out.off hg3 (by have := HGB.out; omega)
  have c3 := a3.cells
  have f3 := a3.loose
  have A3 := hid a3
  have O3 := hid hos3
  have HG3 := hid hg3
  obtain ⟨W4, hW4⟩ : ∃ W4, w3.setCell ⟨k, 2, none⟩ (.slice (some ⟨gb, 0, none⟩) (sn - 1) bc) = W4 := ⟨_, rfl⟩
  have g4 : w3.grownBy W4 (some k) := by subst hW4; exact wst (wre _ _) _ _
  have A4 : Hid (Sx W4 k 29 y tm (.slice (some ⟨gb, 0, none⟩) (sn - 1) bc) (.slice ga gn gc)) := by subst hW4; exact A3.out.s2 _
  have O4 := hid (O3.out.grown g4 (by omega))
  have HGI3 : Hid (OwI w3 (k + 1) (.slice ga gn gc) G) := World.ownsRow.kept HY3.out HG3.out (by
    cases hv : Value.ownBlock (.slice ga gn gc) with
    | none => exact Or.inl rfl
    | some j => exact Or.inr (fun e => by simp only [Option.some.injEq] at e; subst e; exact HY4.out _ hv rfl))
  have HGI4 := hid (OwI.grown HGI3.out g4 (by omega))
  have hk1w : k1 < w.heap.size := by have h1 := HKL.out; have h2 := HLk1.out; omega
  have hkw : k < w1.heap.size := A1.out.lt
  have HB4 : Hid (Below k w W4) := ((HB1.out.mono (Nat.le_of_lt HKL.out)).trans (below_of_grown HG3.out (by have := HGB.out; omega) (by omega))).trans (below_of_grown g4 (Nat.le_refl _) (by have := HG3.out.size; omega))
  have HK4 : Hid (∀ W, Below W4.heap.size W4 W → W.cell? ⟨k1, 0, none⟩ = some (.int .i64 gid)) := fun W hb => (hb.cell (p := ⟨k1, 0, none⟩) (by have h1 := HB4.out.size; show k1 < W4.heap.size; omega)).trans ((HB4.out.cell (p := ⟨k1, 0, none⟩) HLk1.out).trans HCk1.out)
  have HRG4 : Hid (Is (k + 1) W4.heap.size W4.drew ga G) := (OwI.is (own_later HGI4.out (bdr (bre _)))).2
  have dd := (A4.out.later (bdr (bre W4))).cells
  clear a3 hos3 hg3 g4 A1 O1 HY3 HDL
  go_wp2_with fail
  try rw [hW4]
  clear hW4 c3 f3 c1
  refine wp_region_noPanic ?_
  refine wp_region_held_drew (S := (fun W => W.cell? ⟨k1, 0, none⟩ = some (.int .i64 gid))) (by kernel_rfl) (HK4.out _ (bdr (bre _))) (fun hHeld => ?_)
  refine wpAnyH_take (i := 0) (oi := { dst := some 23, op := Op.move (Operand.tmp 0), type := 58, pos := "l07_store.go:80", after := #[], guard := none }) (v := ?ve1_0) rfl (by kernel_rfl) (by kernel_rfl) (by kernel_rfl) (fun _ _ _ h => h) (Or.inl ⟨by rfl, ?hye1_0⟩) (by assumption) ?reste1_0
  case hye1_0 => (intro w hSw; (try dsimp only at hSw); go_simp; try with_reducible rfl)
  try simp only [Act.put, List.setIfInBounds_toArray, List.set_cons_zero, List.set_cons_succ]
  refine wpAnyH_take (i := 1) (oi := { dst := some 24, op := Op.move (Operand.tmp 0), type := 58, pos := "l07_store.go:80", after := #[], guard := none }) (v := ?ve2_1) rfl (by kernel_rfl) (by kernel_rfl) (by kernel_rfl) (fun _ _ _ h => h) (Or.inl ⟨by rfl, ?hye2_1⟩) (by assumption) ?reste2_1
  case hye2_1 => (intro w hSw; (try dsimp only at hSw); go_simp; try with_reducible rfl)
  try simp only [Act.put, List.setIfInBounds_toArray, List.set_cons_zero, List.set_cons_succ]
  refine wpAnyH_take (i := 2) (oi := { dst := some 25, op := Op.nilCheck (Operand.tmp 24), type := 0, pos := "l07_store.go:80", after := #[{ on := 1, ground := Ground.data }], guard := none }) (v := ?ve3_2) rfl (by kernel_rfl) (by kernel_rfl) (by kernel_rfl) (fun _ _ _ h => h) (Or.inl ⟨by rfl, ?hye3_2⟩) (by assumption) ?reste3_2
  case hye3_2 => (intro w hSw; (try dsimp only at hSw); go_simp; try with_reducible rfl)
  try simp only [Act.put, List.setIfInBounds_toArray, List.set_cons_zero, List.set_cons_succ]
  refine wpAnyH_take (i := 3) (oi := { dst := some 26, op := Op.fieldAddr 29 (Operand.tmp 25) 3, type := 0, pos := "l07_store.go:80", after := #[{ on := 2, ground := Ground.data }], guard := none }) (v := ?ve4_3) rfl (by kernel_rfl) (by kernel_rfl) (by kernel_rfl) (fun _ _ _ h => h) (Or.inl ⟨by rfl, ?hye4_3⟩) (by assumption) ?reste4_3
  case hye4_3 => (intro w hSw; (try dsimp only at hSw); go_simp; try with_reducible rfl)
  try simp only [Act.put, List.setIfInBounds_toArray, List.set_cons_zero, List.set_cons_succ]
  refine wpAnyH_take (i := 5) (oi := { dst := some 28, op := Op.load 3 (Operand.tmp 1), type := 3, pos := "l07_store.go:80", after := #[], guard := none }) (v := ?ve5_5) rfl (by kernel_rfl) (by kernel_rfl) (by kernel_rfl) (fun _ _ _ h => h) (Or.inl ⟨by rfl, ?hye5_5⟩) (by assumption) ?reste5_5
  case hye5_5 => (intro w hSw; (try dsimp only at hSw); go_simp; try with_reducible rfl)
  try simp only [Act.put, List.setIfInBounds_toArray, List.set_cons_zero, List.set_cons_succ]
  clear hHeld
  refine wpAnyH_ready (rs := [4]) (by kernel_rfl) (by simp) ?_
  refine AllReadyH.cons (o := { dst := some 27, op := Op.load 23 (Operand.tmp 26), type := 23, pos := "l07_store.go:80", after := #[{ on := 3, ground := Ground.data }], guard := none }) rfl (fun K hK => ?_) AllReadyH.nil
  go_simp
  refine hK.out _ _ (HK4.out _ (bdr (bre _))) (fun hHeld => ?_)
  clear hK K
  try simp only [Act.put, List.setIfInBounds_toArray, List.set_cons_zero, List.set_cons_succ]
  clear hHeld
  refine wpAnyH_ready (rs := [6]) (by kernel_rfl) (by simp) ?_
  refine AllReadyH.cons (o := { dst := some 29, op := Op.call { callee := Callee.value (Operand.func 48), args := #[Operand.tmp 27, Operand.tmp 28], argTypes := #[23, 3] }, type := 23, pos := "l07_store.go:80", after := #[{ on := 4, ground := Ground.data }, { on := 5, ground := Ground.data }], guard := none }) rfl (fun K hK => ?_) AllReadyH.nil
  go_simp
  refine (goneWith_any _ _ ga gn gc G gid _ HGN.out HG.out HRG4.out HG0.out HGP.out HGX.out).mono ?_; rintro e w5 ⟨gv5, rfl, hg5, hb5⟩
  have a5 : Sx w5 k 29 y tm (.slice (some ⟨gb, 0, none⟩) (sn - 1) bc) (.slice ga gn gc) := A4.out.later (btr (bdr (bre _)) hb5)
  have c5 := a5.cells
  have f5 := a5.loose
  obtain ⟨ag, cg, hgv5, _⟩ := hg5.shape
  obtain ⟨n5, hn5⟩ : ∃ n5, (pin gid G).length = n5 := ⟨_, rfl⟩
  rw [hn5] at hgv5
  subst hgv5
  have A5 := hid a5
  have G5 := hid hg5
  have HB5 := hid hb5
  have d5 := HK4.out w5 (btr (bdr (bre _)) hb5)
  have D6 : Hid ((w5.setCell ⟨k, 3, none⟩ (.slice ag n5 cg)).cell? ⟨k1, 0, none⟩ = some (.int .i64 gid)) := by
    have hg9 : w5.grownBy (w5.setCell ⟨k, 3, none⟩ (.slice ag n5 cg)) (some k) := wst (wre _ _) _ _
    exact (cell_same (p := ⟨k1, 0, none⟩) (hg9.block k1 (by have h1 := HLk1.out; have h2 := A5.out.lt; omega) (fun e => by have h1 := HLk1.out; simp only [Option.some.injEq] at e; omega))).trans d5
  have D5 := hid d5
  clear a5 hg5 hb5 hn5 d5
  go_wp2_with fail
  refine hK.out _ _ (D5.out) (fun hHeld => ?_)
  clear hK K
  try simp only [Act.put, List.setIfInBounds_toArray, List.set_cons_zero, List.set_cons_succ]
  refine wpAnyH_take (i := 7) (oi := { dst := some 30, op := Op.nilCheck (Operand.tmp 23), type := 0, pos := "l07_store.go:80", after := #[{ on := 0, ground := Ground.data }, { on := 0, ground := Ground.phase }, { on := 1, ground := Ground.phase }, { on := 2, ground := Ground.phase }, { on := 3, ground := Ground.phase }, { on := 4, ground := Ground.phase }, { on := 5, ground := Ground.phase }, { on := 6, ground := Ground.phase }], guard := none }) (v := ?ve6_7) rfl (by kernel_rfl) (by kernel_rfl) (by kernel_rfl) (fun _ _ _ h => h) (Or.inl ⟨by rfl, ?hye6_7⟩) (by assumption) ?reste6_7
  case hye6_7 => (intro w hSw; (try dsimp only at hSw); go_simp; try with_reducible rfl)
  try simp only [Act.put, List.setIfInBounds_toArray, List.set_cons_zero, List.set_cons_succ]
  refine wpAnyH_take (i := 8) (oi := { dst := some 31, op := Op.fieldAddr 29 (Operand.tmp 30) 3, type := 0, pos := "l07_store.go:80", after := #[{ on := 7, ground := Ground.data }, { on := 0, ground := Ground.phase }, { on := 1, ground := Ground.phase }, { on := 2, ground := Ground.phase }, { on := 3, ground := Ground.phase }, { on := 4, ground := Ground.phase }, { on := 5, ground := Ground.phase }, { on := 6, ground := Ground.phase }], guard := none }) (v := ?ve7_8) rfl (by kernel_rfl) (by kernel_rfl) (by kernel_rfl) (fun _ _ _ h => h) (Or.inl ⟨by rfl, ?hye7_8⟩) (by assumption) ?reste7_8
  case hye7_8 => (intro w hSw; (try dsimp only at hSw); go_simp; try with_reducible rfl)
  try simp only [Act.put, List.setIfInBounds_toArray, List.set_cons_zero, List.set_cons_succ]
  clear hHeld
  refine wpAnyH_ready (rs := [9]) (by kernel_rfl) (by simp) ?_
  refine AllReadyH.cons (o := { dst := none, op := Op.store 23 (Operand.tmp 31) (Operand.tmp 29), type := 0, pos := "l07_store.go:80", after := #[{ on := 8, ground := Ground.data }, { on := 6, ground := Ground.data }, { on := 6, ground := Ground.chain }, { on := 0, ground := Ground.phase }, { on := 1, ground := Ground.phase }, { on := 2, ground := Ground.phase }, { on := 3, ground := Ground.phase }, { on := 4, ground := Ground.phase }, { on := 5, ground := Ground.phase }, { on := 6, ground := Ground.phase }], guard := none }) rfl (fun K hK => ?_) AllReadyH.nil
  go_simp
  refine hK.out _ _ (D6.out) (fun hHeld => ?_)
  clear hK K
  try simp only [Act.put, List.setIfInBounds_toArray, List.set_cons_zero, List.set_cons_succ]
  refine wpAnyH_done (by kernel_rfl) ?_ _
  refine NoPanic.normal ?_
  clear hHeld
  go_wp2
  go_ret
  have hg9 : w5.grownBy (w5.setCell ⟨k, 3, none⟩ (.slice ag n5 cg)) (some k) := wst (wre _ _) _ _
  have hbb : Below W4.heap.size W4 w5 := btr (bdr (bre _)) HB5.out
  have hk4 := A4.out.lt
  refine ⟨by rw [HE.out.1]; rfl, fun _ => ⟨_, _, A5.out.s3 _, ?_⟩, ?_⟩
  · rw [HE.out.2]
    refine ⟨delY i Y, ?_, (O4.out.later hbb).grown hg9 (by omega), own_base (OwI.grown G5.out hg9 (by show k < W4.heap.size; omega)) (by show k + 1 ≤ W4.heap.size; omega), ?_, ?_⟩
    · unfold delY
      rw [List.map_append, List.map_take, List.map_drop, HY1.out]
    · exact Dj.later O4.out.row G5.out (Nat.le_refl _)
    · intro z hz j hj
      have h1 := (O4.out.each z hz).1.top
      have h2 : W4.heap.size ≤ j := (G5.out.lt j hj).1
      exact .inr (by omega)
  · exact HB4.out.trans ((hbb.mono (by omega)).trans (below_of_grown hg9 (Nat.le_refl _) (by have := hbb.size; omega)))

set_option maxHeartbeats 1600000 in
set_option maxRecDepth 100000 in
theorem implDropB_any (lo hh lo' hh' : Nat) (y tm : Int) (ba : Option Addr) (bn bc : Nat) (ga : Option Addr) (gn gc : Nat) (S : List X7) (G : List Int) (gid : Int) (w : World) (hl : S.length = bn) (hn : bn ≤ 1048576) (hsb : Sb S) (hm : Bs lo hh w ba S) (hm0 : ba = none → bc = 0) (hgl : G.length = gn) (hgn : gn ≤ 1048576) (hs : Is lo' hh' w ga G) (hg0 : ga = none → gc = 0)
    (ok2 : Bool) (h2 : (sOk y tm S G && (dbO S gid && sOk y (tm) (dbS S gid) (pin gid G))) = ok2) :
    Calls Tryz.prog 16 #[.agg #[.int .i64 y, .int .i64 tm, .slice ba bn bc, .slice ga gn gc], .int .i64 gid] w fun e w' => ∃ bv gv, e = .returned (.tuple #[.agg #[.int .i64 y, .int .i64 (pik ok2 (tm) tm), bv, gv], .bool ok2]) ∧ OwT w' w.heap.size bv gv (pik ok2 (dbS S gid) S) (pik ok2 (pin gid G) G) ∧ Below w.heap.size w w' := by
  obtain ⟨W0, hW0⟩ : ∃ W0, ((w.alloc (.cells #[.int .i64 y, .int .i64 tm, .slice ba bn bc, .slice ga gn gc] 29)).alloc (.cells #[.int .i64 gid] 3)).alloc (.cells #[.int .i64 0, .int .i64 0, .slice none 0 0, .slice none 0 0] 29) = W0 := ⟨_, rfl⟩
  obtain ⟨a0, c1, r0, b0, s0⟩ := store_caps1 w _ _ _ _ _ _ _ _ _ _ _ _ W0 hW0
  have c0 := a0.cells
  have C1 := hid c1
  have R0 := hid r0
  have B0 := hid b0
  have S0 := hid s0
  obtain ⟨S1, hS1⟩ : ∃ S1, dbS S gid = S1 := ⟨_, rfl⟩
  obtain ⟨G1, hG1⟩ : ∃ G1, pin gid G = G1 := ⟨_, rfl⟩
  obtain ⟨t1, ht1⟩ : ∃ t1, pik ok2 (tm) tm = t1 := ⟨_, rfl⟩
  have HCC : Hid (Calls Tryz.prog 32 #[.agg #[.int .i64 y, .int .i64 tm, .slice ba bn bc, .slice ga gn gc], .func (.func 45) #[] #[.pointer (some ⟨w.heap.size + 1, 0, none⟩)]] W0 fun e w' => ∃ bv gv, e = .returned (.tuple #[.agg #[.int .i64 y, .int .i64 t1, bv, gv], .bool ok2]) ∧ OwT w' W0.heap.size bv gv (pik ok2 S1 S) (pik ok2 G1 G) ∧ Below W0.heap.size W0 w') := by
    rw [← ht1, ← hS1, ← hG1]
    refine changed_any 45 _ _ (tm) (dbS S gid) (pin gid G) lo hh lo' hh' y tm ba bn bc ga gn gc S G W0 hl hn hsb (hm.later b0) hm0 hgl hgn (hs.later b0) hg0 (Go.Proofs.enters_of Tryz.func45 (by kernel_rfl) rfl) (fun hok W k bv gv hk hb hsx hot => ?_) (fun hok hok0 => ?_) ok2 h2
    · exact dropOutB_any k y tm bv gv S G gid (w.heap.size + 1) W hsx hot (by omega) hsb (by omega) (sOk_gone hok).1 (fun x hx hxg z hz hzg => by
          obtain ⟨i, hi, rfl⟩ := List.mem_iff_getElem.1 hx
          have h1 := (stp7_all (sOk_all hok).2.2.1 hi).2.2.2.1
          rw [hxg, ← hzg, inl_iff.2 hz] at h1
          cases h1) (by have := S0.out; omega) ((hb.cell (p := ⟨w.heap.size + 1, 0, none⟩) (by have := S0.out; show w.heap.size + 1 < W0.heap.size; omega)).trans C1.out)
    · have hg := (sOk_gone hok).2
      have hp := pin_len gid G
      refine ⟨?_, ?_, by omega⟩
      · intro x hx
        unfold dbS at hx
        split at hx
        · rcases List.mem_append.1 hx with hx | hx
          · exact hsb x (List.mem_of_mem_take hx)
          · exact hsb x (List.mem_of_mem_drop hx)
        · exact hsb x hx
      · unfold dbS
        split
        · rw [List.length_append, List.length_take, List.length_drop]; omega
        · omega
  clear a0 r0 b0 s0 hsb hm hm0 hgl hgn hs hg0 h2 c1
  rw [hS1, hG1]
  go_enter Tryz.func16, Tryz.ntmps16
  go_wp2_with fail
  clear hW0
  refine HCC.out.mono ?_; rintro e w8 ⟨bv, gv, rfl, hot, hb8⟩
  obtain ⟨a8, c8, a9, c9, hv8, hv9⟩ := hot.shape
  obtain ⟨n8, hn8⟩ : ∃ n8, (pik ok2 S1 S).length = n8 := ⟨_, rfl⟩
  obtain ⟨n9, hn9⟩ : ∃ n9, (pik ok2 G1 G).length = n9 := ⟨_, rfl⟩
  rw [hn8] at hv8
  rw [hn9] at hv9
  subst hv8
  subst hv9
  have r8 := R0.out.later hb8
  have q1 := r8.cells
  have q2 := r8.loose
  have R8 := hid r8
  have O8 := hid hot
  have B8 := hid (btr B0.out hb8)
  have HT := hid ht1
  clear r8 hot hb8 hn8 hn9 HCC ht1 hS1 hG1
  go_wp2
  have e2 := put4_grown w8 (w.heap.size + 1 + 1) y t1 (.slice a8 n8 c8) (.slice a9 n9 c9)
  have d1 := (R8.out.put4 y t1 (.slice a8 n8 c8) (.slice a9 n9 c9)).cells
  unfold put4 at d1 e2
  have hs0 := S0.out
  refine bodyPost_ret (v := .tuple #[.agg #[.int .i64 y, .int .i64 t1, .slice a8 n8 c8, .slice a9 n9 c9], .bool ok2]) (by simp [results, Tryz.results16, go_sem, d1]) rfl ⟨_, _, by rw [HT.out], ?_, ?_⟩
  · exact (O8.out.grown e2 (by omega)).base (by omega)
  · exact B8.out.trans (below_of_grown e2 (by omega) B8.out.size)

end Go.Proofs.YtjobfolipbfhlaoGreat

