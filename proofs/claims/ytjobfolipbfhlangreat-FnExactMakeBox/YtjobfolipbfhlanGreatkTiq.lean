/- Tiq. -/

import Derived.Test.YtjobfolipbfhlanGreatkTip
namespace Go.Proofs.YtjobfolipbfhlanGreat
open Go.RowKit Go.ChangeMaps

/-! What a right store is. -/
theorem sOk_all {y tm : Int} {S : List X7} {G : List Int} (h : sOk y tm S G = true) : S.length ≤ 5 ∧ gnM 20 G = true ∧ (∀ i, i < S.length → stp7 tm G S i = true) ∧ (gids S).Nodup := by
  unfold sOk at h
  simp only [Bool.and_eq_true, decide_eq_true_eq] at h
  obtain ⟨_, _, h1, h2, h3, h4⟩ := h
  exact ⟨by omega, h2, fun i hi => List.all_eq_true.1 h3 i (List.mem_range.2 hi), h4⟩
theorem stp7_all {tm : Int} {G : List Int} {S : List X7} (h : ∀ i, i < S.length → stp7 tm G S i = true) {i : Nat} (hi : i < S.length) : bxx S[i] = true ∧ pg S i < S[i].1 ∧ fidx (isN S[i].2.1) S 0 = (i : Int) ∧ inl S[i].1 G = false ∧ tmOk tm S[i].2.2.1 S[i].2.2.2.2.2.1 = true := by
  have h1 := h i hi
  rw [stp7_at hi rfl] at h1
  simp only [Bool.and_eq_true, decide_eq_true_eq, Bool.not_eq_true'] at h1
  exact ⟨h1.1, h1.2.1, h1.2.2.1, h1.2.2.2.1, h1.2.2.2.2⟩
theorem sOk_pw {y tm : Int} {S : List X7} {G : List Int} (h : sOk y tm S G = true) : S.Pairwise (fun a b => a.1 < b.1) := by
  obtain ⟨_, _, h3, _⟩ := sOk_all h
  have hs : ∀ i (hi : i + 1 < S.length), S[i].1 < S[i + 1].1 := fun i hi => by
    have h1 := (stp7_all h3 hi).2.1
    rw [pg_succ (by omega)] at h1
    exact h1
  rw [List.pairwise_iff_getElem]
  intro i j hi hj hij
  obtain ⟨d, rfl⟩ : ∃ d, j = i + 1 + d := ⟨j - (i + 1), by omega⟩
  induction d with
  | zero => exact hs i hj
  | succ d ih =>
    have h1 := ih (by omega) (by omega)
    have h2 := hs (i + 1 + d) hj
    exact Int.lt_trans h1 h2
theorem gnM_parts {mo : Int} {G : List Int} (h : gnM mo G = true) : asc 0 G = true ∧ (G.length : Int) ≤ mo := by
  unfold gnM at h
  simpa only [Bool.and_eq_true, decide_eq_true_eq] using h
theorem sOk_gone {y tm : Int} {S : List X7} {G : List Int} (h : sOk y tm S G = true) : G.Pairwise (· < ·) ∧ G.length ≤ 20 := by
  obtain ⟨h1, h2⟩ := gnM_parts (sOk_all h).2.1
  exact ⟨asc_pair h1, by omega⟩

/-! A box of an owned store renamed. -/
theorem yc_set1 (Y : List Y9) (i : Nat) (nm : ByteArray) (h : i < Y.length) : (yc Y).set (i * 7 + 1) (.string nm) = yc (Y.set i { Y[i] with nm := nm }) := by
  induction Y generalizing i with
  | nil => simp at h
  | cons x Y ih =>
    cases i with
    | zero => rfl
    | succ i =>
      have h' : i < Y.length := by simpa using h
      have := ih i h'
      have e : (i + 1) * 7 = i * 7 + 1 + 1 + 1 + 1 + 1 + 1 + 1 := by omega
      rw [e]
      simpa [yc] using this
theorem yc_set2 (Y : List Y9) (i : Nat) (t b : Int) (h : i < Y.length) : ((yc Y).set (i * 7 + 2) (.int .i64 t)).set (i * 7 + 3) (.int .i64 b) = yc (Y.set i { Y[i] with t := t, b := b }) := by
  induction Y generalizing i with
  | nil => simp at h
  | cons x Y ih =>
    cases i with
    | zero => rfl
    | succ i =>
      have h' : i < Y.length := by simpa using h
      have := ih i h'
      have e : (i + 1) * 7 = i * 7 + 1 + 1 + 1 + 1 + 1 + 1 + 1 := by omega
      rw [e]
      simpa [yc] using this
def rnK (nm : ByteArray) (S : List X7) (_ : X7) : Bool := !(S.any (isN nm))
def rnF (y tm : Int) (nm : ByteArray) (x : X7) : X7 := (x.1, nm, tm + 1, y, x.2.2.2.2)
def dbO (S : List X7) (gid : Int) : Bool := decide (0 ≤ fidx (isG gid) S 0)
def dbS (S : List X7) (gid : Int) : List X7 := if 0 ≤ fidx (isG gid) S 0 then S.take (fidx (isG gid) S 0).toNat ++ S.drop ((fidx (isG gid) S 0).toNat + 1) else S
theorem db_no {S : List X7} {gid : Int} (h : fidx (isG gid) S 0 < 0) : dbO S gid = false ∧ dbS S gid = S := by
  unfold dbO dbS
  rw [if_neg (by omega)]
  exact ⟨by simp; omega, rfl⟩
theorem db_at {S : List X7} {gid : Int} {i : Nat} (h : fidx (isG gid) S 0 = (i : Int)) : dbO S gid = true ∧ dbS S gid = S.take i ++ S.drop (i + 1) := by
  unfold dbO dbS
  rw [if_pos (by omega), h]
  exact ⟨by simp, by simp⟩

set_option maxHeartbeats 3200000 in
set_option maxRecDepth 100000 in
theorem makeOut_any (k : Nat) (y tm : Int) (bv gv : Value) (S : List X7) (G : List Int) (gid : Int) (nm : ByteArray) (k1 k2 : Nat) (w : World) (h : Sx w k 29 y tm bv gv) (ho : OwT w (k + 1) bv gv S G) (hn5 : S.length ≤ 1048575) (hsb : Sb S) (hgn : G.length ≤ 1048576) (ht : 0 ≤ tm ∧ tm ≤ 100000) (hnm : nm.size ≤ 1048576) (hpw : S.Pairwise (fun a b => a.1 < b.1)) (hk1 : k1 < k) (ck1 : w.cell? ⟨k1, 0, none⟩ = some (.int .i64 gid)) (hk2 : k2 < k) (ck2 : w.cell? ⟨k2, 0, none⟩ = some (.string nm)) :
    Calls Tryz.prog 22 #[.pointer (some ⟨k, 0, none⟩), .pointer (some ⟨k1, 0, none⟩), .pointer (some ⟨k2, 0, none⟩)] w fun e w' => e = .returned (.bool (!kno gid S G && !(S.any (isN nm)))) ∧ ((!kno gid S G && !(S.any (isN nm))) = true → ∃ bv' gv', Sx w' k 29 y (tm + 1) bv' gv' ∧ OwT w' (k + 1) bv' gv' (insX (gid, nm, tm + 1, y, 1, [], []) S) G) ∧ Below k w w' := by
  have HN5 := hid hn5
  have hn : S.length ≤ 1048576 := by omega
  obtain ⟨sn, hsn⟩ : ∃ sn, S.length = sn := ⟨_, rfl⟩
  obtain ⟨gn, hgn'⟩ : ∃ gn, G.length = gn := ⟨_, rfl⟩
  obtain ⟨ba, bc, ga, gc, hv1, hv2⟩ := ho.shape
  rw [hsn] at hv1
  rw [hgn'] at hv2
  subst hv1
  subst hv2
  have hrd := ho.reads.2.2.1
  have hrg := ho.reads.2.2.2
  have c0 := h.cells
  have hkl := h.lt
  have HKL := hid hkl
  have A0 := hid h
  have O0 := hid ho
  have HRD := hid hrd
  have HRG := hid hrg
  have HSB := hid hsb
  have HSN := hid hsn
  have HGN := hid hgn'
  rw [hsn] at hn
  rw [hgn'] at hgn
  have HN := hid hn
  have HG := hid hgn
  have HCk1 := hid ck1
  have HLk1 := hid hk1
  have HCk2 := hid ck2
  have HLk2 := hid hk2
  have HS : Hid (∀ W, Below w.heap.size w W → ((W.cell? ⟨k, 0, none⟩ = some (.int .i64 y) ∧ W.cell? ⟨k, 1, none⟩ = some (.int .i64 tm) ∧ W.cell? ⟨k, 2, none⟩ = some (.slice ba sn bc) ∧ W.cell? ⟨k, 3, none⟩ = some (.slice ga gn gc)) ∧ W.cell? ⟨k1, 0, none⟩ = some (.int .i64 gid) ∧ W.cell? ⟨k2, 0, none⟩ = some (.string nm))) := fun W hb => ⟨(A0.out.later hb).cells, (hb.cell (p := ⟨k1, 0, none⟩) (by have h1 := HKL.out; have h2 := HLk1.out; show k1 < w.heap.size; omega)).trans HCk1.out, (hb.cell (p := ⟨k2, 0, none⟩) (by have h1 := HKL.out; have h2 := HLk2.out; show k2 < w.heap.size; omega)).trans HCk2.out⟩
  have HPW := hid hpw
  obtain ⟨qk, hqk⟩ : ∃ qk, kno gid S G = qk := ⟨_, rfl⟩
  obtain ⟨qn, hqn⟩ : ∃ qn, S.any (isN nm) = qn := ⟨_, rfl⟩
  obtain ⟨zn, hzn⟩ : ∃ zn, fidx (isN nm) S 0 = zn := ⟨_, rfl⟩
  have hqz : decide (0 ≤ zn) = qn := by rw [← hzn, fidx_any, hqn]
  have HQK := hid hqk
  have HQN := hid hqn
  have HZN := hid hzn
  clear h ho hrd hrg hsb hsn hgn' hgn hkl hk1 hk2 hqk hqn hzn hn5 hpw
  go_enter Tryz.func22, Tryz.ntmps22
  go_wp2_with fail
  clear c0 ck1 ck2
  refine wp_region_noPanic ?_
  refine wp_region_held_drew (S := (fun W => ((W.cell? ⟨k, 0, none⟩ = some (.int .i64 y) ∧ W.cell? ⟨k, 1, none⟩ = some (.int .i64 tm) ∧ W.cell? ⟨k, 2, none⟩ = some (.slice ba sn bc) ∧ W.cell? ⟨k, 3, none⟩ = some (.slice ga gn gc)) ∧ W.cell? ⟨k1, 0, none⟩ = some (.int .i64 gid) ∧ W.cell? ⟨k2, 0, none⟩ = some (.string nm)))) (by kernel_rfl) (HS.out _ (by repeat (first | exact bre _ | refine bdr ?_ | refine btr ?_ (by assumption) | refine bpush ?_ _))) (fun hHeld => ?_)
  refine wpAnyH_take (i := 0) (oi := { dst := some 5, op := Op.move (Operand.tmp 0), type := 52, pos := "l07_store.go:53", after := #[], guard := none }) (v := ?vf1_0) rfl (by kernel_rfl) (by kernel_rfl) (by kernel_rfl) (fun _ _ _ h => h) (Or.inl ⟨by rfl, ?hyf1_0⟩) (by assumption) ?restf1_0
  case hyf1_0 => (intro w hSw; (try dsimp only at hSw); go_simp; try with_reducible rfl)
  try simp only [Act.put, List.setIfInBounds_toArray, List.set_cons_zero, List.set_cons_succ]
  refine wpAnyH_take (i := 1) (oi := { dst := some 6, op := Op.nilCheck (Operand.tmp 5), type := 0, pos := "l07_store.go:53", after := #[{ on := 0, ground := Ground.data }], guard := none }) (v := ?vf2_1) rfl (by kernel_rfl) (by kernel_rfl) (by kernel_rfl) (fun _ _ _ h => h) (Or.inl ⟨by rfl, ?hyf2_1⟩) (by assumption) ?restf2_1
  case hyf2_1 => (intro w hSw; (try dsimp only at hSw); go_simp; try with_reducible rfl)
  try simp only [Act.put, List.setIfInBounds_toArray, List.set_cons_zero, List.set_cons_succ]
  refine wpAnyH_take (i := 2) (oi := { dst := some 7, op := Op.load 29 (Operand.tmp 6), type := 29, pos := "l07_store.go:53", after := #[{ on := 1, ground := Ground.data }], guard := none }) (v := ?vf3_2) rfl (by kernel_rfl) (by kernel_rfl) (by kernel_rfl) (fun _ _ _ h => h) (Or.inl ⟨by rfl, ?hyf3_2⟩) (by assumption) ?restf3_2
  case hyf3_2 => (intro w hSw; (try dsimp only at hSw); go_simp; try with_reducible rfl)
  try simp only [Act.put, List.setIfInBounds_toArray, List.set_cons_zero, List.set_cons_succ]
  refine wpAnyH_take (i := 3) (oi := { dst := some 8, op := Op.load 3 (Operand.tmp 1), type := 3, pos := "l07_store.go:53", after := #[], guard := none }) (v := ?vf4_3) rfl (by kernel_rfl) (by kernel_rfl) (by kernel_rfl) (fun _ _ _ h => h) (Or.inl ⟨by rfl, ?hyf4_3⟩) (by assumption) ?restf4_3
  case hyf4_3 => (intro w hSw; (try dsimp only at hSw); go_simp; try with_reducible rfl)
  try simp only [Act.put, List.setIfInBounds_toArray, List.set_cons_zero, List.set_cons_succ]
  clear hHeld
  refine wpAnyH_ready (rs := [4]) (by kernel_rfl) (by simp) ?_
  refine AllReadyH.cons (o := { dst := some 9, op := Op.call { callee := Callee.value (Operand.func 23), args := #[Operand.tmp 7, Operand.tmp 8], argTypes := #[29, 3] }, type := 4, pos := "l07_store.go:53", after := #[{ on := 2, ground := Ground.data }, { on := 3, ground := Ground.data }], guard := none }) rfl (fun K hK => ?_) AllReadyH.nil
  go_simp
  refine (implKnows_any _ _ _ _ y tm ba sn bc ga gn gc S G gid _ HSN.out HN.out HSB.out (HRD.out.later (by repeat (first | exact bre _ | refine bdr ?_ | refine btr ?_ (by assumption) | refine bpush ?_ _))) HGN.out HG.out (HRG.out.later (by repeat (first | exact bre _ | refine bdr ?_ | refine btr ?_ (by assumption) | refine bpush ?_ _)))).mono ?_; rintro e w1 ⟨rfl, hb1⟩
  rw [HQK.out]
  go_wp2_with fail
  refine hK.out _ _ (HS.out _ (by repeat (first | exact bre _ | refine bdr ?_ | refine btr ?_ (by assumption) | refine bpush ?_ _))) (fun hHeld => ?_)
  clear hK K
  try simp only [Act.put, List.setIfInBounds_toArray, List.set_cons_zero, List.set_cons_succ]
  cases qk
  · refine wpAnyH_take (i := 5) (oi := { dst := some 10, op := Op.move (Operand.tmp 9), type := 4, pos := "l07_store.go:53", after := #[{ on := 4, ground := Ground.data }, { on := 4, ground := Ground.chain }], guard := none }) (v := ?vf6_5) rfl (by kernel_rfl) (by kernel_rfl) (by kernel_rfl) (fun _ _ _ h => h) (Or.inl ⟨by rfl, ?hyf6_5⟩) (by assumption) ?restf6_5
    case hyf6_5 => (intro w hSw; (try dsimp only at hSw); go_simp; try with_reducible rfl)
    try simp only [Act.put, List.setIfInBounds_toArray, List.set_cons_zero, List.set_cons_succ]
    refine wpAnyH_take (i := 6) (oi := { dst := some 11, op := Op.move (Operand.tmp 0), type := 52, pos := "l07_store.go:53", after := #[{ on := 5, ground := Ground.guard }], guard := some (5, false) }) (v := ?vf7_6) rfl (by kernel_rfl) (by kernel_rfl) (by kernel_rfl) (fun _ _ _ h => h) (Or.inl ⟨by rfl, ?hyf7_6⟩) (by assumption) ?restf7_6
    case hyf7_6 => (intro w hSw; (try dsimp only at hSw); go_simp; try with_reducible rfl)
    try simp only [Act.put, List.setIfInBounds_toArray, List.set_cons_zero, List.set_cons_succ]
    refine wpAnyH_take (i := 7) (oi := { dst := some 12, op := Op.nilCheck (Operand.tmp 11), type := 0, pos := "l07_store.go:53", after := #[{ on := 6, ground := Ground.data }, { on := 5, ground := Ground.guard }], guard := some (5, false) }) (v := ?vf8_7) rfl (by kernel_rfl) (by kernel_rfl) (by kernel_rfl) (fun _ _ _ h => h) (Or.inl ⟨by rfl, ?hyf8_7⟩) (by assumption) ?restf8_7
    case hyf8_7 => (intro w hSw; (try dsimp only at hSw); go_simp; try with_reducible rfl)
    try simp only [Act.put, List.setIfInBounds_toArray, List.set_cons_zero, List.set_cons_succ]
    refine wpAnyH_take (i := 8) (oi := { dst := some 13, op := Op.load 29 (Operand.tmp 12), type := 29, pos := "l07_store.go:53", after := #[{ on := 7, ground := Ground.data }, { on := 5, ground := Ground.guard }], guard := some (5, false) }) (v := ?vf9_8) rfl (by kernel_rfl) (by kernel_rfl) (by kernel_rfl) (fun _ _ _ h => h) (Or.inl ⟨by rfl, ?hyf9_8⟩) (by assumption) ?restf9_8
    case hyf9_8 => (intro w hSw; (try dsimp only at hSw); go_simp; try with_reducible rfl)
    try simp only [Act.put, List.setIfInBounds_toArray, List.set_cons_zero, List.set_cons_succ]
    refine wpAnyH_take (i := 9) (oi := { dst := some 14, op := Op.load 9 (Operand.tmp 2), type := 9, pos := "l07_store.go:53", after := #[{ on := 5, ground := Ground.guard }], guard := some (5, false) }) (v := ?vf10_9) rfl (by kernel_rfl) (by kernel_rfl) (by kernel_rfl) (fun _ _ _ h => h) (Or.inl ⟨by rfl, ?hyf10_9⟩) (by assumption) ?restf10_9
    case hyf10_9 => (intro w hSw; (try dsimp only at hSw); go_simp; try with_reducible rfl)
    try simp only [Act.put, List.setIfInBounds_toArray, List.set_cons_zero, List.set_cons_succ]
    clear hHeld
    refine wpAnyH_ready (rs := [10]) (by kernel_rfl) (by simp) ?_
    refine AllReadyH.cons (o := { dst := some 15, op := Op.call { callee := Callee.value (Operand.func 24), args := #[Operand.tmp 13, Operand.tmp 14], argTypes := #[29, 9] }, type := 3, pos := "l07_store.go:53", after := #[{ on := 8, ground := Ground.data }, { on := 9, ground := Ground.data }, { on := 5, ground := Ground.chain }, { on := 5, ground := Ground.guard }], guard := some (5, false) }) rfl (fun K hK => ?_) AllReadyH.nil
    go_simp
    refine (implBoxNamed_any _ _ y tm ba sn bc (.slice ga gn gc) S nm _ HSN.out HN.out (HRD.out.later (by repeat (first | exact bre _ | refine bdr ?_ | refine btr ?_ (by assumption) | refine bpush ?_ _)))).mono ?_; rintro e w2 ⟨rfl, hb2⟩
    rw [HZN.out]
    go_wp2_with fail
    refine hK.out _ _ (HS.out _ (by repeat (first | exact bre _ | refine bdr ?_ | refine btr ?_ (by assumption) | refine bpush ?_ _))) (fun hHeld => ?_)
    clear hK K
    try simp only [Act.put, List.setIfInBounds_toArray, List.set_cons_zero, List.set_cons_succ]
    refine wpAnyH_take (i := 11) (oi := { dst := some 16, op := Op.binOp BinOp.geq 3 (Operand.tmp 15) (Operand.const (Value.int IntKind.i64 0)) 3, type := 4, pos := "l07_store.go:53", after := #[{ on := 10, ground := Ground.data }, { on := 5, ground := Ground.guard }], guard := some (5, false) }) (v := ?vf12_11) rfl (by kernel_rfl) (by kernel_rfl) (by kernel_rfl) (fun _ _ _ h => h) (Or.inl ⟨by rfl, ?hyf12_11⟩) (by assumption) ?restf12_11
    case hyf12_11 => (intro w hSw; (try dsimp only at hSw); go_simp; try with_reducible rfl)
    try simp only [Act.put, List.setIfInBounds_toArray, List.set_cons_zero, List.set_cons_succ]
    refine wpAnyH_take (i := 12) (oi := { dst := some 17, op := Op.pick (Operand.tmp 10) (Operand.const (Value.bool true)) (Operand.tmp 16), type := 4, pos := "l07_store.go:53", after := #[{ on := 5, ground := Ground.data }, { on := 11, ground := Ground.data }], guard := none }) (v := ?vf13_12) rfl (by kernel_rfl) (by kernel_rfl) (by kernel_rfl) (fun _ _ _ h => h) (Or.inl ⟨by rfl, ?hyf13_12⟩) (by assumption) ?restf13_12
    case hyf13_12 => (intro w hSw; (try dsimp only at hSw); go_simp; try with_reducible rfl)
    try simp only [Act.put, List.setIfInBounds_toArray, List.set_cons_zero, List.set_cons_succ]
    refine wpAnyH_done (by kernel_rfl) ?_ _
    refine NoPanic.normal ?_
    have hb02 : Below w.heap.size w w2 := by repeat (first | exact bre _ | refine bdr ?_ | refine btr ?_ (by assumption) | refine bpush ?_ _)
    have HB2 := hid hb02
    have A2 := hid (A0.out.later hb02)
    have O2 := hid (O0.out.later hb02)
    clear hHeld hb1 hb2 hb02
    cases qn
    case true =>
      have hz : 0 ≤ zn := by simpa using hqz
      have HE : Hid ((!kno gid S G && !(S.any (isN nm))) = false) := by show _ = _; rw [HQK.out, HQN.out]; rfl
      go_wp2
      go_ret
      exact ⟨by rw [HE.out]; rfl, (fun h => by rw [HE.out] at h; cases h), HB2.out.mono (Nat.le_of_lt HKL.out)⟩
    have hz : ¬ 0 ≤ zn := by simpa using hqz
    have HE : Hid ((!kno gid S G && !(S.any (isN nm))) = true) := by show _ = _; rw [HQK.out, HQN.out]; rfl
    have HK : Hid (∀ W, Below k w2 W → (W.cell? ⟨k1, 0, none⟩ = some (.int .i64 gid) ∧ W.cell? ⟨k2, 0, none⟩ = some (.string nm))) := fun W hb => ⟨(hb.cell (p := ⟨k1, 0, none⟩) HLk1.out).trans ((HB2.out.cell (p := ⟨k1, 0, none⟩) (by have h1 := HKL.out; have h2 := HLk1.out; show k1 < w.heap.size; omega)).trans HCk1.out), (hb.cell (p := ⟨k2, 0, none⟩) HLk2.out).trans ((HB2.out.cell (p := ⟨k2, 0, none⟩) (by have h1 := HKL.out; have h2 := HLk2.out; show k2 < w.heap.size; omega)).trans HCk2.out)⟩
    go_wp2_with fail
    refine wp_region_noPanic ?_
    refine wp_region_held_drew (S := (fun W => (W.cell? ⟨k1, 0, none⟩ = some (.int .i64 gid) ∧ W.cell? ⟨k2, 0, none⟩ = some (.string nm)))) (by kernel_rfl) (HK.out _ (by repeat (first | exact Below.refl _ _ | refine Below.drew ?_ | refine Below.trans ?_ (by assumption)))) (fun hHeld => ?_)
    refine wpAnyH_take (i := 0) (oi := { dst := some 18, op := Op.move (Operand.tmp 0), type := 52, pos := "l07_store.go:56", after := #[], guard := none }) (v := ?vg1_0) rfl (by kernel_rfl) (by kernel_rfl) (by kernel_rfl) (fun _ _ _ h => h) (Or.inl ⟨by rfl, ?hyg1_0⟩) (by assumption) ?restg1_0
    case hyg1_0 => (intro w hSw; (try dsimp only at hSw); go_simp; try with_reducible rfl)
    try simp only [Act.put, List.setIfInBounds_toArray, List.set_cons_zero, List.set_cons_succ]
    refine wpAnyH_take (i := 1) (oi := { dst := some 19, op := Op.load 3 (Operand.tmp 1), type := 3, pos := "l07_store.go:56", after := #[], guard := none }) (v := ?vg2_1) rfl (by kernel_rfl) (by kernel_rfl) (by kernel_rfl) (fun _ _ _ h => h) (Or.inl ⟨by rfl, ?hyg2_1⟩) (by assumption) ?restg2_1
    case hyg2_1 => (intro w hSw; (try dsimp only at hSw); go_simp; try with_reducible rfl)
    try simp only [Act.put, List.setIfInBounds_toArray, List.set_cons_zero, List.set_cons_succ]
    refine wpAnyH_take (i := 2) (oi := { dst := some 20, op := Op.load 9 (Operand.tmp 2), type := 9, pos := "l07_store.go:56", after := #[], guard := none }) (v := ?vg3_2) rfl (by kernel_rfl) (by kernel_rfl) (by kernel_rfl) (fun _ _ _ h => h) (Or.inl ⟨by rfl, ?hyg3_2⟩) (by assumption) ?restg3_2
    case hyg3_2 => (intro w hSw; (try dsimp only at hSw); go_simp; try with_reducible rfl)
    try simp only [Act.put, List.setIfInBounds_toArray, List.set_cons_zero, List.set_cons_succ]
    refine wpAnyH_take (i := 4) (oi := { dst := some 22, op := Op.move (Operand.tmp 0), type := 52, pos := "l07_store.go:56", after := #[], guard := none }) (v := ?vg4_4) rfl (by kernel_rfl) (by kernel_rfl) (by kernel_rfl) (fun _ _ _ h => h) (Or.inl ⟨by rfl, ?hyg4_4⟩) (by assumption) ?restg4_4
    case hyg4_4 => (intro w hSw; (try dsimp only at hSw); go_simp; try with_reducible rfl)
    try simp only [Act.put, List.setIfInBounds_toArray, List.set_cons_zero, List.set_cons_succ]
    clear hHeld
    refine wpAnyH_ready (rs := [3]) (by kernel_rfl) (by simp) ?_
    refine AllReadyH.cons (o := { dst := some 21, op := Op.call { callee := Callee.value (Operand.func 26), args := #[Operand.tmp 20], argTypes := #[9] }, type := 9, pos := "l07_store.go:56", after := #[{ on := 2, ground := Ground.data }], guard := none }) rfl (fun K hK => ?_) AllReadyH.nil
    go_simp
    refine (clone_any nm _ hnm).mono ?_; rintro e w3 ⟨rfl, hb3⟩
    have A3 := hid (A2.out.later (btr (bdr (bre _)) hb3))
    have O3 := hid (O2.out.later (btr (bdr (bre _)) hb3))
    have hs3 : w2.heap.size ≤ w3.heap.size := hb3.size
    have hq3 : Below k w2.drew w3 := hb3.mono (by show k ≤ w2.heap.size; have := A2.out.lt; omega)
    go_wp2_with fail
    refine hK.out _ _ (HK.out _ (by repeat (first | exact Below.refl _ _ | refine Below.drew ?_ | refine Below.trans ?_ (by assumption)))) (fun hHeld => ?_)
    clear hK K
    try simp only [Act.put, List.setIfInBounds_toArray, List.set_cons_zero, List.set_cons_succ]
    clear hHeld
    refine wpAnyH_ready (rs := [5]) (by kernel_rfl) (by simp) ?_
    refine AllReadyH.cons (o := { dst := some 23, op := Op.call { callee := Callee.value (Operand.func 27), args := #[Operand.tmp 22], argTypes := #[52] }, type := 43, pos := "l07_store.go:56", after := #[{ on := 4, ground := Ground.data }, { on := 3, ground := Ground.chain }], guard := none }) rfl (fun K hK => ?_) AllReadyH.nil
    go_simp
    refine (giveStamp_any k y tm _ _ _ A3.out (by omega)).mono ?_; rintro e w4 ⟨rfl, hsx4, hg4⟩
    have O4 := hid (O3.out.grown hg4 (by omega))
    have A4 := hid hsx4
    have hq4 : Below k w3 w4 := below_of_grown hg4 (Nat.le_refl _) (Nat.le_of_lt A3.out.lt)
    go_wp2_with fail
    refine hK.out _ _ (HK.out _ (by repeat (first | exact Below.refl _ _ | refine Below.drew ?_ | refine Below.trans ?_ (by assumption)))) (fun hHeld => ?_)
    clear hK K
    try simp only [Act.put, List.setIfInBounds_toArray, List.set_cons_zero, List.set_cons_succ]
    refine wpAnyH_take (i := 6) (oi := { dst := some 24, op := Op.build 47 #[(0, Operand.tmp 19), (1, Operand.tmp 21), (2, Operand.tmp 23), (3, Operand.const (Value.int IntKind.i64 1))], type := 47, pos := "l07_store.go:56", after := #[{ on := 1, ground := Ground.data }, { on := 3, ground := Ground.data }, { on := 5, ground := Ground.data }], guard := none }) (v := ?vg7_6) rfl (by kernel_rfl) (by kernel_rfl) (by kernel_rfl) (fun _ _ _ h => h) (Or.inl ⟨by rfl, ?hyg7_6⟩) (by assumption) ?restg7_6
    case hyg7_6 => (intro w hSw; (try dsimp only at hSw); go_simp; try with_reducible rfl)
    try simp only [Act.put, List.setIfInBounds_toArray, List.set_cons_zero, List.set_cons_succ]
    clear hHeld
    refine wpAnyH_ready (rs := [7]) (by kernel_rfl) (by simp) ?_
    refine AllReadyH.cons (o := { dst := some 25, op := Op.call { callee := Callee.value (Operand.func 25), args := #[Operand.tmp 18, Operand.tmp 24], argTypes := #[52, 47] }, type := 0, pos := "l07_store.go:56", after := #[{ on := 0, ground := Ground.data }, { on := 6, ground := Ground.data }, { on := 5, ground := Ground.chain }], guard := none }) rfl (fun K hK => ?_) AllReadyH.nil
    go_simp
    refine (putBox_any k y (tm + 1) _ _ S G gid nm (tm + 1) y 1 _ A4.out O4.out HN5.out HPW.out).mono ?_; rintro e w5 ⟨rfl, bv5, hsx5, hot5, hq5⟩
    have O5 := hid hot5
    have A5 := hid hsx5
    go_wp2_with fail
    refine hK.out _ _ (HK.out _ (by repeat (first | exact Below.refl _ _ | refine Below.drew ?_ | refine Below.trans ?_ (by assumption)))) (fun hHeld => ?_)
    clear hK K
    try simp only [Act.put, List.setIfInBounds_toArray, List.set_cons_zero, List.set_cons_succ]
    refine wpAnyH_done (by kernel_rfl) ?_ _
    refine NoPanic.normal ?_
    clear hHeld
    have HQ5 : Hid (Below k w w5) := (HB2.out.mono (Nat.le_of_lt HKL.out)).trans (show Below k w2 w5 by repeat (first | exact Below.refl _ _ | refine Below.drew ?_ | refine Below.trans ?_ (by assumption)))
    clear hq3 hq4 hq5
    go_wp2
    go_ret
    exact ⟨by rw [HE.out]; rfl, fun _ => ⟨_, _, A5.out, O5.out⟩, HQ5.out⟩
  · refine wpAnyH_take (i := 5) (oi := { dst := some 10, op := Op.move (Operand.tmp 9), type := 4, pos := "l07_store.go:53", after := #[{ on := 4, ground := Ground.data }, { on := 4, ground := Ground.chain }], guard := none }) (v := ?vf14_5) rfl (by kernel_rfl) (by kernel_rfl) (by kernel_rfl) (fun _ _ _ h => h) (Or.inl ⟨by rfl, ?hyf14_5⟩) (by assumption) ?restf14_5
    case hyf14_5 => (intro w hSw; (try dsimp only at hSw); go_simp; try with_reducible rfl)
    try simp only [Act.put, List.setIfInBounds_toArray, List.set_cons_zero, List.set_cons_succ]
    refine wpAnyH_take (i := 6) (oi := { dst := some 11, op := Op.move (Operand.tmp 0), type := 52, pos := "l07_store.go:53", after := #[{ on := 5, ground := Ground.guard }], guard := some (5, false) }) (v := undef) rfl (by kernel_rfl) (by kernel_rfl) (by kernel_rfl) (fun _ _ _ h => h) (Or.inr ⟨by rfl, rfl⟩) (by assumption) ?_
    try simp only [Act.put, List.setIfInBounds_toArray, List.set_cons_zero, List.set_cons_succ]
    refine wpAnyH_take (i := 7) (oi := { dst := some 12, op := Op.nilCheck (Operand.tmp 11), type := 0, pos := "l07_store.go:53", after := #[{ on := 6, ground := Ground.data }, { on := 5, ground := Ground.guard }], guard := some (5, false) }) (v := undef) rfl (by kernel_rfl) (by kernel_rfl) (by kernel_rfl) (fun _ _ _ h => h) (Or.inr ⟨by rfl, rfl⟩) (by assumption) ?_
    try simp only [Act.put, List.setIfInBounds_toArray, List.set_cons_zero, List.set_cons_succ]
    refine wpAnyH_take (i := 8) (oi := { dst := some 13, op := Op.load 29 (Operand.tmp 12), type := 29, pos := "l07_store.go:53", after := #[{ on := 7, ground := Ground.data }, { on := 5, ground := Ground.guard }], guard := some (5, false) }) (v := undef) rfl (by kernel_rfl) (by kernel_rfl) (by kernel_rfl) (fun _ _ _ h => h) (Or.inr ⟨by rfl, rfl⟩) (by assumption) ?_
    try simp only [Act.put, List.setIfInBounds_toArray, List.set_cons_zero, List.set_cons_succ]
    refine wpAnyH_take (i := 9) (oi := { dst := some 14, op := Op.load 9 (Operand.tmp 2), type := 9, pos := "l07_store.go:53", after := #[{ on := 5, ground := Ground.guard }], guard := some (5, false) }) (v := undef) rfl (by kernel_rfl) (by kernel_rfl) (by kernel_rfl) (fun _ _ _ h => h) (Or.inr ⟨by rfl, rfl⟩) (by assumption) ?_
    try simp only [Act.put, List.setIfInBounds_toArray, List.set_cons_zero, List.set_cons_succ]
    refine wpAnyH_take (i := 10) (oi := { dst := some 15, op := Op.call { callee := Callee.value (Operand.func 24), args := #[Operand.tmp 13, Operand.tmp 14], argTypes := #[29, 9] }, type := 3, pos := "l07_store.go:53", after := #[{ on := 8, ground := Ground.data }, { on := 9, ground := Ground.data }, { on := 5, ground := Ground.chain }, { on := 5, ground := Ground.guard }], guard := some (5, false) }) (v := undef) rfl (by kernel_rfl) (by kernel_rfl) (by kernel_rfl) (fun _ _ _ h => h) (Or.inr ⟨by rfl, rfl⟩) (by assumption) ?_
    try simp only [Act.put, List.setIfInBounds_toArray, List.set_cons_zero, List.set_cons_succ]
    refine wpAnyH_take (i := 11) (oi := { dst := some 16, op := Op.binOp BinOp.geq 3 (Operand.tmp 15) (Operand.const (Value.int IntKind.i64 0)) 3, type := 4, pos := "l07_store.go:53", after := #[{ on := 10, ground := Ground.data }, { on := 5, ground := Ground.guard }], guard := some (5, false) }) (v := undef) rfl (by kernel_rfl) (by kernel_rfl) (by kernel_rfl) (fun _ _ _ h => h) (Or.inr ⟨by rfl, rfl⟩) (by assumption) ?_
    try simp only [Act.put, List.setIfInBounds_toArray, List.set_cons_zero, List.set_cons_succ]
    refine wpAnyH_take (i := 12) (oi := { dst := some 17, op := Op.pick (Operand.tmp 10) (Operand.const (Value.bool true)) (Operand.tmp 16), type := 4, pos := "l07_store.go:53", after := #[{ on := 5, ground := Ground.data }, { on := 11, ground := Ground.data }], guard := none }) (v := ?vf21_12) rfl (by kernel_rfl) (by kernel_rfl) (by kernel_rfl) (fun _ _ _ h => h) (Or.inl ⟨by rfl, ?hyf21_12⟩) (by assumption) ?restf21_12
    case hyf21_12 => (intro w hSw; (try dsimp only at hSw); go_simp; try with_reducible rfl)
    try simp only [Act.put, List.setIfInBounds_toArray, List.set_cons_zero, List.set_cons_succ]
    refine wpAnyH_done (by kernel_rfl) ?_ _
    refine NoPanic.normal ?_
    have hb01 : Below w.heap.size w w1 := by repeat (first | exact bre _ | refine bdr ?_ | refine btr ?_ (by assumption) | refine bpush ?_ _)
    have HB1 := hid hb01
    clear hHeld hb1 hb01
    have HE : Hid ((!kno gid S G && !(S.any (isN nm))) = false) := by show _ = _; rw [HQK.out]; rfl
    go_wp2
    go_ret
    exact ⟨by rw [HE.out]; rfl, (fun h => by rw [HE.out] at h; cases h), HB1.out.mono (Nat.le_of_lt HKL.out)⟩

set_option maxHeartbeats 1600000 in
set_option maxRecDepth 100000 in
theorem implMakeB_any (lo hh lo' hh' : Nat) (y tm : Int) (ba : Option Addr) (bn bc : Nat) (ga : Option Addr) (gn gc : Nat) (S : List X7) (G : List Int) (gid : Int) (nm : ByteArray) (w : World) (hl : S.length = bn) (hn : bn ≤ 1048576) (hsb : Sb S) (hm : Bs lo hh w ba S) (hm0 : ba = none → bc = 0) (hgl : G.length = gn) (hgn : gn ≤ 1048576) (hs : Is lo' hh' w ga G) (hg0 : ga = none → gc = 0) (hnm : nm.size ≤ 1048576)
    (ok2 : Bool) (h2 : (sOk y tm S G && ((!kno gid S G && !(S.any (isN nm))) && sOk y (tm + 1) (insX (gid, nm, tm + 1, y, 1, [], []) S) (G))) = ok2) :
    Calls Tryz.prog 7 #[.agg #[.int .i64 y, .int .i64 tm, .slice ba bn bc, .slice ga gn gc], .int .i64 gid, .string nm] w fun e w' => ∃ bv gv, e = .returned (.tuple #[.agg #[.int .i64 y, .int .i64 (pik ok2 (tm + 1) tm), bv, gv], .bool ok2]) ∧ OwT w' w.heap.size bv gv (pik ok2 (insX (gid, nm, tm + 1, y, 1, [], []) S) S) (pik ok2 (G) G) ∧ Below w.heap.size w w' := by
  obtain ⟨W0, hW0⟩ : ∃ W0, (((w.alloc (.cells #[.int .i64 y, .int .i64 tm, .slice ba bn bc, .slice ga gn gc] 29)).alloc (.cells #[.int .i64 gid] 3)).alloc (.cells #[.string nm] 9)).alloc (.cells #[.int .i64 0, .int .i64 0, .slice none 0 0, .slice none 0 0] 29) = W0 := ⟨_, rfl⟩
  obtain ⟨a0, c1, c2, r0, b0, s0⟩ := store_caps2 w _ _ _ _ _ _ _ _ _ _ _ _ _ _ W0 hW0
  have c0 := a0.cells
  have C1 := hid c1
  have C2 := hid c2
  have R0 := hid r0
  have B0 := hid b0
  have S0 := hid s0
  obtain ⟨S1, hS1⟩ : ∃ S1, insX (gid, nm, tm + 1, y, 1, [], []) S = S1 := ⟨_, rfl⟩
  obtain ⟨t1, ht1⟩ : ∃ t1, pik ok2 (tm + 1) tm = t1 := ⟨_, rfl⟩
  have HCC : Hid (Calls Tryz.prog 21 #[.agg #[.int .i64 y, .int .i64 tm, .slice ba bn bc, .slice ga gn gc], .func (.func 22) #[] #[.pointer (some ⟨w.heap.size + 1, 0, none⟩), .pointer (some ⟨w.heap.size + 1 + 1, 0, none⟩)]] W0 fun e w' => ∃ bv gv, e = .returned (.tuple #[.agg #[.int .i64 y, .int .i64 t1, bv, gv], .bool ok2]) ∧ OwT w' W0.heap.size bv gv (pik ok2 S1 S) (pik ok2 G G) ∧ Below W0.heap.size W0 w') := by
    rw [← ht1, ← hS1]
    refine changed_any 22 _ _ (tm + 1) (insX (gid, nm, tm + 1, y, 1, [], []) S) (G) lo hh lo' hh' y tm ba bn bc ga gn gc S G W0 hl hn hsb (hm.later b0) hm0 hgl hgn (hs.later b0) hg0 (Go.Proofs.enters_of Tryz.func22 (by kernel_rfl) rfl) (fun hok W k bv gv hk hb hsx hot => ?_) (fun hok hok0 => ?_) ok2 h2
    · exact makeOut_any k y tm bv gv S G gid nm (w.heap.size + 1) (w.heap.size + 1 + 1) W hsx hot (by have := (sOk_all hok).1; omega) hsb (by omega) (sOk_tm hok) hnm (sOk_pw hok) (by have := S0.out; omega) ((hb.cell (p := ⟨w.heap.size + 1, 0, none⟩) (by have := S0.out; show w.heap.size + 1 < W0.heap.size; omega)).trans C1.out) (by have := S0.out; omega) ((hb.cell (p := ⟨w.heap.size + 1 + 1, 0, none⟩) (by have := S0.out; show w.heap.size + 1 + 1 < W0.heap.size; omega)).trans C2.out)
    · have h5 := (sOk_all hok).1
      refine ⟨?_, ?_, by omega⟩
      · intro x hx
        unfold insX at hx
        rcases List.mem_append.1 hx with hx | hx
        · exact hsb x (List.mem_of_mem_take hx)
        · rcases List.mem_cons.1 hx with rfl | hx
          · exact ⟨hnm, by simp, (fun m hm => by cases hm), by simp⟩
          · exact hsb x (List.mem_of_mem_drop hx)
      · unfold insX
        rw [List.length_append, List.length_cons, List.length_take, List.length_drop]
        omega
  clear a0 r0 b0 s0 hsb hm hm0 hgl hgn hs hg0 h2 c1 c2
  rw [hS1]
  go_enter Tryz.func7, Tryz.ntmps7
  go_wp2_with fail
  clear hW0
  refine HCC.out.mono ?_; rintro e w8 ⟨bv, gv, rfl, hot, hb8⟩
  obtain ⟨a8, c8, a9, c9, hv8, hv9⟩ := hot.shape
  obtain ⟨n8, hn8⟩ : ∃ n8, (pik ok2 S1 S).length = n8 := ⟨_, rfl⟩
  obtain ⟨n9, hn9⟩ : ∃ n9, (pik ok2 G G).length = n9 := ⟨_, rfl⟩
  rw [hn8] at hv8
  rw [hn9] at hv9
  subst hv8
  subst hv9
  have r8 := R0.out.later hb8
  have q1 := r8.cells
  have q2 := r8.loose
  have R8 := hid r8
  have O8 := hid hot
  have B8 := hid (btr B0.out hb8)
  have HT := hid ht1
  clear r8 hot hb8 hn8 hn9 HCC ht1 hS1
  go_wp2
  have e2 := put4_grown w8 (w.heap.size + 1 + 1 + 1) y t1 (.slice a8 n8 c8) (.slice a9 n9 c9)
  have d1 := (R8.out.put4 y t1 (.slice a8 n8 c8) (.slice a9 n9 c9)).cells
  unfold put4 at d1 e2
  have hs0 := S0.out
  refine bodyPost_ret (v := .tuple #[.agg #[.int .i64 y, .int .i64 t1, .slice a8 n8 c8, .slice a9 n9 c9], .bool ok2]) (by simp [results, Tryz.results7, go_sem, d1]) rfl ⟨_, _, by rw [HT.out], ?_, ?_⟩
  · exact (O8.out.grown e2 (by omega)).base (by omega)
  · exact B8.out.trans (below_of_grown e2 (by omega) B8.out.size)
end Go.Proofs.YtjobfolipbfhlanGreat

