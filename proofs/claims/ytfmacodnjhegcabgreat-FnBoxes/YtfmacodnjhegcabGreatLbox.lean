/- The walk of the law of boxes. -/
import Derived.Test.YtfmacodnjhegcabGreatBfn
namespace Go.Proofs.YtfmacodnjhegcabGreat
open Go.RowKit Go.ChangeMaps

/-- The first two of the drawn places. -/
def Pc (W : World) (gp x y : Nat) : Prop := gp < W.heap.size ∧ W.cell? ⟨gp, 0, none⟩ = some (.int .i64 (x : Int)) ∧ W.cell? ⟨gp, 1, none⟩ = some (.int .i64 (y : Int))
theorem Pc.later {W W' : World} {gp x y : Nat} (h : Pc W gp x y) (hb : Below W.heap.size W W') : Pc W' gp x y :=
  ⟨Nat.lt_of_lt_of_le h.1 hb.size, (hb.cell (p := ⟨gp, 0, none⟩) h.1).trans h.2.1, (hb.cell (p := ⟨gp, 1, none⟩) h.1).trans h.2.2⟩
theorem tmodEight (x : Nat) : ∃ r : Nat, (x : Int).tmod 8 = (r : Int) ∧ r < 8 := ⟨x % 8, by rw [Int.tmod_eq_emod_of_nonneg (by omega)]; omega, by omega⟩
/-- A box that was handed back, in a block of its own. -/
structure An (wn W : World) (k : Nat) (g : Int) (nm : ByteArray) (t b nx : Int) (ma : Option Addr) (mn mc : Nat) (ga : Option Addr) (gn gc : Nat) (L : List M4) (G : List Int) : Prop where
  bx : Bx W k 29 g nm t b nx (.slice ma mn mc) (.slice ga gn gc)
  bz : Bz W ma mn mc ga gn gc L G
  bel : Below wn.heap.size wn W
section
variable {wn v : World} {g : Int} {nm : ByteArray} {t b nx : Int} {ma : Option Addr} {mn mc : Nat} {ga : Option Addr} {gn gc : Nat} {L : List M4} {G : List Int}
theorem An.last {lo : Nat} (hz : BzL v lo ma mn mc ga gn gc L G) (hb : Below wn.heap.size wn v) : An wn (v.alloc (.cells #[.int .i64 g, .string nm, .int .i64 t, .int .i64 b, .int .i64 nx, .slice ma mn mc, .slice ga gn gc] 29)) v.heap.size g nm t b nx ma mn mc ga gn gc L G :=
  ⟨Bx.new _ _ _ _ _ _ _ _ _, hz.bz.later (bpush (bre _) _), bpush hb _⟩
/-- The block made ahead of the call, filled behind it. -/
theorem An.first {lo k : Nat} (hx : Bx v k 29 0 ⟨#[]⟩ 0 0 0 (.slice none 0 0) (.slice none 0 0)) (hz : BzL v lo ma mn mc ga gn gc L G) (hk : k < lo) (hw : wn.heap.size ≤ k) (hb : Below wn.heap.size wn v) :
    An wn (((((((v.setCell ⟨k, 0, none⟩ (.int .i64 g)).setCell ⟨k, 1, none⟩ (.string nm)).setCell ⟨k, 2, none⟩ (.int .i64 t)).setCell ⟨k, 3, none⟩ (.int .i64 b)).setCell ⟨k, 4, none⟩ (.int .i64 nx)).setCell ⟨k, 5, none⟩ (.slice ma mn mc)).setCell ⟨k, 6, none⟩ (.slice ga gn gc)) k g nm t b nx ma mn mc ga gn gc L G := by
  have hg := set7_grown v k g nm t b nx (.slice ma mn mc) (.slice ga gn gc)
  have hy := hx.set7 g nm t b nx (.slice ma mn mc) (.slice ga gn gc)
  unfold Go.Proofs.YtfmacodnjhegcabGreat.set7 at hg hy
  exact ⟨hy, hz.far hg hk, hb.trans (below_of_grown hg hw hb.size)⟩
end
theorem uid_last {L : List M4} {gid nx fl : Int} {tx : ByteArray} {st sb : Int} {i : Nat} (h : L.length = i) : (L ++ [nwm gid nx fl tx st sb])[i]? = some (nwm gid nx fl tx st sb) := by
  subst h
  simp
theorem uid_at {W : World} {a : Option Addr} {N c : Nat} {a' : Option Addr} {M c' : Nat} {K : List M4} {H : List Int} {i : Nat} {u gid fl : Int} {tx : ByteArray} {st sb : Int} (h : Bz W a N c a' M c' K H) (hi : i < N) (hk : K[i]? = some (nwm gid u fl tx st sb)) :
    ∃ k o, a = some ⟨k, o, none⟩ ∧ k < W.heap.size ∧ W.cell? ⟨k, o + i * 4 + 1, none⟩ = some (.int .i64 u) := by
  obtain ⟨lo, hh, hm⟩ := h.mails
  have hil : i < K.length := by rw [h.len]; exact hi
  obtain ⟨k, o, fa, fc, e1, e2, e3, _⟩ := hm.at hil
  refine ⟨k, o, e1, e2, ?_⟩
  have : K[i] = nwm gid u fl tx st sb := by rw [List.getElem?_eq_getElem hil] at hk; simpa using hk
  have h2 := e3.2.1
  rw [this] at h2
  exact h2

set_option maxHeartbeats 64000000 in
set_option maxRecDepth 100000 in
theorem lawBoxes_any (ao : Option Addr) (n cap : Nat) (w : World) (hcode : Code w w.heap.size ao n) :
    Calls Tryz.prog 3 #[.slice ao n cap] w fun e w' => e = .returned (.bool true) ∧ Below w.heap.size w w' := by
  have HO := hid hcode
  have BE := hid (bre w)
  clear hcode
  by_cases hbig : ¬ n ≤ 1048576
  · go_enter Tryz.func3, Tryz.ntmps3
    go_wp2_with fail
    refine (bigF_yes ao n cap _ hbig).mono ?_; rintro e w' ⟨rfl, h'⟩
    rw [h']
    clear h'
    go_wp2
    go_ret
    exact ⟨rfl, bre _⟩
  · have hbig := Classical.not_not.1 hbig
    go_enter Tryz.func3, Tryz.ntmps3
    go_wp2_with fail
    refine (bigF_no ao n cap _ hbig).mono ?_; rintro e w' ⟨rfl, h'⟩
    rw [h']
    clear h'
    go_wp2_with fail
    refine (drawBox_any ao n cap _ hbig HO.out).mono ?_; rintro e w1 ⟨g0, nm0, t0, b0, nx0, ma0, mn0, mc0, ga0, gn0, gc0, L0, G0, rfl, hd, hq, hb⟩
    obtain ⟨hz0, hnz0⟩ := hq.bz
    have NZ0 : Hid (nm0.size ≤ 1048576) := Nat.le_trans hnz0 (by decide)
    have D0 := hid hd
    obtain ⟨k0, hk0⟩ : ∃ k0, w1.heap.size = k0 := ⟨_, rfl⟩
    obtain ⟨W1, hW1⟩ : ∃ W1, (w1.alloc (.cells #[.int .i64 g0, .string nm0, .int .i64 t0, .int .i64 b0, .int .i64 nx0, .slice ma0 mn0 mc0, .slice ga0 gn0 gc0] 29)) = W1 := ⟨_, rfl⟩
    have HB1 : Below w.heap.size w W1 := by rw [← hW1]; exact bpush (hb) _
    have BE := hid (btr BE.out HB1)
    clear HB1
    have X0 : Hid (Bx W1 k0 29 g0 nm0 t0 b0 nx0 (.slice ma0 mn0 mc0) (.slice ga0 gn0 gc0)) := by rw [← hW1, ← hk0]; exact Bx.new _ _ _ _ _ _ _ _ _
    have Z0 : Hid (Bz W1 ma0 mn0 mc0 ga0 gn0 gc0 L0 G0) := by rw [← hW1]; exact hz0.later (bpush (bre _) _)
    clear hq hz0 hnz0 hb hd
    go_wp2_with fail
    try rw [hk0]
    try rw [hW1]
    clear hk0 hW1
    refine (drawPlaces_any ao n cap _ hbig (HO.out.over BE.out)).mono ?_; rintro e w2 ⟨gp, cp, x, y, rfl, hgp, hcx, hcy, hx, hy, hb⟩
    have PC0 : Pc w2 gp x y := ⟨hgp, hcx, hcy⟩
    obtain ⟨kS, hkS⟩ : ∃ kS, w2.heap.size = kS := ⟨_, rfl⟩
    obtain ⟨W2, hW2⟩ : ∃ W2, (w2.alloc (.cells #[.int .i64 60, .int .i64 1] 25)) = W2 := ⟨_, rfl⟩
    have HB2 : Below W1.heap.size W1 W2 := by rw [← hW2]; exact bpush (hb) _
    have X0 := hid (X0.out.later HB2)
    have Z0 := hid (Z0.out.later HB2)
    have BE := hid (btr BE.out HB2)
    clear HB2
    have S1 : Hid (Sg W2 kS 25 60 1) := by rw [← hW2, ← hkS]; exact Sg.new w2 _ 60 1
    have PC : Hid (Pc W2 gp x y) := by rw [← hW2]; exact PC0.later (bpush (bre _) _)
    clear hgp hcx hcy hb PC0 hy hx
    obtain ⟨f, hf, hf8⟩ := tmodEight x
    have HF : Hid (0 ≤ (f : Int) ∧ (f : Int) ≤ 7) := by show _ ∧ _; omega
    clear hf8
    have HFE := hid hf
    clear hf
    go_wp2_with fail
    try rw [hkS]
    try rw [hW2]
    clear hkS hW2
    obtain ⟨p1, ny1, K1, H1, N1, M1, hdef1, hlen1, _, ci1⟩ := add_two g0 nm0 t0 b0 nx0 mn0 gn0 L0 G0 77 (f : Int) ⟨#[110, 101, 119]⟩ 60 1 NZ0.out Z0.out.len Z0.out.most Z0.out.sm Z0.out.glen Z0.out.gmost (by decide)
    go_cut [6, 7] from 17 (fun s s' wx => ∃ (k : Nat) (a : Option Addr) (c : Nat) (d : Option Addr) (e : Nat), s = .pointer (some ⟨k, 0, none⟩) ∧ s' = .bool p1 ∧ An W2 wx k g0 nm0 t0 b0 ny1 a N1 c d M1 e K1 H1)
    case first =>
      have HS : Hid (∀ W, Below W2.heap.size W2 W → (W.cell? ⟨k0, 0, none⟩ = some (.int .i64 g0) ∧ W.cell? ⟨k0, 1, none⟩ = some (.string nm0) ∧ W.cell? ⟨k0, 2, none⟩ = some (.int .i64 t0) ∧ W.cell? ⟨k0, 3, none⟩ = some (.int .i64 b0) ∧ W.cell? ⟨k0, 4, none⟩ = some (.int .i64 nx0) ∧ W.cell? ⟨k0, 5, none⟩ = some (.slice ma0 mn0 mc0) ∧ W.cell? ⟨k0, 6, none⟩ = some (.slice ga0 gn0 gc0)) ∧ (W.cell? ⟨kS, 0, none⟩ = some (.int .i64 60) ∧ W.cell? ⟨kS, 1, none⟩ = some (.int .i64 1)) ∧ W.cell? ⟨gp, 0, none⟩ = some (.int .i64 (x : Int))) := fun W h => ⟨(X0.out.later h).cells, (S1.out.later h).cells, (PC.out.later h).2.1⟩
      have hfe := HFE.out
      refine wp_region_noPanic ?_
      refine wp_region_held_drew (S := (fun W => (W.cell? ⟨k0, 0, none⟩ = some (.int .i64 g0) ∧ W.cell? ⟨k0, 1, none⟩ = some (.string nm0) ∧ W.cell? ⟨k0, 2, none⟩ = some (.int .i64 t0) ∧ W.cell? ⟨k0, 3, none⟩ = some (.int .i64 b0) ∧ W.cell? ⟨k0, 4, none⟩ = some (.int .i64 nx0) ∧ W.cell? ⟨k0, 5, none⟩ = some (.slice ma0 mn0 mc0) ∧ W.cell? ⟨k0, 6, none⟩ = some (.slice ga0 gn0 gc0)) ∧ (W.cell? ⟨kS, 0, none⟩ = some (.int .i64 60) ∧ W.cell? ⟨kS, 1, none⟩ = some (.int .i64 1)) ∧ W.cell? ⟨gp, 0, none⟩ = some (.int .i64 (x : Int)))) (by kernel_rfl) (HS.out _ (bdr (bre _))) (fun hHeld => ?_)
      refine wpAnyH_take (i := 0) (oi := { dst := some 25, op := Op.load 29 (Operand.tmp 3), type := 29, pos := "laws.go:283", after := #[], guard := none }) (v := ?vb1_0) rfl (by kernel_rfl) (by kernel_rfl) (by kernel_rfl) (fun _ _ _ h => h) (Or.inl ⟨by rfl, ?hyb1_0⟩) (by assumption) ?restb1_0
      case hyb1_0 => (intro w hSw; (try dsimp only at hSw); go_simp; try with_reducible rfl)
      try simp only [Act.put, List.setIfInBounds_toArray, List.set_cons_zero, List.set_cons_succ]
      refine wpAnyH_take (i := 1) (oi := { dst := some 26, op := Op.move (Operand.tmp 4), type := 27, pos := "laws.go:283", after := #[], guard := none }) (v := ?vb2_1) rfl (by kernel_rfl) (by kernel_rfl) (by kernel_rfl) (fun _ _ _ h => h) (Or.inl ⟨by rfl, ?hyb2_1⟩) (by assumption) ?restb2_1
      case hyb2_1 => (intro w hSw; (try dsimp only at hSw); go_simp; try with_reducible rfl)
      try simp only [Act.put, List.setIfInBounds_toArray, List.set_cons_zero, List.set_cons_succ]
      refine wpAnyH_take (i := 2) (oi := { dst := some 27, op := Op.indexAddr 27 (Operand.tmp 26) (Operand.const (Value.int IntKind.i64 0)), type := 0, pos := "laws.go:283", after := #[{ on := 1, ground := Ground.data }], guard := none }) (v := ?vb3_2) rfl (by kernel_rfl) (by kernel_rfl) (by kernel_rfl) (fun _ _ _ h => h) (Or.inl ⟨by rfl, ?hyb3_2⟩) (by assumption) ?restb3_2
      case hyb3_2 => (intro w hSw; (try dsimp only at hSw); go_simp; try with_reducible rfl)
      try simp only [Act.put, List.setIfInBounds_toArray, List.set_cons_zero, List.set_cons_succ]
      refine wpAnyH_take (i := 3) (oi := { dst := some 28, op := Op.load 3 (Operand.tmp 27), type := 3, pos := "laws.go:283", after := #[{ on := 2, ground := Ground.data }], guard := none }) (v := ?vb4_3) rfl (by kernel_rfl) (by kernel_rfl) (by kernel_rfl) (fun _ _ _ h => h) (Or.inl ⟨by rfl, ?hyb4_3⟩) (by assumption) ?restb4_3
      case hyb4_3 => (intro w hSw; (try dsimp only at hSw); go_simp; try with_reducible rfl)
      try simp only [Act.put, List.setIfInBounds_toArray, List.set_cons_zero, List.set_cons_succ]
      refine wpAnyH_take (i := 4) (oi := { dst := some 29, op := Op.binOp BinOp.rem 3 (Operand.tmp 28) (Operand.const (Value.int IntKind.i64 8)) 3, type := 3, pos := "laws.go:283", after := #[{ on := 3, ground := Ground.data }], guard := none }) (v := ?vb5_4) rfl (by kernel_rfl) (by kernel_rfl) (by kernel_rfl) (fun _ _ _ h => h) (Or.inl ⟨by rfl, ?hyb5_4⟩) (by assumption) ?restb5_4
      case hyb5_4 => (intro w hSw; (try dsimp only at hSw); go_simp; try with_reducible rfl)
      try simp only [Act.put, List.setIfInBounds_toArray, List.set_cons_zero, List.set_cons_succ]
      refine wpAnyH_take (i := 5) (oi := { dst := some 30, op := Op.load 25 (Operand.tmp 5), type := 25, pos := "laws.go:283", after := #[], guard := none }) (v := ?vb6_5) rfl (by kernel_rfl) (by kernel_rfl) (by kernel_rfl) (fun _ _ _ h => h) (Or.inl ⟨by rfl, ?hyb6_5⟩) (by assumption) ?restb6_5
      case hyb6_5 => (intro w hSw; (try dsimp only at hSw); go_simp; try with_reducible rfl)
      try simp only [Act.put, List.setIfInBounds_toArray, List.set_cons_zero, List.set_cons_succ]
      clear hHeld
      refine wpAnyH_ready (rs := [6, 10]) (by kernel_rfl) (by simp) ?_
      refine AllReadyH.cons (o := { dst := some 31, op := Op.call { callee := Callee.value (Operand.func 9), args := #[Operand.tmp 25, Operand.const (Value.int IntKind.i64 77), Operand.tmp 29, Operand.const (Value.string { data := #[110, 101, 119] }), Operand.tmp 30], argTypes := #[29, 3, 3, 9, 25] }, type := 32, pos := "laws.go:283", after := #[{ on := 0, ground := Ground.data }, { on := 4, ground := Ground.data }, { on := 5, ground := Ground.data }], guard := none }) rfl (fun K hK => ?_) ?_
      · go_simp
        refine (ci1.out ma0 mc0 ga0 gc0 _ (Z0.out.later (bdr (bre _)))).mono ?_
        rintro e v3 ⟨a1, c1, d1, e1, rfl, hz3, hb3⟩
        have HZ3 := hid hz3
        have HB3 := hid (btr (bdr (bre _)) hb3)
        clear hz3 hb3
        go_wp2_with fail
        refine hK.out _ _ (HS.out _ HB3.out) (fun hHeld => ?_)
        clear hK K
        try simp only [Act.put, List.setIfInBounds_toArray, List.set_cons_zero, List.set_cons_succ]
        refine wpAnyH_take (i := 7) (oi := { dst := some 24, op := Op.move (Operand.tmp 31), type := 32, pos := "laws.go:283", after := #[{ on := 6, ground := Ground.data }], guard := none }) (v := ?vb7_7) rfl (by kernel_rfl) (by kernel_rfl) (by kernel_rfl) (fun _ _ _ h => h) (Or.inl ⟨by rfl, ?hyb7_7⟩) (by assumption) ?restb7_7
        case hyb7_7 => (intro w hSw; (try dsimp only at hSw); go_simp; try with_reducible rfl)
        try simp only [Act.put, List.setIfInBounds_toArray, List.set_cons_zero, List.set_cons_succ]
        refine wpAnyH_take (i := 8) (oi := { dst := some 32, op := Op.extract (Operand.tmp 24) 0, type := 29, pos := "laws.go:283", after := #[{ on := 7, ground := Ground.data }], guard := none }) (v := ?vb8_8) rfl (by kernel_rfl) (by kernel_rfl) (by kernel_rfl) (fun _ _ _ h => h) (Or.inl ⟨by rfl, ?hyb8_8⟩) (by assumption) ?restb8_8
        case hyb8_8 => (intro w hSw; (try dsimp only at hSw); go_simp; try with_reducible rfl)
        try simp only [Act.put, List.setIfInBounds_toArray, List.set_cons_zero, List.set_cons_succ]
        refine wpAnyH_take (i := 9) (oi := { dst := some 33, op := Op.extract (Operand.tmp 24) 1, type := 4, pos := "laws.go:283", after := #[{ on := 7, ground := Ground.data }, { on := 11, ground := Ground.gcOnly Departure.lateStores }], guard := none }) (v := ?vb9_9) rfl (by kernel_rfl) (by kernel_rfl) (by kernel_rfl) (fun _ _ _ h => h) (Or.inl ⟨by rfl, ?hyb9_9⟩) (by assumption) ?restb9_9
        case hyb9_9 => (intro w hSw; (try dsimp only at hSw); go_simp; try with_reducible rfl)
        try simp only [Act.put, List.setIfInBounds_toArray, List.set_cons_zero, List.set_cons_succ]
        clear hHeld
        refine wpAnyH_ready (rs := [10]) (by kernel_rfl) (by simp) ?_
        refine AllReadyH.cons (o := { dst := some 6, op := Op.alloc 29, type := 0, pos := "laws.go:283", after := #[], guard := none }) rfl (fun K hK => ?_) AllReadyH.nil
        go_simp
        refine hK.out _ _ (HS.out _ (bpush HB3.out _)) (fun hHeld => ?_)
        clear hK K
        try simp only [Act.put, List.setIfInBounds_toArray, List.set_cons_zero, List.set_cons_succ]
        clear hHeld
        refine wpAnyH_ready (rs := [11]) (by kernel_rfl) (by simp) ?_
        refine AllReadyH.cons (o := { dst := none, op := Op.store 29 (Operand.tmp 6) (Operand.tmp 32), type := 0, pos := "laws.go:283", after := #[{ on := 10, ground := Ground.data }, { on := 8, ground := Ground.data }, { on := 6, ground := Ground.chain }, { on := 0, ground := Ground.phase }, { on := 1, ground := Ground.phase }, { on := 2, ground := Ground.phase }, { on := 3, ground := Ground.phase }, { on := 4, ground := Ground.phase }, { on := 5, ground := Ground.phase }, { on := 6, ground := Ground.phase }, { on := 7, ground := Ground.phase }, { on := 8, ground := Ground.phase }, { on := 9, ground := Ground.textOnly Departure.lateStores }, { on := 10, ground := Ground.phase }], guard := none }) rfl (fun K hK => ?_) AllReadyH.nil
        go_simp
        have AN := hid (An.last (g := g0) (nm := nm0) (t := t0) (b := b0) (nx := ny1) HZ3.out HB3.out)
        refine hK.out _ _ (HS.out _ AN.out.bel) (fun hHeld => ?_)
        clear hK K
        try simp only [Act.put, List.setIfInBounds_toArray, List.set_cons_zero, List.set_cons_succ]
        refine wpAnyH_take (i := 12) (oi := { dst := some 7, op := Op.assign (Operand.tmp 33), type := 4, pos := "laws.go:283", after := #[{ on := 9, ground := Ground.data }, { on := 11, ground := Ground.chain }, { on := 0, ground := Ground.phase }, { on := 1, ground := Ground.phase }, { on := 2, ground := Ground.phase }, { on := 3, ground := Ground.phase }, { on := 4, ground := Ground.phase }, { on := 5, ground := Ground.phase }, { on := 6, ground := Ground.phase }, { on := 7, ground := Ground.phase }, { on := 8, ground := Ground.phase }, { on := 9, ground := Ground.phase }, { on := 10, ground := Ground.phase }, { on := 11, ground := Ground.phase }], guard := none }) (v := ?vb10_12) rfl (by kernel_rfl) (by kernel_rfl) (by kernel_rfl) (fun _ _ _ h => h) (Or.inl ⟨by rfl, ?hyb10_12⟩) (by assumption) ?restb10_12
        case hyb10_12 => (intro w hSw; (try dsimp only at hSw); go_simp; try with_reducible rfl)
        try simp only [Act.put, List.setIfInBounds_toArray, List.set_cons_zero, List.set_cons_succ]
        refine wpAnyH_done (by kernel_rfl) ?_ _
        refine NoPanic.normal ?_
        try go_wp2_with fail
        go_meet
        exact ⟨_, a1, c1, d1, e1, rfl, rfl, AN.out⟩
      refine AllReadyH.cons (o := { dst := some 6, op := Op.alloc 29, type := 0, pos := "laws.go:283", after := #[], guard := none }) rfl (fun K hK => ?_) AllReadyH.nil
      go_simp
      refine hK.out _ _ (HS.out _ (bpush (bdr (bre _)) _)) (fun hHeld => ?_)
      clear hK K
      try simp only [Act.put, List.setIfInBounds_toArray, List.set_cons_zero, List.set_cons_succ]
      clear hHeld
      refine wpAnyH_ready (rs := [6]) (by kernel_rfl) (by simp) ?_
      refine AllReadyH.cons (o := { dst := some 31, op := Op.call { callee := Callee.value (Operand.func 9), args := #[Operand.tmp 25, Operand.const (Value.int IntKind.i64 77), Operand.tmp 29, Operand.const (Value.string { data := #[110, 101, 119] }), Operand.tmp 30], argTypes := #[29, 3, 3, 9, 25] }, type := 32, pos := "laws.go:283", after := #[{ on := 0, ground := Ground.data }, { on := 4, ground := Ground.data }, { on := 5, ground := Ground.data }], guard := none }) rfl (fun K hK => ?_) AllReadyH.nil
      go_simp
      refine (ci1.out ma0 mc0 ga0 gc0 _ (Z0.out.later (bpush (bdr (bre _)) (.cells #[.int .i64 0, .string ⟨#[]⟩, .int .i64 0, .int .i64 0, .int .i64 0, .slice none 0 0, .slice none 0 0] 29)))).mono ?_
      rintro e v3 ⟨a1, c1, d1, e1, rfl, hz3, hb3⟩
      have HZ3 := hid hz3
      have HB3 := hid (btr (bpush (bdr (bre _)) (.cells #[.int .i64 0, .string ⟨#[]⟩, .int .i64 0, .int .i64 0, .int .i64 0, .slice none 0 0, .slice none 0 0] 29)) hb3)
      have R3 : Hid (Bx v3 W2.heap.size 29 0 ⟨#[]⟩ 0 0 0 (.slice none 0 0) (.slice none 0 0)) := (Bx.new W2.drew _ _ _ _ _ _ _ _).later hb3
      have q3 := R3.out.cells
      have y3 := R3.out.loose
      clear hz3 hb3
      go_wp2_with fail
      refine hK.out _ _ (HS.out _ HB3.out) (fun hHeld => ?_)
      clear hK K
      try simp only [Act.put, List.setIfInBounds_toArray, List.set_cons_zero, List.set_cons_succ]
      refine wpAnyH_take (i := 7) (oi := { dst := some 24, op := Op.move (Operand.tmp 31), type := 32, pos := "laws.go:283", after := #[{ on := 6, ground := Ground.data }], guard := none }) (v := ?vb11_7) rfl (by kernel_rfl) (by kernel_rfl) (by kernel_rfl) (fun _ _ _ h => h) (Or.inl ⟨by rfl, ?hyb11_7⟩) (by assumption) ?restb11_7
      case hyb11_7 => (intro w hSw; (try dsimp only at hSw); go_simp; try with_reducible rfl)
      try simp only [Act.put, List.setIfInBounds_toArray, List.set_cons_zero, List.set_cons_succ]
      refine wpAnyH_take (i := 8) (oi := { dst := some 32, op := Op.extract (Operand.tmp 24) 0, type := 29, pos := "laws.go:283", after := #[{ on := 7, ground := Ground.data }], guard := none }) (v := ?vb12_8) rfl (by kernel_rfl) (by kernel_rfl) (by kernel_rfl) (fun _ _ _ h => h) (Or.inl ⟨by rfl, ?hyb12_8⟩) (by assumption) ?restb12_8
      case hyb12_8 => (intro w hSw; (try dsimp only at hSw); go_simp; try with_reducible rfl)
      try simp only [Act.put, List.setIfInBounds_toArray, List.set_cons_zero, List.set_cons_succ]
      refine wpAnyH_take (i := 9) (oi := { dst := some 33, op := Op.extract (Operand.tmp 24) 1, type := 4, pos := "laws.go:283", after := #[{ on := 7, ground := Ground.data }, { on := 11, ground := Ground.gcOnly Departure.lateStores }], guard := none }) (v := ?vb13_9) rfl (by kernel_rfl) (by kernel_rfl) (by kernel_rfl) (fun _ _ _ h => h) (Or.inl ⟨by rfl, ?hyb13_9⟩) (by assumption) ?restb13_9
      case hyb13_9 => (intro w hSw; (try dsimp only at hSw); go_simp; try with_reducible rfl)
      try simp only [Act.put, List.setIfInBounds_toArray, List.set_cons_zero, List.set_cons_succ]
      clear hHeld
      refine wpAnyH_ready (rs := [11]) (by kernel_rfl) (by simp) ?_
      refine AllReadyH.cons (o := { dst := none, op := Op.store 29 (Operand.tmp 6) (Operand.tmp 32), type := 0, pos := "laws.go:283", after := #[{ on := 10, ground := Ground.data }, { on := 8, ground := Ground.data }, { on := 6, ground := Ground.chain }, { on := 0, ground := Ground.phase }, { on := 1, ground := Ground.phase }, { on := 2, ground := Ground.phase }, { on := 3, ground := Ground.phase }, { on := 4, ground := Ground.phase }, { on := 5, ground := Ground.phase }, { on := 6, ground := Ground.phase }, { on := 7, ground := Ground.phase }, { on := 8, ground := Ground.phase }, { on := 9, ground := Ground.textOnly Departure.lateStores }, { on := 10, ground := Ground.phase }], guard := none }) rfl (fun K hK => ?_) AllReadyH.nil
      go_simp
      clear q3 y3
      have AN := hid (An.first (wn := W2) (g := g0) (nm := nm0) (t := t0) (b := b0) (nx := ny1) R3.out HZ3.out (by simp) (Nat.le_refl _) HB3.out)
      refine hK.out _ _ (HS.out _ AN.out.bel) (fun hHeld => ?_)
      clear hK K
      try simp only [Act.put, List.setIfInBounds_toArray, List.set_cons_zero, List.set_cons_succ]
      refine wpAnyH_take (i := 12) (oi := { dst := some 7, op := Op.assign (Operand.tmp 33), type := 4, pos := "laws.go:283", after := #[{ on := 9, ground := Ground.data }, { on := 11, ground := Ground.chain }, { on := 0, ground := Ground.phase }, { on := 1, ground := Ground.phase }, { on := 2, ground := Ground.phase }, { on := 3, ground := Ground.phase }, { on := 4, ground := Ground.phase }, { on := 5, ground := Ground.phase }, { on := 6, ground := Ground.phase }, { on := 7, ground := Ground.phase }, { on := 8, ground := Ground.phase }, { on := 9, ground := Ground.phase }, { on := 10, ground := Ground.phase }, { on := 11, ground := Ground.phase }], guard := none }) (v := ?vb14_12) rfl (by kernel_rfl) (by kernel_rfl) (by kernel_rfl) (fun _ _ _ h => h) (Or.inl ⟨by rfl, ?hyb14_12⟩) (by assumption) ?restb14_12
      case hyb14_12 => (intro w hSw; (try dsimp only at hSw); go_simp; try with_reducible rfl)
      try simp only [Act.put, List.setIfInBounds_toArray, List.set_cons_zero, List.set_cons_succ]
      refine wpAnyH_done (by kernel_rfl) ?_ _
      refine NoPanic.normal ?_
      try go_wp2_with fail
      go_meet
      exact ⟨_, a1, c1, d1, e1, rfl, rfl, AN.out⟩
    case rest =>
      obtain ⟨k6, a6, c6, d6, e6, rfl, rfl, hAn⟩ := hcut
      have HBn := hAn.bel
      have X0 := hid (X0.out.later HBn)
      have Z0 := hid (Z0.out.later HBn)
      have S1 := hid (S1.out.later HBn)
      have PC := hid (PC.out.later HBn)
      have BE := hid (btr BE.out HBn)
      clear HBn
      have X6 := hid hAn.bx
      have Z6 := hid hAn.bz
      clear hAn HFE
      by_cases hl : ¬ mn0 < 10
      · have e0 := hdef1.out
        rw [fn_full D0.out HF.out (by rw [Z0.out.len]; exact hl) ⟨#[110, 101, 119]⟩ (by decide)] at e0
        obtain ⟨ep, eny, eK, eH⟩ := e0
        subst ep
        rw [amL, if_neg (by decide)] at eK
        rw [amN, if_neg (by decide)] at eny
        have eN : N1 = mn0 := by rw [← Z6.out.len, eK]; exact Z0.out.len
        have eM : M1 = gn0 := by rw [← Z6.out.glen, eH]; exact Z0.out.glen
        subst eN
        subst eM
        subst eny
        subst eK
        subst eH
        have hl1 : ¬ (N1 : Int) < 10 := by omega
        have q0 := X0.out.cells
        have q1 := X6.out.cells
        clear hdef1 hlen1 ci1 hl
        go_wp2_with fail
        refine (sameBox_bz g0 nm0 t0 b0 ny1 a6 N1 c6 d6 M1 e6 ma0 mc0 ga0 gc0 K1 H1 _ Z6.out Z0.out).mono ?_
        rintro e w7 ⟨rfl, hb⟩
        have BE := hid (btr BE.out hb)
        clear hb q0 q1
        go_wp2
        go_ret
        exact ⟨rfl, BE.out⟩

      have hl := Classical.not_not.1 hl
      have HX := hid (fn_boxes D0.out HF.out (by rw [Z0.out.len]; exact hl) ⟨#[110, 101, 119]⟩ ⟨#[97, 103, 97, 105, 110]⟩ ⟨#[109, 111, 114, 101]⟩ ⟨#[116, 119, 105, 99, 101]⟩ (by decide) (by decide))
      have e0 := hdef1.out
      rw [HX.out.1] at e0
      obtain ⟨ep, eny, eK, eH⟩ := e0
      subst ep
      rw [amL, if_pos rfl] at eK
      rw [amN, if_pos rfl] at eny
      subst eH
      have HNY := hid eny
      have HK1 := hid eK
      have eM : M1 = gn0 := by rw [← Z6.out.glen]; exact Z0.out.glen
      subst eM
      have EN1 : Hid (N1 = mn0 + 1) := by show _ = _; rw [← Z6.out.len, eK, List.length_append, Z0.out.len]; rfl
      clear eny eK hdef1 hlen1 ci1
      have hl1 : (mn0 : Int) < 10 := by omega
      have q0 := X0.out.cells
      have q1 := X6.out.cells
      go_wp2_with fail
      clear q0
      clear q1
      clear hl1
      obtain ⟨y1, hy1, _, cm1⟩ := at_two g0 nm0 t0 b0 ny1 N1 M1 K1 H1 77
      have ey : y1 = (mn0 : Int) := by rw [hy1.out, HK1.out, HX.out.2.2.1, Z0.out.len]
      subst ey
      clear hy1
      refine (cm1.out a6 c6 d6 e6 _ Z6.out).mono ?_; rintro e w7 ⟨rfl, hb⟩
      have HB61 := hb
      have X0 := hid (X0.out.later HB61)
      have Z0 := hid (Z0.out.later HB61)
      have S1 := hid (S1.out.later HB61)
      have PC := hid (PC.out.later HB61)
      have X6 := hid (X6.out.later HB61)
      have Z6 := hid (Z6.out.later HB61)
      have BE := hid (btr BE.out HB61)
      clear HB61
      clear hb cm1
      have q0 := X6.out.cells
      go_wp2_with fail
      clear q0
      obtain ⟨p2, K2, H2, N2, M2, hdef2, hlen2, _, ci2⟩ := take_two g0 nm0 t0 b0 ny1 N1 M1 K1 H1 77 NZ0.out Z6.out.len Z6.out.most Z6.out.sm Z6.out.glen Z6.out.gmost
      have e0 := hdef2.out
      rw [HNY.out, HK1.out, HX.out.2.2.2.1] at e0
      obtain ⟨ep, eK, eH⟩ := e0
      subst ep
      rw [HX.out.2.2.2.2.1] at eK
      subst eK
      rw [tkG, if_pos rfl] at eH
      have HH2 := hid eH
      have eN : N2 = mn0 := by rw [← hlen2.out.1.1]; exact Z0.out.len
      subst eN
      clear eH hdef2
      refine (ci2.out a6 c6 d6 e6 _ Z6.out).mono ?_; rintro e w8 ⟨a9, c9, d9, e9, rfl, hz, hb⟩
      obtain ⟨k9, hk9⟩ : ∃ k9, w8.heap.size = k9 := ⟨_, rfl⟩
      obtain ⟨W62, hW62⟩ : ∃ W62, (w8.alloc (.cells #[.int .i64 g0, .string nm0, .int .i64 t0, .int .i64 b0, .int .i64 ny1, .slice a9 N2 c9, .slice d9 M2 e9] 29)) = W62 := ⟨_, rfl⟩
      have HB62 : Below w7.heap.size w7 W62 := by rw [← hW62]; exact bpush (hb) _
      have X0 := hid (X0.out.later HB62)
      have Z0 := hid (Z0.out.later HB62)
      have S1 := hid (S1.out.later HB62)
      have PC := hid (PC.out.later HB62)
      have X6 := hid (X6.out.later HB62)
      have Z6 := hid (Z6.out.later HB62)
      have BE := hid (btr BE.out HB62)
      clear HB62
      have X9 : Hid (Bx W62 k9 29 g0 nm0 t0 b0 ny1 (.slice a9 N2 c9) (.slice d9 M2 e9)) := by rw [← hW62, ← hk9]; exact Bx.new _ _ _ _ _ _ _ _ _
      have Z9 : Hid (Bz W62 a9 N2 c9 d9 M2 e9 K2 H2) := by rw [← hW62]; exact hz.bz.later (bpush (bre _) _)
      clear hz hb
      have q0 := X9.out.cells
      have q1 := S1.out.cells
      go_wp2_with fail
      clear q0
      clear q1
      try rw [hk9]
      try rw [hW62]
      clear hk9 hW62
      clear ci2
      obtain ⟨p3, ny3, K3, H3, N3, M3, hdef3, hlen3, _, ci3⟩ := add_two g0 nm0 t0 b0 ny1 N2 M2 K2 H2 77 0 ⟨#[97, 103, 97, 105, 110]⟩ 60 1 NZ0.out Z9.out.len Z9.out.most Z9.out.sm Z9.out.glen Z9.out.gmost (by decide)
      have e0 := hdef3.out
      rw [HNY.out, HH2.out, HX.out.2.2.2.2.2.2.2.1, ← HNY.out, ← HH2.out] at e0
      obtain ⟨ep, eny, eK, eH⟩ := e0
      subst ep
      rw [amL, if_neg (by decide)] at eK
      rw [amN, if_neg (by decide)] at eny
      have eN : N3 = N2 := by rw [← hlen3.out.1.1, eK]; exact Z9.out.len
      have eM : M3 = M2 := by rw [← hlen3.out.2.1, eH]; exact Z9.out.glen
      subst eN
      subst eM
      subst eny
      subst eK
      subst eH
      clear hdef3
      refine (ci3.out a9 c9 d9 e9 _ Z9.out).mono ?_; rintro e w9 ⟨a11, c11, d11, e11, rfl, hz, hb⟩
      obtain ⟨k11, hk11⟩ : ∃ k11, w9.heap.size = k11 := ⟨_, rfl⟩
      obtain ⟨W63, hW63⟩ : ∃ W63, (w9.alloc (.cells #[.int .i64 g0, .string nm0, .int .i64 t0, .int .i64 b0, .int .i64 ny3, .slice a11 N3 c11, .slice d11 M3 e11] 29)) = W63 := ⟨_, rfl⟩
      have HB63 : Below W62.heap.size W62 W63 := by rw [← hW63]; exact bpush (hb) _
      have X0 := hid (X0.out.later HB63)
      have Z0 := hid (Z0.out.later HB63)
      have S1 := hid (S1.out.later HB63)
      have PC := hid (PC.out.later HB63)
      have X6 := hid (X6.out.later HB63)
      have Z6 := hid (Z6.out.later HB63)
      have X9 := hid (X9.out.later HB63)
      have Z9 := hid (Z9.out.later HB63)
      have BE := hid (btr BE.out HB63)
      clear HB63
      have X11 : Hid (Bx W63 k11 29 g0 nm0 t0 b0 ny3 (.slice a11 N3 c11) (.slice d11 M3 e11)) := by rw [← hW63, ← hk11]; exact Bx.new _ _ _ _ _ _ _ _ _
      have Z11 : Hid (Bz W63 a11 N3 c11 d11 M3 e11 K3 H3) := by rw [← hW63]; exact hz.bz.later (bpush (bre _) _)
      clear hz hb
      have q0 := X9.out.cells
      have q1 := S1.out.cells
      go_wp2_with fail
      clear q0
      clear q1
      try rw [hk11]
      try rw [hW63]
      clear hk11 hW63
      clear ci3 hlen3
      obtain ⟨p4, ny4, K4, H4, N4, M4, hdef4, hlen4, _, ci4⟩ := add_two g0 nm0 t0 b0 ny3 N3 M3 K3 H3 78 0 ⟨#[109, 111, 114, 101]⟩ 60 1 NZ0.out Z9.out.len Z9.out.most Z9.out.sm Z9.out.glen Z9.out.gmost (by decide)
      have e0 := hdef4.out
      rw [HNY.out, HH2.out, HX.out.2.2.2.2.2.2.2.2.1, ← HNY.out, ← HH2.out] at e0
      obtain ⟨ep, eny, eK, eH⟩ := e0
      subst ep
      rw [amL, if_pos rfl] at eK
      have HK4 := hid eK
      have EN4 : Hid (N4 = N3 + 1) := by show _ = _; rw [← hlen4.out.1.1, eK, List.length_append, Z9.out.len]; rfl
      clear hdef4 eK eny eH
      refine (ci4.out a9 c9 d9 e9 _ Z9.out).mono ?_; rintro e w10 ⟨a13, c13, d13, e13, rfl, hz, hb⟩
      obtain ⟨k13, hk13⟩ : ∃ k13, w10.heap.size = k13 := ⟨_, rfl⟩
      obtain ⟨W64, hW64⟩ : ∃ W64, (w10.alloc (.cells #[.int .i64 g0, .string nm0, .int .i64 t0, .int .i64 b0, .int .i64 ny4, .slice a13 N4 c13, .slice d13 M4 e13] 29)) = W64 := ⟨_, rfl⟩
      have HB64 : Below W63.heap.size W63 W64 := by rw [← hW64]; exact bpush (hb) _
      have X0 := hid (X0.out.later HB64)
      have Z0 := hid (Z0.out.later HB64)
      have S1 := hid (S1.out.later HB64)
      have PC := hid (PC.out.later HB64)
      have X6 := hid (X6.out.later HB64)
      have Z6 := hid (Z6.out.later HB64)
      have X9 := hid (X9.out.later HB64)
      have Z9 := hid (Z9.out.later HB64)
      have X11 := hid (X11.out.later HB64)
      have Z11 := hid (Z11.out.later HB64)
      have BE := hid (btr BE.out HB64)
      clear HB64
      have X13 : Hid (Bx W64 k13 29 g0 nm0 t0 b0 ny4 (.slice a13 N4 c13) (.slice d13 M4 e13)) := by rw [← hW64, ← hk13]; exact Bx.new _ _ _ _ _ _ _ _ _
      have Z13 : Hid (Bz W64 a13 N4 c13 d13 M4 e13 K4 H4) := by rw [← hW64]; exact hz.bz.later (bpush (bre _) _)
      clear hz hb
      have q0 := X6.out.cells
      have q1 := S1.out.cells
      go_wp2_with fail
      clear q0
      clear q1
      try rw [hk13]
      try rw [hW64]
      clear hk13 hW64
      clear ci4 hlen4
      obtain ⟨p5, ny5, K5, H5, N5, M5, hdef5, hlen5, _, ci5⟩ := add_two g0 nm0 t0 b0 ny3 N1 M1 K1 H1 77 0 ⟨#[116, 119, 105, 99, 101]⟩ 60 1 NZ0.out Z6.out.len Z6.out.most Z6.out.sm Z6.out.glen Z6.out.gmost (by decide)
      have ep := hdef5.out.1
      rw [HNY.out, HK1.out, HX.out.2.2.2.2.2.2.2.2.2.1] at ep
      subst ep
      clear hdef5
      refine (ci5.out a6 c6 d6 e6 _ Z6.out).mono ?_; rintro e w11 ⟨a15, c15, d15, e15, rfl, hz, hb⟩
      obtain ⟨k15, hk15⟩ : ∃ k15, w11.heap.size = k15 := ⟨_, rfl⟩
      obtain ⟨W65, hW65⟩ : ∃ W65, (w11.alloc (.cells #[.int .i64 g0, .string nm0, .int .i64 t0, .int .i64 b0, .int .i64 ny5, .slice a15 N5 c15, .slice d15 M5 e15] 29)) = W65 := ⟨_, rfl⟩
      have HB65 : Below W64.heap.size W64 W65 := by rw [← hW65]; exact bpush (hb) _
      have X0 := hid (X0.out.later HB65)
      have Z0 := hid (Z0.out.later HB65)
      have S1 := hid (S1.out.later HB65)
      have PC := hid (PC.out.later HB65)
      have X6 := hid (X6.out.later HB65)
      have Z6 := hid (Z6.out.later HB65)
      have X9 := hid (X9.out.later HB65)
      have Z9 := hid (Z9.out.later HB65)
      have X11 := hid (X11.out.later HB65)
      have Z11 := hid (Z11.out.later HB65)
      have X13 := hid (X13.out.later HB65)
      have Z13 := hid (Z13.out.later HB65)
      have BE := hid (btr BE.out HB65)
      clear HB65
      have X15 : Hid (Bx W65 k15 29 g0 nm0 t0 b0 ny5 (.slice a15 N5 c15) (.slice d15 M5 e15)) := by rw [← hW65, ← hk15]; exact Bx.new _ _ _ _ _ _ _ _ _
      have Z15 : Hid (Bz W65 a15 N5 c15 d15 M5 e15 K5 H5) := by rw [← hW65]; exact hz.bz.later (bpush (bre _) _)
      clear hz hb
      go_wp2_with fail
      try rw [hk15]
      try rw [hW65]
      clear hk15 hW65
      clear ci5 hlen5
      obtain ⟨y2, hy2, _, cm2⟩ := at_two g0 nm0 t0 b0 ny3 N3 M3 K3 H3 77
      have ey : y2 = -1 := by rw [hy2.out]; exact HX.out.2.2.2.2.2.2.1
      subst ey
      obtain ⟨pc, hpc, _, cbc⟩ := box_two g0 nm0 t0 b0 ny3 N1 M1 K1 H1 NZ0.out Z6.out.len Z6.out.most Z6.out.sm Z6.out.glen Z6.out.gmost
      have epc : pc = true := by rw [hpc.out, HNY.out, HK1.out]; exact HX.out.2.1
      subst epc
      obtain ⟨pd, hpd, _, cbd⟩ := box_two g0 nm0 t0 b0 ny3 N3 M3 K3 H3 NZ0.out Z9.out.len Z9.out.most Z9.out.sm Z9.out.glen Z9.out.gmost
      have epd : pd = true := by rw [hpd.out, HNY.out, HH2.out]; exact HX.out.2.2.2.2.2.1
      subst epd
      obtain ⟨kc, oc, hac, hkc, huc⟩ := uid_at (i := N3) (u := nx0) Z6.out (by have h1 := EN1.out; omega) (by rw [HK1.out]; exact uid_last Z9.out.len)
      subst hac
      obtain ⟨kf, of, haf, hkf, huf⟩ := uid_at (i := N3) (u := ny3) Z13.out (by have h1 := EN4.out; omega) (by rw [HK4.out]; exact uid_last Z9.out.len)
      subst haf
      have hI1 : (0 : Int) ≤ (N3 : Int) ∧ (N3 : Int) < (N1 : Int) := by have := EN1.out; omega
      have hI4 : (0 : Int) ≤ (N3 : Int) ∧ (N3 : Int) < (N4 : Int) := by have := EN4.out; omega
      have hw1 : IntKind.i64.wrap ((N4 : Int) - 1) = (N3 : Int) := by have h1 := EN4.out; have h2 := Z9.out.most; rw [IntKind.wrap_i64]; omega
      have hw2 : IntKind.i64.wrap (nx0 + 1) = ny3 := by have h1 := HNY.out; have h2 := HX.out.2.2.2.2.2.2.2.2.2.2; have h3 := (bx_iff.1 D0.out.right).2.2.2.1; rw [IntKind.wrap_i64]; omega
      go_wp2_with fail
      have HS : Hid (∀ W, Below W65.heap.size W65 W → (W.cell? ⟨k0, 4, none⟩ = some (.int .i64 nx0) ∧ W.cell? ⟨k0, 5, none⟩ = some (.slice ma0 N3 mc0)) ∧ (W.cell? ⟨k6, 0, none⟩ = some (.int .i64 g0) ∧ W.cell? ⟨k6, 1, none⟩ = some (.string nm0) ∧ W.cell? ⟨k6, 2, none⟩ = some (.int .i64 t0) ∧ W.cell? ⟨k6, 3, none⟩ = some (.int .i64 b0) ∧ W.cell? ⟨k6, 4, none⟩ = some (.int .i64 ny3) ∧ W.cell? ⟨k6, 5, none⟩ = some (.slice (some ⟨kc, oc, none⟩) N1 c6) ∧ W.cell? ⟨k6, 6, none⟩ = some (.slice d6 M1 e6)) ∧ (W.cell? ⟨k9, 0, none⟩ = some (.int .i64 g0) ∧ W.cell? ⟨k9, 1, none⟩ = some (.string nm0) ∧ W.cell? ⟨k9, 2, none⟩ = some (.int .i64 t0) ∧ W.cell? ⟨k9, 3, none⟩ = some (.int .i64 b0) ∧ W.cell? ⟨k9, 4, none⟩ = some (.int .i64 ny3) ∧ W.cell? ⟨k9, 5, none⟩ = some (.slice a9 N3 c9) ∧ W.cell? ⟨k9, 6, none⟩ = some (.slice d9 M3 e9)) ∧ (W.cell? ⟨k11, 0, none⟩ = some (.int .i64 g0) ∧ W.cell? ⟨k11, 1, none⟩ = some (.string nm0) ∧ W.cell? ⟨k11, 2, none⟩ = some (.int .i64 t0) ∧ W.cell? ⟨k11, 3, none⟩ = some (.int .i64 b0) ∧ W.cell? ⟨k11, 4, none⟩ = some (.int .i64 ny3) ∧ W.cell? ⟨k11, 5, none⟩ = some (.slice a11 N3 c11) ∧ W.cell? ⟨k11, 6, none⟩ = some (.slice d11 M3 e11)) ∧ W.cell? ⟨k13, 5, none⟩ = some (.slice (some ⟨kf, of, none⟩) N4 c13) ∧ W.cell? ⟨kc, oc + N3 * 4 + 1, none⟩ = some (.int .i64 nx0) ∧ W.cell? ⟨kf, of + N3 * 4 + 1, none⟩ = some (.int .i64 ny3)) := fun W h => ⟨⟨(X0.out.later h).cells.2.2.2.2.1, (X0.out.later h).cells.2.2.2.2.2.1⟩, (X6.out.later h).cells, (X9.out.later h).cells, (X11.out.later h).cells, (X13.out.later h).cells.2.2.2.2.2.1, (h.cell (p := ⟨kc, _, none⟩) hkc).trans huc, (h.cell (p := ⟨kf, _, none⟩) hkf).trans huf⟩
      clear huc huf
      dsimp only [List.append]
      refine wp_region_noPanic ?_
      refine wp_region_held_drew (S := (fun W => (W.cell? ⟨k0, 4, none⟩ = some (.int .i64 nx0) ∧ W.cell? ⟨k0, 5, none⟩ = some (.slice ma0 N3 mc0)) ∧ (W.cell? ⟨k6, 0, none⟩ = some (.int .i64 g0) ∧ W.cell? ⟨k6, 1, none⟩ = some (.string nm0) ∧ W.cell? ⟨k6, 2, none⟩ = some (.int .i64 t0) ∧ W.cell? ⟨k6, 3, none⟩ = some (.int .i64 b0) ∧ W.cell? ⟨k6, 4, none⟩ = some (.int .i64 ny3) ∧ W.cell? ⟨k6, 5, none⟩ = some (.slice (some ⟨kc, oc, none⟩) N1 c6) ∧ W.cell? ⟨k6, 6, none⟩ = some (.slice d6 M1 e6)) ∧ (W.cell? ⟨k9, 0, none⟩ = some (.int .i64 g0) ∧ W.cell? ⟨k9, 1, none⟩ = some (.string nm0) ∧ W.cell? ⟨k9, 2, none⟩ = some (.int .i64 t0) ∧ W.cell? ⟨k9, 3, none⟩ = some (.int .i64 b0) ∧ W.cell? ⟨k9, 4, none⟩ = some (.int .i64 ny3) ∧ W.cell? ⟨k9, 5, none⟩ = some (.slice a9 N3 c9) ∧ W.cell? ⟨k9, 6, none⟩ = some (.slice d9 M3 e9)) ∧ (W.cell? ⟨k11, 0, none⟩ = some (.int .i64 g0) ∧ W.cell? ⟨k11, 1, none⟩ = some (.string nm0) ∧ W.cell? ⟨k11, 2, none⟩ = some (.int .i64 t0) ∧ W.cell? ⟨k11, 3, none⟩ = some (.int .i64 b0) ∧ W.cell? ⟨k11, 4, none⟩ = some (.int .i64 ny3) ∧ W.cell? ⟨k11, 5, none⟩ = some (.slice a11 N3 c11) ∧ W.cell? ⟨k11, 6, none⟩ = some (.slice d11 M3 e11)) ∧ W.cell? ⟨k13, 5, none⟩ = some (.slice (some ⟨kf, of, none⟩) N4 c13) ∧ W.cell? ⟨kc, oc + N3 * 4 + 1, none⟩ = some (.int .i64 nx0) ∧ W.cell? ⟨kf, of + N3 * 4 + 1, none⟩ = some (.int .i64 ny3))) (by kernel_rfl) (HS.out _ (bdr (bre _))) (fun hHeld => ?_)
      refine wpAnyH_take (i := 0) (oi := { dst := some 70, op := Op.move (Operand.tmp 8), type := 3, pos := "laws.go:295", after := #[], guard := none }) (v := ?vc1_0) rfl (by kernel_rfl) (by kernel_rfl) (by kernel_rfl) (fun _ _ _ h => h) (Or.inl ⟨by rfl, ?hyc1_0⟩) (by assumption) ?restc1_0
      case hyc1_0 => (intro w hSw; (try dsimp only at hSw); go_simp; try with_reducible rfl)
      try simp only [Act.put, List.setIfInBounds_toArray, List.set_cons_zero, List.set_cons_succ]
      refine wpAnyH_take (i := 1) (oi := { dst := some 71, op := Op.fieldAddr 29 (Operand.tmp 3) 4, type := 0, pos := "laws.go:295", after := #[], guard := none }) (v := ?vc2_1) rfl (by kernel_rfl) (by kernel_rfl) (by kernel_rfl) (fun _ _ _ h => h) (Or.inl ⟨by rfl, ?hyc2_1⟩) (by assumption) ?restc2_1
      case hyc2_1 => (intro w hSw; (try dsimp only at hSw); go_simp; try with_reducible rfl)
      try simp only [Act.put, List.setIfInBounds_toArray, List.set_cons_zero, List.set_cons_succ]
      refine wpAnyH_take (i := 2) (oi := { dst := some 72, op := Op.load 26 (Operand.tmp 71), type := 26, pos := "laws.go:295", after := #[{ on := 1, ground := Ground.data }], guard := none }) (v := ?vc3_2) rfl (by kernel_rfl) (by kernel_rfl) (by kernel_rfl) (fun _ _ _ h => h) (Or.inl ⟨by rfl, ?hyc3_2⟩) (by assumption) ?restc3_2
      case hyc3_2 => (intro w hSw; (try dsimp only at hSw); go_simp; try with_reducible rfl)
      try simp only [Act.put, List.setIfInBounds_toArray, List.set_cons_zero, List.set_cons_succ]
      refine wpAnyH_take (i := 3) (oi := { dst := some 73, op := Op.call { callee := Callee.builtin Builtin.len, args := #[Operand.tmp 72], argTypes := #[26] }, type := 3, pos := "laws.go:295", after := #[{ on := 2, ground := Ground.data }], guard := none }) (v := ?vc4_3) rfl (by kernel_rfl) (by kernel_rfl) (by kernel_rfl) (fun _ _ _ h => h) (Or.inl ⟨by rfl, ?hyc4_3⟩) (by assumption) ?restc4_3
      case hyc4_3 => (intro w hSw; (try dsimp only at hSw); go_simp; try with_reducible rfl)
      try simp only [Act.put, List.setIfInBounds_toArray, List.set_cons_zero, List.set_cons_succ]
      refine wpAnyH_take (i := 4) (oi := { dst := some 74, op := Op.binOp BinOp.eql 3 (Operand.tmp 70) (Operand.tmp 73) 3, type := 4, pos := "laws.go:295", after := #[{ on := 0, ground := Ground.data }, { on := 3, ground := Ground.data }], guard := none }) (v := ?vc5_4) rfl (by kernel_rfl) (by kernel_rfl) (by kernel_rfl) (fun _ _ _ h => h) (Or.inl ⟨by rfl, ?hyc5_4⟩) (by assumption) ?restc5_4
      case hyc5_4 => (intro w hSw; (try dsimp only at hSw); go_simp; try with_reducible rfl)
      try simp only [Act.put, List.setIfInBounds_toArray, List.set_cons_zero, List.set_cons_succ]
      refine wpAnyH_take (i := 5) (oi := { dst := some 75, op := Op.move (Operand.tmp 74), type := 4, pos := "laws.go:295", after := #[{ on := 4, ground := Ground.data }], guard := none }) (v := ?vc6_5) rfl (by kernel_rfl) (by kernel_rfl) (by kernel_rfl) (fun _ _ _ h => h) (Or.inl ⟨by rfl, ?hyc6_5⟩) (by assumption) ?restc6_5
      case hyc6_5 => (intro w hSw; (try dsimp only at hSw); go_simp; try with_reducible rfl)
      try simp only [Act.put, List.setIfInBounds_toArray, List.set_cons_zero, List.set_cons_succ]
      refine wpAnyH_take (i := 6) (oi := { dst := some 76, op := Op.fieldAddr 29 (Operand.tmp 6) 4, type := 0, pos := "laws.go:295", after := #[{ on := 5, ground := Ground.guard }], guard := some (5, true) }) (v := ?vc7_6) rfl (by kernel_rfl) (by kernel_rfl) (by kernel_rfl) (fun _ _ _ h => h) (Or.inl ⟨by rfl, ?hyc7_6⟩) (by assumption) ?restc7_6
      case hyc7_6 => (intro w hSw; (try dsimp only at hSw); go_simp; try with_reducible rfl)
      try simp only [Act.put, List.setIfInBounds_toArray, List.set_cons_zero, List.set_cons_succ]
      refine wpAnyH_take (i := 7) (oi := { dst := some 77, op := Op.load 26 (Operand.tmp 76), type := 26, pos := "laws.go:295", after := #[{ on := 6, ground := Ground.data }, { on := 5, ground := Ground.guard }], guard := some (5, true) }) (v := ?vc8_7) rfl (by kernel_rfl) (by kernel_rfl) (by kernel_rfl) (fun _ _ _ h => h) (Or.inl ⟨by rfl, ?hyc8_7⟩) (by assumption) ?restc8_7
      case hyc8_7 => (intro w hSw; (try dsimp only at hSw); go_simp; try with_reducible rfl)
      try simp only [Act.put, List.setIfInBounds_toArray, List.set_cons_zero, List.set_cons_succ]
      refine wpAnyH_take (i := 8) (oi := { dst := some 78, op := Op.move (Operand.tmp 8), type := 3, pos := "laws.go:295", after := #[{ on := 5, ground := Ground.guard }], guard := some (5, true) }) (v := ?vc9_8) rfl (by kernel_rfl) (by kernel_rfl) (by kernel_rfl) (fun _ _ _ h => h) (Or.inl ⟨by rfl, ?hyc9_8⟩) (by assumption) ?restc9_8
      case hyc9_8 => (intro w hSw; (try dsimp only at hSw); go_simp; try with_reducible rfl)
      try simp only [Act.put, List.setIfInBounds_toArray, List.set_cons_zero, List.set_cons_succ]
      refine wpAnyH_take (i := 9) (oi := { dst := some 79, op := Op.indexAddr 26 (Operand.tmp 77) (Operand.tmp 78), type := 0, pos := "laws.go:295", after := #[{ on := 7, ground := Ground.data }, { on := 8, ground := Ground.data }, { on := 5, ground := Ground.guard }], guard := some (5, true) }) (v := ?vc10_9) rfl (by kernel_rfl) (by kernel_rfl) (by kernel_rfl) (fun _ _ _ h => h) (Or.inl ⟨by rfl, ?hyc10_9⟩) (by assumption) ?restc10_9
      case hyc10_9 => (intro w hSw; (try dsimp only at hSw); go_simp; try with_reducible rfl)
      try simp only [Act.put, List.setIfInBounds_toArray, List.set_cons_zero, List.set_cons_succ]
      refine wpAnyH_take (i := 10) (oi := { dst := some 80, op := Op.fieldAddr 39 (Operand.tmp 79) 1, type := 0, pos := "laws.go:295", after := #[{ on := 9, ground := Ground.data }, { on := 5, ground := Ground.guard }], guard := some (5, true) }) (v := ?vc11_10) rfl (by kernel_rfl) (by kernel_rfl) (by kernel_rfl) (fun _ _ _ h => h) (Or.inl ⟨by rfl, ?hyc11_10⟩) (by assumption) ?restc11_10
      case hyc11_10 => (intro w hSw; (try dsimp only at hSw); go_simp; try with_reducible rfl)
      try simp only [Act.put, List.setIfInBounds_toArray, List.set_cons_zero, List.set_cons_succ]
      refine wpAnyH_take (i := 11) (oi := { dst := some 81, op := Op.load 3 (Operand.tmp 80), type := 3, pos := "laws.go:295", after := #[{ on := 10, ground := Ground.data }, { on := 5, ground := Ground.guard }], guard := some (5, true) }) (v := ?vc12_11) rfl (by kernel_rfl) (by kernel_rfl) (by kernel_rfl) (fun _ _ _ h => h) (Or.inl ⟨by rfl, ?hyc12_11⟩) (by assumption) ?restc12_11
      case hyc12_11 => (intro w hSw; (try dsimp only at hSw); go_simp; try with_reducible rfl)
      try simp only [Act.put, List.setIfInBounds_toArray, List.set_cons_zero, List.set_cons_succ]
      refine wpAnyH_take (i := 12) (oi := { dst := some 82, op := Op.fieldAddr 29 (Operand.tmp 3) 3, type := 0, pos := "laws.go:295", after := #[{ on := 5, ground := Ground.guard }], guard := some (5, true) }) (v := ?vc13_12) rfl (by kernel_rfl) (by kernel_rfl) (by kernel_rfl) (fun _ _ _ h => h) (Or.inl ⟨by rfl, ?hyc13_12⟩) (by assumption) ?restc13_12
      case hyc13_12 => (intro w hSw; (try dsimp only at hSw); go_simp; try with_reducible rfl)
      try simp only [Act.put, List.setIfInBounds_toArray, List.set_cons_zero, List.set_cons_succ]
      refine wpAnyH_take (i := 13) (oi := { dst := some 83, op := Op.load 3 (Operand.tmp 82), type := 3, pos := "laws.go:295", after := #[{ on := 12, ground := Ground.data }, { on := 5, ground := Ground.guard }], guard := some (5, true) }) (v := ?vc14_13) rfl (by kernel_rfl) (by kernel_rfl) (by kernel_rfl) (fun _ _ _ h => h) (Or.inl ⟨by rfl, ?hyc14_13⟩) (by assumption) ?restc14_13
      case hyc14_13 => (intro w hSw; (try dsimp only at hSw); go_simp; try with_reducible rfl)
      try simp only [Act.put, List.setIfInBounds_toArray, List.set_cons_zero, List.set_cons_succ]
      refine wpAnyH_take (i := 14) (oi := { dst := some 84, op := Op.binOp BinOp.eql 3 (Operand.tmp 81) (Operand.tmp 83) 3, type := 4, pos := "laws.go:295", after := #[{ on := 11, ground := Ground.data }, { on := 13, ground := Ground.data }, { on := 5, ground := Ground.guard }], guard := some (5, true) }) (v := ?vc15_14) rfl (by kernel_rfl) (by kernel_rfl) (by kernel_rfl) (fun _ _ _ h => h) (Or.inl ⟨by rfl, ?hyc15_14⟩) (by assumption) ?restc15_14
      case hyc15_14 => (intro w hSw; (try dsimp only at hSw); go_simp; try with_reducible rfl)
      try simp only [Act.put, List.setIfInBounds_toArray, List.set_cons_zero, List.set_cons_succ]
      refine wpAnyH_take (i := 15) (oi := { dst := some 85, op := Op.pick (Operand.tmp 75) (Operand.tmp 84) (Operand.const (Value.bool false)), type := 4, pos := "laws.go:295", after := #[{ on := 5, ground := Ground.data }, { on := 14, ground := Ground.data }], guard := none }) (v := ?vc16_15) rfl (by kernel_rfl) (by kernel_rfl) (by kernel_rfl) (fun _ _ _ h => h) (Or.inl ⟨by rfl, ?hyc16_15⟩) (by assumption) ?restc16_15
      case hyc16_15 => (intro w hSw; (try dsimp only at hSw); go_simp; try with_reducible rfl)
      try simp only [Act.put, List.setIfInBounds_toArray, List.set_cons_zero, List.set_cons_succ]
      refine wpAnyH_take (i := 16) (oi := { dst := some 86, op := Op.move (Operand.tmp 85), type := 4, pos := "laws.go:295", after := #[{ on := 15, ground := Ground.data }, { on := 5, ground := Ground.chain }], guard := none }) (v := ?vc17_16) rfl (by kernel_rfl) (by kernel_rfl) (by kernel_rfl) (fun _ _ _ h => h) (Or.inl ⟨by rfl, ?hyc17_16⟩) (by assumption) ?restc17_16
      case hyc17_16 => (intro w hSw; (try dsimp only at hSw); go_simp; try with_reducible rfl)
      try simp only [Act.put, List.setIfInBounds_toArray, List.set_cons_zero, List.set_cons_succ]
      refine wpAnyH_take (i := 17) (oi := { dst := some 87, op := Op.fieldAddr 29 (Operand.tmp 6) 3, type := 0, pos := "laws.go:295", after := #[{ on := 16, ground := Ground.guard }], guard := some (16, true) }) (v := ?vc18_17) rfl (by kernel_rfl) (by kernel_rfl) (by kernel_rfl) (fun _ _ _ h => h) (Or.inl ⟨by rfl, ?hyc18_17⟩) (by assumption) ?restc18_17
      case hyc18_17 => (intro w hSw; (try dsimp only at hSw); go_simp; try with_reducible rfl)
      try simp only [Act.put, List.setIfInBounds_toArray, List.set_cons_zero, List.set_cons_succ]
      refine wpAnyH_take (i := 18) (oi := { dst := some 88, op := Op.load 3 (Operand.tmp 87), type := 3, pos := "laws.go:295", after := #[{ on := 17, ground := Ground.data }, { on := 16, ground := Ground.guard }], guard := some (16, true) }) (v := ?vc19_18) rfl (by kernel_rfl) (by kernel_rfl) (by kernel_rfl) (fun _ _ _ h => h) (Or.inl ⟨by rfl, ?hyc19_18⟩) (by assumption) ?restc19_18
      case hyc19_18 => (intro w hSw; (try dsimp only at hSw); go_simp; try with_reducible rfl)
      try simp only [Act.put, List.setIfInBounds_toArray, List.set_cons_zero, List.set_cons_succ]
      refine wpAnyH_take (i := 19) (oi := { dst := some 89, op := Op.fieldAddr 29 (Operand.tmp 3) 3, type := 0, pos := "laws.go:295", after := #[{ on := 16, ground := Ground.guard }], guard := some (16, true) }) (v := ?vc20_19) rfl (by kernel_rfl) (by kernel_rfl) (by kernel_rfl) (fun _ _ _ h => h) (Or.inl ⟨by rfl, ?hyc20_19⟩) (by assumption) ?restc20_19
      case hyc20_19 => (intro w hSw; (try dsimp only at hSw); go_simp; try with_reducible rfl)
      try simp only [Act.put, List.setIfInBounds_toArray, List.set_cons_zero, List.set_cons_succ]
      refine wpAnyH_take (i := 20) (oi := { dst := some 90, op := Op.load 3 (Operand.tmp 89), type := 3, pos := "laws.go:295", after := #[{ on := 19, ground := Ground.data }, { on := 16, ground := Ground.guard }], guard := some (16, true) }) (v := ?vc21_20) rfl (by kernel_rfl) (by kernel_rfl) (by kernel_rfl) (fun _ _ _ h => h) (Or.inl ⟨by rfl, ?hyc21_20⟩) (by assumption) ?restc21_20
      case hyc21_20 => (intro w hSw; (try dsimp only at hSw); go_simp; try with_reducible rfl)
      try simp only [Act.put, List.setIfInBounds_toArray, List.set_cons_zero, List.set_cons_succ]
      refine wpAnyH_take (i := 21) (oi := { dst := some 91, op := Op.binOp BinOp.add 3 (Operand.tmp 90) (Operand.const (Value.int IntKind.i64 1)) 3, type := 3, pos := "laws.go:295", after := #[{ on := 20, ground := Ground.data }, { on := 16, ground := Ground.guard }], guard := some (16, true) }) (v := ?vc22_21) rfl (by kernel_rfl) (by kernel_rfl) (by kernel_rfl) (fun _ _ _ h => h) (Or.inl ⟨by rfl, ?hyc22_21⟩) (by assumption) ?restc22_21
      case hyc22_21 => (intro w hSw; (try dsimp only at hSw); go_simp; try with_reducible rfl)
      try simp only [Act.put, List.setIfInBounds_toArray, List.set_cons_zero, List.set_cons_succ]
      refine wpAnyH_take (i := 22) (oi := { dst := some 92, op := Op.binOp BinOp.eql 3 (Operand.tmp 88) (Operand.tmp 91) 3, type := 4, pos := "laws.go:295", after := #[{ on := 18, ground := Ground.data }, { on := 21, ground := Ground.data }, { on := 16, ground := Ground.guard }], guard := some (16, true) }) (v := ?vc23_22) rfl (by kernel_rfl) (by kernel_rfl) (by kernel_rfl) (fun _ _ _ h => h) (Or.inl ⟨by rfl, ?hyc23_22⟩) (by assumption) ?restc23_22
      case hyc23_22 => (intro w hSw; (try dsimp only at hSw); go_simp; try with_reducible rfl)
      try simp only [Act.put, List.setIfInBounds_toArray, List.set_cons_zero, List.set_cons_succ]
      refine wpAnyH_take (i := 23) (oi := { dst := some 93, op := Op.pick (Operand.tmp 86) (Operand.tmp 92) (Operand.const (Value.bool false)), type := 4, pos := "laws.go:295", after := #[{ on := 16, ground := Ground.data }, { on := 22, ground := Ground.data }], guard := none }) (v := ?vc24_23) rfl (by kernel_rfl) (by kernel_rfl) (by kernel_rfl) (fun _ _ _ h => h) (Or.inl ⟨by rfl, ?hyc24_23⟩) (by assumption) ?restc24_23
      case hyc24_23 => (intro w hSw; (try dsimp only at hSw); go_simp; try with_reducible rfl)
      try simp only [Act.put, List.setIfInBounds_toArray, List.set_cons_zero, List.set_cons_succ]
      refine wpAnyH_take (i := 24) (oi := { dst := some 94, op := Op.move (Operand.tmp 93), type := 4, pos := "laws.go:295", after := #[{ on := 23, ground := Ground.data }, { on := 16, ground := Ground.chain }], guard := none }) (v := ?vc25_24) rfl (by kernel_rfl) (by kernel_rfl) (by kernel_rfl) (fun _ _ _ h => h) (Or.inl ⟨by rfl, ?hyc25_24⟩) (by assumption) ?restc25_24
      case hyc25_24 => (intro w hSw; (try dsimp only at hSw); go_simp; try with_reducible rfl)
      try simp only [Act.put, List.setIfInBounds_toArray, List.set_cons_zero, List.set_cons_succ]
      refine wpAnyH_take (i := 25) (oi := { dst := some 95, op := Op.move (Operand.tmp 10), type := 4, pos := "laws.go:295", after := #[{ on := 24, ground := Ground.guard }], guard := some (24, true) }) (v := ?vc26_25) rfl (by kernel_rfl) (by kernel_rfl) (by kernel_rfl) (fun _ _ _ h => h) (Or.inl ⟨by rfl, ?hyc26_25⟩) (by assumption) ?restc26_25
      case hyc26_25 => (intro w hSw; (try dsimp only at hSw); go_simp; try with_reducible rfl)
      try simp only [Act.put, List.setIfInBounds_toArray, List.set_cons_zero, List.set_cons_succ]
      refine wpAnyH_take (i := 26) (oi := { dst := some 96, op := Op.pick (Operand.tmp 94) (Operand.tmp 95) (Operand.const (Value.bool false)), type := 4, pos := "laws.go:295", after := #[{ on := 24, ground := Ground.data }, { on := 25, ground := Ground.data }], guard := none }) (v := ?vc27_26) rfl (by kernel_rfl) (by kernel_rfl) (by kernel_rfl) (fun _ _ _ h => h) (Or.inl ⟨by rfl, ?hyc27_26⟩) (by assumption) ?restc27_26
      case hyc27_26 => (intro w hSw; (try dsimp only at hSw); go_simp; try with_reducible rfl)
      try simp only [Act.put, List.setIfInBounds_toArray, List.set_cons_zero, List.set_cons_succ]
      refine wpAnyH_take (i := 27) (oi := { dst := some 97, op := Op.move (Operand.tmp 96), type := 4, pos := "laws.go:295", after := #[{ on := 26, ground := Ground.data }, { on := 24, ground := Ground.chain }], guard := none }) (v := ?vc28_27) rfl (by kernel_rfl) (by kernel_rfl) (by kernel_rfl) (fun _ _ _ h => h) (Or.inl ⟨by rfl, ?hyc28_27⟩) (by assumption) ?restc28_27
      case hyc28_27 => (intro w hSw; (try dsimp only at hSw); go_simp; try with_reducible rfl)
      try simp only [Act.put, List.setIfInBounds_toArray, List.set_cons_zero, List.set_cons_succ]
      refine wpAnyH_take (i := 28) (oi := { dst := some 98, op := Op.load 29 (Operand.tmp 9), type := 29, pos := "laws.go:295", after := #[{ on := 27, ground := Ground.guard }], guard := some (27, true) }) (v := ?vc29_28) rfl (by kernel_rfl) (by kernel_rfl) (by kernel_rfl) (fun _ _ _ h => h) (Or.inl ⟨by rfl, ?hyc29_28⟩) (by assumption) ?restc29_28
      case hyc29_28 => (intro w hSw; (try dsimp only at hSw); go_simp; try with_reducible rfl)
      try simp only [Act.put, List.setIfInBounds_toArray, List.set_cons_zero, List.set_cons_succ]
      clear hHeld
      refine wpAnyH_ready (rs := [29]) (by kernel_rfl) (by simp) ?_
      refine AllReadyH.cons (o := { dst := some 99, op := Op.call { callee := Callee.value (Operand.func 11), args := #[Operand.tmp 98, Operand.const (Value.int IntKind.i64 77)], argTypes := #[29, 3] }, type := 3, pos := "laws.go:295", after := #[{ on := 28, ground := Ground.data }, { on := 27, ground := Ground.chain }, { on := 27, ground := Ground.guard }], guard := some (27, true) }) rfl (fun K hK => ?_) AllReadyH.nil
      go_simp
      refine (cm2.out a9 c9 d9 e9 _ (Z9.out.later (bdr (bre _)))).mono ?_
      rintro e v29 ⟨rfl, hb⟩
      have HV : Hid (Below W65.heap.size W65 v29) := btr (bdr (bre _)) hb
      clear hb
      go_wp2_with fail
      refine hK.out _ _ (HS.out _ HV.out) (fun hHeld => ?_)
      clear hK K
      try simp only [Act.put, List.setIfInBounds_toArray, List.set_cons_zero, List.set_cons_succ]
      refine wpAnyH_take (i := 30) (oi := { dst := some 100, op := Op.binOp BinOp.eql 3 (Operand.tmp 99) (Operand.const (Value.int IntKind.i64 (-1))) 3, type := 4, pos := "laws.go:295", after := #[{ on := 29, ground := Ground.data }, { on := 27, ground := Ground.guard }], guard := some (27, true) }) (v := ?vc30_30) rfl (by kernel_rfl) (by kernel_rfl) (by kernel_rfl) (fun _ _ _ h => h) (Or.inl ⟨by rfl, ?hyc30_30⟩) (by assumption) ?restc30_30
      case hyc30_30 => (intro w hSw; (try dsimp only at hSw); go_simp; try with_reducible rfl)
      try simp only [Act.put, List.setIfInBounds_toArray, List.set_cons_zero, List.set_cons_succ]
      refine wpAnyH_take (i := 31) (oi := { dst := some 101, op := Op.pick (Operand.tmp 97) (Operand.tmp 100) (Operand.const (Value.bool false)), type := 4, pos := "laws.go:295", after := #[{ on := 27, ground := Ground.data }, { on := 30, ground := Ground.data }], guard := none }) (v := ?vc31_31) rfl (by kernel_rfl) (by kernel_rfl) (by kernel_rfl) (fun _ _ _ h => h) (Or.inl ⟨by rfl, ?hyc31_31⟩) (by assumption) ?restc31_31
      case hyc31_31 => (intro w hSw; (try dsimp only at hSw); go_simp; try with_reducible rfl)
      try simp only [Act.put, List.setIfInBounds_toArray, List.set_cons_zero, List.set_cons_succ]
      refine wpAnyH_take (i := 32) (oi := { dst := some 102, op := Op.move (Operand.tmp 101), type := 4, pos := "laws.go:295", after := #[{ on := 31, ground := Ground.data }, { on := 29, ground := Ground.chain }], guard := none }) (v := ?vc32_32) rfl (by kernel_rfl) (by kernel_rfl) (by kernel_rfl) (fun _ _ _ h => h) (Or.inl ⟨by rfl, ?hyc32_32⟩) (by assumption) ?restc32_32
      case hyc32_32 => (intro w hSw; (try dsimp only at hSw); go_simp; try with_reducible rfl)
      try simp only [Act.put, List.setIfInBounds_toArray, List.set_cons_zero, List.set_cons_succ]
      refine wpAnyH_take (i := 33) (oi := { dst := some 103, op := Op.move (Operand.tmp 12), type := 4, pos := "laws.go:295", after := #[{ on := 32, ground := Ground.guard }], guard := some (32, true) }) (v := ?vc33_33) rfl (by kernel_rfl) (by kernel_rfl) (by kernel_rfl) (fun _ _ _ h => h) (Or.inl ⟨by rfl, ?hyc33_33⟩) (by assumption) ?restc33_33
      case hyc33_33 => (intro w hSw; (try dsimp only at hSw); go_simp; try with_reducible rfl)
      try simp only [Act.put, List.setIfInBounds_toArray, List.set_cons_zero, List.set_cons_succ]
      refine wpAnyH_take (i := 34) (oi := { dst := some 104, op := Op.unOp UnOp.not 4 (Operand.tmp 103), type := 4, pos := "laws.go:295", after := #[{ on := 33, ground := Ground.data }, { on := 32, ground := Ground.guard }], guard := some (32, true) }) (v := ?vc34_34) rfl (by kernel_rfl) (by kernel_rfl) (by kernel_rfl) (fun _ _ _ h => h) (Or.inl ⟨by rfl, ?hyc34_34⟩) (by assumption) ?restc34_34
      case hyc34_34 => (intro w hSw; (try dsimp only at hSw); go_simp; try with_reducible rfl)
      try simp only [Act.put, List.setIfInBounds_toArray, List.set_cons_zero, List.set_cons_succ]
      refine wpAnyH_take (i := 35) (oi := { dst := some 105, op := Op.pick (Operand.tmp 102) (Operand.tmp 104) (Operand.const (Value.bool false)), type := 4, pos := "laws.go:295", after := #[{ on := 32, ground := Ground.data }, { on := 34, ground := Ground.data }], guard := none }) (v := ?vc35_35) rfl (by kernel_rfl) (by kernel_rfl) (by kernel_rfl) (fun _ _ _ h => h) (Or.inl ⟨by rfl, ?hyc35_35⟩) (by assumption) ?restc35_35
      case hyc35_35 => (intro w hSw; (try dsimp only at hSw); go_simp; try with_reducible rfl)
      try simp only [Act.put, List.setIfInBounds_toArray, List.set_cons_zero, List.set_cons_succ]
      refine wpAnyH_take (i := 36) (oi := { dst := some 106, op := Op.move (Operand.tmp 105), type := 4, pos := "laws.go:295", after := #[{ on := 35, ground := Ground.data }, { on := 32, ground := Ground.chain }], guard := none }) (v := ?vc36_36) rfl (by kernel_rfl) (by kernel_rfl) (by kernel_rfl) (fun _ _ _ h => h) (Or.inl ⟨by rfl, ?hyc36_36⟩) (by assumption) ?restc36_36
      case hyc36_36 => (intro w hSw; (try dsimp only at hSw); go_simp; try with_reducible rfl)
      try simp only [Act.put, List.setIfInBounds_toArray, List.set_cons_zero, List.set_cons_succ]
      refine wpAnyH_take (i := 37) (oi := { dst := some 107, op := Op.load 29 (Operand.tmp 11), type := 29, pos := "laws.go:295", after := #[{ on := 36, ground := Ground.guard }], guard := some (36, true) }) (v := ?vc37_37) rfl (by kernel_rfl) (by kernel_rfl) (by kernel_rfl) (fun _ _ _ h => h) (Or.inl ⟨by rfl, ?hyc37_37⟩) (by assumption) ?restc37_37
      case hyc37_37 => (intro w hSw; (try dsimp only at hSw); go_simp; try with_reducible rfl)
      try simp only [Act.put, List.setIfInBounds_toArray, List.set_cons_zero, List.set_cons_succ]
      refine wpAnyH_take (i := 38) (oi := { dst := some 108, op := Op.load 29 (Operand.tmp 9), type := 29, pos := "laws.go:295", after := #[{ on := 36, ground := Ground.guard }], guard := some (36, true) }) (v := ?vc38_38) rfl (by kernel_rfl) (by kernel_rfl) (by kernel_rfl) (fun _ _ _ h => h) (Or.inl ⟨by rfl, ?hyc38_38⟩) (by assumption) ?restc38_38
      case hyc38_38 => (intro w hSw; (try dsimp only at hSw); go_simp; try with_reducible rfl)
      try simp only [Act.put, List.setIfInBounds_toArray, List.set_cons_zero, List.set_cons_succ]
      clear hHeld
      refine wpAnyH_ready (rs := [39]) (by kernel_rfl) (by simp) ?_
      refine AllReadyH.cons (o := { dst := some 109, op := Op.call { callee := Callee.value (Operand.func 10), args := #[Operand.tmp 107, Operand.tmp 108], argTypes := #[29, 29] }, type := 4, pos := "laws.go:295", after := #[{ on := 37, ground := Ground.data }, { on := 38, ground := Ground.data }, { on := 36, ground := Ground.chain }, { on := 36, ground := Ground.guard }], guard := some (36, true) }) rfl (fun K hK => ?_) AllReadyH.nil
      go_simp
      refine (sameBox_bz g0 nm0 t0 b0 ny3 a11 N3 c11 d11 M3 e11 a9 c9 d9 e9 K3 H3 _ (Z11.out.later HV.out) (Z9.out.later HV.out)).mono ?_
      rintro e v39 ⟨rfl, hb⟩
      have HV := hid (btr HV.out hb)
      clear hb
      go_wp2_with fail
      refine hK.out _ _ (HS.out _ HV.out) (fun hHeld => ?_)
      clear hK K
      try simp only [Act.put, List.setIfInBounds_toArray, List.set_cons_zero, List.set_cons_succ]
      refine wpAnyH_take (i := 40) (oi := { dst := some 110, op := Op.pick (Operand.tmp 106) (Operand.tmp 109) (Operand.const (Value.bool false)), type := 4, pos := "laws.go:295", after := #[{ on := 36, ground := Ground.data }, { on := 39, ground := Ground.data }], guard := none }) (v := ?vc39_40) rfl (by kernel_rfl) (by kernel_rfl) (by kernel_rfl) (fun _ _ _ h => h) (Or.inl ⟨by rfl, ?hyc39_40⟩) (by assumption) ?restc39_40
      case hyc39_40 => (intro w hSw; (try dsimp only at hSw); go_simp; try with_reducible rfl)
      try simp only [Act.put, List.setIfInBounds_toArray, List.set_cons_zero, List.set_cons_succ]
      refine wpAnyH_take (i := 41) (oi := { dst := some 111, op := Op.move (Operand.tmp 110), type := 4, pos := "laws.go:295", after := #[{ on := 40, ground := Ground.data }, { on := 39, ground := Ground.chain }], guard := none }) (v := ?vc40_41) rfl (by kernel_rfl) (by kernel_rfl) (by kernel_rfl) (fun _ _ _ h => h) (Or.inl ⟨by rfl, ?hyc40_41⟩) (by assumption) ?restc40_41
      case hyc40_41 => (intro w hSw; (try dsimp only at hSw); go_simp; try with_reducible rfl)
      try simp only [Act.put, List.setIfInBounds_toArray, List.set_cons_zero, List.set_cons_succ]
      refine wpAnyH_take (i := 42) (oi := { dst := some 112, op := Op.move (Operand.tmp 14), type := 4, pos := "laws.go:295", after := #[{ on := 41, ground := Ground.guard }], guard := some (41, true) }) (v := ?vc41_42) rfl (by kernel_rfl) (by kernel_rfl) (by kernel_rfl) (fun _ _ _ h => h) (Or.inl ⟨by rfl, ?hyc41_42⟩) (by assumption) ?restc41_42
      case hyc41_42 => (intro w hSw; (try dsimp only at hSw); go_simp; try with_reducible rfl)
      try simp only [Act.put, List.setIfInBounds_toArray, List.set_cons_zero, List.set_cons_succ]
      refine wpAnyH_take (i := 43) (oi := { dst := some 113, op := Op.pick (Operand.tmp 111) (Operand.tmp 112) (Operand.const (Value.bool false)), type := 4, pos := "laws.go:295", after := #[{ on := 41, ground := Ground.data }, { on := 42, ground := Ground.data }], guard := none }) (v := ?vc42_43) rfl (by kernel_rfl) (by kernel_rfl) (by kernel_rfl) (fun _ _ _ h => h) (Or.inl ⟨by rfl, ?hyc42_43⟩) (by assumption) ?restc42_43
      case hyc42_43 => (intro w hSw; (try dsimp only at hSw); go_simp; try with_reducible rfl)
      try simp only [Act.put, List.setIfInBounds_toArray, List.set_cons_zero, List.set_cons_succ]
      refine wpAnyH_take (i := 44) (oi := { dst := some 114, op := Op.move (Operand.tmp 113), type := 4, pos := "laws.go:295", after := #[{ on := 43, ground := Ground.data }, { on := 41, ground := Ground.chain }], guard := none }) (v := ?vc43_44) rfl (by kernel_rfl) (by kernel_rfl) (by kernel_rfl) (fun _ _ _ h => h) (Or.inl ⟨by rfl, ?hyc43_44⟩) (by assumption) ?restc43_44
      case hyc43_44 => (intro w hSw; (try dsimp only at hSw); go_simp; try with_reducible rfl)
      try simp only [Act.put, List.setIfInBounds_toArray, List.set_cons_zero, List.set_cons_succ]
      refine wpAnyH_take (i := 45) (oi := { dst := some 115, op := Op.fieldAddr 29 (Operand.tmp 13) 4, type := 0, pos := "laws.go:295", after := #[{ on := 44, ground := Ground.guard }], guard := some (44, true) }) (v := ?vc44_45) rfl (by kernel_rfl) (by kernel_rfl) (by kernel_rfl) (fun _ _ _ h => h) (Or.inl ⟨by rfl, ?hyc44_45⟩) (by assumption) ?restc44_45
      case hyc44_45 => (intro w hSw; (try dsimp only at hSw); go_simp; try with_reducible rfl)
      try simp only [Act.put, List.setIfInBounds_toArray, List.set_cons_zero, List.set_cons_succ]
      refine wpAnyH_take (i := 46) (oi := { dst := some 116, op := Op.load 26 (Operand.tmp 115), type := 26, pos := "laws.go:295", after := #[{ on := 45, ground := Ground.data }, { on := 44, ground := Ground.guard }], guard := some (44, true) }) (v := ?vc45_46) rfl (by kernel_rfl) (by kernel_rfl) (by kernel_rfl) (fun _ _ _ h => h) (Or.inl ⟨by rfl, ?hyc45_46⟩) (by assumption) ?restc45_46
      case hyc45_46 => (intro w hSw; (try dsimp only at hSw); go_simp; try with_reducible rfl)
      try simp only [Act.put, List.setIfInBounds_toArray, List.set_cons_zero, List.set_cons_succ]
      refine wpAnyH_take (i := 47) (oi := { dst := some 117, op := Op.fieldAddr 29 (Operand.tmp 13) 4, type := 0, pos := "laws.go:295", after := #[{ on := 44, ground := Ground.guard }], guard := some (44, true) }) (v := ?vc46_47) rfl (by kernel_rfl) (by kernel_rfl) (by kernel_rfl) (fun _ _ _ h => h) (Or.inl ⟨by rfl, ?hyc46_47⟩) (by assumption) ?restc46_47
      case hyc46_47 => (intro w hSw; (try dsimp only at hSw); go_simp; try with_reducible rfl)
      try simp only [Act.put, List.setIfInBounds_toArray, List.set_cons_zero, List.set_cons_succ]
      refine wpAnyH_take (i := 48) (oi := { dst := some 118, op := Op.load 26 (Operand.tmp 117), type := 26, pos := "laws.go:295", after := #[{ on := 47, ground := Ground.data }, { on := 44, ground := Ground.guard }], guard := some (44, true) }) (v := ?vc47_48) rfl (by kernel_rfl) (by kernel_rfl) (by kernel_rfl) (fun _ _ _ h => h) (Or.inl ⟨by rfl, ?hyc47_48⟩) (by assumption) ?restc47_48
      case hyc47_48 => (intro w hSw; (try dsimp only at hSw); go_simp; try with_reducible rfl)
      try simp only [Act.put, List.setIfInBounds_toArray, List.set_cons_zero, List.set_cons_succ]
      refine wpAnyH_take (i := 49) (oi := { dst := some 119, op := Op.call { callee := Callee.builtin Builtin.len, args := #[Operand.tmp 118], argTypes := #[26] }, type := 3, pos := "laws.go:295", after := #[{ on := 48, ground := Ground.data }, { on := 44, ground := Ground.guard }], guard := some (44, true) }) (v := ?vc48_49) rfl (by kernel_rfl) (by kernel_rfl) (by kernel_rfl) (fun _ _ _ h => h) (Or.inl ⟨by rfl, ?hyc48_49⟩) (by assumption) ?restc48_49
      case hyc48_49 => (intro w hSw; (try dsimp only at hSw); go_simp; try with_reducible rfl)
      try simp only [Act.put, List.setIfInBounds_toArray, List.set_cons_zero, List.set_cons_succ]
      refine wpAnyH_take (i := 50) (oi := { dst := some 120, op := Op.binOp BinOp.sub 3 (Operand.tmp 119) (Operand.const (Value.int IntKind.i64 1)) 3, type := 3, pos := "laws.go:295", after := #[{ on := 49, ground := Ground.data }, { on := 44, ground := Ground.guard }], guard := some (44, true) }) (v := ?vc49_50) rfl (by kernel_rfl) (by kernel_rfl) (by kernel_rfl) (fun _ _ _ h => h) (Or.inl ⟨by rfl, ?hyc49_50⟩) (by assumption) ?restc49_50
      case hyc49_50 => (intro w hSw; (try dsimp only at hSw); go_simp; try with_reducible rfl)
      try simp only [Act.put, List.setIfInBounds_toArray, List.set_cons_zero, List.set_cons_succ]
      refine wpAnyH_take (i := 51) (oi := { dst := some 121, op := Op.indexAddr 26 (Operand.tmp 116) (Operand.tmp 120), type := 0, pos := "laws.go:295", after := #[{ on := 46, ground := Ground.data }, { on := 50, ground := Ground.data }, { on := 44, ground := Ground.guard }], guard := some (44, true) }) (v := ?vc50_51) rfl (by kernel_rfl) (by kernel_rfl) (by kernel_rfl) (fun _ _ _ h => h) (Or.inl ⟨by rfl, ?hyc50_51⟩) (by assumption) ?restc50_51
      case hyc50_51 => (intro w hSw; (try dsimp only at hSw); go_simp; try with_reducible rfl)
      try simp only [Act.put, List.setIfInBounds_toArray, List.set_cons_zero, List.set_cons_succ]
      refine wpAnyH_take (i := 52) (oi := { dst := some 122, op := Op.fieldAddr 39 (Operand.tmp 121) 1, type := 0, pos := "laws.go:295", after := #[{ on := 51, ground := Ground.data }, { on := 44, ground := Ground.guard }], guard := some (44, true) }) (v := ?vc51_52) rfl (by kernel_rfl) (by kernel_rfl) (by kernel_rfl) (fun _ _ _ h => h) (Or.inl ⟨by rfl, ?hyc51_52⟩) (by assumption) ?restc51_52
      case hyc51_52 => (intro w hSw; (try dsimp only at hSw); go_simp; try with_reducible rfl)
      try simp only [Act.put, List.setIfInBounds_toArray, List.set_cons_zero, List.set_cons_succ]
      refine wpAnyH_take (i := 53) (oi := { dst := some 123, op := Op.load 3 (Operand.tmp 122), type := 3, pos := "laws.go:295", after := #[{ on := 52, ground := Ground.data }, { on := 44, ground := Ground.guard }], guard := some (44, true) }) (v := ?vc52_53) rfl (by kernel_rfl) (by kernel_rfl) (by kernel_rfl) (fun _ _ _ h => h) (Or.inl ⟨by rfl, ?hyc52_53⟩) (by assumption) ?restc52_53
      case hyc52_53 => (intro w hSw; (try dsimp only at hSw); go_simp; try with_reducible rfl)
      try simp only [Act.put, List.setIfInBounds_toArray, List.set_cons_zero, List.set_cons_succ]
      refine wpAnyH_take (i := 54) (oi := { dst := some 124, op := Op.fieldAddr 29 (Operand.tmp 3) 3, type := 0, pos := "laws.go:295", after := #[{ on := 44, ground := Ground.guard }], guard := some (44, true) }) (v := ?vc53_54) rfl (by kernel_rfl) (by kernel_rfl) (by kernel_rfl) (fun _ _ _ h => h) (Or.inl ⟨by rfl, ?hyc53_54⟩) (by assumption) ?restc53_54
      case hyc53_54 => (intro w hSw; (try dsimp only at hSw); go_simp; try with_reducible rfl)
      try simp only [Act.put, List.setIfInBounds_toArray, List.set_cons_zero, List.set_cons_succ]
      refine wpAnyH_take (i := 55) (oi := { dst := some 125, op := Op.load 3 (Operand.tmp 124), type := 3, pos := "laws.go:295", after := #[{ on := 54, ground := Ground.data }, { on := 44, ground := Ground.guard }], guard := some (44, true) }) (v := ?vc54_55) rfl (by kernel_rfl) (by kernel_rfl) (by kernel_rfl) (fun _ _ _ h => h) (Or.inl ⟨by rfl, ?hyc54_55⟩) (by assumption) ?restc54_55
      case hyc54_55 => (intro w hSw; (try dsimp only at hSw); go_simp; try with_reducible rfl)
      try simp only [Act.put, List.setIfInBounds_toArray, List.set_cons_zero, List.set_cons_succ]
      refine wpAnyH_take (i := 56) (oi := { dst := some 126, op := Op.binOp BinOp.add 3 (Operand.tmp 125) (Operand.const (Value.int IntKind.i64 1)) 3, type := 3, pos := "laws.go:295", after := #[{ on := 55, ground := Ground.data }, { on := 44, ground := Ground.guard }], guard := some (44, true) }) (v := ?vc55_56) rfl (by kernel_rfl) (by kernel_rfl) (by kernel_rfl) (fun _ _ _ h => h) (Or.inl ⟨by rfl, ?hyc55_56⟩) (by assumption) ?restc55_56
      case hyc55_56 => (intro w hSw; (try dsimp only at hSw); go_simp; try with_reducible rfl)
      try simp only [Act.put, List.setIfInBounds_toArray, List.set_cons_zero, List.set_cons_succ]
      refine wpAnyH_take (i := 57) (oi := { dst := some 127, op := Op.binOp BinOp.eql 3 (Operand.tmp 123) (Operand.tmp 126) 3, type := 4, pos := "laws.go:295", after := #[{ on := 53, ground := Ground.data }, { on := 56, ground := Ground.data }, { on := 44, ground := Ground.guard }], guard := some (44, true) }) (v := ?vc56_57) rfl (by kernel_rfl) (by kernel_rfl) (by kernel_rfl) (fun _ _ _ h => h) (Or.inl ⟨by rfl, ?hyc56_57⟩) (by assumption) ?restc56_57
      case hyc56_57 => (intro w hSw; (try dsimp only at hSw); go_simp; try with_reducible rfl)
      try simp only [Act.put, List.setIfInBounds_toArray, List.set_cons_zero, List.set_cons_succ]
      refine wpAnyH_take (i := 58) (oi := { dst := some 128, op := Op.pick (Operand.tmp 114) (Operand.tmp 127) (Operand.const (Value.bool false)), type := 4, pos := "laws.go:295", after := #[{ on := 44, ground := Ground.data }, { on := 57, ground := Ground.data }], guard := none }) (v := ?vc57_58) rfl (by kernel_rfl) (by kernel_rfl) (by kernel_rfl) (fun _ _ _ h => h) (Or.inl ⟨by rfl, ?hyc57_58⟩) (by assumption) ?restc57_58
      case hyc57_58 => (intro w hSw; (try dsimp only at hSw); go_simp; try with_reducible rfl)
      try simp only [Act.put, List.setIfInBounds_toArray, List.set_cons_zero, List.set_cons_succ]
      refine wpAnyH_take (i := 59) (oi := { dst := some 129, op := Op.move (Operand.tmp 128), type := 4, pos := "laws.go:295", after := #[{ on := 58, ground := Ground.data }, { on := 44, ground := Ground.chain }], guard := none }) (v := ?vc58_59) rfl (by kernel_rfl) (by kernel_rfl) (by kernel_rfl) (fun _ _ _ h => h) (Or.inl ⟨by rfl, ?hyc58_59⟩) (by assumption) ?restc58_59
      case hyc58_59 => (intro w hSw; (try dsimp only at hSw); go_simp; try with_reducible rfl)
      try simp only [Act.put, List.setIfInBounds_toArray, List.set_cons_zero, List.set_cons_succ]
      refine wpAnyH_take (i := 60) (oi := { dst := some 130, op := Op.move (Operand.tmp 16), type := 4, pos := "laws.go:295", after := #[{ on := 59, ground := Ground.guard }], guard := some (59, true) }) (v := ?vc59_60) rfl (by kernel_rfl) (by kernel_rfl) (by kernel_rfl) (fun _ _ _ h => h) (Or.inl ⟨by rfl, ?hyc59_60⟩) (by assumption) ?restc59_60
      case hyc59_60 => (intro w hSw; (try dsimp only at hSw); go_simp; try with_reducible rfl)
      try simp only [Act.put, List.setIfInBounds_toArray, List.set_cons_zero, List.set_cons_succ]
      refine wpAnyH_take (i := 61) (oi := { dst := some 131, op := Op.unOp UnOp.not 4 (Operand.tmp 130), type := 4, pos := "laws.go:295", after := #[{ on := 60, ground := Ground.data }, { on := 59, ground := Ground.guard }], guard := some (59, true) }) (v := ?vc60_61) rfl (by kernel_rfl) (by kernel_rfl) (by kernel_rfl) (fun _ _ _ h => h) (Or.inl ⟨by rfl, ?hyc60_61⟩) (by assumption) ?restc60_61
      case hyc60_61 => (intro w hSw; (try dsimp only at hSw); go_simp; try with_reducible rfl)
      try simp only [Act.put, List.setIfInBounds_toArray, List.set_cons_zero, List.set_cons_succ]
      refine wpAnyH_take (i := 62) (oi := { dst := some 132, op := Op.pick (Operand.tmp 129) (Operand.tmp 131) (Operand.const (Value.bool false)), type := 4, pos := "laws.go:295", after := #[{ on := 59, ground := Ground.data }, { on := 61, ground := Ground.data }], guard := none }) (v := ?vc61_62) rfl (by kernel_rfl) (by kernel_rfl) (by kernel_rfl) (fun _ _ _ h => h) (Or.inl ⟨by rfl, ?hyc61_62⟩) (by assumption) ?restc61_62
      case hyc61_62 => (intro w hSw; (try dsimp only at hSw); go_simp; try with_reducible rfl)
      try simp only [Act.put, List.setIfInBounds_toArray, List.set_cons_zero, List.set_cons_succ]
      refine wpAnyH_take (i := 63) (oi := { dst := some 133, op := Op.move (Operand.tmp 132), type := 4, pos := "laws.go:295", after := #[{ on := 62, ground := Ground.data }, { on := 59, ground := Ground.chain }], guard := none }) (v := ?vc62_63) rfl (by kernel_rfl) (by kernel_rfl) (by kernel_rfl) (fun _ _ _ h => h) (Or.inl ⟨by rfl, ?hyc62_63⟩) (by assumption) ?restc62_63
      case hyc62_63 => (intro w hSw; (try dsimp only at hSw); go_simp; try with_reducible rfl)
      try simp only [Act.put, List.setIfInBounds_toArray, List.set_cons_zero, List.set_cons_succ]
      refine wpAnyH_take (i := 64) (oi := { dst := some 134, op := Op.load 29 (Operand.tmp 6), type := 29, pos := "laws.go:295", after := #[{ on := 63, ground := Ground.guard }], guard := some (63, true) }) (v := ?vc63_64) rfl (by kernel_rfl) (by kernel_rfl) (by kernel_rfl) (fun _ _ _ h => h) (Or.inl ⟨by rfl, ?hyc63_64⟩) (by assumption) ?restc63_64
      case hyc63_64 => (intro w hSw; (try dsimp only at hSw); go_simp; try with_reducible rfl)
      try simp only [Act.put, List.setIfInBounds_toArray, List.set_cons_zero, List.set_cons_succ]
      clear hHeld
      refine wpAnyH_ready (rs := [65]) (by kernel_rfl) (by simp) ?_
      refine AllReadyH.cons (o := { dst := some 135, op := Op.call { callee := Callee.value (Operand.func 13), args := #[Operand.tmp 134], argTypes := #[29] }, type := 4, pos := "laws.go:295", after := #[{ on := 64, ground := Ground.data }, { on := 63, ground := Ground.chain }, { on := 63, ground := Ground.guard }], guard := some (63, true) }) rfl (fun K hK => ?_) AllReadyH.nil
      go_simp
      refine (cbc.out _ c6 d6 e6 _ (Z6.out.later HV.out)).mono ?_
      rintro e v65 ⟨rfl, hb⟩
      have HV := hid (btr HV.out hb)
      clear hb
      go_wp2_with fail
      refine hK.out _ _ (HS.out _ HV.out) (fun hHeld => ?_)
      clear hK K
      try simp only [Act.put, List.setIfInBounds_toArray, List.set_cons_zero, List.set_cons_succ]
      refine wpAnyH_take (i := 66) (oi := { dst := some 136, op := Op.pick (Operand.tmp 133) (Operand.tmp 135) (Operand.const (Value.bool false)), type := 4, pos := "laws.go:295", after := #[{ on := 63, ground := Ground.data }, { on := 65, ground := Ground.data }], guard := none }) (v := ?vc64_66) rfl (by kernel_rfl) (by kernel_rfl) (by kernel_rfl) (fun _ _ _ h => h) (Or.inl ⟨by rfl, ?hyc64_66⟩) (by assumption) ?restc64_66
      case hyc64_66 => (intro w hSw; (try dsimp only at hSw); go_simp; try with_reducible rfl)
      try simp only [Act.put, List.setIfInBounds_toArray, List.set_cons_zero, List.set_cons_succ]
      refine wpAnyH_take (i := 67) (oi := { dst := some 137, op := Op.move (Operand.tmp 136), type := 4, pos := "laws.go:295", after := #[{ on := 66, ground := Ground.data }, { on := 65, ground := Ground.chain }], guard := none }) (v := ?vc65_67) rfl (by kernel_rfl) (by kernel_rfl) (by kernel_rfl) (fun _ _ _ h => h) (Or.inl ⟨by rfl, ?hyc65_67⟩) (by assumption) ?restc65_67
      case hyc65_67 => (intro w hSw; (try dsimp only at hSw); go_simp; try with_reducible rfl)
      try simp only [Act.put, List.setIfInBounds_toArray, List.set_cons_zero, List.set_cons_succ]
      refine wpAnyH_take (i := 68) (oi := { dst := some 138, op := Op.load 29 (Operand.tmp 9), type := 29, pos := "laws.go:295", after := #[{ on := 67, ground := Ground.guard }], guard := some (67, true) }) (v := ?vc66_68) rfl (by kernel_rfl) (by kernel_rfl) (by kernel_rfl) (fun _ _ _ h => h) (Or.inl ⟨by rfl, ?hyc66_68⟩) (by assumption) ?restc66_68
      case hyc66_68 => (intro w hSw; (try dsimp only at hSw); go_simp; try with_reducible rfl)
      try simp only [Act.put, List.setIfInBounds_toArray, List.set_cons_zero, List.set_cons_succ]
      clear hHeld
      refine wpAnyH_ready (rs := [69]) (by kernel_rfl) (by simp) ?_
      refine AllReadyH.cons (o := { dst := some 139, op := Op.call { callee := Callee.value (Operand.func 13), args := #[Operand.tmp 138], argTypes := #[29] }, type := 4, pos := "laws.go:295", after := #[{ on := 68, ground := Ground.data }, { on := 67, ground := Ground.chain }, { on := 67, ground := Ground.guard }], guard := some (67, true) }) rfl (fun K hK => ?_) AllReadyH.nil
      go_simp
      refine (cbd.out a9 c9 d9 e9 _ (Z9.out.later HV.out)).mono ?_
      rintro e v69 ⟨rfl, hb⟩
      have HV := hid (btr HV.out hb)
      clear hb
      go_wp2_with fail
      refine hK.out _ _ (HS.out _ HV.out) (fun hHeld => ?_)
      clear hK K
      try simp only [Act.put, List.setIfInBounds_toArray, List.set_cons_zero, List.set_cons_succ]
      refine wpAnyH_take (i := 70) (oi := { dst := some 140, op := Op.pick (Operand.tmp 137) (Operand.tmp 139) (Operand.const (Value.bool false)), type := 4, pos := "laws.go:295", after := #[{ on := 67, ground := Ground.data }, { on := 69, ground := Ground.data }], guard := none }) (v := ?vc67_70) rfl (by kernel_rfl) (by kernel_rfl) (by kernel_rfl) (fun _ _ _ h => h) (Or.inl ⟨by rfl, ?hyc67_70⟩) (by assumption) ?restc67_70
      case hyc67_70 => (intro w hSw; (try dsimp only at hSw); go_simp; try with_reducible rfl)
      try simp only [Act.put, List.setIfInBounds_toArray, List.set_cons_zero, List.set_cons_succ]
      refine wpAnyH_take (i := 71) (oi := { dst := some 2, op := Op.assign (Operand.tmp 140), type := 4, pos := "laws.go:295", after := ([{ on := 70, ground := Ground.data }, { on := 69, ground := Ground.chain }, { on := 0, ground := Ground.phase }, { on := 1, ground := Ground.phase }, { on := 2, ground := Ground.phase }, { on := 3, ground := Ground.phase }, { on := 4, ground := Ground.phase }, { on := 5, ground := Ground.phase }, { on := 6, ground := Ground.phase }, { on := 7, ground := Ground.phase }, { on := 8, ground := Ground.phase }, { on := 9, ground := Ground.phase }, { on := 10, ground := Ground.phase }, { on := 11, ground := Ground.phase }, { on := 12, ground := Ground.phase }, { on := 13, ground := Ground.phase }, { on := 14, ground := Ground.phase }, { on := 15, ground := Ground.phase }, { on := 16, ground := Ground.phase }, { on := 17, ground := Ground.phase }, { on := 18, ground := Ground.phase }, { on := 19, ground := Ground.phase }, { on := 20, ground := Ground.phase }, { on := 21, ground := Ground.phase }, { on := 22, ground := Ground.phase }, { on := 23, ground := Ground.phase }, { on := 24, ground := Ground.phase }, { on := 25, ground := Ground.phase }, { on := 26, ground := Ground.phase }, { on := 27, ground := Ground.phase }, { on := 28, ground := Ground.phase }, { on := 29, ground := Ground.phase }, { on := 30, ground := Ground.phase }, { on := 31, ground := Ground.phase }, { on := 32, ground := Ground.phase }, { on := 33, ground := Ground.phase }].append [{ on := 34, ground := Ground.phase }, { on := 35, ground := Ground.phase }, { on := 36, ground := Ground.phase }, { on := 37, ground := Ground.phase }, { on := 38, ground := Ground.phase }, { on := 39, ground := Ground.phase }, { on := 40, ground := Ground.phase }, { on := 41, ground := Ground.phase }, { on := 42, ground := Ground.phase }, { on := 43, ground := Ground.phase }, { on := 44, ground := Ground.phase }, { on := 45, ground := Ground.phase }, { on := 46, ground := Ground.phase }, { on := 47, ground := Ground.phase }, { on := 48, ground := Ground.phase }, { on := 49, ground := Ground.phase }, { on := 50, ground := Ground.phase }, { on := 51, ground := Ground.phase }, { on := 52, ground := Ground.phase }, { on := 53, ground := Ground.phase }, { on := 54, ground := Ground.phase }, { on := 55, ground := Ground.phase }, { on := 56, ground := Ground.phase }, { on := 57, ground := Ground.phase }, { on := 58, ground := Ground.phase }, { on := 59, ground := Ground.phase }, { on := 60, ground := Ground.phase }, { on := 61, ground := Ground.phase }, { on := 62, ground := Ground.phase }, { on := 63, ground := Ground.phase }, { on := 64, ground := Ground.phase }, { on := 65, ground := Ground.phase }, { on := 66, ground := Ground.phase }, { on := 67, ground := Ground.phase }, { on := 68, ground := Ground.phase }, { on := 69, ground := Ground.phase }, { on := 70, ground := Ground.phase }]).toArray, guard := none }) (v := ?vc68_71) rfl (by kernel_rfl) (by kernel_rfl) (by kernel_rfl) (fun _ _ _ h => h) (Or.inl ⟨by rfl, ?hyc68_71⟩) (by assumption) ?restc68_71
      case hyc68_71 => (intro w hSw; (try dsimp only at hSw); go_simp; try with_reducible rfl)
      try simp only [Act.put, List.setIfInBounds_toArray, List.set_cons_zero, List.set_cons_succ]
      refine wpAnyH_done (by kernel_rfl) ?_ _
      refine NoPanic.normal ?_
      go_wp2
      go_ret
      exact ⟨rfl, btr BE.out HV.out⟩

end Go.Proofs.YtfmacodnjhegcabGreat
