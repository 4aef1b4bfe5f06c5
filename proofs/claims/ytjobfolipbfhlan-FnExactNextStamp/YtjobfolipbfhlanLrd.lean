/- The laws of what reads a store. -/
import Derived.Test.YtjobfolipbfhlanTid
import Derived.Test.YtjobfolipbfhlanSsz
namespace Go.Proofs.Ytjobfolipbfhlan
open Go.RowKit Go.ChangeMaps

/-- What a store holds is not too great. -/
theorem smallS {S : List X7} {gn : Nat} (h : ¬ (1048576 : Int) < ((szB S + gn : Nat) : Int)) : S.length ≤ 1048576 ∧ gn ≤ 1048576 ∧ Sb S := by
  unfold szB at h
  refine ⟨by omega, by omega, ?_⟩
  have h2 : toX S ≤ 1048576 := by omega
  clear h
  induction S with
  | nil => intro x hx; cases hx
  | cons a S ih =>
    intro x hx
    have e : toX (a :: S) = szX a + toX S := rfl
    rcases List.mem_cons.1 hx with rfl | hx
    · have h3 : szX x ≤ 1048576 := by omega
      unfold szX szL at h3
      exact ⟨by omega, by omega, sm_of (by omega), by omega⟩
    · exact ih (by omega) x hx

theorem specNextW_any (y tm : Int) (bv gv : Value) (w : World) :
    Calls Try.prog 19 #[.agg #[.int .i64 y, .int .i64 tm, bv, gv]] w fun e w' => e = .returned (.agg #[.int .i64 (wrap64 (tm + 1)), .int .i64 y]) ∧ Below w.heap.size w w' := by
  obtain ⟨W0, hW0⟩ : ∃ W0, (w.alloc (.cells #[.int .i64 y, .int .i64 tm, bv, gv] 30)).alloc (.cells #[.int .i64 0, .int .i64 0] 40) = W0 := ⟨_, rfl⟩
  have a0 : Sx W0 w.heap.size 30 y tm bv gv := by subst hW0; exact (Sx.new w _ y tm _ _).later (bpush (bre _) _)
  have a1 : Sg W0 (w.heap.size + 1) 40 0 0 := by
    have h := Sg.new (w.alloc (.cells #[.int .i64 y, .int .i64 tm, bv, gv] 30)) 40 0 0
    have e : (w.alloc (.cells #[.int .i64 y, .int .i64 tm, bv, gv] 30)).heap.size = w.heap.size + 1 := by simp
    rw [e, hW0] at h
    exact h
  have b0 : Below w.heap.size w W0 := by subst hW0; exact bpush (bpush (bre _) _) _
  have c0 := a0.cells
  have c1 := a1.cells
  have f1 := a1.loose
  have A1 := hid a1
  have B0 := hid b0
  clear a0 a1 b0
  go_enter Try.func19, Try.ntmps19
  go_wp2
  have c3 := (A1.out.set' (t' := wrap64 (tm + 1)) (b' := y)).cells
  exact bodyPost_ret (v := stv (wrap64 (tm + 1)) y) (by simp [results, Try.results19, go_sem, c3]) rfl ⟨rfl, B0.out.trans (((Below.refl _ _).setCell (p := ⟨w.heap.size + 1, 0, none⟩) (by show w.heap.size ≤ w.heap.size + 1; omega) _).setCell (p := ⟨w.heap.size + 1, 1, none⟩) (by show w.heap.size ≤ w.heap.size + 1; omega) _)⟩

theorem implNextW_any (y tm : Int) (bv gv : Value) (w : World) :
    Calls Try.prog 20 #[.agg #[.int .i64 y, .int .i64 tm, bv, gv]] w fun e w' => e = .returned (.agg #[.int .i64 (wrap64 (tm + 1)), .int .i64 y]) ∧ Below w.heap.size w w' := by
  obtain ⟨W0, hW0⟩ : ∃ W0, (w.alloc (.cells #[.int .i64 y, .int .i64 tm, bv, gv] 30)).alloc (.cells #[.int .i64 0, .int .i64 0] 40) = W0 := ⟨_, rfl⟩
  have a0 : Sx W0 w.heap.size 30 y tm bv gv := by subst hW0; exact (Sx.new w _ y tm _ _).later (bpush (bre _) _)
  have a1 : Sg W0 (w.heap.size + 1) 40 0 0 := by
    have h := Sg.new (w.alloc (.cells #[.int .i64 y, .int .i64 tm, bv, gv] 30)) 40 0 0
    have e : (w.alloc (.cells #[.int .i64 y, .int .i64 tm, bv, gv] 30)).heap.size = w.heap.size + 1 := by simp
    rw [e, hW0] at h
    exact h
  have b0 : Below w.heap.size w W0 := by subst hW0; exact bpush (bpush (bre _) _) _
  have c0 := a0.cells
  have c1 := a1.cells
  have f1 := a1.loose
  have A1 := hid a1
  have B0 := hid b0
  clear a0 a1 b0
  go_enter Try.func20, Try.ntmps20
  go_wp2
  have c3 := (A1.out.set' (t' := wrap64 (tm + 1)) (b' := y)).cells
  exact bodyPost_ret (v := stv (wrap64 (tm + 1)) y) (by simp [results, Try.results20, go_sem, c3]) rfl ⟨rfl, B0.out.trans (((Below.refl _ _).setCell (p := ⟨w.heap.size + 1, 0, none⟩) (by show w.heap.size ≤ w.heap.size + 1; omega) _).setCell (p := ⟨w.heap.size + 1, 1, none⟩) (by show w.heap.size ≤ w.heap.size + 1; omega) _)⟩
set_option maxHeartbeats 3200000 in
set_option maxRecDepth 100000 in
theorem lawStoreOk_any (y tm : Int) (ba : Option Addr) (bn bc : Nat) (ga : Option Addr) (gn gc : Nat) (S : List X7) (G : List Int) (w : World) (hl : S.length = bn) (hn : (bn : Int) ≤ 9223372036854775807) (hft : FitB S) (hm : Bs 0 w.heap.size w ba S) (hgl : G.length = gn) (hgn : (gn : Int) ≤ 9223372036854775807) (hs : Is 0 w.heap.size w ga G) :
    Calls Try.prog 3 #[.agg #[.int .i64 y, .int .i64 tm, .slice ba bn bc, .slice ga gn gc]] w fun e w' => e = .returned (.bool true) ∧ Below w.heap.size w w' := by
  obtain ⟨W0, hW0⟩ : ∃ W0, w.alloc (.cells #[.int .i64 y, .int .i64 tm, .slice ba bn bc, .slice ga gn gc] 25) = W0 := ⟨_, rfl⟩
  have a0 : Sx W0 w.heap.size 25 y tm (.slice ba bn bc) (.slice ga gn gc) := by subst hW0; exact Sx.new w _ y tm _ _
  have b0 : Below w.heap.size w W0 := by subst hW0; exact bpush (bre _) _
  have c0 := a0.cells
  have A0 := hid a0
  have B0 := hid b0
  have HM := hid hm
  have HS' := hid hs
  have HF := hid hft
  have HL := hid hl
  have HGL := hid hgl
  have HN := hid hn
  have HGN := hid hgn
  clear a0 b0 hm hs hft hl hgl hn hgn
  go_enter Try.func3, Try.ntmps3
  go_wp2_with fail
  clear hW0
  refine (szStore_any 0 w.heap.size y tm ba bn bc ga gn gc S _ HL.out HN.out HF.out (HM.out.later B0.out) HGN.out).mono ?_; rintro e w1 ⟨rfl, hb1⟩
  have A1 := hid (A0.out.later hb1)
  have B1 := hid (btr B0.out hb1)
  have c0 := A1.out.cells
  clear hb1 A0 B0
  by_cases hbig : (1048576 : Int) < ((szB S + gn : Nat) : Int)
  · rw [szr_over hbig]
    clear hbig
    go_wp2
    go_ret
    exact ⟨rfl, B1.out⟩
  obtain ⟨s2, s3, s4⟩ := smallS hbig
  obtain ⟨q, hq⟩ : ∃ q, szr 1048576 (szB S + gn) = q := ⟨_, rfl⟩
  have h0 : ¬ q < 0 := by rw [← hq, szr_fits hbig]; omega
  rw [hq]
  have S2 : Hid (bn ≤ 1048576) := by show _ ≤ _; rw [← HL.out]; exact s2
  have S3 := hid s3
  have S4 := hid s4
  clear hq hbig s2 s3 s4
  go_wp2_with fail
  refine (toStore_any 0 w.heap.size 0 w.heap.size y tm ba bn bc ga gn gc S G _ HL.out S2.out S4.out (HM.out.later B1.out) HGL.out S3.out (HS'.out.later B1.out)).mono ?_; rintro e w2 ⟨km, kg, rfl, how, hb2⟩
  have R1 := hid how.reads.2.2.1
  have R2 := hid how.reads.2.2.2
  have A2 := hid (A1.out.later hb2)
  have B2 := hid (btr B1.out hb2)
  have c0 := A2.out.cells
  clear hb2 A1 B1 how
  go_wp2_with fail
  refine (specStoreOk_any _ _ _ _ y tm (some ⟨km, 0, none⟩) bn bn (some ⟨kg, 0, none⟩) gn gn S G _ HL.out S2.out S4.out R1.out HGL.out S3.out R2.out).mono ?_; rintro e w3 ⟨rfl, hb3⟩
  have A3 := hid (A2.out.later hb3)
  have B3 := hid (btr B2.out hb3)
  have c0 := A3.out.cells
  clear hb3 A2 B2 R1 R2
  obtain ⟨r, hr⟩ : ∃ r : Bool, sOk y tm S G = r := ⟨_, rfl⟩
  rw [hr]
  have HR := hid hr
  clear hr
  go_wp2_with fail
  refine (toStore_any 0 w.heap.size 0 w.heap.size y tm ba bn bc ga gn gc S G _ HL.out S2.out S4.out (HM.out.later B3.out) HGL.out S3.out (HS'.out.later B3.out)).mono ?_; rintro e w4 ⟨km4, kg4, rfl, how, hb4⟩
  have R1 := hid how.reads.2.2.1
  have R2 := hid how.reads.2.2.2
  have A4 := hid (A3.out.later hb4)
  have B4 := hid (btr B3.out hb4)
  have c0 := A4.out.cells
  clear hb4 A3 B3 how
  have xx : (r != r) = false := by simp
  go_wp2_with fail
  have b5 : Below w4.heap.size w4 (w4.alloc (.cells #[.int .i64 y, .int .i64 tm, .slice (some ⟨km4, 0, none⟩) bn bn, .slice (some ⟨kg4, 0, none⟩) gn gn] 30)) := bpush (bre _) _
  refine (implStoreOk_any _ _ _ _ y tm (some ⟨km4, 0, none⟩) bn bn (some ⟨kg4, 0, none⟩) gn gn S G _ HL.out S2.out S4.out (R1.out.later b5) HGL.out S3.out (R2.out.later b5)).mono ?_; rintro e w5 ⟨rfl, hb5⟩
  rw [HR.out]
  have X5 := hid ((Sx.new w4 30 y tm (.slice (some ⟨km4, 0, none⟩) bn bn) (.slice (some ⟨kg4, 0, none⟩) gn gn)).later hb5)
  have R5 := hid ((R1.out.later b5).later hb5)
  have Q5 := hid ((R2.out.later b5).later hb5)
  have A5 := hid (A4.out.later (btr b5 hb5))
  have B5 := hid (btr (btr B4.out b5) hb5)
  clear b5 hb5 A4 B4 R1 R2 c0
  obtain ⟨kx, hkx⟩ : ∃ kx, w4.heap.size = kx := ⟨_, rfl⟩
  rw [hkx] at X5 ⊢
  have HS : Hid (∀ W, Below w5.heap.size w5 W → (W.cell? ⟨w.heap.size, 0, none⟩ = some (.int .i64 y) ∧ W.cell? ⟨w.heap.size, 1, none⟩ = some (.int .i64 tm) ∧ W.cell? ⟨w.heap.size, 2, none⟩ = some (.slice ba bn bc) ∧ W.cell? ⟨w.heap.size, 3, none⟩ = some (.slice ga gn gc)) ∧ (W.cell? ⟨kx, 0, none⟩ = some (.int .i64 y) ∧ W.cell? ⟨kx, 1, none⟩ = some (.int .i64 tm) ∧ W.cell? ⟨kx, 2, none⟩ = some (.slice (some ⟨km4, 0, none⟩) bn bn) ∧ W.cell? ⟨kx, 3, none⟩ = some (.slice (some ⟨kg4, 0, none⟩) gn gn))) := fun W h => ⟨(A5.out.later h).cells, (X5.out.later h).cells⟩
  clear hkx
  go_wp2_with fail
  refine wp_region_noPanic ?_
  refine wp_region_held_drew (S := (fun W => (W.cell? ⟨w.heap.size, 0, none⟩ = some (.int .i64 y) ∧ W.cell? ⟨w.heap.size, 1, none⟩ = some (.int .i64 tm) ∧ W.cell? ⟨w.heap.size, 2, none⟩ = some (.slice ba bn bc) ∧ W.cell? ⟨w.heap.size, 3, none⟩ = some (.slice ga gn gc)) ∧ (W.cell? ⟨kx, 0, none⟩ = some (.int .i64 y) ∧ W.cell? ⟨kx, 1, none⟩ = some (.int .i64 tm) ∧ W.cell? ⟨kx, 2, none⟩ = some (.slice (some ⟨km4, 0, none⟩) bn bn) ∧ W.cell? ⟨kx, 3, none⟩ = some (.slice (some ⟨kg4, 0, none⟩) gn gn)))) (by kernel_rfl) (HS.out _ (bdr (bre _))) (fun hHeld => ?_)
  refine wpAnyH_take (i := 0) (oi := { dst := some 22, op := Op.load 30 (Operand.tmp 5), type := 30, pos := "exact.go:2746", after := #[], guard := none }) (v := ?vb1_0) rfl (by kernel_rfl) (by kernel_rfl) (by kernel_rfl) (fun _ _ _ h => h) (Or.inl ⟨by rfl, ?hyb1_0⟩) (by assumption) ?restb1_0
  case hyb1_0 => (intro w hSw; (try dsimp only at hSw); go_simp; try with_reducible rfl)
  try simp only [Act.put, List.setIfInBounds_toArray, List.set_cons_zero, List.set_cons_succ]
  refine wpAnyH_take (i := 1) (oi := { dst := some 23, op := Op.load 25 (Operand.tmp 1), type := 25, pos := "exact.go:2746", after := #[], guard := none }) (v := ?vb2_1) rfl (by kernel_rfl) (by kernel_rfl) (by kernel_rfl) (fun _ _ _ h => h) (Or.inl ⟨by rfl, ?hyb2_1⟩) (by assumption) ?restb2_1
  case hyb2_1 => (intro w hSw; (try dsimp only at hSw); go_simp; try with_reducible rfl)
  try simp only [Act.put, List.setIfInBounds_toArray, List.set_cons_zero, List.set_cons_succ]
  clear hHeld
  refine wpAnyH_ready (rs := [2]) (by kernel_rfl) (by simp) ?_
  refine AllReadyH.cons (o := { dst := some 24, op := Op.call { callee := Callee.value (Operand.func 10), args := #[Operand.tmp 23], argTypes := #[25] }, type := 30, pos := "exact.go:2746", after := #[{ on := 1, ground := Ground.data }], guard := none }) rfl (fun K hK => ?_) AllReadyH.nil
  go_simp
  refine (toStore_any 0 w.heap.size 0 w.heap.size y tm ba bn bc ga gn gc S G _ HL.out S2.out S4.out (HM.out.later (btr B5.out (by repeat (first | exact bre _ | refine bdr ?_ | refine btr ?_ (by assumption) | refine bpush ?_ _)))) HGL.out S3.out (HS'.out.later (btr B5.out (by repeat (first | exact bre _ | refine bdr ?_ | refine btr ?_ (by assumption) | refine bpush ?_ _))))).mono ?_; rintro e w6 ⟨km6, kg6, rfl, how6, hb6⟩
  have R6 := hid how6.reads.2.2.1
  have Q6 := hid how6.reads.2.2.2
  go_wp2_with fail
  refine hK.out _ _ (HS.out _ (by repeat (first | exact bre _ | refine bdr ?_ | refine btr ?_ (by assumption) | refine bpush ?_ _))) (fun hHeld => ?_)
  clear hK K
  try simp only [Act.put, List.setIfInBounds_toArray, List.set_cons_zero, List.set_cons_succ]
  clear hHeld
  refine wpAnyH_ready (rs := [3]) (by kernel_rfl) (by simp) ?_
  refine AllReadyH.cons (o := { dst := some 25, op := Op.call { callee := Callee.value (Operand.func 12), args := #[Operand.tmp 22, Operand.tmp 24], argTypes := #[30, 30] }, type := 4, pos := "exact.go:2746", after := #[{ on := 0, ground := Ground.data }, { on := 2, ground := Ground.data }, { on := 2, ground := Ground.chain }], guard := none }) rfl (fun K hK => ?_) AllReadyH.nil
  go_simp
  refine (eqStore_any _ _ _ _ _ _ _ _ y tm _ bn _ _ gn _ _ _ _ _ S G _ HL.out S2.out S4.out (R5.out.later (by repeat (first | exact bre _ | refine bdr ?_ | refine btr ?_ (by assumption) | refine bpush ?_ _))) R6.out HGL.out S3.out (Q5.out.later (by repeat (first | exact bre _ | refine bdr ?_ | refine btr ?_ (by assumption) | refine bpush ?_ _))) Q6.out).mono ?_; rintro e w7 ⟨rfl, hb7⟩
  go_wp2_with fail
  refine hK.out _ _ (HS.out _ (by repeat (first | exact bre _ | refine bdr ?_ | refine btr ?_ (by assumption) | refine bpush ?_ _))) (fun hHeld => ?_)
  clear hK K
  try simp only [Act.put, List.setIfInBounds_toArray, List.set_cons_zero, List.set_cons_succ]
  refine wpAnyH_take (i := 4) (oi := { dst := some 26, op := Op.unOp UnOp.not 4 (Operand.tmp 25), type := 4, pos := "exact.go:2746", after := #[{ on := 3, ground := Ground.data }], guard := none }) (v := ?vb5_4) rfl (by kernel_rfl) (by kernel_rfl) (by kernel_rfl) (fun _ _ _ h => h) (Or.inl ⟨by rfl, ?hyb5_4⟩) (by assumption) ?restb5_4
  case hyb5_4 => (intro w hSw; (try dsimp only at hSw); go_simp; try with_reducible rfl)
  try simp only [Act.put, List.setIfInBounds_toArray, List.set_cons_zero, List.set_cons_succ]
  refine wpAnyH_done (by kernel_rfl) ?_ _
  refine NoPanic.normal ?_
  clear hHeld
  go_wp2
  go_ret
  exact ⟨rfl, btr B5.out (by repeat (first | exact bre _ | refine bdr ?_ | refine btr ?_ (by assumption) | refine bpush ?_ _))⟩

set_option maxHeartbeats 3200000 in
set_option maxRecDepth 100000 in
theorem lawBoxNamed_any (y tm : Int) (ba : Option Addr) (bn bc : Nat) (ga : Option Addr) (gn gc : Nat) (S : List X7) (G : List Int) (x : ByteArray) (w : World) (hl : S.length = bn) (hn : (bn : Int) ≤ 9223372036854775807) (hft : FitB S) (hm : Bs 0 w.heap.size w ba S) (hgl : G.length = gn) (hgn : (gn : Int) ≤ 9223372036854775807) (hs : Is 0 w.heap.size w ga G) (_hxs : (x.size : Int) ≤ 9223372036854775807) :
    Calls Try.prog 4 #[.agg #[.int .i64 y, .int .i64 tm, .slice ba bn bc, .slice ga gn gc], .string x] w fun e w' => e = .returned (.bool true) ∧ Below w.heap.size w w' := by
  obtain ⟨W0, hW0⟩ : ∃ W0, w.alloc (.cells #[.int .i64 y, .int .i64 tm, .slice ba bn bc, .slice ga gn gc] 25) = W0 := ⟨_, rfl⟩
  have a0 : Sx W0 w.heap.size 25 y tm (.slice ba bn bc) (.slice ga gn gc) := by subst hW0; exact Sx.new w _ y tm _ _
  have b0 : Below w.heap.size w W0 := by subst hW0; exact bpush (bre _) _
  have c0 := a0.cells
  have A0 := hid a0
  have B0 := hid b0
  have HM := hid hm
  have HS' := hid hs
  have HF := hid hft
  have HL := hid hl
  have HGL := hid hgl
  have HN := hid hn
  have HGN := hid hgn
  clear a0 b0 hm hs hft hl hgl hn hgn
  by_cases hx1 : (1048576 : Int) < (x.size : Int)
  · go_enter Try.func4, Try.ntmps4
    go_wp2
    go_ret
    exact ⟨rfl, B0.out⟩
  go_enter Try.func4, Try.ntmps4
  go_wp2_with fail
  clear hW0
  refine (szStore_any 0 w.heap.size y tm ba bn bc ga gn gc S _ HL.out HN.out HF.out (HM.out.later B0.out) HGN.out).mono ?_; rintro e w1 ⟨rfl, hb1⟩
  have A1 := hid (A0.out.later hb1)
  have B1 := hid (btr B0.out hb1)
  have c0 := A1.out.cells
  clear hb1 A0 B0
  by_cases hbig : (1048576 : Int) < ((szB S + gn : Nat) : Int)
  · rw [szr_over hbig]
    clear hbig
    go_wp2
    go_ret
    exact ⟨rfl, B1.out⟩
  obtain ⟨s2, s3, s4⟩ := smallS hbig
  obtain ⟨q, hq⟩ : ∃ q, szr 1048576 (szB S + gn) = q := ⟨_, rfl⟩
  have h0 : ¬ q < 0 := by rw [← hq, szr_fits hbig]; omega
  rw [hq]
  have S2 : Hid (bn ≤ 1048576) := by show _ ≤ _; rw [← HL.out]; exact s2
  have S3 := hid s3
  have S4 := hid s4
  clear hq hbig s2 s3 s4
  go_wp2_with fail
  refine (toStore_any 0 w.heap.size 0 w.heap.size y tm ba bn bc ga gn gc S G _ HL.out S2.out S4.out (HM.out.later B1.out) HGL.out S3.out (HS'.out.later B1.out)).mono ?_; rintro e w2 ⟨km, kg, rfl, how, hb2⟩
  have R1 := hid how.reads.2.2.1
  have R2 := hid how.reads.2.2.2
  have A2 := hid (A1.out.later hb2)
  have B2 := hid (btr B1.out hb2)
  have c0 := A2.out.cells
  clear hb2 A1 B1 how
  go_wp2_with fail
  refine (specBoxNamed_any _ _ y tm (some ⟨km, 0, none⟩) bn bn (.slice (some ⟨kg, 0, none⟩) gn gn) S x _ HL.out S2.out R1.out).mono ?_; rintro e w3 ⟨rfl, hb3⟩
  have A3 := hid (A2.out.later hb3)
  have B3 := hid (btr B2.out hb3)
  have c0 := A3.out.cells
  clear hb3 A2 B2 R1 R2
  obtain ⟨r, hr⟩ : ∃ r : Int, fidx (isN x) S 0 = r := ⟨_, rfl⟩
  rw [hr]
  have HR := hid hr
  clear hr
  go_wp2_with fail
  refine (toStore_any 0 w.heap.size 0 w.heap.size y tm ba bn bc ga gn gc S G _ HL.out S2.out S4.out (HM.out.later B3.out) HGL.out S3.out (HS'.out.later B3.out)).mono ?_; rintro e w4 ⟨km4, kg4, rfl, how, hb4⟩
  have R1 := hid how.reads.2.2.1
  have R2 := hid how.reads.2.2.2
  have A4 := hid (A3.out.later hb4)
  have B4 := hid (btr B3.out hb4)
  have c0 := A4.out.cells
  clear hb4 A3 B3 how
  have xx : (r != r) = false := by simp
  go_wp2_with fail
  have b5 : Below w4.heap.size w4 (w4.alloc (.cells #[.int .i64 y, .int .i64 tm, .slice (some ⟨km4, 0, none⟩) bn bn, .slice (some ⟨kg4, 0, none⟩) gn gn] 30)) := bpush (bre _) _
  refine (implBoxNamed_any _ _ y tm (some ⟨km4, 0, none⟩) bn bn (.slice (some ⟨kg4, 0, none⟩) gn gn) S x _ HL.out S2.out (R1.out.later b5)).mono ?_; rintro e w5 ⟨rfl, hb5⟩
  rw [HR.out]
  have X5 := hid ((Sx.new w4 30 y tm (.slice (some ⟨km4, 0, none⟩) bn bn) (.slice (some ⟨kg4, 0, none⟩) gn gn)).later hb5)
  have R5 := hid ((R1.out.later b5).later hb5)
  have Q5 := hid ((R2.out.later b5).later hb5)
  have A5 := hid (A4.out.later (btr b5 hb5))
  have B5 := hid (btr (btr B4.out b5) hb5)
  clear b5 hb5 A4 B4 R1 R2 c0
  obtain ⟨kx, hkx⟩ : ∃ kx, w4.heap.size = kx := ⟨_, rfl⟩
  rw [hkx] at X5 ⊢
  have HS : Hid (∀ W, Below w5.heap.size w5 W → (W.cell? ⟨w.heap.size, 0, none⟩ = some (.int .i64 y) ∧ W.cell? ⟨w.heap.size, 1, none⟩ = some (.int .i64 tm) ∧ W.cell? ⟨w.heap.size, 2, none⟩ = some (.slice ba bn bc) ∧ W.cell? ⟨w.heap.size, 3, none⟩ = some (.slice ga gn gc)) ∧ (W.cell? ⟨kx, 0, none⟩ = some (.int .i64 y) ∧ W.cell? ⟨kx, 1, none⟩ = some (.int .i64 tm) ∧ W.cell? ⟨kx, 2, none⟩ = some (.slice (some ⟨km4, 0, none⟩) bn bn) ∧ W.cell? ⟨kx, 3, none⟩ = some (.slice (some ⟨kg4, 0, none⟩) gn gn))) := fun W h => ⟨(A5.out.later h).cells, (X5.out.later h).cells⟩
  clear hkx
  go_wp2_with fail
  refine wp_region_noPanic ?_
  refine wp_region_held_drew (S := (fun W => (W.cell? ⟨w.heap.size, 0, none⟩ = some (.int .i64 y) ∧ W.cell? ⟨w.heap.size, 1, none⟩ = some (.int .i64 tm) ∧ W.cell? ⟨w.heap.size, 2, none⟩ = some (.slice ba bn bc) ∧ W.cell? ⟨w.heap.size, 3, none⟩ = some (.slice ga gn gc)) ∧ (W.cell? ⟨kx, 0, none⟩ = some (.int .i64 y) ∧ W.cell? ⟨kx, 1, none⟩ = some (.int .i64 tm) ∧ W.cell? ⟨kx, 2, none⟩ = some (.slice (some ⟨km4, 0, none⟩) bn bn) ∧ W.cell? ⟨kx, 3, none⟩ = some (.slice (some ⟨kg4, 0, none⟩) gn gn)))) (by kernel_rfl) (HS.out _ (bdr (bre _))) (fun hHeld => ?_)
  refine wpAnyH_take (i := 0) (oi := { dst := some 29, op := Op.load 30 (Operand.tmp 7), type := 30, pos := "exact.go:2768", after := #[], guard := none }) (v := ?vc1_0) rfl (by kernel_rfl) (by kernel_rfl) (by kernel_rfl) (fun _ _ _ h => h) (Or.inl ⟨by rfl, ?hyc1_0⟩) (by assumption) ?restc1_0
  case hyc1_0 => (intro w hSw; (try dsimp only at hSw); go_simp; try with_reducible rfl)
  try simp only [Act.put, List.setIfInBounds_toArray, List.set_cons_zero, List.set_cons_succ]
  refine wpAnyH_take (i := 1) (oi := { dst := some 30, op := Op.load 25 (Operand.tmp 2), type := 25, pos := "exact.go:2768", after := #[], guard := none }) (v := ?vc2_1) rfl (by kernel_rfl) (by kernel_rfl) (by kernel_rfl) (fun _ _ _ h => h) (Or.inl ⟨by rfl, ?hyc2_1⟩) (by assumption) ?restc2_1
  case hyc2_1 => (intro w hSw; (try dsimp only at hSw); go_simp; try with_reducible rfl)
  try simp only [Act.put, List.setIfInBounds_toArray, List.set_cons_zero, List.set_cons_succ]
  clear hHeld
  refine wpAnyH_ready (rs := [2]) (by kernel_rfl) (by simp) ?_
  refine AllReadyH.cons (o := { dst := some 31, op := Op.call { callee := Callee.value (Operand.func 10), args := #[Operand.tmp 30], argTypes := #[25] }, type := 30, pos := "exact.go:2768", after := #[{ on := 1, ground := Ground.data }], guard := none }) rfl (fun K hK => ?_) AllReadyH.nil
  go_simp
  refine (toStore_any 0 w.heap.size 0 w.heap.size y tm ba bn bc ga gn gc S G _ HL.out S2.out S4.out (HM.out.later (btr B5.out (by repeat (first | exact bre _ | refine bdr ?_ | refine btr ?_ (by assumption) | refine bpush ?_ _)))) HGL.out S3.out (HS'.out.later (btr B5.out (by repeat (first | exact bre _ | refine bdr ?_ | refine btr ?_ (by assumption) | refine bpush ?_ _))))).mono ?_; rintro e w6 ⟨km6, kg6, rfl, how6, hb6⟩
  have R6 := hid how6.reads.2.2.1
  have Q6 := hid how6.reads.2.2.2
  go_wp2_with fail
  refine hK.out _ _ (HS.out _ (by repeat (first | exact bre _ | refine bdr ?_ | refine btr ?_ (by assumption) | refine bpush ?_ _))) (fun hHeld => ?_)
  clear hK K
  try simp only [Act.put, List.setIfInBounds_toArray, List.set_cons_zero, List.set_cons_succ]
  clear hHeld
  refine wpAnyH_ready (rs := [3]) (by kernel_rfl) (by simp) ?_
  refine AllReadyH.cons (o := { dst := some 32, op := Op.call { callee := Callee.value (Operand.func 12), args := #[Operand.tmp 29, Operand.tmp 31], argTypes := #[30, 30] }, type := 4, pos := "exact.go:2768", after := #[{ on := 0, ground := Ground.data }, { on := 2, ground := Ground.data }, { on := 2, ground := Ground.chain }], guard := none }) rfl (fun K hK => ?_) AllReadyH.nil
  go_simp
  refine (eqStore_any _ _ _ _ _ _ _ _ y tm _ bn _ _ gn _ _ _ _ _ S G _ HL.out S2.out S4.out (R5.out.later (by repeat (first | exact bre _ | refine bdr ?_ | refine btr ?_ (by assumption) | refine bpush ?_ _))) R6.out HGL.out S3.out (Q5.out.later (by repeat (first | exact bre _ | refine bdr ?_ | refine btr ?_ (by assumption) | refine bpush ?_ _))) Q6.out).mono ?_; rintro e w7 ⟨rfl, hb7⟩
  go_wp2_with fail
  refine hK.out _ _ (HS.out _ (by repeat (first | exact bre _ | refine bdr ?_ | refine btr ?_ (by assumption) | refine bpush ?_ _))) (fun hHeld => ?_)
  clear hK K
  try simp only [Act.put, List.setIfInBounds_toArray, List.set_cons_zero, List.set_cons_succ]
  refine wpAnyH_take (i := 4) (oi := { dst := some 33, op := Op.unOp UnOp.not 4 (Operand.tmp 32), type := 4, pos := "exact.go:2768", after := #[{ on := 3, ground := Ground.data }], guard := none }) (v := ?vc5_4) rfl (by kernel_rfl) (by kernel_rfl) (by kernel_rfl) (fun _ _ _ h => h) (Or.inl ⟨by rfl, ?hyc5_4⟩) (by assumption) ?restc5_4
  case hyc5_4 => (intro w hSw; (try dsimp only at hSw); go_simp; try with_reducible rfl)
  try simp only [Act.put, List.setIfInBounds_toArray, List.set_cons_zero, List.set_cons_succ]
  refine wpAnyH_done (by kernel_rfl) ?_ _
  refine NoPanic.normal ?_
  clear hHeld
  go_wp2
  go_ret
  exact ⟨rfl, btr B5.out (by repeat (first | exact bre _ | refine bdr ?_ | refine btr ?_ (by assumption) | refine bpush ?_ _))⟩

set_option maxHeartbeats 3200000 in
set_option maxRecDepth 100000 in
theorem lawBoxAt_any (y tm : Int) (ba : Option Addr) (bn bc : Nat) (ga : Option Addr) (gn gc : Nat) (S : List X7) (G : List Int) (x : Int) (w : World) (hl : S.length = bn) (hn : (bn : Int) ≤ 9223372036854775807) (hft : FitB S) (hm : Bs 0 w.heap.size w ba S) (hgl : G.length = gn) (hgn : (gn : Int) ≤ 9223372036854775807) (hs : Is 0 w.heap.size w ga G) :
    Calls Try.prog 5 #[.agg #[.int .i64 y, .int .i64 tm, .slice ba bn bc, .slice ga gn gc], .int .i64 x] w fun e w' => e = .returned (.bool true) ∧ Below w.heap.size w w' := by
  obtain ⟨W0, hW0⟩ : ∃ W0, w.alloc (.cells #[.int .i64 y, .int .i64 tm, .slice ba bn bc, .slice ga gn gc] 25) = W0 := ⟨_, rfl⟩
  have a0 : Sx W0 w.heap.size 25 y tm (.slice ba bn bc) (.slice ga gn gc) := by subst hW0; exact Sx.new w _ y tm _ _
  have b0 : Below w.heap.size w W0 := by subst hW0; exact bpush (bre _) _
  have c0 := a0.cells
  have A0 := hid a0
  have B0 := hid b0
  have HM := hid hm
  have HS' := hid hs
  have HF := hid hft
  have HL := hid hl
  have HGL := hid hgl
  have HN := hid hn
  have HGN := hid hgn
  clear a0 b0 hm hs hft hl hgl hn hgn
  go_enter Try.func5, Try.ntmps5
  go_wp2_with fail
  clear hW0
  refine (szStore_any 0 w.heap.size y tm ba bn bc ga gn gc S _ HL.out HN.out HF.out (HM.out.later B0.out) HGN.out).mono ?_; rintro e w1 ⟨rfl, hb1⟩
  have A1 := hid (A0.out.later hb1)
  have B1 := hid (btr B0.out hb1)
  have c0 := A1.out.cells
  clear hb1 A0 B0
  by_cases hbig : (1048576 : Int) < ((szB S + gn : Nat) : Int)
  · rw [szr_over hbig]
    clear hbig
    go_wp2
    go_ret
    exact ⟨rfl, B1.out⟩
  obtain ⟨s2, s3, s4⟩ := smallS hbig
  obtain ⟨q, hq⟩ : ∃ q, szr 1048576 (szB S + gn) = q := ⟨_, rfl⟩
  have h0 : ¬ q < 0 := by rw [← hq, szr_fits hbig]; omega
  rw [hq]
  have S2 : Hid (bn ≤ 1048576) := by show _ ≤ _; rw [← HL.out]; exact s2
  have S3 := hid s3
  have S4 := hid s4
  clear hq hbig s2 s3 s4
  go_wp2_with fail
  refine (toStore_any 0 w.heap.size 0 w.heap.size y tm ba bn bc ga gn gc S G _ HL.out S2.out S4.out (HM.out.later B1.out) HGL.out S3.out (HS'.out.later B1.out)).mono ?_; rintro e w2 ⟨km, kg, rfl, how, hb2⟩
  have R1 := hid how.reads.2.2.1
  have R2 := hid how.reads.2.2.2
  have A2 := hid (A1.out.later hb2)
  have B2 := hid (btr B1.out hb2)
  have c0 := A2.out.cells
  clear hb2 A1 B1 how
  go_wp2_with fail
  refine (specBoxAt_any _ _ y tm (some ⟨km, 0, none⟩) bn bn (.slice (some ⟨kg, 0, none⟩) gn gn) S x _ HL.out S2.out R1.out).mono ?_; rintro e w3 ⟨rfl, hb3⟩
  have A3 := hid (A2.out.later hb3)
  have B3 := hid (btr B2.out hb3)
  have c0 := A3.out.cells
  clear hb3 A2 B2 R1 R2
  obtain ⟨r, hr⟩ : ∃ r : Int, fidx (isG x) S 0 = r := ⟨_, rfl⟩
  rw [hr]
  have HR := hid hr
  clear hr
  go_wp2_with fail
  refine (toStore_any 0 w.heap.size 0 w.heap.size y tm ba bn bc ga gn gc S G _ HL.out S2.out S4.out (HM.out.later B3.out) HGL.out S3.out (HS'.out.later B3.out)).mono ?_; rintro e w4 ⟨km4, kg4, rfl, how, hb4⟩
  have R1 := hid how.reads.2.2.1
  have R2 := hid how.reads.2.2.2
  have A4 := hid (A3.out.later hb4)
  have B4 := hid (btr B3.out hb4)
  have c0 := A4.out.cells
  clear hb4 A3 B3 how
  have xx : (r != r) = false := by simp
  go_wp2_with fail
  have b5 : Below w4.heap.size w4 (w4.alloc (.cells #[.int .i64 y, .int .i64 tm, .slice (some ⟨km4, 0, none⟩) bn bn, .slice (some ⟨kg4, 0, none⟩) gn gn] 30)) := bpush (bre _) _
  refine (implBoxAt_any _ _ y tm (some ⟨km4, 0, none⟩) bn bn (.slice (some ⟨kg4, 0, none⟩) gn gn) S x _ HL.out S2.out (R1.out.later b5)).mono ?_; rintro e w5 ⟨rfl, hb5⟩
  rw [HR.out]
  have X5 := hid ((Sx.new w4 30 y tm (.slice (some ⟨km4, 0, none⟩) bn bn) (.slice (some ⟨kg4, 0, none⟩) gn gn)).later hb5)
  have R5 := hid ((R1.out.later b5).later hb5)
  have Q5 := hid ((R2.out.later b5).later hb5)
  have A5 := hid (A4.out.later (btr b5 hb5))
  have B5 := hid (btr (btr B4.out b5) hb5)
  clear b5 hb5 A4 B4 R1 R2 c0
  obtain ⟨kx, hkx⟩ : ∃ kx, w4.heap.size = kx := ⟨_, rfl⟩
  rw [hkx] at X5 ⊢
  have HS : Hid (∀ W, Below w5.heap.size w5 W → (W.cell? ⟨w.heap.size, 0, none⟩ = some (.int .i64 y) ∧ W.cell? ⟨w.heap.size, 1, none⟩ = some (.int .i64 tm) ∧ W.cell? ⟨w.heap.size, 2, none⟩ = some (.slice ba bn bc) ∧ W.cell? ⟨w.heap.size, 3, none⟩ = some (.slice ga gn gc)) ∧ (W.cell? ⟨kx, 0, none⟩ = some (.int .i64 y) ∧ W.cell? ⟨kx, 1, none⟩ = some (.int .i64 tm) ∧ W.cell? ⟨kx, 2, none⟩ = some (.slice (some ⟨km4, 0, none⟩) bn bn) ∧ W.cell? ⟨kx, 3, none⟩ = some (.slice (some ⟨kg4, 0, none⟩) gn gn))) := fun W h => ⟨(A5.out.later h).cells, (X5.out.later h).cells⟩
  clear hkx
  go_wp2_with fail
  refine wp_region_noPanic ?_
  refine wp_region_held_drew (S := (fun W => (W.cell? ⟨w.heap.size, 0, none⟩ = some (.int .i64 y) ∧ W.cell? ⟨w.heap.size, 1, none⟩ = some (.int .i64 tm) ∧ W.cell? ⟨w.heap.size, 2, none⟩ = some (.slice ba bn bc) ∧ W.cell? ⟨w.heap.size, 3, none⟩ = some (.slice ga gn gc)) ∧ (W.cell? ⟨kx, 0, none⟩ = some (.int .i64 y) ∧ W.cell? ⟨kx, 1, none⟩ = some (.int .i64 tm) ∧ W.cell? ⟨kx, 2, none⟩ = some (.slice (some ⟨km4, 0, none⟩) bn bn) ∧ W.cell? ⟨kx, 3, none⟩ = some (.slice (some ⟨kg4, 0, none⟩) gn gn)))) (by kernel_rfl) (HS.out _ (bdr (bre _))) (fun hHeld => ?_)
  refine wpAnyH_take (i := 0) (oi := { dst := some 26, op := Op.load 30 (Operand.tmp 7), type := 30, pos := "exact.go:2787", after := #[], guard := none }) (v := ?vd1_0) rfl (by kernel_rfl) (by kernel_rfl) (by kernel_rfl) (fun _ _ _ h => h) (Or.inl ⟨by rfl, ?hyd1_0⟩) (by assumption) ?restd1_0
  case hyd1_0 => (intro w hSw; (try dsimp only at hSw); go_simp; try with_reducible rfl)
  try simp only [Act.put, List.setIfInBounds_toArray, List.set_cons_zero, List.set_cons_succ]
  refine wpAnyH_take (i := 1) (oi := { dst := some 27, op := Op.load 25 (Operand.tmp 2), type := 25, pos := "exact.go:2787", after := #[], guard := none }) (v := ?vd2_1) rfl (by kernel_rfl) (by kernel_rfl) (by kernel_rfl) (fun _ _ _ h => h) (Or.inl ⟨by rfl, ?hyd2_1⟩) (by assumption) ?restd2_1
  case hyd2_1 => (intro w hSw; (try dsimp only at hSw); go_simp; try with_reducible rfl)
  try simp only [Act.put, List.setIfInBounds_toArray, List.set_cons_zero, List.set_cons_succ]
  clear hHeld
  refine wpAnyH_ready (rs := [2]) (by kernel_rfl) (by simp) ?_
  refine AllReadyH.cons (o := { dst := some 28, op := Op.call { callee := Callee.value (Operand.func 10), args := #[Operand.tmp 27], argTypes := #[25] }, type := 30, pos := "exact.go:2787", after := #[{ on := 1, ground := Ground.data }], guard := none }) rfl (fun K hK => ?_) AllReadyH.nil
  go_simp
  refine (toStore_any 0 w.heap.size 0 w.heap.size y tm ba bn bc ga gn gc S G _ HL.out S2.out S4.out (HM.out.later (btr B5.out (by repeat (first | exact bre _ | refine bdr ?_ | refine btr ?_ (by assumption) | refine bpush ?_ _)))) HGL.out S3.out (HS'.out.later (btr B5.out (by repeat (first | exact bre _ | refine bdr ?_ | refine btr ?_ (by assumption) | refine bpush ?_ _))))).mono ?_; rintro e w6 ⟨km6, kg6, rfl, how6, hb6⟩
  have R6 := hid how6.reads.2.2.1
  have Q6 := hid how6.reads.2.2.2
  go_wp2_with fail
  refine hK.out _ _ (HS.out _ (by repeat (first | exact bre _ | refine bdr ?_ | refine btr ?_ (by assumption) | refine bpush ?_ _))) (fun hHeld => ?_)
  clear hK K
  try simp only [Act.put, List.setIfInBounds_toArray, List.set_cons_zero, List.set_cons_succ]
  clear hHeld
  refine wpAnyH_ready (rs := [3]) (by kernel_rfl) (by simp) ?_
  refine AllReadyH.cons (o := { dst := some 29, op := Op.call { callee := Callee.value (Operand.func 12), args := #[Operand.tmp 26, Operand.tmp 28], argTypes := #[30, 30] }, type := 4, pos := "exact.go:2787", after := #[{ on := 0, ground := Ground.data }, { on := 2, ground := Ground.data }, { on := 2, ground := Ground.chain }], guard := none }) rfl (fun K hK => ?_) AllReadyH.nil
  go_simp
  refine (eqStore_any _ _ _ _ _ _ _ _ y tm _ bn _ _ gn _ _ _ _ _ S G _ HL.out S2.out S4.out (R5.out.later (by repeat (first | exact bre _ | refine bdr ?_ | refine btr ?_ (by assumption) | refine bpush ?_ _))) R6.out HGL.out S3.out (Q5.out.later (by repeat (first | exact bre _ | refine bdr ?_ | refine btr ?_ (by assumption) | refine bpush ?_ _))) Q6.out).mono ?_; rintro e w7 ⟨rfl, hb7⟩
  go_wp2_with fail
  refine hK.out _ _ (HS.out _ (by repeat (first | exact bre _ | refine bdr ?_ | refine btr ?_ (by assumption) | refine bpush ?_ _))) (fun hHeld => ?_)
  clear hK K
  try simp only [Act.put, List.setIfInBounds_toArray, List.set_cons_zero, List.set_cons_succ]
  refine wpAnyH_take (i := 4) (oi := { dst := some 30, op := Op.unOp UnOp.not 4 (Operand.tmp 29), type := 4, pos := "exact.go:2787", after := #[{ on := 3, ground := Ground.data }], guard := none }) (v := ?vd5_4) rfl (by kernel_rfl) (by kernel_rfl) (by kernel_rfl) (fun _ _ _ h => h) (Or.inl ⟨by rfl, ?hyd5_4⟩) (by assumption) ?restd5_4
  case hyd5_4 => (intro w hSw; (try dsimp only at hSw); go_simp; try with_reducible rfl)
  try simp only [Act.put, List.setIfInBounds_toArray, List.set_cons_zero, List.set_cons_succ]
  refine wpAnyH_done (by kernel_rfl) ?_ _
  refine NoPanic.normal ?_
  clear hHeld
  go_wp2
  go_ret
  exact ⟨rfl, btr B5.out (by repeat (first | exact bre _ | refine bdr ?_ | refine btr ?_ (by assumption) | refine bpush ?_ _))⟩

set_option maxHeartbeats 3200000 in
set_option maxRecDepth 100000 in
theorem lawKnows_any (y tm : Int) (ba : Option Addr) (bn bc : Nat) (ga : Option Addr) (gn gc : Nat) (S : List X7) (G : List Int) (x : Int) (w : World) (hl : S.length = bn) (hn : (bn : Int) ≤ 9223372036854775807) (hft : FitB S) (hm : Bs 0 w.heap.size w ba S) (hgl : G.length = gn) (hgn : (gn : Int) ≤ 9223372036854775807) (hs : Is 0 w.heap.size w ga G) :
    Calls Try.prog 6 #[.agg #[.int .i64 y, .int .i64 tm, .slice ba bn bc, .slice ga gn gc], .int .i64 x] w fun e w' => e = .returned (.bool true) ∧ Below w.heap.size w w' := by
  obtain ⟨W0, hW0⟩ : ∃ W0, w.alloc (.cells #[.int .i64 y, .int .i64 tm, .slice ba bn bc, .slice ga gn gc] 25) = W0 := ⟨_, rfl⟩
  have a0 : Sx W0 w.heap.size 25 y tm (.slice ba bn bc) (.slice ga gn gc) := by subst hW0; exact Sx.new w _ y tm _ _
  have b0 : Below w.heap.size w W0 := by subst hW0; exact bpush (bre _) _
  have c0 := a0.cells
  have A0 := hid a0
  have B0 := hid b0
  have HM := hid hm
  have HS' := hid hs
  have HF := hid hft
  have HL := hid hl
  have HGL := hid hgl
  have HN := hid hn
  have HGN := hid hgn
  clear a0 b0 hm hs hft hl hgl hn hgn
  go_enter Try.func6, Try.ntmps6
  go_wp2_with fail
  clear hW0
  refine (szStore_any 0 w.heap.size y tm ba bn bc ga gn gc S _ HL.out HN.out HF.out (HM.out.later B0.out) HGN.out).mono ?_; rintro e w1 ⟨rfl, hb1⟩
  have A1 := hid (A0.out.later hb1)
  have B1 := hid (btr B0.out hb1)
  have c0 := A1.out.cells
  clear hb1 A0 B0
  by_cases hbig : (1048576 : Int) < ((szB S + gn : Nat) : Int)
  · rw [szr_over hbig]
    clear hbig
    go_wp2
    go_ret
    exact ⟨rfl, B1.out⟩
  obtain ⟨s2, s3, s4⟩ := smallS hbig
  obtain ⟨q, hq⟩ : ∃ q, szr 1048576 (szB S + gn) = q := ⟨_, rfl⟩
  have h0 : ¬ q < 0 := by rw [← hq, szr_fits hbig]; omega
  rw [hq]
  have S2 : Hid (bn ≤ 1048576) := by show _ ≤ _; rw [← HL.out]; exact s2
  have S3 := hid s3
  have S4 := hid s4
  clear hq hbig s2 s3 s4
  go_wp2_with fail
  refine (toStore_any 0 w.heap.size 0 w.heap.size y tm ba bn bc ga gn gc S G _ HL.out S2.out S4.out (HM.out.later B1.out) HGL.out S3.out (HS'.out.later B1.out)).mono ?_; rintro e w2 ⟨km, kg, rfl, how, hb2⟩
  have R1 := hid how.reads.2.2.1
  have R2 := hid how.reads.2.2.2
  have A2 := hid (A1.out.later hb2)
  have B2 := hid (btr B1.out hb2)
  have c0 := A2.out.cells
  clear hb2 A1 B1 how
  go_wp2_with fail
  refine (specKnows_any _ _ _ _ y tm (some ⟨km, 0, none⟩) bn bn (some ⟨kg, 0, none⟩) gn gn S G x _ HL.out S2.out S4.out R1.out HGL.out S3.out R2.out).mono ?_; rintro e w3 ⟨rfl, hb3⟩
  have A3 := hid (A2.out.later hb3)
  have B3 := hid (btr B2.out hb3)
  have c0 := A3.out.cells
  clear hb3 A2 B2 R1 R2
  obtain ⟨r, hr⟩ : ∃ r : Bool, kno x S G = r := ⟨_, rfl⟩
  rw [hr]
  have HR := hid hr
  clear hr
  go_wp2_with fail
  refine (toStore_any 0 w.heap.size 0 w.heap.size y tm ba bn bc ga gn gc S G _ HL.out S2.out S4.out (HM.out.later B3.out) HGL.out S3.out (HS'.out.later B3.out)).mono ?_; rintro e w4 ⟨km4, kg4, rfl, how, hb4⟩
  have R1 := hid how.reads.2.2.1
  have R2 := hid how.reads.2.2.2
  have A4 := hid (A3.out.later hb4)
  have B4 := hid (btr B3.out hb4)
  have c0 := A4.out.cells
  clear hb4 A3 B3 how
  have xx : (r != r) = false := by simp
  go_wp2_with fail
  have b5 : Below w4.heap.size w4 (w4.alloc (.cells #[.int .i64 y, .int .i64 tm, .slice (some ⟨km4, 0, none⟩) bn bn, .slice (some ⟨kg4, 0, none⟩) gn gn] 30)) := bpush (bre _) _
  refine (implKnows_any _ _ _ _ y tm (some ⟨km4, 0, none⟩) bn bn (some ⟨kg4, 0, none⟩) gn gn S G x _ HL.out S2.out S4.out (R1.out.later b5) HGL.out S3.out (R2.out.later b5)).mono ?_; rintro e w5 ⟨rfl, hb5⟩
  rw [HR.out]
  have X5 := hid ((Sx.new w4 30 y tm (.slice (some ⟨km4, 0, none⟩) bn bn) (.slice (some ⟨kg4, 0, none⟩) gn gn)).later hb5)
  have R5 := hid ((R1.out.later b5).later hb5)
  have Q5 := hid ((R2.out.later b5).later hb5)
  have A5 := hid (A4.out.later (btr b5 hb5))
  have B5 := hid (btr (btr B4.out b5) hb5)
  clear b5 hb5 A4 B4 R1 R2 c0
  obtain ⟨kx, hkx⟩ : ∃ kx, w4.heap.size = kx := ⟨_, rfl⟩
  rw [hkx] at X5 ⊢
  have HS : Hid (∀ W, Below w5.heap.size w5 W → (W.cell? ⟨w.heap.size, 0, none⟩ = some (.int .i64 y) ∧ W.cell? ⟨w.heap.size, 1, none⟩ = some (.int .i64 tm) ∧ W.cell? ⟨w.heap.size, 2, none⟩ = some (.slice ba bn bc) ∧ W.cell? ⟨w.heap.size, 3, none⟩ = some (.slice ga gn gc)) ∧ (W.cell? ⟨kx, 0, none⟩ = some (.int .i64 y) ∧ W.cell? ⟨kx, 1, none⟩ = some (.int .i64 tm) ∧ W.cell? ⟨kx, 2, none⟩ = some (.slice (some ⟨km4, 0, none⟩) bn bn) ∧ W.cell? ⟨kx, 3, none⟩ = some (.slice (some ⟨kg4, 0, none⟩) gn gn))) := fun W h => ⟨(A5.out.later h).cells, (X5.out.later h).cells⟩
  clear hkx
  go_wp2_with fail
  refine wp_region_noPanic ?_
  refine wp_region_held_drew (S := (fun W => (W.cell? ⟨w.heap.size, 0, none⟩ = some (.int .i64 y) ∧ W.cell? ⟨w.heap.size, 1, none⟩ = some (.int .i64 tm) ∧ W.cell? ⟨w.heap.size, 2, none⟩ = some (.slice ba bn bc) ∧ W.cell? ⟨w.heap.size, 3, none⟩ = some (.slice ga gn gc)) ∧ (W.cell? ⟨kx, 0, none⟩ = some (.int .i64 y) ∧ W.cell? ⟨kx, 1, none⟩ = some (.int .i64 tm) ∧ W.cell? ⟨kx, 2, none⟩ = some (.slice (some ⟨km4, 0, none⟩) bn bn) ∧ W.cell? ⟨kx, 3, none⟩ = some (.slice (some ⟨kg4, 0, none⟩) gn gn)))) (by kernel_rfl) (HS.out _ (bdr (bre _))) (fun hHeld => ?_)
  refine wpAnyH_take (i := 0) (oi := { dst := some 26, op := Op.load 30 (Operand.tmp 7), type := 30, pos := "exact.go:2806", after := #[], guard := none }) (v := ?ve1_0) rfl (by kernel_rfl) (by kernel_rfl) (by kernel_rfl) (fun _ _ _ h => h) (Or.inl ⟨by rfl, ?hye1_0⟩) (by assumption) ?reste1_0
  case hye1_0 => (intro w hSw; (try dsimp only at hSw); go_simp; try with_reducible rfl)
  try simp only [Act.put, List.setIfInBounds_toArray, List.set_cons_zero, List.set_cons_succ]
  refine wpAnyH_take (i := 1) (oi := { dst := some 27, op := Op.load 25 (Operand.tmp 2), type := 25, pos := "exact.go:2806", after := #[], guard := none }) (v := ?ve2_1) rfl (by kernel_rfl) (by kernel_rfl) (by kernel_rfl) (fun _ _ _ h => h) (Or.inl ⟨by rfl, ?hye2_1⟩) (by assumption) ?reste2_1
  case hye2_1 => (intro w hSw; (try dsimp only at hSw); go_simp; try with_reducible rfl)
  try simp only [Act.put, List.setIfInBounds_toArray, List.set_cons_zero, List.set_cons_succ]
  clear hHeld
  refine wpAnyH_ready (rs := [2]) (by kernel_rfl) (by simp) ?_
  refine AllReadyH.cons (o := { dst := some 28, op := Op.call { callee := Callee.value (Operand.func 10), args := #[Operand.tmp 27], argTypes := #[25] }, type := 30, pos := "exact.go:2806", after := #[{ on := 1, ground := Ground.data }], guard := none }) rfl (fun K hK => ?_) AllReadyH.nil
  go_simp
  refine (toStore_any 0 w.heap.size 0 w.heap.size y tm ba bn bc ga gn gc S G _ HL.out S2.out S4.out (HM.out.later (btr B5.out (by repeat (first | exact bre _ | refine bdr ?_ | refine btr ?_ (by assumption) | refine bpush ?_ _)))) HGL.out S3.out (HS'.out.later (btr B5.out (by repeat (first | exact bre _ | refine bdr ?_ | refine btr ?_ (by assumption) | refine bpush ?_ _))))).mono ?_; rintro e w6 ⟨km6, kg6, rfl, how6, hb6⟩
  have R6 := hid how6.reads.2.2.1
  have Q6 := hid how6.reads.2.2.2
  go_wp2_with fail
  refine hK.out _ _ (HS.out _ (by repeat (first | exact bre _ | refine bdr ?_ | refine btr ?_ (by assumption) | refine bpush ?_ _))) (fun hHeld => ?_)
  clear hK K
  try simp only [Act.put, List.setIfInBounds_toArray, List.set_cons_zero, List.set_cons_succ]
  clear hHeld
  refine wpAnyH_ready (rs := [3]) (by kernel_rfl) (by simp) ?_
  refine AllReadyH.cons (o := { dst := some 29, op := Op.call { callee := Callee.value (Operand.func 12), args := #[Operand.tmp 26, Operand.tmp 28], argTypes := #[30, 30] }, type := 4, pos := "exact.go:2806", after := #[{ on := 0, ground := Ground.data }, { on := 2, ground := Ground.data }, { on := 2, ground := Ground.chain }], guard := none }) rfl (fun K hK => ?_) AllReadyH.nil
  go_simp
  refine (eqStore_any _ _ _ _ _ _ _ _ y tm _ bn _ _ gn _ _ _ _ _ S G _ HL.out S2.out S4.out (R5.out.later (by repeat (first | exact bre _ | refine bdr ?_ | refine btr ?_ (by assumption) | refine bpush ?_ _))) R6.out HGL.out S3.out (Q5.out.later (by repeat (first | exact bre _ | refine bdr ?_ | refine btr ?_ (by assumption) | refine bpush ?_ _))) Q6.out).mono ?_; rintro e w7 ⟨rfl, hb7⟩
  go_wp2_with fail
  refine hK.out _ _ (HS.out _ (by repeat (first | exact bre _ | refine bdr ?_ | refine btr ?_ (by assumption) | refine bpush ?_ _))) (fun hHeld => ?_)
  clear hK K
  try simp only [Act.put, List.setIfInBounds_toArray, List.set_cons_zero, List.set_cons_succ]
  refine wpAnyH_take (i := 4) (oi := { dst := some 30, op := Op.unOp UnOp.not 4 (Operand.tmp 29), type := 4, pos := "exact.go:2806", after := #[{ on := 3, ground := Ground.data }], guard := none }) (v := ?ve5_4) rfl (by kernel_rfl) (by kernel_rfl) (by kernel_rfl) (fun _ _ _ h => h) (Or.inl ⟨by rfl, ?hye5_4⟩) (by assumption) ?reste5_4
  case hye5_4 => (intro w hSw; (try dsimp only at hSw); go_simp; try with_reducible rfl)
  try simp only [Act.put, List.setIfInBounds_toArray, List.set_cons_zero, List.set_cons_succ]
  refine wpAnyH_done (by kernel_rfl) ?_ _
  refine NoPanic.normal ?_
  clear hHeld
  go_wp2
  go_ret
  exact ⟨rfl, btr B5.out (by repeat (first | exact bre _ | refine bdr ?_ | refine btr ?_ (by assumption) | refine bpush ?_ _))⟩

set_option maxHeartbeats 3200000 in
set_option maxRecDepth 100000 in
theorem lawNextStamp_any (y tm : Int) (ba : Option Addr) (bn bc : Nat) (ga : Option Addr) (gn gc : Nat) (S : List X7) (G : List Int) (w : World) (hl : S.length = bn) (hn : (bn : Int) ≤ 9223372036854775807) (hft : FitB S) (hm : Bs 0 w.heap.size w ba S) (hgl : G.length = gn) (hgn : (gn : Int) ≤ 9223372036854775807) (hs : Is 0 w.heap.size w ga G) :
    Calls Try.prog 7 #[.agg #[.int .i64 y, .int .i64 tm, .slice ba bn bc, .slice ga gn gc]] w fun e w' => e = .returned (.bool true) ∧ Below w.heap.size w w' := by
  obtain ⟨W0, hW0⟩ : ∃ W0, w.alloc (.cells #[.int .i64 y, .int .i64 tm, .slice ba bn bc, .slice ga gn gc] 25) = W0 := ⟨_, rfl⟩
  have a0 : Sx W0 w.heap.size 25 y tm (.slice ba bn bc) (.slice ga gn gc) := by subst hW0; exact Sx.new w _ y tm _ _
  have b0 : Below w.heap.size w W0 := by subst hW0; exact bpush (bre _) _
  have c0 := a0.cells
  have A0 := hid a0
  have B0 := hid b0
  have HM := hid hm
  have HS' := hid hs
  have HF := hid hft
  have HL := hid hl
  have HGL := hid hgl
  have HN := hid hn
  have HGN := hid hgn
  clear a0 b0 hm hs hft hl hgl hn hgn
  go_enter Try.func7, Try.ntmps7
  go_wp2_with fail
  clear hW0
  refine (szStore_any 0 w.heap.size y tm ba bn bc ga gn gc S _ HL.out HN.out HF.out (HM.out.later B0.out) HGN.out).mono ?_; rintro e w1 ⟨rfl, hb1⟩
  have A1 := hid (A0.out.later hb1)
  have B1 := hid (btr B0.out hb1)
  have c0 := A1.out.cells
  clear hb1 A0 B0
  by_cases hbig : (1048576 : Int) < ((szB S + gn : Nat) : Int)
  · rw [szr_over hbig]
    clear hbig
    go_wp2
    go_ret
    exact ⟨rfl, B1.out⟩
  obtain ⟨s2, s3, s4⟩ := smallS hbig
  obtain ⟨q, hq⟩ : ∃ q, szr 1048576 (szB S + gn) = q := ⟨_, rfl⟩
  have h0 : ¬ q < 0 := by rw [← hq, szr_fits hbig]; omega
  rw [hq]
  have S2 : Hid (bn ≤ 1048576) := by show _ ≤ _; rw [← HL.out]; exact s2
  have S3 := hid s3
  have S4 := hid s4
  clear hq hbig s2 s3 s4
  go_wp2_with fail
  refine (toStore_any 0 w.heap.size 0 w.heap.size y tm ba bn bc ga gn gc S G _ HL.out S2.out S4.out (HM.out.later B1.out) HGL.out S3.out (HS'.out.later B1.out)).mono ?_; rintro e w2 ⟨km, kg, rfl, how, hb2⟩
  have R1 := hid how.reads.2.2.1
  have R2 := hid how.reads.2.2.2
  have A2 := hid (A1.out.later hb2)
  have B2 := hid (btr B1.out hb2)
  have c0 := A2.out.cells
  clear hb2 A1 B1 how
  go_wp2_with fail
  refine (specNextW_any y tm _ _ _).mono ?_; rintro e w3 ⟨rfl, hb3⟩
  obtain ⟨r, hr⟩ : ∃ r : Int, wrap64 (tm + 1) = r := ⟨_, rfl⟩
  rw [hr]
  have b3 : Below w3.heap.size w3 (w3.alloc (.cells #[.int .i64 r, .int .i64 y] 40)) := bpush (bre _) _
  have G3 := hid (Sg.new w3 40 r y)
  have A3 := hid (A2.out.later (btr hb3 b3))
  have B3 := hid (btr B2.out (btr hb3 b3))
  have c0 := A3.out.cells
  have HR := hid hr
  obtain ⟨W3, hW3⟩ : ∃ W3, w3.alloc (.cells #[.int .i64 r, .int .i64 y] 40) = W3 := ⟨_, rfl⟩
  rw [hW3] at A3 B3 c0 G3
  obtain ⟨kz, hkz⟩ : ∃ kz, w3.heap.size = kz := ⟨_, rfl⟩
  rw [hkz] at G3
  clear hb3 b3 A2 B2 R1 R2 hr
  go_wp2_with fail
  try rw [hW3]
  clear hW3 hkz
  refine (toStore_any 0 w.heap.size 0 w.heap.size y tm ba bn bc ga gn gc S G _ HL.out S2.out S4.out (HM.out.later B3.out) HGL.out S3.out (HS'.out.later B3.out)).mono ?_; rintro e w4 ⟨km4, kg4, rfl, how, hb4⟩
  have R1 := hid how.reads.2.2.1
  have R2 := hid how.reads.2.2.2
  have A4 := hid (A3.out.later hb4)
  have B4 := hid (btr B3.out hb4)
  have G4 := hid (G3.out.later hb4)
  have c0 := A4.out.cells
  clear hb4 A3 B3 how
  go_wp2_with fail
  have b5 : Below w4.heap.size w4 (w4.alloc (.cells #[.int .i64 y, .int .i64 tm, .slice (some ⟨km4, 0, none⟩) bn bn, .slice (some ⟨kg4, 0, none⟩) gn gn] 30)) := bpush (bre _) _
  refine (implNextW_any y tm _ _ _).mono ?_; rintro e w5a ⟨rfl, hb5a⟩
  rw [HR.out]
  have b6 : Below w5a.heap.size w5a (w5a.alloc (.cells #[.int .i64 r, .int .i64 y] 40)) := bpush (bre _) _
  have hb5 := btr hb5a b6
  have G5 := hid (Sg.new w5a 40 r y)
  have G6 := hid (G4.out.later (btr b5 hb5))
  have X5 := hid ((Sx.new w4 30 y tm (.slice (some ⟨km4, 0, none⟩) bn bn) (.slice (some ⟨kg4, 0, none⟩) gn gn)).later hb5)
  have R5 := hid ((R1.out.later b5).later hb5)
  have Q5 := hid ((R2.out.later b5).later hb5)
  have A5 := hid (A4.out.later (btr b5 hb5))
  have B5 := hid (btr (btr B4.out b5) hb5)
  obtain ⟨w5, hw5⟩ : ∃ w5, w5a.alloc (.cells #[.int .i64 r, .int .i64 y] 40) = w5 := ⟨_, rfl⟩
  rw [hw5] at G5 G6 X5 R5 Q5 A5 B5
  have cg5 := G5.out.cells
  have cg6 := G6.out.cells
  clear b5 b6 hb5a hb5 A4 B4 R1 R2 c0
  go_wp2_with fail
  try rw [hw5]
  obtain ⟨pz, hpz, cz⟩ := eqStamp_letter r y r y
  have hpt : pz = true := by rw [hpz.out]; simp
  subst hpt
  refine (cz.out _).mono ?_; rintro e w5b ⟨rfl, hwz⟩
  have hbz : Below w5.heap.size w5 w5b := by rw [hwz]; exact bpush (bpush (bre _) _) _
  clear hpz cz hwz
  have X5 := hid (X5.out.later hbz)
  have R5 := hid (R5.out.later hbz)
  have Q5 := hid (Q5.out.later hbz)
  have A5 := hid (A5.out.later hbz)
  have B5 := hid (btr B5.out hbz)
  obtain ⟨w5, hw5c⟩ : ∃ w5, w5 = w5b := ⟨_, rfl⟩
  subst hw5c
  clear hbz hw5 cg5 cg6
  obtain ⟨kx, hkx⟩ : ∃ kx, w4.heap.size = kx := ⟨_, rfl⟩
  rw [hkx] at X5 ⊢
  have HS : Hid (∀ W, Below w5.heap.size w5 W → (W.cell? ⟨w.heap.size, 0, none⟩ = some (.int .i64 y) ∧ W.cell? ⟨w.heap.size, 1, none⟩ = some (.int .i64 tm) ∧ W.cell? ⟨w.heap.size, 2, none⟩ = some (.slice ba bn bc) ∧ W.cell? ⟨w.heap.size, 3, none⟩ = some (.slice ga gn gc)) ∧ (W.cell? ⟨kx, 0, none⟩ = some (.int .i64 y) ∧ W.cell? ⟨kx, 1, none⟩ = some (.int .i64 tm) ∧ W.cell? ⟨kx, 2, none⟩ = some (.slice (some ⟨km4, 0, none⟩) bn bn) ∧ W.cell? ⟨kx, 3, none⟩ = some (.slice (some ⟨kg4, 0, none⟩) gn gn))) := fun W h => ⟨(A5.out.later h).cells, (X5.out.later h).cells⟩
  clear hkx
  go_wp2_with fail
  refine wp_region_noPanic ?_
  refine wp_region_held_drew (S := (fun W => (W.cell? ⟨w.heap.size, 0, none⟩ = some (.int .i64 y) ∧ W.cell? ⟨w.heap.size, 1, none⟩ = some (.int .i64 tm) ∧ W.cell? ⟨w.heap.size, 2, none⟩ = some (.slice ba bn bc) ∧ W.cell? ⟨w.heap.size, 3, none⟩ = some (.slice ga gn gc)) ∧ (W.cell? ⟨kx, 0, none⟩ = some (.int .i64 y) ∧ W.cell? ⟨kx, 1, none⟩ = some (.int .i64 tm) ∧ W.cell? ⟨kx, 2, none⟩ = some (.slice (some ⟨km4, 0, none⟩) bn bn) ∧ W.cell? ⟨kx, 3, none⟩ = some (.slice (some ⟨kg4, 0, none⟩) gn gn)))) (by kernel_rfl) (HS.out _ (bdr (bre _))) (fun hHeld => ?_)
  refine wpAnyH_take (i := 0) (oi := { dst := some 23, op := Op.load 30 (Operand.tmp 5), type := 30, pos := "exact.go:2825", after := #[], guard := none }) (v := ?vf1_0) rfl (by kernel_rfl) (by kernel_rfl) (by kernel_rfl) (fun _ _ _ h => h) (Or.inl ⟨by rfl, ?hyf1_0⟩) (by assumption) ?restf1_0
  case hyf1_0 => (intro w hSw; (try dsimp only at hSw); go_simp; try with_reducible rfl)
  try simp only [Act.put, List.setIfInBounds_toArray, List.set_cons_zero, List.set_cons_succ]
  refine wpAnyH_take (i := 1) (oi := { dst := some 24, op := Op.load 25 (Operand.tmp 1), type := 25, pos := "exact.go:2825", after := #[], guard := none }) (v := ?vf2_1) rfl (by kernel_rfl) (by kernel_rfl) (by kernel_rfl) (fun _ _ _ h => h) (Or.inl ⟨by rfl, ?hyf2_1⟩) (by assumption) ?restf2_1
  case hyf2_1 => (intro w hSw; (try dsimp only at hSw); go_simp; try with_reducible rfl)
  try simp only [Act.put, List.setIfInBounds_toArray, List.set_cons_zero, List.set_cons_succ]
  clear hHeld
  refine wpAnyH_ready (rs := [2]) (by kernel_rfl) (by simp) ?_
  refine AllReadyH.cons (o := { dst := some 25, op := Op.call { callee := Callee.value (Operand.func 10), args := #[Operand.tmp 24], argTypes := #[25] }, type := 30, pos := "exact.go:2825", after := #[{ on := 1, ground := Ground.data }], guard := none }) rfl (fun K hK => ?_) AllReadyH.nil
  go_simp
  refine (toStore_any 0 w.heap.size 0 w.heap.size y tm ba bn bc ga gn gc S G _ HL.out S2.out S4.out (HM.out.later (btr B5.out (by repeat (first | exact bre _ | refine bdr ?_ | refine btr ?_ (by assumption) | refine bpush ?_ _)))) HGL.out S3.out (HS'.out.later (btr B5.out (by repeat (first | exact bre _ | refine bdr ?_ | refine btr ?_ (by assumption) | refine bpush ?_ _))))).mono ?_; rintro e w6 ⟨km6, kg6, rfl, how6, hb6⟩
  have R6 := hid how6.reads.2.2.1
  have Q6 := hid how6.reads.2.2.2
  go_wp2_with fail
  refine hK.out _ _ (HS.out _ (by repeat (first | exact bre _ | refine bdr ?_ | refine btr ?_ (by assumption) | refine bpush ?_ _))) (fun hHeld => ?_)
  clear hK K
  try simp only [Act.put, List.setIfInBounds_toArray, List.set_cons_zero, List.set_cons_succ]
  clear hHeld
  refine wpAnyH_ready (rs := [3]) (by kernel_rfl) (by simp) ?_
  refine AllReadyH.cons (o := { dst := some 26, op := Op.call { callee := Callee.value (Operand.func 12), args := #[Operand.tmp 23, Operand.tmp 25], argTypes := #[30, 30] }, type := 4, pos := "exact.go:2825", after := #[{ on := 0, ground := Ground.data }, { on := 2, ground := Ground.data }, { on := 2, ground := Ground.chain }], guard := none }) rfl (fun K hK => ?_) AllReadyH.nil
  go_simp
  refine (eqStore_any _ _ _ _ _ _ _ _ y tm _ bn _ _ gn _ _ _ _ _ S G _ HL.out S2.out S4.out (R5.out.later (by repeat (first | exact bre _ | refine bdr ?_ | refine btr ?_ (by assumption) | refine bpush ?_ _))) R6.out HGL.out S3.out (Q5.out.later (by repeat (first | exact bre _ | refine bdr ?_ | refine btr ?_ (by assumption) | refine bpush ?_ _))) Q6.out).mono ?_; rintro e w7 ⟨rfl, hb7⟩
  go_wp2_with fail
  refine hK.out _ _ (HS.out _ (by repeat (first | exact bre _ | refine bdr ?_ | refine btr ?_ (by assumption) | refine bpush ?_ _))) (fun hHeld => ?_)
  clear hK K
  try simp only [Act.put, List.setIfInBounds_toArray, List.set_cons_zero, List.set_cons_succ]
  refine wpAnyH_take (i := 4) (oi := { dst := some 27, op := Op.unOp UnOp.not 4 (Operand.tmp 26), type := 4, pos := "exact.go:2825", after := #[{ on := 3, ground := Ground.data }], guard := none }) (v := ?vf5_4) rfl (by kernel_rfl) (by kernel_rfl) (by kernel_rfl) (fun _ _ _ h => h) (Or.inl ⟨by rfl, ?hyf5_4⟩) (by assumption) ?restf5_4
  case hyf5_4 => (intro w hSw; (try dsimp only at hSw); go_simp; try with_reducible rfl)
  try simp only [Act.put, List.setIfInBounds_toArray, List.set_cons_zero, List.set_cons_succ]
  refine wpAnyH_done (by kernel_rfl) ?_ _
  refine NoPanic.normal ?_
  clear hHeld
  go_wp2
  go_ret
  exact ⟨rfl, btr B5.out (by repeat (first | exact bre _ | refine bdr ?_ | refine btr ?_ (by assumption) | refine bpush ?_ _))⟩
end Go.Proofs.Ytjobfolipbfhlan
