/- Mi, Itz, Cpz, Srow, Mj, Sto, Crc, Tkk. -/
import Derived.Test.YtocfggfccbnbhaaB7
import Derived.RangeFuncNested
import Derived.RangeFuncBound
import Derived.RangeFuncCalls
import Derived.RangeFuncLeaves
import Derived.RangeFuncBox
import Derived.Shelf.Abstract
import Derived.WalkKit
import Derived.OwnWalkIn
import Derived.TacticsInMore
import Derived.LoopNIn
import Derived.LoopIn
import Derived.Maps.AppendAt
import Derived.Deep.Slices
import Derived.Test.YtocfggfccbnbhaaProg
import Derived.Deep.RegionHeld3
import Derived.WalkSpells
import Derived.WalkLawsBesides
import Derived.Deep.QuietTactic
import Derived.BigQuiet
namespace Go.Proofs.Ytocfggfccbnbhaa
open Go.RowKit Go.ChangeMaps
theorem len_shelf {W : World} {B b c : Nat} {E : List En} (h : OwMp W B b E c) : (Builtin.len_ #[113] 3 #[.map (some b)]).run Try.prog W = .ok (.int .i64 (E.length : Int)) W := by
  simp [Builtin.len_, MapKept.run_getObj_map h.lies, Result.andThen, goInt]
set_option maxHeartbeats 3200000 in
set_option maxRecDepth 100000 in
theorem mailsOk_any (lo hh lo' hh' : Nat) (g : Int) (nm : ByteArray) (t b nx : Int) (ma : Option Addr) (mn mc : Nat) (ga : Option Addr) (gn gc : Nat) (L : List M4) (G : List Int) (w : World) (hl : L.length = mn) (hn : mn ≤ 1048576) (hsm : Sm L) (hm : Ms lo hh w ma L) (hgl : G.length = gn) (hgn : gn ≤ 1048576) (hs : Is lo' hh' w ga G) :
    Calls Try.prog 56 #[.agg #[.int .i64 g, .string nm, .int .i64 t, .int .i64 b, .int .i64 nx, .slice ma mn mc, .slice ga gn gc]] w fun e w' => e = .returned (.bool (decide ((mn : Int) ≤ 10) && bxm nx G L)) ∧ Below w.heap.size w w' := by
  obtain ⟨W0, hW0⟩ : ∃ W0, w.alloc (.cells #[.int .i64 g, .string nm, .int .i64 t, .int .i64 b, .int .i64 nx, .slice ma mn mc, .slice ga gn gc] 34) = W0 := ⟨_, rfl⟩
  have a0 : Bx W0 w.heap.size 34 g nm t b nx (.slice ma mn mc) (.slice ga gn gc) := by subst hW0; exact Bx.new w _ g nm t b nx _ _
  have b0 : Below w.heap.size w W0 := by subst hW0; exact bpush (bre _) _
  have c0 := a0.cells
  have HL := hid hl
  have HSM := hid hsm
  have HN := hid hn
  have HR := hid hm
  have HGL := hid hgl
  have HGN := hid hgn
  have HIS := hid hs
  have A0 := hid a0
  have B0 := hid b0
  clear hl hsm hm hgl hgn hs a0 b0
  by_cases h10 : (mn : Int) ≤ 10
  case neg =>
    have HE : Hid ((decide ((mn : Int) ≤ 10) && bxm nx G L) = false) := by show _ = _; simp [h10]
    have h11 : (10 : Int) < (mn : Int) := by omega
    go_enter Try.func56, Try.ntmps56
    go_wp2
    go_ret
    exact ⟨by rw [HE.out]; rfl, B0.out⟩
  have HX : Hid ((decide ((mn : Int) ≤ 10) && bxm nx G L) = bxm nx G L) := by show _ = _; simp [h10]
  have h11 : ¬ (10 : Int) < (mn : Int) := by omega
  go_enter Try.func56, Try.ntmps56
  go_wp2
  clear hW0 h10 h11
  go_loopw [3, 13] (fun lv iv wr => ∃ (i : Nat) (q : Int), i ≤ mn ∧ lv = .int .i64 q ∧ iv = .int .i64 (i : Int) ∧ Hid (q = us L i) ∧ Hid (∀ j, j < i → j < L.length → stp nx G L j = true) ∧ Below W0.heap.size W0 wr) (fun _ iv _ => mn - (intOf iv).toNat)
  case atStart => exact ⟨0, 0, Nat.zero_le _, rfl, rfl, rfl, fun j hj => absurd hj (Nat.not_lt_zero _), bre _⟩
  case round =>
    obtain ⟨i, q, hin, rfl, rfl, HQ, HA, hb⟩ := hrel
    have HB5 := hid hb
    have a6 := A0.out.later hb
    have c0 := a6.cells
    have HB := hid (btr B0.out hb)
    have A6 := hid a6
    clear a6 hb
    by_cases hlt : i < mn
    · have hil : i < L.length := by rw [HL.out]; exact hlt
      obtain ⟨k, o, fa, fc, rfl, hk, ⟨d0, d1, d2, d3⟩, hrs, _⟩ := (HR.out.later HB.out).at hil
      have hmem := HSM.out L[i] (List.getElem_mem hil)
      have hus := us_succ hil
      obtain ⟨r, hr⟩ : ∃ r, L[i] = r := ⟨_, rfl⟩
      obtain ⟨g1, u1, l1, t1⟩ := r
      have HST := hid (stp_at (nx := nx) (G := G) hil hr)
      rw [hr] at d0 d1 d2 d3 hrs hmem hus
      have HRS := hid hrs
      obtain ⟨m, hm⟩ : ∃ m, l1.length = m := ⟨_, rfl⟩
      dsimp only at d0 d1 d2 d3 hus
      rw [hm] at d2
      have HM := hid hm
      have HML : Hid (m ≤ 1048576) := by show _ ≤ _; rw [← hm]; exact hmem.1
      obtain ⟨p, hp⟩ : ∃ p, mlOk g1 u1 l1 t1 = p := ⟨_, rfl⟩
      obtain ⟨si, hsi⟩ : ∃ si, inl g1 G = si := ⟨_, rfl⟩
      have HP := hid hp
      have HSI := hid hsi
      have HUS := hid hus
      have hI : (0 : Int) ≤ (i : Int) ∧ (i : Int) < (mn : Int) := by omega
      rw [HP.out, HSI.out, ← HQ.out] at HST
      clear hr hrs hmem hm hp hsi hk hus
      go_wp2_with fail
      obtain ⟨W1, hW1⟩ : ∃ W1, wr.alloc (.cells #[.int .i64 g1, .int .i64 u1, .slice fa m fc, .string t1] 49) = W1 := ⟨_, rfl⟩
      have a1 : Mg W1 wr.heap.size 49 g1 u1 (.slice fa m fc) t1 := by subst hW1; exact Mg.new _ _ _ _ _ _
      have A1 := hid a1
      have B1 : Hid (Below wr.heap.size wr W1) := by subst hW1; exact bpush (bre _) _
      rw [hW1]
      clear hW1 d0 d1 d2 d3 c0 a1
      refine (implMailOk_any g1 u1 fa m fc l1 t1 _ HM.out HML.out (HRS.out.later B1.out)).mono ?_; rintro e w2 ⟨rfl, hb2⟩
      rw [HP.out]
      have c0 := (A6.out.later (btr B1.out hb2)).cells
      have c1 := (A1.out.later hb2).cells
      have B2 := hid (btr B1.out hb2)
      clear hb2
      cases p
      · have HE : Hid ((decide ((mn : Int) ≤ 10) && bxm nx G L) = false) := by show _ = _; rw [HX.out, bxm_bad hil (by rw [HST.out]; rfl)]
        go_wp2
        go_ret
        exact ⟨by rw [HE.out]; rfl, btr HB.out B2.out⟩
      by_cases hq : q < u1
      case neg =>
        have HE : Hid ((decide ((mn : Int) ≤ 10) && bxm nx G L) = false) := by show _ = _; rw [HX.out, bxm_bad hil (by rw [HST.out]; simp [hq])]
        have hq2 : u1 ≤ q := by omega
        go_wp2
        go_ret
        exact ⟨by rw [HE.out]; rfl, btr HB.out B2.out⟩
      have hq2 : ¬ u1 ≤ q := by omega
      by_cases hx : u1 < nx
      case neg =>
        have HE : Hid ((decide ((mn : Int) ≤ 10) && bxm nx G L) = false) := by show _ = _; rw [HX.out, bxm_bad hil (by rw [HST.out]; simp [hx])]
        have hx2 : nx ≤ u1 := by omega
        go_wp2
        go_ret
        exact ⟨by rw [HE.out]; rfl, btr HB.out B2.out⟩
      have hx2 : ¬ nx ≤ u1 := by omega
      go_wp2_with fail
      refine (contains_any lo' hh' ga gn gc G g1 _ HGL.out HGN.out (HIS.out.later (btr HB.out B2.out))).mono ?_; rintro e w3 ⟨rfl, h3⟩
      subst h3
      rw [HSI.out]
      cases si
      · have HE : Hid (∀ j, j < i + 1 → j < L.length → stp nx G L j = true) := by
          intro j hj h
          by_cases hji : j < i
          · exact HA.out j hji h
          · obtain rfl : j = i := by omega
            rw [HST.out]; simp [hq, hx]
        go_wp2
        go_roundw
        case rel => exact ⟨i + 1, u1, by omega, rfl, by go_num, HUS.out.symm, HE, btr HB5.out B2.out⟩
        case measure => simp [intOf]; omega
      · have HE : Hid ((decide ((mn : Int) ≤ 10) && bxm nx G L) = false) := by show _ = _; rw [HX.out, bxm_bad hil (by rw [HST.out]; simp)]
        go_wp2
        go_ret
        exact ⟨by rw [HE.out]; rfl, btr HB.out B2.out⟩
    · obtain ⟨z, hz⟩ : ∃ z : Nat, (shl L).length = z := ⟨_, rfl⟩
      have HE : Hid ((decide ((mn : Int) ≤ 10) && bxm nx G L) = ((z : Int) == (mn : Int))) := by
        show _ = _
        have e := HL.out
        rw [HX.out, bxm, alr_all (fun j hj => HA.out j (by omega) hj), ← shl_len, hz, e, Bool.true_and]
        rfl
      have HZ := hid hz
      have HZL := hid (shl_le L)
      clear hz
      have HS : Hid (∀ W, Below wr.heap.size wr W → W.cell? ⟨w.heap.size, 0, none⟩ = some (.int .i64 g) ∧ W.cell? ⟨w.heap.size, 1, none⟩ = some (.string nm) ∧ W.cell? ⟨w.heap.size, 2, none⟩ = some (.int .i64 t) ∧ W.cell? ⟨w.heap.size, 3, none⟩ = some (.int .i64 b) ∧ W.cell? ⟨w.heap.size, 4, none⟩ = some (.int .i64 nx) ∧ W.cell? ⟨w.heap.size, 5, none⟩ = some (.slice ma mn mc) ∧ W.cell? ⟨w.heap.size, 6, none⟩ = some (.slice ga gn gc)) := fun W h => (A6.out.later h).cells
      go_wp2_with fail
      refine wp_region_noPanic ?_
      refine wp_region_held_drew (S := (fun W => W.cell? ⟨w.heap.size, 0, none⟩ = some (.int .i64 g) ∧ W.cell? ⟨w.heap.size, 1, none⟩ = some (.string nm) ∧ W.cell? ⟨w.heap.size, 2, none⟩ = some (.int .i64 t) ∧ W.cell? ⟨w.heap.size, 3, none⟩ = some (.int .i64 b) ∧ W.cell? ⟨w.heap.size, 4, none⟩ = some (.int .i64 nx) ∧ W.cell? ⟨w.heap.size, 5, none⟩ = some (.slice ma mn mc) ∧ W.cell? ⟨w.heap.size, 6, none⟩ = some (.slice ga gn gc))) (by kernel_rfl) (HS.out _ (bdr (bre _))) (fun hHeld => ?_)
      refine wpAnyH_take (i := 0) (oi := { dst := some 43, op := Op.fieldAddr 34 (Operand.tmp 1) 4, type := 0, pos := "l06_box.go:116", after := #[], guard := none }) (v := ?vb1_0) rfl (by kernel_rfl) (by kernel_rfl) (by kernel_rfl) (fun _ _ _ h => h) (Or.inl ⟨by rfl, ?hyb1_0⟩) (by assumption) ?restb1_0
      case hyb1_0 => (intro w hSw; (try dsimp only at hSw); go_simp; try with_reducible rfl)
      try simp only [Act.put, List.setIfInBounds_toArray, List.set_cons_zero, List.set_cons_succ]
      refine wpAnyH_take (i := 1) (oi := { dst := some 44, op := Op.load 32 (Operand.tmp 43), type := 32, pos := "l06_box.go:116", after := #[{ on := 0, ground := Ground.data }], guard := none }) (v := ?vb2_1) rfl (by kernel_rfl) (by kernel_rfl) (by kernel_rfl) (fun _ _ _ h => h) (Or.inl ⟨by rfl, ?hyb2_1⟩) (by assumption) ?restb2_1
      case hyb2_1 => (intro w hSw; (try dsimp only at hSw); go_simp; try with_reducible rfl)
      try simp only [Act.put, List.setIfInBounds_toArray, List.set_cons_zero, List.set_cons_succ]
      refine wpAnyH_take (i := 4) (oi := { dst := some 47, op := Op.fieldAddr 34 (Operand.tmp 1) 4, type := 0, pos := "l06_box.go:116", after := #[], guard := none }) (v := ?vb3_4) rfl (by kernel_rfl) (by kernel_rfl) (by kernel_rfl) (fun _ _ _ h => h) (Or.inl ⟨by rfl, ?hyb3_4⟩) (by assumption) ?restb3_4
      case hyb3_4 => (intro w hSw; (try dsimp only at hSw); go_simp; try with_reducible rfl)
      try simp only [Act.put, List.setIfInBounds_toArray, List.set_cons_zero, List.set_cons_succ]
      refine wpAnyH_take (i := 5) (oi := { dst := some 48, op := Op.load 32 (Operand.tmp 47), type := 32, pos := "l06_box.go:116", after := #[{ on := 4, ground := Ground.data }], guard := none }) (v := ?vb4_5) rfl (by kernel_rfl) (by kernel_rfl) (by kernel_rfl) (fun _ _ _ h => h) (Or.inl ⟨by rfl, ?hyb4_5⟩) (by assumption) ?restb4_5
      case hyb4_5 => (intro w hSw; (try dsimp only at hSw); go_simp; try with_reducible rfl)
      try simp only [Act.put, List.setIfInBounds_toArray, List.set_cons_zero, List.set_cons_succ]
      refine wpAnyH_take (i := 6) (oi := { dst := some 49, op := Op.call { callee := Callee.builtin Builtin.len, args := #[Operand.tmp 48], argTypes := #[32] }, type := 3, pos := "l06_box.go:116", after := #[{ on := 5, ground := Ground.data }], guard := none }) (v := ?vb5_6) rfl (by kernel_rfl) (by kernel_rfl) (by kernel_rfl) (fun _ _ _ h => h) (Or.inl ⟨by rfl, ?hyb5_6⟩) (by assumption) ?restb5_6
      case hyb5_6 => (intro w hSw; (try dsimp only at hSw); go_simp; try with_reducible rfl)
      try simp only [Act.put, List.setIfInBounds_toArray, List.set_cons_zero, List.set_cons_succ]
      clear hHeld
      refine wpAnyH_ready (rs := [2]) (by kernel_rfl) (by simp) ?_
      refine AllReadyH.cons (o := { dst := some 45, op := Op.call { callee := Callee.value (Operand.func 78), args := #[Operand.tmp 44], argTypes := #[32] }, type := 113, pos := "l06_box.go:116", after := #[{ on := 1, ground := Ground.data }], guard := none }) rfl (fun K hK => ?_) AllReadyH.nil
      go_simp
      refine (shelfOf_any lo hh ma mn mc L _ HL.out HN.out HSM.out (HR.out.later (btr HB.out (bdr (bre _))))).mono ?_; rintro e w2 ⟨rfl, ⟨E, cl, hE, hmp⟩, hb2⟩
      have hEz : E.length = z := by rw [← HZ.out, ← hE, List.length_map]
      have hlen : (Builtin.len_ #[113] 3 #[.map (some wr.heap.size)]).run Try.prog w2 = .ok (.int .i64 (z : Int)) w2 := by
        have h := len_shelf hmp
        rw [hEz] at h
        exact h
      have B2 := hid (show Below wr.heap.size wr w2 from btr (bdr (bre _)) hb2)
      clear hE hEz hmp hb2
      go_wp2_with fail
      refine hK.out _ _ (HS.out _ B2.out) (fun hHeld => ?_)
      clear hK K
      try simp only [Act.put, List.setIfInBounds_toArray, List.set_cons_zero, List.set_cons_succ]
      clear hHeld
      refine wpAnyH_ready (rs := [3]) (by kernel_rfl) (by simp) ?_
      refine AllReadyH.cons (o := { dst := some 46, op := Op.call { callee := Callee.builtin Builtin.len, args := #[Operand.tmp 45], argTypes := #[113] }, type := 3, pos := "l06_box.go:116", after := #[{ on := 2, ground := Ground.data }, { on := 2, ground := Ground.chain }], guard := none }) rfl (fun K hK => ?_) AllReadyH.nil
      go_simp
      go_wp2_with fail
      refine hK.out _ _ (HS.out _ B2.out) (fun hHeld => ?_)
      clear hK K
      try simp only [Act.put, List.setIfInBounds_toArray, List.set_cons_zero, List.set_cons_succ]
      refine wpAnyH_take (i := 7) (oi := { dst := some 50, op := Op.binOp BinOp.eql 3 (Operand.tmp 46) (Operand.tmp 49) 3, type := 4, pos := "l06_box.go:116", after := #[{ on := 3, ground := Ground.data }, { on := 6, ground := Ground.data }], guard := none }) (v := ?vb8_7) rfl (by kernel_rfl) (by kernel_rfl) (by kernel_rfl) (fun _ _ _ h => h) (Or.inl ⟨by rfl, ?hyb8_7⟩) (by assumption) ?restb8_7
      case hyb8_7 => (intro w hSw; (try dsimp only at hSw); go_simp; try with_reducible rfl)
      try simp only [Act.put, List.setIfInBounds_toArray, List.set_cons_zero, List.set_cons_succ]
      refine wpAnyH_take (i := 8) (oi := { dst := some 2, op := Op.assign (Operand.tmp 50), type := 4, pos := "l06_box.go:116", after := #[{ on := 7, ground := Ground.data }, { on := 3, ground := Ground.chain }, { on := 0, ground := Ground.phase }, { on := 1, ground := Ground.phase }, { on := 2, ground := Ground.phase }, { on := 3, ground := Ground.phase }, { on := 4, ground := Ground.phase }, { on := 5, ground := Ground.phase }, { on := 6, ground := Ground.phase }, { on := 7, ground := Ground.phase }], guard := none }) (v := ?vb9_8) rfl (by kernel_rfl) (by kernel_rfl) (by kernel_rfl) (fun _ _ _ h => h) (Or.inl ⟨by rfl, ?hyb9_8⟩) (by assumption) ?restb9_8
      case hyb9_8 => (intro w hSw; (try dsimp only at hSw); go_simp; try with_reducible rfl)
      try simp only [Act.put, List.setIfInBounds_toArray, List.set_cons_zero, List.set_cons_succ]
      refine wpAnyH_done (by kernel_rfl) ?_ _
      refine NoPanic.normal ?_
      go_wp2
      go_ret
      exact ⟨by rw [HE.out]; rfl, btr HB.out B2.out⟩
end Go.Proofs.Ytocfggfccbnbhaa
namespace Go.Proofs.Ytocfggfccbnbhaa
open Go.RowKit Go.ChangeMaps
set_option maxHeartbeats 3200000 in
set_option maxRecDepth 100000 in
theorem implBoxOk_any (lo hh lo' hh' : Nat) (g : Int) (nm : ByteArray) (t b nx : Int) (ma : Option Addr) (mn mc : Nat) (ga : Option Addr) (gn gc : Nat) (L : List M4) (G : List Int) (w : World) (hnm : nm.size ≤ 1048576) (hl : L.length = mn) (hn : mn ≤ 1048576) (hsm : Sm L) (hm : Ms lo hh w ma L) (hgl : G.length = gn) (hgn : gn ≤ 1048576) (hs : Is lo' hh' w ga G) :
    Calls Try.prog 22 #[.agg #[.int .i64 g, .string nm, .int .i64 t, .int .i64 b, .int .i64 nx, .slice ma mn mc, .slice ga gn gc]] w fun e w' => e = .returned (.bool (bxOk g nm t b nx L G)) ∧ Below w.heap.size w w' := by
  obtain ⟨p1, hp1, cp1⟩ := gid_l g
  obtain ⟨p2, hp2, _, cp2⟩ := name_l nm hnm
  obtain ⟨p3, hp3, _, cp3⟩ := st_l t b
  obtain ⟨p6, hp6⟩ : ∃ p6, gnOk G = p6 := ⟨_, rfl⟩
  obtain ⟨p7, hp7⟩ : ∃ p7, (decide ((mn : Int) ≤ 10) && bxm nx G L) = p7 := ⟨_, rfl⟩
  have HX : Hid (bxOk g nm t b nx L G = (p1 && (p2 && (p3 && ((decide (1 ≤ nx) && decide (nx ≤ 10000)) && (p6 && p7)))))) := by
    show _ = _
    rw [hp1.out, hp2.out, hp3.out, ← hp6, ← hp7, ← hl]
    unfold bxOk
    generalize gok g = x1
    generalize nmOk nm = x2
    generalize stOk t b = x3
    generalize gnOk G = x4
    generalize bxm nx G L = x5
    generalize decide ((L.length : Int) ≤ 10) = x6
    cases x4 <;> cases x6 <;> simp
  obtain ⟨W0, hW0⟩ : ∃ W0, w.alloc (.cells #[.int .i64 g, .string nm, .int .i64 t, .int .i64 b, .int .i64 nx, .slice ma mn mc, .slice ga gn gc] 34) = W0 := ⟨_, rfl⟩
  have a0 : Bx W0 w.heap.size 34 g nm t b nx (.slice ma mn mc) (.slice ga gn gc) := by subst hW0; exact Bx.new w _ g nm t b nx _ _
  have b0 : Below w.heap.size w W0 := by subst hW0; exact bpush (bre _) _
  have c0 := a0.cells
  have HP6 := hid hp6
  have HP7 := hid hp7
  have HL := hid hl
  have HN := hid hn
  have HSM := hid hsm
  have HR := hid hm
  have HGL := hid hgl
  have HGN := hid hgn
  have HIS := hid hs
  have A0 := hid a0
  have B0 := hid b0
  clear hp1 hp2 hp3 hp6 hp7 hl hsm hm hgl hgn hs a0 b0 hnm
  go_enter Try.func22, Try.ntmps22
  go_wp2_with fail
  clear hW0
  refine (cp1.out _).mono ?_; rintro e w1 ⟨rfl, h1⟩
  subst h1
  cases p1
  · have HE : Hid (bxOk g nm t b nx L G = false) := by show _ = _; rw [HX.out]; rfl
    go_wp2
    go_ret
    exact ⟨by rw [HE.out]; rfl, B0.out⟩
  go_wp2_with fail
  refine (cp2.out _).mono ?_; rintro e w2 ⟨rfl, hb2⟩
  have a2 := A0.out.later hb2
  have A2 := hid a2
  have B2 := hid (btr B0.out hb2)
  have c0 := a2.cells
  clear a2 hb2 A0 B0
  cases p2
  · have HE : Hid (bxOk g nm t b nx L G = false) := by show _ = _; rw [HX.out]; rfl
    go_wp2
    go_ret
    exact ⟨by rw [HE.out]; rfl, B2.out⟩
  go_wp2_with fail
  refine (cp3.out _).mono ?_; rintro e w3 ⟨rfl, hb3⟩
  have a3 := A2.out.later hb3
  have A3 := hid a3
  have B3 := hid (btr B2.out hb3)
  have c0 := a3.cells
  clear a3 hb3 A2 B2
  cases p3
  · have HE : Hid (bxOk g nm t b nx L G = false) := by show _ = _; rw [HX.out]; rfl
    go_wp2
    go_ret
    exact ⟨by rw [HE.out]; rfl, B3.out⟩
  by_cases h1 : 1 ≤ nx
  case neg =>
    have HE : Hid (bxOk g nm t b nx L G = false) := by show _ = _; rw [HX.out]; simp [h1]
    go_wp2
    go_ret
    exact ⟨by rw [HE.out]; rfl, B3.out⟩
  by_cases h2 : nx ≤ 10000
  case neg =>
    have HE : Hid (bxOk g nm t b nx L G = false) := by show _ = _; rw [HX.out]; simp [h2]
    go_wp2
    go_ret
    exact ⟨by rw [HE.out]; rfl, B3.out⟩
  have HX2 : Hid (bxOk g nm t b nx L G = (p6 && p7)) := by show _ = _; rw [HX.out]; simp [h1, h2]
  go_wp2_with fail
  refine (goneOk_any lo' hh' ga gn gc G _ HGL.out HGN.out (HIS.out.later B3.out)).mono ?_; rintro e w5 ⟨rfl, h5⟩
  subst h5
  rw [HP6.out]
  cases p6
  · have HE : Hid (bxOk g nm t b nx L G = false) := by show _ = _; rw [HX2.out]; rfl
    go_wp2
    go_ret
    exact ⟨by rw [HE.out]; rfl, B3.out⟩
  go_wp2_with fail
  refine (mailsOk_any lo hh lo' hh' g nm t b nx ma mn mc ga gn gc L G _ HL.out HN.out HSM.out (HR.out.later B3.out) HGL.out HGN.out (HIS.out.later B3.out)).mono ?_; rintro e w6 ⟨rfl, hb6⟩
  rw [HP7.out]
  have B6 := hid (btr B3.out hb6)
  have HE : Hid (bxOk g nm t b nx L G = p7) := by show _ = _; rw [HX2.out]; rfl
  clear hb6 c0 HX HX2
  go_wp2
  go_ret
  exact ⟨by rw [HE.out]; rfl, B6.out⟩
end Go.Proofs.Ytocfggfccbnbhaa

namespace Go.Proofs.Ytocfggfccbnbhaa
open Go.RowKit Go.Shelf Go.ChangeMaps
attribute [local go_sem] Oper.semAt_some
end Go.Proofs.Ytocfggfccbnbhaa
namespace Go.Proofs.Ytocfggfccbnbhaa
open Go.RowKit Go.Shelf Go.ChangeMaps
attribute [local go_sem] Oper.semAt_some
theorem zc_one {Z : List Z5} (h : ∀ z ∈ Z, ∃ a k c, z.2.2.1 = .slice a k c) : ∀ u ∈ zc Z, u.oneCell' = true := by
  induction Z with
  | nil => intro u hu; cases hu
  | cons z Z ih =>
    intro u hu
    simp only [zc, List.mem_cons] at hu
    rcases hu with rfl | rfl | rfl | rfl | hu
    · rfl
    · rfl
    · obtain ⟨a, k, c, hz⟩ := h z (by simp)
      rw [hz]; rfl
    · rfl
    · exact ih (fun y hy => h y (by simp [hy])) u hu
theorem cells_new4 (w : World) (z : Z5) (e : Nat) : ∀ j u, (zc [z])[j]? = some u → (w.alloc (.cells #[.int .i64 z.1, .int .i64 z.2.1, z.2.2.1, .string z.2.2.2.2] e)).cell? ((⟨w.heap.size, 0, none⟩ : Addr).add j) = some u := by
  intro j u hu
  have h := heap_alloc_new w (.cells #[.int .i64 z.1, .int .i64 z.2.1, z.2.2.1, .string z.2.2.2.2] e)
  rw [addr_add, Nat.zero_add, cell_of_row _ _ _ _ _ _ h]
  simpa [zc] using hu
end Go.Proofs.Ytocfggfccbnbhaa
namespace Go.Proofs.Ytocfggfccbnbhaa
open Go.RowKit Go.ChangeMaps
end Go.Proofs.Ytocfggfccbnbhaa
namespace Go.Proofs.Ytocfggfccbnbhaa
open Go.RowKit Go.ChangeMaps
end Go.Proofs.Ytocfggfccbnbhaa
namespace Go.Proofs.Ytocfggfccbnbhaa
open Go.RowKit Go.ChangeMaps
end Go.Proofs.Ytocfggfccbnbhaa
namespace Go.Proofs.Ytocfggfccbnbhaa
open Go.RowKit Go.ChangeMaps
/-- What comes of an owned row when a mail is appended: the mail lies in a block of its own, laid just ahead. -/
theorem OwZ.snoc {w w' : World} {B : Nat} {v v' : Value} {Z : List Z5} (hown : OwZ w B v Z) (z : Z5) (ho : Ow w B z.2.2.1 z.2.2.2.1) (hv : Dj v z.2.2.1) (hd : ∀ y ∈ Z, Dj y.2.2.1 z.2.2.1) (o : Obj)
    (hrow : w'.ownsRow B 49 4 v' (Z.length + 1) (zc Z ++ zc [z])) (hg : (w.alloc o).grownBy w' v.ownBlock) (hloc : v'.ownBlock = v.ownBlock ∨ v'.ownBlock = some (w.alloc o).heap.size) : OwZ w' B v' (Z ++ [z]) := by
  have hkeep : ∀ {x : Value} {l : List R3}, Ow w B x l → Dj v x → Ow w' B x l := fun hx hdx => by
    have h1 := hx.alloc o
    refine World.ownsRow.kept h1 hg ?_
    cases hxb : Value.ownBlock _ with
    | none => exact Or.inl rfl
    | some j => exact Or.inr (fun e => hdx j e.symm hxb)
  have hoff : ∀ {x : Value} {l : List R3}, Ow w B x l → Dj v x → Dj v' x := fun hx hdx j hj hj' => by
    rcases hloc with h | h
    · exact hdx j (by rw [← h]; exact hj) hj'
    · rw [h] at hj
      have := (hx.lt j hj').2
      simp at hj
      omega
  refine ⟨?_, fun y hy => ?_, fun y hy => ?_, ?_⟩
  · rw [zc_app]; simpa using hrow
  · rcases List.mem_append.1 hy with hy | hy
    · exact hkeep (hown.each y hy) (hown.off y hy)
    · simp at hy; subst hy; exact hkeep ho hv
  · rcases List.mem_append.1 hy with hy | hy
    · exact hoff (hown.each y hy) (hown.off y hy)
    · simp at hy; subst hy; exact hoff ho hv
  · rw [List.pairwise_append]
    refine ⟨hown.apart, by simp, ?_⟩
    intro x hx y hy
    simp at hy
    subst hy
    exact hd x hx
theorem z_one {z : Z5} {W : World} {B : Nat} (ho : Ow W B z.2.2.1 z.2.2.2.1) : ∀ u ∈ zc [z], u.oneCell' = true :=
  zc_one (fun y hy => by simp at hy; subst hy; obtain ⟨a, c, h, _⟩ := Ow.shape ho; exact ⟨a, _, c, h⟩)
/-- The same where the order is given. -/
theorem wpList_append_ml {ops : Array Oper} {rest : List Oper} {o : Oper} {a : Act} {w : World} {Q : Exit → Act → World → Prop} (hgd : o.guard = none) (s x : Operand)
    (hop : o.op = .call { callee := .builtin .append, args := #[s, x], argTypes := #[32, 32] })
    (B : Nat) (v : Value) (Z : List Z5) (hs : a.eval s = v) (z : Z5) (hown : OwZ w B v Z) (ho : Ow w B z.2.2.1 z.2.2.2.1) (hv : Dj v z.2.2.1) (hd : ∀ y ∈ Z, Dj y.2.2.1 z.2.2.1)
    (hx : a.eval x = .slice (some ⟨w.heap.size, 0, none⟩) 1 1) (hlen : Z.length ≤ 1048576) (hB : B ≤ w.heap.size)
    (hK : ∀ v' w', OwZ w' B v' (Z ++ [z]) → Below B w w' → (w.alloc (.cells #[.int .i64 z.1, .int .i64 z.2.1, z.2.2.1, .string z.2.2.2.2] 49)).grownBy w' v.ownBlock → (∀ j, v'.ownBlock = some j → v.ownBlock = some j ∨ w.heap.size ≤ j) → wpList Try.prog ops Q rest (a.put o.dst v') w') :
    wpList Try.prog ops Q (o :: rest) a (w.alloc (.cells #[.int .i64 z.1, .int .i64 z.2.1, z.2.2.1, .string z.2.2.2.2] 49)) := by
  obtain ⟨i0, hi, hz0, hz1, hz2⟩ := info_parts3 info_ml
  refine wpList_append_own_at _ hgd s x 32 hop B 49 i0 _ 4 56 Try.underlying32 hi hz0 hz1 hz2 rfl (by decide) v _ _ hs (hown.row.alloc _) ⟨w.heap.size, 0, none⟩ 1 1 (zc [z]) hx rfl (cells_new4 w z 49) (z_one ho) (by unfold maxLen; omega) (by omega) (by simp; omega) ?_
  intro v' w' h2 h3 h4 h5
  exact hK v' w' (hown.snoc z ho hv hd _ h2 h3 h5) (((Below.refl B w).alloc hB _).grown h3 (by simp; omega) (fun k hk => (hown.row.lt k hk).1)) h3 (fun j hj => by
    rcases h5 with h5 | h5
    · exact .inl (by rw [← h5]; exact hj)
    · rw [h5] at hj; simp at hj; exact .inr (by omega))
/-! Numbers copied. -/
theorem Is.all {lo hi : Nat} {W : World} {ad : Addr} {G : List Int} (h : Is lo hi W (some ad) G) : ∀ j u, (G.map (Value.int .i64))[j]? = some u → W.cell? (ad.add j) = some u := by
  intro j u hu
  have hj : j < G.length := by have := (List.getElem?_eq_some_iff.1 hu).1; simpa using this
  obtain ⟨k, o, h1, _, _, hc⟩ := h.2 j hj
  simp only [Option.some.injEq] at h1
  subst h1
  rw [addr_add, hc]
  rw [List.getElem?_map, List.getElem?_eq_getElem hj] at hu
  simpa using hu
theorem ownI_empty (W : World) (B : Nat) (hB : B ≤ W.heap.size) : OwI (W.alloc (.cells #[] 3)) B (.slice (some ⟨W.heap.size, 0, none⟩) 0 0) [] :=
  World.ownsRow_lit (base := B) (e := 3) (size := 1) W #[] 0 hB (by unfold maxLen; omega) rfl
theorem info_int : (Try.prog.info? 3).map (fun i => (i.zero, i.size, i.bytes)) = some (some (.int .i64 0), 1, 8) := by kernel_rfl
end Go.Proofs.Ytocfggfccbnbhaa

namespace Go.Proofs.Ytocfggfccbnbhaa
open Go.RowKit Go.ChangeMaps
end Go.Proofs.Ytocfggfccbnbhaa
namespace Go.Proofs.Ytocfggfccbnbhaa
open Go.RowKit Go.ChangeMaps
/-- A row of mails as it lies, with the values of the flags. -/
theorem Ms.src {lo hh : Nat} {W : World} {ad : Addr} {L : List M4} (h : Ms lo hh W (some ad) L) : ∃ X : List Z5, X.map md = L ∧ (∀ x ∈ X, ∃ a c, x.2.2.1 = .slice a x.2.2.2.1.length c ∧ Rb lo hh W a x.2.2.2.1 ∧ (a = none → c = 0)) ∧ (∀ j u, (zc X)[j]? = some u → W.cell? (ad.add j) = some u) := by
  have hx : ∀ i, i < L.length → ∃ z : Z5, (∀ hi : i < L.length, md z = L[i]) ∧ (∃ a c, z.2.2.1 = .slice a z.2.2.2.1.length c ∧ Rb lo hh W a z.2.2.2.1 ∧ (a = none → c = 0)) ∧ (W.cell? (ad.add (i * 4)) = some (.int .i64 z.1) ∧ W.cell? (ad.add (i * 4 + 1)) = some (.int .i64 z.2.1) ∧ W.cell? (ad.add (i * 4 + 2)) = some z.2.2.1 ∧ W.cell? (ad.add (i * 4 + 3)) = some (.string z.2.2.2.2)) := by
    intro i hi
    obtain ⟨k, o, fa, fc, h1, _, _, h3, h4, h5⟩ := h.2 i hi
    simp only [Option.some.injEq] at h1
    subst h1
    refine ⟨(L[i].1, L[i].2.1, .slice fa L[i].2.2.1.length fc, L[i].2.2.1, L[i].2.2.2), fun _ => rfl, ⟨fa, fc, rfl, h4, h5⟩, ?_⟩
    simp only [addr_add]
    simpa only [Nat.add_assoc] using h3
  obtain ⟨r, hr⟩ := Go.Deep.choose_lt hx
  refine ⟨(List.range L.length).map r, ?_, ?_, ?_⟩
  · apply List.ext_getElem
    · simp
    · intro i h1 h2
      simp only [List.getElem_map, List.getElem_range]
      exact (hr i h2).1 h2
  · intro x hx
    obtain ⟨i, hi, rfl⟩ := List.mem_map.1 hx
    exact (hr i (List.mem_range.1 hi)).2.1
  · intro j u hu
    have hj : j < (zc ((List.range L.length).map r)).length := (List.getElem?_eq_some_iff.1 hu).1
    rw [zc_len] at hj
    have hi : j / 4 < ((List.range L.length).map r).length := by omega
    have hi' : j / 4 < L.length := by simpa using hi
    have e := zc_at _ (j / 4) hi
    simp only [List.getElem_map, List.getElem_range] at e
    obtain ⟨c0, c1, c2, c3⟩ := (hr (j / 4) hi').2.2
    have h4 : j % 4 = 0 ∨ j % 4 = 1 ∨ j % 4 = 2 ∨ j % 4 = 3 := by omega
    rcases h4 with h4 | h4 | h4 | h4
    · have ej : j = j / 4 * 4 := by omega
      rw [← ej] at e c0
      rw [c0, ← e.1, hu]
    · have ej : j = j / 4 * 4 + 1 := by omega
      rw [← ej] at e c1
      rw [c1, ← e.2.1, hu]
    · have ej : j = j / 4 * 4 + 2 := by omega
      rw [← ej] at e c2
      rw [c2, ← e.2.2.1, hu]
    · have ej : j = j / 4 * 4 + 3 := by omega
      rw [← ej] at e c3
      rw [c3, ← e.2.2.2, hu]
end Go.Proofs.Ytocfggfccbnbhaa
namespace Go.Proofs.Ytocfggfccbnbhaa
open Go.RowKit Go.ChangeMaps
theorem mid_set {P : List Z5} {x z : Z5} {C : List Z5} : (P ++ x :: C).set P.length z = P ++ z :: C := by
  rw [List.set_append_right _ _ (Nat.le_refl _)]; simp
theorem dropc {X : List Z5} {i : Nat} (h : i < X.length) : X.drop i = X[i] :: X.drop (i + 1) := List.drop_eq_getElem_cons h
end Go.Proofs.Ytocfggfccbnbhaa
namespace Go.Proofs.Ytocfggfccbnbhaa
open Go.RowKit Go.ChangeMaps
end Go.Proofs.Ytocfggfccbnbhaa

namespace Go.Proofs.Ytocfggfccbnbhaa
open Go.RowKit Go.ChangeMaps
/-- A box as it is meant: Gid, Name, Named, Next, Mails, Gone. -/
abbrev X7 := Int × ByteArray × Int × Int × Int × List M4 × List Int
/-- A box as it lies: its fields, the values of its lists, and the blocks between which they lie. -/
structure Y9 where
  g : Int
  nm : ByteArray
  t : Int
  b : Int
  nx : Int
  mv : Value
  gv : Value
  L : List M4
  G : List Int
  lo : Nat
  hi : Nat
/-- The seven cells of a box. -/
def C7 (W : World) (k o : Nat) (g : Int) (nm : ByteArray) (t b nx : Int) (mv gv : Value) : Prop := W.cell? ⟨k, o, none⟩ = some (.int .i64 g) ∧ W.cell? ⟨k, o + 1, none⟩ = some (.string nm) ∧ W.cell? ⟨k, o + 2, none⟩ = some (.int .i64 t) ∧ W.cell? ⟨k, o + 3, none⟩ = some (.int .i64 b) ∧ W.cell? ⟨k, o + 4, none⟩ = some (.int .i64 nx) ∧ W.cell? ⟨k, o + 5, none⟩ = some mv ∧ W.cell? ⟨k, o + 6, none⟩ = some gv
theorem C7.same {W W' : World} {k o : Nat} {g : Int} {nm : ByteArray} {t b nx : Int} {mv gv : Value} (h : C7 W k o g nm t b nx mv gv) (e : W'.heap[k]? = W.heap[k]?) : C7 W' k o g nm t b nx mv gv :=
  ⟨(cell_same (p := ⟨k, _, none⟩) e).trans h.1, (cell_same (p := ⟨k, _, none⟩) e).trans h.2.1, (cell_same (p := ⟨k, _, none⟩) e).trans h.2.2.1, (cell_same (p := ⟨k, _, none⟩) e).trans h.2.2.2.1, (cell_same (p := ⟨k, _, none⟩) e).trans h.2.2.2.2.1, (cell_same (p := ⟨k, _, none⟩) e).trans h.2.2.2.2.2.1, (cell_same (p := ⟨k, _, none⟩) e).trans h.2.2.2.2.2.2⟩
theorem C7.later {W W' : World} {k o : Nat} {g : Int} {nm : ByteArray} {t b nx : Int} {mv gv : Value} (h : C7 W k o g nm t b nx mv gv) (hk : k < W.heap.size) (hb : Below W.heap.size W W') : C7 W' k o g nm t b nx mv gv := h.same (hb.block k hk)
section
variable {W W' : World} {lo hi : Nat} {mv gv : Value} {L : List M4} {G : List Int}
end
end Go.Proofs.Ytocfggfccbnbhaa

namespace Go.Proofs.Ytocfggfccbnbhaa
open Go.RowKit Go.ChangeMaps
end Go.Proofs.Ytocfggfccbnbhaa
namespace Go.Proofs.Ytocfggfccbnbhaa
open Go.RowKit Go.ChangeMaps
theorem OwB.grown {W W' : World} {B k : Nat} {mv gv : Value} {L : List M4} {G : List Int} (h : OwB W B mv gv L G) (hg : W.grownBy W' (some k)) (hk : k < B) : OwB W' B mv gv L G := by
  obtain ⟨Z, h1, h2, h3, h4⟩ := h
  exact ⟨Z, h1, h2.grown hg hk, OwI.grown h3 hg hk, h4⟩
end Go.Proofs.Ytocfggfccbnbhaa
namespace Go.Proofs.Ytocfggfccbnbhaa
open Go.RowKit Go.ChangeMaps
end Go.Proofs.Ytocfggfccbnbhaa

namespace Go.Proofs.Ytocfggfccbnbhaa
open Go.RowKit Go.ChangeMaps
def y0 (B : Nat) : Y9 := ⟨0, ⟨#[]⟩, 0, 0, 0, .slice none 0 0, .slice none 0 0, [], [], B, B⟩
end Go.Proofs.Ytocfggfccbnbhaa

namespace Go.Proofs.Ytocfggfccbnbhaa
def tabW : List Nat := [0, 1166650509, 2333301018, 3466261911, 3189058079, 4221339282, 889615109, 1888477064, 3558460437, 2442158232, 1594529039, 444807554, 1779230218, 797264519, 3776954128, 2761298845]
def four (x : Nat) : Nat := x / 16 ^^^ tabW.getD (x % 16) 0
def f4 (x : Nat) : List UInt8 := [UInt8.ofNat (x / 16777216), UInt8.ofNat (x / 65536), UInt8.ofNat (x / 256), UInt8.ofNat x]
end Go.Proofs.Ytocfggfccbnbhaa

namespace Go.Proofs.Ytocfggfccbnbhaa
open Go.RowKit Go.ChangeMaps
theorem tp0 (a : Act) (v : Value) : a.put none v = a := rfl
theorem tp1 (a : Act) (t : Tmp) (v : Value) : a.put (some t) v = { a with tmps := a.tmps.setIfInBounds t v } := rfl
theorem tp2 {α : Type} (l : List α) (i : Nat) (x : α) : l.toArray.setIfInBounds i x = (l.set i x).toArray := List.setIfInBounds_toArray ..
theorem tp3 {α : Type} (a : α) (l : List α) (x : α) : (a :: l).set 0 x = x :: l := rfl
theorem tp4 {α : Type} (a : α) (l : List α) (i : Nat) (x : α) : (a :: l).set (i + 1) x = a :: l.set i x := rfl
section
variable {P : Program} {ops : Array Oper} {Q : Exit → Act → World → Prop} {md : Region.Mode} {S : World → Prop} {d : Option Tmp} {o : Op} {t : TypeId} {ps : String} {af : Array Edge} {gd : Option (Nat × Bool)} {v : Value} {fuel : Nat} {listed : Array Bool} {a a2 : Act} {w : World}
theorem tk (i : Nat) (h : wpAnyH P md ops Q S fuel (listed.setIfInBounds i true) a2 w)
    (hi : ops[i]? = some ⟨d, o, t, ps, af, gd⟩ := by (first | (simp only [List.getElem?_toArray, List.getElem?_cons_succ, List.getElem?_cons_zero]; rfl) | rfl)) (hs : Region.noSelect ops = true := by kernel_rfl) (hf : Region.free md ops listed i = true := by kernel_rfl) (hr : (Region.ready md ops listed).contains i = true := by kernel_rfl)
    (hw : Region.wanted ⟨d, o, t, ps, af, gd⟩ (yielded ops a.tmps) = true := by rfl) (hy : ∀ w, S w → (execOp a.eval ⟨d, o, t, ps, af, gd⟩).run P w = .ok (.value v) w := by (intro w hSw; (try dsimp only at hSw); go_simp; try with_reducible rfl)) (hS : S w := by assumption)
    (hQ : ∀ c a w, Q (.panic c) (a.put d v) w → Q (.panic c) a w := by exact fun _ _ _ h => h)
    (hp : a.put d v = a2 := by (first | (simp only [tp0, tp1, tp2, tp3, tp4]; done) | (simp only [tp0, tp1, tp2, tp3, tp4]; rfl) | rfl)) : wpAnyH P md ops Q S (fuel + 1) listed a w :=
  wpAnyH_take hi hs hf hr hQ (Or.inl ⟨hw, hy⟩) hS (by subst hp; exact h)
theorem rc {i : Nat} {rs : List Nat}
    (h : ∀ K' : Act → World → Prop, Shut (∀ a w, S w → (S w → wpAnyH P md ops Q S fuel (listed.setIfInBounds i true) a w) → K' a w) → if Region.wanted ⟨d, o, t, ps, af, gd⟩ (yielded ops a.tmps) = true then Oper.wp P ⟨d, o, t, ps, af, gd⟩ a w K' Q else K' (a.put d undef) w)
    (hs : AllReadyH P md ops Q S fuel listed a w rs) (hi : ops[i]? = some ⟨d, o, t, ps, af, gd⟩ := by (first | (simp only [List.getElem?_toArray, List.getElem?_cons_succ, List.getElem?_cons_zero]; rfl) | rfl)) : AllReadyH P md ops Q S fuel listed a w (i :: rs) := AllReadyH.cons hi h hs
theorem ry (i : Nat)
    (h : ∀ K' : Act → World → Prop, Shut (∀ a w, S w → (S w → wpAnyH P md ops Q S fuel (listed.setIfInBounds i true) a w) → K' a w) → if Region.wanted ⟨d, o, t, ps, af, gd⟩ (yielded ops a.tmps) = true then Oper.wp P ⟨d, o, t, ps, af, gd⟩ a w K' Q else K' (a.put d undef) w)
    (hr : Region.ready md ops listed = [i] := by kernel_rfl) (hi : ops[i]? = some ⟨d, o, t, ps, af, gd⟩ := by (first | (simp only [List.getElem?_toArray, List.getElem?_cons_succ, List.getElem?_cons_zero]; rfl) | rfl)) : wpAnyH P md ops Q S (fuel + 1) listed a w := wpAnyH_ready hr (by simp) (AllReadyH.cons hi h AllReadyH.nil)
theorem rl {i : Nat}
    (h : ∀ K' : Act → World → Prop, Shut (∀ a w, S w → (S w → wpAnyH P md ops Q S fuel (listed.setIfInBounds i true) a w) → K' a w) → if Region.wanted ⟨d, o, t, ps, af, gd⟩ (yielded ops a.tmps) = true then Oper.wp P ⟨d, o, t, ps, af, gd⟩ a w K' Q else K' (a.put d undef) w)
    (hi : ops[i]? = some ⟨d, o, t, ps, af, gd⟩ := by (first | (simp only [List.getElem?_toArray, List.getElem?_cons_succ, List.getElem?_cons_zero]; rfl) | rfl)) : AllReadyH P md ops Q S fuel listed a w [i] := AllReadyH.cons hi h AllReadyH.nil
end
end Go.Proofs.Ytocfggfccbnbhaa

