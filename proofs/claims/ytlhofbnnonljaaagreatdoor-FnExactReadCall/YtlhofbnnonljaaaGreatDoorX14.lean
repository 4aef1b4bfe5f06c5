/- MailMl, MailCat, Ta0, Ta1. -/
import Derived.Test.YtlhofbnnonljaaaGreatDoorX7
import Derived.Test.YtlhofbnnonljaaaGreatDoorX13
namespace Go.Proofs.YtlhofbnnonljaaaGreatDoor
open Go.RowKit
theorem rg3_inv {s : ByteArray} {b x y z c : Int} (h : rg3 s b = some ((x, y, z), c)) : ∃ b1 b2, rd s b = some (x, b1) ∧ rd s b1 = some (y, b2) ∧ rd s b2 = some (z, c) := by
  unfold rg3 at h
  cases h1 : rd s b with
  | none => rw [h1] at h; cases h
  | some p =>
    rw [h1] at h; simp only [Option.bind_some] at h
    cases h2 : rd s p.2 with
    | none => rw [h2] at h; cases h
    | some q =>
      rw [h2] at h; simp only [Option.bind_some] at h
      cases h3 : rd s q.2 with
      | none => rw [h3] at h; cases h
      | some r =>
        rw [h3] at h
        simp only [Option.map_some, Option.some.injEq, Prod.mk.injEq] at h
        obtain ⟨⟨rfl, rfl, rfl⟩, rfl⟩ := h
        exact ⟨p.2, q.2, by simp, h2, h3⟩
theorem rds_reg {s : ByteArray} {a g u b x y z c : Int} {l : List R3} (h : rds s a (g :: u :: flat l).length = some (g :: u :: flat l, b)) (hr : rg3 s b = some ((x, y, z), c)) : rds s a (g :: u :: flat (l ++ [(x, y, z)])).length = some (g :: u :: flat (l ++ [(x, y, z)]), c) := by
  obtain ⟨b1, b2, h1, h2, h3⟩ := rg3_inv hr
  have := rds_some (rds_some (rds_some h h1) h2) h3
  rw [flat_snoc]
  simpa using this
theorem rds_reg_no {s : ByteArray} {a g u b : Int} {l : List R3} (h : rds s a (g :: u :: flat l).length = some (g :: u :: flat l, b)) (hr : rg3 s b = none) (hl : l.length < 3) : rm6 s a = zero6 := by
  have hn : rds s a ((g :: u :: flat l).length + 3) = none := by
    cases h1 : rd s b with
    | none => exact rds_dead (j := 2) (by have := rds_none (n := 0) h h1; simpa using this)
    | some p =>
      have k1 := rds_some h (n := p.1) (c := p.2) h1
      cases h2 : rd s p.2 with
      | none => exact rds_dead (j := 1) (by have := rds_none (n := 0) k1 h2; simpa using this)
      | some q =>
        have k2 := rds_some k1 (n := q.1) (c := q.2) h2
        cases h3 : rd s q.2 with
        | none => have := rds_none (n := 0) k2 h3; simpa using this
        | some r => rw [rg3_some h1 h2 h3] at hr; cases hr
  have hd := rds_dead hn (11 - ((g :: u :: flat l).length + 3))
  have e : (g :: u :: flat l).length + 3 + (11 - ((g :: u :: flat l).length + 3)) = 11 := by
    simp only [List.length_cons, flat_len]; omega
  rw [e] at hd
  exact rm6_dead hd
theorem rds_dead11 {s : ByteArray} {a : Int} {k : Nat} (h : rds s a k = none) (hk : k ≤ 11) : rm6 s a = zero6 := by
  have hd := rds_dead h (11 - k)
  rw [show k + (11 - k) = 11 by omega] at hd
  exact rm6_dead hd
theorem grown_under {w W W' : World} {r : Option Nat} {B : Nat} (h : w.grownBy W r) (hb : Below B W W') (hB : w.heap.size ≤ B) : w.grownBy W' r :=
  ⟨hb.os.trans h.os, hb.tape.trans h.tape, hb.output.trans h.output, Nat.le_trans h.size hb.size, fun k hk hr => (hb.block k (by omega)).trans (h.block k hk hr)⟩
def Mail1 (w : World) (k : Nat) (s : ByteArray) (a : Int) (e : Ending) (w' : World) : Prop :=
  (∃ g u l t c v, rm6 s a = (g, u, l, t, c, true) ∧ e = .returned (.agg #[.int .i64 g, .int .i64 u, v, .string t]) ∧ Dg w' k s c ∧ Ow w' w.heap.size v l ∧ w.grownBy w' (some k)) ∨ (rm6 s a = zero6 ∧ e = .panicked notHere ∧ w.grownBy w' (some k))
set_option maxHeartbeats 1600000 in
set_option maxRecDepth 100000 in
theorem mail_any (k : Nat) (s : ByteArray) (a : Int) (w : World) (hs : s.size ≤ 1048576) (hc : Dg w k s a) :
    Calls Tryz.prog 178 #[.pointer (some ⟨k, 0, none⟩)] w fun e w' => Mail1 w k s a e w' := by
  have HSZ := hid hs
  have LK : Hid (k < w.heap.size) := hc.lt
  have M0 := hid (Mg.new w 103 0 0 (.slice none 0 0) ⟨#[]⟩)
  have C0 := hid (hc.later (bpush (bre w) (.cells #[.int .i64 0, .int .i64 0, .slice none 0 0, .string ⟨#[]⟩] 103)))
  clear hc hs
  go_enter Tryz.func178, Tryz.ntmps178
  go_wp2_with fail
  refine (numr_any k s a _ HSZ.out C0.out).mono ?_; rintro e w1 (⟨g, b1, hr, rfl, hd, hg⟩ | ⟨hr, rfl, hg⟩)
  case inr =>
    have H : Hid (rm6 s a = zero6) := rds_dead11 (k := 1) (by show rds s a (0 + 1) = none; rw [rds, rds]; simp only [Option.bind_some]; rw [hr]; rfl) (by omega)
    have G := hid (grown_push hg)
    clear hr hg
    go_wp2_with fail
    exact ⟨rfl, Or.inr ⟨H.out, rfl, G.out⟩⟩
  have P1 : Hid (rds s a [g].length = some ([g], b1)) := rds_some (nums := []) rfl hr
  have C1 := hid hd
  have l := LK.out
  have M1 := hid (M0.out.grown hg (by simp; omega))
  have G1 := hid (grown_push hg)
  clear hr hd hg l M0 C0
  go_wp2_with fail
  refine (numr_any k s b1 _ HSZ.out C1.out).mono ?_; rintro e w2 (⟨u, b2, hr, rfl, hd, hg⟩ | ⟨hr, rfl, hg⟩)
  case inr =>
    have H : Hid (rm6 s a = zero6) := rds_dead11 (rds_none (n := 0) P1.out hr) (by simp)
    have G := hid (wtr G1.out hg)
    clear hr hg
    go_wp2_with fail
    exact ⟨rfl, Or.inr ⟨H.out, rfl, G.out⟩⟩
  have P2 : Hid (rds s a (g :: u :: flat []).length = some (g :: u :: flat [], b2)) := rds_some P1.out hr
  have l := LK.out
  have N2 := hid (bpush (bre w2) (.cells #[.int .i64 g, .int .i64 u, .slice none 0 0, .string ⟨#[]⟩] 103))
  have C2 := hid (hd.later N2.out)
  have M2 := hid ((M1.out.grown hg (by simp; omega)).later N2.out)
  have X2 := hid (Mg.new w2 103 g u (.slice none 0 0) ⟨#[]⟩)
  have G2 := hid (wtr (wtr G1.out hg) (World.grownBy_alloc w2 (.cells #[.int .i64 g, .int .i64 u, .slice none 0 0, .string ⟨#[]⟩] 103) (some k)))
  have L2 : Hid (w.heap.size < w2.heap.size) := (M1.out.grown hg (by simp; omega)).lt
  clear hr hd hg l M1 C1 G1 P1 N2
  go_wp2
  obtain ⟨W2, hW2⟩ : ∃ W2, w2.alloc (.cells #[.int .i64 g, .int .i64 u, .slice none 0 0, .string ⟨#[]⟩] 103) = W2 := ⟨_, rfl⟩
  rw [hW2] at C2 M2 X2 G2 ⊢
  have O2 : Hid (Ow W2 W2.heap.size (.slice none 0 0) []) := ⟨rfl, .inl ⟨rfl, rfl⟩⟩
  have LX : Hid (w2.heap.size < W2.heap.size) := X2.out.lt
  clear hW2
  go_loopw [13] (fun iv wr => ∃ (i : Nat) (l : List R3) (v : Value) (b : Int), i ≤ 3 ∧ iv = .int .i64 (i : Int) ∧ Hid (l.length = i) ∧ Mg wr w2.heap.size 103 g u v ⟨#[]⟩ ∧ Ow wr W2.heap.size v l ∧ Dg wr k s b ∧ Hid (rds s a (g :: u :: flat l).length = some (g :: u :: flat l, b)) ∧ Mg wr w.heap.size 103 0 0 (.slice none 0 0) ⟨#[]⟩ ∧ w.grownBy wr (some k) ∧ Hid (W2.heap.size ≤ wr.heap.size)) (fun iv _ => 3 - (intOf iv).toNat)
  case atStart => exact ⟨0, [], .slice none 0 0, b2, by omega, rfl, rfl, X2.out, O2.out, C2.out, P2.out, M2.out, G2.out, Nat.le_refl _⟩
  case round =>
    obtain ⟨i, l, v, b, hi, rfl, HL, hm8, ho, hc7, HP, hm4, hgr, HZ⟩ := hrel
    have X8 := hid hm8
    have XO := hid ho
    have X7 := hid hc7
    have X7d : Hid (Dg wr.drew k s b) := hc7
    have X4 := hid hm4
    have XG := hid hgr
    clear hm8 ho hc7 hm4 hgr
    have c8 := X8.out.cells
    have f8 := X8.out.loose
    by_cases hlt : i < 3
    · have HN : Hid (l.length ≤ 1048576) := by show _ ≤ _; rw [HL.out]; omega
      cases hr : rg3 s b with
      | none =>
        have H : Hid (rm6 s a = zero6) := rds_reg_no HP.out hr (by rw [HL.out]; exact hlt)
        have HR := hid hr
        clear hr
        go_wp2_with fail
        refine wp_region_held_drew (S := fun W => (W.cell? ⟨w2.heap.size, 0, none⟩ = some (.int .i64 g) ∧ W.cell? ⟨w2.heap.size, 1, none⟩ = some (.int .i64 u) ∧ W.cell? ⟨w2.heap.size, 2, none⟩ = some v ∧ W.cell? ⟨w2.heap.size, 3, none⟩ = some (.string ⟨#[]⟩))) (by kernel_rfl) c8 (fun hHeld => ?_)
        refine wpAnyH_take (i := 0) (v := ?v0n) rfl (by kernel_rfl) (by kernel_rfl) (by kernel_rfl) (fun _ _ _ h => h) (Or.inl ⟨by rfl, ?hy0n⟩) (by assumption) ?rest0n
        case hy0n => (intro w hSw; (try dsimp only at hSw); go_simp; try with_reducible rfl)
        try simp only [Act.put]
        refine wpAnyH_take (i := 1) (v := ?v1n) rfl (by kernel_rfl) (by kernel_rfl) (by kernel_rfl) (fun _ _ _ h => h) (Or.inl ⟨by rfl, ?hy1n⟩) (by assumption) ?rest1n
        case hy1n => (intro w hSw; (try dsimp only at hSw); go_simp; try with_reducible rfl)
        try simp only [Act.put]
        refine wpAnyH_take (i := 2) (v := ?v2n) rfl (by kernel_rfl) (by kernel_rfl) (by kernel_rfl) (fun _ _ _ h => h) (Or.inl ⟨by rfl, ?hy2n⟩) (by assumption) ?rest2n
        case hy2n => (intro w hSw; (try dsimp only at hSw); go_simp; try with_reducible rfl)
        try simp only [Act.put]
        refine wpAnyH_ready (rs := [3]) (by kernel_rfl) (by simp) ?_
        refine AllReadyH.cons rfl (fun K hK => ?_) AllReadyH.nil
        go_simp
        refine (regr_no k s b _ HSZ.out X7d.out HR.out).mono ?_; rintro e w3 ⟨rfl, hg⟩
        exact ⟨rfl, Or.inr ⟨H.out, rfl, wtr XG.out (wtr (grown_below (bdr (bre wr)) _) hg)⟩⟩
      | some pc =>
        obtain ⟨⟨x, y, z⟩, c⟩ := pc
        have HR := hid hr
        clear hr
        go_wp2_with fail
        refine wp_region_held_drew (S := fun _ => True) (by kernel_rfl) trivial (fun hHeld => ?_)
        refine wpAnyH_take (i := 0) (v := ?v0k) rfl (by kernel_rfl) (by kernel_rfl) (by kernel_rfl) (fun _ _ _ h => h) (Or.inl ⟨by rfl, ?hy0k⟩) (trivial) ?rest0k
        case hy0k => (intro w hSw; (try dsimp only at hSw); go_simp; try with_reducible rfl)
        try simp only [Act.put]
        refine wpAnyH_take (i := 2) (v := ?v2k) rfl (by kernel_rfl) (by kernel_rfl) (by kernel_rfl) (fun _ _ _ h => h) (Or.inl ⟨by rfl, ?hy2k⟩) (trivial) ?rest2k
        case hy2k => (intro w hSw; (try dsimp only at hSw); go_simp; try with_reducible rfl)
        try simp only [Act.put]
        refine wpAnyH_ready (rs := [1, 3]) (by kernel_rfl) (by simp) ?_
        refine AllReadyH.cons rfl (fun K hK => ?_) (AllReadyH.cons rfl (fun K hK => ?_) AllReadyH.nil)
        · go_simp
          refine hK.out _ _ trivial (fun hHeld => ?_)
          clear hK K hHeld
          try simp only [Act.put]
          refine wpAnyH_ready (rs := [3]) (by kernel_rfl) (by simp) ?_
          refine AllReadyH.cons rfl (fun K hK => ?_) AllReadyH.nil
          go_simp
          refine (regr_ok k s b x y z c _ HSZ.out X7d.out HR.out).mono ?_; rintro e w3 ⟨rfl, hd, hg⟩
          have l1 := LK.out
          have l2 := L2.out
          have l3 := LX.out
          have HO3 : Hid (Ow w3 W2.heap.size v l) := own_kept (W := wr.drew) XO.out hg (fun j hj => by have := (XO.out.lt j hj).1; simp; omega)
          have X83 : Hid (Mg w3 w2.heap.size 103 g u v ⟨#[]⟩) := Mg.grown (W := wr.drew) X8.out hg (by simp; omega)
          have X43 : Hid (Mg w3 w.heap.size 103 0 0 (.slice none 0 0) ⟨#[]⟩) := Mg.grown (W := wr.drew) X4.out hg (by simp; omega)
          have HBS : Hid (W2.heap.size ≤ w3.heap.size) := Nat.le_trans HZ.out hg.size
          have XG3 := hid (wtr XG.out (wtr (grown_below (bdr (bre wr)) _) hg))
          have HD := hid hd
          have c9 := X83.out.cells
          have d9 := (X83.out.later (bpush (bre w3) (.cells #[.int .i64 x, .int .i64 y, .int .i64 z] 140))).cells
          clear l1 l2 l3 hd hg
          go_wp2_with fail
          refine hK.out _ _ trivial (fun hHeld => ?_)
          clear hK K hHeld
          try simp only [Act.put]
          refine wpAnyH_ready (rs := [4]) (by kernel_rfl) (by simp) ?_
          refine AllReadyH.cons rfl (fun K hK => ?_) AllReadyH.nil
          go_simp
          refine hK.out _ _ trivial (fun hHeld => ?_)
          clear hK K hHeld
          try simp only [Act.put]
          refine wpAnyH_ready (rs := [5]) (by kernel_rfl) (by simp) ?_
          refine AllReadyH.cons rfl (fun K hK => ?_) AllReadyH.nil
          refine step_append_rg rfl (.tmp 16) (.tmp 19) rfl W2.heap.size v l (by rfl) x y z HO3.out (by rfl) HN.out HBS.out ?_
          intro v6 w6 hown6 hb6
          obtain ⟨a6, k6, hv6, _⟩ := Ow.shape hown6
          subst hv6
          have X86 : Hid (Mg w6 w2.heap.size 103 g u v ⟨#[]⟩) := X83.out.below hb6 LX.out
          have c7 := X86.out.cells
          have f7 := X86.out.loose
          have HO6 := hid hown6
          have HB6 := hid hb6
          clear hown6 hb6
          refine hK.out _ _ trivial (fun hHeld => ?_)
          clear hK K hHeld
          try simp only [Act.put]
          refine wpAnyH_take (i := 6) (v := ?v6a) rfl (by kernel_rfl) (by kernel_rfl) (by kernel_rfl) (fun _ _ _ h => h) (Or.inl ⟨by rfl, ?hy6a⟩) (trivial) ?rest6a
          case hy6a => (intro w hSw; (try dsimp only at hSw); go_simp; try with_reducible rfl)
          try simp only [Act.put]
          refine wpAnyH_ready (rs := [7]) (by kernel_rfl) (by simp) ?_
          refine AllReadyH.cons rfl (fun K hK => ?_) AllReadyH.nil
          go_simp
          refine hK.out _ _ trivial (fun hHeld => ?_)
          clear hK K hHeld
          try simp only [Act.put]
          refine wpAnyH_done (by kernel_rfl) ?_ _
          go_wp2
          have l1 := LK.out
          have l2 := L2.out
          have l3 := LX.out
          have e6 : (l ++ [(x, y, z)]).length = l.length + 1 := by simp
          have HO7 : Hid (Ow w6 W2.heap.size (.slice a6 (l.length + 1) k6) (l ++ [(x, y, z)])) := by have h := HO6.out; rw [e6] at h; exact h
          go_roundw
          case rel => exact ⟨i + 1, l ++ [(x, y, z)], .slice a6 (l.length + 1) k6, c, by omega, by go_num, (by show _ = _; rw [List.length_append, HL.out]; rfl), X86.out.s2 _, own_far HO7.out l3 2 _, (HD.out.below HB6.out (by omega)).far _ (by omega), rds_reg HP.out HR.out, (X43.out.below HB6.out (by omega)).far _ (by omega), wst_new (grown_under XG3.out HB6.out (by omega)) (by omega) 2 _, (by show _ ≤ _; have := HBS.out; have := HB6.out.size; simp [World.setCell]; omega)⟩
          case measure => simp [intOf]; omega
        · go_simp
          refine (regr_ok k s b x y z c _ HSZ.out X7d.out HR.out).mono ?_; rintro e w3 ⟨rfl, hd, hg⟩
          have l1 := LK.out
          have l2 := L2.out
          have l3 := LX.out
          have HO3 : Hid (Ow w3 W2.heap.size v l) := own_kept (W := wr.drew) XO.out hg (fun j hj => by have := (XO.out.lt j hj).1; simp; omega)
          have X83 : Hid (Mg w3 w2.heap.size 103 g u v ⟨#[]⟩) := Mg.grown (W := wr.drew) X8.out hg (by simp; omega)
          have X43 : Hid (Mg w3 w.heap.size 103 0 0 (.slice none 0 0) ⟨#[]⟩) := Mg.grown (W := wr.drew) X4.out hg (by simp; omega)
          have HBS : Hid (W2.heap.size ≤ w3.heap.size) := Nat.le_trans HZ.out hg.size
          have XG3 := hid (wtr XG.out (wtr (grown_below (bdr (bre wr)) _) hg))
          have HD := hid hd
          have c9 := X83.out.cells
          have d9 := (X83.out.later (bpush (bre w3) (.cells #[.int .i64 x, .int .i64 y, .int .i64 z] 140))).cells
          clear l1 l2 l3 hd hg
          go_wp2_with fail
          refine hK.out _ _ trivial (fun hHeld => ?_)
          clear hK K hHeld
          try simp only [Act.put]
          refine wpAnyH_ready (rs := [1, 4]) (by kernel_rfl) (by simp) ?_
          refine AllReadyH.cons rfl (fun K hK => ?_) (AllReadyH.cons rfl (fun K hK => ?_) AllReadyH.nil)
          · go_simp
            refine hK.out _ _ trivial (fun hHeld => ?_)
            clear hK K hHeld
            try simp only [Act.put]
            refine wpAnyH_ready (rs := [4]) (by kernel_rfl) (by simp) ?_
            refine AllReadyH.cons rfl (fun K hK => ?_) AllReadyH.nil
            go_simp
            refine hK.out _ _ trivial (fun hHeld => ?_)
            clear hK K hHeld
            try simp only [Act.put]
            refine wpAnyH_ready (rs := [5]) (by kernel_rfl) (by simp) ?_
            refine AllReadyH.cons rfl (fun K hK => ?_) AllReadyH.nil
            refine step_append_rg rfl (.tmp 16) (.tmp 19) rfl W2.heap.size v l (by rfl) x y z HO3.out (by rfl) HN.out HBS.out ?_
            intro v6 w6 hown6 hb6
            obtain ⟨a6, k6, hv6, _⟩ := Ow.shape hown6
            subst hv6
            have X86 : Hid (Mg w6 w2.heap.size 103 g u v ⟨#[]⟩) := X83.out.below hb6 LX.out
            have c7 := X86.out.cells
            have f7 := X86.out.loose
            have HO6 := hid hown6
            have HB6 := hid hb6
            clear hown6 hb6
            refine hK.out _ _ trivial (fun hHeld => ?_)
            clear hK K hHeld
            try simp only [Act.put]
            refine wpAnyH_take (i := 6) (v := ?v6b) rfl (by kernel_rfl) (by kernel_rfl) (by kernel_rfl) (fun _ _ _ h => h) (Or.inl ⟨by rfl, ?hy6b⟩) (trivial) ?rest6b
            case hy6b => (intro w hSw; (try dsimp only at hSw); go_simp; try with_reducible rfl)
            try simp only [Act.put]
            refine wpAnyH_ready (rs := [7]) (by kernel_rfl) (by simp) ?_
            refine AllReadyH.cons rfl (fun K hK => ?_) AllReadyH.nil
            go_simp
            refine hK.out _ _ trivial (fun hHeld => ?_)
            clear hK K hHeld
            try simp only [Act.put]
            refine wpAnyH_done (by kernel_rfl) ?_ _
            go_wp2
            have l1 := LK.out
            have l2 := L2.out
            have l3 := LX.out
            have e6 : (l ++ [(x, y, z)]).length = l.length + 1 := by simp
            have HO7 : Hid (Ow w6 W2.heap.size (.slice a6 (l.length + 1) k6) (l ++ [(x, y, z)])) := by have h := HO6.out; rw [e6] at h; exact h
            go_roundw
            case rel => exact ⟨i + 1, l ++ [(x, y, z)], .slice a6 (l.length + 1) k6, c, by omega, by go_num, (by show _ = _; rw [List.length_append, HL.out]; rfl), X86.out.s2 _, own_far HO7.out l3 2 _, (HD.out.below HB6.out (by omega)).far _ (by omega), rds_reg HP.out HR.out, (X43.out.below HB6.out (by omega)).far _ (by omega), wst_new (grown_under XG3.out HB6.out (by omega)) (by omega) 2 _, (by show _ ≤ _; have := HBS.out; have := HB6.out.size; simp [World.setCell]; omega)⟩
            case measure => simp [intOf]; omega
          · go_simp
            refine hK.out _ _ trivial (fun hHeld => ?_)
            clear hK K hHeld
            try simp only [Act.put]
            refine wpAnyH_ready (rs := [1]) (by kernel_rfl) (by simp) ?_
            refine AllReadyH.cons rfl (fun K hK => ?_) AllReadyH.nil
            go_simp
            refine hK.out _ _ trivial (fun hHeld => ?_)
            clear hK K hHeld
            try simp only [Act.put]
            refine wpAnyH_ready (rs := [5]) (by kernel_rfl) (by simp) ?_
            refine AllReadyH.cons rfl (fun K hK => ?_) AllReadyH.nil
            refine step_append_rg rfl (.tmp 16) (.tmp 19) rfl W2.heap.size v l (by rfl) x y z HO3.out (by rfl) HN.out HBS.out ?_
            intro v6 w6 hown6 hb6
            obtain ⟨a6, k6, hv6, _⟩ := Ow.shape hown6
            subst hv6
            have X86 : Hid (Mg w6 w2.heap.size 103 g u v ⟨#[]⟩) := X83.out.below hb6 LX.out
            have c7 := X86.out.cells
            have f7 := X86.out.loose
            have HO6 := hid hown6
            have HB6 := hid hb6
            clear hown6 hb6
            refine hK.out _ _ trivial (fun hHeld => ?_)
            clear hK K hHeld
            try simp only [Act.put]
            refine wpAnyH_take (i := 6) (v := ?v6c) rfl (by kernel_rfl) (by kernel_rfl) (by kernel_rfl) (fun _ _ _ h => h) (Or.inl ⟨by rfl, ?hy6c⟩) (trivial) ?rest6c
            case hy6c => (intro w hSw; (try dsimp only at hSw); go_simp; try with_reducible rfl)
            try simp only [Act.put]
            refine wpAnyH_ready (rs := [7]) (by kernel_rfl) (by simp) ?_
            refine AllReadyH.cons rfl (fun K hK => ?_) AllReadyH.nil
            go_simp
            refine hK.out _ _ trivial (fun hHeld => ?_)
            clear hK K hHeld
            try simp only [Act.put]
            refine wpAnyH_done (by kernel_rfl) ?_ _
            go_wp2
            have l1 := LK.out
            have l2 := L2.out
            have l3 := LX.out
            have e6 : (l ++ [(x, y, z)]).length = l.length + 1 := by simp
            have HO7 : Hid (Ow w6 W2.heap.size (.slice a6 (l.length + 1) k6) (l ++ [(x, y, z)])) := by have h := HO6.out; rw [e6] at h; exact h
            go_roundw
            case rel => exact ⟨i + 1, l ++ [(x, y, z)], .slice a6 (l.length + 1) k6, c, by omega, by go_num, (by show _ = _; rw [List.length_append, HL.out]; rfl), X86.out.s2 _, own_far HO7.out l3 2 _, (HD.out.below HB6.out (by omega)).far _ (by omega), rds_reg HP.out HR.out, (X43.out.below HB6.out (by omega)).far _ (by omega), wst_new (grown_under XG3.out HB6.out (by omega)) (by omega) 2 _, (by show _ ≤ _; have := HBS.out; have := HB6.out.size; simp [World.setCell]; omega)⟩
            case measure => simp [intOf]; omega
    · have HL3 : Hid (l.length = 3) := by show _ = _; rw [HL.out]; omega
      have P11 : Hid (rds s a 11 = some (g :: u :: flat l, b)) := by
        have h := HP.out
        rw [show (g :: u :: flat l).length = 11 by simp [flat_len, HL3.out]] at h
        exact h
      obtain ⟨a8, k8, hv8, _⟩ := Ow.shape XO.out
      rw [HL3.out] at hv8
      subst hv8
      clear c8 f8 X7d
      go_wp2_with fail
      refine (short_any k s b _ HSZ.out X7.out).mono ?_; rintro e w3 (⟨t, c, hr, rfl, hd, hg⟩ | ⟨hr, rfl, hg⟩)
      case inr =>
        have H : Hid (rm6 s a = zero6) := rm6_short P11.out hr
        have G := hid (wtr XG.out hg)
        clear hr hg
        go_wp2_with fail
        exact ⟨rfl, Or.inr ⟨H.out, rfl, G.out⟩⟩
      have HS := hid hr
      have l1 := LK.out
      have l2 := L2.out
      have l3 := LX.out
      have G3 := hid (X8.out.grown hg (by simp; omega))
      have G3' := hid (G3.out.s3 t)
      have D3 := hid (hd.far (j := w2.heap.size) (i := 3) (.string t) (by omega))
      have O3 := hid (own_far (own_kept XO.out hg (by intro j hj h; have := (XO.out.lt j hj).1; simp at h; omega)) (j := w2.heap.size) l3 3 (.string t))
      have F3 := hid ((X4.out.grown hg (by simp; omega)).far (j := w2.heap.size) (i := 3) (.string t) (by omega))
      have B3 := hid (wst_new (wtr XG.out hg) (j := w2.heap.size) (by omega) 3 (.string t))
      have c3 := G3.out.cells
      have f3 := G3.out.loose
      clear hr hd hg X8 XO X7 X4 XG l1 l2 l3
      obtain ⟨W3, hW3⟩ : ∃ W3, w3.setCell ⟨w2.heap.size, 3, none⟩ (.string t) = W3 := ⟨_, rfl⟩
      rw [hW3] at G3' D3 O3 F3 B3
      have d8 := G3'.out.cells
      obtain ⟨q, hq, cq⟩ := implMailOk_l g u a8 3 k8 l t HL3.out (by omega)
      go_wp2_with fail
      refine (cq.out _ (Ow.rs O3.out).2).mono ?_; rintro e w5 ⟨rfl, hb5⟩
      have G5 := hid (G3'.out.later hb5)
      have D5 := hid (D3.out.later hb5)
      have O5 := hid (own_later O3.out hb5)
      have F5 := hid (F3.out.later hb5)
      have B5 := hid (wtr B3.out (grown_below hb5 (some k)))
      clear d8 c3 f3 hb5 hW3
      have d8 := G5.out.cells
      have d4 := F5.out.cells
      have f4 := F5.out.loose
      cases q
      · have H : Hid (rm6 s a = zero6) := rm6_wrong P11.out HS.out hq.out.symm
        go_wp2_with fail
        refine (must_no _).mono ?_; rintro e w6 ⟨rfl, h6⟩
        subst h6
        go_wp2_with fail
        exact ⟨rfl, Or.inr ⟨H.out, rfl, B5.out⟩⟩
      · have H := hid (rm6_good P11.out HS.out hq.out.symm)
        go_wp2_with fail
        refine (must_yes _).mono ?_; rintro e w6 ⟨rfl, h6⟩
        subst h6
        go_wp2
        have d := (set4 F5.out g u (.slice a8 3 k8) t).cells
        have l1 := LK.out
        have l2 := L2.out
        have l3 := LX.out
        refine bodyPost_ret (v := .agg #[.int .i64 g, .int .i64 u, .slice a8 3 k8, .string t]) (by simp [results, Tryz.results178, go_sem, d]) rfl (Or.inl ⟨g, u, l, t, c, _, H.out, rfl, ?_, ?_, ?_⟩)
        · exact (((D5.out.far _ (by omega)).far _ (by omega)).far _ (by omega)).far _ (by omega)
        · exact own_base (own4 O5.out (by omega) _ _ _ _) (by omega)
        · exact wst_new (wst_new (wst_new (wst_new B5.out (Nat.le_refl _) 0 _) (Nat.le_refl _) 1 _) (Nat.le_refl _) 2 _) (Nat.le_refl _) 3 _
theorem assert_yes (W : World) : (Instr.typeAssert (.iface 97 (.agg #[])) 20 97 true).run Tryz.prog W = .ok (.tuple #[.agg #[], .bool true]) W := by kernel_rfl
theorem assert_nil (W : World) : (Instr.typeAssert .nilIface 20 97 true).run Tryz.prog W = .ok (.tuple #[.agg #[], .bool false]) W := by kernel_rfl
/-- Block k holds a word. -/
def Bwd (W : World) (k : Nat) (b : Bool) : Prop := W.heap[k]? = some (.cells #[.bool b] 4 (0, 0))
theorem Bwd.new (w : World) (b : Bool) : Bwd (w.alloc (.cells #[.bool b] 4)) w.heap.size b := heap_alloc_new w _
theorem Bwd.lt {W : World} {k : Nat} {b : Bool} (h : Bwd W k b) : k < W.heap.size := (Array.getElem?_eq_some_iff.1 h).1
theorem Bwd.later {W W' : World} {k : Nat} {b : Bool} (h : Bwd W k b) (hb : Below W.heap.size W W') : Bwd W' k b := (hb.block k h.lt).trans h
theorem Bwd.grown {W W' : World} {k : Nat} {b : Bool} {r : Option Nat} (h : Bwd W k b) (hg : W.grownBy W' r) (hk : some k ≠ r) : Bwd W' k b := (hg.block k h.lt hk).trans h
theorem Bwd.cell {W : World} {k : Nat} {b : Bool} (h : Bwd W k b) : W.cell? ⟨k, 0, none⟩ = some (.bool b) := cell_of_row W k 0 _ _ _ h
theorem Bwd.loose {W : World} {k : Nat} {b : Bool} (h : Bwd W k b) : W.frozen? ⟨k, 0, none⟩ = false := frozen_of_row W k 0 _ _ h
theorem Bwd.set {W : World} {k : Nat} {b : Bool} (h : Bwd W k b) (b' : Bool) : Bwd (W.setCell ⟨k, 0, none⟩ (.bool b')) k b' := heap_setCell_same W k 0 _ _ (.bool b') h
set_option maxRecDepth 100000 in
theorem catch_panic (kb : Nat) (b0 : Bool) (older : List PanicEntry) (w : World) (hb : Bwd w kb b0) :
    CallsD Tryz.prog 108 #[.pointer (some ⟨kb, 0, none⟩)] (.panicking ({ v := .iface 97 (.agg #[]), recovered := false } :: older)) w fun e u' w' =>
      e = .returned (.tuple #[]) ∧ u' = .panicking ({ v := .iface 97 (.agg #[]), recovered := true } :: older) ∧ w' = (w.alloc (.cells #[] 97)).setCell ⟨kb, 0, none⟩ (.bool false) := by
  have h1 := hb.later (bpush (bre w) (.cells #[] 97))
  have hc := h1.cell
  have hz := h1.loose
  refine callsD_of_wpS Tryz.func108 rfl fun c₀ cs hu => ?_
  apply wpS_seq
  apply wpS_region
  simp [wpOpsS, go_sem, recoverD, hu, Tryz.ntmps108, Exit.thenS, assert_yes]
  apply wpS_seq
  apply wpS_region
  simp [wpOpsS, go_sem, Exit.thenS]
  refine wpS_cond (t := true) (by simp [Act.eval, Array.replicate]) ?_
  simp only [if_true]
  apply wpS_region
  simp [wpOpsS, go_sem, hc, hz, bodyPostS, results, Tryz.results108]
set_option maxRecDepth 100000 in
theorem catch_idle (kb : Nat) (w : World) :
    CallsD Tryz.prog 108 #[.pointer (some ⟨kb, 0, none⟩)] .returning w fun e u' w' => e = .returned (.tuple #[]) ∧ u' = .returning ∧ w' = w.alloc (.cells #[] 97) := by
  refine callsD_of_wpS Tryz.func108 rfl fun c₀ cs hu => ?_
  apply wpS_seq
  apply wpS_region
  simp [wpOpsS, go_sem, recoverD, hu, Tryz.ntmps108, Exit.thenS, assert_nil]
  apply wpS_seq
  apply wpS_region
  simp [wpOpsS, go_sem, Exit.thenS]
  refine wpS_cond (t := false) (by simp [Act.eval, Array.replicate]) ?_
  simp only [Bool.false_eq_true, if_false]
  refine wpS_of_wp (wp_skip ?_)
  cases c₀
  simp_all [bodyPostS, results, Tryz.results108]
end Go.Proofs.YtlhofbnnonljaaaGreatDoor
namespace Go.Proofs.YtlhofbnnonljaaaGreatDoor
open Go.RowKit Go.ChangeMaps
def mts : List M4 → ByteArray
  | [] => ⟨#[]⟩
  | m :: L => mtx m.1 m.2.1 m.2.2.1 m.2.2.2 ++ mts L
theorem mts_snoc (L : List M4) (m : M4) : mts (L ++ [m]) = mts L ++ mtx m.1 m.2.1 m.2.2.1 m.2.2.2 := by
  induction L with
  | nil => simp only [List.nil_append, mts, ba_nil, nil_ba]
  | cons a L ih => simp only [List.cons_append, mts, ih, ByteArray.append_assoc]
/-- A box's bytes ahead of its mails. -/
def bth (g : Int) (nm : ByteArray) (t b nx : Int) (n : Nat) : ByteArray := vi g ++ vi nm.size ++ nm ++ vi t ++ vi b ++ vi nx ++ vi n
def btx (g : Int) (nm : ByteArray) (t b nx : Int) (L : List M4) (G : List Int) : ByteArray := bth g nm t b nx L.length ++ mts L ++ vi G.length ++ vis G
theorem asc_gk {G : List Int} {a : Int} (h : asc a G = true) : ∀ y ∈ G, 1 ≤ y ∧ y ≤ 9999 := by
  induction G generalizing a with
  | nil => intro y hy; cases hy
  | cons x G ih =>
    simp only [asc, Bool.and_eq_true, decide_eq_true_eq, gok] at h
    intro y hy
    rcases List.mem_cons.1 hy with rfl | hy
    · exact h.1.2
    · exact ih h.2 y hy
/-- What a right box's numbers are. -/
theorem bx_txt {g : Int} {nm : ByteArray} {t b nx : Int} {L : List M4} {G : List Int} (h : bxOk g nm t b nx L G = true) :
    (1 ≤ g ∧ g ≤ 9999) ∧ nm.size ≤ 12 ∧ (0 ≤ t ∧ t ≤ 100000 ∧ 0 ≤ b ∧ b ≤ 2) ∧ (1 ≤ nx ∧ nx ≤ 10000) ∧ L.length ≤ 10 ∧ (∀ m ∈ L, mlOk m.1 m.2.1 m.2.2.1 m.2.2.2 = true) ∧ G.length ≤ 40 ∧ ∀ y ∈ G, 1 ≤ y ∧ y ≤ 9999 := by
  simp only [bxOk, bxm, gok, nmOk, stOk, gnOk, Bool.and_eq_true, decide_eq_true_eq] at h
  obtain ⟨h1, h2, h3, h4, h5, h6, h7, -⟩ := h
  refine ⟨h1, by omega, h3, h4, by omega, fun m hm => ?_, by omega, asc_gk h6.1⟩
  obtain ⟨i, hi, rfl⟩ := List.getElem_of_mem hm
  have h9 := List.all_eq_true.1 h7 i (List.mem_range.2 hi)
  unfold stp at h9
  rw [List.getElem?_eq_getElem hi] at h9
  simp only [Bool.and_eq_true] at h9
  exact h9.1
/-- A mail's bytes are not many. -/
theorem mtx_size {g u : Int} {l : List R3} {t : ByteArray} (h : mlOk g u l t = true) : (mtx g u l t).size ≤ 20000000000 := by
  simp only [mlOk, gok, flOk, Bool.and_eq_true, decide_eq_true_eq] at h
  obtain ⟨h1, h2, ⟨h3, h4⟩, h5⟩ := h
  have hr : ∀ p ∈ l, (rt p).size ≤ 3000000003 := by
    intro p hp
    have h6 := List.all_eq_true.1 h4 p hp
    simp only [okp, rgOk, stOk, Bool.and_eq_true, decide_eq_true_eq] at h6
    have a1 := vi_size p.1 (by omega)
    have a2 := vi_size p.2.1 (by omega)
    have a3 := vi_size p.2.2 (by omega)
    unfold rt
    rw [ByteArray.size_append, ByteArray.size_append]
    omega
  have hs : ∀ k : List R3, (∀ p ∈ k, (rt p).size ≤ 3000000003) → (rts k).size ≤ k.length * 3000000003 := by
    intro k
    induction k with
    | nil => intro _; exact Nat.zero_le _
    | cons p k ih =>
      intro hk
      have h7 := hk p (List.mem_cons_self ..)
      have h8 := ih (fun q hq => hk q (List.mem_cons_of_mem _ hq))
      simp only [rts, ByteArray.size_append, List.length_cons]
      omega
  have h9 := hs l hr
  have a1 := vi_size g (by omega)
  have a2 := vi_size u (by omega)
  have a3 := vi_size t.size (by omega)
  unfold mtx
  simp only [ByteArray.size_append]
  have : l.length = 3 := by simpa using h3
  rw [this] at h9
  omega
def btR (g : Int) (nm : ByteArray) (t b nx : Int) (L : List M4) (G : List Int) : Value := if bxOk g nm t b nx L G = true then .tuple #[.string (btx g nm t b nx L G), .bool true] else .tuple #[.string ⟨#[]⟩, .bool false]
set_option maxHeartbeats 8000000 in
set_option maxRecDepth 100000 in
theorem specBoxText_any (l1 h1 l2 h2 : Nat) (g : Int) (nm : ByteArray) (t b nx : Int) (ma : Option Addr) (mn mc : Nat) (ga : Option Addr) (gn gc : Nat) (L : List M4) (G : List Int) (w : World) (hnm : nm.size ≤ 1048576) (hl : L.length = mn) (hn : mn ≤ 1048576) (hsm : Sm L) (hm : Ms l1 h1 w ma L) (hgl : G.length = gn) (hgn : gn ≤ 1048576) (hs : Is l2 h2 w ga G) :
    Calls Tryz.prog 73 #[.agg #[.int .i64 g, .string nm, .int .i64 t, .int .i64 b, .int .i64 nx, .slice ma mn mc, .slice ga gn gc]] w fun e w' => e = .returned (btR g nm t b nx L G) ∧ Below w.heap.size w w' := by
  obtain ⟨W0, hW0⟩ : ∃ W0, w.alloc (.cells #[.int .i64 g, .string nm, .int .i64 t, .int .i64 b, .int .i64 nx, .slice ma mn mc, .slice ga gn gc] 77) = W0 := ⟨_, rfl⟩
  have a0 : Bx W0 w.heap.size 77 g nm t b nx (.slice ma mn mc) (.slice ga gn gc) := by subst hW0; exact Bx.new w _ g nm t b nx _ _
  have b0 : Below w.heap.size w W0 := by subst hW0; exact bpush (bre _) _
  have c0 := a0.cells
  have XB := hid a0
  have HB := hid b0
  have HM := hid hm
  have HS := hid hs
  have HX := hid hsm
  have HL := hid hl
  have HG := hid hgl
  have HOK := hid (specBoxOk_any l1 h1 l2 h2 g nm t b nx ma mn mc ga gn gc L G W0 hnm hl hn hsm (hm.later b0) hgl hgn (hs.later b0))
  clear a0 b0 hm hs hsm hl hgl
  cases hok : bxOk g nm t b nx L G
  · have hE : btR g nm t b nx L G = .tuple #[.string ⟨#[]⟩, .bool false] := by unfold btR; rw [hok]; rfl
    rw [hE]
    rw [hok] at HOK
    clear hE hok
    go_enter Tryz.func73, Tryz.ntmps73
    go_wp2_with fail
    try rw [hW0]
    clear hW0
    refine HOK.out.mono ?_; rintro e w1 ⟨rfl, hb1⟩
    have B1 := hid (btr HB.out hb1)
    clear hb1 c0
    go_wp2
    go_ret2
    exact ⟨rfl, B1.out⟩
  · have hE : btR g nm t b nx L G = .tuple #[.string (btx g nm t b nx L G), .bool true] := by unfold btR; rw [hok]; rfl
    rw [hE]
    rw [hok] at HOK
    obtain ⟨p1, p2, p3, p4, p5, p6, p7, p8⟩ := bx_txt hok
    obtain ⟨x1, e1, z1, C1⟩ := var_s g (by omega) (by omega)
    obtain ⟨x2, e2, z2, C2⟩ := var_s nm.size (by omega) (by omega)
    obtain ⟨x3, e3, z3, C3⟩ := var_s t (by omega) (by omega)
    obtain ⟨x4, e4, z4, C4⟩ := var_s b (by omega) (by omega)
    obtain ⟨x5, e5, z5, C5⟩ := var_s nx (by omega) (by omega)
    obtain ⟨x6, e6, z6, C6⟩ := var_s mn (by omega) (by have := HL.out; omega)
    obtain ⟨x7, e7, z7, C7⟩ := var_s gn (by omega) (by have := HG.out; omega)
    have P6 := hid p6
    have P8 := hid p8
    have hmn : mn ≤ 10 := by rw [← HL.out]; exact p5
    have hgn4 : gn ≤ 40 := by rw [← HG.out]; exact p7
    clear hE hok hn hgn p1 p3 p4 p5 p6 p7 p8
    go_enter Tryz.func73, Tryz.ntmps73
    go_wp2_with fail
    try rw [hW0]
    clear hW0
    refine HOK.out.mono ?_; rintro e w1 ⟨rfl, hb1⟩
    replace XB := hid (XB.out.later hb1)
    replace HB := hid (btr HB.out hb1)
    clear hb1 c0
    go_wp2_with fail
    have HSS : Hid (∀ W, Bx W w.heap.size 77 g nm t b nx (.slice ma mn mc) (.slice ga gn gc) → (W.cell? ⟨w.heap.size, 0, none⟩ = some (.int .i64 g) ∧ W.cell? ⟨w.heap.size, 1, none⟩ = some (.string nm) ∧ W.cell? ⟨w.heap.size, 2, none⟩ = some (.int .i64 t) ∧ W.cell? ⟨w.heap.size, 3, none⟩ = some (.int .i64 b) ∧ W.cell? ⟨w.heap.size, 4, none⟩ = some (.int .i64 nx) ∧ W.cell? ⟨w.heap.size, 5, none⟩ = some (.slice ma mn mc) ∧ W.cell? ⟨w.heap.size, 6, none⟩ = some (.slice ga gn gc))) := hid (fun W h => h.cells)
    have q1 : (9223372036854775807 < x1.size + x2.size) = False := eq_false (by omega)
    have q2 : (9223372036854775807 < x1.size + x2.size + nm.size) = False := eq_false (by omega)
    have q3 : (9223372036854775807 < x1.size + x2.size + nm.size + x3.size) = False := eq_false (by omega)
    have q4 : (9223372036854775807 < x1.size + x2.size + nm.size + x3.size + x4.size) = False := eq_false (by omega)
    have q5 : (9223372036854775807 < x1.size + x2.size + nm.size + x3.size + x4.size + x5.size) = False := eq_false (by omega)
    have q6 : (9223372036854775807 < x1.size + x2.size + nm.size + x3.size + x4.size + x5.size + x6.size) = False := eq_false (by omega)
    refine wp_region_noPanic ?_
    refine wp_region_held_drew (S := (fun W => (W.cell? ⟨w.heap.size, 0, none⟩ = some (.int .i64 g) ∧ W.cell? ⟨w.heap.size, 1, none⟩ = some (.string nm) ∧ W.cell? ⟨w.heap.size, 2, none⟩ = some (.int .i64 t) ∧ W.cell? ⟨w.heap.size, 3, none⟩ = some (.int .i64 b) ∧ W.cell? ⟨w.heap.size, 4, none⟩ = some (.int .i64 nx) ∧ W.cell? ⟨w.heap.size, 5, none⟩ = some (.slice ma mn mc) ∧ W.cell? ⟨w.heap.size, 6, none⟩ = some (.slice ga gn gc)))) (by kernel_rfl) (HSS.out _ (XB.out.later (bdr (bre _)))) (fun hHeld => ?_)
    refine tk 0 ?_
    refine tk 1 ?_
    refine tk 3 ?_
    refine tk 4 ?_
    refine tk 5 ?_
    refine tk 8 ?_
    refine tk 9 ?_
    refine tk 11 ?_
    refine tk 12 ?_
    refine tk 13 ?_
    refine tk 16 ?_
    refine tk 17 ?_
    refine tk 18 ?_
    refine tk 21 ?_
    refine tk 22 ?_
    refine tk 25 ?_
    refine tk 26 ?_
    refine tk 27 ?_
    clear hHeld
    refine ry 2 (fun K hK => ?_)
    go_simp
    refine (C1.out _).mono ?_; rintro e w2 ⟨rfl, hbx⟩
    replace hbx := btr (bdr (bre _)) hbx
    replace XB := hid (XB.out.later hbx)
    replace HB := hid (btr HB.out hbx)
    clear hbx
    go_wp2_with fail
    refine hK.out _ _ (HSS.out _ XB.out) (fun hHeld => ?_)
    clear hK K
    try simp only [Act.put, List.setIfInBounds_toArray, List.set_cons_zero, List.set_cons_succ]
    clear hHeld
    refine ry 6 (fun K hK => ?_)
    go_simp
    refine (C2.out _).mono ?_; rintro e w3 ⟨rfl, hbx⟩
    replace XB := hid (XB.out.later hbx)
    replace HB := hid (btr HB.out hbx)
    clear hbx
    go_wp2_with fail
    refine hK.out _ _ (HSS.out _ XB.out) (fun hHeld => ?_)
    clear hK K
    try simp only [Act.put, List.setIfInBounds_toArray, List.set_cons_zero, List.set_cons_succ]
    refine tk 7 ?_
    refine tk 10 ?_
    clear hHeld
    refine ry 14 (fun K hK => ?_)
    go_simp
    refine (C3.out _).mono ?_; rintro e w4 ⟨rfl, hbx⟩
    replace XB := hid (XB.out.later hbx)
    replace HB := hid (btr HB.out hbx)
    clear hbx
    go_wp2_with fail
    refine hK.out _ _ (HSS.out _ XB.out) (fun hHeld => ?_)
    clear hK K
    try simp only [Act.put, List.setIfInBounds_toArray, List.set_cons_zero, List.set_cons_succ]
    refine tk 15 ?_
    clear hHeld
    refine ry 19 (fun K hK => ?_)
    go_simp
    refine (C4.out _).mono ?_; rintro e w5 ⟨rfl, hbx⟩
    replace XB := hid (XB.out.later hbx)
    replace HB := hid (btr HB.out hbx)
    clear hbx
    go_wp2_with fail
    refine hK.out _ _ (HSS.out _ XB.out) (fun hHeld => ?_)
    clear hK K
    try simp only [Act.put, List.setIfInBounds_toArray, List.set_cons_zero, List.set_cons_succ]
    refine tk 20 ?_
    clear hHeld
    refine ry 23 (fun K hK => ?_)
    go_simp
    refine (C5.out _).mono ?_; rintro e w6 ⟨rfl, hbx⟩
    replace XB := hid (XB.out.later hbx)
    replace HB := hid (btr HB.out hbx)
    clear hbx
    go_wp2_with fail
    refine hK.out _ _ (HSS.out _ XB.out) (fun hHeld => ?_)
    clear hK K
    try simp only [Act.put, List.setIfInBounds_toArray, List.set_cons_zero, List.set_cons_succ]
    refine tk 24 ?_
    clear hHeld
    refine ry 28 (fun K hK => ?_)
    go_simp
    refine (C6.out _).mono ?_; rintro e w7 ⟨rfl, hbx⟩
    replace XB := hid (XB.out.later hbx)
    replace HB := hid (btr HB.out hbx)
    clear hbx
    go_wp2_with fail
    refine hK.out _ _ (HSS.out _ XB.out) (fun hHeld => ?_)
    clear hK K
    try simp only [Act.put, List.setIfInBounds_toArray, List.set_cons_zero, List.set_cons_succ]
    refine tk 29 ?_
    refine tk 30 ?_
    refine wpAnyH_done (by kernel_rfl) ?_ _
    refine NoPanic.normal ?_
    clear hHeld q1 q2 q3 q4 q5 q6
    obtain ⟨th, hth⟩ : ∃ s, x1 ++ x2 ++ nm ++ x3 ++ x4 ++ x5 ++ x6 = s := ⟨_, rfl⟩
    have HTH : Hid (th = bth g nm t b nx L.length) := hid (by rw [← hth, e1.out, e2.out, e3.out, e4.out, e5.out, e6.out, HL.out]; rfl)
    have hthz : th.size ≤ 7000000100 := by rw [← hth]; simp only [ByteArray.size_append]; omega
    rw [hth]
    clear hth z1 z2 z3 z4 z5 z6 C1 C2 C3 C4 C5 C6 HOK
    go_wp2
    go_loopw [4, 5] (fun sv iv wr => ∃ (i : Nat) (s : ByteArray), i ≤ mn ∧ iv = .int .i64 (i : Int) ∧ sv = .string s ∧ Hid (s = th ++ mts (L.take i)) ∧ Hid (s.size ≤ 7000000100 + i * 20000000000) ∧ Bx wr w.heap.size 77 g nm t b nx (.slice ma mn mc) (.slice ga gn gc) ∧ Below w.heap.size w wr) (fun _ iv _ => mn - (intOf iv).toNat)
    case atStart => exact ⟨0, th, Nat.zero_le _, rfl, rfl, by show th = th ++ mts []; rw [show mts [] = ⟨#[]⟩ from rfl, nil_ba], by show _ ≤ _; omega, XB.out, HB.out⟩
    case round =>
      obtain ⟨i, s, hi, rfl, rfl, HT, HZ, hx, hb⟩ := hrel
      replace XB := hid hx
      replace HB := hid hb
      have c0 := XB.out.cells
      clear hx hb
      by_cases hlt : i < mn
      · have hil : i < L.length := by rw [HL.out]; exact hlt
        obtain ⟨k, o, fa, fc, hka, hkk, d, hrs, _⟩ := (HM.out.later HB.out).at hil
        have hok := P6.out L[i] (List.getElem_mem hil)
        have hsz := mtx_size hok
        have htk : mts (L.take (i + 1)) = mts (L.take i) ++ mtx L[i].1 L[i].2.1 L[i].2.2.1 L[i].2.2.2 := by rw [List.take_succ_eq_append_getElem hil, mts_snoc]
        have hfl := (HX.out L[i] (List.getElem_mem hil)).1
        obtain ⟨q, hq⟩ : ∃ q, L[i] = q := ⟨_, rfl⟩
        obtain ⟨g2, u, fl, tx⟩ := q
        rw [hq] at d hrs hok hsz htk hfl
        dsimp only at d hrs hok hsz htk hfl
        have CT := specMailText_any g2 u fa fl.length fc fl tx wr rfl hfl hrs
        have hE2 : mtR g2 u fl tx = .tuple #[.string (mtx g2 u fl tx), .bool true] := by unfold mtR; rw [hok]; rfl
        rw [hE2] at CT
        obtain ⟨xm, hxm⟩ : ∃ x, mtx g2 u fl tx = x := ⟨_, rfl⟩
        obtain ⟨lf, hlf⟩ : ∃ n, fl.length = n := ⟨_, rfl⟩
        rw [hxm] at CT hsz htk
        rw [hlf] at CT d
        have HCT := hid CT
        have HTK := hid htk
        subst hka
        have hI : (0 : Int) ≤ (i : Int) ∧ (i : Int) < (mn : Int) := by omega
        have hz := HZ.out
        have q1 : (9223372036854775807 < s.size + xm.size) = False := eq_false (by omega)
        clear hq hok hfl hE2 hxm hlf CT htk hrs
        go_wp2_with fail
        refine HCT.out.mono ?_; rintro e w9 ⟨rfl, hb9⟩
        replace XB := hid (XB.out.later hb9)
        replace HB := hid (btr HB.out hb9)
        clear hb9 d c0 HCT
        go_wp2
        clear q1
        go_roundw
        case rel => exact ⟨i + 1, s ++ xm, by omega, by go_num, rfl, by show _ = _; rw [HTK.out, HT.out, ByteArray.append_assoc], by show _ ≤ _; rw [ByteArray.size_append]; omega, XB.out, HB.out⟩
        case measure => simp [intOf]; omega
      · have HT2 : Hid (s = th ++ mts L) := hid (by have := HT.out; rwa [List.take_of_length_le (by rw [HL.out]; omega)] at this)
        have hz := HZ.out
        have q1 : (9223372036854775807 < s.size + x7.size) = False := eq_false (by omega)
        have q2 : (9223372036854775807 < s.size) = False := eq_false (by omega)
        go_wp2_with fail
        refine (C7.out _).mono ?_; rintro e w9 ⟨rfl, hb9⟩
        replace XB := hid (XB.out.later hb9)
        replace HB := hid (btr HB.out hb9)
        clear hb9 c0 HT HZ
        go_wp2
        clear q1 q2
        obtain ⟨s2, hs2⟩ : ∃ x, s ++ x7 = x := ⟨_, rfl⟩
        have HS2 : Hid (s2 = bth g nm t b nx L.length ++ mts L ++ vi G.length) := hid (by rw [← hs2, HT2.out, HTH.out, e7.out, HG.out])
        have hz2 : s2.size ≤ 300000000000 := by rw [← hs2, ByteArray.size_append]; omega
        rw [hs2]
        clear hs2 hz
        go_loopw [4, 8] (fun sv iv wr => ∃ (i : Nat) (s : ByteArray), i ≤ gn ∧ iv = .int .i64 (i : Int) ∧ sv = .string s ∧ Hid (s = s2 ++ vis (G.take i)) ∧ Hid (s.size ≤ 300000000000 + i * 1000000001) ∧ Bx wr w.heap.size 77 g nm t b nx (.slice ma mn mc) (.slice ga gn gc) ∧ Below w.heap.size w wr) (fun _ iv _ => gn - (intOf iv).toNat)
        case atStart => exact ⟨0, s2, Nat.zero_le _, rfl, rfl, by show s2 = s2 ++ vis []; rw [show vis [] = ⟨#[]⟩ from rfl, nil_ba], by show _ ≤ _; omega, XB.out, HB.out⟩
        case round =>
          obtain ⟨j, s3, hj, rfl, rfl, HT3, HZ3, hx, hb⟩ := hrel
          replace XB := hid hx
          replace HB := hid hb
          have c0 := XB.out.cells
          clear hx hb
          by_cases hlt2 : j < gn
          · have hjl : j < G.length := by rw [HG.out]; exact hlt2
            obtain ⟨k, o, hka, hkk, d⟩ := (HS.out.later HB.out).at hjl
            have hp := P8.out G[j] (List.getElem_mem hjl)
            have htk : vis (G.take (j + 1)) = vis (G.take j) ++ vi G[j] := by rw [List.take_succ_eq_append_getElem hjl, vis_snoc]
            obtain ⟨x, hx⟩ : ∃ x, G[j] = x := ⟨_, rfl⟩
            rw [hx] at d hp htk
            obtain ⟨xv, ev, zv, CV⟩ := var_s x (by omega) (by omega)
            rw [← ev.out] at htk
            have HTK := hid htk
            subst hka
            have hI : (0 : Int) ≤ (j : Int) ∧ (j : Int) < (gn : Int) := by omega
            have hz := HZ3.out
            have q1 : (9223372036854775807 < s3.size + xv.size) = False := eq_false (by omega)
            clear hx hp htk ev
            go_wp2_with fail
            refine (CV.out _).mono ?_; rintro e w10 ⟨rfl, hb10⟩
            replace XB := hid (XB.out.later hb10)
            replace HB := hid (btr HB.out hb10)
            clear hb10 d c0 CV
            go_wp2
            clear q1
            go_roundw
            case rel => exact ⟨j + 1, s3 ++ xv, by omega, by go_num, rfl, by show _ = _; rw [HTK.out, HT3.out, ByteArray.append_assoc], by show _ ≤ _; rw [ByteArray.size_append]; omega, XB.out, HB.out⟩
            case measure => simp [intOf]; omega
          · have HT4 : Hid (s3 = btx g nm t b nx L G) := hid (by have := HT3.out; rw [List.take_of_length_le (by rw [HG.out]; omega), HS2.out] at this; exact this)
            go_wp2
            go_ret2
            exact ⟨by rw [← HT4.out]; rfl, HB.out⟩
end Go.Proofs.YtlhofbnnonljaaaGreatDoor
