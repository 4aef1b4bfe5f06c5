/- MailMl, MailCat, Mkw, Tja. -/
import Derived.Test.YtocfggfccbnbhaaGreatDoorR4
import Derived.Deep.RegionWith
import Derived.Defers
import Derived.Recover
namespace Go.Proofs.YtocfggfccbnbhaaGreatDoor
open Go.RowKit
theorem rg3_inv {s : ByteArray} {b x y z c : Int} (h : rg3 s b = some ((x, y, z), c)) : ∃ b1 b2, rd s b = some (x, b1) ∧ rd s b1 = some (y, b2) ∧ rd s b2 = some (z, c) := by
  unfold rg3 at h
  cases h1 : rd s b with
  | none => rw [h1] at h; cases h
  | some p =>
    rw [h1] at h; simp only [Option.bind_some] at h
    cases h2 : rd s p.2 with
    | none => rw [h2] at h; cases h
    | some q =>
      rw [h2] at h; simp only [Option.bind_some] at h
      cases h3 : rd s q.2 with
      | none => rw [h3] at h; cases h
      | some r =>
        rw [h3] at h
        simp only [Option.map_some, Option.some.injEq, Prod.mk.injEq] at h
        obtain ⟨⟨rfl, rfl, rfl⟩, rfl⟩ := h
        exact ⟨p.2, q.2, by simp, h2, h3⟩
theorem rds_reg {s : ByteArray} {a g u b x y z c : Int} {l : List R3} (h : rds s a (g :: u :: flat l).length = some (g :: u :: flat l, b)) (hr : rg3 s b = some ((x, y, z), c)) : rds s a (g :: u :: flat (l ++ [(x, y, z)])).length = some (g :: u :: flat (l ++ [(x, y, z)]), c) := by
  obtain ⟨b1, b2, h1, h2, h3⟩ := rg3_inv hr
  have := rds_some (rds_some (rds_some h h1) h2) h3
  rw [flat_snoc]
  simpa using this
theorem rds_reg_no {s : ByteArray} {a g u b : Int} {l : List R3} (h : rds s a (g :: u :: flat l).length = some (g :: u :: flat l, b)) (hr : rg3 s b = none) (hl : l.length < 3) : rm6 s a = zero6 := by
  have hn : rds s a ((g :: u :: flat l).length + 3) = none := by
    cases h1 : rd s b with
    | none => exact rds_dead (j := 2) (by have := rds_none (n := 0) h h1; simpa using this)
    | some p =>
      have k1 := rds_some h (n := p.1) (c := p.2) h1
      cases h2 : rd s p.2 with
      | none => exact rds_dead (j := 1) (by have := rds_none (n := 0) k1 h2; simpa using this)
      | some q =>
        have k2 := rds_some k1 (n := q.1) (c := q.2) h2
        cases h3 : rd s q.2 with
        | none => have := rds_none (n := 0) k2 h3; simpa using this
        | some r => rw [rg3_some h1 h2 h3] at hr; cases hr
  have hd := rds_dead hn (11 - ((g :: u :: flat l).length + 3))
  have e : (g :: u :: flat l).length + 3 + (11 - ((g :: u :: flat l).length + 3)) = 11 := by
    simp only [List.length_cons, flat_len]; omega
  rw [e] at hd
  exact rm6_dead hd
theorem rds_dead11 {s : ByteArray} {a : Int} {k : Nat} (h : rds s a k = none) (hk : k ≤ 11) : rm6 s a = zero6 := by
  have hd := rds_dead h (11 - k)
  rw [show k + (11 - k) = 11 by omega] at hd
  exact rm6_dead hd
theorem grown_under {w W W' : World} {r : Option Nat} {B : Nat} (h : w.grownBy W r) (hb : Below B W W') (hB : w.heap.size ≤ B) : w.grownBy W' r :=
  ⟨hb.os.trans h.os, hb.tape.trans h.tape, hb.output.trans h.output, Nat.le_trans h.size hb.size, fun k hk hr => (hb.block k (by omega)).trans (h.block k hk hr)⟩
def Mail1 (w : World) (k : Nat) (s : ByteArray) (a : Int) (e : Ending) (w' : World) : Prop :=
  (∃ g u l t c v, rm6 s a = (g, u, l, t, c, true) ∧ e = .returned (.agg #[.int .i64 g, .int .i64 u, v, .string t]) ∧ Dg w' k s c ∧ Ow w' w.heap.size v l ∧ w.grownBy w' (some k)) ∨ (rm6 s a = zero6 ∧ e = .panicked notHere ∧ w.grownBy w' (some k))
set_option maxHeartbeats 1600000 in
set_option maxRecDepth 100000 in
theorem mail_any (k : Nat) (s : ByteArray) (a : Int) (w : World) (hs : s.size ≤ 1048576) (hc : Dg w k s a) :
    Calls Tryz.prog 115 #[.pointer (some ⟨k, 0, none⟩)] w fun e w' => Mail1 w k s a e w' := by
  have HSZ := hid hs
  have LK : Hid (k < w.heap.size) := hc.lt
  have M0 := hid (Mg.new w 86 0 0 (.slice none 0 0) ⟨#[]⟩)
  have C0 := hid (hc.later (bpush (bre w) (.cells #[.int .i64 0, .int .i64 0, .slice none 0 0, .string ⟨#[]⟩] 86)))
  clear hc hs
  go_enter Tryz.func115, Tryz.ntmps115
  go_wp2_with fail
  refine (numr_any k s a _ HSZ.out C0.out).mono ?_; rintro e w1 (⟨g, b1, hr, rfl, hd, hg⟩ | ⟨hr, rfl, hg⟩)
  case inr =>
    have H : Hid (rm6 s a = zero6) := rds_dead11 (k := 1) (by show rds s a (0 + 1) = none; rw [rds, rds]; simp only [Option.bind_some]; rw [hr]; rfl) (by omega)
    have G := hid (grown_push hg)
    clear hr hg
    go_wp2_with fail
    exact ⟨rfl, Or.inr ⟨H.out, rfl, G.out⟩⟩
  have P1 : Hid (rds s a [g].length = some ([g], b1)) := rds_some (nums := []) rfl hr
  have C1 := hid hd
  have l := LK.out
  have M1 := hid (M0.out.grown hg (by simp; omega))
  have G1 := hid (grown_push hg)
  clear hr hd hg l M0 C0
  go_wp2_with fail
  refine (numr_any k s b1 _ HSZ.out C1.out).mono ?_; rintro e w2 (⟨u, b2, hr, rfl, hd, hg⟩ | ⟨hr, rfl, hg⟩)
  case inr =>
    have H : Hid (rm6 s a = zero6) := rds_dead11 (rds_none (n := 0) P1.out hr) (by simp)
    have G := hid (wtr G1.out hg)
    clear hr hg
    go_wp2_with fail
    exact ⟨rfl, Or.inr ⟨H.out, rfl, G.out⟩⟩
  have P2 : Hid (rds s a (g :: u :: flat []).length = some (g :: u :: flat [], b2)) := rds_some P1.out hr
  have l := LK.out
  have N2 := hid (bpush (bre w2) (.cells #[.int .i64 g, .int .i64 u, .slice none 0 0, .string ⟨#[]⟩] 86))
  have C2 := hid (hd.later N2.out)
  have M2 := hid ((M1.out.grown hg (by simp; omega)).later N2.out)
  have X2 := hid (Mg.new w2 86 g u (.slice none 0 0) ⟨#[]⟩)
  have G2 := hid (wtr (wtr G1.out hg) (World.grownBy_alloc w2 (.cells #[.int .i64 g, .int .i64 u, .slice none 0 0, .string ⟨#[]⟩] 86) (some k)))
  have L2 : Hid (w.heap.size < w2.heap.size) := (M1.out.grown hg (by simp; omega)).lt
  clear hr hd hg l M1 C1 G1 P1 N2
  go_wp2
  obtain ⟨W2, hW2⟩ : ∃ W2, w2.alloc (.cells #[.int .i64 g, .int .i64 u, .slice none 0 0, .string ⟨#[]⟩] 86) = W2 := ⟨_, rfl⟩
  rw [hW2] at C2 M2 X2 G2 ⊢
  have O2 : Hid (Ow W2 W2.heap.size (.slice none 0 0) []) := ⟨rfl, .inl ⟨rfl, rfl⟩⟩
  have LX : Hid (w2.heap.size < W2.heap.size) := X2.out.lt
  clear hW2
  go_loopw [13] (fun iv wr => ∃ (i : Nat) (l : List R3) (v : Value) (b : Int), i ≤ 3 ∧ iv = .int .i64 (i : Int) ∧ Hid (l.length = i) ∧ Mg wr w2.heap.size 86 g u v ⟨#[]⟩ ∧ Ow wr W2.heap.size v l ∧ Dg wr k s b ∧ Hid (rds s a (g :: u :: flat l).length = some (g :: u :: flat l, b)) ∧ Mg wr w.heap.size 86 0 0 (.slice none 0 0) ⟨#[]⟩ ∧ w.grownBy wr (some k) ∧ Hid (W2.heap.size ≤ wr.heap.size)) (fun iv _ => 3 - (intOf iv).toNat)
  case atStart => exact ⟨0, [], .slice none 0 0, b2, by omega, rfl, rfl, X2.out, O2.out, C2.out, P2.out, M2.out, G2.out, Nat.le_refl _⟩
  case round =>
    obtain ⟨i, l, v, b, hi, rfl, HL, hm8, ho, hc7, HP, hm4, hgr, HZ⟩ := hrel
    have X8 := hid hm8
    have XO := hid ho
    have X7 := hid hc7
    have X7d : Hid (Dg wr.drew k s b) := hc7
    have X4 := hid hm4
    have XG := hid hgr
    clear hm8 ho hc7 hm4 hgr
    have c8 := X8.out.cells
    have f8 := X8.out.loose
    by_cases hlt : i < 3
    · have HN : Hid (l.length ≤ 1048576) := by show _ ≤ _; rw [HL.out]; omega
      cases hr : rg3 s b with
      | none =>
        have H : Hid (rm6 s a = zero6) := rds_reg_no HP.out hr (by rw [HL.out]; exact hlt)
        have HR := hid hr
        clear hr
        go_wp2_with fail
        refine wp_region_held_drew (S := fun W => (W.cell? ⟨w2.heap.size, 0, none⟩ = some (.int .i64 g) ∧ W.cell? ⟨w2.heap.size, 1, none⟩ = some (.int .i64 u) ∧ W.cell? ⟨w2.heap.size, 2, none⟩ = some v ∧ W.cell? ⟨w2.heap.size, 3, none⟩ = some (.string ⟨#[]⟩))) (by kernel_rfl) c8 (fun hHeld => ?_)
        refine wpAnyH_take (i := 0) (v := ?v0n) rfl (by kernel_rfl) (by kernel_rfl) (by kernel_rfl) (fun _ _ _ h => h) (Or.inl ⟨by rfl, ?hy0n⟩) (by assumption) ?rest0n
        case hy0n => (intro w hSw; (try dsimp only at hSw); go_simp; try with_reducible rfl)
        try simp only [Act.put]
        refine wpAnyH_take (i := 1) (v := ?v1n) rfl (by kernel_rfl) (by kernel_rfl) (by kernel_rfl) (fun _ _ _ h => h) (Or.inl ⟨by rfl, ?hy1n⟩) (by assumption) ?rest1n
        case hy1n => (intro w hSw; (try dsimp only at hSw); go_simp; try with_reducible rfl)
        try simp only [Act.put]
        refine wpAnyH_take (i := 2) (v := ?v2n) rfl (by kernel_rfl) (by kernel_rfl) (by kernel_rfl) (fun _ _ _ h => h) (Or.inl ⟨by rfl, ?hy2n⟩) (by assumption) ?rest2n
        case hy2n => (intro w hSw; (try dsimp only at hSw); go_simp; try with_reducible rfl)
        try simp only [Act.put]
        refine wpAnyH_ready (rs := [3]) (by kernel_rfl) (by simp) ?_
        refine AllReadyH.cons rfl (fun K hK => ?_) AllReadyH.nil
        go_simp
        refine (regr_no k s b _ HSZ.out X7d.out HR.out).mono ?_; rintro e w3 ⟨rfl, hg⟩
        exact ⟨rfl, Or.inr ⟨H.out, rfl, wtr XG.out (wtr (grown_below (bdr (bre wr)) _) hg)⟩⟩
      | some pc =>
        obtain ⟨⟨x, y, z⟩, c⟩ := pc
        have HR := hid hr
        clear hr
        go_wp2_with fail
        refine wp_region_held_drew (S := fun _ => True) (by kernel_rfl) trivial (fun hHeld => ?_)
        refine wpAnyH_take (i := 0) (v := ?v0k) rfl (by kernel_rfl) (by kernel_rfl) (by kernel_rfl) (fun _ _ _ h => h) (Or.inl ⟨by rfl, ?hy0k⟩) (trivial) ?rest0k
        case hy0k => (intro w hSw; (try dsimp only at hSw); go_simp; try with_reducible rfl)
        try simp only [Act.put]
        refine wpAnyH_take (i := 2) (v := ?v2k) rfl (by kernel_rfl) (by kernel_rfl) (by kernel_rfl) (fun _ _ _ h => h) (Or.inl ⟨by rfl, ?hy2k⟩) (trivial) ?rest2k
        case hy2k => (intro w hSw; (try dsimp only at hSw); go_simp; try with_reducible rfl)
        try simp only [Act.put]
        refine wpAnyH_ready (rs := [1, 3]) (by kernel_rfl) (by simp) ?_
        refine AllReadyH.cons rfl (fun K hK => ?_) (AllReadyH.cons rfl (fun K hK => ?_) AllReadyH.nil)
        · go_simp
          refine hK.out _ _ trivial (fun hHeld => ?_)
          clear hK K hHeld
          try simp only [Act.put]
          refine wpAnyH_ready (rs := [3]) (by kernel_rfl) (by simp) ?_
          refine AllReadyH.cons rfl (fun K hK => ?_) AllReadyH.nil
          go_simp
          refine (regr_ok k s b x y z c _ HSZ.out X7d.out HR.out).mono ?_; rintro e w3 ⟨rfl, hd, hg⟩
          have l1 := LK.out
          have l2 := L2.out
          have l3 := LX.out
          have HO3 : Hid (Ow w3 W2.heap.size v l) := own_kept (W := wr.drew) XO.out hg (fun j hj => by have := (XO.out.lt j hj).1; simp; omega)
          have X83 : Hid (Mg w3 w2.heap.size 86 g u v ⟨#[]⟩) := Mg.grown (W := wr.drew) X8.out hg (by simp; omega)
          have X43 : Hid (Mg w3 w.heap.size 86 0 0 (.slice none 0 0) ⟨#[]⟩) := Mg.grown (W := wr.drew) X4.out hg (by simp; omega)
          have HBS : Hid (W2.heap.size ≤ w3.heap.size) := Nat.le_trans HZ.out hg.size
          have XG3 := hid (wtr XG.out (wtr (grown_below (bdr (bre wr)) _) hg))
          have HD := hid hd
          have c9 := X83.out.cells
          have d9 := (X83.out.later (bpush (bre w3) (.cells #[.int .i64 x, .int .i64 y, .int .i64 z] 138))).cells
          clear l1 l2 l3 hd hg
          go_wp2_with fail
          refine hK.out _ _ trivial (fun hHeld => ?_)
          clear hK K hHeld
          try simp only [Act.put]
          refine wpAnyH_ready (rs := [4]) (by kernel_rfl) (by simp) ?_
          refine AllReadyH.cons rfl (fun K hK => ?_) AllReadyH.nil
          go_simp
          refine hK.out _ _ trivial (fun hHeld => ?_)
          clear hK K hHeld
          try simp only [Act.put]
          refine wpAnyH_ready (rs := [5]) (by kernel_rfl) (by simp) ?_
          refine AllReadyH.cons rfl (fun K hK => ?_) AllReadyH.nil
          refine step_append_rg rfl (.tmp 16) (.tmp 19) rfl W2.heap.size v l (by rfl) x y z HO3.out (by rfl) HN.out HBS.out ?_
          intro v6 w6 hown6 hb6
          obtain ⟨a6, k6, hv6, _⟩ := Ow.shape hown6
          subst hv6
          have X86 : Hid (Mg w6 w2.heap.size 86 g u v ⟨#[]⟩) := X83.out.below hb6 LX.out
          have c7 := X86.out.cells
          have f7 := X86.out.loose
          have HO6 := hid hown6
          have HB6 := hid hb6
          clear hown6 hb6
          refine hK.out _ _ trivial (fun hHeld => ?_)
          clear hK K hHeld
          try simp only [Act.put]
          refine wpAnyH_take (i := 6) (v := ?v6a) rfl (by kernel_rfl) (by kernel_rfl) (by kernel_rfl) (fun _ _ _ h => h) (Or.inl ⟨by rfl, ?hy6a⟩) (trivial) ?rest6a
          case hy6a => (intro w hSw; (try dsimp only at hSw); go_simp; try with_reducible rfl)
          try simp only [Act.put]
          refine wpAnyH_ready (rs := [7]) (by kernel_rfl) (by simp) ?_
          refine AllReadyH.cons rfl (fun K hK => ?_) AllReadyH.nil
          go_simp
          refine hK.out _ _ trivial (fun hHeld => ?_)
          clear hK K hHeld
          try simp only [Act.put]
          refine wpAnyH_done (by kernel_rfl) ?_ _
          go_wp2
          have l1 := LK.out
          have l2 := L2.out
          have l3 := LX.out
          have e6 : (l ++ [(x, y, z)]).length = l.length + 1 := by simp
          have HO7 : Hid (Ow w6 W2.heap.size (.slice a6 (l.length + 1) k6) (l ++ [(x, y, z)])) := by have h := HO6.out; rw [e6] at h; exact h
          go_roundw
          case rel => exact ⟨i + 1, l ++ [(x, y, z)], .slice a6 (l.length + 1) k6, c, by omega, by go_num, (by show _ = _; rw [List.length_append, HL.out]; rfl), X86.out.s2 _, own_far HO7.out l3 2 _, (HD.out.below HB6.out (by omega)).far _ (by omega), rds_reg HP.out HR.out, (X43.out.below HB6.out (by omega)).far _ (by omega), wst_new (grown_under XG3.out HB6.out (by omega)) (by omega) 2 _, (by show _ ≤ _; have := HBS.out; have := HB6.out.size; simp [World.setCell]; omega)⟩
          case measure => simp [intOf]; omega
        · go_simp
          refine (regr_ok k s b x y z c _ HSZ.out X7d.out HR.out).mono ?_; rintro e w3 ⟨rfl, hd, hg⟩
          have l1 := LK.out
          have l2 := L2.out
          have l3 := LX.out
          have HO3 : Hid (Ow w3 W2.heap.size v l) := own_kept (W := wr.drew) XO.out hg (fun j hj => by have := (XO.out.lt j hj).1; simp; omega)
          have X83 : Hid (Mg w3 w2.heap.size 86 g u v ⟨#[]⟩) := Mg.grown (W := wr.drew) X8.out hg (by simp; omega)
          have X43 : Hid (Mg w3 w.heap.size 86 0 0 (.slice none 0 0) ⟨#[]⟩) := Mg.grown (W := wr.drew) X4.out hg (by simp; omega)
          have HBS : Hid (W2.heap.size ≤ w3.heap.size) := Nat.le_trans HZ.out hg.size
          have XG3 := hid (wtr XG.out (wtr (grown_below (bdr (bre wr)) _) hg))
          have HD := hid hd
          have c9 := X83.out.cells
          have d9 := (X83.out.later (bpush (bre w3) (.cells #[.int .i64 x, .int .i64 y, .int .i64 z] 138))).cells
          clear l1 l2 l3 hd hg
          go_wp2_with fail
          refine hK.out _ _ trivial (fun hHeld => ?_)
          clear hK K hHeld
          try simp only [Act.put]
          refine wpAnyH_ready (rs := [1, 4]) (by kernel_rfl) (by simp) ?_
          refine AllReadyH.cons rfl (fun K hK => ?_) (AllReadyH.cons rfl (fun K hK => ?_) AllReadyH.nil)
          · go_simp
            refine hK.out _ _ trivial (fun hHeld => ?_)
            clear hK K hHeld
            try simp only [Act.put]
            refine wpAnyH_ready (rs := [4]) (by kernel_rfl) (by simp) ?_
            refine AllReadyH.cons rfl (fun K hK => ?_) AllReadyH.nil
            go_simp
            refine hK.out _ _ trivial (fun hHeld => ?_)
            clear hK K hHeld
            try simp only [Act.put]
            refine wpAnyH_ready (rs := [5]) (by kernel_rfl) (by simp) ?_
            refine AllReadyH.cons rfl (fun K hK => ?_) AllReadyH.nil
            refine step_append_rg rfl (.tmp 16) (.tmp 19) rfl W2.heap.size v l (by rfl) x y z HO3.out (by rfl) HN.out HBS.out ?_
            intro v6 w6 hown6 hb6
            obtain ⟨a6, k6, hv6, _⟩ := Ow.shape hown6
            subst hv6
            have X86 : Hid (Mg w6 w2.heap.size 86 g u v ⟨#[]⟩) := X83.out.below hb6 LX.out
            have c7 := X86.out.cells
            have f7 := X86.out.loose
            have HO6 := hid hown6
            have HB6 := hid hb6
            clear hown6 hb6
            refine hK.out _ _ trivial (fun hHeld => ?_)
            clear hK K hHeld
            try simp only [Act.put]
            refine wpAnyH_take (i := 6) (v := ?v6b) rfl (by kernel_rfl) (by kernel_rfl) (by kernel_rfl) (fun _ _ _ h => h) (Or.inl ⟨by rfl, ?hy6b⟩) (trivial) ?rest6b
            case hy6b => (intro w hSw; (try dsimp only at hSw); go_simp; try with_reducible rfl)
            try simp only [Act.put]
            refine wpAnyH_ready (rs := [7]) (by kernel_rfl) (by simp) ?_
            refine AllReadyH.cons rfl (fun K hK => ?_) AllReadyH.nil
            go_simp
            refine hK.out _ _ trivial (fun hHeld => ?_)
            clear hK K hHeld
            try simp only [Act.put]
            refine wpAnyH_done (by kernel_rfl) ?_ _
            go_wp2
            have l1 := LK.out
            have l2 := L2.out
            have l3 := LX.out
            have e6 : (l ++ [(x, y, z)]).length = l.length + 1 := by simp
            have HO7 : Hid (Ow w6 W2.heap.size (.slice a6 (l.length + 1) k6) (l ++ [(x, y, z)])) := by have h := HO6.out; rw [e6] at h; exact h
            go_roundw
            case rel => exact ⟨i + 1, l ++ [(x, y, z)], .slice a6 (l.length + 1) k6, c, by omega, by go_num, (by show _ = _; rw [List.length_append, HL.out]; rfl), X86.out.s2 _, own_far HO7.out l3 2 _, (HD.out.below HB6.out (by omega)).far _ (by omega), rds_reg HP.out HR.out, (X43.out.below HB6.out (by omega)).far _ (by omega), wst_new (grown_under XG3.out HB6.out (by omega)) (by omega) 2 _, (by show _ ≤ _; have := HBS.out; have := HB6.out.size; simp [World.setCell]; omega)⟩
            case measure => simp [intOf]; omega
          · go_simp
            refine hK.out _ _ trivial (fun hHeld => ?_)
            clear hK K hHeld
            try simp only [Act.put]
            refine wpAnyH_ready (rs := [1]) (by kernel_rfl) (by simp) ?_
            refine AllReadyH.cons rfl (fun K hK => ?_) AllReadyH.nil
            go_simp
            refine hK.out _ _ trivial (fun hHeld => ?_)
            clear hK K hHeld
            try simp only [Act.put]
            refine wpAnyH_ready (rs := [5]) (by kernel_rfl) (by simp) ?_
            refine AllReadyH.cons rfl (fun K hK => ?_) AllReadyH.nil
            refine step_append_rg rfl (.tmp 16) (.tmp 19) rfl W2.heap.size v l (by rfl) x y z HO3.out (by rfl) HN.out HBS.out ?_
            intro v6 w6 hown6 hb6
            obtain ⟨a6, k6, hv6, _⟩ := Ow.shape hown6
            subst hv6
            have X86 : Hid (Mg w6 w2.heap.size 86 g u v ⟨#[]⟩) := X83.out.below hb6 LX.out
            have c7 := X86.out.cells
            have f7 := X86.out.loose
            have HO6 := hid hown6
            have HB6 := hid hb6
            clear hown6 hb6
            refine hK.out _ _ trivial (fun hHeld => ?_)
            clear hK K hHeld
            try simp only [Act.put]
            refine wpAnyH_take (i := 6) (v := ?v6c) rfl (by kernel_rfl) (by kernel_rfl) (by kernel_rfl) (fun _ _ _ h => h) (Or.inl ⟨by rfl, ?hy6c⟩) (trivial) ?rest6c
            case hy6c => (intro w hSw; (try dsimp only at hSw); go_simp; try with_reducible rfl)
            try simp only [Act.put]
            refine wpAnyH_ready (rs := [7]) (by kernel_rfl) (by simp) ?_
            refine AllReadyH.cons rfl (fun K hK => ?_) AllReadyH.nil
            go_simp
            refine hK.out _ _ trivial (fun hHeld => ?_)
            clear hK K hHeld
            try simp only [Act.put]
            refine wpAnyH_done (by kernel_rfl) ?_ _
            go_wp2
            have l1 := LK.out
            have l2 := L2.out
            have l3 := LX.out
            have e6 : (l ++ [(x, y, z)]).length = l.length + 1 := by simp
            have HO7 : Hid (Ow w6 W2.heap.size (.slice a6 (l.length + 1) k6) (l ++ [(x, y, z)])) := by have h := HO6.out; rw [e6] at h; exact h
            go_roundw
            case rel => exact ⟨i + 1, l ++ [(x, y, z)], .slice a6 (l.length + 1) k6, c, by omega, by go_num, (by show _ = _; rw [List.length_append, HL.out]; rfl), X86.out.s2 _, own_far HO7.out l3 2 _, (HD.out.below HB6.out (by omega)).far _ (by omega), rds_reg HP.out HR.out, (X43.out.below HB6.out (by omega)).far _ (by omega), wst_new (grown_under XG3.out HB6.out (by omega)) (by omega) 2 _, (by show _ ≤ _; have := HBS.out; have := HB6.out.size; simp [World.setCell]; omega)⟩
            case measure => simp [intOf]; omega
    · have HL3 : Hid (l.length = 3) := by show _ = _; rw [HL.out]; omega
      have P11 : Hid (rds s a 11 = some (g :: u :: flat l, b)) := by
        have h := HP.out
        rw [show (g :: u :: flat l).length = 11 by simp [flat_len, HL3.out]] at h
        exact h
      obtain ⟨a8, k8, hv8, _⟩ := Ow.shape XO.out
      rw [HL3.out] at hv8
      subst hv8
      clear c8 f8 X7d
      go_wp2_with fail
      refine (short_any k s b _ HSZ.out X7.out).mono ?_; rintro e w3 (⟨t, c, hr, rfl, hd, hg⟩ | ⟨hr, rfl, hg⟩)
      case inr =>
        have H : Hid (rm6 s a = zero6) := rm6_short P11.out hr
        have G := hid (wtr XG.out hg)
        clear hr hg
        go_wp2_with fail
        exact ⟨rfl, Or.inr ⟨H.out, rfl, G.out⟩⟩
      have HS := hid hr
      have l1 := LK.out
      have l2 := L2.out
      have l3 := LX.out
      have G3 := hid (X8.out.grown hg (by simp; omega))
      have G3' := hid (G3.out.s3 t)
      have D3 := hid (hd.far (j := w2.heap.size) (i := 3) (.string t) (by omega))
      have O3 := hid (own_far (own_kept XO.out hg (by intro j hj h; have := (XO.out.lt j hj).1; simp at h; omega)) (j := w2.heap.size) l3 3 (.string t))
      have F3 := hid ((X4.out.grown hg (by simp; omega)).far (j := w2.heap.size) (i := 3) (.string t) (by omega))
      have B3 := hid (wst_new (wtr XG.out hg) (j := w2.heap.size) (by omega) 3 (.string t))
      have c3 := G3.out.cells
      have f3 := G3.out.loose
      clear hr hd hg X8 XO X7 X4 XG l1 l2 l3
      obtain ⟨W3, hW3⟩ : ∃ W3, w3.setCell ⟨w2.heap.size, 3, none⟩ (.string t) = W3 := ⟨_, rfl⟩
      rw [hW3] at G3' D3 O3 F3 B3
      have d8 := G3'.out.cells
      obtain ⟨q, hq, cq⟩ := implMailOk_l g u a8 3 k8 l t HL3.out (by omega)
      go_wp2_with fail
      refine (cq.out _ (Ow.rs O3.out).2).mono ?_; rintro e w5 ⟨rfl, hb5⟩
      have G5 := hid (G3'.out.later hb5)
      have D5 := hid (D3.out.later hb5)
      have O5 := hid (own_later O3.out hb5)
      have F5 := hid (F3.out.later hb5)
      have B5 := hid (wtr B3.out (grown_below hb5 (some k)))
      clear d8 c3 f3 hb5 hW3
      have d8 := G5.out.cells
      have d4 := F5.out.cells
      have f4 := F5.out.loose
      cases q
      · have H : Hid (rm6 s a = zero6) := rm6_wrong P11.out HS.out hq.out.symm
        go_wp2_with fail
        refine (must_no _).mono ?_; rintro e w6 ⟨rfl, h6⟩
        subst h6
        go_wp2_with fail
        exact ⟨rfl, Or.inr ⟨H.out, rfl, B5.out⟩⟩
      · have H := hid (rm6_good P11.out HS.out hq.out.symm)
        go_wp2_with fail
        refine (must_yes _).mono ?_; rintro e w6 ⟨rfl, h6⟩
        subst h6
        go_wp2
        have d := (set4 F5.out g u (.slice a8 3 k8) t).cells
        have l1 := LK.out
        have l2 := L2.out
        have l3 := LX.out
        refine bodyPost_ret (v := .agg #[.int .i64 g, .int .i64 u, .slice a8 3 k8, .string t]) (by simp [results, Tryz.results115, go_sem, d]) rfl (Or.inl ⟨g, u, l, t, c, _, H.out, rfl, ?_, ?_, ?_⟩)
        · exact (((D5.out.far _ (by omega)).far _ (by omega)).far _ (by omega)).far _ (by omega)
        · exact own_base (own4 O5.out (by omega) _ _ _ _) (by omega)
        · exact wst_new (wst_new (wst_new (wst_new B5.out (Nat.le_refl _) 0 _) (Nat.le_refl _) 1 _) (Nat.le_refl _) 2 _) (Nat.le_refl _) 3 _
end Go.Proofs.YtocfggfccbnbhaaGreatDoor

namespace Go.Proofs.YtocfggfccbnbhaaGreatDoor
open Go.RowKit
theorem assert_yes (W : World) : (Instr.typeAssert (.iface 160 (.agg #[])) 20 160 true).run Tryz.prog W = .ok (.tuple #[.agg #[], .bool true]) W := by kernel_rfl
theorem assert_nil (W : World) : (Instr.typeAssert .nilIface 20 160 true).run Tryz.prog W = .ok (.tuple #[.agg #[], .bool false]) W := by kernel_rfl
/-- Block k holds a word. -/
def Bwd (W : World) (k : Nat) (b : Bool) : Prop := W.heap[k]? = some (.cells #[.bool b] 4 (0, 0))
theorem Bwd.new (w : World) (b : Bool) : Bwd (w.alloc (.cells #[.bool b] 4)) w.heap.size b := heap_alloc_new w _
theorem Bwd.lt {W : World} {k : Nat} {b : Bool} (h : Bwd W k b) : k < W.heap.size := (Array.getElem?_eq_some_iff.1 h).1
theorem Bwd.later {W W' : World} {k : Nat} {b : Bool} (h : Bwd W k b) (hb : Below W.heap.size W W') : Bwd W' k b := (hb.block k h.lt).trans h
theorem Bwd.grown {W W' : World} {k : Nat} {b : Bool} {r : Option Nat} (h : Bwd W k b) (hg : W.grownBy W' r) (hk : some k ≠ r) : Bwd W' k b := (hg.block k h.lt hk).trans h
theorem Bwd.cell {W : World} {k : Nat} {b : Bool} (h : Bwd W k b) : W.cell? ⟨k, 0, none⟩ = some (.bool b) := cell_of_row W k 0 _ _ _ h
theorem Bwd.loose {W : World} {k : Nat} {b : Bool} (h : Bwd W k b) : W.frozen? ⟨k, 0, none⟩ = false := frozen_of_row W k 0 _ _ h
theorem Bwd.set {W : World} {k : Nat} {b : Bool} (h : Bwd W k b) (b' : Bool) : Bwd (W.setCell ⟨k, 0, none⟩ (.bool b')) k b' := heap_setCell_same W k 0 _ _ (.bool b') h
set_option maxRecDepth 100000 in
theorem catch_panic (kb : Nat) (b0 : Bool) (older : List PanicEntry) (w : World) (hb : Bwd w kb b0) :
    CallsD Tryz.prog 135 #[.pointer (some ⟨kb, 0, none⟩)] (.panicking ({ v := .iface 160 (.agg #[]), recovered := false } :: older)) w fun e u' w' =>
      e = .returned (.tuple #[]) ∧ u' = .panicking ({ v := .iface 160 (.agg #[]), recovered := true } :: older) ∧ w' = (w.alloc (.cells #[] 160)).setCell ⟨kb, 0, none⟩ (.bool false) := by
  have h1 := hb.later (bpush (bre w) (.cells #[] 160))
  have hc := h1.cell
  have hz := h1.loose
  refine callsD_of_wpS Tryz.func135 rfl fun c₀ cs hu => ?_
  apply wpS_seq
  apply wpS_region
  simp [wpOpsS, go_sem, recoverD, hu, Tryz.ntmps135, Exit.thenS, assert_yes]
  apply wpS_seq
  apply wpS_region
  simp [wpOpsS, go_sem, Exit.thenS]
  refine wpS_cond (t := true) (by simp [Act.eval, Array.replicate]) ?_
  simp only [if_true]
  apply wpS_region
  simp [wpOpsS, go_sem, hc, hz, bodyPostS, results, Tryz.results135]
set_option maxRecDepth 100000 in
theorem catch_idle (kb : Nat) (w : World) :
    CallsD Tryz.prog 135 #[.pointer (some ⟨kb, 0, none⟩)] .returning w fun e u' w' => e = .returned (.tuple #[]) ∧ u' = .returning ∧ w' = w.alloc (.cells #[] 160) := by
  refine callsD_of_wpS Tryz.func135 rfl fun c₀ cs hu => ?_
  apply wpS_seq
  apply wpS_region
  simp [wpOpsS, go_sem, recoverD, hu, Tryz.ntmps135, Exit.thenS, assert_nil]
  apply wpS_seq
  apply wpS_region
  simp [wpOpsS, go_sem, Exit.thenS]
  refine wpS_cond (t := false) (by simp [Act.eval, Array.replicate]) ?_
  simp only [Bool.false_eq_true, if_false]
  refine wpS_of_wp (wp_skip ?_)
  cases c₀
  simp_all [bodyPostS, results, Tryz.results135]
end Go.Proofs.YtocfggfccbnbhaaGreatDoor

namespace Go.Proofs.YtocfggfccbnbhaaGreatDoor
open Go.RowKit Go.ChangeMaps
set_option maxHeartbeats 800000 in
set_option maxRecDepth 100000 in
theorem markRS6_any (B g n cap k : Nat) (l : List R3) (w : World) (hown : Ow w B (.slice (some ⟨g, 0, none⟩) n cap) l) (hl : l.length = n) (hn : n ≤ 1048576) (hk : k ≤ 6291456) :
    Calls Tryz.prog 160 #[.slice (some ⟨g, 0, none⟩) n cap, .int .i64 (k : Int)] w fun e w' => e = .returned (.int .i64 ((k + n * 3 : Nat) : Int)) ∧ Ow w' B (.slice (some ⟨g, 0, none⟩) n cap) (mks k n) ∧ w.grownBy w' (some g) := by
  have HO := hid hown
  have HL := hid hl
  clear hown hl
  go_enter Tryz.func160, Tryz.ntmps160
  go_wp2
  go_loopw [1, 5] (fun kv iv wr => ∃ i : Nat, i ≤ n ∧ kv = .int .i64 ((k + i * 3 : Nat) : Int) ∧ iv = .int .i64 (i : Int) ∧ Ow wr B (.slice (some ⟨g, 0, none⟩) n cap) (mkd k l i) ∧ w.grownBy wr (some g)) (fun _ iv _ => n - (intOf iv).toNat)
  case atStart => exact ⟨0, Nat.zero_le _, by simp, rfl, by rw [mkd_zero]; exact HO.out, wre _ _⟩
  case round =>
    obtain ⟨i, hi, rfl, rfl, hown, hb⟩ := hrel
    have HOW := hid hown
    have HG := hid hb
    clear hown hb
    by_cases hlt : i < n
    · have hil : i < l.length := by rw [HL.out]; exact hlt
      have hil' : i < (mkd k l i).length := by rw [mkd_len _ _ _ (by omega)]; exact hil
      obtain ⟨x, y, z, hc, hf⟩ := Ow.spot HOW.out i hil'
      obtain ⟨q, hq⟩ : ∃ q : Nat, k + i * 3 = q := ⟨_, rfl⟩
      have HQ := hid hq
      have hqb : q ≤ 9500000 := by omega
      rw [hq]
      have HST := hid (Ow.stored HOW.out i hil' ((q : Int), (q : Int) + 1, (q : Int) + 1 + 1))
      clear hq hil'
      go_wp2
      go_roundw
      case rel => exact ⟨i + 1, by omega, by rw [show ((k + (i + 1) * 3 : Nat) : Int) = (q : Int) + 1 + 1 + 1 by have := HQ.out; omega], by go_num, HST.out.cast (mkd_set k l i hil _ (by rw [HQ.out]; rfl)), wst (wst (wst HG.out _ _) _ _) _ _⟩
      case measure => simp [intOf]; omega
    · have HE : Hid (i = l.length) := by show _ = _; rw [HL.out]; omega
      have HN : Hid (i = n) := by show _ = _; omega
      go_wp2
      go_ret
      exact ⟨by rw [HN.out]; rfl, HOW.out.cast (by rw [HE.out, mkd_all, HL.out]), HG.out⟩
set_option maxHeartbeats 800000 in
set_option maxRecDepth 100000 in
theorem heldRS6_any (B g n cap k : Nat) (w : World) (hown : Ow w B (.slice (some ⟨g, 0, none⟩) n cap) (mks k n)) (hn : n ≤ 1048576) (hk : k ≤ 6291456) :
    Calls Tryz.prog 161 #[.slice (some ⟨g, 0, none⟩) n cap, .int .i64 (k : Int)] w fun e w' => e = .returned (.int .i64 ((k + n * 3 : Nat) : Int)) ∧ w' = w := by
  have HO := hid hown
  clear hown
  go_enter Tryz.func161, Tryz.ntmps161
  go_wp2
  go_loop [1, 5] (fun kv iv => ∃ i : Nat, i ≤ n ∧ kv = .int .i64 ((k + i * 3 : Nat) : Int) ∧ iv = .int .i64 (i : Int)) (fun _ iv => n - (intOf iv).toNat)
  case atStart => exact ⟨0, Nat.zero_le _, by simp, rfl⟩
  case round =>
    obtain ⟨i, hi, rfl, rfl⟩ := hrel
    by_cases hlt : i < n
    · have hil : i < (mks k n).length := by rw [mks_len]; exact hlt
      obtain ⟨k', o', e, hk', c⟩ := (Ow.rs HO.out).2.at hil
      simp only [Option.some.injEq, Addr.mk.injEq, and_true] at e
      obtain ⟨rfl, rfl⟩ := e
      rw [mks_at] at c
      obtain ⟨q, hq⟩ : ∃ q : Nat, k + i * 3 = q := ⟨_, rfl⟩
      have HQ := hid hq
      have hqb : q ≤ 9500000 := by omega
      rw [hq] at c ⊢
      simp only [Nat.zero_add] at c
      rw [show ((q + 1 : Nat) : Int) = (q : Int) + 1 by omega, show ((q + 2 : Nat) : Int) = (q : Int) + 1 + 1 by omega] at c
      have e1 : ((q : Int) != (q : Int)) = false := by simp
      have e2 : ((q : Int) + 1 != (q : Int) + 1) = false := by simp
      have e3 : ((q : Int) + 1 + 1 != (q : Int) + 1 + 1) = false := by simp
      clear hq
      go_wp2
      go_round
      case rel => exact ⟨i + 1, by omega, by rw [show ((k + (i + 1) * 3 : Nat) : Int) = (q : Int) + 1 + 1 + 1 by have := HQ.out; omega], by go_num⟩
      case measure => simp [intOf]; omega
    · have HN : Hid (i = n) := by show _ = _; omega
      go_wp2
      go_ret
      exact ⟨by rw [HN.out]; rfl, rfl⟩
theorem markRS6_gen (B : Nat) (a : Option Addr) (n cap k : Nat) (l : List R3) (w : World) (hown : Ow w B (.slice a n cap) l) (hl : l.length = n) (hn : n ≤ 1048576) (hk : k ≤ 6291456) :
    Calls Tryz.prog 160 #[.slice a n cap, .int .i64 (k : Int)] w fun e w' => e = .returned (.int .i64 ((k + n * 3 : Nat) : Int)) ∧ Ow w' B (.slice a n cap) (mks k n) ∧ w.grownBy w' (Value.ownBlock (.slice a n cap)) := by
  by_cases h0 : 0 < n
  · obtain ⟨k0, rfl⟩ := own_some hown h0
    exact markRS6_any B k0 n cap k l w hown hl hn hk
  · obtain rfl : n = 0 := by omega
    obtain rfl : l = [] := List.eq_nil_of_length_eq_zero hl
    refine (markRS_zero a cap k w).mono ?_
    rintro e w1 ⟨rfl, h1⟩
    subst h1
    exact ⟨by simp, hown, wre _ _⟩
theorem heldRS6_gen (B : Nat) (a : Option Addr) (n cap k : Nat) (w : World) (hown : Ow w B (.slice a n cap) (mks k n)) (hn : n ≤ 1048576) (hk : k ≤ 6291456) :
    Calls Tryz.prog 161 #[.slice a n cap, .int .i64 (k : Int)] w fun e w' => e = .returned (.int .i64 ((k + n * 3 : Nat) : Int)) ∧ w' = w := by
  by_cases h0 : 0 < n
  · obtain ⟨k0, rfl⟩ := own_some hown h0
    exact heldRS6_any B k0 n cap k w hown hn hk
  · obtain rfl : n = 0 := by omega
    refine (heldRS_zero a cap k w).mono ?_
    rintro e w1 ⟨rfl, h1⟩
    subst h1
    exact ⟨by simp, rfl⟩
set_option maxHeartbeats 8000000 in
set_option maxRecDepth 100000 in
theorem markMS6_any (P : Nat → Prop) (B : Nat) (a : Option Addr) (n cap k : Nat) (Z : List Z5) (w : World) (hown : OwZ w B (.slice a n cap) Z) (hl : Z.length = n) (hn : n ≤ 1048576) (hk : 0 < k) (hkz : kz k Z ≤ 6291456) (hsm : Sm (Z.map md)) (hv : ∀ j, Value.ownBlock (.slice a n cap) = some j → P j) (he : ∀ z ∈ Z, ∀ j, z.2.2.1.ownBlock = some j → P j) :
    Calls Tryz.prog 124 #[.slice a n cap, .int .i64 (k : Int)] w fun e w' => e = .returned (.int .i64 (kz k Z : Int)) ∧ OwZ w' B (.slice a n cap) (mzs k Z) ∧ Chg P w w' := by
  have HO := hid hown
  have HL := hid hl
  have HV := hid hv
  have HEE := hid he
  have HK := hid hk
  have HKZ := hid hkz
  have HSM := hid hsm
  clear hown hl hv he hk hkz hsm
  go_enter Tryz.func124, Tryz.ntmps124
  go_wp2
  go_loopw [1, 5] (fun kv iv wr => ∃ i : Nat, i ≤ n ∧ kv = .int .i64 ((kz k (Z.take i) : Nat) : Int) ∧ iv = .int .i64 (i : Int) ∧ OwZ wr B (.slice a n cap) (mzs k (Z.take i) ++ Z.drop i) ∧ Chg P w wr) (fun _ iv _ => n - (intOf iv).toNat)
  case atStart => exact ⟨0, Nat.zero_le _, by simp [kz], rfl, by simpa [mzs] using HO.out, Chg.refl _ _⟩
  case round =>
    obtain ⟨i, hin, rfl, rfl, hown, hc⟩ := hrel
    have HOW := hid hown
    have HC := hid hc
    clear hown hc
    by_cases hlt : i < n
    · have hiz : i < Z.length := by rw [HL.out]; exact hlt
      have hz := dropc hiz
      have hpl : (mzs k (Z.take i)).length = i := by rw [mzs_len, List.length_take]; omega
      have hown := HOW.out
      rw [hz] at hown
      rcases hown.row.2 with ⟨_, h2⟩ | ⟨gr, cap', cur, h1, hB, _⟩
      · exfalso
        rw [List.length_append, List.length_cons] at h2
        omega
      simp only [Value.slice.injEq] at h1
      obtain ⟨rfl, -, rfl⟩ := h1
      have hyl : i < (mzs k (Z.take i) ++ Z[i] :: Z.drop (i + 1)).length := by rw [List.length_append, hpl, List.length_cons]; omega
      obtain ⟨c, f⟩ := hown.spot i hyl
      have hyi : (mzs k (Z.take i) ++ Z[i] :: Z.drop (i + 1))[i] = Z[i] := by
        rw [List.getElem_append_right (by omega)]
        simp [hpl]
      rw [hyi] at c
      have hkq := kz_snoc k (Z.take i) Z[i]
      have hmq := mzs_snoc k (Z.take i) Z[i]
      rw [← List.take_succ_eq_append_getElem hiz] at hkq hmq
      have hlim := Nat.le_trans (kz_take k Z (i + 1)) HKZ.out
      have hge := kz_le k (Z.take i)
      have hset := zc_set3 (mzs k (Z.take i) ++ Z[i] :: Z.drop (i + 1)) i (mz1 (kz k (Z.take i)) Z[i]) hyl (by rw [hyi]; rfl)
      have hmid := mid_set (P := mzs k (Z.take i)) (x := Z[i]) (z := mz1 (kz k (Z.take i)) Z[i]) (C := Z.drop (i + 1))
      rw [hpl] at hmid
      rw [hmid] at hset
      have hmem : Z[i] ∈ mzs k (Z.take i) ++ Z[i] :: Z.drop (i + 1) := List.mem_append.2 (.inr (List.mem_cons_self ..))
      have heach := hown.each Z[i] hmem
      have hoff := far_of hown hmem
      have hbl := HEE.out Z[i] (List.getElem_mem hiz)
      have hmb := (HSM.out (md Z[i]) (List.mem_map_of_mem (List.getElem_mem hiz))).1
      obtain ⟨q, hq⟩ : ∃ q : Nat, kz k (Z.take i) = q := ⟨_, rfl⟩
      rw [hq] at hkq hmq hset hmid hge
      obtain ⟨x, hxe⟩ : ∃ x, Z[i] = x := ⟨_, rfl⟩
      rw [hxe] at c hkq hmq hset hmid heach hoff hbl hown hmb
      obtain ⟨g1, u1, f1, l1, t1⟩ := x
      obtain ⟨fa, fc, hf1, _⟩ := Ow.shape heach
      dsimp only at hf1
      subst hf1
      obtain ⟨m, hm⟩ : ∃ m, l1.length = m := ⟨_, rfl⟩
      simp only [mz1, kz1] at hset hkq hmq hmid
      dsimp only at c heach hoff hbl
      dsimp only [md] at hmb
      rw [hm] at c hkq heach hoff hbl hmb
      have hlq : q + 2 + m * 3 + 1 ≤ 6291456 := by rw [← hkq]; exact hlim
      have HM := hid hm
      have HOW2 := hid hown
      have HSET := hid hset
      have HKQ := hid hkq
      have HMQ := hid hmq
      have HEA := hid heach
      have HOF := hid hoff
      have HBL := hid hbl
      have HHI := hid (HV.out gr rfl)
      have HBG := hid hB
      have HPL := hid hpl
      have HK0 := HK.out
      rw [hq]
      clear hown hset hkq hmq hmid heach hoff hbl hB hyl hyi hz hm hxe hq hlim hpl hmem
      go_wp2_with fail
      rw [show ((q : Int) + 1 + 1) = ((q + 2 : Nat) : Int) by omega]
      obtain ⟨W2, hW2⟩ : ∃ W2, W2 = (wr.setCell ⟨gr, i * 4, none⟩ (Value.int IntKind.i64 q)).setCell ⟨gr, i * 4 + 1, none⟩ (Value.int IntKind.i64 (q + 1)) := ⟨_, rfl⟩
      rw [← hW2]
      have g2 : wr.grownBy W2 (some gr) := by rw [hW2]; exact wst (wst (wre _ _) _ _) _ _
      have HG2 := hid g2
      have HW2 := hid hW2
      clear hW2 g2
      refine (markRS6_gen B fa m fc (q + 2) l1 W2 (World.ownsRow.kept HEA.out HG2.out (Or.inr HOF.out)) HM.out hmb (by omega)).mono ?_; rintro e w1 ⟨rfl, ho1, hg1⟩
      have HO1 := hid ho1
      have HG1 := hid hg1
      clear ho1 hg1
      obtain ⟨p, hp⟩ : ∃ p : Nat, q + 2 + m * 3 = p := ⟨_, rfl⟩
      rw [hp] at HKQ hlq ⊢
      have HP := hid hp
      have hp0 : 0 < p := by omega
      clear hp
      go_wp2_with fail
      refine (markText_any p w1 hp0 (by omega)).mono ?_; rintro e w2 ⟨rfl, hb2⟩
      have HTH := OwZ.three (W1 := w1) (W2 := w2) (z' := ((q : Int), ((q + 1 : Nat) : Int), Value.slice fa l1.length fc, mks (q + 2) l1.length, mtx6 (q + 2 + l1.length * 3))) HOW2.out HPL.out rfl (by dsimp only; rw [HM.out, show ((q + 1 : Nat) : Int) = (q : Int) + 1 by omega, ← HW2.out]; exact HG1.out) (by dsimp only; rw [HM.out]; exact HO1.out) hb2
      obtain ⟨⟨ck, fk⟩, hz⟩ := HTH
      dsimp only at ck hz
      rw [HM.out, HP.out] at hz
      have HZ := hid hz
      have HB2 := hid hb2
      clear hz hb2
      have HCH : Hid (Chg P wr w2) := Chg.trans (Chg.trans (Chg.of_grown HG2.out (fun j hj => by simp only [Option.some.injEq] at hj; subst hj; exact HHI.out)) (Chg.of_grown HG1.out (fun j hj => HBL.out j hj))) (Chg.of_below HB2.out)
      go_wp2
      go_roundw
      case rel =>
        refine ⟨i + 1, by omega, by rw [HKQ.out]; simp, by go_num, ?_, Chg.trans HC.out (Chg.trans HCH.out (Chg.of_grown (r := some gr) (wst (wre _ _) _ _) (fun j hj => by simp only [Option.some.injEq] at hj; subst hj; exact HHI.out)))⟩
        rw [HMQ.out, List.append_assoc, HM.out, HP.out]
        exact HZ.out
      case measure => simp [intOf]; omega
    · have HE1 : Hid (Z.take i = Z) := List.take_of_length_le (by rw [HL.out]; omega)
      have HE2 : Hid (Z.drop i = []) := List.drop_of_length_le (by rw [HL.out]; omega)
      go_wp2
      go_ret
      have h := HOW.out
      rw [HE1.out, HE2.out, List.append_nil] at h
      exact ⟨by rw [HE1.out]; rfl, h, HC.out⟩
set_option maxHeartbeats 8000000 in
set_option maxRecDepth 100000 in
theorem heldMS6_any (B : Nat) (a : Option Addr) (n cap k : Nat) (Z : List Z5) (w : World) (hown : OwZ w B (.slice a n cap) (mzs k Z)) (hl : Z.length = n) (hn : n ≤ 1048576) (hk : 0 < k) (hkz : kz k Z ≤ 6291456) (hsm : Sm (Z.map md)) :
    Calls Tryz.prog 125 #[.slice a n cap, .int .i64 (k : Int)] w fun e w' => e = .returned (.int .i64 (kz k Z : Int)) ∧ Below w.heap.size w w' := by
  have HO := hid hown
  have HL := hid hl
  have HK := hid hk
  have HKZ := hid hkz
  have HSM := hid hsm
  clear hown hl hk hkz hsm
  go_enter Tryz.func125, Tryz.ntmps125
  go_wp2
  go_loopw [1, 5] (fun kv iv wr => ∃ i : Nat, i ≤ n ∧ kv = .int .i64 ((kz k (Z.take i) : Nat) : Int) ∧ iv = .int .i64 (i : Int) ∧ Below w.heap.size w wr) (fun _ iv _ => n - (intOf iv).toNat)
  case atStart => exact ⟨0, Nat.zero_le _, by simp [kz], rfl, bre _⟩
  case round =>
    obtain ⟨i, hin, rfl, rfl, hb⟩ := hrel
    have HB := hid hb
    clear hb
    by_cases hlt : i < n
    · have hiz : i < Z.length := by rw [HL.out]; exact hlt
      have hown := HO.out.later HB.out
      have hyl : i < (mzs k Z).length := by rw [mzs_len]; exact hiz
      rcases hown.row.2 with ⟨_, h2⟩ | ⟨gr, cap', cur, h1, hB, hr⟩
      · exfalso
        omega
      simp only [Value.slice.injEq] at h1
      obtain ⟨rfl, -, rfl⟩ := h1
      clear hr
      obtain ⟨c, -⟩ := hown.spot i hyl
      have heach := hown.each _ (List.getElem_mem hyl)
      rw [mzs_at k Z i hiz hyl] at c heach
      have hkq := kz_snoc k (Z.take i) Z[i]
      rw [← List.take_succ_eq_append_getElem hiz] at hkq
      have hlim := Nat.le_trans (kz_take k Z (i + 1)) HKZ.out
      have hge := kz_le k (Z.take i)
      have hmb := (HSM.out (md Z[i]) (List.mem_map_of_mem (List.getElem_mem hiz))).1
      have hgr : gr < wr.heap.size := (hown.row.lt gr rfl).2
      obtain ⟨q, hq⟩ : ∃ q : Nat, kz k (Z.take i) = q := ⟨_, rfl⟩
      rw [hq] at hkq hge c heach
      obtain ⟨x, hxe⟩ : ∃ x, Z[i] = x := ⟨_, rfl⟩
      rw [hxe] at c hkq heach hmb
      obtain ⟨g1, u1, f1, l1, t1⟩ := x
      simp only [mz1, kz1] at c heach hkq
      obtain ⟨m, hm⟩ : ∃ m, l1.length = m := ⟨_, rfl⟩
      dsimp only [md] at hmb
      rw [hm] at c heach hkq hmb
      obtain ⟨fa, fc, hf1, -⟩ := Ow.shape heach
      rw [mks_len] at hf1
      subst hf1
      have hlq : q + 2 + m * 3 + 1 ≤ 6291456 := by rw [← hkq]; exact hlim
      obtain ⟨p, hp⟩ : ∃ p : Nat, q + 2 + m * 3 = p := ⟨_, rfl⟩
      rw [hp] at hkq hlq c
      have hqb : q + 3 ≤ 6291456 := by omega
      have HP := hid hp
      have HKQ := hid hkq
      have HEA := hid heach
      have HK0 := HK.out
      have hp0 : 0 < p := by omega
      obtain ⟨tx, htx⟩ : ∃ tx, mtx6 p = tx := ⟨_, rfl⟩
      rw [htx] at c
      have HTX := hid htx
      have e1 : ((q : Int) != (q : Int)) = false := by simp
      have e2 : (((q : Int) + 1) != ((q : Int) + 1)) = false := by simp
      have e3 : ¬ ((p : Int) < 0) := by omega
      have e4 : (!tx.toList == tx.toList) = false := by simp
      have hI : (0 : Int) ≤ (i : Int) ∧ (i : Int) < (n : Int) := by omega
      rw [show ((q + 1 : Nat) : Int) = (q : Int) + 1 by omega] at c
      have HSS : Hid (∀ W, Below wr.heap.size wr W → (W.cell? ⟨gr, i * 4, none⟩ = some (.int .i64 q) ∧ W.cell? ⟨gr, i * 4 + 1, none⟩ = some (.int .i64 (q + 1)) ∧ W.cell? ⟨gr, i * 4 + 2, none⟩ = some (.slice fa m fc) ∧ W.cell? ⟨gr, i * 4 + 3, none⟩ = some (.string tx))) := fun W h => C4.later c hgr h
      rw [hq]
      clear hown heach hkq hyl hm hxe hq hlim hp htx hgr hB
      go_wp2_with fail
      rw [show ((q : Int) + 1 + 1) = ((q + 2 : Nat) : Int) by omega]
      refine (heldRS6_gen B fa m fc (q + 2) wr HEA.out hmb (by omega)).mono ?_; rintro e w1 ⟨rfl, hw1⟩
      subst hw1
      rw [HP.out]
      go_wp2_with fail
      go_region_held3 (fun W => W.cell? ⟨gr, i * 4, none⟩ = some (.int .i64 q) ∧ W.cell? ⟨gr, i * 4 + 1, none⟩ = some (.int .i64 (q + 1)) ∧ W.cell? ⟨gr, i * 4 + 2, none⟩ = some (.slice fa m fc) ∧ W.cell? ⟨gr, i * 4 + 3, none⟩ = some (.string tx))
        ((refine HSS.out _ ?_; repeat (first | exact bdr (bre _) | refine btr ?_ (by assumption))))
        ((go_at_call 123; refine (markText_any p _ hp0 (by omega)).mono ?_; rintro e w1 ⟨rfl, hb1⟩; rw [HTX.out]))
      have HB1 : Hid (Below w.heap.size w w1) := by show Below _ _ _; refine btr HB.out ?_; repeat (first | exact bdr (bre _) | refine btr ?_ (by assumption))
      go_wp2
      go_roundw
      case rel => exact ⟨i + 1, by omega, by rw [HKQ.out]; simp, by go_num, HB1.out⟩
      case measure => simp [intOf]; omega
    · have HE1 : Hid (Z.take i = Z) := List.take_of_length_le (by rw [HL.out]; omega)
      go_wp2
      go_ret
      exact ⟨by rw [HE1.out]; rfl, HB.out⟩
end Go.Proofs.YtocfggfccbnbhaaGreatDoor

namespace Go.Proofs.YtocfggfccbnbhaaGreatDoor
open Go.RowKit Go.ChangeMaps
theorem mzl_len (k : Nat) (L : List M4) : (mzl k L).length = L.length := by
  induction L generalizing k with
  | nil => rfl
  | cons m L ih => simp [mzl, ih]
theorem mzl_fz (k : Nat) (L : List M4) : fz (mzl k L) = fz L := by
  induction L generalizing k with
  | nil => rfl
  | cons m L ih =>
    simp only [mzl, fz, ih]
    simp [mm1, mks_len]
theorem mzs_fix (k : Nat) (L : List M4) : ∀ Z : List Z5, Z.map md = mzl k L → mzs k Z = Z := by
  induction L generalizing k with
  | nil =>
    intro Z h
    cases Z with
    | nil => rfl
    | cons z Z => simp [mzl] at h
  | cons m L ih =>
    intro Z h
    cases Z with
    | nil => simp [mzl] at h
    | cons z Z =>
      simp only [List.map_cons, mzl, List.cons.injEq] at h
      obtain ⟨h1, h2⟩ := h
      obtain ⟨a, b, f, l, t⟩ := z
      simp only [md, mm1, Prod.mk.injEq] at h1
      obtain ⟨rfl, rfl, rfl, rfl⟩ := h1
      have e : kz1 k ((k : Int), ((k + 1 : Nat) : Int), f, mks (k + 2) m.2.2.1.length, mtx6 (k + 2 + m.2.2.1.length * 3)) = km1 k m := by simp [kz1, km1, mks_len]
      simp only [mzs]
      rw [e, ih _ Z h2]
      simp [mz1, mks_len]
theorem mdg_size (n : Nat) (h : n ≤ 9000000) : (mtx6 n).size ≤ 1048576 := by
  have h1 := mdg_len 7 n (by omega)
  have h2 : (mtx6 n).size = (mdg n).length + 1 := by simp [mtx6, ByteArray.size]
  omega
theorem mzl_sm (k : Nat) (L : List M4) (h : Sm L) (hk : k + 3 * fz L ≤ 6291456) : Sm (mzl k L) := by
  induction L generalizing k with
  | nil => intro m hm; simp [mzl] at hm
  | cons m L ih =>
    have e : fz (m :: L) = 1 + m.2.2.1.length + fz L := rfl
    intro x hx
    simp only [mzl, List.mem_cons] at hx
    rcases hx with rfl | hx
    · refine ⟨?_, ?_⟩
      · simp only [mm1, mks_len]; exact (h m (by simp)).1
      · simp only [mm1]; exact mdg_size _ (by omega)
    · exact ih (km1 k m) (fun x hx => h x (by simp [hx])) (by simp only [km1]; omega) x hx
/-- The marks of boxes. -/
def mx1 (k : Nat) (x : X7) : X7 := ((k : Int), mtx6 (k + 1), ((k + 2 : Nat) : Int), ((k + 3 : Nat) : Int), ((k + 4 : Nat) : Int), mzl (k + 5) x.2.2.2.2.2.1, mki (k + 5 + 3 * fz x.2.2.2.2.2.1) x.2.2.2.2.2.2.length)
def mxl (k : Nat) : List X7 → List X7
  | [] => []
  | x :: S => mx1 k x :: mxl (kx1 k x) S
def my1 (k : Nat) (y : Y9) : Y9 := ⟨(k : Int), mtx6 (k + 1), ((k + 2 : Nat) : Int), ((k + 3 : Nat) : Int), ((k + 4 : Nat) : Int), y.mv, y.gv, mzl (k + 5) y.L, mki (k + 5 + 3 * fz y.L) y.G.length, y.lo, y.hi⟩
def mys (k : Nat) : List Y9 → List Y9
  | [] => []
  | y :: Y => my1 k y :: mys (kx1 k (yd y)) Y
theorem mys_yd (k : Nat) (Y : List Y9) : (mys k Y).map yd = mxl k (Y.map yd) := by
  induction Y generalizing k with
  | nil => rfl
  | cons y Y ih =>
    simp only [mys, List.map_cons, mxl]
    rw [ih]
    rfl
theorem mys_len (k : Nat) (Y : List Y9) : (mys k Y).length = Y.length := by
  induction Y generalizing k with
  | nil => rfl
  | cons y Y ih => simp [mys, ih]
theorem mxl_len (k : Nat) (S : List X7) : (mxl k S).length = S.length := by
  induction S generalizing k with
  | nil => rfl
  | cons y Y ih => simp [mxl, ih]
theorem mys_snoc (k : Nat) (Y : List Y9) (y : Y9) : mys k (Y ++ [y]) = mys k Y ++ [my1 (kx k (Y.map yd)) y] := by
  induction Y generalizing k with
  | nil => rfl
  | cons x Y ih => simp [mys, kx, ih]
theorem kx_snoc (k : Nat) (S : List X7) (x : X7) : kx k (S ++ [x]) = kx1 (kx k S) x := by
  induction S generalizing k with
  | nil => rfl
  | cons y S ih => simp [kx, ih]
theorem kx_le (k : Nat) (S : List X7) : k ≤ kx k S := by
  induction S generalizing k with
  | nil => exact Nat.le_refl _
  | cons x S ih =>
    have h := ih (kx1 k x)
    have e2 : kx1 k x = k + 5 + 3 * fz x.2.2.2.2.2.1 + x.2.2.2.2.2.2.length := rfl
    show k ≤ kx (kx1 k x) S
    omega
theorem kx_take (k : Nat) (S : List X7) (i : Nat) : kx k (S.take i) ≤ kx k S := by
  induction S generalizing k i with
  | nil => simp [kx]
  | cons z Z ih =>
    cases i with
    | zero => exact Nat.le_trans (by have e2 : kx1 k z = k + 5 + 3 * fz z.2.2.2.2.2.1 + z.2.2.2.2.2.2.length := rfl; simp only [List.take_zero, kx]; omega) (kx_le (kx1 k z) Z)
    | succ i => simp only [List.take_succ_cons, kx]; exact ih _ _
theorem mys_mem (k : Nat) (Y : List Y9) : ∀ z ∈ mys k Y, ∃ y ∈ Y, z.lo = y.lo ∧ z.hi = y.hi := by
  induction Y generalizing k with
  | nil => intro z hz; simp [mys] at hz
  | cons y Y ih =>
    intro z hz
    simp only [mys, List.mem_cons] at hz
    rcases hz with rfl | hz
    · exact ⟨y, by simp, rfl, rfl⟩
    · obtain ⟨x, hx, e⟩ := ih _ z hz
      exact ⟨x, by simp [hx], e⟩
theorem mys_at (k : Nat) (Y : List Y9) (i : Nat) (h : i < Y.length) (h' : i < (mys k Y).length) : (mys k Y)[i] = my1 (kx k ((Y.take i).map yd)) Y[i] := by
  induction Y generalizing k i with
  | nil => simp at h
  | cons y Y ih =>
    cases i with
    | zero => rfl
    | succ i => simp only [mys, List.getElem_cons_succ, List.take_succ_cons, List.map_cons, kx]; exact ih _ i (by simpa using h) _
theorem dropy {X : List Y9} {i : Nat} (h : i < X.length) : X.drop i = X[i] :: X.drop (i + 1) := List.drop_eq_getElem_cons h
/-- The first five cells of a box stored. -/
theorem yc_set5 (Y : List Y9) (i : Nat) (y : Y9) (h : i < Y.length) (hm : y.mv = Y[i].mv) (hg : y.gv = Y[i].gv) :
    (((((yc Y).set (i * 7) (.int .i64 y.g)).set (i * 7 + 1) (.string y.nm)).set (i * 7 + 2) (.int .i64 y.t)).set (i * 7 + 3) (.int .i64 y.b)).set (i * 7 + 4) (.int .i64 y.nx) = yc (Y.set i y) := by
  induction Y generalizing i with
  | nil => simp at h
  | cons x Y ih =>
    cases i with
    | zero =>
      simp only [List.getElem_cons_zero] at hm hg
      simp [yc, hm, hg]
    | succ i =>
      have h' : i < Y.length := by simpa using h
      have := ih i h' (by simpa using hm) (by simpa using hg)
      have e : (i + 1) * 7 = i * 7 + 1 + 1 + 1 + 1 + 1 + 1 + 1 := by omega
      rw [e]
      simpa [yc] using this
theorem midy {P : List Y9} {x z : Y9} {C : List Y9} : (P ++ x :: C).set P.length z = P ++ z :: C := by
  rw [List.set_append_right _ _ (Nat.le_refl _)]; simp
end Go.Proofs.YtocfggfccbnbhaaGreatDoor

