/- MailMl, MailCat, Ta0, Ta1, Ta2, Tb0. -/
import Derived.Test.YtocfggfccbnbhaaB9
import Derived.Deep.RegionWith
import Derived.Defers
import Derived.Recover
namespace Go.Proofs.Ytocfggfccbnbhaa
open Go.RowKit
theorem rg3_inv {s : ByteArray} {b x y z c : Int} (h : rg3 s b = some ((x, y, z), c)) : ∃ b1 b2, rd s b = some (x, b1) ∧ rd s b1 = some (y, b2) ∧ rd s b2 = some (z, c) := by
  unfold rg3 at h
  cases h1 : rd s b with
  | none => rw [h1] at h; cases h
  | some p =>
    rw [h1] at h; simp only [Option.bind_some] at h
    cases h2 : rd s p.2 with
    | none => rw [h2] at h; cases h
    | some q =>
      rw [h2] at h; simp only [Option.bind_some] at h
      cases h3 : rd s q.2 with
      | none => rw [h3] at h; cases h
      | some r =>
        rw [h3] at h
        simp only [Option.map_some, Option.some.injEq, Prod.mk.injEq] at h
        obtain ⟨⟨rfl, rfl, rfl⟩, rfl⟩ := h
        exact ⟨p.2, q.2, by simp, h2, h3⟩
theorem rds_reg {s : ByteArray} {a g u b x y z c : Int} {l : List R3} (h : rds s a (g :: u :: flat l).length = some (g :: u :: flat l, b)) (hr : rg3 s b = some ((x, y, z), c)) : rds s a (g :: u :: flat (l ++ [(x, y, z)])).length = some (g :: u :: flat (l ++ [(x, y, z)]), c) := by
  obtain ⟨b1, b2, h1, h2, h3⟩ := rg3_inv hr
  have := rds_some (rds_some (rds_some h h1) h2) h3
  rw [flat_snoc]
  simpa using this
theorem rds_reg_no {s : ByteArray} {a g u b : Int} {l : List R3} (h : rds s a (g :: u :: flat l).length = some (g :: u :: flat l, b)) (hr : rg3 s b = none) (hl : l.length < 3) : rm6 s a = zero6 := by
  have hn : rds s a ((g :: u :: flat l).length + 3) = none := by
    cases h1 : rd s b with
    | none => exact rds_dead (j := 2) (by have := rds_none (n := 0) h h1; simpa using this)
    | some p =>
      have k1 := rds_some h (n := p.1) (c := p.2) h1
      cases h2 : rd s p.2 with
      | none => exact rds_dead (j := 1) (by have := rds_none (n := 0) k1 h2; simpa using this)
      | some q =>
        have k2 := rds_some k1 (n := q.1) (c := q.2) h2
        cases h3 : rd s q.2 with
        | none => have := rds_none (n := 0) k2 h3; simpa using this
        | some r => rw [rg3_some h1 h2 h3] at hr; cases hr
  have hd := rds_dead hn (11 - ((g :: u :: flat l).length + 3))
  have e : (g :: u :: flat l).length + 3 + (11 - ((g :: u :: flat l).length + 3)) = 11 := by
    simp only [List.length_cons, flat_len]; omega
  rw [e] at hd
  exact rm6_dead hd
theorem rds_dead11 {s : ByteArray} {a : Int} {k : Nat} (h : rds s a k = none) (hk : k ≤ 11) : rm6 s a = zero6 := by
  have hd := rds_dead h (11 - k)
  rw [show k + (11 - k) = 11 by omega] at hd
  exact rm6_dead hd
theorem grown_under {w W W' : World} {r : Option Nat} {B : Nat} (h : w.grownBy W r) (hb : Below B W W') (hB : w.heap.size ≤ B) : w.grownBy W' r :=
  ⟨hb.os.trans h.os, hb.tape.trans h.tape, hb.output.trans h.output, Nat.le_trans h.size hb.size, fun k hk hr => (hb.block k (by omega)).trans (h.block k hk hr)⟩
def Mail1 (w : World) (k : Nat) (s : ByteArray) (a : Int) (e : Ending) (w' : World) : Prop :=
  (∃ g u l t c v, rm6 s a = (g, u, l, t, c, true) ∧ e = .returned (.agg #[.int .i64 g, .int .i64 u, v, .string t]) ∧ Dg w' k s c ∧ Ow w' w.heap.size v l ∧ w.grownBy w' (some k)) ∨ (rm6 s a = zero6 ∧ e = .panicked notHere ∧ w.grownBy w' (some k))
set_option maxHeartbeats 1600000 in
set_option maxRecDepth 100000 in
theorem mail_any (k : Nat) (s : ByteArray) (a : Int) (w : World) (hs : s.size ≤ 1048576) (hc : Dg w k s a) :
    Calls Try.prog 67 #[.pointer (some ⟨k, 0, none⟩)] w fun e w' => Mail1 w k s a e w' := by
  have HSZ := hid hs
  have LK : Hid (k < w.heap.size) := hc.lt
  have M0 := hid (Mg.new w 49 0 0 (.slice none 0 0) ⟨#[]⟩)
  have C0 := hid (hc.later (bpush (bre w) (.cells #[.int .i64 0, .int .i64 0, .slice none 0 0, .string ⟨#[]⟩] 49)))
  clear hc hs
  go_enter Try.func67, Try.ntmps67
  go_wp2_with fail
  refine (numr_any k s a _ HSZ.out C0.out).mono ?_; rintro e w1 (⟨g, b1, hr, rfl, hd, hg⟩ | ⟨hr, rfl, hg⟩)
  case inr =>
    have H : Hid (rm6 s a = zero6) := rds_dead11 (k := 1) (by show rds s a (0 + 1) = none; rw [rds, rds]; simp only [Option.bind_some]; rw [hr]; rfl) (by omega)
    have G := hid (grown_push hg)
    clear hr hg
    go_wp2_with fail
    exact ⟨rfl, Or.inr ⟨H.out, rfl, G.out⟩⟩
  have P1 : Hid (rds s a [g].length = some ([g], b1)) := rds_some (nums := []) rfl hr
  have C1 := hid hd
  have l := LK.out
  have M1 := hid (M0.out.grown hg (by simp; omega))
  have G1 := hid (grown_push hg)
  clear hr hd hg l M0 C0
  go_wp2_with fail
  refine (numr_any k s b1 _ HSZ.out C1.out).mono ?_; rintro e w2 (⟨u, b2, hr, rfl, hd, hg⟩ | ⟨hr, rfl, hg⟩)
  case inr =>
    have H : Hid (rm6 s a = zero6) := rds_dead11 (rds_none (n := 0) P1.out hr) (by simp)
    have G := hid (wtr G1.out hg)
    clear hr hg
    go_wp2_with fail
    exact ⟨rfl, Or.inr ⟨H.out, rfl, G.out⟩⟩
  have P2 : Hid (rds s a (g :: u :: flat []).length = some (g :: u :: flat [], b2)) := rds_some P1.out hr
  have l := LK.out
  have N2 := hid (bpush (bre w2) (.cells #[.int .i64 g, .int .i64 u, .slice none 0 0, .string ⟨#[]⟩] 49))
  have C2 := hid (hd.later N2.out)
  have M2 := hid ((M1.out.grown hg (by simp; omega)).later N2.out)
  have X2 := hid (Mg.new w2 49 g u (.slice none 0 0) ⟨#[]⟩)
  have G2 := hid (wtr (wtr G1.out hg) (World.grownBy_alloc w2 (.cells #[.int .i64 g, .int .i64 u, .slice none 0 0, .string ⟨#[]⟩] 49) (some k)))
  have L2 : Hid (w.heap.size < w2.heap.size) := (M1.out.grown hg (by simp; omega)).lt
  clear hr hd hg l M1 C1 G1 P1 N2
  go_wp2
  obtain ⟨W2, hW2⟩ : ∃ W2, w2.alloc (.cells #[.int .i64 g, .int .i64 u, .slice none 0 0, .string ⟨#[]⟩] 49) = W2 := ⟨_, rfl⟩
  rw [hW2] at C2 M2 X2 G2 ⊢
  have O2 : Hid (Ow W2 W2.heap.size (.slice none 0 0) []) := ⟨rfl, .inl ⟨rfl, rfl⟩⟩
  have LX : Hid (w2.heap.size < W2.heap.size) := X2.out.lt
  clear hW2
  go_loopw [13] (fun iv wr => ∃ (i : Nat) (l : List R3) (v : Value) (b : Int), i ≤ 3 ∧ iv = .int .i64 (i : Int) ∧ Hid (l.length = i) ∧ Mg wr w2.heap.size 49 g u v ⟨#[]⟩ ∧ Ow wr W2.heap.size v l ∧ Dg wr k s b ∧ Hid (rds s a (g :: u :: flat l).length = some (g :: u :: flat l, b)) ∧ Mg wr w.heap.size 49 0 0 (.slice none 0 0) ⟨#[]⟩ ∧ w.grownBy wr (some k) ∧ Hid (W2.heap.size ≤ wr.heap.size)) (fun iv _ => 3 - (intOf iv).toNat)
  case atStart => exact ⟨0, [], .slice none 0 0, b2, by omega, rfl, rfl, X2.out, O2.out, C2.out, P2.out, M2.out, G2.out, Nat.le_refl _⟩
  case round =>
    obtain ⟨i, l, v, b, hi, rfl, HL, hm8, ho, hc7, HP, hm4, hgr, HZ⟩ := hrel
    have X8 := hid hm8
    have XO := hid ho
    have X7 := hid hc7
    have X7d : Hid (Dg wr.drew k s b) := hc7
    have X4 := hid hm4
    have XG := hid hgr
    clear hm8 ho hc7 hm4 hgr
    have c8 := X8.out.cells
    have f8 := X8.out.loose
    by_cases hlt : i < 3
    · have HN : Hid (l.length ≤ 1048576) := by show _ ≤ _; rw [HL.out]; omega
      cases hr : rg3 s b with
      | none =>
        have H : Hid (rm6 s a = zero6) := rds_reg_no HP.out hr (by rw [HL.out]; exact hlt)
        have HR := hid hr
        clear hr
        go_wp2_with fail
        refine wp_region_held_drew (S := fun W => (W.cell? ⟨w2.heap.size, 0, none⟩ = some (.int .i64 g) ∧ W.cell? ⟨w2.heap.size, 1, none⟩ = some (.int .i64 u) ∧ W.cell? ⟨w2.heap.size, 2, none⟩ = some v ∧ W.cell? ⟨w2.heap.size, 3, none⟩ = some (.string ⟨#[]⟩))) (by kernel_rfl) c8 (fun hHeld => ?_)
        refine wpAnyH_take (i := 0) (v := ?v0n) rfl (by kernel_rfl) (by kernel_rfl) (by kernel_rfl) (fun _ _ _ h => h) (Or.inl ⟨by rfl, ?hy0n⟩) (by assumption) ?rest0n
        case hy0n => (intro w hSw; (try dsimp only at hSw); go_simp; try with_reducible rfl)
        try simp only [Act.put]
        refine wpAnyH_take (i := 1) (v := ?v1n) rfl (by kernel_rfl) (by kernel_rfl) (by kernel_rfl) (fun _ _ _ h => h) (Or.inl ⟨by rfl, ?hy1n⟩) (by assumption) ?rest1n
        case hy1n => (intro w hSw; (try dsimp only at hSw); go_simp; try with_reducible rfl)
        try simp only [Act.put]
        refine wpAnyH_take (i := 2) (v := ?v2n) rfl (by kernel_rfl) (by kernel_rfl) (by kernel_rfl) (fun _ _ _ h => h) (Or.inl ⟨by rfl, ?hy2n⟩) (by assumption) ?rest2n
        case hy2n => (intro w hSw; (try dsimp only at hSw); go_simp; try with_reducible rfl)
        try simp only [Act.put]
        refine wpAnyH_ready (rs := [3]) (by kernel_rfl) (by simp) ?_
        refine AllReadyH.cons rfl (fun K hK => ?_) AllReadyH.nil
        go_simp
        refine (regr_no k s b _ HSZ.out X7d.out HR.out).mono ?_; rintro e w3 ⟨rfl, hg⟩
        exact ⟨rfl, Or.inr ⟨H.out, rfl, wtr XG.out (wtr (grown_below (bdr (bre wr)) _) hg)⟩⟩
      | some pc =>
        obtain ⟨⟨x, y, z⟩, c⟩ := pc
        have HR := hid hr
        clear hr
        go_wp2_with fail
        refine wp_region_held_drew (S := fun _ => True) (by kernel_rfl) trivial (fun hHeld => ?_)
        refine wpAnyH_take (i := 0) (v := ?v0k) rfl (by kernel_rfl) (by kernel_rfl) (by kernel_rfl) (fun _ _ _ h => h) (Or.inl ⟨by rfl, ?hy0k⟩) (trivial) ?rest0k
        case hy0k => (intro w hSw; (try dsimp only at hSw); go_simp; try with_reducible rfl)
        try simp only [Act.put]
        refine wpAnyH_take (i := 2) (v := ?v2k) rfl (by kernel_rfl) (by kernel_rfl) (by kernel_rfl) (fun _ _ _ h => h) (Or.inl ⟨by rfl, ?hy2k⟩) (trivial) ?rest2k
        case hy2k => (intro w hSw; (try dsimp only at hSw); go_simp; try with_reducible rfl)
        try simp only [Act.put]
        refine wpAnyH_ready (rs := [1, 3]) (by kernel_rfl) (by simp) ?_
        refine AllReadyH.cons rfl (fun K hK => ?_) (AllReadyH.cons rfl (fun K hK => ?_) AllReadyH.nil)
        · go_simp
          refine hK.out _ _ trivial (fun hHeld => ?_)
          clear hK K hHeld
          try simp only [Act.put]
          refine wpAnyH_ready (rs := [3]) (by kernel_rfl) (by simp) ?_
          refine AllReadyH.cons rfl (fun K hK => ?_) AllReadyH.nil
          go_simp
          refine (regr_ok k s b x y z c _ HSZ.out X7d.out HR.out).mono ?_; rintro e w3 ⟨rfl, hd, hg⟩
          have l1 := LK.out
          have l2 := L2.out
          have l3 := LX.out
          have HO3 : Hid (Ow w3 W2.heap.size v l) := own_kept (W := wr.drew) XO.out hg (fun j hj => by have := (XO.out.lt j hj).1; simp; omega)
          have X83 : Hid (Mg w3 w2.heap.size 49 g u v ⟨#[]⟩) := Mg.grown (W := wr.drew) X8.out hg (by simp; omega)
          have X43 : Hid (Mg w3 w.heap.size 49 0 0 (.slice none 0 0) ⟨#[]⟩) := Mg.grown (W := wr.drew) X4.out hg (by simp; omega)
          have HBS : Hid (W2.heap.size ≤ w3.heap.size) := Nat.le_trans HZ.out hg.size
          have XG3 := hid (wtr XG.out (wtr (grown_below (bdr (bre wr)) _) hg))
          have HD := hid hd
          have c9 := X83.out.cells
          have d9 := (X83.out.later (bpush (bre w3) (.cells #[.int .i64 x, .int .i64 y, .int .i64 z] 87))).cells
          clear l1 l2 l3 hd hg
          go_wp2_with fail
          refine hK.out _ _ trivial (fun hHeld => ?_)
          clear hK K hHeld
          try simp only [Act.put]
          refine wpAnyH_ready (rs := [4]) (by kernel_rfl) (by simp) ?_
          refine AllReadyH.cons rfl (fun K hK => ?_) AllReadyH.nil
          go_simp
          refine hK.out _ _ trivial (fun hHeld => ?_)
          clear hK K hHeld
          try simp only [Act.put]
          refine wpAnyH_ready (rs := [5]) (by kernel_rfl) (by simp) ?_
          refine AllReadyH.cons rfl (fun K hK => ?_) AllReadyH.nil
          refine step_append_rg rfl (.tmp 16) (.tmp 19) rfl W2.heap.size v l (by rfl) x y z HO3.out (by rfl) HN.out HBS.out ?_
          intro v6 w6 hown6 hb6
          obtain ⟨a6, k6, hv6, _⟩ := Ow.shape hown6
          subst hv6
          have X86 : Hid (Mg w6 w2.heap.size 49 g u v ⟨#[]⟩) := X83.out.below hb6 LX.out
          have c7 := X86.out.cells
          have f7 := X86.out.loose
          have HO6 := hid hown6
          have HB6 := hid hb6
          clear hown6 hb6
          refine hK.out _ _ trivial (fun hHeld => ?_)
          clear hK K hHeld
          try simp only [Act.put]
          refine wpAnyH_take (i := 6) (v := ?v6a) rfl (by kernel_rfl) (by kernel_rfl) (by kernel_rfl) (fun _ _ _ h => h) (Or.inl ⟨by rfl, ?hy6a⟩) (trivial) ?rest6a
          case hy6a => (intro w hSw; (try dsimp only at hSw); go_simp; try with_reducible rfl)
          try simp only [Act.put]
          refine wpAnyH_ready (rs := [7]) (by kernel_rfl) (by simp) ?_
          refine AllReadyH.cons rfl (fun K hK => ?_) AllReadyH.nil
          go_simp
          refine hK.out _ _ trivial (fun hHeld => ?_)
          clear hK K hHeld
          try simp only [Act.put]
          refine wpAnyH_done (by kernel_rfl) ?_ _
          go_wp2
          have l1 := LK.out
          have l2 := L2.out
          have l3 := LX.out
          have e6 : (l ++ [(x, y, z)]).length = l.length + 1 := by simp
          have HO7 : Hid (Ow w6 W2.heap.size (.slice a6 (l.length + 1) k6) (l ++ [(x, y, z)])) := by have h := HO6.out; rw [e6] at h; exact h
          go_roundw
          case rel => exact ⟨i + 1, l ++ [(x, y, z)], .slice a6 (l.length + 1) k6, c, by omega, by go_num, (by show _ = _; rw [List.length_append, HL.out]; rfl), X86.out.s2 _, own_far HO7.out l3 2 _, (HD.out.below HB6.out (by omega)).far _ (by omega), rds_reg HP.out HR.out, (X43.out.below HB6.out (by omega)).far _ (by omega), wst_new (grown_under XG3.out HB6.out (by omega)) (by omega) 2 _, (by show _ ≤ _; have := HBS.out; have := HB6.out.size; simp [World.setCell]; omega)⟩
          case measure => simp [intOf]; omega
        · go_simp
          refine (regr_ok k s b x y z c _ HSZ.out X7d.out HR.out).mono ?_; rintro e w3 ⟨rfl, hd, hg⟩
          have l1 := LK.out
          have l2 := L2.out
          have l3 := LX.out
          have HO3 : Hid (Ow w3 W2.heap.size v l) := own_kept (W := wr.drew) XO.out hg (fun j hj => by have := (XO.out.lt j hj).1; simp; omega)
          have X83 : Hid (Mg w3 w2.heap.size 49 g u v ⟨#[]⟩) := Mg.grown (W := wr.drew) X8.out hg (by simp; omega)
          have X43 : Hid (Mg w3 w.heap.size 49 0 0 (.slice none 0 0) ⟨#[]⟩) := Mg.grown (W := wr.drew) X4.out hg (by simp; omega)
          have HBS : Hid (W2.heap.size ≤ w3.heap.size) := Nat.le_trans HZ.out hg.size
          have XG3 := hid (wtr XG.out (wtr (grown_below (bdr (bre wr)) _) hg))
          have HD := hid hd
          have c9 := X83.out.cells
          have d9 := (X83.out.later (bpush (bre w3) (.cells #[.int .i64 x, .int .i64 y, .int .i64 z] 87))).cells
          clear l1 l2 l3 hd hg
          go_wp2_with fail
          refine hK.out _ _ trivial (fun hHeld => ?_)
          clear hK K hHeld
          try simp only [Act.put]
          refine wpAnyH_ready (rs := [1, 4]) (by kernel_rfl) (by simp) ?_
          refine AllReadyH.cons rfl (fun K hK => ?_) (AllReadyH.cons rfl (fun K hK => ?_) AllReadyH.nil)
          · go_simp
            refine hK.out _ _ trivial (fun hHeld => ?_)
            clear hK K hHeld
            try simp only [Act.put]
            refine wpAnyH_ready (rs := [4]) (by kernel_rfl) (by simp) ?_
            refine AllReadyH.cons rfl (fun K hK => ?_) AllReadyH.nil
            go_simp
            refine hK.out _ _ trivial (fun hHeld => ?_)
            clear hK K hHeld
            try simp only [Act.put]
            refine wpAnyH_ready (rs := [5]) (by kernel_rfl) (by simp) ?_
            refine AllReadyH.cons rfl (fun K hK => ?_) AllReadyH.nil
            refine step_append_rg rfl (.tmp 16) (.tmp 19) rfl W2.heap.size v l (by rfl) x y z HO3.out (by rfl) HN.out HBS.out ?_
            intro v6 w6 hown6 hb6
            obtain ⟨a6, k6, hv6, _⟩ := Ow.shape hown6
            subst hv6
            have X86 : Hid (Mg w6 w2.heap.size 49 g u v ⟨#[]⟩) := X83.out.below hb6 LX.out
            have c7 := X86.out.cells
            have f7 := X86.out.loose
            have HO6 := hid hown6
            have HB6 := hid hb6
            clear hown6 hb6
            refine hK.out _ _ trivial (fun hHeld => ?_)
            clear hK K hHeld
            try simp only [Act.put]
            refine wpAnyH_take (i := 6) (v := ?v6b) rfl (by kernel_rfl) (by kernel_rfl) (by kernel_rfl) (fun _ _ _ h => h) (Or.inl ⟨by rfl, ?hy6b⟩) (trivial) ?rest6b
            case hy6b => (intro w hSw; (try dsimp only at hSw); go_simp; try with_reducible rfl)
            try simp only [Act.put]
            refine wpAnyH_ready (rs := [7]) (by kernel_rfl) (by simp) ?_
            refine AllReadyH.cons rfl (fun K hK => ?_) AllReadyH.nil
            go_simp
            refine hK.out _ _ trivial (fun hHeld => ?_)
            clear hK K hHeld
            try simp only [Act.put]
            refine wpAnyH_done (by kernel_rfl) ?_ _
            go_wp2
            have l1 := LK.out
            have l2 := L2.out
            have l3 := LX.out
            have e6 : (l ++ [(x, y, z)]).length = l.length + 1 := by simp
            have HO7 : Hid (Ow w6 W2.heap.size (.slice a6 (l.length + 1) k6) (l ++ [(x, y, z)])) := by have h := HO6.out; rw [e6] at h; exact h
            go_roundw
            case rel => exact ⟨i + 1, l ++ [(x, y, z)], .slice a6 (l.length + 1) k6, c, by omega, by go_num, (by show _ = _; rw [List.length_append, HL.out]; rfl), X86.out.s2 _, own_far HO7.out l3 2 _, (HD.out.below HB6.out (by omega)).far _ (by omega), rds_reg HP.out HR.out, (X43.out.below HB6.out (by omega)).far _ (by omega), wst_new (grown_under XG3.out HB6.out (by omega)) (by omega) 2 _, (by show _ ≤ _; have := HBS.out; have := HB6.out.size; simp [World.setCell]; omega)⟩
            case measure => simp [intOf]; omega
          · go_simp
            refine hK.out _ _ trivial (fun hHeld => ?_)
            clear hK K hHeld
            try simp only [Act.put]
            refine wpAnyH_ready (rs := [1]) (by kernel_rfl) (by simp) ?_
            refine AllReadyH.cons rfl (fun K hK => ?_) AllReadyH.nil
            go_simp
            refine hK.out _ _ trivial (fun hHeld => ?_)
            clear hK K hHeld
            try simp only [Act.put]
            refine wpAnyH_ready (rs := [5]) (by kernel_rfl) (by simp) ?_
            refine AllReadyH.cons rfl (fun K hK => ?_) AllReadyH.nil
            refine step_append_rg rfl (.tmp 16) (.tmp 19) rfl W2.heap.size v l (by rfl) x y z HO3.out (by rfl) HN.out HBS.out ?_
            intro v6 w6 hown6 hb6
            obtain ⟨a6, k6, hv6, _⟩ := Ow.shape hown6
            subst hv6
            have X86 : Hid (Mg w6 w2.heap.size 49 g u v ⟨#[]⟩) := X83.out.below hb6 LX.out
            have c7 := X86.out.cells
            have f7 := X86.out.loose
            have HO6 := hid hown6
            have HB6 := hid hb6
            clear hown6 hb6
            refine hK.out _ _ trivial (fun hHeld => ?_)
            clear hK K hHeld
            try simp only [Act.put]
            refine wpAnyH_take (i := 6) (v := ?v6c) rfl (by kernel_rfl) (by kernel_rfl) (by kernel_rfl) (fun _ _ _ h => h) (Or.inl ⟨by rfl, ?hy6c⟩) (trivial) ?rest6c
            case hy6c => (intro w hSw; (try dsimp only at hSw); go_simp; try with_reducible rfl)
            try simp only [Act.put]
            refine wpAnyH_ready (rs := [7]) (by kernel_rfl) (by simp) ?_
            refine AllReadyH.cons rfl (fun K hK => ?_) AllReadyH.nil
            go_simp
            refine hK.out _ _ trivial (fun hHeld => ?_)
            clear hK K hHeld
            try simp only [Act.put]
            refine wpAnyH_done (by kernel_rfl) ?_ _
            go_wp2
            have l1 := LK.out
            have l2 := L2.out
            have l3 := LX.out
            have e6 : (l ++ [(x, y, z)]).length = l.length + 1 := by simp
            have HO7 : Hid (Ow w6 W2.heap.size (.slice a6 (l.length + 1) k6) (l ++ [(x, y, z)])) := by have h := HO6.out; rw [e6] at h; exact h
            go_roundw
            case rel => exact ⟨i + 1, l ++ [(x, y, z)], .slice a6 (l.length + 1) k6, c, by omega, by go_num, (by show _ = _; rw [List.length_append, HL.out]; rfl), X86.out.s2 _, own_far HO7.out l3 2 _, (HD.out.below HB6.out (by omega)).far _ (by omega), rds_reg HP.out HR.out, (X43.out.below HB6.out (by omega)).far _ (by omega), wst_new (grown_under XG3.out HB6.out (by omega)) (by omega) 2 _, (by show _ ≤ _; have := HBS.out; have := HB6.out.size; simp [World.setCell]; omega)⟩
            case measure => simp [intOf]; omega
    · have HL3 : Hid (l.length = 3) := by show _ = _; rw [HL.out]; omega
      have P11 : Hid (rds s a 11 = some (g :: u :: flat l, b)) := by
        have h := HP.out
        rw [show (g :: u :: flat l).length = 11 by simp [flat_len, HL3.out]] at h
        exact h
      obtain ⟨a8, k8, hv8, _⟩ := Ow.shape XO.out
      rw [HL3.out] at hv8
      subst hv8
      clear c8 f8 X7d
      go_wp2_with fail
      refine (short_any k s b _ HSZ.out X7.out).mono ?_; rintro e w3 (⟨t, c, hr, rfl, hd, hg⟩ | ⟨hr, rfl, hg⟩)
      case inr =>
        have H : Hid (rm6 s a = zero6) := rm6_short P11.out hr
        have G := hid (wtr XG.out hg)
        clear hr hg
        go_wp2_with fail
        exact ⟨rfl, Or.inr ⟨H.out, rfl, G.out⟩⟩
      have HS := hid hr
      have l1 := LK.out
      have l2 := L2.out
      have l3 := LX.out
      have G3 := hid (X8.out.grown hg (by simp; omega))
      have G3' := hid (G3.out.s3 t)
      have D3 := hid (hd.far (j := w2.heap.size) (i := 3) (.string t) (by omega))
      have O3 := hid (own_far (own_kept XO.out hg (by intro j hj h; have := (XO.out.lt j hj).1; simp at h; omega)) (j := w2.heap.size) l3 3 (.string t))
      have F3 := hid ((X4.out.grown hg (by simp; omega)).far (j := w2.heap.size) (i := 3) (.string t) (by omega))
      have B3 := hid (wst_new (wtr XG.out hg) (j := w2.heap.size) (by omega) 3 (.string t))
      have c3 := G3.out.cells
      have f3 := G3.out.loose
      clear hr hd hg X8 XO X7 X4 XG l1 l2 l3
      obtain ⟨W3, hW3⟩ : ∃ W3, w3.setCell ⟨w2.heap.size, 3, none⟩ (.string t) = W3 := ⟨_, rfl⟩
      rw [hW3] at G3' D3 O3 F3 B3
      have d8 := G3'.out.cells
      obtain ⟨q, hq, cq⟩ := implMailOk_l g u a8 3 k8 l t HL3.out (by omega)
      go_wp2_with fail
      refine (cq.out _ (Ow.rs O3.out).2).mono ?_; rintro e w5 ⟨rfl, hb5⟩
      have G5 := hid (G3'.out.later hb5)
      have D5 := hid (D3.out.later hb5)
      have O5 := hid (own_later O3.out hb5)
      have F5 := hid (F3.out.later hb5)
      have B5 := hid (wtr B3.out (grown_below hb5 (some k)))
      clear d8 c3 f3 hb5 hW3
      have d8 := G5.out.cells
      have d4 := F5.out.cells
      have f4 := F5.out.loose
      cases q
      · have H : Hid (rm6 s a = zero6) := rm6_wrong P11.out HS.out hq.out.symm
        go_wp2_with fail
        refine (must_no _).mono ?_; rintro e w6 ⟨rfl, h6⟩
        subst h6
        go_wp2_with fail
        exact ⟨rfl, Or.inr ⟨H.out, rfl, B5.out⟩⟩
      · have H := hid (rm6_good P11.out HS.out hq.out.symm)
        go_wp2_with fail
        refine (must_yes _).mono ?_; rintro e w6 ⟨rfl, h6⟩
        subst h6
        go_wp2
        have d := (set4 F5.out g u (.slice a8 3 k8) t).cells
        have l1 := LK.out
        have l2 := L2.out
        have l3 := LX.out
        refine bodyPost_ret (v := .agg #[.int .i64 g, .int .i64 u, .slice a8 3 k8, .string t]) (by simp [results, Try.results67, go_sem, d]) rfl (Or.inl ⟨g, u, l, t, c, _, H.out, rfl, ?_, ?_, ?_⟩)
        · exact (((D5.out.far _ (by omega)).far _ (by omega)).far _ (by omega)).far _ (by omega)
        · exact own_base (own4 O5.out (by omega) _ _ _ _) (by omega)
        · exact wst_new (wst_new (wst_new (wst_new B5.out (Nat.le_refl _) 0 _) (Nat.le_refl _) 1 _) (Nat.le_refl _) 2 _) (Nat.le_refl _) 3 _
end Go.Proofs.Ytocfggfccbnbhaa

namespace Go.Proofs.Ytocfggfccbnbhaa
open Go.RowKit
theorem assert_yes (W : World) : (Instr.typeAssert (.iface 117 (.agg #[])) 20 117 true).run Try.prog W = .ok (.tuple #[.agg #[], .bool true]) W := by kernel_rfl
theorem assert_nil (W : World) : (Instr.typeAssert .nilIface 20 117 true).run Try.prog W = .ok (.tuple #[.agg #[], .bool false]) W := by kernel_rfl
/-- Block k holds a word. -/
def Bwd (W : World) (k : Nat) (b : Bool) : Prop := W.heap[k]? = some (.cells #[.bool b] 4 (0, 0))
theorem Bwd.new (w : World) (b : Bool) : Bwd (w.alloc (.cells #[.bool b] 4)) w.heap.size b := heap_alloc_new w _
theorem Bwd.lt {W : World} {k : Nat} {b : Bool} (h : Bwd W k b) : k < W.heap.size := (Array.getElem?_eq_some_iff.1 h).1
theorem Bwd.later {W W' : World} {k : Nat} {b : Bool} (h : Bwd W k b) (hb : Below W.heap.size W W') : Bwd W' k b := (hb.block k h.lt).trans h
theorem Bwd.grown {W W' : World} {k : Nat} {b : Bool} {r : Option Nat} (h : Bwd W k b) (hg : W.grownBy W' r) (hk : some k ≠ r) : Bwd W' k b := (hg.block k h.lt hk).trans h
theorem Bwd.cell {W : World} {k : Nat} {b : Bool} (h : Bwd W k b) : W.cell? ⟨k, 0, none⟩ = some (.bool b) := cell_of_row W k 0 _ _ _ h
theorem Bwd.loose {W : World} {k : Nat} {b : Bool} (h : Bwd W k b) : W.frozen? ⟨k, 0, none⟩ = false := frozen_of_row W k 0 _ _ h
theorem Bwd.set {W : World} {k : Nat} {b : Bool} (h : Bwd W k b) (b' : Bool) : Bwd (W.setCell ⟨k, 0, none⟩ (.bool b')) k b' := heap_setCell_same W k 0 _ _ (.bool b') h
set_option maxRecDepth 100000 in
theorem catch_panic (kb : Nat) (b0 : Bool) (older : List PanicEntry) (w : World) (hb : Bwd w kb b0) :
    CallsD Try.prog 81 #[.pointer (some ⟨kb, 0, none⟩)] (.panicking ({ v := .iface 117 (.agg #[]), recovered := false } :: older)) w fun e u' w' =>
      e = .returned (.tuple #[]) ∧ u' = .panicking ({ v := .iface 117 (.agg #[]), recovered := true } :: older) ∧ w' = (w.alloc (.cells #[] 117)).setCell ⟨kb, 0, none⟩ (.bool false) := by
  have h1 := hb.later (bpush (bre w) (.cells #[] 117))
  have hc := h1.cell
  have hz := h1.loose
  refine callsD_of_wpS Try.func81 rfl fun c₀ cs hu => ?_
  apply wpS_seq
  apply wpS_region
  simp [wpOpsS, go_sem, recoverD, hu, Try.ntmps81, Exit.thenS, assert_yes]
  apply wpS_seq
  apply wpS_region
  simp [wpOpsS, go_sem, Exit.thenS]
  refine wpS_cond (t := true) (by simp [Act.eval, Array.replicate]) ?_
  simp only [if_true]
  apply wpS_region
  simp [wpOpsS, go_sem, hc, hz, bodyPostS, results, Try.results81]
set_option maxRecDepth 100000 in
theorem catch_idle (kb : Nat) (w : World) :
    CallsD Try.prog 81 #[.pointer (some ⟨kb, 0, none⟩)] .returning w fun e u' w' => e = .returned (.tuple #[]) ∧ u' = .returning ∧ w' = w.alloc (.cells #[] 117) := by
  refine callsD_of_wpS Try.func81 rfl fun c₀ cs hu => ?_
  apply wpS_seq
  apply wpS_region
  simp [wpOpsS, go_sem, recoverD, hu, Try.ntmps81, Exit.thenS, assert_nil]
  apply wpS_seq
  apply wpS_region
  simp [wpOpsS, go_sem, Exit.thenS]
  refine wpS_cond (t := false) (by simp [Act.eval, Array.replicate]) ?_
  simp only [Bool.false_eq_true, if_false]
  refine wpS_of_wp (wp_skip ?_)
  cases c₀
  simp_all [bodyPostS, results, Try.results81]
end Go.Proofs.Ytocfggfccbnbhaa

namespace Go.Proofs.Ytocfggfccbnbhaa
open Go.RowKit Go.ChangeMaps
def mts : List M4 → ByteArray
  | [] => ⟨#[]⟩
  | m :: L => mtx m.1 m.2.1 m.2.2.1 m.2.2.2 ++ mts L
theorem mts_snoc (L : List M4) (m : M4) : mts (L ++ [m]) = mts L ++ mtx m.1 m.2.1 m.2.2.1 m.2.2.2 := by
  induction L with
  | nil => simp only [List.nil_append, mts, ba_nil, nil_ba]
  | cons a L ih => simp only [List.cons_append, mts, ih, ByteArray.append_assoc]
/-- A box's bytes ahead of its mails. -/
def bth (g : Int) (nm : ByteArray) (t b nx : Int) (n : Nat) : ByteArray := vi g ++ vi nm.size ++ nm ++ vi t ++ vi b ++ vi nx ++ vi n
def btx (g : Int) (nm : ByteArray) (t b nx : Int) (L : List M4) (G : List Int) : ByteArray := bth g nm t b nx L.length ++ mts L ++ vi G.length ++ vis G
theorem asc_gk {G : List Int} {a : Int} (h : asc a G = true) : ∀ y ∈ G, 1 ≤ y ∧ y ≤ 9999 := by
  induction G generalizing a with
  | nil => intro y hy; cases hy
  | cons x G ih =>
    simp only [asc, Bool.and_eq_true, decide_eq_true_eq, gok] at h
    intro y hy
    rcases List.mem_cons.1 hy with rfl | hy
    · exact h.1.2
    · exact ih h.2 y hy
/-- What a right box's numbers are. -/
theorem bx_txt {g : Int} {nm : ByteArray} {t b nx : Int} {L : List M4} {G : List Int} (h : bxOk g nm t b nx L G = true) :
    (1 ≤ g ∧ g ≤ 9999) ∧ nm.size ≤ 12 ∧ (0 ≤ t ∧ t ≤ 100000 ∧ 0 ≤ b ∧ b ≤ 2) ∧ (1 ≤ nx ∧ nx ≤ 10000) ∧ L.length ≤ 10 ∧ (∀ m ∈ L, mlOk m.1 m.2.1 m.2.2.1 m.2.2.2 = true) ∧ G.length ≤ 40 ∧ ∀ y ∈ G, 1 ≤ y ∧ y ≤ 9999 := by
  simp only [bxOk, bxm, gok, nmOk, stOk, gnOk, Bool.and_eq_true, decide_eq_true_eq] at h
  obtain ⟨h1, h2, h3, h4, h5, h6, h7, -⟩ := h
  refine ⟨h1, by omega, h3, h4, by omega, fun m hm => ?_, by omega, asc_gk h6.1⟩
  obtain ⟨i, hi, rfl⟩ := List.getElem_of_mem hm
  have h9 := List.all_eq_true.1 h7 i (List.mem_range.2 hi)
  unfold stp at h9
  rw [List.getElem?_eq_getElem hi] at h9
  simp only [Bool.and_eq_true] at h9
  exact h9.1
/-- A mail's bytes are not many. -/
theorem mtx_size {g u : Int} {l : List R3} {t : ByteArray} (h : mlOk g u l t = true) : (mtx g u l t).size ≤ 20000000000 := by
  simp only [mlOk, gok, flOk, Bool.and_eq_true, decide_eq_true_eq] at h
  obtain ⟨h1, h2, ⟨h3, h4⟩, h5⟩ := h
  have hr : ∀ p ∈ l, (rt p).size ≤ 3000000003 := by
    intro p hp
    have h6 := List.all_eq_true.1 h4 p hp
    simp only [okp, rgOk, stOk, Bool.and_eq_true, decide_eq_true_eq] at h6
    have a1 := vi_size p.1 (by omega)
    have a2 := vi_size p.2.1 (by omega)
    have a3 := vi_size p.2.2 (by omega)
    unfold rt
    rw [ByteArray.size_append, ByteArray.size_append]
    omega
  have hs : ∀ k : List R3, (∀ p ∈ k, (rt p).size ≤ 3000000003) → (rts k).size ≤ k.length * 3000000003 := by
    intro k
    induction k with
    | nil => intro _; exact Nat.zero_le _
    | cons p k ih =>
      intro hk
      have h7 := hk p (List.mem_cons_self ..)
      have h8 := ih (fun q hq => hk q (List.mem_cons_of_mem _ hq))
      simp only [rts, ByteArray.size_append, List.length_cons]
      omega
  have h9 := hs l hr
  have a1 := vi_size g (by omega)
  have a2 := vi_size u (by omega)
  have a3 := vi_size t.size (by omega)
  unfold mtx
  simp only [ByteArray.size_append]
  have : l.length = 3 := by simpa using h3
  rw [this] at h9
  omega
end Go.Proofs.Ytocfggfccbnbhaa

namespace Go.Proofs.Ytocfggfccbnbhaa
open Go.RowKit Go.ChangeMaps
def btR (g : Int) (nm : ByteArray) (t b nx : Int) (L : List M4) (G : List Int) : Value := if bxOk g nm t b nx L G = true then .tuple #[.string (btx g nm t b nx L G), .bool true] else .tuple #[.string ⟨#[]⟩, .bool false]
set_option maxHeartbeats 8000000 in
set_option maxRecDepth 100000 in
theorem specBoxText_any (l1 h1 l2 h2 : Nat) (g : Int) (nm : ByteArray) (t b nx : Int) (ma : Option Addr) (mn mc : Nat) (ga : Option Addr) (gn gc : Nat) (L : List M4) (G : List Int) (w : World) (hnm : nm.size ≤ 1048576) (hl : L.length = mn) (hn : mn ≤ 1048576) (hsm : Sm L) (hm : Ms l1 h1 w ma L) (hgl : G.length = gn) (hgn : gn ≤ 1048576) (hs : Is l2 h2 w ga G) :
    Calls Try.prog 6 #[.agg #[.int .i64 g, .string nm, .int .i64 t, .int .i64 b, .int .i64 nx, .slice ma mn mc, .slice ga gn gc]] w fun e w' => e = .returned (btR g nm t b nx L G) ∧ Below w.heap.size w w' := by
  obtain ⟨W0, hW0⟩ : ∃ W0, w.alloc (.cells #[.int .i64 g, .string nm, .int .i64 t, .int .i64 b, .int .i64 nx, .slice ma mn mc, .slice ga gn gc] 34) = W0 := ⟨_, rfl⟩
  have a0 : Bx W0 w.heap.size 34 g nm t b nx (.slice ma mn mc) (.slice ga gn gc) := by subst hW0; exact Bx.new w _ g nm t b nx _ _
  have b0 : Below w.heap.size w W0 := by subst hW0; exact bpush (bre _) _
  have c0 := a0.cells
  have XB := hid a0
  have HB := hid b0
  have HM := hid hm
  have HS := hid hs
  have HX := hid hsm
  have HL := hid hl
  have HG := hid hgl
  have HOK := hid (specBoxOk_any l1 h1 l2 h2 g nm t b nx ma mn mc ga gn gc L G W0 hnm hl hn hsm (hm.later b0) hgl hgn (hs.later b0))
  clear a0 b0 hm hs hsm hl hgl
  cases hok : bxOk g nm t b nx L G
  · have hE : btR g nm t b nx L G = .tuple #[.string ⟨#[]⟩, .bool false] := by unfold btR; rw [hok]; rfl
    rw [hE]
    rw [hok] at HOK
    clear hE hok
    go_enter Try.func6, Try.ntmps6
    go_wp2_with fail
    try rw [hW0]
    clear hW0
    refine HOK.out.mono ?_; rintro e w1 ⟨rfl, hb1⟩
    have B1 := hid (btr HB.out hb1)
    clear hb1 c0
    go_wp2
    go_ret2
    exact ⟨rfl, B1.out⟩
  · have hE : btR g nm t b nx L G = .tuple #[.string (btx g nm t b nx L G), .bool true] := by unfold btR; rw [hok]; rfl
    rw [hE]
    rw [hok] at HOK
    obtain ⟨p1, p2, p3, p4, p5, p6, p7, p8⟩ := bx_txt hok
    obtain ⟨x1, e1, z1, C1⟩ := var_s g (by omega) (by omega)
    obtain ⟨x2, e2, z2, C2⟩ := var_s nm.size (by omega) (by omega)
    obtain ⟨x3, e3, z3, C3⟩ := var_s t (by omega) (by omega)
    obtain ⟨x4, e4, z4, C4⟩ := var_s b (by omega) (by omega)
    obtain ⟨x5, e5, z5, C5⟩ := var_s nx (by omega) (by omega)
    obtain ⟨x6, e6, z6, C6⟩ := var_s mn (by omega) (by have := HL.out; omega)
    obtain ⟨x7, e7, z7, C7⟩ := var_s gn (by omega) (by have := HG.out; omega)
    have P6 := hid p6
    have P8 := hid p8
    have hmn : mn ≤ 10 := by rw [← HL.out]; exact p5
    have hgn4 : gn ≤ 40 := by rw [← HG.out]; exact p7
    clear hE hok hn hgn p1 p3 p4 p5 p6 p7 p8
    go_enter Try.func6, Try.ntmps6
    go_wp2_with fail
    try rw [hW0]
    clear hW0
    refine HOK.out.mono ?_; rintro e w1 ⟨rfl, hb1⟩
    replace XB := hid (XB.out.later hb1)
    replace HB := hid (btr HB.out hb1)
    clear hb1 c0
    go_wp2_with fail
    have HSS : Hid (∀ W, Bx W w.heap.size 34 g nm t b nx (.slice ma mn mc) (.slice ga gn gc) → (W.cell? ⟨w.heap.size, 0, none⟩ = some (.int .i64 g) ∧ W.cell? ⟨w.heap.size, 1, none⟩ = some (.string nm) ∧ W.cell? ⟨w.heap.size, 2, none⟩ = some (.int .i64 t) ∧ W.cell? ⟨w.heap.size, 3, none⟩ = some (.int .i64 b) ∧ W.cell? ⟨w.heap.size, 4, none⟩ = some (.int .i64 nx) ∧ W.cell? ⟨w.heap.size, 5, none⟩ = some (.slice ma mn mc) ∧ W.cell? ⟨w.heap.size, 6, none⟩ = some (.slice ga gn gc))) := hid (fun W h => h.cells)
    have q1 : (9223372036854775807 < x1.size + x2.size) = False := eq_false (by omega)
    have q2 : (9223372036854775807 < x1.size + x2.size + nm.size) = False := eq_false (by omega)
    have q3 : (9223372036854775807 < x1.size + x2.size + nm.size + x3.size) = False := eq_false (by omega)
    have q4 : (9223372036854775807 < x1.size + x2.size + nm.size + x3.size + x4.size) = False := eq_false (by omega)
    have q5 : (9223372036854775807 < x1.size + x2.size + nm.size + x3.size + x4.size + x5.size) = False := eq_false (by omega)
    have q6 : (9223372036854775807 < x1.size + x2.size + nm.size + x3.size + x4.size + x5.size + x6.size) = False := eq_false (by omega)
    refine wp_region_noPanic ?_
    refine wp_region_held_drew (S := (fun W => (W.cell? ⟨w.heap.size, 0, none⟩ = some (.int .i64 g) ∧ W.cell? ⟨w.heap.size, 1, none⟩ = some (.string nm) ∧ W.cell? ⟨w.heap.size, 2, none⟩ = some (.int .i64 t) ∧ W.cell? ⟨w.heap.size, 3, none⟩ = some (.int .i64 b) ∧ W.cell? ⟨w.heap.size, 4, none⟩ = some (.int .i64 nx) ∧ W.cell? ⟨w.heap.size, 5, none⟩ = some (.slice ma mn mc) ∧ W.cell? ⟨w.heap.size, 6, none⟩ = some (.slice ga gn gc)))) (by kernel_rfl) (HSS.out _ (XB.out.later (bdr (bre _)))) (fun hHeld => ?_)
    refine tk 0 ?_
    refine tk 1 ?_
    refine tk 3 ?_
    refine tk 4 ?_
    refine tk 5 ?_
    refine tk 8 ?_
    refine tk 9 ?_
    refine tk 11 ?_
    refine tk 12 ?_
    refine tk 13 ?_
    refine tk 16 ?_
    refine tk 17 ?_
    refine tk 18 ?_
    refine tk 21 ?_
    refine tk 22 ?_
    refine tk 25 ?_
    refine tk 26 ?_
    refine tk 27 ?_
    clear hHeld
    refine ry 2 (fun K hK => ?_)
    go_simp
    refine (C1.out _).mono ?_; rintro e w2 ⟨rfl, hbx⟩
    replace hbx := btr (bdr (bre _)) hbx
    replace XB := hid (XB.out.later hbx)
    replace HB := hid (btr HB.out hbx)
    clear hbx
    go_wp2_with fail
    refine hK.out _ _ (HSS.out _ XB.out) (fun hHeld => ?_)
    clear hK K
    try simp only [Act.put, List.setIfInBounds_toArray, List.set_cons_zero, List.set_cons_succ]
    clear hHeld
    refine ry 6 (fun K hK => ?_)
    go_simp
    refine (C2.out _).mono ?_; rintro e w3 ⟨rfl, hbx⟩
    replace XB := hid (XB.out.later hbx)
    replace HB := hid (btr HB.out hbx)
    clear hbx
    go_wp2_with fail
    refine hK.out _ _ (HSS.out _ XB.out) (fun hHeld => ?_)
    clear hK K
    try simp only [Act.put, List.setIfInBounds_toArray, List.set_cons_zero, List.set_cons_succ]
    refine tk 7 ?_
    refine tk 10 ?_
    clear hHeld
    refine ry 14 (fun K hK => ?_)
    go_simp
    refine (C3.out _).mono ?_; rintro e w4 ⟨rfl, hbx⟩
    replace XB := hid (XB.out.later hbx)
    replace HB := hid (btr HB.out hbx)
    clear hbx
    go_wp2_with fail
    refine hK.out _ _ (HSS.out _ XB.out) (fun hHeld => ?_)
    clear hK K
    try simp only [Act.put, List.setIfInBounds_toArray, List.set_cons_zero, List.set_cons_succ]
    refine tk 15 ?_
    clear hHeld
    refine ry 19 (fun K hK => ?_)
    go_simp
    refine (C4.out _).mono ?_; rintro e w5 ⟨rfl, hbx⟩
    replace XB := hid (XB.out.later hbx)
    replace HB := hid (btr HB.out hbx)
    clear hbx
    go_wp2_with fail
    refine hK.out _ _ (HSS.out _ XB.out) (fun hHeld => ?_)
    clear hK K
    try simp only [Act.put, List.setIfInBounds_toArray, List.set_cons_zero, List.set_cons_succ]
    refine tk 20 ?_
    clear hHeld
    refine ry 23 (fun K hK => ?_)
    go_simp
    refine (C5.out _).mono ?_; rintro e w6 ⟨rfl, hbx⟩
    replace XB := hid (XB.out.later hbx)
    replace HB := hid (btr HB.out hbx)
    clear hbx
    go_wp2_with fail
    refine hK.out _ _ (HSS.out _ XB.out) (fun hHeld => ?_)
    clear hK K
    try simp only [Act.put, List.setIfInBounds_toArray, List.set_cons_zero, List.set_cons_succ]
    refine tk 24 ?_
    clear hHeld
    refine ry 28 (fun K hK => ?_)
    go_simp
    refine (C6.out _).mono ?_; rintro e w7 ⟨rfl, hbx⟩
    replace XB := hid (XB.out.later hbx)
    replace HB := hid (btr HB.out hbx)
    clear hbx
    go_wp2_with fail
    refine hK.out _ _ (HSS.out _ XB.out) (fun hHeld => ?_)
    clear hK K
    try simp only [Act.put, List.setIfInBounds_toArray, List.set_cons_zero, List.set_cons_succ]
    refine tk 29 ?_
    refine tk 30 ?_
    refine wpAnyH_done (by kernel_rfl) ?_ _
    refine NoPanic.normal ?_
    clear hHeld q1 q2 q3 q4 q5 q6
    obtain ⟨th, hth⟩ : ∃ s, x1 ++ x2 ++ nm ++ x3 ++ x4 ++ x5 ++ x6 = s := ⟨_, rfl⟩
    have HTH : Hid (th = bth g nm t b nx L.length) := hid (by rw [← hth, e1.out, e2.out, e3.out, e4.out, e5.out, e6.out, HL.out]; rfl)
    have hthz : th.size ≤ 7000000100 := by rw [← hth]; simp only [ByteArray.size_append]; omega
    rw [hth]
    clear hth z1 z2 z3 z4 z5 z6 C1 C2 C3 C4 C5 C6 HOK
    go_wp2
    go_loopw [4, 5] (fun sv iv wr => ∃ (i : Nat) (s : ByteArray), i ≤ mn ∧ iv = .int .i64 (i : Int) ∧ sv = .string s ∧ Hid (s = th ++ mts (L.take i)) ∧ Hid (s.size ≤ 7000000100 + i * 20000000000) ∧ Bx wr w.heap.size 34 g nm t b nx (.slice ma mn mc) (.slice ga gn gc) ∧ Below w.heap.size w wr) (fun _ iv _ => mn - (intOf iv).toNat)
    case atStart => exact ⟨0, th, Nat.zero_le _, rfl, rfl, by show th = th ++ mts []; rw [show mts [] = ⟨#[]⟩ from rfl, nil_ba], by show _ ≤ _; omega, XB.out, HB.out⟩
    case round =>
      obtain ⟨i, s, hi, rfl, rfl, HT, HZ, hx, hb⟩ := hrel
      replace XB := hid hx
      replace HB := hid hb
      have c0 := XB.out.cells
      clear hx hb
      by_cases hlt : i < mn
      · have hil : i < L.length := by rw [HL.out]; exact hlt
        obtain ⟨k, o, fa, fc, hka, hkk, d, hrs, _⟩ := (HM.out.later HB.out).at hil
        have hok := P6.out L[i] (List.getElem_mem hil)
        have hsz := mtx_size hok
        have htk : mts (L.take (i + 1)) = mts (L.take i) ++ mtx L[i].1 L[i].2.1 L[i].2.2.1 L[i].2.2.2 := by rw [List.take_succ_eq_append_getElem hil, mts_snoc]
        have hfl := (HX.out L[i] (List.getElem_mem hil)).1
        obtain ⟨q, hq⟩ : ∃ q, L[i] = q := ⟨_, rfl⟩
        obtain ⟨g2, u, fl, tx⟩ := q
        rw [hq] at d hrs hok hsz htk hfl
        dsimp only at d hrs hok hsz htk hfl
        have CT := specMailText_any g2 u fa fl.length fc fl tx wr rfl hfl hrs
        have hE2 : mtR g2 u fl tx = .tuple #[.string (mtx g2 u fl tx), .bool true] := by unfold mtR; rw [hok]; rfl
        rw [hE2] at CT
        obtain ⟨xm, hxm⟩ : ∃ x, mtx g2 u fl tx = x := ⟨_, rfl⟩
        obtain ⟨lf, hlf⟩ : ∃ n, fl.length = n := ⟨_, rfl⟩
        rw [hxm] at CT hsz htk
        rw [hlf] at CT d
        have HCT := hid CT
        have HTK := hid htk
        subst hka
        have hI : (0 : Int) ≤ (i : Int) ∧ (i : Int) < (mn : Int) := by omega
        have hz := HZ.out
        have q1 : (9223372036854775807 < s.size + xm.size) = False := eq_false (by omega)
        clear hq hok hfl hE2 hxm hlf CT htk hrs
        go_wp2_with fail
        refine HCT.out.mono ?_; rintro e w9 ⟨rfl, hb9⟩
        replace XB := hid (XB.out.later hb9)
        replace HB := hid (btr HB.out hb9)
        clear hb9 d c0 HCT
        go_wp2
        clear q1
        go_roundw
        case rel => exact ⟨i + 1, s ++ xm, by omega, by go_num, rfl, by show _ = _; rw [HTK.out, HT.out, ByteArray.append_assoc], by show _ ≤ _; rw [ByteArray.size_append]; omega, XB.out, HB.out⟩
        case measure => simp [intOf]; omega
      · have HT2 : Hid (s = th ++ mts L) := hid (by have := HT.out; rwa [List.take_of_length_le (by rw [HL.out]; omega)] at this)
        have hz := HZ.out
        have q1 : (9223372036854775807 < s.size + x7.size) = False := eq_false (by omega)
        have q2 : (9223372036854775807 < s.size) = False := eq_false (by omega)
        go_wp2_with fail
        refine (C7.out _).mono ?_; rintro e w9 ⟨rfl, hb9⟩
        replace XB := hid (XB.out.later hb9)
        replace HB := hid (btr HB.out hb9)
        clear hb9 c0 HT HZ
        go_wp2
        clear q1 q2
        obtain ⟨s2, hs2⟩ : ∃ x, s ++ x7 = x := ⟨_, rfl⟩
        have HS2 : Hid (s2 = bth g nm t b nx L.length ++ mts L ++ vi G.length) := hid (by rw [← hs2, HT2.out, HTH.out, e7.out, HG.out])
        have hz2 : s2.size ≤ 300000000000 := by rw [← hs2, ByteArray.size_append]; omega
        rw [hs2]
        clear hs2 hz
        go_loopw [4, 8] (fun sv iv wr => ∃ (i : Nat) (s : ByteArray), i ≤ gn ∧ iv = .int .i64 (i : Int) ∧ sv = .string s ∧ Hid (s = s2 ++ vis (G.take i)) ∧ Hid (s.size ≤ 300000000000 + i * 1000000001) ∧ Bx wr w.heap.size 34 g nm t b nx (.slice ma mn mc) (.slice ga gn gc) ∧ Below w.heap.size w wr) (fun _ iv _ => gn - (intOf iv).toNat)
        case atStart => exact ⟨0, s2, Nat.zero_le _, rfl, rfl, by show s2 = s2 ++ vis []; rw [show vis [] = ⟨#[]⟩ from rfl, nil_ba], by show _ ≤ _; omega, XB.out, HB.out⟩
        case round =>
          obtain ⟨j, s3, hj, rfl, rfl, HT3, HZ3, hx, hb⟩ := hrel
          replace XB := hid hx
          replace HB := hid hb
          have c0 := XB.out.cells
          clear hx hb
          by_cases hlt2 : j < gn
          · have hjl : j < G.length := by rw [HG.out]; exact hlt2
            obtain ⟨k, o, hka, hkk, d⟩ := (HS.out.later HB.out).at hjl
            have hp := P8.out G[j] (List.getElem_mem hjl)
            have htk : vis (G.take (j + 1)) = vis (G.take j) ++ vi G[j] := by rw [List.take_succ_eq_append_getElem hjl, vis_snoc]
            obtain ⟨x, hx⟩ : ∃ x, G[j] = x := ⟨_, rfl⟩
            rw [hx] at d hp htk
            obtain ⟨xv, ev, zv, CV⟩ := var_s x (by omega) (by omega)
            rw [← ev.out] at htk
            have HTK := hid htk
            subst hka
            have hI : (0 : Int) ≤ (j : Int) ∧ (j : Int) < (gn : Int) := by omega
            have hz := HZ3.out
            have q1 : (9223372036854775807 < s3.size + xv.size) = False := eq_false (by omega)
            clear hx hp htk ev
            go_wp2_with fail
            refine (CV.out _).mono ?_; rintro e w10 ⟨rfl, hb10⟩
            replace XB := hid (XB.out.later hb10)
            replace HB := hid (btr HB.out hb10)
            clear hb10 d c0 CV
            go_wp2
            clear q1
            go_roundw
            case rel => exact ⟨j + 1, s3 ++ xv, by omega, by go_num, rfl, by show _ = _; rw [HTK.out, HT3.out, ByteArray.append_assoc], by show _ ≤ _; rw [ByteArray.size_append]; omega, XB.out, HB.out⟩
            case measure => simp [intOf]; omega
          · have HT4 : Hid (s3 = btx g nm t b nx L G) := hid (by have := HT3.out; rw [List.take_of_length_le (by rw [HG.out]; omega), HS2.out] at this; exact this)
            go_wp2
            go_ret2
            exact ⟨by rw [← HT4.out]; rfl, HB.out⟩
end Go.Proofs.Ytocfggfccbnbhaa

namespace Go.Proofs.Ytocfggfccbnbhaa
open Go.RowKit Go.ChangeMaps
theorem vbs_k : ∀ (k n : Nat), n < 128 ^ (k + 1) → (vbs n).length ≤ k + 1
  | 0, n, h => by rw [vbs_small n (by omega)]; simp
  | k + 1, n, h => by
    by_cases hn : n < 128
    · rw [vbs_small n (by omega)]; simp
    · rw [vbs_big n (by omega)]
      have := vbs_k k (n / 128) (by rw [Nat.pow_succ] at h; omega)
      simp; omega
theorem vi_k (k : Nat) (n : Int) (h : n < 128 ^ (k + 1)) : (vi n).size ≤ k + 1 := by
  have h2 : n.toNat < 128 ^ (k + 1) := by
    have h3 : ((128 : Int) ^ (k + 1)) = ((128 ^ (k + 1) : Nat) : Int) := by simp
    rw [h3] at h
    have h4 : 0 < 128 ^ (k + 1) := Nat.pow_pos (by decide)
    omega
  have := vbs_k k n.toNat h2
  show (vbs n.toNat).toArray.size ≤ _
  simpa using this
theorem vi_1 {n : Int} (h : n ≤ 127) : (vi n).size ≤ 1 := vi_k 0 n (by omega)
theorem vi_2 {n : Int} (h : n ≤ 10000) : (vi n).size ≤ 2 := vi_k 1 n (by omega)
theorem vi_3 {n : Int} (h : n ≤ 100000) : (vi n).size ≤ 3 := vi_k 2 n (by omega)
theorem mtx_80 {g u : Int} {l : List R3} {t : ByteArray} (h : mlOk g u l t = true) : (mtx g u l t).size ≤ 80 := by
  simp only [mlOk, gok, flOk, Bool.and_eq_true, decide_eq_true_eq] at h
  obtain ⟨h1, h2, ⟨h3, h4⟩, h5⟩ := h
  have hr : ∀ p ∈ l, (rt p).size ≤ 5 := by
    intro p hp
    have h6 := List.all_eq_true.1 h4 p hp
    simp only [okp, rgOk, stOk, Bool.and_eq_true, decide_eq_true_eq] at h6
    have a1 := vi_1 (n := p.1) (by omega)
    have a2 := vi_3 (n := p.2.1) (by omega)
    have a3 := vi_1 (n := p.2.2) (by omega)
    unfold rt
    rw [ByteArray.size_append, ByteArray.size_append]
    omega
  have hs : ∀ k : List R3, (∀ p ∈ k, (rt p).size ≤ 5) → (rts k).size ≤ k.length * 5 := by
    intro k
    induction k with
    | nil => intro _; exact Nat.zero_le _
    | cons p k ih =>
      intro hk
      have h7 := hk p (List.mem_cons_self ..)
      have h8 := ih (fun q hq => hk q (List.mem_cons_of_mem _ hq))
      simp only [rts, ByteArray.size_append, List.length_cons]
      omega
  have h9 := hs l hr
  have a1 := vi_2 (n := g) (by omega)
  have a2 := vi_2 (n := u) (by omega)
  have a3 := vi_1 (n := (t.size : Int)) (by omega)
  unfold mtx
  simp only [ByteArray.size_append]
  have : l.length = 3 := by simpa using h3
  rw [this] at h9
  omega
theorem mts_80 {L : List M4} (h : ∀ m ∈ L, mlOk m.1 m.2.1 m.2.2.1 m.2.2.2 = true) : (mts L).size ≤ L.length * 80 := by
  induction L with
  | nil => exact Nat.zero_le _
  | cons m L ih =>
    have h1 := mtx_80 (h m (List.mem_cons_self ..))
    have h2 := ih (fun q hq => h q (List.mem_cons_of_mem _ hq))
    simp only [mts, ByteArray.size_append, List.length_cons]
    omega
theorem vis_2 {G : List Int} (h : ∀ y ∈ G, 1 ≤ y ∧ y ≤ 9999) : (vis G).size ≤ G.length * 2 := by
  induction G with
  | nil => exact Nat.zero_le _
  | cons m L ih =>
    have h1 := vi_2 (n := m) (by have := h m (List.mem_cons_self ..); omega)
    have h2 := ih (fun q hq => h q (List.mem_cons_of_mem _ hq))
    simp only [vis, ByteArray.size_append, List.length_cons]
    omega
theorem btx_size {g : Int} {nm : ByteArray} {t b nx : Int} {L : List M4} {G : List Int} (h : bxOk g nm t b nx L G = true) : (btx g nm t b nx L G).size ≤ 903 := by
  obtain ⟨p1, p2, p3, p4, p5, p6, p7, p8⟩ := bx_txt h
  have a1 := vi_2 (n := g) (by omega)
  have a2 := vi_1 (n := (nm.size : Int)) (by omega)
  have a3 := vi_3 (n := t) (by omega)
  have a4 := vi_1 (n := b) (by omega)
  have a5 := vi_2 (n := nx) (by omega)
  have a6 := vi_1 (n := (L.length : Int)) (by omega)
  have a7 := vi_1 (n := (G.length : Int)) (by omega)
  have a8 := mts_80 p6
  have a9 := vis_2 p8
  unfold btx bth
  simp only [ByteArray.size_append]
  omega
end Go.Proofs.Ytocfggfccbnbhaa

namespace Go.Proofs.Ytocfggfccbnbhaa
open Go.RowKit Go.ChangeMaps
/-- As many numbers as are told, but at most mo and one more. -/
def rints (s : ByteArray) (a : Int) (mo : Int) : Option (List Int × Int) := (rd s a).bind fun p => rds s p.2 (min p.1 (mo + 1)).toNat
/-- What was read so far, or it went bad. -/
def Rk {α : Type} (o : Option (α × Int)) (x : α) (b : Int) (bad : Bool) : Prop := (bad = false ∧ o = some (x, b)) ∨ (bad = true ∧ o = none)
theorem Rk.start (a : Int) : Rk (some ((), a)) () a false := Or.inl ⟨rfl, rfl⟩
theorem Rk.var {α : Type} {o : Option (α × Int)} {x : α} {s : ByteArray} {b : Int} {bad : Bool} {n b' : Int} {bad' : Bool} (h : Rk o x b bad) (hn : nxt s b bad n b' bad') :
    Rk (o.bind fun p => (rd s p.2).map fun q => ((p.1, q.1), q.2)) (x, n) b' bad' := by
  rcases h with ⟨h1, h2⟩ | ⟨h1, h2⟩
  · rcases hn with ⟨_, g2, g3⟩ | ⟨g1, _, _, g4⟩
    · exact Or.inl ⟨g2, by rw [h2]; simp only [Option.bind_some, g3, Option.map_some]⟩
    · rcases g4 with g4 | g4
      · rw [h1] at g4; cases g4
      · exact Or.inr ⟨g1, by rw [h2]; simp only [Option.bind_some, g4, Option.map_none]⟩
  · rcases hn with ⟨g1, _, _⟩ | ⟨g1, _, _, _⟩
    · rw [h1] at g1; cases g1
    · exact Or.inr ⟨g1, by rw [h2]; rfl⟩
theorem Rk.short {α : Type} {o : Option (α × Int)} {x : α} {s : ByteArray} {b : Int} {bad : Bool} {t : ByteArray} {b' : Int} {bad' : Bool} (h : Rk o x b bad) (hn : nxtS s b bad t b' bad') :
    Rk (o.bind fun p => (rsh s p.2).map fun q => ((p.1, q.1), q.2)) (x, t) b' bad' := by
  rcases h with ⟨h1, h2⟩ | ⟨h1, h2⟩
  · rcases hn with ⟨_, g2, g3⟩ | ⟨g1, _, _, g4⟩
    · exact Or.inl ⟨g2, by rw [h2]; simp only [Option.bind_some, g3, Option.map_some]⟩
    · rcases g4 with g4 | g4
      · rw [h1] at g4; cases g4
      · exact Or.inr ⟨g1, by rw [h2]; simp only [Option.bind_some, g4, Option.map_none]⟩
  · rcases hn with ⟨g1, _, _⟩ | ⟨g1, _, _, _⟩
    · rw [h1] at g1; cases g1
    · exact Or.inr ⟨g1, by rw [h2]; rfl⟩
/-- How a call ends that reads numbers by the cursor at block k. -/
def Ints1 (w : World) (k : Nat) (s : ByteArray) (b : Int) (bad : Bool) (mo : Int) (e : Ending) (w' : World) : Prop :=
  ∃ G gv b' bad', e = .returned gv ∧ OwI w' w.heap.size gv G ∧ Cg w' k s b' bad' ∧ ((bad = false ∧ bad' = false ∧ rints s b mo = some (G, b')) ∨ (bad' = true ∧ (bad = true ∨ rints s b mo = none))) ∧ w.grownBy w' (some k) ∧ G.length ≤ 101
def Iq (s : ByteArray) (b1 : Int) (bad1 : Bool) (G : List Int) (b2 : Int) (bad2 : Bool) : Prop := (bad1 = true ∧ bad2 = true) ∨ (bad1 = false ∧ SS s b1 G b2 bad2)
theorem Iq.start (s : ByteArray) (b1 : Int) (bad1 : Bool) : Iq s b1 bad1 [] b1 bad1 := by
  cases bad1
  · exact Or.inr ⟨rfl, SS.start s b1⟩
  · exact Or.inl ⟨rfl, rfl⟩
/-- What numbers come to at the end. -/
theorem Iq.fin {s : ByteArray} {b : Int} {bad : Bool} {n b1 : Int} {bad1 : Bool} {mo : Int} {G : List Int} {b2 : Int} {bad2 : Bool} (hn : nxt s b bad n b1 bad1) (h : Iq s b1 bad1 G b2 bad2) (hm : bad2 = true ∨ G.length = (min n (mo + 1)).toNat) (hl : G.length ≤ (min n (mo + 1)).toNat) :
    (bad = false ∧ bad2 = false ∧ rints s b mo = some (G, b2)) ∨ (bad2 = true ∧ (bad = true ∨ rints s b mo = none)) := by
  rcases hn with ⟨h1, h2, h3⟩ | ⟨h1, _, _, h4⟩
  · rcases h with ⟨h5, _⟩ | ⟨_, h5⟩
    · rw [h2] at h5; cases h5
    · rcases h5 with ⟨h6, h7⟩ | ⟨h6, h7⟩
      · rcases hm with h8 | h8
        · rw [h6] at h8; cases h8
        · refine Or.inl ⟨h1, h6, ?_⟩
          unfold rints
          rw [h3]
          simp only [Option.bind_some]
          rw [← h8, h7]
      · refine Or.inr ⟨h6, Or.inr ?_⟩
        unfold rints
        rw [h3]
        simp only [Option.bind_some]
        have h9 := rds_dead h7 ((min n (mo + 1)).toNat - G.length)
        rwa [show G.length + ((min n (mo + 1)).toNat - G.length) = (min n (mo + 1)).toNat by omega] at h9
  · rcases h with ⟨_, h5⟩ | ⟨h5, _⟩
    · exact Or.inr ⟨h5, h4.imp id (fun h => by unfold rints; rw [h]; rfl)⟩
    · rw [h1] at h5; cases h5
theorem grown_alloc {a w : World} {r : Option Nat} (h : a.grownBy w r) (o : Obj) : a.grownBy (w.alloc o) r :=
  ⟨h.os, h.tape, h.output, by have := h.size; simp; omega, fun i hi hr => (RowKit.Below.heap_alloc w o i (Nat.lt_of_lt_of_le hi h.size)).trans (h.block i hi hr)⟩
theorem grown_up {a w w' : World} {r : Option Nat} {B : Nat} (h : a.grownBy w r) (hb : Below B w w') (hB : a.heap.size ≤ B) : a.grownBy w' r :=
  ⟨hb.os.trans h.os, hb.tape.trans h.tape, hb.output.trans h.output, Nat.le_trans h.size hb.size, fun i hi hr => (hb.block i (by omega)).trans (h.block i hi hr)⟩
theorem ownI_far {W W' : World} {B k : Nat} {v : Value} {G : List Int} (h : OwI W B v G) (hg : W.grownBy W' (some k)) (hk : k < B) : OwI W' B v G :=
  World.ownsRow.kept h hg (by
    cases hv : v.ownBlock with
    | none => exact Or.inl rfl
    | some j => exact Or.inr (fun e => by have := (World.ownsRow.lt h j hv).1; simp at e; omega))
theorem cell_one_i10 (w : World) (n : Int) (e : Nat) : ∀ (j : Nat) (u : Value), ([Value.int .i64 n] : List Value)[j]? = some u → (w.alloc (.cells #[.int .i64 n] e)).cell? ((⟨w.heap.size, 0, none⟩ : Addr).add j) = some u := by
  intro j u hj
  match j, hj with
  | 0, hj =>
    simp only [List.getElem?_cons_zero, Option.some.injEq] at hj
    subst hj
    exact cell_of_row _ w.heap.size 0 _ _ _ (heap_alloc_new w _)
  | j + 1, hj => simp at hj
theorem wpList_append_i10 (w : World) {ops : Array Oper} {rest : List Oper} {o : Oper} {a : Act} {Q : Exit → Act → World → Prop} (hgd : o.guard = none) (s x : Operand)
    (ho : o.op = .call { callee := .builtin .append, args := #[s, x], argTypes := #[25, 25] })
    (base : Nat) (v : Value) (bs : List Int) (hs : a.eval s = v) (hown : OwI w base v bs) (n : Int)
    (hx : a.eval x = .slice (some ⟨w.heap.size, 0, none⟩) 1 1) (hlen : bs.length ≤ 9000000) (hbase : base ≤ w.heap.size)
    (h : ∀ v' w', OwI w' base v' (bs ++ [n]) → Below base w w' → wpList Try.prog ops Q rest (a.put o.dst v') w') :
    wpList Try.prog ops Q (o :: rest) a (w.alloc (.cells #[.int .i64 n] 3)) := by
  obtain ⟨i0, hi, hz0, hz1, hz2⟩ := info_parts3 info_int
  refine wpList_append_own _ hgd s x 25 ho base 3 i0 (.int .i64 0) 1 8 Try.underlying25 hi hz0 hz1 hz2 rfl (by decide) v _ _ hs (hown.alloc _) ⟨w.heap.size, 0, none⟩ 1 1 [.int .i64 n] hx rfl (cell_one_i10 _ _ _) (by intro u hu; simp at hu; subst hu; rfl) (by unfold maxLen; omega) (by omega) (by simp; omega) ?_
  intro v' w' hown' hg _
  refine h v' w' (by simpa [OwI] using hown') (((Below.refl base w).alloc hbase _).grown hg (by simp; omega) (fun k hk => (hown.lt k hk).1))
set_option maxHeartbeats 1600000 in
set_option maxRecDepth 100000 in
theorem l10Ints_any (k : Nat) (s : ByteArray) (b : Int) (bad : Bool) (mo : Int) (w : World) (hs : s.size ≤ 1048576) (hc : Cg w k s b bad) (hmo : 0 ≤ mo ∧ mo ≤ 100) :
    Calls Try.prog 36 #[.pointer (some ⟨k, 0, none⟩), .int .i64 mo] w fun e w' => Ints1 w k s b bad mo e w' := by
  have HK := hid hc.lt
  have HC := hid hc
  have HSZ := hid hs
  clear hc hs
  go_enter Try.func36, Try.ntmps36
  go_wp2_with fail
  refine (l05Var_any k s b bad _ HSZ.out HC.out).mono ?_; rintro e w1 ⟨n, b1, bad1, rfl, hc1, hn1, hg1⟩
  have HN := hid hn1
  have C1 := hid (hc1.later (bpush (bre _) (.cells #[] 3)))
  have G1 := hid (grown_alloc hg1 (.cells #[] 3))
  have hs1 := hg1.size
  have O1 := hid (ownI_empty w1 w.heap.size hs1)
  have hnn : 0 ≤ n ∧ n ≤ 1000000000 := by
    rcases hn1 with ⟨_, _, h⟩ | ⟨_, h, _⟩
    · have := rd_some h; omega
    · omega
  clear hc1 hg1 HC hn1
  go_wp2
  obtain ⟨w2, hw2⟩ : ∃ x, w1.alloc (.cells #[] 3) = x := ⟨_, rfl⟩
  rw [hw2] at C1 G1 O1
  rw [hw2]
  clear hw2
  obtain ⟨mx, hmx⟩ : ∃ m : Nat, (m : Int) = min n (mo + 1) := ⟨(min n (mo + 1)).toNat, by omega⟩
  have HMX : Hid (mx = (min n (mo + 1)).toNat) := hid (by omega)
  go_loopw [6, 7] (fun ov iv wr => ∃ (i : Nat) (G : List Int) (b2 : Int) (bad2 : Bool), i ≤ mx ∧ iv = .int .i64 (i : Int) ∧ Hid (G.length = i) ∧ OwI wr w.heap.size ov G ∧ Cg wr k s b2 bad2 ∧ Hid (Iq s b1 bad1 G b2 bad2) ∧ w.grownBy wr (some k)) (fun _ iv _ => mx - (intOf iv).toNat)
  case atStart => exact ⟨0, [], b1, bad1, Nat.zero_le _, rfl, rfl, O1.out, C1.out, Iq.start s b1 bad1, G1.out⟩
  case round =>
    obtain ⟨i, G, b2, bad2, hi, rfl, HL, ho, hc, HQ, hg⟩ := hrel
    have XO := hid ho
    have XC := hid hc
    have XG := hid hg
    have c0 := hc.cells
    clear ho hc hg O1 C1 G1
    by_cases hlt : (i : Int) < n
    · by_cases hle : (i : Int) ≤ mo
      · cases bad2
        · have HQ2 : Hid (bad1 = false ∧ SS s b1 G b2 false) := hid (by rcases HQ.out with ⟨_, h⟩ | h; (cases h); exact h)
          go_wp2_with fail
          refine (l05Var_any k s b2 false _ HSZ.out XC.out).mono ?_; rintro e w3 ⟨x, b3, bad3, rfl, hc3, hn3, hg3⟩
          have S3 := hid (HQ2.out.2.next hn3)
          have O3 := hid (ownI_far XO.out hg3 HK.out)
          have G3 := hid (wtr XG.out hg3)
          have C3 := hid hc3
          have hs3 := G3.out.size
          have hgl : G.length ≤ 9000000 := by rw [HL.out]; omega
          obtain ⟨a9, c9, e9, _⟩ := OwI.shape O3.out
          subst e9
          clear hc3 hn3 hg3 c0
          go_wp2_with (at_builtin; refine wpList_append_i10 _ rfl _ _ rfl w.heap.size _ G (by rfl) O3.out x (by rfl) hgl hs3 ?_; intro v4 w4 hown4 hb4)
          have C4 := hid (C3.out.below hb4 HK.out)
          have G4 := hid (grown_up G3.out hb4 (Nat.le_refl _))
          have O4 := hid hown4
          obtain ⟨a8, c8, e8, _⟩ := OwI.shape hown4
          subst e8
          clear hown4 hb4
          go_roundw
          case rel => exact ⟨i + 1, G ++ [x], b3, bad3, by omega, by go_num, hid (by show (G ++ [x]).length = i + 1; rw [List.length_append, HL.out]; rfl), O4.out, C4.out, Or.inr ⟨HQ2.out.1, S3.out⟩, G4.out⟩
          case measure => simp [intOf]; omega
        · go_wp2
          go_ret
          exact ⟨G, _, b2, _, rfl, XO.out, XC.out, Iq.fin HN.out HQ.out (Or.inl rfl) (by rw [HL.out, ← HMX.out]; exact hi), XG.out, by rw [HL.out]; have := HMX.out; omega⟩
      · go_wp2
        go_ret
        exact ⟨G, _, b2, _, rfl, XO.out, XC.out, Iq.fin HN.out HQ.out (Or.inr (by rw [HL.out, ← HMX.out]; omega)) (by rw [HL.out, ← HMX.out]; exact hi), XG.out, by rw [HL.out]; have := HMX.out; omega⟩
    · go_wp2
      go_ret
      exact ⟨G, _, b2, _, rfl, XO.out, XC.out, Iq.fin HN.out HQ.out (Or.inr (by rw [HL.out, ← HMX.out]; omega)) (by rw [HL.out, ← HMX.out]; exact hi), XG.out, by rw [HL.out]; have := HMX.out; omega⟩
end Go.Proofs.Ytocfggfccbnbhaa

