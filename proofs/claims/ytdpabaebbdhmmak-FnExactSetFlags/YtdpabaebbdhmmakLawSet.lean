/- The walk of the law of flags that are set. -/
import Derived.Test.YtdpabaebbdhmmakLawJoin
import Derived.Deep.Cut
namespace Go.Proofs.Ytdpabaebbdhmmak
open Go.RowKit

theorem sl_len (l : List R3) (n t b : Int) : (sl l n t b).length = l.length := by unfold sl; split <;> simp

set_option maxHeartbeats 1600000 in
set_option maxRecDepth 100000 in
theorem lawSetFlags_any (ao : Option Addr) (n cap : Nat) (l : List R3) (m t b : Int) (w : World) (hl : l.length = n) (hm : (n : Int) ≤ 9223372036854775807) (hr : Rs w ao l) :
    Calls Try.prog 7 #[.slice ao n cap, .int .i64 m, .agg #[.int .i64 t, .int .i64 b]] w fun e w' => e = .returned (.bool true) ∧ Below w.heap.size w w' := by
  obtain ⟨W0, hW0⟩ : ∃ W0, w.alloc (.cells #[.int .i64 t, .int .i64 b] 23) = W0 := ⟨_, rfl⟩
  have A0 : Hid (Sg W0 w.heap.size 23 t b) := by subst hW0; exact Sg.new w _ t b
  have B0 : Hid (Below w.heap.size w W0) := by subst hW0; exact bpush (bre _) _
  have HR := hid hr
  have HL := hid hl
  clear hr hl
  by_cases hn : (1048576 : Int) < n
  · go_enter Try.func7, Try.ntmps7
    go_wp2_with fail
    clear hW0
    refine (sz_over ao n cap 1048576 _ hm (by decide) hn).mono ?_; rintro e w1 ⟨rfl, h1⟩
    rw [h1]
    go_wp2_with fail
    go_ret
    exact ⟨rfl, B0.out⟩
  have hn' : n ≤ 1048576 := by omega
  have hneg : ¬ (1048576 : Int) - n < 0 := by omega
  have HSL : Hid ((sl l m t b).length = n) := by show _ = _; rw [sl_len, HL.out]
  have HN := hid hn'
  go_enter Try.func7, Try.ntmps7
  go_wp2_with fail
  clear hW0
  refine (sz_fits ao n cap 1048576 _ hm (by decide) (by omega)).mono ?_; rintro e w1 ⟨rfl, h1⟩
  rw [h1]
  clear hn hn' hm
  go_wp2_with fail
  clear hneg
  have HS : Hid (∀ W, Below W0.heap.size W0 W → (W.cell? ⟨w.heap.size, 0, none⟩ = some (.int .i64 t) ∧ W.cell? ⟨w.heap.size, 1, none⟩ = some (.int .i64 b))) := fun W h => (A0.out.later h).cells
  have HRW : Hid (∀ W, Below W0.heap.size W0 W → Rs W ao l) := fun W h => HR.out.later (btr B0.out h)
  go_cut [8] from 15 (fun s wx => ∃ a c, s = .slice a n c ∧ Rs wx a (sl l m t b) ∧ Below W0.heap.size W0 wx)
  case first =>
    go_region_held3 (fun W => W.cell? ⟨w.heap.size, 0, none⟩ = some (.int .i64 t) ∧ W.cell? ⟨w.heap.size, 1, none⟩ = some (.int .i64 b))
      ((refine HS.out _ ?_; repeat (first | exact bdr (bre _) | refine btr ?_ (by assumption))))
      ((first
        | (go_at_call 14; refine (toStamp_b t b _).mono ?_; rintro e ws ⟨rfl, hbs⟩)
        | (go_at_call 21; refine (toS_any ao n cap l _ HL.out HN.out (HRW.out _ (by repeat (first | exact bdr (bre _) | refine btr ?_ (by assumption))))).mono ?_; rintro e wr ⟨rfl, hownr, hbr⟩; have RX := hid (Ow.rs hownr).2; clear hownr)
        | (go_at_call 25; refine (specSetFlags_any _ n n l m t b _ HL.out HN.out (by first | exact RX.out | exact RX.out.later (by assumption)) (by intro h; cases h)).mono ?_; rintro e wf ⟨vf, rfl, hownf, hbf⟩)))
    all_goals (try go_wp2_with fail)
    all_goals go_meet
    all_goals
      obtain ⟨a, c, hv, hs⟩ := Ow.shape hownf
      rw [HSL.out] at hv
      exact ⟨a, c, hv, hs, by repeat (first | exact bdr (bre _) | refine btr ?_ (by assumption))⟩
  case rest =>
  obtain ⟨aw, cw, rfl, hrw, hbw⟩ := hcut
  have RW := hid hrw
  have BW := hid hbw
  clear hrw hbw
  go_wp2_with fail
  refine (toS_any ao n cap l _ HL.out HN.out (HRW.out _ BW.out)).mono ?_; rintro e w2 ⟨rfl, hown2, hb2⟩
  have OX2 := hid hown2
  have B2 := hid hb2
  have HX : Hid (wc.heap.size < w2.heap.size) := (hown2.lt _ rfl).2
  have c2 := HS.out _ (btr BW.out hb2)
  clear hown2 hb2
  go_wp2_with fail
  clear c2
  refine (toStamp_b t b _).mono ?_; rintro e w3 ⟨rfl, hb3⟩
  have OX3 := hid (own_later OX2.out hb3)
  have B3 : Hid (Below wc.heap.size wc w3) := btr B2.out hb3
  have HX3 : Hid (wc.heap.size < w3.heap.size) := Nat.lt_of_lt_of_le HX.out hb3.size
  clear hb3 B2 OX2
  go_wp2_with fail
  refine (implSetFlags_any _ n n l m t b _ HL.out HN.out (Ow.rs OX3.out).2).mono ?_; rintro e w4 ⟨g, hg, rfl, hown4, hb4⟩
  have OX4 := hid (own_later OX3.out hb4)
  have OG4 := hid hown4
  have B4 : Hid (Below wc.heap.size wc w4) := btr B3.out hb4
  have HXG : Hid (wc.heap.size < g) := Nat.lt_of_lt_of_le HX3.out hg
  clear hown4 hb4 hg B3 OX3
  go_wp2_with fail
  refine (eqS_any _ _ n n cw (sl l m t b) _ HSL.out HN.out (Ow.rs OG4.out).2 (RW.out.later B4.out)).mono ?_; rintro e w5 ⟨rfl, hb5⟩
  have OX5 := hid (own_later OX4.out hb5)
  have OG5 := hid (own_later OG4.out hb5)
  have B5 : Hid (Below wc.heap.size wc w5) := btr B4.out hb5
  clear hb5 B4 OX4 OG4
  go_wp2_with fail
  refine (toS_any ao n cap l _ HL.out HN.out (HRW.out _ (btr BW.out B5.out))).mono ?_; rintro e w6 ⟨rfl, hown6, hb6⟩
  have OX6 := hid (own_later OX5.out hb6)
  have OG6 := hid (own_later OG5.out hb6)
  have R6 := hid (Ow.rs hown6).2
  have B6 : Hid (Below wc.heap.size wc w6) := btr B5.out hb6
  clear hown6 hb6 B5 OX5 OG5
  go_wp2_with fail
  refine (eqS_any _ _ n n n l _ HL.out HN.out (Ow.rs OX6.out).2 R6.out).mono ?_; rintro e w7 ⟨rfl, hb7⟩
  have OX7 := hid (own_later OX6.out hb7)
  have OG7 := hid (own_later OG6.out hb7)
  have B7 : Hid (Below wc.heap.size wc w7) := btr B6.out hb7
  clear hb7 B6 OX6 OG6 R6
  go_wp2_with fail
  refine (mark1 _ _ n n _ _ OX7.out HL.out HN.out).mono ?_; rintro e w8 ⟨rfl, hown8, hg8⟩
  have OG8 := hid (Ow.other OG7.out hg8 (by have := HXG.out; omega))
  have B8 : Hid (Below wc.heap.size wc w8) := B7.out.trans (below_of_grown hg8 (Nat.le_refl _) B7.out.size)
  obtain ⟨z, hz⟩ : ∃ z : Nat, 1 + n * 3 = z := ⟨_, rfl⟩
  have HH : Hid (∀ W, Ow W w3.heap.size (.slice (some ⟨g, 0, none⟩) n n) (mks 1 n) → Calls Try.prog 18 #[.slice (some ⟨g, 0, none⟩) n n, .int .i64 1] W fun e w' => e = .returned (.int .i64 (z : Int)) ∧ w' = W) := fun W h => by
    rw [← hz]; exact held1 _ _ n n W h HN.out
  have HMK : Hid (∀ W, Ow W w3.heap.size (.slice (some ⟨g, 0, none⟩) n n) (sl l m t b) → Calls Try.prog 17 #[.slice (some ⟨g, 0, none⟩) n n, .int .i64 1] W fun e w' => e = .returned (.int .i64 (z : Int)) ∧ Ow w' w3.heap.size (.slice (some ⟨g, 0, none⟩) n n) (mks 1 n) ∧ W.grownBy w' (some g)) := fun W h => by
    rw [← hz]; exact mark1 _ _ n n _ W h HSL.out HN.out
  rw [hz]
  have hz0 : ¬ ((z : Nat) : Int) < 0 := by omega
  have hzz : ((z : Int) != (z : Int)) = false := by simp
  clear hown8 hg8 B7 OX7 OG7 hz
  go_wp2_with fail
  refine (eqS_any _ _ n n cw (sl l m t b) _ HSL.out HN.out (Ow.rs OG8.out).2 (RW.out.later B8.out)).mono ?_; rintro e w9 ⟨rfl, hb9⟩
  have OG9 := hid (own_later OG8.out hb9)
  have B9 : Hid (Below wc.heap.size wc w9) := btr B8.out hb9
  clear hb9 B8 OG8
  go_wp2_with fail
  refine (HMK.out _ OG9.out).mono ?_; rintro e w10 ⟨rfl, hown10, hg10⟩
  have OG10 := hid hown10
  have B10 : Hid (Below wc.heap.size wc w10) := B9.out.trans (below_of_grown hg10 (Nat.le_of_lt HXG.out) B9.out.size)
  clear hown10 hg10 B9 OG9
  go_wp2_with fail
  refine (HH.out _ OG10.out).mono ?_; rintro e w11 ⟨rfl, h11⟩
  rw [h11]
  clear h11
  go_wp2_with fail
  have B10W : Hid (Below W0.heap.size W0 w10) := btr BW.out B10.out
  go_cut [14] from 15 (fun s wx => ∃ g', s = .slice (some ⟨g', 0, none⟩) n n ∧ Rs wx (some ⟨g', 0, none⟩) (sl l m t b) ∧ Below w10.heap.size w10 wx)
  case first =>
    go_region_held3 (fun W => W.cell? ⟨w.heap.size, 0, none⟩ = some (.int .i64 t) ∧ W.cell? ⟨w.heap.size, 1, none⟩ = some (.int .i64 b))
      ((refine HS.out _ (btr B10W.out ?_); repeat (first | exact bdr (bre _) | refine btr ?_ (by assumption))))
      ((first
        | (go_at_call 14; refine (toStamp_b t b _).mono ?_; rintro e ws ⟨rfl, hbs⟩)
        | (go_at_call 21; refine (toS_any ao n cap l _ HL.out HN.out (HRW.out _ (btr B10W.out (by repeat (first | exact bdr (bre _) | refine btr ?_ (by assumption)))))).mono ?_; rintro e wr ⟨rfl, hownr, hbr⟩; have RX := hid (Ow.rs hownr).2; clear hownr)
        | (go_at_call 26; refine (implSetFlags_any _ n n l m t b _ HL.out HN.out (by first | exact RX.out | exact RX.out.later (by assumption))).mono ?_; rintro e wf ⟨gf, hgf, rfl, hownf, hbf⟩)))
    all_goals (try go_wp2_with fail)
    all_goals go_meet
    all_goals
      exact ⟨gf, rfl, (Ow.rs hownf).2, by repeat (first | exact bdr (bre _) | refine btr ?_ (by assumption))⟩
  case rest =>
  obtain ⟨gh, rfl, hrh, hbh⟩ := hcut
  have RH := hid hrh
  have OG12 := hid (own_later OG10.out hbh)
  have B12 := hid (btr B10.out hbh)
  clear hrh hbh B10 OG10 B10W
  go_wp2_with fail
  refine (eqS_any _ _ n n cw (sl l m t b) _ HSL.out HN.out RH.out (RW.out.later B12.out)).mono ?_; rintro e w13 ⟨rfl, hb13⟩
  have OG13 := hid (own_later OG12.out hb13)
  have B13 := hid (btr B12.out hb13)
  clear hb13 B12 OG12
  go_wp2_with fail
  refine (HH.out _ OG13.out).mono ?_; rintro e w14 ⟨rfl, h14⟩
  rw [h14]
  clear h14
  go_wp2_with fail
  go_ret
  exact ⟨rfl, btr B0.out (btr BW.out B13.out)⟩
end Go.Proofs.Ytdpabaebbdhmmak
