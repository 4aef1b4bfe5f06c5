/- Smf, Smg. -/

import Derived.Test.YtmpcmllfgogegaaGreatjSmm
namespace Go.Proofs.YtmpcmllfgogegaaGreat
open Go.RowKit Go.ChangeMaps
set_option maxHeartbeats 8000000 in
set_option maxRecDepth 100000 in
theorem symM_mid (key : Z5 → Int) (tie : Z5 → Z5 → Prop) (F : Nat) (bs : Array Value) (eg : ∀ args w, (callFunc F args).run Tryz.prog w = .ok (.enter F args) w) (B g n cap a m b : Nat) (Z0 : List Z5) (w : World) (hn : n ≤ 4194304) (hma : a < m) (hm1 : m ≠ a + 1) (hmb : m < b) (hb : b ≠ m + 1) (hbn : b ≤ n) (hsl : ∀ z ∈ Z0, ∃ a k c, z.2.2.1 = Value.slice a k c) (hrow : Rw w B g n cap Z0) (h1 : Sg8 key tie Z0 a m) (h2 : Sg8 key tie Z0 m b) (h3 : Cr8 key tie Z0 a m b)
  (hcmp : ∀ (gA uA : Int) (aA : Option Addr) (kA cA : Nat) (lA : List R3) (tA : ByteArray) (gB uB : Int) (aB : Option Addr) (kB cB : Nat) (lB : List R3) (tB : ByteArray) (W : World), w.grownBy W (some g) → Calls Tryz.prog F (#[.agg #[.int .i64 gA, .int .i64 uA, .slice aA kA cA, .string tA], .agg #[.int .i64 gB, .int .i64 uB, .slice aB kB cB, .string tB]] ++ bs) W fun e w' => e = .returned (.int .i64 (cpr (key (gA, uA, Value.slice aA kA cA, lA, tA)) (key (gB, uB, Value.slice aB kB cB, lB, tB)))) ∧ Below W.heap.size W w')
  (ih : ∀ (a' m' b' : Nat) (Z' : List Z5) (W : World), b' - a' < b - a → a' < m' → m' < b' → b' ≤ n → w.grownBy W (some g) → (∀ z ∈ Z', ∃ a k c, z.2.2.1 = Value.slice a k c) → Rw W B g n cap Z' → Sg8 key tie Z' a' m' → Sg8 key tie Z' m' b' → Cr8 key tie Z' a' m' b' →
    Calls Tryz.prog 149 #[.slice (some ⟨g, 0, none⟩) n cap, .int .i64 (a' : Int), .int .i64 (m' : Int), .int .i64 (b' : Int), .func (.func F) #[] bs] W fun e w' => (∃ v, e = .returned v) ∧ ∃ Z, Pm8 Z' Z a' b' ∧ Sg8 key tie Z a' b' ∧ Rw w' B g n cap Z ∧ W.grownBy w' (some g)) :
  Calls Tryz.prog 149 #[.slice (some ⟨g, 0, none⟩) n cap, .int .i64 (a : Int), .int .i64 (m : Int), .int .i64 (b : Int), .func (.func F) #[] bs] w fun e w' => (∃ v, e = .returned v) ∧ ∃ Z, Pm8 Z0 Z a b ∧ Sg8 key tie Z a b ∧ Rw w' B g n cap Z ∧ w.grownBy w' (some g) := by
 have HRW := hid hrow
 have HSL := hid hsl
 have HC := hid hcmp
 have H1 := hid h1
 have H2 := hid h2
 have H3 := hid h3
 have IH := hid ih
 have HAB : Hid (a < m ∧ m < b ∧ b ≤ n) := ⟨hma, hmb, hbn⟩
 obtain ⟨d, hd⟩ : ∃ d, m - a = d := ⟨_, rfl⟩
 have hd0 : (m : Int) - (a : Int) = (d : Int) := by omega
 have hwd0 : IntKind.i64.wrap (d : Int) = (d : Int) := by rw [IntKind.wrap_i64]; omega
 have hne : ((d : Int) == 1) = false := by simp; omega
 obtain ⟨d', hd'⟩ : ∃ d', b - m = d' := ⟨_, rfl⟩
 have hd1 : (b : Int) - (m : Int) = (d' : Int) := by omega
 have hwd1 : IntKind.i64.wrap (d' : Int) = (d' : Int) := by rw [IntKind.wrap_i64]; omega
 have hne' : ((d' : Int) == 1) = false := by simp; omega
 obtain ⟨s, hs⟩ : ∃ s, a + b = s := ⟨_, rfl⟩
 have hs0 : (a : Int) + (b : Int) = (s : Int) := by omega
 have hws : IntKind.i64.wrap (s : Int) = (s : Int) := by rw [IntKind.wrap_i64]; omega
 obtain ⟨mid, hmid⟩ : ∃ mid, s / 2 = mid := ⟨_, rfl⟩
 have hmid0 : (s : Int) / 2 = (mid : Int) := by omega
 obtain ⟨nn, hnn⟩ : ∃ nn, mid + m = nn := ⟨_, rfl⟩
 have hnn0 : (mid : Int) + (m : Int) = (nn : Int) := by omega
 have hwnn : IntKind.i64.wrap (nn : Int) = (nn : Int) := by rw [IntKind.wrap_i64]; omega
 obtain ⟨p, hp⟩ : ∃ p, nn - 1 = p := ⟨_, rfl⟩
 have hp0 : (nn : Int) - 1 = (p : Int) := by omega
 have hwp : IntKind.i64.wrap (p : Int) = (p : Int) := by rw [IntKind.wrap_i64]; omega
 have HM : Hid (mid = (a + b) / 2 ∧ nn = mid + m ∧ p + 1 = nn ∧ a < mid ∧ mid < b) := ⟨by omega, hnn.symm, by omega, by omega, by omega⟩
 have hb4 : b ≤ 4194304 := by omega
 have hm4 : m ≤ 4194304 := by omega
 have ha4 : a ≤ 4194304 := by omega
 have hmid4 : mid ≤ 4194304 := by omega
 have hnn4 : nn ≤ 8388608 := by omega
 have hp4 : p ≤ 8388608 := by omega
 clear hrow hcmp h1 h2 h3 ih hma hm1 hmb hb hbn hd hd' hs hmid hnn hp hsl
 go_enter Tryz.func149, Tryz.ntmps149
 by_cases hgt : mid < m
 ·obtain ⟨S0, hS0⟩ : ∃ S0, nn - b = S0 := ⟨_, rfl⟩
  have hS : (nn : Int) - (b : Int) = (S0 : Int) := by have := HM.out; have := HAB.out; omega
  have hwS : IntKind.i64.wrap (S0 : Int) = (S0 : Int) := by rw [IntKind.wrap_i64]; omega
  have HF : Hid (nn = S0 + b ∧ S0 ≤ mid ∧ a ≤ S0 ∧ mid < m) := by have := HM.out; have := HAB.out; exact ⟨by omega, by omega, by omega, hgt⟩
  clear hS0
  go_wp2
  clear hd0 hwd0 hne hd1 hwd1 hne' hs0 hws hmid0 hnn0 hwnn hp0 hwp hS hwS
  go_loopw [20, 21] (fun iv jv wr => ∃ i j : Nat, S0 ≤ i ∧ i ≤ j ∧ j ≤ mid ∧ iv = .int .i64 (i : Int) ∧ jv = .int .i64 (j : Int) ∧ Hid (i = S0 ∨ ky8 key Z0 (i - 1) ≤ ky8 key Z0 (nn - i)) ∧ Hid (j = mid ∨ ky8 key Z0 (nn - 1 - j) < ky8 key Z0 j) ∧ Rw wr B g n cap Z0 ∧ w.grownBy wr (some g)) (fun iv jv _ => (intOf jv).toNat - (intOf iv).toNat)
  case atStart => exact ⟨S0, mid, Nat.le_refl _, by have := HF.out; have := HAB.out; omega, Nat.le_refl _, rfl, rfl, .inl rfl, .inl rfl, HRW.out, wre _ _⟩
  case round =>
   obtain ⟨i, j, hmi, hij, hjb, rfl, rfl, HL, HU, hr, hg⟩ := hrel
   have HR := hid hr
   have HG := hid hg
   have hj4 : j ≤ 4194304 := by omega
   clear hr hg
   by_cases hlt : i < j
   ·obtain ⟨t, ht⟩ : ∃ t, i + j = t := ⟨_, rfl⟩
    have ht0 : (i : Int) + (j : Int) = (t : Int) := by omega
    have hwt : IntKind.i64.wrap (t : Int) = (t : Int) := by rw [IntKind.wrap_i64]; omega
    obtain ⟨h, hh⟩ : ∃ h, t / 2 = h := ⟨_, rfl⟩
    have hh2 : (t : Int) / 2 = (h : Int) := by omega
    have hih : i ≤ h := by omega
    have hhj : h < j := by omega
    have hbd : h < m ∧ h ≤ p ∧ p - h < b := by have := HF.out; have := HM.out; have := HAB.out; omega
    obtain ⟨u, hu'⟩ : ∃ u, p - h = u := ⟨_, rfl⟩
    have hu0 : (p : Int) - (h : Int) = (u : Int) := by omega
    have hwu : IntKind.i64.wrap (u : Int) = (u : Int) := by rw [IntKind.wrap_i64]; omega
    have HUU : Hid (nn - 1 - h = u ∧ nn - (h + 1) = u) := by have := HM.out; exact ⟨by omega, by omega⟩
    have hlen := HR.out.len
    have hP : u < Z0.length := by have := HAB.out; omega
    have hQ : h < Z0.length := by have := HAB.out; omega
    have c0 := (HR.out.spot u hP).1
    have d0 := (HR.out.spot h hQ).1
    have kP := ky8_at (key := key) hP
    have kQ := ky8_at (key := key) hQ
    obtain ⟨x, hx⟩ : ∃ x, Z0[u] = x := ⟨_, rfl⟩
    obtain ⟨y, hy⟩ : ∃ y, Z0[h] = y := ⟨_, rfl⟩
    have mx : x ∈ Z0 := hx ▸ List.getElem_mem hP
    have my : y ∈ Z0 := hy ▸ List.getElem_mem hQ
    rw [hx] at c0 kP
    rw [hy] at d0 kQ
    clear hx hy
    have sx := HSL.out x mx
    have sy := HSL.out y my
    obtain ⟨gA, uA, fA, lA, tA⟩ := x
    obtain ⟨gB, uB, fB, lB, tB⟩ := y
    obtain ⟨aA, kA, cA, sx⟩ := sx
    obtain ⟨aB, kB, cB, sy⟩ := sy
    dsimp only at sx sy c0 d0 kP kQ
    subst sx sy
    obtain ⟨kx, hkx⟩ : ∃ kx, key (gA, uA, Value.slice aA kA cA, lA, tA) = kx := ⟨_, rfl⟩
    obtain ⟨ky, hky⟩ : ∃ ky, key (gB, uB, Value.slice aB kB cB, lB, tB) = ky := ⟨_, rfl⟩
    rw [hkx] at kP
    rw [hky] at kQ
    have HKX := hid hkx
    have HKY := hid hky
    clear mx my hkx hky
    have hI : (0 : Int) ≤ (u : Int) ∧ (u : Int) < (n : Int) := by have := HAB.out; omega
    have hJ : (0 : Int) ≤ (h : Int) ∧ (h : Int) < (n : Int) := by have := HAB.out; omega
    have KP : Hid (ky8 key Z0 u = kx) := kP
    have KQ : Hid (ky8 key Z0 h = ky) := kQ
    have HH : Hid (i ≤ h ∧ h < j) := ⟨hih, hhj⟩
    have HSC : Hid (∀ W, Below wr.heap.size wr W → (W.cell? ⟨g, u * 4, none⟩ = some (.int .i64 gA) ∧ W.cell? ⟨g, u * 4 + 1, none⟩ = some (.int .i64 uA) ∧ W.cell? ⟨g, u * 4 + 2, none⟩ = some (.slice aA kA cA) ∧ W.cell? ⟨g, u * 4 + 3, none⟩ = some (.string tA)) ∧ (W.cell? ⟨g, h * 4, none⟩ = some (.int .i64 gB) ∧ W.cell? ⟨g, h * 4 + 1, none⟩ = some (.int .i64 uB) ∧ W.cell? ⟨g, h * 4 + 2, none⟩ = some (.slice aB kB cB) ∧ W.cell? ⟨g, h * 4 + 3, none⟩ = some (.string tB))) := fun W hW => ⟨C4.later c0 (HR.out.lt g rfl).2 hW, C4.later d0 (HR.out.lt g rfl).2 hW⟩
    obtain ⟨r, hr⟩ : ∃ r, cpr kx ky = r := ⟨_, rfl⟩
    have HCR := hid hr
    have hls := cpr_less kx ky
    rw [hr] at hls
    have HLS := hid hls
    clear hr hls c0 d0 kP kQ hP hQ hlen ht hh hu' hbd
    go_wp2_with fail
    go_region_held3 (fun W => (W.cell? ⟨g, u * 4, none⟩ = some (.int .i64 gA) ∧ W.cell? ⟨g, u * 4 + 1, none⟩ = some (.int .i64 uA) ∧ W.cell? ⟨g, u * 4 + 2, none⟩ = some (.slice aA kA cA) ∧ W.cell? ⟨g, u * 4 + 3, none⟩ = some (.string tA)) ∧ (W.cell? ⟨g, h * 4, none⟩ = some (.int .i64 gB) ∧ W.cell? ⟨g, h * 4 + 1, none⟩ = some (.int .i64 uB) ∧ W.cell? ⟨g, h * 4 + 2, none⟩ = some (.slice aB kB cB) ∧ W.cell? ⟨g, h * 4 + 3, none⟩ = some (.string tB)))
     ((first | exact HSC.out _ (bdr (bre _)) | exact HSC.out _ (btr (bdr (bre _)) hb2)))
     ((refine (HC.out gA uA aA kA cA lA tA gB uB aB kB cB lB tB _ (gbl HG.out (bdr (bre _)))).mono ?_; rintro e w2 ⟨rfl, hb2⟩; rw [HKX.out, HKY.out, HCR.out]; have B2 := hid (show Below wr.heap.size wr w2 from btr (bdr (bre _)) hb2)))
    have R2 := hid (own_later HR.out B2.out)
    have G2 := hid (gbl HG.out B2.out)
    clear HSC hb2 hI hJ
    by_cases hu : kx < ky
    ·have hr0 : r < 0 := by have := HLS.out; simp only [hu, decide_true, decide_eq_true_eq] at this; exact this
     rw [show decide (r < 0) = true from decide_eq_true hr0, Bool.not_true]
     have E1 : Hid (h = mid ∨ ky8 key Z0 (nn - 1 - h) < ky8 key Z0 h) := .inr (by rw [HUU.out.1, KP.out, KQ.out]; exact hu)
     clear hu
     go_wp2
     go_roundw
     case rel => exact ⟨i, h, hmi, by have := HH.out; omega, by have := HH.out; omega, rfl, rfl, HL, E1, R2.out, G2.out⟩
     case measure => simp [intOf]; have := HH.out; omega
    ·have hr0 : ¬ r < 0 := by have := HLS.out; simp only [hu, decide_false, decide_eq_false_iff_not] at this; exact this
     rw [show decide (r < 0) = false from decide_eq_false hr0, Bool.not_false]
     have E1 : Hid (h + 1 = S0 ∨ ky8 key Z0 (h + 1 - 1) ≤ ky8 key Z0 (nn - (h + 1))) := .inr (by rw [Nat.add_sub_cancel, HUU.out.2, KP.out, KQ.out]; omega)
     clear hu
     go_wp2
     go_roundw
     case rel => exact ⟨h + 1, j, by have := HH.out; omega, by have := HH.out; omega, hjb, by go_num, rfl, E1, HU, R2.out, G2.out⟩
     case measure => simp [intOf]; have := HH.out; omega
   ·have hij' : i = j := by omega
    subst hij'
    obtain ⟨en, hen⟩ : ∃ en, nn - i = en := ⟨_, rfl⟩
    have hbd : i ≤ m ∧ i ≤ mid ∧ a ≤ i ∧ i ≤ nn ∧ en ≤ b ∧ m ≤ en ∧ mid ≤ en := by have := HF.out; have := HM.out; have := HAB.out; omega
    have hen0 : (nn : Int) - (i : Int) = (en : Int) := by omega
    have hwen : IntKind.i64.wrap (en : Int) = (en : Int) := by rw [IntKind.wrap_i64]; omega
    have HE : Hid (i ≤ m ∧ i ≤ mid ∧ a ≤ i ∧ en ≤ b ∧ m ≤ en ∧ mid ≤ en ∧ mid + m - i = en) := by have := HM.out; exact ⟨hbd.1, hbd.2.1, hbd.2.2.1, hbd.2.2.2.2.1, hbd.2.2.2.2.2.1, hbd.2.2.2.2.2.2, by omega⟩
    have LO : Hid (i = a ∨ mid + m - i = b ∨ ky8 key Z0 (i - 1) ≤ ky8 key Z0 (mid + m - i)) := by
     have e1 := HM.out
     have e2 := HF.out
     rcases HL.out with h | h
     ·show _ ∨ _ ∨ _; omega
     ·exact .inr (.inr (by rw [← e1.2.1]; exact h))
    have HI : Hid (i = m ∨ i = mid ∨ ky8 key Z0 (mid + m - 1 - i) < ky8 key Z0 i) := by
     have e1 := HM.out
     have e2 := HF.out
     rcases HU.out with h | h
     ·show _ ∨ _ ∨ _; omega
     ·exact .inr (.inr (by rw [← e1.2.1]; exact h))
    have hi4 : i ≤ 4194304 := by omega
    have hen4 : en ≤ 4194304 := by omega
    have MG : Hid (∀ Z1 : List Z5, (∀ k, Z1[k]? = rt (fun k => Z0[k]?) i m en k) → Ac8 key tie Z1 a mid b ∧ Sg8 key tie Z1 a i ∧ Sg8 key tie Z1 i mid ∧ Cr8 key tie Z1 a i mid ∧ Sg8 key tie Z1 mid en ∧ Sg8 key tie Z1 en b ∧ Cr8 key tie Z1 mid en b) := fun Z1 hz => by
     obtain ⟨f1, f2, f3, f4, f5, f6, f7⟩ := HE.out
     obtain ⟨g1, g2, g3⟩ := HAB.out
     have hl0 := HRW.out.len
     have r := mrg8 (key := key) (tie := tie) (Z := Z0) (Z1 := Z1) (a := a) (m := m) (b := b) (mid := mid) (start := i) (by omega) (by omega) (by omega) H1.out H2.out H3.out f1 f2 f3 (by omega) LO.out HI.out (by rw [f7]; exact hz)
     rw [f7] at r
     exact r
    clear hlt hij hmi hjb hbd hen LO HI HL HU hgt
    by_cases hrot : i < m ∧ m < en
    case' pos =>
     have hr1 : i < m := hrot.1
     have hr2 : m < en := hrot.2
     clear hrot
     go_wp2_with fail
     refine (rotM_any B g n cap i m en _ Z0 _ hn hr1 hr2 (by have := HE.out; have := HAB.out; omega) HSL.out HR.out).mono ?_; rintro e w1 ⟨⟨v, rfl⟩, Z1, s1, s2, s3, s4⟩
     have M1 := hid (MG.out Z1 s1)
     have P1 := hid (s2.wide (a' := a) (b' := b) HE.out.2.2.1 HE.out.2.2.2.1)
     have R1 := hid s3
     have G1 := hid (wtr HG.out s4)
     clear s1 s2 s3 s4 hr1 hr2 MG HG HR
    case' neg =>
     obtain ⟨Z1, hZ1⟩ : ∃ Z1, Z0 = Z1 := ⟨_, rfl⟩
     have M1 := hid (MG.out Z1 (fun k => by rw [← hZ1]; exact rt_none (by have := HE.out; omega) k))
     have P1 : Hid (Pm8 Z0 Z1 a b) := by rw [← hZ1]; exact Pm8.refl Z0 a b
     have R1 : Hid (Rw wr B g n cap Z1) := by rw [← hZ1]; exact HR.out
     have G1 := HG
     by_cases hr2 : i < m
     case' pos => have hr3 : ¬ m < en := fun h => hrot ⟨hr2, h⟩
     all_goals (clear hrot MG HG HR hZ1)
    all_goals (
      by_cases hra : a < i ∧ i < mid
      case' pos =>
        have hq1 : a < i := hra.1
        have hq2 : i < mid := hra.2
        clear hra
        go_wp2_with fail
        refine (IH.out a i mid Z1 _ (by have := HM.out; omega) hq1 hq2 (by have := HM.out; have := HAB.out; omega) G1.out (fun z hz => HSL.out z (P1.out.perm.mem_iff.1 hz)) R1.out M1.out.2.1 M1.out.2.2.1 M1.out.2.2.2.1).mono ?_; rintro e w4 ⟨⟨v, rfl⟩, Z2, s1, s2, s3, s4⟩
        have P2 := hid (P1.out.trans (s1.wide (Nat.le_refl _) (show mid ≤ b by have := HM.out; omega)))
        have A2 := hid (M1.out.1.kept s1 (Nat.le_refl _) (show mid ≤ b by have := HM.out; omega) (.inr (Nat.le_refl _)))
        have L2 := hid s2
        have M2 := hid (And.intro (M1.out.2.2.2.2.1.kept s1 (.inr (Nat.le_refl _))) (And.intro (M1.out.2.2.2.2.2.1.kept s1 (.inr HE.out.2.2.2.2.2.1)) (M1.out.2.2.2.2.2.2.off s1 (.inr (Nat.le_refl _)))))
        have R2 := hid s3
        have G2 := hid (wtr G1.out s4)
        clear s1 s2 s3 s4 hq1 hq2
      case' neg =>
        obtain ⟨Z2, hZ2⟩ : ∃ Z2, Z1 = Z2 := ⟨_, rfl⟩
        have P2 : Hid (Pm8 Z0 Z2 a b) := by rw [← hZ2]; exact P1.out
        have A2 : Hid (Ac8 key tie Z2 a mid b) := by rw [← hZ2]; exact M1.out.1
        have L2 : Hid (Sg8 key tie Z2 a mid) := by
          rw [← hZ2]
          have e := HE.out
          by_cases h : i = a
          · have := M1.out.2.2.1; rw [h] at this; exact this
          · have h' : i = mid := by omega
            have := M1.out.2.1; rw [h'] at this; exact this
        have M2 : Hid (Sg8 key tie Z2 mid en ∧ Sg8 key tie Z2 en b ∧ Cr8 key tie Z2 mid en b) := by rw [← hZ2]; exact M1.out.2.2.2.2
        have R2 := hZ2 ▸ R1
        have G2 := G1
        by_cases hq1 : a < i
        case' pos => have hq2 : ¬ i < mid := fun h => hra ⟨hq1, h⟩
        all_goals (clear hra hZ2)
      all_goals (
        by_cases hra : mid < en ∧ en < b
        case' pos =>
          have hv1 : mid < en := hra.1
          have hv2 : en < b := hra.2
          clear hra
          go_wp2_with fail
          refine (IH.out mid en b Z2 _ (by have := HM.out; omega) hv1 hv2 HAB.out.2.2 G2.out (fun z hz => HSL.out z (P2.out.perm.mem_iff.1 hz)) R2.out M2.out.1 M2.out.2.1 M2.out.2.2).mono ?_; rintro e w5 ⟨⟨v, rfl⟩, Z3, s1, s2, s3, s4⟩
          have P3 := hid (P2.out.trans (s1.wide (show a ≤ mid by have := HM.out; omega) (Nat.le_refl _)))
          have A3 := hid (A2.out.kept s1 (show a ≤ mid by have := HM.out; omega) (Nat.le_refl _) (.inl (Nat.le_refl _)))
          have L3 := hid (L2.out.kept s1 (.inl (Nat.le_refl _)))
          have U3 := hid s2
          have R3 := hid s3
          have G3 := hid (wtr G2.out s4)
          clear s1 s2 s3 s4 hv1 hv2
        case' neg =>
          obtain ⟨Z3, hZ3⟩ : ∃ Z3, Z2 = Z3 := ⟨_, rfl⟩
          have P3 : Hid (Pm8 Z0 Z3 a b) := by rw [← hZ3]; exact P2.out
          have A3 : Hid (Ac8 key tie Z3 a mid b) := by rw [← hZ3]; exact A2.out
          have L3 : Hid (Sg8 key tie Z3 a mid) := by rw [← hZ3]; exact L2.out
          have U3 : Hid (Sg8 key tie Z3 mid b) := by
            rw [← hZ3]
            have e := HE.out
            by_cases h : en = mid
            · have := M2.out.2.1; rw [h] at this; exact this
            · have h' : en = b := by omega
              have := M2.out.1; rw [h'] at this; exact this
          have R3 := hZ3 ▸ R2
          have G3 := G2
          by_cases hv1 : mid < en
          case' pos => have hv2 : ¬ en < b := fun h => hra ⟨hv1, h⟩
          all_goals (clear hra hZ3)
        all_goals (
          go_wp2
          go_end0
          exact ⟨⟨_, rfl⟩, Z3, P3.out, Sg8.glue L3.out U3.out A3.out, R3.out, G3.out⟩)))
 ·have HF : Hid (m ≤ mid) := by show _ ≤ _; omega
  go_wp2
  clear hd0 hwd0 hne hd1 hwd1 hne' hs0 hws hmid0 hnn0 hwnn hp0 hwp
  go_loopw [20, 21] (fun iv jv wr => ∃ i j : Nat, a ≤ i ∧ i ≤ j ∧ j ≤ m ∧ iv = .int .i64 (i : Int) ∧ jv = .int .i64 (j : Int) ∧ Hid (i = a ∨ ky8 key Z0 (i - 1) ≤ ky8 key Z0 (nn - i)) ∧ Hid (j = m ∨ ky8 key Z0 (nn - 1 - j) < ky8 key Z0 j) ∧ Rw wr B g n cap Z0 ∧ w.grownBy wr (some g)) (fun iv jv _ => (intOf jv).toNat - (intOf iv).toNat)
  case atStart => exact ⟨a, m, Nat.le_refl _, by have := HF.out; have := HAB.out; omega, Nat.le_refl _, rfl, rfl, .inl rfl, .inl rfl, HRW.out, wre _ _⟩
  case round =>
   obtain ⟨i, j, hmi, hij, hjb, rfl, rfl, HL, HU, hr, hg⟩ := hrel
   have HR := hid hr
   have HG := hid hg
   have hj4 : j ≤ 4194304 := by omega
   clear hr hg
   by_cases hlt : i < j
   ·obtain ⟨t, ht⟩ : ∃ t, i + j = t := ⟨_, rfl⟩
    have ht0 : (i : Int) + (j : Int) = (t : Int) := by omega
    have hwt : IntKind.i64.wrap (t : Int) = (t : Int) := by rw [IntKind.wrap_i64]; omega
    obtain ⟨h, hh⟩ : ∃ h, t / 2 = h := ⟨_, rfl⟩
    have hh2 : (t : Int) / 2 = (h : Int) := by omega
    have hih : i ≤ h := by omega
    have hhj : h < j := by omega
    have hbd : h < m ∧ h ≤ p ∧ p - h < b := by have := HF.out; have := HM.out; have := HAB.out; omega
    obtain ⟨u, hu'⟩ : ∃ u, p - h = u := ⟨_, rfl⟩
    have hu0 : (p : Int) - (h : Int) = (u : Int) := by omega
    have hwu : IntKind.i64.wrap (u : Int) = (u : Int) := by rw [IntKind.wrap_i64]; omega
    have HUU : Hid (nn - 1 - h = u ∧ nn - (h + 1) = u) := by have := HM.out; exact ⟨by omega, by omega⟩
    have hlen := HR.out.len
    have hP : u < Z0.length := by have := HAB.out; omega
    have hQ : h < Z0.length := by have := HAB.out; omega
    have c0 := (HR.out.spot u hP).1
    have d0 := (HR.out.spot h hQ).1
    have kP := ky8_at (key := key) hP
    have kQ := ky8_at (key := key) hQ
    obtain ⟨x, hx⟩ : ∃ x, Z0[u] = x := ⟨_, rfl⟩
    obtain ⟨y, hy⟩ : ∃ y, Z0[h] = y := ⟨_, rfl⟩
    have mx : x ∈ Z0 := hx ▸ List.getElem_mem hP
    have my : y ∈ Z0 := hy ▸ List.getElem_mem hQ
    rw [hx] at c0 kP
    rw [hy] at d0 kQ
    clear hx hy
    have sx := HSL.out x mx
    have sy := HSL.out y my
    obtain ⟨gA, uA, fA, lA, tA⟩ := x
    obtain ⟨gB, uB, fB, lB, tB⟩ := y
    obtain ⟨aA, kA, cA, sx⟩ := sx
    obtain ⟨aB, kB, cB, sy⟩ := sy
    dsimp only at sx sy c0 d0 kP kQ
    subst sx sy
    obtain ⟨kx, hkx⟩ : ∃ kx, key (gA, uA, Value.slice aA kA cA, lA, tA) = kx := ⟨_, rfl⟩
    obtain ⟨ky, hky⟩ : ∃ ky, key (gB, uB, Value.slice aB kB cB, lB, tB) = ky := ⟨_, rfl⟩
    rw [hkx] at kP
    rw [hky] at kQ
    have HKX := hid hkx
    have HKY := hid hky
    clear mx my hkx hky
    have hI : (0 : Int) ≤ (u : Int) ∧ (u : Int) < (n : Int) := by have := HAB.out; omega
    have hJ : (0 : Int) ≤ (h : Int) ∧ (h : Int) < (n : Int) := by have := HAB.out; omega
    have KP : Hid (ky8 key Z0 u = kx) := kP
    have KQ : Hid (ky8 key Z0 h = ky) := kQ
    have HH : Hid (i ≤ h ∧ h < j) := ⟨hih, hhj⟩
    have HSC : Hid (∀ W, Below wr.heap.size wr W → (W.cell? ⟨g, u * 4, none⟩ = some (.int .i64 gA) ∧ W.cell? ⟨g, u * 4 + 1, none⟩ = some (.int .i64 uA) ∧ W.cell? ⟨g, u * 4 + 2, none⟩ = some (.slice aA kA cA) ∧ W.cell? ⟨g, u * 4 + 3, none⟩ = some (.string tA)) ∧ (W.cell? ⟨g, h * 4, none⟩ = some (.int .i64 gB) ∧ W.cell? ⟨g, h * 4 + 1, none⟩ = some (.int .i64 uB) ∧ W.cell? ⟨g, h * 4 + 2, none⟩ = some (.slice aB kB cB) ∧ W.cell? ⟨g, h * 4 + 3, none⟩ = some (.string tB))) := fun W hW => ⟨C4.later c0 (HR.out.lt g rfl).2 hW, C4.later d0 (HR.out.lt g rfl).2 hW⟩
    obtain ⟨r, hr⟩ : ∃ r, cpr kx ky = r := ⟨_, rfl⟩
    have HCR := hid hr
    have hls := cpr_less kx ky
    rw [hr] at hls
    have HLS := hid hls
    clear hr hls c0 d0 kP kQ hP hQ hlen ht hh hu' hbd
    go_wp2_with fail
    go_region_held3 (fun W => (W.cell? ⟨g, u * 4, none⟩ = some (.int .i64 gA) ∧ W.cell? ⟨g, u * 4 + 1, none⟩ = some (.int .i64 uA) ∧ W.cell? ⟨g, u * 4 + 2, none⟩ = some (.slice aA kA cA) ∧ W.cell? ⟨g, u * 4 + 3, none⟩ = some (.string tA)) ∧ (W.cell? ⟨g, h * 4, none⟩ = some (.int .i64 gB) ∧ W.cell? ⟨g, h * 4 + 1, none⟩ = some (.int .i64 uB) ∧ W.cell? ⟨g, h * 4 + 2, none⟩ = some (.slice aB kB cB) ∧ W.cell? ⟨g, h * 4 + 3, none⟩ = some (.string tB)))
     ((first | exact HSC.out _ (bdr (bre _)) | exact HSC.out _ (btr (bdr (bre _)) hb2)))
     ((refine (HC.out gA uA aA kA cA lA tA gB uB aB kB cB lB tB _ (gbl HG.out (bdr (bre _)))).mono ?_; rintro e w2 ⟨rfl, hb2⟩; rw [HKX.out, HKY.out, HCR.out]; have B2 := hid (show Below wr.heap.size wr w2 from btr (bdr (bre _)) hb2)))
    have R2 := hid (own_later HR.out B2.out)
    have G2 := hid (gbl HG.out B2.out)
    clear HSC hb2 hI hJ
    by_cases hu : kx < ky
    ·have hr0 : r < 0 := by have := HLS.out; simp only [hu, decide_true, decide_eq_true_eq] at this; exact this
     rw [show decide (r < 0) = true from decide_eq_true hr0, Bool.not_true]
     have E1 : Hid (h = m ∨ ky8 key Z0 (nn - 1 - h) < ky8 key Z0 h) := .inr (by rw [HUU.out.1, KP.out, KQ.out]; exact hu)
     clear hu
     go_wp2
     go_roundw
     case rel => exact ⟨i, h, hmi, by have := HH.out; omega, by have := HH.out; omega, rfl, rfl, HL, E1, R2.out, G2.out⟩
     case measure => simp [intOf]; have := HH.out; omega
    ·have hr0 : ¬ r < 0 := by have := HLS.out; simp only [hu, decide_false, decide_eq_false_iff_not] at this; exact this
     rw [show decide (r < 0) = false from decide_eq_false hr0, Bool.not_false]
     have E1 : Hid (h + 1 = a ∨ ky8 key Z0 (h + 1 - 1) ≤ ky8 key Z0 (nn - (h + 1))) := .inr (by rw [Nat.add_sub_cancel, HUU.out.2, KP.out, KQ.out]; omega)
     clear hu
     go_wp2
     go_roundw
     case rel => exact ⟨h + 1, j, by have := HH.out; omega, by have := HH.out; omega, hjb, by go_num, rfl, E1, HU, R2.out, G2.out⟩
     case measure => simp [intOf]; have := HH.out; omega
   ·have hij' : i = j := by omega
    subst hij'
    obtain ⟨en, hen⟩ : ∃ en, nn - i = en := ⟨_, rfl⟩
    have hbd : i ≤ m ∧ i ≤ mid ∧ a ≤ i ∧ i ≤ nn ∧ en ≤ b ∧ m ≤ en ∧ mid ≤ en := by have := HF.out; have := HM.out; have := HAB.out; omega
    have hen0 : (nn : Int) - (i : Int) = (en : Int) := by omega
    have hwen : IntKind.i64.wrap (en : Int) = (en : Int) := by rw [IntKind.wrap_i64]; omega
    have HE : Hid (i ≤ m ∧ i ≤ mid ∧ a ≤ i ∧ en ≤ b ∧ m ≤ en ∧ mid ≤ en ∧ mid + m - i = en) := by have := HM.out; exact ⟨hbd.1, hbd.2.1, hbd.2.2.1, hbd.2.2.2.2.1, hbd.2.2.2.2.2.1, hbd.2.2.2.2.2.2, by omega⟩
    have LO : Hid (i = a ∨ mid + m - i = b ∨ ky8 key Z0 (i - 1) ≤ ky8 key Z0 (mid + m - i)) := by
     have e1 := HM.out
     have e2 := HF.out
     rcases HL.out with h | h
     ·show _ ∨ _ ∨ _; omega
     ·exact .inr (.inr (by rw [← e1.2.1]; exact h))
    have HI : Hid (i = m ∨ i = mid ∨ ky8 key Z0 (mid + m - 1 - i) < ky8 key Z0 i) := by
     have e1 := HM.out
     have e2 := HF.out
     rcases HU.out with h | h
     ·show _ ∨ _ ∨ _; omega
     ·exact .inr (.inr (by rw [← e1.2.1]; exact h))
    have hi4 : i ≤ 4194304 := by omega
    have hen4 : en ≤ 4194304 := by omega
    have MG : Hid (∀ Z1 : List Z5, (∀ k, Z1[k]? = rt (fun k => Z0[k]?) i m en k) → Ac8 key tie Z1 a mid b ∧ Sg8 key tie Z1 a i ∧ Sg8 key tie Z1 i mid ∧ Cr8 key tie Z1 a i mid ∧ Sg8 key tie Z1 mid en ∧ Sg8 key tie Z1 en b ∧ Cr8 key tie Z1 mid en b) := fun Z1 hz => by
     obtain ⟨f1, f2, f3, f4, f5, f6, f7⟩ := HE.out
     obtain ⟨g1, g2, g3⟩ := HAB.out
     have hl0 := HRW.out.len
     have r := mrg8 (key := key) (tie := tie) (Z := Z0) (Z1 := Z1) (a := a) (m := m) (b := b) (mid := mid) (start := i) (by omega) (by omega) (by omega) H1.out H2.out H3.out f1 f2 f3 (by omega) LO.out HI.out (by rw [f7]; exact hz)
     rw [f7] at r
     exact r
    clear hlt hij hmi hjb hbd hen LO HI HL HU hgt
    by_cases hrot : i < m ∧ m < en
    case' pos =>
     have hr1 : i < m := hrot.1
     have hr2 : m < en := hrot.2
     clear hrot
     go_wp2_with fail
     refine (rotM_any B g n cap i m en _ Z0 _ hn hr1 hr2 (by have := HE.out; have := HAB.out; omega) HSL.out HR.out).mono ?_; rintro e w1 ⟨⟨v, rfl⟩, Z1, s1, s2, s3, s4⟩
     have M1 := hid (MG.out Z1 s1)
     have P1 := hid (s2.wide (a' := a) (b' := b) HE.out.2.2.1 HE.out.2.2.2.1)
     have R1 := hid s3
     have G1 := hid (wtr HG.out s4)
     clear s1 s2 s3 s4 hr1 hr2 MG HG HR
    case' neg =>
     obtain ⟨Z1, hZ1⟩ : ∃ Z1, Z0 = Z1 := ⟨_, rfl⟩
     have M1 := hid (MG.out Z1 (fun k => by rw [← hZ1]; exact rt_none (by have := HE.out; omega) k))
     have P1 : Hid (Pm8 Z0 Z1 a b) := by rw [← hZ1]; exact Pm8.refl Z0 a b
     have R1 : Hid (Rw wr B g n cap Z1) := by rw [← hZ1]; exact HR.out
     have G1 := HG
     by_cases hr2 : i < m
     case' pos => have hr3 : ¬ m < en := fun h => hrot ⟨hr2, h⟩
     all_goals (clear hrot MG HG HR hZ1)
    all_goals (
      by_cases hra : a < i ∧ i < mid
      case' pos =>
        have hq1 : a < i := hra.1
        have hq2 : i < mid := hra.2
        clear hra
        go_wp2_with fail
        refine (IH.out a i mid Z1 _ (by have := HM.out; omega) hq1 hq2 (by have := HM.out; have := HAB.out; omega) G1.out (fun z hz => HSL.out z (P1.out.perm.mem_iff.1 hz)) R1.out M1.out.2.1 M1.out.2.2.1 M1.out.2.2.2.1).mono ?_; rintro e w4 ⟨⟨v, rfl⟩, Z2, s1, s2, s3, s4⟩
        have P2 := hid (P1.out.trans (s1.wide (Nat.le_refl _) (show mid ≤ b by have := HM.out; omega)))
        have A2 := hid (M1.out.1.kept s1 (Nat.le_refl _) (show mid ≤ b by have := HM.out; omega) (.inr (Nat.le_refl _)))
        have L2 := hid s2
        have M2 := hid (And.intro (M1.out.2.2.2.2.1.kept s1 (.inr (Nat.le_refl _))) (And.intro (M1.out.2.2.2.2.2.1.kept s1 (.inr HE.out.2.2.2.2.2.1)) (M1.out.2.2.2.2.2.2.off s1 (.inr (Nat.le_refl _)))))
        have R2 := hid s3
        have G2 := hid (wtr G1.out s4)
        clear s1 s2 s3 s4 hq1 hq2
      case' neg =>
        obtain ⟨Z2, hZ2⟩ : ∃ Z2, Z1 = Z2 := ⟨_, rfl⟩
        have P2 : Hid (Pm8 Z0 Z2 a b) := by rw [← hZ2]; exact P1.out
        have A2 : Hid (Ac8 key tie Z2 a mid b) := by rw [← hZ2]; exact M1.out.1
        have L2 : Hid (Sg8 key tie Z2 a mid) := by
          rw [← hZ2]
          have e := HE.out
          by_cases h : i = a
          · have := M1.out.2.2.1; rw [h] at this; exact this
          · have h' : i = mid := by omega
            have := M1.out.2.1; rw [h'] at this; exact this
        have M2 : Hid (Sg8 key tie Z2 mid en ∧ Sg8 key tie Z2 en b ∧ Cr8 key tie Z2 mid en b) := by rw [← hZ2]; exact M1.out.2.2.2.2
        have R2 := hZ2 ▸ R1
        have G2 := G1
        by_cases hq1 : a < i
        case' pos => have hq2 : ¬ i < mid := fun h => hra ⟨hq1, h⟩
        all_goals (clear hra hZ2)
      all_goals (
        by_cases hra : mid < en ∧ en < b
        case' pos =>
          have hv1 : mid < en := hra.1
          have hv2 : en < b := hra.2
          clear hra
          go_wp2_with fail
          refine (IH.out mid en b Z2 _ (by have := HM.out; omega) hv1 hv2 HAB.out.2.2 G2.out (fun z hz => HSL.out z (P2.out.perm.mem_iff.1 hz)) R2.out M2.out.1 M2.out.2.1 M2.out.2.2).mono ?_; rintro e w5 ⟨⟨v, rfl⟩, Z3, s1, s2, s3, s4⟩
          have P3 := hid (P2.out.trans (s1.wide (show a ≤ mid by have := HM.out; omega) (Nat.le_refl _)))
          have A3 := hid (A2.out.kept s1 (show a ≤ mid by have := HM.out; omega) (Nat.le_refl _) (.inl (Nat.le_refl _)))
          have L3 := hid (L2.out.kept s1 (.inl (Nat.le_refl _)))
          have U3 := hid s2
          have R3 := hid s3
          have G3 := hid (wtr G2.out s4)
          clear s1 s2 s3 s4 hv1 hv2
        case' neg =>
          obtain ⟨Z3, hZ3⟩ : ∃ Z3, Z2 = Z3 := ⟨_, rfl⟩
          have P3 : Hid (Pm8 Z0 Z3 a b) := by rw [← hZ3]; exact P2.out
          have A3 : Hid (Ac8 key tie Z3 a mid b) := by rw [← hZ3]; exact A2.out
          have L3 : Hid (Sg8 key tie Z3 a mid) := by rw [← hZ3]; exact L2.out
          have U3 : Hid (Sg8 key tie Z3 mid b) := by
            rw [← hZ3]
            have e := HE.out
            by_cases h : en = mid
            · have := M2.out.2.1; rw [h] at this; exact this
            · have h' : en = b := by omega
              have := M2.out.1; rw [h'] at this; exact this
          have R3 := hZ3 ▸ R2
          have G3 := G2
          by_cases hv1 : mid < en
          case' pos => have hv2 : ¬ en < b := fun h => hra ⟨hv1, h⟩
          all_goals (clear hra hZ3)
        all_goals (
          go_wp2
          go_end0
          exact ⟨⟨_, rfl⟩, Z3, P3.out, Sg8.glue L3.out U3.out A3.out, R3.out, G3.out⟩)))
theorem symM_any (key : Z5 → Int) (tie : Z5 → Z5 → Prop) (F : Nat) (bs : Array Value) (eg : ∀ args w, (callFunc F args).run Tryz.prog w = .ok (.enter F args) w) (B g n cap : Nat) (hn : n ≤ 4194304) : ∀ (N a m b : Nat) (Z0 : List Z5) (w : World), b - a ≤ N → a < m → m < b → b ≤ n → (∀ z ∈ Z0, ∃ a k c, z.2.2.1 = Value.slice a k c) → Rw w B g n cap Z0 → Sg8 key tie Z0 a m → Sg8 key tie Z0 m b → Cr8 key tie Z0 a m b →
  (∀ (gA uA : Int) (aA : Option Addr) (kA cA : Nat) (lA : List R3) (tA : ByteArray) (gB uB : Int) (aB : Option Addr) (kB cB : Nat) (lB : List R3) (tB : ByteArray) (W : World), w.grownBy W (some g) → Calls Tryz.prog F (#[.agg #[.int .i64 gA, .int .i64 uA, .slice aA kA cA, .string tA], .agg #[.int .i64 gB, .int .i64 uB, .slice aB kB cB, .string tB]] ++ bs) W fun e w' => e = .returned (.int .i64 (cpr (key (gA, uA, Value.slice aA kA cA, lA, tA)) (key (gB, uB, Value.slice aB kB cB, lB, tB)))) ∧ Below W.heap.size W w') →
  Calls Tryz.prog 149 #[.slice (some ⟨g, 0, none⟩) n cap, .int .i64 (a : Int), .int .i64 (m : Int), .int .i64 (b : Int), .func (.func F) #[] bs] w fun e w' => (∃ v, e = .returned v) ∧ ∃ Z, Pm8 Z0 Z a b ∧ Sg8 key tie Z a b ∧ Rw w' B g n cap Z ∧ w.grownBy w' (some g)
 | 0, a, m, b, Z0, w => fun h1 h2 h3 => by omega
 | N + 1, a, m, b, Z0, w => fun h1 h2 h3 h4 hsl hr s1 s2 s3 hc => by
  by_cases e1 : m = a + 1
  ·exact symM_left key tie F bs eg B g n cap a m b Z0 w hn e1 h3 h4 hsl hr s2 s3 hc
  ·by_cases e2 : b = m + 1
   ·exact symM_right key tie F bs eg B g n cap a m b Z0 w hn h2 e1 e2 h4 hsl hr s1 s3 hc
   ·exact symM_mid key tie F bs eg B g n cap a m b Z0 w hn h2 e1 h3 e2 h4 hsl hr s1 s2 s3 hc (fun a' m' b' Z' W k1 k2 k3 k4 kg ks kr k5 k6 k7 =>
      symM_any key tie F bs eg B g n cap hn N a' m' b' Z' W (by omega) k2 k3 k4 ks kr k5 k6 k7 (fun g1 u1 a1 k1 c1 l1 t1 g2 u2 a2 k2 c2 l2 t2 W' hW' => hc g1 u1 a1 k1 c1 l1 t1 g2 u2 a2 k2 c2 l2 t2 W' (wtr kg hW')))
set_option maxHeartbeats 4000000 in
set_option maxRecDepth 100000 in
theorem stableM_any (key : Z5 → Int) (tie : Z5 → Z5 → Prop) (F : Nat) (bs : Array Value) (eg : ∀ args w, (callFunc F args).run Tryz.prog w = .ok (.enter F args) w) (B g n cap : Nat) (Z0 : List Z5) (w : World) (hn : n ≤ 4194304) (hsl : ∀ z ∈ Z0, ∃ a k c, z.2.2.1 = Value.slice a k c) (hrow : Rw w B g n cap Z0) (ht : Tg8 key tie Z0 0 Z0.length)
  (hcmp : ∀ (gA uA : Int) (aA : Option Addr) (kA cA : Nat) (lA : List R3) (tA : ByteArray) (gB uB : Int) (aB : Option Addr) (kB cB : Nat) (lB : List R3) (tB : ByteArray) (W : World), w.grownBy W (some g) → Calls Tryz.prog F (#[.agg #[.int .i64 gA, .int .i64 uA, .slice aA kA cA, .string tA], .agg #[.int .i64 gB, .int .i64 uB, .slice aB kB cB, .string tB]] ++ bs) W fun e w' => e = .returned (.int .i64 (cpr (key (gA, uA, Value.slice aA kA cA, lA, tA)) (key (gB, uB, Value.slice aB kB cB, lB, tB)))) ∧ Below W.heap.size W w') :
  Calls Tryz.prog 125 #[.slice (some ⟨g, 0, none⟩) n cap, .int .i64 (n : Int), .func (.func F) #[] bs] w fun e w' => (∃ v, e = .returned v) ∧ ∃ Z, Z.Perm Z0 ∧ Sg8 key tie Z 0 Z.length ∧ Rw w' B g n cap Z ∧ w.grownBy w' (some g) := by
 have HRW := hid hrow
 have HSL := hid hsl
 have HTG := hid ht
 have HC := hid hcmp
 have hnl := hrow.len
 have HNL := hid hnl
 clear hrow ht hcmp hnl hsl
 go_enter Tryz.func125, Tryz.ntmps125
 go_wp2
 go_loopw [7, 8] (fun av bv wr => ∃ a : Nat, a ≤ n ∧ av = .int .i64 (a : Int) ∧ bv = .int .i64 ((a : Int) + 20) ∧ (∃ Z, Z.Perm Z0 ∧ Bl1 key tie Z 20 a ∧ Rw wr B g n cap Z ∧ w.grownBy wr (some g))) (fun av _ _ => n - (intOf av).toNat)
 case atStart => exact ⟨0, Nat.zero_le _, rfl, rfl, Z0, .refl _, Bl1.start 20 HTG.out, HRW.out, wre _ _⟩
 case round =>
  obtain ⟨a, han, rfl, rfl, Z, hp, hs, hr, hg⟩ := hrel
  have HP := hid hp
  have HS := hid hs
  have HR := hid hr
  have HG := hid hg
  have hlz := hr.len
  have HLZ := hid hlz
  obtain ⟨b, hb⟩ : ∃ b, a + 20 = b := ⟨_, rfl⟩
  have hb0 : (a : Int) + 20 = (b : Int) := by omega
  have HAB := hid hb
  rw [hb0]
  clear hp hs hr hg hlz hb
  by_cases hle : b ≤ n
  ·have hle' : (b : Int) ≤ (n : Int) := by omega
   have hb20 : (b : Int) + 20 = ((b + 20 : Nat) : Int) := by omega
   have hwb : IntKind.i64.wrap ((b : Int) + 20) = (b : Int) + 20 := by rw [IntKind.wrap_i64]; omega
   go_wp2_with fail
   refine (insM_any key tie F bs eg B g n cap a b Z _ hn (by have := HAB.out; omega) hle (fun z hz => HSL.out z (HP.out.mem_iff.1 hz)) HR.out (fun i j i1 i2 i3 => HS.out.rest i j i1 i2 (by have := HLZ.out; omega)) (fun g1 u1 a1 k1 c1 l1 t1 g2 u2 a2 k2 c2 l2 t2 W' hW' => HC.out g1 u1 a1 k1 c1 l1 t1 g2 u2 a2 k2 c2 l2 t2 W' (wtr HG.out hW'))).mono ?_; rintro e w1 ⟨⟨v, rfl⟩, Y, s1, s2, s3, s4⟩
   have HS1 := hid (HS.out.step (by have := HAB.out; have := HLZ.out; omega) (by rw [HAB.out]; exact s1) (by rw [HAB.out]; exact s2))
   have HP1 := hid (s1.perm.trans HP.out)
   have HR1 := hid s3
   have HG1 := hid (wtr HG.out s4)
   clear s1 s2 s3 s4 hb20
   go_wp2
   go_roundw
   case rel => exact ⟨b, hle, rfl, by go_num, Y, HP1.out, by have h := HS1.out; rw [HAB.out] at h; exact h, HR1.out, HG1.out⟩
   case measure => simp [intOf]; have := HAB.out; omega
  ·have hle' : ¬ (b : Int) ≤ (n : Int) := by omega
   go_wp2_with fail
   refine (insM_any key tie F bs eg B g n cap a n Z _ hn han (Nat.le_refl _) (fun z hz => HSL.out z (HP.out.mem_iff.1 hz)) HR.out (fun i j i1 i2 i3 => HS.out.rest i j i1 i2 (by have := HLZ.out; omega)) (fun g1 u1 a1 k1 c1 l1 t1 g2 u2 a2 k2 c2 l2 t2 W' hW' => HC.out g1 u1 a1 k1 c1 l1 t1 g2 u2 a2 k2 c2 l2 t2 W' (wtr HG.out hW'))).mono ?_; rintro e w1 ⟨⟨v, rfl⟩, Y, s1, s2, s3, s4⟩
   have HS1 := hid (HS.out.fin (by have := HLZ.out; omega) (by have := HAB.out; have := HLZ.out; omega) (by rw [HLZ.out]; exact s1) (by rw [HLZ.out]; exact s2))
   have HP1 := hid (s1.perm.trans HP.out)
   have HR1 := hid s3
   have HG1 := hid (wtr HG.out s4)
   clear s1 s2 s3 s4 hle' hle hb0 han HAB HLZ HP HS HR HG
   go_wp2
   go_loopw [6] (fun sv wr => ∃ s : Nat, 20 ≤ s ∧ s ≤ 8388608 ∧ sv = .int .i64 (s : Int) ∧ (∃ Z, Z.Perm Z0 ∧ Bl2 key tie Z s ∧ Rw wr B g n cap Z ∧ w.grownBy wr (some g))) (fun sv _ => n - (intOf sv).toNat)
   case atStart => exact ⟨20, Nat.le_refl _, by omega, rfl, Y, HP1.out, HS1.out, HR1.out, HG1.out⟩
   case round =>
    obtain ⟨s, hs20, hs8, rfl, Z, hp, hs, hr, hg⟩ := hrel
    have HP := hid hp
    have HS := hid hs
    have HR := hid hr
    have HG := hid hg
    have HS20 := hid hs20
    clear hp hs hr hg hs20
    by_cases hlt : s < n
    ·have h2s : 2 * (s : Int) = ((2 * s : Nat) : Int) := by omega
     obtain ⟨d, hd⟩ : ∃ d, 2 * s = d := ⟨_, rfl⟩
     rw [hd] at h2s
     have hs2 : (s : Int) * 2 = (d : Int) := by omega
     have hwd : IntKind.i64.wrap (d : Int) = (d : Int) := by rw [IntKind.wrap_i64]; omega
     have HD : Hid (2 * s = d ∧ s < n ∧ d ≤ 8388608) := ⟨hd, hlt, by omega⟩
     have hd8 : d ≤ 8388608 := by omega
     have hlt' : (s : Int) < (n : Int) := by omega
     clear hd hlt
     go_wp2
     go_loopw [7, 8] (fun av bv wr2 => ∃ a b : Nat, a ≤ n ∧ a + d = b ∧ av = .int .i64 (a : Int) ∧ bv = .int .i64 (b : Int) ∧ (∃ Z, Z.Perm Z0 ∧ Bl3 key tie Z s a ∧ Rw wr2 B g n cap Z ∧ w.grownBy wr2 (some g))) (fun av _ _ => n - (intOf av).toNat)
     case atStart => exact ⟨0, d, Nat.zero_le _, by omega, rfl, rfl, Z, HP.out, HS.out.go, HR.out, HG.out⟩
     case round =>
      obtain ⟨a, b, han, hab, rfl, rfl, Y, hp, hs, hr, hg⟩ := hrel
      have HP2 := hid hp
      have HS2 := hid hs
      have HR2 := hid hr
      have HG2 := hid hg
      have HLZ := hid hr.len
      have HAB := hid hab
      obtain ⟨c, hc⟩ : ∃ c, a + s = c := ⟨_, rfl⟩
      have hc0 : (a : Int) + (s : Int) = (c : Int) := by omega
      have hwc : IntKind.i64.wrap (c : Int) = (c : Int) := by rw [IntKind.wrap_i64]; omega
      have HCC := hid hc
      have hb4 : b ≤ 16777216 := by omega
      clear hp hs hr hg hab hc
      by_cases hle : b ≤ n
      ·have hle' : (b : Int) ≤ (n : Int) := by omega
       obtain ⟨b2, hb2⟩ : ∃ b2, b + d = b2 := ⟨_, rfl⟩
       have hb20 : (b : Int) + (d : Int) = (b2 : Int) := by omega
       have hwb : IntKind.i64.wrap (b2 : Int) = (b2 : Int) := by rw [IntKind.wrap_i64]; omega
       have HB2 := hid hb2
       have HLE := hid hle
       clear hb2 hle
       go_wp2_with fail
       refine (symM_any key tie F bs eg B g n cap hn (b - a) a c b Y _ (Nat.le_refl _) (by have := HCC.out; have := HS20.out; omega) (by have := HCC.out; have := HAB.out; have := HD.out; have := HS20.out; omega) HLE.out (fun z hz => HSL.out z (HP2.out.mem_iff.1 hz)) HR2.out (by have h := (HS2.out.ask (b := b) (by have := HLZ.out; have := HLE.out; omega) (by have := HAB.out; have := HD.out; omega)).1; rw [HCC.out] at h; exact h) (by have h := (HS2.out.ask (b := b) (by have := HLZ.out; have := HLE.out; omega) (by have := HAB.out; have := HD.out; omega)).2.1; rw [HCC.out] at h; exact h) (by have h := (HS2.out.ask (b := b) (by have := HLZ.out; have := HLE.out; omega) (by have := HAB.out; have := HD.out; omega)).2.2; rw [HCC.out] at h; exact h) (fun g1 u1 a1 k1 c1 l1 t1 g2 u2 a2 k2 c2 l2 t2 W' hW' => HC.out g1 u1 a1 k1 c1 l1 t1 g2 u2 a2 k2 c2 l2 t2 W' (wtr HG2.out hW'))).mono ?_; rintro e w3 ⟨⟨v, rfl⟩, X, s1, s2, s3, s4⟩
       have hbe : a + 2 * s = b := by have := HAB.out; have := HD.out; omega
       have HS3 := hid (HS2.out.step (by have := HLZ.out; have := HLE.out; omega) (by rw [hbe]; exact s1) (by rw [hbe]; exact s2))
       have HBE := hid hbe
       have HP3 := hid (s1.perm.trans HP2.out)
       have HR3 := hid s3
       have HG3 := hid (wtr HG2.out s4)
       clear s1 s2 s3 s4 hbe
       go_wp2
       go_roundw
       case rel => exact ⟨b, b2, HLE.out, HB2.out, rfl, rfl, X, HP3.out, by have h := HS3.out; rw [HBE.out] at h; exact h, HR3.out, HG3.out⟩
       case measure => simp [intOf]; have := HAB.out; have := HD.out; have := HS20.out; have := HLE.out; omega
      ·have hle' : ¬ (b : Int) ≤ (n : Int) := by omega
       have HLE : Hid (n < b) := by show _ < _; omega
       clear hle
       by_cases hcn : c < n
       ·have hcn' : (c : Int) < (n : Int) := by omega
        have HCN := hid hcn
        clear hcn
        go_wp2_with fail
        refine (symM_any key tie F bs eg B g n cap hn (n - a) a c n Y _ (Nat.le_refl _) (by have := HCC.out; have := HS20.out; omega) HCN.out (Nat.le_refl _) (fun z hz => HSL.out z (HP2.out.mem_iff.1 hz)) HR2.out (by have h := (HS2.out.ask (b := n) (by have := HLZ.out; omega) (by have := HAB.out; have := HD.out; have := HLE.out; omega)).1; rw [HCC.out] at h; exact h) (by have h := (HS2.out.ask (b := n) (by have := HLZ.out; omega) (by have := HAB.out; have := HD.out; have := HLE.out; omega)).2.1; rw [HCC.out] at h; exact h) (by have h := (HS2.out.ask (b := n) (by have := HLZ.out; omega) (by have := HAB.out; have := HD.out; have := HLE.out; omega)).2.2; rw [HCC.out] at h; exact h) (fun g1 u1 a1 k1 c1 l1 t1 g2 u2 a2 k2 c2 l2 t2 W' hW' => HC.out g1 u1 a1 k1 c1 l1 t1 g2 u2 a2 k2 c2 l2 t2 W' (wtr HG2.out hW'))).mono ?_; rintro e w3 ⟨⟨v, rfl⟩, X, s1, s2, s3, s4⟩
        have HS3 := hid (HS2.out.fin (by have := HLZ.out; omega) (by have := HLZ.out; have := HAB.out; have := HD.out; have := HLE.out; omega) (by rw [HLZ.out]; exact s1) (by rw [HLZ.out]; exact s2))
        have HP3 := hid (s1.perm.trans HP2.out)
        have HR3 := hid s3
        have HG3 := hid (wtr HG2.out s4)
        clear s1 s2 s3 s4
        go_wp2
        go_roundw
        case rel => exact ⟨d, by have := HD.out; have := HS20.out; omega, hd8, rfl, X, HP3.out, by have h := HS3.out; rw [HD.out.1] at h; exact h, HR3.out, HG3.out⟩
        case measure => simp [intOf]; have := HD.out; have := HS20.out; omega
       ·have hcn' : ¬ (c : Int) < (n : Int) := by omega
        have HS3 := hid (HS2.out.fin0 (by have := HLZ.out; omega) (by have := HLZ.out; have := HCC.out; omega))
        clear hcn
        go_wp2
        go_roundw
        case rel => exact ⟨d, by have := HD.out; have := HS20.out; omega, hd8, rfl, Y, HP2.out, by have h := HS3.out; rw [HD.out.1] at h; exact h, HR2.out, HG2.out⟩
        case measure => simp [intOf]; have := HD.out; have := HS20.out; omega
    ·have hlt' : ¬ (s : Int) < (n : Int) := by omega
     have HE := hid (HS.out.fin (by have := HR.out.len; omega))
     clear hlt
     go_wp2
     go_end0
     exact ⟨⟨_, rfl⟩, Z, HP.out, HE.out, HR.out, HG.out⟩
set_option maxRecDepth 100000 in
theorem sortM_any (key : Z5 → Int) (tie : Z5 → Z5 → Prop) (F : Nat) (bs : Array Value) (eg : ∀ args w, (callFunc F args).run Tryz.prog w = .ok (.enter F args) w) (B g n cap : Nat) (Z0 : List Z5) (w : World) (hn : n ≤ 4194304) (hsl : ∀ z ∈ Z0, ∃ a k c, z.2.2.1 = Value.slice a k c) (hrow : Rw w B g n cap Z0) (ht : Z0.Pairwise (fun x y => key x = key y → tie x y))
  (hcmp : ∀ (gA uA : Int) (aA : Option Addr) (kA cA : Nat) (lA : List R3) (tA : ByteArray) (gB uB : Int) (aB : Option Addr) (kB cB : Nat) (lB : List R3) (tB : ByteArray) (W : World), w.grownBy W (some g) → Calls Tryz.prog F (#[.agg #[.int .i64 gA, .int .i64 uA, .slice aA kA cA, .string tA], .agg #[.int .i64 gB, .int .i64 uB, .slice aB kB cB, .string tB]] ++ bs) W fun e w' => e = .returned (.int .i64 (cpr (key (gA, uA, Value.slice aA kA cA, lA, tA)) (key (gB, uB, Value.slice aB kB cB, lB, tB)))) ∧ Below W.heap.size W w') :
  Calls Tryz.prog 90 #[.slice (some ⟨g, 0, none⟩) n cap, .func (.func F) #[] bs] w fun e w' => (∃ v, e = .returned v) ∧ ∃ Z, Z.Perm Z0 ∧ Z.Pairwise (lt8 key tie) ∧ Rw w' B g n cap Z ∧ w.grownBy w' (some g) := by
 have HRW := hid hrow
 have HSL := hid hsl
 have HC := hid hcmp
 have HT := hid ht
 clear hrow hcmp hsl ht
 go_enter Tryz.func90, Tryz.ntmps90
 go_wp2_with fail
 refine (stableM_any key tie F bs eg B g n cap Z0 _ hn HSL.out HRW.out (Tg8.of HT.out) HC.out).mono ?_; rintro e w1 ⟨⟨v, rfl⟩, Z, s1, s2, s3, s4⟩
 have E1 := hid s1
 have E2 := hid (Sg8.pairs s2)
 have E3 := hid s3
 have E4 := hid s4
 clear s1 s2 s3 s4
 go_wp2
 go_end0
 exact ⟨⟨_, rfl⟩, Z, E1.out, E2.out, E3.out, E4.out⟩
end Go.Proofs.YtmpcmllfgogegaaGreat
