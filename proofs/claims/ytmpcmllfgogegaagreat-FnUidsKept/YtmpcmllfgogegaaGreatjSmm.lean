/- Sma, Smb, Smc, Smd, Sme. -/

import Derived.Test.YtmpcmllfgogegaaGreatjSt
namespace Go.Proofs.YtmpcmllfgogegaaGreat
open Go.RowKit Go.ChangeMaps
set_option maxHeartbeats 4000000 in
set_option maxRecDepth 100000 in
theorem swapM_any (B g n cap : Nat) (p q c : Nat) (cv : Value) (Z0 : List Z5) (w : World) (hn : n ≤ 4194304) (hpq : p + c ≤ q) (hqc : q + c ≤ n) (hsl : ∀ z ∈ Z0, ∃ a k c, z.2.2.1 = Value.slice a k c) (hrow : Rw w B g n cap Z0) :
  Calls Tryz.prog 176 #[.slice (some ⟨g, 0, none⟩) n cap, .int .i64 (p : Int), .int .i64 (q : Int), .int .i64 (c : Int), cv] w fun e w' => (∃ v, e = .returned v) ∧ ∃ Z, Sr8 Z0 Z p q c ∧ Pm8 Z0 Z p (q + c) ∧ Rw w' B g n cap Z ∧ w.grownBy w' (some g) := by
 have HRW := hid hrow
 have HSL := hid hsl
 clear hrow hsl
 go_enter Tryz.func176, Tryz.ntmps176
 go_wp2
 go_loopw [10] (fun iv wr => ∃ i : Nat, i ≤ c ∧ iv = .int .i64 (i : Int) ∧ (∃ Z, Sr8 Z0 Z p q i ∧ Pm8 Z0 Z p (q + c) ∧ Rw wr B g n cap Z ∧ w.grownBy wr (some g))) (fun iv _ => c - (intOf iv).toNat)
 case atStart => exact ⟨0, Nat.zero_le _, rfl, Z0, .zero _ _ _, .refl _ _ _, HRW.out, wre _ _⟩
 case round =>
  obtain ⟨i, hic, rfl, Y, hs, hp, hr, hg⟩ := hrel
  have HS := hid hs
  have HP := hid hp
  have HR := hid hr
  have HG := hid hg
  clear hs hp hr hg
  by_cases hlt : i < c
  ·have hl := HR.out.len
   have hp0 : p + i < Y.length := by omega
   have hq0 : q + i < Y.length := by omega
   obtain ⟨c0, f0⟩ := HR.out.spot (p + i) hp0
   obtain ⟨d0, e0⟩ := HR.out.spot (q + i) hq0
   have HS1 := hid (Sr8.step HS.out (by omega) hp0 hq0)
   have HP1 := hid (Pm8.trans HP.out (sw2_pm hp0 hq0 (show p ≤ p + i by omega) (show p + i < q + c by omega) (show p ≤ q + i by omega) (show q + i < q + c by omega)))
   obtain ⟨x, hx⟩ : ∃ x, Y[p + i] = x := ⟨_, rfl⟩
   obtain ⟨y, hy⟩ : ∃ y, Y[q + i] = y := ⟨_, rfl⟩
   have mx : x ∈ Z0 := hx ▸ HP.out.perm.mem_iff.1 (List.getElem_mem hp0)
   have my : y ∈ Z0 := hy ▸ HP.out.perm.mem_iff.1 (List.getElem_mem hq0)
   rw [hx] at c0 HS1 HP1
   rw [hy] at d0 HS1 HP1
   clear hx hy
   have sx := HSL.out x mx
   have sy := HSL.out y my
   obtain ⟨gA, uA, fA, lA, tA⟩ := x
   obtain ⟨gB, uB, fB, lB, tB⟩ := y
   obtain ⟨aA, kA, cA, sx⟩ := sx
   obtain ⟨aB, kB, cB, sy⟩ := sy
   dsimp only at sx sy c0 d0 HS1 HP1
   subst sx sy
   clear mx my
   have h1 : (p : Int) + (i : Int) = ((p + i : Nat) : Int) := by omega
   have h2 : (q : Int) + (i : Int) = ((q + i : Nat) : Int) := by omega
   obtain ⟨P, hP⟩ : ∃ P, p + i = P := ⟨_, rfl⟩
   obtain ⟨Q, hQ⟩ : ∃ Q, q + i = Q := ⟨_, rfl⟩
   rw [hP] at h1 c0 f0 HS1 HP1
   rw [hQ] at h2 d0 e0 HS1 HP1
   have hw1 : IntKind.i64.wrap (P : Int) = (P : Int) := by rw [IntKind.wrap_i64]; omega
   have hw2 : IntKind.i64.wrap (Q : Int) = (Q : Int) := by rw [IntKind.wrap_i64]; omega
   have hI : (0 : Int) ≤ (P : Int) ∧ (P : Int) < (n : Int) := by omega
   have hJ : (0 : Int) ≤ (Q : Int) ∧ (Q : Int) < (n : Int) := by omega
   have hne : P ≠ Q := by omega
   have HR2 : Hid (∀ W, Rw W B g n cap Y → Rw ((((((((W.setCell ⟨g, P * 4, none⟩ (.int .i64 gB)).setCell ⟨g, P * 4 + 1, none⟩ (.int .i64 uB)).setCell ⟨g, P * 4 + 2, none⟩ (.slice aB kB cB)).setCell ⟨g, P * 4 + 3, none⟩ (.string tB)).setCell ⟨g, Q * 4, none⟩ (.int .i64 gA)).setCell ⟨g, Q * 4 + 1, none⟩ (.int .i64 uA)).setCell ⟨g, Q * 4 + 2, none⟩ (.slice aA kA cA)).setCell ⟨g, Q * 4 + 3, none⟩ (.string tA)) B g n cap (sw2 Y P Q (gA, uA, Value.slice aA kA cA, lA, tA) (gB, uB, Value.slice aB kB cB, lB, tB))) := fun W h => by
    have e : sw2 Y P Q (gA, uA, Value.slice aA kA cA, lA, tA) (gB, uB, Value.slice aB kB cB, lB, tB) = (Y.set P (gB, uB, Value.slice aB kB cB, lB, tB)).set Q (gA, uA, Value.slice aA kA cA, lA, tA) := by unfold sw2; rw [List.set_comm _ _ (Ne.symm hne)]
    rw [e]
    exact Rw.set (Rw.set h P (by omega) (gB, uB, Value.slice aB kB cB, lB, tB)) Q (by omega) (gA, uA, Value.slice aA kA cA, lA, tA)
   have HNE := hid hne
   clear hP hQ hp0 hq0 hl hne
   obtain ⟨z0, z1, z2, z3⟩ := f0
   obtain ⟨y0, y1, y2, y3⟩ := e0
   go_wp2_with fail
   go_region
   have R5 := hid (World.ownsRow.drew (HR2.out _ HR.out))
   have G5 := hid (gdr (wst (wst (wst (wst (wst (wst (wst (wst HG.out (P * 4) (.int .i64 gB)) (P * 4 + 1) (.int .i64 uB)) (P * 4 + 2) (.slice aB kB cB)) (P * 4 + 3) (.string tB)) (Q * 4) (.int .i64 gA)) (Q * 4 + 1) (.int .i64 uA)) (Q * 4 + 2) (.slice aA kA cA)) (Q * 4 + 3) (.string tA)))
   clear c0 d0 z0 z1 z2 z3 y0 y1 y2 y3
   go_wp2
   go_roundw
   case rel => exact ⟨i + 1, by omega, by go_num, _, HS1.out, HP1.out, R5.out, G5.out⟩
   case measure => simp [intOf]; omega
  ·have HE : Hid (i = c) := by show _ = _; omega
   go_wp2
   go_end0
   exact ⟨⟨_, rfl⟩, Y, HE.out ▸ HS.out, HP.out, HR.out, HG.out⟩
set_option maxHeartbeats 4000000 in
set_option maxRecDepth 100000 in
theorem rotM_any (B g n cap : Nat) (a m b : Nat) (cv : Value) (Z0 : List Z5) (w : World) (hn : n ≤ 4194304) (ham : a < m) (hmb : m < b) (hbn : b ≤ n) (hsl : ∀ z ∈ Z0, ∃ a k c, z.2.2.1 = Value.slice a k c) (hrow : Rw w B g n cap Z0) :
  Calls Tryz.prog 167 #[.slice (some ⟨g, 0, none⟩) n cap, .int .i64 (a : Int), .int .i64 (m : Int), .int .i64 (b : Int), cv] w fun e w' => (∃ v, e = .returned v) ∧ ∃ Z, (∀ k, Z[k]? = rt (fun k => Z0[k]?) a m b k) ∧ Pm8 Z0 Z a b ∧ Rw w' B g n cap Z ∧ w.grownBy w' (some g) := by
 have HRW := hid hrow
 have HSL := hid hsl
 have h1 : (m : Int) - (a : Int) = ((m - a : Nat) : Int) := by omega
 have h2 : (b : Int) - (m : Int) = ((b - m : Nat) : Int) := by omega
 obtain ⟨i0, hi0⟩ : ∃ i0, m - a = i0 := ⟨_, rfl⟩
 obtain ⟨j0, hj0⟩ : ∃ j0, b - m = j0 := ⟨_, rfl⟩
 rw [hi0] at h1
 rw [hj0] at h2
 have hw1 : IntKind.i64.wrap (i0 : Int) = (i0 : Int) := by rw [IntKind.wrap_i64]; omega
 have hw2 : IntKind.i64.wrap (j0 : Int) = (j0 : Int) := by rw [IntKind.wrap_i64]; omega
 have H0 : Hid (m - a = i0 ∧ b - m = j0) := ⟨hi0, hj0⟩
 clear hrow hi0 hj0 hsl
 go_enter Tryz.func167, Tryz.ntmps167
 go_wp2
 go_loopw [10, 11] (fun iv jv wr => ∃ i j : Nat, 0 < i ∧ 0 < j ∧ a ≤ m - i ∧ i ≤ m ∧ m + j ≤ b ∧ iv = .int .i64 (i : Int) ∧ jv = .int .i64 (j : Int) ∧ (∃ Z, Hid (∀ k, rt (fun k => Z[k]?) (m - i) m (m + j) k = rt (fun k => Z0[k]?) a m b k) ∧ Pm8 Z0 Z a b ∧ Rw wr B g n cap Z ∧ w.grownBy wr (some g))) (fun iv jv _ => (intOf iv).toNat + (intOf jv).toNat)
 case atStart => exact ⟨i0, j0, by have := H0.out; omega, by have := H0.out; omega, by have := H0.out; omega, by have := H0.out; omega, by have := H0.out; omega, rfl, rfl, Z0, (fun k => by have := H0.out; rw [show m - i0 = a by omega, show m + j0 = b by omega]), .refl _ _ _, HRW.out, wre _ _⟩
 case round =>
  obtain ⟨i, j, hi1, hj1, hai, him, hjb, rfl, rfl, Y, HS, hp, hr, hg⟩ := hrel
  have HP := hid hp
  have HR := hid hr
  have HG := hid hg
  have HB : Hid (0 < i ∧ 0 < j ∧ a ≤ m - i ∧ i ≤ m ∧ m + j ≤ b) := ⟨hi1, hj1, hai, him, hjb⟩
  obtain ⟨mi, hmi⟩ : ∃ mi, m - i = mi := ⟨_, rfl⟩
  obtain ⟨mj, hmj⟩ : ∃ mj, m + j = mj := ⟨_, rfl⟩
  have HMI : Hid (m - i = mi ∧ m + j = mj) := ⟨hmi, hmj⟩
  have hm1 : (m : Int) - (i : Int) = (mi : Int) := by omega
  have hm2 : (m : Int) + (j : Int) = (mj : Int) := by omega
  have hwm1 : IntKind.i64.wrap (mi : Int) = (mi : Int) := by rw [IntKind.wrap_i64]; omega
  have hwm2 : IntKind.i64.wrap (mj : Int) = (mj : Int) := by rw [IntKind.wrap_i64]; omega
  clear hmi hmj
  clear hp hr hg h1 h2 hw1 hw2 H0 HRW
  by_cases he : i = j
  ·subst he
   have hne : ((i : Int) != (i : Int)) = false := by simp
   clear hi1 hj1 hai him hjb
   go_wp2_with fail
   refine (swapM_any B g n cap mi m i cv Y _ hn (by have := HB.out; have := HMI.out; omega) (by have := HB.out; omega) (fun z hz => HSL.out z (HP.out.perm.mem_iff.1 hz)) HR.out).mono ?_; rintro e w1 ⟨⟨v, rfl⟩, Z, s1, s2, s3, s4⟩
   have E1 := hid (fun k => (rt_even (HMI.out.1.symm ▸ s1) HB.out.2.2.2.1 k).trans (HS.out k))
   have E2 := hid (HP.out.trans (s2.wide (HMI.out.1 ▸ HB.out.2.2.1) (by have := HB.out; omega)))
   have E3 := hid s3
   have E4 := hid (wtr HG.out s4)
   clear s1 s2 s3 s4
   go_wp2
   go_end0
   exact ⟨⟨_, rfl⟩, Z, E1.out, E2.out, E3.out, E4.out⟩
  ·have hne : ((i : Int) != (j : Int)) = true := by simp; omega
   by_cases hgt : j < i
   ·have hgt' : (j : Int) < (i : Int) := by omega
    have hd : (i : Int) - (j : Int) = ((i - j : Nat) : Int) := by omega
    have hwd : IntKind.i64.wrap ((i - j : Nat) : Int) = ((i - j : Nat) : Int) := by rw [IntKind.wrap_i64]; omega
    have HGT := hid hgt
    clear hi1 hj1 hai him hjb he hgt
    go_wp2_with fail
    refine (swapM_any B g n cap mi m j cv Y _ hn (by have := HB.out; have := HGT.out; have := HMI.out; omega) (by have := HB.out; omega) (fun z hz => HSL.out z (HP.out.perm.mem_iff.1 hz)) HR.out).mono ?_; rintro e w1 ⟨⟨v, rfl⟩, Z, s1, s2, s3, s4⟩
    have E1 := hid (fun k => (rt_left (HMI.out.1.symm ▸ s1) HGT.out HB.out.2.2.2.1 k).trans (HS.out k))
    have E2 := hid (HP.out.trans (s2.wide (HMI.out.1 ▸ HB.out.2.2.1) HB.out.2.2.2.2))
    have E3 := hid s3
    have E4 := hid (wtr HG.out s4)
    clear s1 s2 s3 s4
    go_wp2
    go_roundw
    case rel => exact ⟨i - j, j, by have := HB.out; have := HGT.out; omega, by have := HB.out; omega, by have := HB.out; have := HGT.out; omega, by have := HB.out; omega, HB.out.2.2.2.2, by go_num, rfl, Z, E1, E2.out, E3.out, E4.out⟩
    case measure => simp [intOf]; have := HB.out; have := HGT.out; omega
   ·have hgt' : ¬ (j : Int) < (i : Int) := by omega
    have hd : (j : Int) - (i : Int) = ((j - i : Nat) : Int) := by omega
    have hwd : IntKind.i64.wrap ((j - i : Nat) : Int) = ((j - i : Nat) : Int) := by rw [IntKind.wrap_i64]; omega
    obtain ⟨me, hme⟩ : ∃ me, m + j - i = me := ⟨_, rfl⟩
    have he2 : (mj : Int) - (i : Int) = (me : Int) := by have := HMI.out; omega
    have hwe : IntKind.i64.wrap (me : Int) = (me : Int) := by rw [IntKind.wrap_i64]; have := HMI.out; omega
    have HME := hid hme
    clear hme
    have HGT : Hid (i < j) := by show _ < _; omega
    clear hi1 hj1 hai him hjb he hgt
    go_wp2_with fail
    refine (swapM_any B g n cap mi me i cv Y _ hn (by have := HB.out; have := HGT.out; have := HMI.out; have := HME.out; omega) (by have := HB.out; have := HME.out; omega) (fun z hz => HSL.out z (HP.out.perm.mem_iff.1 hz)) HR.out).mono ?_; rintro e w1 ⟨⟨v, rfl⟩, Z, s1, s2, s3, s4⟩
    have E1 := hid (fun k => (rt_right (HME.out.symm ▸ HMI.out.1.symm ▸ s1) HGT.out HB.out.2.2.2.1 k).trans (HS.out k))
    have E2 := hid (HP.out.trans (s2.wide (HMI.out.1 ▸ HB.out.2.2.1) (by have := HB.out; have := HME.out; omega)))
    have E3 := hid s3
    have E4 := hid (wtr HG.out s4)
    clear s1 s2 s3 s4
    go_wp2
    go_roundw
    case rel => exact ⟨i, j - i, by have := HB.out; have := HGT.out; omega, by have := HB.out; have := HGT.out; omega, by have := HB.out; omega, by have := HB.out; omega, by have := HB.out; omega, rfl, by go_num, Z, E1, E2.out, E3.out, E4.out⟩
    case measure => simp [intOf]; have := HB.out; have := HGT.out; omega
set_option maxHeartbeats 4000000 in
set_option maxRecDepth 100000 in
theorem insM_any (key : Z5 → Int) (tie : Z5 → Z5 → Prop) (F : Nat) (bs : Array Value) (eg : ∀ args w, (callFunc F args).run Tryz.prog w = .ok (.enter F args) w) (B g n cap a b : Nat) (Z0 : List Z5) (w : World) (hn : n ≤ 4194304) (hab : a ≤ b) (hbn : b ≤ n) (hsl : ∀ z ∈ Z0, ∃ a k c, z.2.2.1 = Value.slice a k c) (hrow : Rw w B g n cap Z0) (ht : Tg8 key tie Z0 a b)
  (hcmp : ∀ (gA uA : Int) (aA : Option Addr) (kA cA : Nat) (lA : List R3) (tA : ByteArray) (gB uB : Int) (aB : Option Addr) (kB cB : Nat) (lB : List R3) (tB : ByteArray) (W : World), w.grownBy W (some g) → Calls Tryz.prog F (#[.agg #[.int .i64 gA, .int .i64 uA, .slice aA kA cA, .string tA], .agg #[.int .i64 gB, .int .i64 uB, .slice aB kB cB, .string tB]] ++ bs) W fun e w' => e = .returned (.int .i64 (cpr (key (gA, uA, Value.slice aA kA cA, lA, tA)) (key (gB, uB, Value.slice aB kB cB, lB, tB)))) ∧ Below W.heap.size W w') :
  Calls Tryz.prog 148 #[.slice (some ⟨g, 0, none⟩) n cap, .int .i64 (a : Int), .int .i64 (b : Int), .func (.func F) #[] bs] w fun e w' => (∃ v, e = .returned v) ∧ ∃ Z, Pm8 Z0 Z a b ∧ Sg8 key tie Z a b ∧ Rw w' B g n cap Z ∧ w.grownBy w' (some g) := by
 have HRW := hid hrow
 have HTG := hid ht
 have HSL := hid hsl
 have HC := hid hcmp
 have HAB : Hid (a ≤ b ∧ b ≤ n) := ⟨hab, hbn⟩
 have h0 : (a : Int) + 1 = ((a + 1 : Nat) : Int) := by omega
 obtain ⟨a1, ha1⟩ : ∃ a1, a + 1 = a1 := ⟨_, rfl⟩
 rw [ha1] at h0
 have hw0 : IntKind.i64.wrap (a1 : Int) = (a1 : Int) := by rw [IntKind.wrap_i64]; omega
 have HA1 := hid ha1
 have hb4 : b ≤ 4194304 := by omega
 clear hrow ht hcmp ha1 hab hbn hsl
 go_enter Tryz.func148, Tryz.ntmps148
 go_wp2
 go_loopw [8] (fun iv wr => ∃ i : Nat, a + 1 ≤ i ∧ i ≤ b + 1 ∧ iv = .int .i64 (i : Int) ∧ (∃ Z, Pm8 Z0 Z a b ∧ In8 key tie Z a b i ∧ Rw wr B g n cap Z ∧ w.grownBy wr (some g))) (fun iv _ => b + 1 - (intOf iv).toNat)
 case atStart => exact ⟨a1, by have := HA1.out; omega, by have := HA1.out; have := HAB.out; omega, rfl, Z0, .refl _ _ _, by rw [← HA1.out]; exact In8.start HTG.out, HRW.out, wre _ _⟩
 case round =>
  obtain ⟨i, hai, hib, rfl, Z, hp, hs, hr, hg⟩ := hrel
  have HP := hid hp
  have HS := hid hs
  have HR := hid hr
  have HG := hid hg
  have HAI : Hid (a + 1 ≤ i ∧ i ≤ b + 1) := ⟨hai, hib⟩
  clear hp hs hr hg h0 hw0 hai hib
  by_cases hlt : i < b
  ·go_wp2
   go_loopw [9] (fun jv wr2 => ∃ j : Nat, a ≤ j ∧ j ≤ i ∧ jv = .int .i64 (j : Int) ∧ (∃ Z, Pm8 Z0 Z a b ∧ Jn8 key tie Z a b i j ∧ Rw wr2 B g n cap Z ∧ w.grownBy wr2 (some g))) (fun jv _ => (intOf jv).toNat)
   case atStart => exact ⟨i, by have := HAI.out; omega, Nat.le_refl _, rfl, Z, HP.out, In8.go HS.out hlt, HR.out, HG.out⟩
   case round =>
    obtain ⟨j, haj, hji, rfl, Y, hp, hs, hr, hg⟩ := hrel
    have HP := hid hp
    have HS := hid hs
    have HR := hid hr
    have HG := hid hg
    have HJ : Hid (a ≤ j ∧ j ≤ i) := ⟨haj, hji⟩
    clear hp hs hr hg
    by_cases h0 : j = a
    ·subst h0
     have HE := hid HS.out.fin0
     clear haj hji
     go_wp2_with fail
     go_region
     go_wp2
     go_roundw
     case rel => exact ⟨i + 1, by have := HAI.out; omega, by omega, by go_num, Y, HP.out, HE.out, HR.out, gdr HG.out⟩
     case measure => simp [intOf]; omega
    ·obtain ⟨q, hjq⟩ : ∃ q : Nat, j = q + 1 := ⟨j - 1, by omega⟩
     have hl := HR.out.len
     have hq0 : q < Y.length := by have := HAB.out; omega
     have hj1 : j < Y.length := by have := HAB.out; omega
     have hil : i < Y.length := by have := HAB.out; omega
     obtain ⟨c, f⟩ := HR.out.spot q hq0
     obtain ⟨d, e⟩ := HR.out.spot j hj1
     subst hjq
     have hux := ky8_at (key := key) hq0
     have huy := ky8_at (key := key) hj1
     have hpm := HP.out.trans (sw2_pm (a := a) (b := b) hq0 hj1 (by omega) (by omega) (by omega) (by omega))
     have hstep := Jn8.step hil HS.out (by omega) (by omega)
     have hfin := Jn8.fin hil HS.out (by omega) (by omega)
     obtain ⟨x, hxe⟩ : ∃ x, Y[q] = x := ⟨_, rfl⟩
     obtain ⟨y, hye⟩ : ∃ y, Y[q + 1] = y := ⟨_, rfl⟩
     have mx : x ∈ Z0 := hxe ▸ HP.out.perm.mem_iff.1 (List.getElem_mem hq0)
     have my : y ∈ Z0 := hye ▸ HP.out.perm.mem_iff.1 (List.getElem_mem hj1)
     rw [hxe] at c hux hpm hstep
     rw [hye] at d huy hpm hstep
     rw [hux, huy] at hstep hfin
     clear hxe hye hux huy
     have sx := HSL.out x mx
     have sy := HSL.out y my
     obtain ⟨gA, uA, fA, lA, tA⟩ := x
     obtain ⟨gB, uB, fB, lB, tB⟩ := y
     obtain ⟨aA, kA, cA, sx⟩ := sx
     obtain ⟨aB, kB, cB, sy⟩ := sy
     dsimp only at sx sy c d hpm hstep hfin
     subst sx sy
     obtain ⟨kx, hkx⟩ : ∃ kx, key (gA, uA, Value.slice aA kA cA, lA, tA) = kx := ⟨_, rfl⟩
     obtain ⟨ky, hky⟩ : ∃ ky, key (gB, uB, Value.slice aB kB cB, lB, tB) = ky := ⟨_, rfl⟩
     rw [hkx, hky] at hstep hfin
     have HKX := hid hkx
     have HKY := hid hky
     clear mx my hkx hky
     have HST := hid hstep
     have HFN := hid hfin
     have HPM := hid hpm
     obtain ⟨j, hjq⟩ : ∃ j : Nat, q + 1 = j := ⟨_, rfl⟩
     rw [hjq] at d e HST HPM HJ ⊢
     have HJQ := hid hjq
     have hij : (j : Int) - 1 = (q : Int) := by omega
     have hwj : IntKind.i64.wrap (q : Int) = (q : Int) := by rw [IntKind.wrap_i64]; omega
     have hJ : (0 : Int) ≤ (q : Int) ∧ (q : Int) < (n : Int) := by omega
     have hJ1 : (0 : Int) ≤ (j : Int) ∧ (j : Int) < (n : Int) := by omega
     have hpos : (a : Int) < (j : Int) := by omega
     have HSC : Hid (∀ W, Below wr.heap.size wr W → (W.cell? ⟨g, q * 4, none⟩ = some (.int .i64 gA) ∧ W.cell? ⟨g, q * 4 + 1, none⟩ = some (.int .i64 uA) ∧ W.cell? ⟨g, q * 4 + 2, none⟩ = some (.slice aA kA cA) ∧ W.cell? ⟨g, q * 4 + 3, none⟩ = some (.string tA)) ∧ (W.cell? ⟨g, j * 4, none⟩ = some (.int .i64 gB) ∧ W.cell? ⟨g, j * 4 + 1, none⟩ = some (.int .i64 uB) ∧ W.cell? ⟨g, j * 4 + 2, none⟩ = some (.slice aB kB cB) ∧ W.cell? ⟨g, j * 4 + 3, none⟩ = some (.string tB))) := fun W h => ⟨C4.later c (HR.out.lt g rfl).2 h, C4.later d (HR.out.lt g rfl).2 h⟩
     have HJL : Hid (j < n ∧ q < n) := ⟨by omega, by omega⟩
     have HAJ : Hid (a < j) := by show _ < _; omega
     clear hstep hfin hpm hq0 hj1 hil hl hjq h0 c d haj hji f e
     obtain ⟨r, hr⟩ : ∃ r, cpr ky kx = r := ⟨_, rfl⟩
     have HCR := hid hr
     have hls := cpr_less ky kx
     rw [hr] at hls
     have HLS := hid hls
     clear hr hls
     go_wp2_with fail
     go_region_held3 (fun W => (W.cell? ⟨g, q * 4, none⟩ = some (.int .i64 gA) ∧ W.cell? ⟨g, q * 4 + 1, none⟩ = some (.int .i64 uA) ∧ W.cell? ⟨g, q * 4 + 2, none⟩ = some (.slice aA kA cA) ∧ W.cell? ⟨g, q * 4 + 3, none⟩ = some (.string tA)) ∧ (W.cell? ⟨g, j * 4, none⟩ = some (.int .i64 gB) ∧ W.cell? ⟨g, j * 4 + 1, none⟩ = some (.int .i64 uB) ∧ W.cell? ⟨g, j * 4 + 2, none⟩ = some (.slice aB kB cB) ∧ W.cell? ⟨g, j * 4 + 3, none⟩ = some (.string tB)))
      ((first | exact HSC.out _ (bdr (bre _)) | exact HSC.out _ (btr (bdr (bre _)) hb2)))
      ((refine (HC.out gB uB aB kB cB lB tB gA uA aA kA cA lA tA _ (gbl HG.out (bdr (bre _)))).mono ?_; rintro e w2 ⟨rfl, hb2⟩; rw [HKX.out, HKY.out, HCR.out]; have B2 := hid (show Below wr.heap.size wr w2 from btr (bdr (bre _)) hb2)))
     by_cases hu : ky < kx
     ·have hr0 : r < 0 := by have := HLS.out; simp only [hu, decide_true, decide_eq_true_eq] at this; exact this
      have HU := hid hu
      have R2 := hid (own_later HR.out B2.out)
      have hc := HSC.out _ B2.out
      have c' := hc.1
      have d' := hc.2
      have z0 := R2.out.frozenAt (q * 4)
      have y0 := R2.out.frozenAt (j * 4)
      have z1 := R2.out.frozenAt (q * 4 + 1)
      have y1 := R2.out.frozenAt (j * 4 + 1)
      have z2 := R2.out.frozenAt (q * 4 + 2)
      have y2 := R2.out.frozenAt (j * 4 + 2)
      have z3 := R2.out.frozenAt (q * 4 + 3)
      have y3 := R2.out.frozenAt (j * 4 + 3)
      clear hc hb2
      go_wp2_with fail
      clear hr0
      go_region
      have R5 := hid (World.ownsRow.drew (Rw.set (Rw.set R2.out j (by have := HJL.out; omega) (gA, uA, Value.slice aA kA cA, lA, tA)) q (by have := HJL.out; omega) (gB, uB, Value.slice aB kB cB, lB, tB)))
      have G5 := hid (gdr (wst (wst (wst (wst (wst (wst (wst (wst (gbl HG.out B2.out) (j * 4) (.int .i64 gA)) (j * 4 + 1) (.int .i64 uA)) (j * 4 + 2) (.slice aA kA cA)) (j * 4 + 3) (.string tA)) (q * 4) (.int .i64 gB)) (q * 4 + 1) (.int .i64 uB)) (q * 4 + 2) (.slice aB kB cB)) (q * 4 + 3) (.string tB)))
      have HST2 := hid (HST.out HU.out)
      clear c' d' z0 y0 z1 y1 z2 y2 z3 y3
      go_wp2
      go_roundw
      case rel => exact ⟨q, by have := HJQ.out; have := HAJ.out; omega, by have := HJQ.out; have := HJ.out; omega, by go_num, _, HPM.out, HST2.out, R5.out, G5.out⟩
      case measure => simp [intOf]; have := HJQ.out; omega
     ·have hr0 : ¬ r < 0 := by have := HLS.out; simp only [hu, decide_false, decide_eq_false_iff_not] at this; exact this
      have HE := hid (HFN.out (show kx ≤ ky by omega))
      clear hu hb2
      go_wp2
      go_roundw
      case rel => exact ⟨i + 1, by have := HAI.out; omega, by omega, by go_num, Y, HP.out, HE.out, own_later HR.out B2.out, gbl HG.out B2.out⟩
      case measure => simp [intOf]; omega
  ·have HN : Hid (b ≤ i) := by show _ ≤ _; omega
   go_wp2
   go_end0
   exact ⟨⟨_, rfl⟩, Z, HP.out, HS.out.low.sub (Nat.le_refl _) HN.out, HR.out, HG.out⟩
set_option maxHeartbeats 4000000 in
set_option maxRecDepth 100000 in
theorem symM_left (key : Z5 → Int) (tie : Z5 → Z5 → Prop) (F : Nat) (bs : Array Value) (eg : ∀ args w, (callFunc F args).run Tryz.prog w = .ok (.enter F args) w) (B g n cap a m b : Nat) (Z0 : List Z5) (w : World) (hn : n ≤ 4194304) (hm : m = a + 1) (hmb : m < b) (hbn : b ≤ n) (hsl : ∀ z ∈ Z0, ∃ a k c, z.2.2.1 = Value.slice a k c) (hrow : Rw w B g n cap Z0) (h2 : Sg8 key tie Z0 m b) (h3 : Cr8 key tie Z0 a m b)
  (hcmp : ∀ (gA uA : Int) (aA : Option Addr) (kA cA : Nat) (lA : List R3) (tA : ByteArray) (gB uB : Int) (aB : Option Addr) (kB cB : Nat) (lB : List R3) (tB : ByteArray) (W : World), w.grownBy W (some g) → Calls Tryz.prog F (#[.agg #[.int .i64 gA, .int .i64 uA, .slice aA kA cA, .string tA], .agg #[.int .i64 gB, .int .i64 uB, .slice aB kB cB, .string tB]] ++ bs) W fun e w' => e = .returned (.int .i64 (cpr (key (gA, uA, Value.slice aA kA cA, lA, tA)) (key (gB, uB, Value.slice aB kB cB, lB, tB)))) ∧ Below W.heap.size W w') :
  Calls Tryz.prog 149 #[.slice (some ⟨g, 0, none⟩) n cap, .int .i64 (a : Int), .int .i64 (m : Int), .int .i64 (b : Int), .func (.func F) #[] bs] w fun e w' => (∃ v, e = .returned v) ∧ ∃ Z, Pm8 Z0 Z a b ∧ Sg8 key tie Z a b ∧ Rw w' B g n cap Z ∧ w.grownBy w' (some g) := by
 have HRW := hid hrow
 have HSL := hid hsl
 have HC := hid hcmp
 have H2 := hid h2
 have H3 := hid h3
 have HAB : Hid (m = a + 1 ∧ m < b ∧ b ≤ n) := ⟨hm, hmb, hbn⟩
 have hd : (m : Int) - (a : Int) = 1 := by omega
 have hb4 : b ≤ 4194304 := by omega
 have hm4 : m ≤ 4194304 := by omega
 have ha4 : a ≤ 4194304 := by omega
 clear hrow hcmp h2 h3 hm hmb hbn hsl
 go_enter Tryz.func149, Tryz.ntmps149
 go_wp2
 clear hd
 go_loopw [10, 11] (fun iv jv wr => ∃ i j : Nat, m ≤ i ∧ i ≤ j ∧ j ≤ b ∧ iv = .int .i64 (i : Int) ∧ jv = .int .i64 (j : Int) ∧ Hid (i = m ∨ ky8 key Z0 (i - 1) < ky8 key Z0 a) ∧ Hid (j = b ∨ ky8 key Z0 a ≤ ky8 key Z0 j) ∧ Rw wr B g n cap Z0 ∧ w.grownBy wr (some g)) (fun iv jv _ => (intOf jv).toNat - (intOf iv).toNat)
 case atStart => exact ⟨m, b, Nat.le_refl _, by have := HAB.out; omega, Nat.le_refl _, rfl, rfl, .inl rfl, .inl rfl, HRW.out, wre _ _⟩
 case round =>
  obtain ⟨i, j, hmi, hij, hjb, rfl, rfl, HL, HU, hr, hg⟩ := hrel
  have HR := hid hr
  have HG := hid hg
  clear hr hg
  by_cases hlt : i < j
  ·have hs : (i : Int) + (j : Int) = ((i + j : Nat) : Int) := by omega
   obtain ⟨s, hs'⟩ : ∃ s, i + j = s := ⟨_, rfl⟩
   rw [hs'] at hs
   have hws : IntKind.i64.wrap (s : Int) = (s : Int) := by rw [IntKind.wrap_i64]; omega
   obtain ⟨h, hh⟩ : ∃ h, s / 2 = h := ⟨_, rfl⟩
   have hh2 : (s : Int) / 2 = (h : Int) := by omega
   have hih : i ≤ h := by omega
   have hhj : h < j := by omega
   have hlen := HR.out.len
   have hP : h < Z0.length := by have := HAB.out; omega
   have hQ : a < Z0.length := by have := HAB.out; omega
   have c0 := (HR.out.spot h hP).1
   have d0 := (HR.out.spot a hQ).1
   have kP := ky8_at (key := key) hP
   have kQ := ky8_at (key := key) hQ
   obtain ⟨x, hx⟩ : ∃ x, Z0[h] = x := ⟨_, rfl⟩
   obtain ⟨y, hy⟩ : ∃ y, Z0[a] = y := ⟨_, rfl⟩
   have mx : x ∈ Z0 := hx ▸ List.getElem_mem hP
   have my : y ∈ Z0 := hy ▸ List.getElem_mem hQ
   rw [hx] at c0 kP
   rw [hy] at d0 kQ
   clear hx hy
   have sx := HSL.out x mx
   have sy := HSL.out y my
   obtain ⟨gA, uA, fA, lA, tA⟩ := x
   obtain ⟨gB, uB, fB, lB, tB⟩ := y
   obtain ⟨aA, kA, cA, sx⟩ := sx
   obtain ⟨aB, kB, cB, sy⟩ := sy
   dsimp only at sx sy c0 d0 kP kQ
   subst sx sy
   obtain ⟨kx, hkx⟩ : ∃ kx, key (gA, uA, Value.slice aA kA cA, lA, tA) = kx := ⟨_, rfl⟩
   obtain ⟨ky, hky⟩ : ∃ ky, key (gB, uB, Value.slice aB kB cB, lB, tB) = ky := ⟨_, rfl⟩
   rw [hkx] at kP
   rw [hky] at kQ
   have HKX := hid hkx
   have HKY := hid hky
   clear mx my hkx hky
   have hI : (0 : Int) ≤ (h : Int) ∧ (h : Int) < (n : Int) := by have := HAB.out; omega
   have hJ : (0 : Int) ≤ (a : Int) ∧ (a : Int) < (n : Int) := by have := HAB.out; omega
   have KP : Hid (ky8 key Z0 h = kx) := kP
   have KQ : Hid (ky8 key Z0 a = ky) := kQ
   have HH : Hid (i ≤ h ∧ h < j) := ⟨hih, hhj⟩
   have HSC : Hid (∀ W, Below wr.heap.size wr W → (W.cell? ⟨g, h * 4, none⟩ = some (.int .i64 gA) ∧ W.cell? ⟨g, h * 4 + 1, none⟩ = some (.int .i64 uA) ∧ W.cell? ⟨g, h * 4 + 2, none⟩ = some (.slice aA kA cA) ∧ W.cell? ⟨g, h * 4 + 3, none⟩ = some (.string tA)) ∧ (W.cell? ⟨g, a * 4, none⟩ = some (.int .i64 gB) ∧ W.cell? ⟨g, a * 4 + 1, none⟩ = some (.int .i64 uB) ∧ W.cell? ⟨g, a * 4 + 2, none⟩ = some (.slice aB kB cB) ∧ W.cell? ⟨g, a * 4 + 3, none⟩ = some (.string tB))) := fun W hW => ⟨C4.later c0 (HR.out.lt g rfl).2 hW, C4.later d0 (HR.out.lt g rfl).2 hW⟩
   obtain ⟨r, hr⟩ : ∃ r, cpr kx ky = r := ⟨_, rfl⟩
   have HCR := hid hr
   have hls := cpr_less kx ky
   rw [hr] at hls
   have HLS := hid hls
   clear hr hls c0 d0 kP kQ hP hQ hlen hs' hh
   go_wp2_with fail
   go_region_held3 (fun W => (W.cell? ⟨g, h * 4, none⟩ = some (.int .i64 gA) ∧ W.cell? ⟨g, h * 4 + 1, none⟩ = some (.int .i64 uA) ∧ W.cell? ⟨g, h * 4 + 2, none⟩ = some (.slice aA kA cA) ∧ W.cell? ⟨g, h * 4 + 3, none⟩ = some (.string tA)) ∧ (W.cell? ⟨g, a * 4, none⟩ = some (.int .i64 gB) ∧ W.cell? ⟨g, a * 4 + 1, none⟩ = some (.int .i64 uB) ∧ W.cell? ⟨g, a * 4 + 2, none⟩ = some (.slice aB kB cB) ∧ W.cell? ⟨g, a * 4 + 3, none⟩ = some (.string tB)))
    ((first | exact HSC.out _ (bdr (bre _)) | exact HSC.out _ (btr (bdr (bre _)) hb2)))
    ((refine (HC.out gA uA aA kA cA lA tA gB uB aB kB cB lB tB _ (gbl HG.out (bdr (bre _)))).mono ?_; rintro e w2 ⟨rfl, hb2⟩; rw [HKX.out, HKY.out, HCR.out]; have B2 := hid (show Below wr.heap.size wr w2 from btr (bdr (bre _)) hb2)))
   have R2 := hid (own_later HR.out B2.out)
   have G2 := hid (gbl HG.out B2.out)
   clear HSC hb2 hI hJ
   by_cases hu : kx < ky
   ·have hr0 : r < 0 := by have := HLS.out; simp only [hu, decide_true, decide_eq_true_eq] at this; exact this
    have E1 : Hid (h + 1 = m ∨ ky8 key Z0 (h + 1 - 1) < ky8 key Z0 a) := .inr (by rw [Nat.add_sub_cancel, KP.out, KQ.out]; exact hu)
    clear hu
    go_wp2
    go_roundw
    case rel => exact ⟨h + 1, j, by have := HH.out; omega, by have := HH.out; omega, hjb, by go_num, rfl, E1, HU, R2.out, G2.out⟩
    case measure => simp [intOf]; have := HH.out; omega
   ·have hr0 : ¬ r < 0 := by have := HLS.out; simp only [hu, decide_false, decide_eq_false_iff_not] at this; exact this
    have E1 : Hid (h = b ∨ ky8 key Z0 a ≤ ky8 key Z0 h) := .inr (by rw [KP.out, KQ.out]; omega)
    clear hu
    go_wp2
    go_roundw
    case rel => exact ⟨i, h, hmi, by have := HH.out; omega, by have := HH.out; omega, rfl, rfl, HL, E1, R2.out, G2.out⟩
    case measure => simp [intOf]; have := HH.out; omega
  ·have hij' : i = j := by omega
   subst hij'
   obtain ⟨i1, hi1⟩ : ∃ i1, i - 1 = i1 := ⟨_, rfl⟩
   have hd1 : (i : Int) - 1 = (i1 : Int) := by have := HAB.out; omega
   have hwd : IntKind.i64.wrap (i1 : Int) = (i1 : Int) := by rw [IntKind.wrap_i64]; omega
   have HI1 : Hid (i - 1 = i1 ∧ m ≤ i ∧ i ≤ b) := ⟨hi1, hmi, hjb⟩
   have hi4 : i1 ≤ 4194304 := by omega
   clear hlt hi1 hij hmi hjb
   go_wp2
   go_loopw [13] (fun kv wr2 => ∃ k : Nat, a ≤ k ∧ k ≤ i1 ∧ kv = .int .i64 (k : Int) ∧ (∃ Z, Hid (∀ q, Z[q]? = rt (fun q => Z0[q]?) a (a + 1) (k + 1) q) ∧ Pm8 Z0 Z a b ∧ Rw wr2 B g n cap Z ∧ w.grownBy wr2 (some g))) (fun kv _ => i1 - (intOf kv).toNat)
   case atStart => exact ⟨a, Nat.le_refl _, by have := HAB.out; have := HI1.out; omega, rfl, Z0, rt_start Z0 a, .refl _ _ _, HR.out, HG.out⟩
   case round =>
    obtain ⟨k, hak, hki, rfl, Y, HY, hp, hr, hg⟩ := hrel
    have HP := hid hp
    have HR3 := hid hr
    have HG3 := hid hg
    clear hp hr hg
    by_cases hlt : k < i1
    ·have hlen := HR3.out.len
     have hp0 : k < Y.length := by have := HAB.out; have := HI1.out; omega
     have hq0 : k + 1 < Y.length := by have := HAB.out; have := HI1.out; omega
     obtain ⟨c0, f0⟩ := HR3.out.spot k hp0
     obtain ⟨d0, e0⟩ := HR3.out.spot (k + 1) hq0
     have HY1 := hid (rt_up HY.out hak hq0)
     have HP1 := hid (Pm8.trans HP.out (sw2_pm (a := a) (b := b) hp0 hq0 hak (by have := HI1.out; omega) (by omega) (by have := HI1.out; omega)))
     obtain ⟨x, hx⟩ : ∃ x, Y[k] = x := ⟨_, rfl⟩
     obtain ⟨y, hy⟩ : ∃ y, Y[k + 1] = y := ⟨_, rfl⟩
     have mx : x ∈ Z0 := hx ▸ HP.out.perm.mem_iff.1 (List.getElem_mem hp0)
     have my : y ∈ Z0 := hy ▸ HP.out.perm.mem_iff.1 (List.getElem_mem hq0)
     rw [hx] at c0 HY1 HP1
     rw [hy] at d0 HY1 HP1
     clear hx hy
     have sx := HSL.out x mx
     have sy := HSL.out y my
     obtain ⟨gA, uA, fA, lA, tA⟩ := x
     obtain ⟨gB, uB, fB, lB, tB⟩ := y
     obtain ⟨aA, kA, cA, sx⟩ := sx
     obtain ⟨aB, kB, cB, sy⟩ := sy
     dsimp only at sx sy c0 d0 HY1 HP1
     subst sx sy
     clear mx my
     obtain ⟨k1, hk1⟩ : ∃ k1, k + 1 = k1 := ⟨_, rfl⟩
     rw [hk1] at d0 e0 HP1
     have HK1 := hid hk1
     have hd2 : (k : Int) + 1 = (k1 : Int) := by omega
     have hwk : IntKind.i64.wrap (k1 : Int) = (k1 : Int) := by rw [IntKind.wrap_i64]; omega
     have hI : (0 : Int) ≤ (k : Int) ∧ (k : Int) < (n : Int) := by omega
     have hJ : (0 : Int) ≤ (k1 : Int) ∧ (k1 : Int) < (n : Int) := by omega
     have HR2 : Hid (∀ W, Rw W B g n cap Y → Rw ((((((((W.setCell ⟨g, k * 4, none⟩ (.int .i64 gB)).setCell ⟨g, k * 4 + 1, none⟩ (.int .i64 uB)).setCell ⟨g, k * 4 + 2, none⟩ (.slice aB kB cB)).setCell ⟨g, k * 4 + 3, none⟩ (.string tB)).setCell ⟨g, k1 * 4, none⟩ (.int .i64 gA)).setCell ⟨g, k1 * 4 + 1, none⟩ (.int .i64 uA)).setCell ⟨g, k1 * 4 + 2, none⟩ (.slice aA kA cA)).setCell ⟨g, k1 * 4 + 3, none⟩ (.string tA)) B g n cap (sw2 Y k k1 (gA, uA, Value.slice aA kA cA, lA, tA) (gB, uB, Value.slice aB kB cB, lB, tB))) := fun W h => by
      have e : sw2 Y k k1 (gA, uA, Value.slice aA kA cA, lA, tA) (gB, uB, Value.slice aB kB cB, lB, tB) = (Y.set k (gB, uB, Value.slice aB kB cB, lB, tB)).set k1 (gA, uA, Value.slice aA kA cA, lA, tA) := by unfold sw2; rw [List.set_comm _ _ (show k1 ≠ k by omega)]
      rw [e]
      exact Rw.set (Rw.set h k (by omega) (gB, uB, Value.slice aB kB cB, lB, tB)) k1 (by omega) (gA, uA, Value.slice aA kA cA, lA, tA)
     clear hp0 hq0 hlen hk1
     obtain ⟨z0, z1, z2, z3⟩ := f0
     obtain ⟨y0, y1, y2, y3⟩ := e0
     go_wp2_with fail
     go_region
     have R5 := hid (World.ownsRow.drew (HR2.out _ HR3.out))
     have G5 := hid (gdr (wst (wst (wst (wst (wst (wst (wst (wst HG3.out (k * 4) (.int .i64 gB)) (k * 4 + 1) (.int .i64 uB)) (k * 4 + 2) (.slice aB kB cB)) (k * 4 + 3) (.string tB)) (k1 * 4) (.int .i64 gA)) (k1 * 4 + 1) (.int .i64 uA)) (k1 * 4 + 2) (.slice aA kA cA)) (k1 * 4 + 3) (.string tA)))
     clear c0 d0 z0 z1 z2 z3 y0 y1 y2 y3
     go_wp2
     go_roundw
     case rel => exact ⟨k1, by have := HK1.out; omega, by have := HK1.out; omega, by go_num, _, (fun q => by rw [← HK1.out]; exact HY1.out q), HP1.out, R5.out, G5.out⟩
     case measure => simp [intOf]; have := HK1.out; omega
    ·have HE : Hid (Sg8 key tie Y a b) := by
      obtain ⟨e1, e2, e3⟩ := HAB.out
      obtain ⟨f1, f2, f3⟩ := HI1.out
      have hk : k + 1 = i := by omega
      have hl0 := HRW.out.len
      subst e1
      exact one_left (i := i) (by omega) H2.out H3.out f2 f3 HL.out HU.out (fun q => by rw [HY.out q, hk])
     go_wp2
     (try simp only [Exit.inBlock, Exit.then])
     refine bodyPost_ret (results_none rfl _ _ _) rfl ?_
     exact ⟨⟨_, rfl⟩, Y, HP.out, HE.out, HR3.out, HG3.out⟩
set_option maxHeartbeats 4000000 in
set_option maxRecDepth 100000 in
theorem symM_right (key : Z5 → Int) (tie : Z5 → Z5 → Prop) (F : Nat) (bs : Array Value) (eg : ∀ args w, (callFunc F args).run Tryz.prog w = .ok (.enter F args) w) (B g n cap a m b : Nat) (Z0 : List Z5) (w : World) (hn : n ≤ 4194304) (hma : a < m) (hm1 : m ≠ a + 1) (hb : b = m + 1) (hbn : b ≤ n) (hsl : ∀ z ∈ Z0, ∃ a k c, z.2.2.1 = Value.slice a k c) (hrow : Rw w B g n cap Z0) (h1 : Sg8 key tie Z0 a m) (h3 : Cr8 key tie Z0 a m b)
  (hcmp : ∀ (gA uA : Int) (aA : Option Addr) (kA cA : Nat) (lA : List R3) (tA : ByteArray) (gB uB : Int) (aB : Option Addr) (kB cB : Nat) (lB : List R3) (tB : ByteArray) (W : World), w.grownBy W (some g) → Calls Tryz.prog F (#[.agg #[.int .i64 gA, .int .i64 uA, .slice aA kA cA, .string tA], .agg #[.int .i64 gB, .int .i64 uB, .slice aB kB cB, .string tB]] ++ bs) W fun e w' => e = .returned (.int .i64 (cpr (key (gA, uA, Value.slice aA kA cA, lA, tA)) (key (gB, uB, Value.slice aB kB cB, lB, tB)))) ∧ Below W.heap.size W w') :
  Calls Tryz.prog 149 #[.slice (some ⟨g, 0, none⟩) n cap, .int .i64 (a : Int), .int .i64 (m : Int), .int .i64 (b : Int), .func (.func F) #[] bs] w fun e w' => (∃ v, e = .returned v) ∧ ∃ Z, Pm8 Z0 Z a b ∧ Sg8 key tie Z a b ∧ Rw w' B g n cap Z ∧ w.grownBy w' (some g) := by
 have HRW := hid hrow
 have HSL := hid hsl
 have HC := hid hcmp
 have H1 := hid h1
 have H3 := hid h3
 have HAB : Hid (a < m ∧ b = m + 1 ∧ b ≤ n) := ⟨hma, hb, hbn⟩
 obtain ⟨d, hd⟩ : ∃ d, m - a = d := ⟨_, rfl⟩
 have hd0 : (m : Int) - (a : Int) = (d : Int) := by omega
 have hwd0 : IntKind.i64.wrap (d : Int) = (d : Int) := by rw [IntKind.wrap_i64]; omega
 have hne : ((d : Int) == 1) = false := by simp; omega
 have hd1 : (b : Int) - (m : Int) = 1 := by omega
 have hb4 : b ≤ 4194304 := by omega
 have hm4 : m ≤ 4194304 := by omega
 have ha4 : a ≤ 4194304 := by omega
 clear hrow hcmp h1 h3 hma hm1 hb hbn hd hsl
 go_enter Tryz.func149, Tryz.ntmps149
 go_wp2
 clear hd0 hwd0 hne hd1
 go_loopw [14, 15] (fun iv jv wr => ∃ i j : Nat, a ≤ i ∧ i ≤ j ∧ j ≤ m ∧ iv = .int .i64 (i : Int) ∧ jv = .int .i64 (j : Int) ∧ Hid (i = a ∨ ky8 key Z0 (i - 1) ≤ ky8 key Z0 m) ∧ Hid (j = m ∨ ky8 key Z0 m < ky8 key Z0 j) ∧ Rw wr B g n cap Z0 ∧ w.grownBy wr (some g)) (fun iv jv _ => (intOf jv).toNat - (intOf iv).toNat)
 case atStart => exact ⟨a, m, Nat.le_refl _, by have := HAB.out; omega, Nat.le_refl _, rfl, rfl, .inl rfl, .inl rfl, HRW.out, wre _ _⟩
 case round =>
  obtain ⟨i, j, hmi, hij, hjb, rfl, rfl, HL, HU, hr, hg⟩ := hrel
  have HR := hid hr
  have HG := hid hg
  clear hr hg
  by_cases hlt : i < j
  ·have hs : (i : Int) + (j : Int) = ((i + j : Nat) : Int) := by omega
   obtain ⟨s, hs'⟩ : ∃ s, i + j = s := ⟨_, rfl⟩
   rw [hs'] at hs
   have hws : IntKind.i64.wrap (s : Int) = (s : Int) := by rw [IntKind.wrap_i64]; omega
   obtain ⟨h, hh⟩ : ∃ h, s / 2 = h := ⟨_, rfl⟩
   have hh2 : (s : Int) / 2 = (h : Int) := by omega
   have hih : i ≤ h := by omega
   have hhj : h < j := by omega
   have hlen := HR.out.len
   have hP : m < Z0.length := by have := HAB.out; omega
   have hQ : h < Z0.length := by have := HAB.out; omega
   have c0 := (HR.out.spot m hP).1
   have d0 := (HR.out.spot h hQ).1
   have kP := ky8_at (key := key) hP
   have kQ := ky8_at (key := key) hQ
   obtain ⟨x, hx⟩ : ∃ x, Z0[m] = x := ⟨_, rfl⟩
   obtain ⟨y, hy⟩ : ∃ y, Z0[h] = y := ⟨_, rfl⟩
   have mx : x ∈ Z0 := hx ▸ List.getElem_mem hP
   have my : y ∈ Z0 := hy ▸ List.getElem_mem hQ
   rw [hx] at c0 kP
   rw [hy] at d0 kQ
   clear hx hy
   have sx := HSL.out x mx
   have sy := HSL.out y my
   obtain ⟨gA, uA, fA, lA, tA⟩ := x
   obtain ⟨gB, uB, fB, lB, tB⟩ := y
   obtain ⟨aA, kA, cA, sx⟩ := sx
   obtain ⟨aB, kB, cB, sy⟩ := sy
   dsimp only at sx sy c0 d0 kP kQ
   subst sx sy
   obtain ⟨kx, hkx⟩ : ∃ kx, key (gA, uA, Value.slice aA kA cA, lA, tA) = kx := ⟨_, rfl⟩
   obtain ⟨ky, hky⟩ : ∃ ky, key (gB, uB, Value.slice aB kB cB, lB, tB) = ky := ⟨_, rfl⟩
   rw [hkx] at kP
   rw [hky] at kQ
   have HKX := hid hkx
   have HKY := hid hky
   clear mx my hkx hky
   have hI : (0 : Int) ≤ (m : Int) ∧ (m : Int) < (n : Int) := by have := HAB.out; omega
   have hJ : (0 : Int) ≤ (h : Int) ∧ (h : Int) < (n : Int) := by have := HAB.out; omega
   have KP : Hid (ky8 key Z0 m = kx) := kP
   have KQ : Hid (ky8 key Z0 h = ky) := kQ
   have HH : Hid (i ≤ h ∧ h < j) := ⟨hih, hhj⟩
   have HSC : Hid (∀ W, Below wr.heap.size wr W → (W.cell? ⟨g, m * 4, none⟩ = some (.int .i64 gA) ∧ W.cell? ⟨g, m * 4 + 1, none⟩ = some (.int .i64 uA) ∧ W.cell? ⟨g, m * 4 + 2, none⟩ = some (.slice aA kA cA) ∧ W.cell? ⟨g, m * 4 + 3, none⟩ = some (.string tA)) ∧ (W.cell? ⟨g, h * 4, none⟩ = some (.int .i64 gB) ∧ W.cell? ⟨g, h * 4 + 1, none⟩ = some (.int .i64 uB) ∧ W.cell? ⟨g, h * 4 + 2, none⟩ = some (.slice aB kB cB) ∧ W.cell? ⟨g, h * 4 + 3, none⟩ = some (.string tB))) := fun W hW => ⟨C4.later c0 (HR.out.lt g rfl).2 hW, C4.later d0 (HR.out.lt g rfl).2 hW⟩
   obtain ⟨r, hr⟩ : ∃ r, cpr kx ky = r := ⟨_, rfl⟩
   have HCR := hid hr
   have hls := cpr_less kx ky
   rw [hr] at hls
   have HLS := hid hls
   clear hr hls c0 d0 kP kQ hP hQ hlen hs' hh
   go_wp2_with fail
   go_region_held3 (fun W => (W.cell? ⟨g, m * 4, none⟩ = some (.int .i64 gA) ∧ W.cell? ⟨g, m * 4 + 1, none⟩ = some (.int .i64 uA) ∧ W.cell? ⟨g, m * 4 + 2, none⟩ = some (.slice aA kA cA) ∧ W.cell? ⟨g, m * 4 + 3, none⟩ = some (.string tA)) ∧ (W.cell? ⟨g, h * 4, none⟩ = some (.int .i64 gB) ∧ W.cell? ⟨g, h * 4 + 1, none⟩ = some (.int .i64 uB) ∧ W.cell? ⟨g, h * 4 + 2, none⟩ = some (.slice aB kB cB) ∧ W.cell? ⟨g, h * 4 + 3, none⟩ = some (.string tB)))
    ((first | exact HSC.out _ (bdr (bre _)) | exact HSC.out _ (btr (bdr (bre _)) hb2)))
    ((refine (HC.out gA uA aA kA cA lA tA gB uB aB kB cB lB tB _ (gbl HG.out (bdr (bre _)))).mono ?_; rintro e w2 ⟨rfl, hb2⟩; rw [HKX.out, HKY.out, HCR.out]; have B2 := hid (show Below wr.heap.size wr w2 from btr (bdr (bre _)) hb2)))
   have R2 := hid (own_later HR.out B2.out)
   have G2 := hid (gbl HG.out B2.out)
   clear HSC hb2 hI hJ
   by_cases hu : kx < ky
   ·have hr0 : r < 0 := by have := HLS.out; simp only [hu, decide_true, decide_eq_true_eq] at this; exact this
    rw [show decide (r < 0) = true from decide_eq_true hr0, Bool.not_true]
    have E1 : Hid (h = m ∨ ky8 key Z0 m < ky8 key Z0 h) := .inr (by rw [KP.out, KQ.out]; exact hu)
    clear hu
    go_wp2
    go_roundw
    case rel => exact ⟨i, h, hmi, by have := HH.out; omega, by have := HH.out; omega, rfl, rfl, HL, E1, R2.out, G2.out⟩
    case measure => simp [intOf]; have := HH.out; omega
   ·have hr0 : ¬ r < 0 := by have := HLS.out; simp only [hu, decide_false, decide_eq_false_iff_not] at this; exact this
    rw [show decide (r < 0) = false from decide_eq_false hr0, Bool.not_false]
    have E1 : Hid (h + 1 = a ∨ ky8 key Z0 (h + 1 - 1) ≤ ky8 key Z0 m) := .inr (by rw [Nat.add_sub_cancel, KP.out, KQ.out]; omega)
    clear hu
    go_wp2
    go_roundw
    case rel => exact ⟨h + 1, j, by have := HH.out; omega, by have := HH.out; omega, hjb, by go_num, rfl, E1, HU, R2.out, G2.out⟩
    case measure => simp [intOf]; have := HH.out; omega
  ·have hij' : i = j := by omega
   subst hij'
   have HI1 : Hid (a ≤ i ∧ i ≤ m) := ⟨hmi, hjb⟩
   clear hlt hij hmi hjb
   go_wp2
   go_loopw [17] (fun kv wr2 => ∃ k : Nat, i ≤ k ∧ k ≤ m ∧ kv = .int .i64 (k : Int) ∧ (∃ Z, Hid (∀ q, Z[q]? = rt (fun q => Z0[q]?) k m (m + 1) q) ∧ Pm8 Z0 Z a b ∧ Rw wr2 B g n cap Z ∧ w.grownBy wr2 (some g))) (fun kv _ => (intOf kv).toNat)
   case atStart => exact ⟨m, HI1.out.2, Nat.le_refl _, rfl, Z0, rt_end Z0 m, .refl _ _ _, HR.out, HG.out⟩
   case round =>
    obtain ⟨k, hak, hki, rfl, Y, HY, hp, hr, hg⟩ := hrel
    have HP := hid hp
    have HR3 := hid hr
    have HG3 := hid hg
    clear hp hr hg
    by_cases hlt : i < k
    ·obtain ⟨q, hkq⟩ : ∃ q, k = q + 1 := ⟨k - 1, by omega⟩
     subst hkq
     have hlen := HR3.out.len
     have hp0 : q < Y.length := by have := HAB.out; omega
     have hq0 : q + 1 < Y.length := by have := HAB.out; omega
     obtain ⟨c0, f0⟩ := HR3.out.spot q hp0
     obtain ⟨d0, e0⟩ := HR3.out.spot (q + 1) hq0
     have HY1 := hid (rt_down HY.out (by omega) hq0)
     have HP1 := hid (Pm8.trans HP.out (sw2_pm (a := a) (b := b) hp0 hq0 (by have := HI1.out; omega) (by have := HAB.out; omega) (by have := HI1.out; omega) (by have := HAB.out; omega)))
     obtain ⟨x, hx⟩ : ∃ x, Y[q] = x := ⟨_, rfl⟩
     obtain ⟨y, hy⟩ : ∃ y, Y[q + 1] = y := ⟨_, rfl⟩
     have mx : x ∈ Z0 := hx ▸ HP.out.perm.mem_iff.1 (List.getElem_mem hp0)
     have my : y ∈ Z0 := hy ▸ HP.out.perm.mem_iff.1 (List.getElem_mem hq0)
     rw [hx] at c0 HY1 HP1
     rw [hy] at d0 HY1 HP1
     clear hx hy
     have sx := HSL.out x mx
     have sy := HSL.out y my
     obtain ⟨gA, uA, fA, lA, tA⟩ := x
     obtain ⟨gB, uB, fB, lB, tB⟩ := y
     obtain ⟨aA, kA, cA, sx⟩ := sx
     obtain ⟨aB, kB, cB, sy⟩ := sy
     dsimp only at sx sy c0 d0 HY1 HP1
     subst sx sy
     clear mx my
     obtain ⟨k1, hk1⟩ : ∃ k1, q + 1 = k1 := ⟨_, rfl⟩
     rw [hk1] at d0 e0 HP1 HY1 ⊢
     have HK1 : Hid (q + 1 = k1 ∧ i < k1 ∧ k1 ≤ m) := ⟨hk1, by omega, by omega⟩
     have hd2 : (k1 : Int) - 1 = (q : Int) := by omega
     have hwk : IntKind.i64.wrap (q : Int) = (q : Int) := by rw [IntKind.wrap_i64]; omega
     have hI : (0 : Int) ≤ (q : Int) ∧ (q : Int) < (n : Int) := by omega
     have hJ : (0 : Int) ≤ (k1 : Int) ∧ (k1 : Int) < (n : Int) := by omega
     have hgt : (i : Int) < (k1 : Int) := by omega
     have HR2 : Hid (∀ W, Rw W B g n cap Y → Rw ((((((((W.setCell ⟨g, k1 * 4, none⟩ (.int .i64 gA)).setCell ⟨g, k1 * 4 + 1, none⟩ (.int .i64 uA)).setCell ⟨g, k1 * 4 + 2, none⟩ (.slice aA kA cA)).setCell ⟨g, k1 * 4 + 3, none⟩ (.string tA)).setCell ⟨g, q * 4, none⟩ (.int .i64 gB)).setCell ⟨g, q * 4 + 1, none⟩ (.int .i64 uB)).setCell ⟨g, q * 4 + 2, none⟩ (.slice aB kB cB)).setCell ⟨g, q * 4 + 3, none⟩ (.string tB)) B g n cap (sw2 Y q k1 (gA, uA, Value.slice aA kA cA, lA, tA) (gB, uB, Value.slice aB kB cB, lB, tB))) := fun W h => Rw.set (Rw.set h k1 (by omega) (gA, uA, Value.slice aA kA cA, lA, tA)) q (by omega) (gB, uB, Value.slice aB kB cB, lB, tB)
     clear hp0 hq0 hlen hk1 hlt hak hki
     obtain ⟨z0, z1, z2, z3⟩ := f0
     obtain ⟨y0, y1, y2, y3⟩ := e0
     go_wp2_with fail
     go_region
     have R5 := hid (World.ownsRow.drew (HR2.out _ HR3.out))
     have G5 := hid (gdr (wst (wst (wst (wst (wst (wst (wst (wst HG3.out (k1 * 4) (.int .i64 gA)) (k1 * 4 + 1) (.int .i64 uA)) (k1 * 4 + 2) (.slice aA kA cA)) (k1 * 4 + 3) (.string tA)) (q * 4) (.int .i64 gB)) (q * 4 + 1) (.int .i64 uB)) (q * 4 + 2) (.slice aB kB cB)) (q * 4 + 3) (.string tB)))
     clear c0 d0 z0 z1 z2 z3 y0 y1 y2 y3
     go_wp2
     go_roundw
     case rel => exact ⟨q, by have := HK1.out; omega, by have := HK1.out; omega, by go_num, _, HY1, HP1.out, R5.out, G5.out⟩
     case measure => simp [intOf]; have := HK1.out; omega
    ·have HE : Hid (Sg8 key tie Y a b) := by
      obtain ⟨e1, e2, e3⟩ := HAB.out
      have hk : k = i := by omega
      have hl0 := HRW.out.len
      subst e2
      exact one_right (i := i) (by omega) H1.out H3.out HI1.out.1 HI1.out.2 HL.out HU.out (fun q => by rw [HY.out q, hk])
     have hgt : ¬ (i : Int) < (k : Int) := by omega
     go_wp2
     (try simp only [Exit.inBlock, Exit.then])
     refine bodyPost_ret (results_none rfl _ _ _) rfl ?_
     exact ⟨⟨_, rfl⟩, Y, HP.out, HE.out, HR3.out, HG3.out⟩
end Go.Proofs.YtmpcmllfgogegaaGreat
