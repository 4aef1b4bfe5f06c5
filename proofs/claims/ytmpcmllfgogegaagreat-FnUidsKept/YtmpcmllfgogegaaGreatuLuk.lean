/- Luk. -/
import Derived.Test.YtmpcmllfgogegaaGreatuJlu
import Derived.Deep.CutRange
namespace Go.Proofs.YtmpcmllfgogegaaGreat
open Go.RowKit Go.ChangeMaps
theorem at_bz (g : Int) (nm : ByteArray) (t b nx : Int) (x : Int) {ma : Option Addr} {mn mc : Nat} {ga : Option Addr} {gn gc : Nat} {L : List M4} {G : List Int} (w : World) (h : Bz w ma mn mc ga gn gc L G) :
  Calls Tryz.prog 16 #[.agg #[.int .i64 g, .string nm, .int .i64 t, .int .i64 b, .int .i64 nx, .slice ma mn mc, .slice ga gn gc], .int .i64 x] w fun e w' => e = .returned (.int .i64 (mat x L 0)) ∧ Below w.heap.size w w' := by
 obtain ⟨lo, hi, hm⟩ := h.mails
 exact implMailAt_any lo hi g nm t b nx ma mn mc _ L x w h.len h.most hm
theorem keeps_bz (g : Int) (nm : ByteArray) (t b nx : Int) (g' : Int) (nm' : ByteArray) (t' b' nx' : Int) (x : Int) {mn gn : Nat} {L : List M4} {G : List Int} {mn' gn' : Nat} {L' : List M4} {G' : List Int} :
  ∃ p : Bool, Hid (∀ (ma : Option Addr) (mc : Nat) (ga : Option Addr) (gc : Nat) (ma' : Option Addr) (mc' : Nat) (ga' : Option Addr) (gc' : Nat) (W : World), Bz W ma mn mc ga gn gc L G → Bz W ma' mn' mc' ga' gn' gc' L' G' → Calls Tryz.prog 18 #[.agg #[.int .i64 g, .string nm, .int .i64 t, .int .i64 b, .int .i64 nx, .slice ma mn mc, .slice ga gn gc], .agg #[.int .i64 g', .string nm', .int .i64 t', .int .i64 b', .int .i64 nx', .slice ma' mn' mc', .slice ga' gn' gc'], .int .i64 x] W fun e w' => e = .returned (.bool p) ∧ Below W.heap.size W w') ∧
   Hid (∀ (ma : Option Addr) (mc : Nat) (ga : Option Addr) (gc : Nat) (ma' : Option Addr) (mc' : Nat) (ga' : Option Addr) (gc' : Nat) (W : World), Bz W ma mn mc ga gn gc L G → Bz W ma' mn' mc' ga' gn' gc' L' G' → Calls Tryz.prog 19 #[.agg #[.int .i64 g, .string nm, .int .i64 t, .int .i64 b, .int .i64 nx, .slice ma mn mc, .slice ga gn gc], .agg #[.int .i64 g', .string nm', .int .i64 t', .int .i64 b', .int .i64 nx', .slice ma' mn' mc', .slice ga' gn' gc'], .int .i64 x] W fun e w' => e = .returned (.bool p) ∧ Below W.heap.size W w') := by
 refine ⟨kpu L L' nx' x, ?_, ?_⟩
 all_goals
  intro ma mc ga gc ma' mc' ga' gc' W hz hz'
  obtain ⟨l1, h1, hm⟩ := hz.mails
  obtain ⟨l2, h2, hm'⟩ := hz'.mails
  first
   | exact implKeeps_any l1 h1 l2 h2 g nm t b nx ma mn mc _ L g' nm' t' b' nx' ma' mn' mc' _ L' x W hz.len hz.most hm hz'.len hz'.most hm'
   | exact specKeeps_any l1 h1 l2 h2 g nm t b nx ma mn mc _ L g' nm' t' b' nx' ma' mn' mc' _ L' x W hz.len hz.most hm hz'.len hz'.most hm'
structure S9 (w W : World) (ka kj : Nat) (nm1 : ByteArray) (t1 b1 nx1 : Int) (ma1 : Option Addr) (mn1 mc1 : Nat) (ga1 : Option Addr) (gn1 gc1 : Nat) (L1 : List M4) (G1 : List Int) (nm2 : ByteArray) (t2 b2 nx2 : Int) (ma2 : Option Addr) (mn2 mc2 : Nat) (ga2 : Option Addr) (gn2 gc2 : Nat) (L2 : List M4) (G2 : List Int) (nm3 : ByteArray) (t3 b3 nx3 : Int) (ma3 : Option Addr) (mn3 mc3 : Nat) (ga3 : Option Addr) (gn3 gc3 : Nat) (L3 : List M4) (G3 : List Int) : Prop where
 a : A8 W ka nm1 t1 b1 nx1 ma1 mn1 mc1 ga1 gn1 gc1 L1 G1
 b : A8 W (ka + 1) nm2 t2 b2 nx2 ma2 mn2 mc2 ga2 gn2 gc2 L2 G2
 j : A8 W kj nm3 t3 b3 nx3 ma3 mn3 mc3 ga3 gn3 gc3 L3 G3
 be : Below w.heap.size w W
theorem S9.later {w W W' : World} {ka kj : Nat} {nm1 : ByteArray} {t1 b1 nx1 : Int} {ma1 : Option Addr} {mn1 mc1 : Nat} {ga1 : Option Addr} {gn1 gc1 : Nat} {L1 : List M4} {G1 : List Int} {nm2 : ByteArray} {t2 b2 nx2 : Int} {ma2 : Option Addr} {mn2 mc2 : Nat} {ga2 : Option Addr} {gn2 gc2 : Nat} {L2 : List M4} {G2 : List Int} {nm3 : ByteArray} {t3 b3 nx3 : Int} {ma3 : Option Addr} {mn3 mc3 : Nat} {ga3 : Option Addr} {gn3 gc3 : Nat} {L3 : List M4} {G3 : List Int} (h : S9 w W ka kj nm1 t1 b1 nx1 ma1 mn1 mc1 ga1 gn1 gc1 L1 G1 nm2 t2 b2 nx2 ma2 mn2 mc2 ga2 gn2 gc2 L2 G2 nm3 t3 b3 nx3 ma3 mn3 mc3 ga3 gn3 gc3 L3 G3) (hb : Below W.heap.size W W') : S9 w W' ka kj nm1 t1 b1 nx1 ma1 mn1 mc1 ga1 gn1 gc1 L1 G1 nm2 t2 b2 nx2 ma2 mn2 mc2 ga2 gn2 gc2 L2 G2 nm3 t3 b3 nx3 ma3 mn3 mc3 ga3 gn3 gc3 L3 G3 := ⟨h.a.later hb, h.b.later hb, h.j.later hb, btr h.be hb⟩
set_option maxHeartbeats 16000000 in
set_option maxRecDepth 100000 in
theorem lawUidsKept_any (ao : Option Addr) (n cap : Nat) (w : World) (hcode : Code w w.heap.size ao n) :
  Calls Tryz.prog 4 #[.slice ao n cap] w fun e w' => e = .returned (.bool true) ∧ Below w.heap.size w w' := by
 have HO := hid hcode
 clear hcode
 by_cases hbig : n ≤ 1048576
 ·go_enter Tryz.func4, Tryz.ntmps4
  go_wp2_with fail
  refine (bigF_no ao n cap _ hbig).mono ?_; rintro e w' ⟨rfl, h'⟩
  rw [h']
  clear h'
  go_wp2_with fail
  refine (drawTwo_any ao n cap _ hbig HO.out).mono ?_; rintro e w1 ⟨nm1, t1, b1, nx1, ma1, mn1, mc1, ga1, gn1, gc1, L1, G1, nm2, t2, b2, nx2, ma2, mn2, mc2, ga2, gn2, gc2, L2, G2, rfl, ⟨k1, k2⟩, ⟨z1, z2⟩, hb⟩
  obtain ⟨nm3, t3, b3, nx3, mn3, gn3, L3, G3, hJ, FU, HMN⟩ := uid_letters k1 z1.len z1.glen k2 z2.len z2.glen
  have ZZ := hid (And.intro z1 z2)
  have BE := hid hb
  clear z1 z2 hb k1 k2
  have hs : (w1.alloc (.cells #[.int .i64 7, .string nm1, .int .i64 t1, .int .i64 b1, .int .i64 nx1, .slice ma1 mn1 mc1, .slice ga1 gn1 gc1] 29)).heap.size = w1.heap.size + 1 := by simp
  have A := hid ((A8.new (nm := nm1) (t := t1) (b := b1) (nx := nx1) ZZ.out.1).later (bpush (bre _) (.cells #[.int .i64 7, .string nm2, .int .i64 t2, .int .i64 b2, .int .i64 nx2, .slice ma2 mn2 mc2, .slice ga2 gn2 gc2] 29)))
  have B := hid (A8.new (nm := nm2) (t := t2) (b := b2) (nx := nx2) (ZZ.out.2.later (bpush (bre _) (.cells #[.int .i64 7, .string nm1, .int .i64 t1, .int .i64 b1, .int .i64 nx1, .slice ma1 mn1 mc1, .slice ga1 gn1 gc1] 29))))
  have BF := hid (bpush (bpush BE.out (.cells #[.int .i64 7, .string nm1, .int .i64 t1, .int .i64 b1, .int .i64 nx1, .slice ma1 mn1 mc1, .slice ga1 gn1 gc1] 29)) (.cells #[.int .i64 7, .string nm2, .int .i64 t2, .int .i64 b2, .int .i64 nx2, .slice ma2 mn2 mc2, .slice ga2 gn2 gc2] 29))
  rw [hs] at B
  clear ZZ BE hs
  go_wp2_with fail
  obtain ⟨wa, ha⟩ : ∃ W, (w1.alloc (.cells #[.int .i64 7, .string nm1, .int .i64 t1, .int .i64 b1, .int .i64 nx1, .slice ma1 mn1 mc1, .slice ga1 gn1 gc1] 29)).alloc (.cells #[.int .i64 7, .string nm2, .int .i64 t2, .int .i64 b2, .int .i64 nx2, .slice ma2 mn2 mc2, .slice ga2 gn2 gc2] 29) = W := ⟨_, rfl⟩
  obtain ⟨ka, hka⟩ : ∃ k, w1.heap.size = k := ⟨_, rfl⟩
  rw [ha, hka] at A B
  rw [ha] at BF
  rw [ha, hka]
  clear ha hka
  refine (hJ.out.1 _ _ _ _ _ _ _ _ _ A.out.bz B.out.bz).mono ?_; rintro e w2 ⟨ma3, mc3, ga3, gc3, rfl, hz, hb⟩
  have J := hid (A8.new (nm := nm3) (t := t3) (b := b3) (nx := nx3) hz.bz)
  replace A := hid ((A.out.later hb).later (bpush (bre _) (.cells #[.int .i64 7, .string nm3, .int .i64 t3, .int .i64 b3, .int .i64 nx3, .slice ma3 mn3 mc3, .slice ga3 gn3 gc3] 29)))
  replace B := hid ((B.out.later hb).later (bpush (bre _) (.cells #[.int .i64 7, .string nm3, .int .i64 t3, .int .i64 b3, .int .i64 nx3, .slice ma3 mn3 mc3, .slice ga3 gn3 gc3] 29)))
  have BE := hid (bpush (btr BF.out hb) (.cells #[.int .i64 7, .string nm3, .int .i64 t3, .int .i64 b3, .int .i64 nx3, .slice ma3 mn3 mc3, .slice ga3 gn3 gc3] 29))
  clear hz hb BF
  go_wp2
  obtain ⟨wb, ha⟩ : ∃ W, w2.alloc (.cells #[.int .i64 7, .string nm3, .int .i64 t3, .int .i64 b3, .int .i64 nx3, .slice ma3 mn3 mc3, .slice ga3 gn3 gc3] 29) = W := ⟨_, rfl⟩
  obtain ⟨kj, hka⟩ : ∃ k, w2.heap.size = k := ⟨_, rfl⟩
  rw [ha] at A B BE
  rw [ha, hka] at J
  rw [ha, hka]
  clear ha hka
  have SS : Hid (S9 w wb ka kj nm1 t1 b1 nx1 ma1 mn1 mc1 ga1 gn1 gc1 L1 G1 nm2 t2 b2 nx2 ma2 mn2 mc2 ga2 gn2 gc2 L2 G2 nm3 t3 b3 nx3 ma3 mn3 mc3 ga3 gn3 gc3 L3 G3) := ⟨A.out, B.out, J.out, BE.out⟩
  clear A B J BE
  go_loopw [6] (fun iv wr => ∃ i : Nat, i ≤ mn3 ∧ iv = .int .i64 (i : Int) ∧ S9 w wr ka kj nm1 t1 b1 nx1 ma1 mn1 mc1 ga1 gn1 gc1 L1 G1 nm2 t2 b2 nx2 ma2 mn2 mc2 ga2 gn2 gc2 L2 G2 nm3 t3 b3 nx3 ma3 mn3 mc3 ga3 gn3 gc3 L3 G3) (fun iv _ => mn3 - (intOf iv).toNat)
  case atStart => exact ⟨0, Nat.zero_le _, rfl, SS.out⟩
  case round =>
   obtain ⟨i, hi, rfl, hS⟩ := hrel
   replace SS := hid hS
   clear hS
   have hmn := HMN.out
   by_cases hlt : i < mn3
   ·have hil : i < L3.length := by rw [SS.out.j.bz.len]; exact hlt
    have hF := FU.out i hil
    obtain ⟨lo, hh, hm⟩ := SS.out.j.bz.mails
    obtain ⟨g, hg⟩ : ∃ y, L3[i].1 = y := ⟨_, rfl⟩
    obtain ⟨u, hu⟩ : ∃ y, L3[i].2.1 = y := ⟨_, rfl⟩
    obtain ⟨lf, hlf⟩ : ∃ y, L3[i].2.2.1.length = y := ⟨_, rfl⟩
    obtain ⟨tx, htx⟩ : ∃ y, L3[i].2.2.2 = y := ⟨_, rfl⟩
    obtain ⟨kr, o, fa, fc, hka, hk, ⟨c0, c1, c2, c3⟩, -⟩ := hm.at hil
    rw [hg] at c0 hF
    rw [hu] at c1 hF
    rw [hlf] at c2
    rw [htx] at c3
    have HF := hid hF
    have hI : (0 : Int) ≤ (i : Int) ∧ (i : Int) < (mn3 : Int) := by omega
    have ca := SS.out.a.bx.cells
    have cb := SS.out.b.bx.cells
    have cj := SS.out.j.bx.cells
    rw [hka] at cj
    have MM := hid (Mg.new wr 37 g u (.slice fa lf fc) tx)
    have SN := hid (SS.out.later (bpush (bre _) (.cells #[.int .i64 g, .int .i64 u, .slice fa lf fc, .string tx] 37)))
    have ca9 := SN.out.a.bx.cells
    have cb9 := SN.out.b.bx.cells
    clear hka hm hg hu hlf htx hF
    have cm := MM.out.cells
    go_upto_region 9 with fail
    obtain ⟨W5, hW5⟩ : ∃ W5, wr.alloc (.cells #[.int .i64 g, .int .i64 u, .slice fa lf fc, .string tx] 37) = W5 := ⟨_, rfl⟩
    obtain ⟨km, hkm⟩ : ∃ k, wr.heap.size = k := ⟨_, rfl⟩
    rw [hW5] at SN ca9 cb9
    rw [hW5, hkm] at MM cm
    rw [hW5, hkm]
    replace SS := SN
    clear hW5 hkm SN ca cb cj c0 c1 c2 c3 hk
    obtain ⟨pd, hpd⟩ : ∃ p : Bool, decide (nx1 ≤ u ∧ nx2 ≤ u) = p := ⟨_, rfl⟩
    have HP := hid hpd
    clear hpd
    go_cut [48] from 25 to 160 (fun s wx => s = .bool pd ∧ wx = W5)
    case first =>
     by_cases hn1 : nx1 ≤ u
     ·by_cases hn2 : nx2 ≤ u
      ·go_wp2_with fail
       go_meet
       exact ⟨congrArg Value.bool ((decide_eq_true (p := nx1 ≤ u ∧ nx2 ≤ u) (by omega)).symm.trans HP.out), rfl⟩
      ·go_wp2_with fail
       go_meet
       exact ⟨congrArg Value.bool ((decide_eq_false (p := nx1 ≤ u ∧ nx2 ≤ u) (by omega)).symm.trans HP.out), rfl⟩
     ·go_wp2_with fail
      go_meet
      exact ⟨congrArg Value.bool ((decide_eq_false (p := nx1 ≤ u ∧ nx2 ≤ u) (by omega)).symm.trans HP.out), rfl⟩
    case rest =>
     obtain ⟨rfl, rfl⟩ := hcut
     clear ca9 cb9 cm
     by_cases hold : nx1 ≤ u ∧ nx2 ≤ u
     ·have hpd := HP.out
      rw [decide_eq_true hold] at hpd
      subst hpd
      clear HF HP hold
      go_wp2
      go_roundw
      case rel => exact ⟨i + 1, by omega, by go_num, SS.out⟩
      case measure => simp [intOf]; omega
     ·have hpd := HP.out
      rw [decide_eq_false hold] at hpd
      subst hpd
      have UP := hid (HF.out hold)
      have HOLD := hid hold
      clear HF HP hold
      go_wp2_with fail
      go_loopw [8] (fun kv wr => ∃ k : Nat, k ≤ mn1 ∧ kv = .int .i64 (k : Int) ∧ S9 w wr ka kj nm1 t1 b1 nx1 ma1 mn1 mc1 ga1 gn1 gc1 L1 G1 nm2 t2 b2 nx2 ma2 mn2 mc2 ga2 gn2 gc2 L2 G2 nm3 t3 b3 nx3 ma3 mn3 mc3 ga3 gn3 gc3 L3 G3 ∧ Mg wr km 37 g u (.slice fa lf fc) tx) (fun kv _ => mn1 - (intOf kv).toNat)
      case atStart => exact ⟨0, Nat.zero_le _, rfl, SS.out, MM.out⟩
      case round =>
       obtain ⟨k, hk, rfl, hS, hM⟩ := hrel
       replace SS := hid hS
       replace MM := hid hM
       clear hS hM
       have hmn := HMN.out
       by_cases hlt : k < mn1
       ·have hil : k < L1.length := by rw [SS.out.a.bz.len]; exact hlt
        have hF := UP.out.1.1 k hil
        obtain ⟨lo, hh, hm⟩ := SS.out.a.bz.mails
        obtain ⟨y, hy⟩ : ∃ y, L1[k].1 = y := ⟨_, rfl⟩
        obtain ⟨z, hz⟩ : ∃ z, L1[k].2.1 = z := ⟨_, rfl⟩
        obtain ⟨kr, o, fa2, fc2, hka, hk2, ⟨c, c', -, -⟩, -⟩ := hm.at hil
        rw [hy] at c hF
        rw [hz] at c' hF
        have hI : (0 : Int) ≤ (k : Int) ∧ (k : Int) < (mn1 : Int) := by omega
        have ca := SS.out.a.bx.cells
        have cm := MM.out.cells
        rw [hka] at ca
        have HF := hid hF
        clear hka hm hy hz hF
        by_cases hzu : z = u
        ·have hyg : y = g := HF.out hzu
         subst hzu
         subst hyg
         clear HF
         go_wp2_with fail
         go_quiet (fail)
         go_wp2
         go_roundw
         case rel => exact ⟨k + 1, by omega, by go_num, SS.out.later (bdn (bre _) _), MM.out.later (bdn (bre _) _)⟩
         case measure => simp [intOf]; omega
        ·clear HF
         go_wp2_with fail
         go_quiet (fail)
         go_wp2
         go_roundw
         case rel => exact ⟨k + 1, by omega, by go_num, SS.out.later (bdn (bre _) _), MM.out.later (bdn (bre _) _)⟩
         case measure => simp [intOf]; omega
       ·have hk2 : k = mn1 := by omega
        rw [hk2]
        clear hk2 hlt hk
        have ca := SS.out.a.bx.cells
        have cq := SS.out.a.bx.cells
        have cm := MM.out.cells
        go_wp2_with fail
        clear ca cm cq
        go_loopw [9] (fun kv wr => ∃ k : Nat, k ≤ mn2 ∧ kv = .int .i64 (k : Int) ∧ S9 w wr ka kj nm1 t1 b1 nx1 ma1 mn1 mc1 ga1 gn1 gc1 L1 G1 nm2 t2 b2 nx2 ma2 mn2 mc2 ga2 gn2 gc2 L2 G2 nm3 t3 b3 nx3 ma3 mn3 mc3 ga3 gn3 gc3 L3 G3 ∧ Mg wr km 37 g u (.slice fa lf fc) tx) (fun kv _ => mn2 - (intOf kv).toNat)
        case atStart => exact ⟨0, Nat.zero_le _, rfl, SS.out, MM.out⟩
        case round =>
         obtain ⟨k, hk, rfl, hS, hM⟩ := hrel
         replace SS := hid hS
         replace MM := hid hM
         clear hS hM
         have hmn := HMN.out
         by_cases hlt : k < mn2
         ·have hil : k < L2.length := by rw [SS.out.b.bz.len]; exact hlt
          have hF := UP.out.2.1 k hil
          obtain ⟨lo, hh, hm⟩ := SS.out.b.bz.mails
          obtain ⟨y, hy⟩ : ∃ y, L2[k].1 = y := ⟨_, rfl⟩
          obtain ⟨z, hz⟩ : ∃ z, L2[k].2.1 = z := ⟨_, rfl⟩
          obtain ⟨kr, o, fa2, fc2, hka, hk2, ⟨c, c', -, -⟩, -⟩ := hm.at hil
          rw [hy] at c hF
          rw [hz] at c' hF
          have hI : (0 : Int) ≤ (k : Int) ∧ (k : Int) < (mn2 : Int) := by omega
          have ca := SS.out.b.bx.cells
          have cm := MM.out.cells
          rw [hka] at ca
          have HF := hid hF
          clear hka hm hy hz hF
          by_cases hzu : z = u
          ·have hyg : y = g := HF.out hzu
           subst hzu
           subst hyg
           clear HF
           go_wp2_with fail
           go_quiet (fail)
           go_wp2
           go_roundw
           case rel => exact ⟨k + 1, by omega, by go_num, SS.out.later (bdn (bre _) _), MM.out.later (bdn (bre _) _)⟩
           case measure => simp [intOf]; omega
          ·clear HF
           go_wp2_with fail
           go_quiet (fail)
           go_wp2
           go_roundw
           case rel => exact ⟨k + 1, by omega, by go_num, SS.out.later (bdn (bre _) _), MM.out.later (bdn (bre _) _)⟩
           case measure => simp [intOf]; omega
         ·have hk2 : k = mn2 := by omega
          rw [hk2]
          clear hk2 hlt hk
          have ca := SS.out.b.bx.cells
          have cq := SS.out.a.bx.cells
          have cm := MM.out.cells
          go_wp2_with fail
          clear ca cm cq
          have ua := UP.out.1.2
          have ub := UP.out.2.2
          refine (at_bz 7 _ _ _ _ g _ SS.out.a.bz).mono ?_; rintro e v1 ⟨rfl, hb⟩
          replace SS := hid (SS.out.later hb)
          replace MM := hid (MM.out.later hb)
          have cb := SS.out.b.bx.cells
          have cm := MM.out.cells
          clear hb
          go_wp2_with fail
          clear cb cm
          refine (at_bz 7 _ _ _ _ g _ SS.out.b.bz).mono ?_; rintro e v2 ⟨rfl, hb⟩
          replace SS := hid (SS.out.later hb)
          replace MM := hid (MM.out.later hb)
          clear hb UP
          rcases ua with ⟨hxa, hu1⟩ | ⟨k1, hk1, hxa, hu1⟩ <;> rcases ub with ⟨hxb, hu2⟩ | ⟨k2, hk2, hxb, hu2⟩
          all_goals have hold := HOLD.out
          all_goals clear HOLD
          all_goals try (exfalso; omega)
          all_goals clear hold
          all_goals
           rw [hxa, hxb]
           clear hxa hxb
           go_wp2_with fail
          ·have cx1 := SS.out.a.bx.cells
           have hn1' : ¬ u < nx1 := by omega
           obtain ⟨lo2, hh2, hm2⟩ := SS.out.b.bz.mails
           obtain ⟨kr2, o2, fa2, fc2, hka2, hkk2, ⟨-, c2, -, -⟩, -⟩ := hm2.at hk2
           rw [hu2] at c2
           have cx2 := SS.out.b.bx.cells
           rw [hka2] at cx2
           have hI2 : (0 : Int) ≤ (k2 : Int) ∧ (k2 : Int) < (mn2 : Int) := by have := SS.out.b.bz.len; omega
           have hz2 : decide ((k2 : Int) < 0) = false := decide_eq_false (by omega)
           have hq2 : ((k2 : Int) < 0) = False := eq_false (by omega)
           clear hka2 hm2
           have cm := MM.out.cells
           go_big_quiet (fail)
           go_wp2
           go_roundw
           case rel => exact ⟨i + 1, by omega, by go_num, SS.out.later (bdn (bre _) _)⟩
           case measure => simp [intOf]; omega
          ·obtain ⟨lo1, hh1, hm1⟩ := SS.out.a.bz.mails
           obtain ⟨kr1, o1, fa1, fc1, hka1, hkk1, ⟨-, c1, -, -⟩, -⟩ := hm1.at hk1
           rw [hu1] at c1
           have cx1 := SS.out.a.bx.cells
           rw [hka1] at cx1
           have hI1 : (0 : Int) ≤ (k1 : Int) ∧ (k1 : Int) < (mn1 : Int) := by have := SS.out.a.bz.len; omega
           have hz1 : decide ((k1 : Int) < 0) = false := decide_eq_false (by omega)
           have hq1 : ((k1 : Int) < 0) = False := eq_false (by omega)
           clear hka1 hm1
           have cx2 := SS.out.b.bx.cells
           have hn2' : ¬ u < nx2 := by omega
           have cm := MM.out.cells
           go_big_quiet (fail)
           go_wp2
           go_roundw
           case rel => exact ⟨i + 1, by omega, by go_num, SS.out.later (bdn (bre _) _)⟩
           case measure => simp [intOf]; omega
          ·obtain ⟨lo1, hh1, hm1⟩ := SS.out.a.bz.mails
           obtain ⟨kr1, o1, fa1, fc1, hka1, hkk1, ⟨-, c1, -, -⟩, -⟩ := hm1.at hk1
           rw [hu1] at c1
           have cx1 := SS.out.a.bx.cells
           rw [hka1] at cx1
           have hI1 : (0 : Int) ≤ (k1 : Int) ∧ (k1 : Int) < (mn1 : Int) := by have := SS.out.a.bz.len; omega
           have hz1 : decide ((k1 : Int) < 0) = false := decide_eq_false (by omega)
           have hq1 : ((k1 : Int) < 0) = False := eq_false (by omega)
           clear hka1 hm1
           obtain ⟨lo2, hh2, hm2⟩ := SS.out.b.bz.mails
           obtain ⟨kr2, o2, fa2, fc2, hka2, hkk2, ⟨-, c2, -, -⟩, -⟩ := hm2.at hk2
           rw [hu2] at c2
           have cx2 := SS.out.b.bx.cells
           rw [hka2] at cx2
           have hI2 : (0 : Int) ≤ (k2 : Int) ∧ (k2 : Int) < (mn2 : Int) := by have := SS.out.b.bz.len; omega
           have hz2 : decide ((k2 : Int) < 0) = false := decide_eq_false (by omega)
           have hq2 : ((k2 : Int) < 0) = False := eq_false (by omega)
           clear hka2 hm2
           have cm := MM.out.cells
           go_big_quiet (fail)
           go_wp2
           go_roundw
           case rel => exact ⟨i + 1, by omega, by go_num, SS.out.later (bdn (bre _) _)⟩
           case measure => simp [intOf]; omega
   ·have hi2 : i = mn3 := by omega
    rw [hi2]
    clear hi2 hlt hi
    have ca := SS.out.j.bx.cells
    go_wp2_with fail
    clear ca
    refine (drawKeepsUid_any ao n cap _ hbig (HO.out.over SS.out.be)).mono ?_; rintro e w6 ⟨g4, nm4, t4, b4, nx4, ma4, mn4, mc4, ga4, gn4, gc4, L4, G4, g5, nm5, t5, b5, nx5, ma5, mn5, mc5, ga5, gn5, gc5, L5, G5, xg, rfl, -, ⟨q1, q2⟩, hb⟩
    obtain ⟨kq, KI, KS⟩ := keeps_bz g4 nm4 t4 b4 nx4 g5 nm5 t5 b5 nx5 xg (mn := mn4) (gn := gn4) (L := L4) (G := G4) (mn' := mn5) (gn' := gn5) (L' := L5) (G' := G5)
    have hs : (w6.alloc (.cells #[.int .i64 g4, .string nm4, .int .i64 t4, .int .i64 b4, .int .i64 nx4, .slice ma4 mn4 mc4, .slice ga4 gn4 gc4] 29)).heap.size = w6.heap.size + 1 := by simp
    have bp : Below w6.heap.size w6 ((w6.alloc (.cells #[.int .i64 g4, .string nm4, .int .i64 t4, .int .i64 b4, .int .i64 nx4, .slice ma4 mn4 mc4, .slice ga4 gn4 gc4] 29)).alloc (.cells #[.int .i64 g5, .string nm5, .int .i64 t5, .int .i64 b5, .int .i64 nx5, .slice ma5 mn5 mc5, .slice ga5 gn5 gc5] 29)) := bpush (bpush (bre _) _) _
    replace SS := hid ((SS.out.later hb).later bp)
    have ZU := hid (q1.later bp)
    have ZV := hid (q2.later bp)
    have U := hid ((Bx.new w6 29 g4 nm4 t4 b4 nx4 (.slice ma4 mn4 mc4) (.slice ga4 gn4 gc4)).later (bpush (bre _) (.cells #[.int .i64 g5, .string nm5, .int .i64 t5, .int .i64 b5, .int .i64 nx5, .slice ma5 mn5 mc5, .slice ga5 gn5 gc5] 29)))
    have V := hid (Bx.new (w6.alloc (.cells #[.int .i64 g4, .string nm4, .int .i64 t4, .int .i64 b4, .int .i64 nx4, .slice ma4 mn4 mc4, .slice ga4 gn4 gc4] 29)) 29 g5 nm5 t5 b5 nx5 (.slice ma5 mn5 mc5) (.slice ga5 gn5 gc5))
    rw [hs] at V
    clear hs bp q1 q2 hb hmn
    go_wp2_with fail
    obtain ⟨wd, ha⟩ : ∃ W, (w6.alloc (.cells #[.int .i64 g4, .string nm4, .int .i64 t4, .int .i64 b4, .int .i64 nx4, .slice ma4 mn4 mc4, .slice ga4 gn4 gc4] 29)).alloc (.cells #[.int .i64 g5, .string nm5, .int .i64 t5, .int .i64 b5, .int .i64 nx5, .slice ma5 mn5 mc5, .slice ga5 gn5 gc5] 29) = W := ⟨_, rfl⟩
    obtain ⟨ku, hka⟩ : ∃ k, w6.heap.size = k := ⟨_, rfl⟩
    rw [ha] at SS ZU ZV
    rw [ha, hka] at U V
    rw [ha, hka]
    clear ha hka
    replace SS := hid (SS.out.later (bdr (bre _)))
    replace U := hid (U.out.later (bdr (bre _)))
    replace V := hid (V.out.later (bdr (bre _)))
    replace ZU := hid (ZU.out.later (bdr (bre _)))
    replace ZV := hid (ZV.out.later (bdr (bre _)))
    refine wp_region_noPanic ?_
    refine wp_region_held_drew (S := (fun W => (W.cell? ⟨ka, 0, none⟩ = some (.int .i64 7) ∧ W.cell? ⟨ka, 1, none⟩ = some (.string nm1) ∧ W.cell? ⟨ka, 2, none⟩ = some (.int .i64 t1) ∧ W.cell? ⟨ka, 3, none⟩ = some (.int .i64 b1) ∧ W.cell? ⟨ka, 4, none⟩ = some (.int .i64 nx1) ∧ W.cell? ⟨ka, 5, none⟩ = some (.slice ma1 mn1 mc1) ∧ W.cell? ⟨ka, 6, none⟩ = some (.slice ga1 gn1 gc1)) ∧ (W.cell? ⟨ka + 1, 0, none⟩ = some (.int .i64 7) ∧ W.cell? ⟨ka + 1, 1, none⟩ = some (.string nm2) ∧ W.cell? ⟨ka + 1, 2, none⟩ = some (.int .i64 t2) ∧ W.cell? ⟨ka + 1, 3, none⟩ = some (.int .i64 b2) ∧ W.cell? ⟨ka + 1, 4, none⟩ = some (.int .i64 nx2) ∧ W.cell? ⟨ka + 1, 5, none⟩ = some (.slice ma2 mn2 mc2) ∧ W.cell? ⟨ka + 1, 6, none⟩ = some (.slice ga2 gn2 gc2)) ∧ (W.cell? ⟨kj, 0, none⟩ = some (.int .i64 7) ∧ W.cell? ⟨kj, 1, none⟩ = some (.string nm3) ∧ W.cell? ⟨kj, 2, none⟩ = some (.int .i64 t3) ∧ W.cell? ⟨kj, 3, none⟩ = some (.int .i64 b3) ∧ W.cell? ⟨kj, 4, none⟩ = some (.int .i64 nx3) ∧ W.cell? ⟨kj, 5, none⟩ = some (.slice ma3 mn3 mc3) ∧ W.cell? ⟨kj, 6, none⟩ = some (.slice ga3 gn3 gc3)) ∧ (W.cell? ⟨ku, 0, none⟩ = some (.int .i64 g4) ∧ W.cell? ⟨ku, 1, none⟩ = some (.string nm4) ∧ W.cell? ⟨ku, 2, none⟩ = some (.int .i64 t4) ∧ W.cell? ⟨ku, 3, none⟩ = some (.int .i64 b4) ∧ W.cell? ⟨ku, 4, none⟩ = some (.int .i64 nx4) ∧ W.cell? ⟨ku, 5, none⟩ = some (.slice ma4 mn4 mc4) ∧ W.cell? ⟨ku, 6, none⟩ = some (.slice ga4 gn4 gc4)) ∧ (W.cell? ⟨ku + 1, 0, none⟩ = some (.int .i64 g5) ∧ W.cell? ⟨ku + 1, 1, none⟩ = some (.string nm5) ∧ W.cell? ⟨ku + 1, 2, none⟩ = some (.int .i64 t5) ∧ W.cell? ⟨ku + 1, 3, none⟩ = some (.int .i64 b5) ∧ W.cell? ⟨ku + 1, 4, none⟩ = some (.int .i64 nx5) ∧ W.cell? ⟨ku + 1, 5, none⟩ = some (.slice ma5 mn5 mc5) ∧ W.cell? ⟨ku + 1, 6, none⟩ = some (.slice ga5 gn5 gc5)))) (by kernel_rfl) (⟨SS.out.a.bx.cells, SS.out.b.bx.cells, SS.out.j.bx.cells, U.out.cells, V.out.cells⟩) (fun hHeld => ?_)
    refine tk 0 ?_
    refine tk 1 ?_
    refine tk 2 ?_
    refine tk 4 ?_
    refine tk 5 ?_
    refine tk 6 ?_
    clear hHeld
    refine ry 3 (fun K hK => ?_)
    go_simp
    refine (KI.out _ _ _ _ _ _ _ _ _ ZU.out ZV.out).mono ?_
    rintro e x1 ⟨rfl, hb⟩
    replace SS := hid (SS.out.later hb)
    replace U := hid (U.out.later hb)
    replace V := hid (V.out.later hb)
    replace ZU := hid (ZU.out.later hb)
    replace ZV := hid (ZV.out.later hb)
    clear hb
    go_wp2_with fail
    refine hK.out _ _ (⟨SS.out.a.bx.cells, SS.out.b.bx.cells, SS.out.j.bx.cells, U.out.cells, V.out.cells⟩) (fun hHeld => ?_)
    clear hK K
    try simp only [Act.put, tp2, tp3, tp4]
    clear hHeld
    refine ry 7 (fun K hK => ?_)
    go_simp
    refine (KS.out _ _ _ _ _ _ _ _ _ ZU.out ZV.out).mono ?_
    rintro e x2 ⟨rfl, hb⟩
    replace SS := hid (SS.out.later hb)
    replace U := hid (U.out.later hb)
    replace V := hid (V.out.later hb)
    replace ZU := hid (ZU.out.later hb)
    replace ZV := hid (ZV.out.later hb)
    clear hb
    go_wp2_with fail
    refine hK.out _ _ (⟨SS.out.a.bx.cells, SS.out.b.bx.cells, SS.out.j.bx.cells, U.out.cells, V.out.cells⟩) (fun hHeld => ?_)
    clear hK K
    try simp only [Act.put, tp2, tp3, tp4]
    refine tk 8 ?_
    refine tk 9 ?_
    refine tk 10 ?_
    refine tk 11 ?_
    refine tk 12 ?_
    refine tk 13 ?_
    refine tk 14 ?_
    clear hHeld
    refine ry 15 (fun K hK => ?_)
    go_simp
    refine (hJ.out.2.2 _ _ _ _ _ _ _ _ _ SS.out.a.bz SS.out.b.bz).mono ?_
    rintro e x3 ⟨ay, cy, rfl, hb⟩
    replace SS := hid (SS.out.later hb)
    replace U := hid (U.out.later hb)
    replace V := hid (V.out.later hb)
    replace ZU := hid (ZU.out.later hb)
    replace ZV := hid (ZV.out.later hb)
    clear hb
    go_wp2_with fail
    refine hK.out _ _ (⟨SS.out.a.bx.cells, SS.out.b.bx.cells, SS.out.j.bx.cells, U.out.cells, V.out.cells⟩) (fun hHeld => ?_)
    clear hK K
    try simp only [Act.put, tp2, tp3, tp4]
    refine tk 16 ?_
    refine tk 17 ?_
    refine tk 18 ?_
    refine tk 19 ?_
    refine tk 20 ?_
    refine tk 21 ?_
    refine tk 22 ?_
    clear hHeld
    refine ry 23 (fun K hK => ?_)
    go_simp
    refine (hJ.out.2.1 _ _ _ _ _ _ _ _ _ SS.out.a.bz SS.out.b.bz).mono ?_
    rintro e x4 ⟨ma7, mc7, ga7, gc7, rfl, hz, hb⟩
    replace SS := hid (SS.out.later hb)
    replace U := hid (U.out.later hb)
    replace V := hid (V.out.later hb)
    replace ZU := hid (ZU.out.later hb)
    replace ZV := hid (ZV.out.later hb)
    have Y := hid hz.bz
    clear hz
    clear hb
    go_wp2_with fail
    refine hK.out _ _ (⟨SS.out.a.bx.cells, SS.out.b.bx.cells, SS.out.j.bx.cells, U.out.cells, V.out.cells⟩) (fun hHeld => ?_)
    clear hK K
    try simp only [Act.put, tp2, tp3, tp4]
    clear hHeld
    refine ry 24 (fun K hK => ?_)
    go_simp
    refine (sameBox_bz 7 _ _ _ _ _ _ _ _ _ _ _ _ _ _ _ _ _ SS.out.j.bz Y.out).mono ?_
    rintro e x5 ⟨rfl, hb⟩
    replace SS := hid (SS.out.later hb)
    replace U := hid (U.out.later hb)
    replace V := hid (V.out.later hb)
    replace ZU := hid (ZU.out.later hb)
    replace ZV := hid (ZV.out.later hb)
    clear Y
    clear hb
    go_wp2_with fail
    refine hK.out _ _ (⟨SS.out.a.bx.cells, SS.out.b.bx.cells, SS.out.j.bx.cells, U.out.cells, V.out.cells⟩) (fun hHeld => ?_)
    clear hK K
    try simp only [Act.put, tp2, tp3, tp4]
    refine tk 25 ?_
    refine tk 26 ?_
    refine wpAnyH_done (by kernel_rfl) ?_ _
    refine NoPanic.normal ?_
    go_wp2
    go_ret
    exact ⟨rfl, SS.out.be⟩
 ·go_enter Tryz.func4, Tryz.ntmps4
  go_wp2_with fail
  refine (bigF_yes ao n cap _ hbig).mono ?_; rintro e w' ⟨rfl, h'⟩
  rw [h']
  clear h'
  go_wp2
  go_ret
  exact ⟨rfl, bre _⟩
end Go.Proofs.YtmpcmllfgogegaaGreat
