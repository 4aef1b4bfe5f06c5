/- Tjb, Tjc, Tjd, Tje, Tb0, Tb1. -/
import Derived.Test.YtocfggfccbnbhaaGreatDoorR5
namespace Go.Proofs.YtocfggfccbnbhaaGreatDoor
open Go.RowKit Go.ChangeMaps
/-- Boxes that are small. -/
def SmX (S : List X7) : Prop := ∀ x ∈ S, Sm x.2.2.2.2.2.1 ∧ x.2.2.2.2.2.1.length ≤ 1048576 ∧ x.2.2.2.2.2.2.length ≤ 1048576
theorem row_five {W W1 : World} {B g n c i : Nat} {P C : List Y9} {y y' : Y9} (h : OwS W B (.slice (some ⟨g, 0, none⟩) n c) (P ++ y :: C)) (hp : P.length = i) (hm : y'.mv = y.mv) (hgv : y'.gv = y.gv)
    (hb : Below (W.setCell ⟨g, i * 7, none⟩ (.int .i64 y'.g)).heap.size (W.setCell ⟨g, i * 7, none⟩ (.int .i64 y'.g)) W1) :
    (C7 W1 g (i * 7) y'.g y.nm y.t y.b y.nx y.mv y.gv ∧ ∀ j, W1.frozen? ⟨g, j, none⟩ = false) ∧
    ((((W1.setCell ⟨g, i * 7 + 1, none⟩ (.string y'.nm)).setCell ⟨g, i * 7 + 2, none⟩ (.int .i64 y'.t)).setCell ⟨g, i * 7 + 3, none⟩ (.int .i64 y'.b)).setCell ⟨g, i * 7 + 4, none⟩ (.int .i64 y'.nx)).ownsRow B 38 7 (.slice (some ⟨g, 0, none⟩) n c) (P ++ y' :: C).length (yc (P ++ y' :: C)) ∧
    Chg (fun j => j = g) W ((((W1.setCell ⟨g, i * 7 + 1, none⟩ (.string y'.nm)).setCell ⟨g, i * 7 + 2, none⟩ (.int .i64 y'.t)).setCell ⟨g, i * 7 + 3, none⟩ (.int .i64 y'.b)).setCell ⟨g, i * 7 + 4, none⟩ (.int .i64 y'.nx)) := by
  have hil : i < (P ++ y :: C).length := by rw [List.length_append, hp, List.length_cons]; omega
  have hyi : (P ++ y :: C)[i] = y := by
    rw [List.getElem_append_right (by omega)]
    simp [hp]
  obtain rfl := h.bs.1
  have h1 := (World.ownsRow.stored h.row (i * 7) (.int .i64 y'.g)).1
  have h2 := own_later h1 hb
  have h3 := (World.ownsRow.stored h2 (i * 7 + 1) (.string y'.nm)).1
  have h4 := (World.ownsRow.stored h3 (i * 7 + 2) (.int .i64 y'.t)).1
  have h5 := (World.ownsRow.stored h4 (i * 7 + 3) (.int .i64 y'.b)).1
  have h6 := (World.ownsRow.stored h5 (i * 7 + 4) (.int .i64 y'.nx)).1
  rw [yc_set5 _ i y' hil (by rw [hyi]; exact hm) (by rw [hyi]; exact hgv)] at h6
  have hms : (P ++ y :: C).set i y' = P ++ y' :: C := by rw [← hp]; exact midy
  rw [hms] at h6
  have hlen : (P ++ y' :: C).length = (P ++ y :: C).length := by simp
  have e := yc_at (P ++ y :: C) i hil
  rw [hyi] at e
  have hyl := yc_len (P ++ y :: C)
  refine ⟨⟨⟨?_, ?_, ?_, ?_, ?_, ?_, ?_⟩, fun j => h2.frozenAt _⟩, by rw [hlen]; exact h6, ?_⟩
  · exact (h2.cellAt _ (by omega)).trans (by rw [List.getElem?_set_self (by omega)])
  · exact (h2.cellAt _ (by omega)).trans (by rw [List.getElem?_set_ne (by omega)]; exact e.2.1)
  · exact (h2.cellAt _ (by omega)).trans (by rw [List.getElem?_set_ne (by omega)]; exact e.2.2.1)
  · exact (h2.cellAt _ (by omega)).trans (by rw [List.getElem?_set_ne (by omega)]; exact e.2.2.2.1)
  · exact (h2.cellAt _ (by omega)).trans (by rw [List.getElem?_set_ne (by omega)]; exact e.2.2.2.2.1)
  · exact (h2.cellAt _ (by omega)).trans (by rw [List.getElem?_set_ne (by omega)]; exact e.2.2.2.2.2.1)
  · exact (h2.cellAt _ (by omega)).trans (by rw [List.getElem?_set_ne (by omega)]; exact e.2.2.2.2.2.2)
  · exact Chg.trans (Chg.trans (Chg.of_grown (r := some g) (wst (wre _ _) _ _) (fun j hj => by simpa using hj.symm)) (Chg.of_below hb)) (Chg.of_grown (r := some g) (wst (wst (wst (wst (wre _ _) _ _) _ _) _ _) _ _) (fun j hj => by simpa using hj.symm))
theorem row_gv {W : World} {B g n c i : Nat} {P C : List Y9} {y : Y9} (h : W.ownsRow B 38 7 (.slice (some ⟨g, 0, none⟩) n c) (P ++ y :: C).length (yc (P ++ y :: C))) (hp : P.length = i) : W.cell? ⟨g, i * 7 + 6, none⟩ = some y.gv := by
  have hil : i < (P ++ y :: C).length := by rw [List.length_append, hp, List.length_cons]; omega
  have hyi : (P ++ y :: C)[i] = y := by
    rw [List.getElem_append_right (by omega)]
    simp [hp]
  have e := yc_at (P ++ y :: C) i hil
  rw [hyi] at e
  obtain rfl : n = (P ++ y :: C).length := by
    rcases h.2 with ⟨h1, _⟩ | ⟨g', cap', cur, h1, _⟩
    · simp at h1
    · simp only [Value.slice.injEq] at h1; exact h1.2.1
  exact (h.cellAt _ (by omega)).trans e.2.2.2.2.2.2
set_option maxHeartbeats 8000000 in
set_option maxRecDepth 100000 in
theorem markBS_any (P : Nat → Prop) (B : Nat) (a : Option Addr) (n cap k : Nat) (Y : List Y9) (w : World) (hown : OwS w B (.slice a n cap) Y) (hl : Y.length = n) (hn : n ≤ 1048576) (hk : 0 < k) (hkz : kx k (Y.map yd) ≤ 6291456) (hsm : SmX (Y.map yd)) (hv : ∀ j, Value.ownBlock (.slice a n cap) = some j → P j) (he : ∀ y ∈ Y, ∀ j, y.lo ≤ j → j < y.hi → P j) :
    Calls Tryz.prog 80 #[.slice a n cap, .int .i64 (k : Int)] w fun e w' => e = .returned (.int .i64 (kx k (Y.map yd) : Int)) ∧ OwS w' B (.slice a n cap) (mys k Y) ∧ Chg P w w' := by
  have HO := hid hown
  have HL := hid hl
  have HV := hid hv
  have HEE := hid he
  have HK := hid hk
  have HKZ := hid hkz
  have HSM := hid hsm
  clear hown hl hv he hk hkz hsm
  go_enter Tryz.func80, Tryz.ntmps80
  go_wp2
  go_loopw [1, 5] (fun kv iv wr => ∃ i : Nat, i ≤ n ∧ kv = .int .i64 ((kx k ((Y.take i).map yd) : Nat) : Int) ∧ iv = .int .i64 (i : Int) ∧ OwS wr B (.slice a n cap) (mys k (Y.take i) ++ Y.drop i) ∧ Chg P w wr) (fun _ iv _ => n - (intOf iv).toNat)
  case atStart => exact ⟨0, Nat.zero_le _, by simp [kx], rfl, by simpa [mys] using HO.out, Chg.refl _ _⟩
  case round =>
    obtain ⟨i, hin, rfl, rfl, hown, hc⟩ := hrel
    have HOW := hid hown
    have HC := hid hc
    clear hown hc
    by_cases hlt : i < n
    · have hiz : i < Y.length := by rw [HL.out]; exact hlt
      have hz := dropy hiz
      have hpl : (mys k (Y.take i)).length = i := by rw [mys_len, List.length_take]; omega
      have hown := HOW.out
      rw [hz] at hown
      rcases hown.row.2 with ⟨_, h2⟩ | ⟨gr, cap', cur, h1, hB, _⟩
      · exfalso
        rw [List.length_append, List.length_cons] at h2
        omega
      simp only [Value.slice.injEq] at h1
      obtain ⟨rfl, -, rfl⟩ := h1
      have hyl : i < (mys k (Y.take i) ++ Y[i] :: Y.drop (i + 1)).length := by rw [List.length_append, hpl, List.length_cons]; omega
      obtain ⟨c, f⟩ := hown.spot i hyl
      have hyi : (mys k (Y.take i) ++ Y[i] :: Y.drop (i + 1))[i] = Y[i] := by
        rw [List.getElem_append_right (by omega)]
        simp [hpl]
      rw [hyi] at c
      have hkq := kx_snoc k ((Y.take i).map yd) (yd Y[i])
      have hmq := mys_snoc k (Y.take i) Y[i]
      have htk : (Y.take (i + 1)).map yd = (Y.take i).map yd ++ [yd Y[i]] := by rw [List.take_succ_eq_append_getElem hiz, List.map_append]; rfl
      rw [← htk] at hkq
      rw [← List.take_succ_eq_append_getElem hiz] at hmq
      have hlim : kx k ((Y.take (i + 1)).map yd) ≤ 6291456 := Nat.le_trans (by rw [List.map_take]; exact kx_take k (Y.map yd) (i + 1)) HKZ.out
      have hge := kx_le k ((Y.take i).map yd)
      have hmem : Y[i] ∈ mys k (Y.take i) ++ Y[i] :: Y.drop (i + 1) := List.mem_append.2 (.inr (List.mem_cons_self ..))
      have heach := (hown.each Y[i] hmem).1
      have hoff := hown.off Y[i] hmem gr rfl
      have hbl := HEE.out Y[i] (List.getElem_mem hiz)
      have hsx := HSM.out (yd Y[i]) (List.mem_map_of_mem (List.getElem_mem hiz))
      obtain ⟨q, hq⟩ : ∃ q : Nat, kx k ((Y.take i).map yd) = q := ⟨_, rfl⟩
      rw [hq] at hkq hmq hge
      obtain ⟨x, hxe⟩ : ∃ x, Y[i] = x := ⟨_, rfl⟩
      rw [hxe] at c hkq hmq heach hoff hbl hown hsx
      have HFV := fun (W1 : World) hb => row_five (W := wr) (W1 := W1) (y' := my1 q x) hown hpl rfl rfl hb
      have HMK := fun (W1 W2 : World) h1 h2 h3 h4 => OwS.marked (W := wr) (W1 := W1) (W2 := W2) (y' := my1 q x) hown hpl rfl rfl rfl rfl h1 h2 h3 h4
      obtain ⟨g1, nm1, t1, b1, nx1, mv1, gv1, L1, G1, lo1, hi1⟩ := x
      have hrd := heach.reads
      obtain ⟨ma, mc, ga, gc, hmv, hgv, _⟩ := hrd
      dsimp only at hmv hgv
      subst hmv hgv
      obtain ⟨Z, hz1, hz2, hz3, hz4, hz5, hz6, hz7, hz8⟩ := heach.own
      have htop := heach.top
      obtain ⟨mn, hmn⟩ : ∃ m, L1.length = m := ⟨_, rfl⟩
      obtain ⟨gn, hgn⟩ : ∃ m, G1.length = m := ⟨_, rfl⟩
      obtain ⟨fzn, hfz⟩ : ∃ m, fz L1 = m := ⟨_, rfl⟩
      dsimp only [yd] at hsx hbl hoff c hz1 hz2 hz3 hz4 hz5 hz6 hz7 hz8 htop
      dsimp only [yd, kx1] at hkq
      rw [hmn, hgn] at c
      rw [hfz, hgn] at hkq
      rw [hmn] at hz2 hz4 hz6
      rw [hgn] at hz3 hz4 hz5 hz7
      have hlq : q + 5 + 3 * fzn + gn ≤ 6291456 := by rw [← hkq]; exact hlim
      have hmb : mn ≤ 1048576 := by rw [← hmn]; exact hsx.2.1
      have hgb : gn ≤ 1048576 := by rw [← hgn]; exact hsx.2.2
      have HSX := hid hsx.1
      have HMN := hid hmn
      have HGN := hid hgn
      have HFZ := hid hfz
      have HKQ := hid hkq
      have HMQ := hid hmq
      have HX := hid heach
      have HOF := hid hoff
      have HBL := hid hbl
      have HHI := hid (HV.out gr rfl)
      have HGR : Hid (gr < wr.heap.size) := (hown.row.lt gr rfl).2
      have HFV2 := hid HFV
      have HMK2 := hid HMK
      have HZ1 := hid hz1
      have HZ2 := hid hz2
      have HZ3 := hid hz3
      have HZ4 := hid hz4
      have HZ5 := hid hz5
      have HZ6 := hid hz6
      have HZ7 := hid hz7
      have HZ8 := hid hz8
      have HTP := hid htop
      have HK0 := HK.out
      have HPL := hid hpl
      rw [hq]
      simp only [C7] at c
      clear hown hkq hmq heach hoff hbl hB hyl hyi hz hmn hgn hfz hxe hq hlim hpl hmem htk hsx hz1 hz2 hz3 hz4 hz5 hz6 hz7 hz8 htop HFV HMK
      go_wp2_with fail
      rw [show ((q : Int) + 1) = ((q + 1 : Nat) : Int) by omega]
      refine (markText_any (q + 1) _ (by omega) (by omega)).mono ?_; rintro e w1 ⟨rfl, hb1⟩
      obtain ⟨⟨c1, f1⟩, R1, X1⟩ := HFV2.out w1 hb1
      dsimp only [my1, C7] at c1 R1 X1
      rw [HMN.out, HGN.out] at c1
      obtain ⟨W6, hW6⟩ : ∃ W6, ((((w1.setCell ⟨gr, i * 7 + 1, none⟩ (.string (mtx6 (q + 1)))).setCell ⟨gr, i * 7 + 2, none⟩ (.int .i64 ((q + 2 : Nat) : Int))).setCell ⟨gr, i * 7 + 3, none⟩ (.int .i64 ((q + 3 : Nat) : Int))).setCell ⟨gr, i * 7 + 4, none⟩ (.int .i64 ((q + 4 : Nat) : Int))) = W6 := ⟨_, rfl⟩
      rw [hW6] at R1 X1
      have R2 := hid R1
      have X2 := hid X1
      have HW6 := hid hW6
      have C6 : W6.cell? ⟨gr, i * 7 + 6, none⟩ = some (.slice ga G1.length gc) := row_gv R1 HPL.out
      rw [HGN.out] at C6
      clear hb1 R1 X1 hW6 c f
      go_wp2_with fail
      rw [show (q : Int) + 1 + 1 + 1 + 1 + 1 = ((q + 5 : Nat) : Int) by omega, show (q : Int) + 1 + 1 + 1 + 1 = ((q + 4 : Nat) : Int) by omega, show (q : Int) + 1 + 1 + 1 = ((q + 3 : Nat) : Int) by omega, show (q : Int) + 1 + 1 = ((q + 2 : Nat) : Int) by omega, show i * 7 + 2 + 1 = i * 7 + 3 from rfl, HW6.out]
      have hkz5 : kz (q + 5) Z = q + 5 + 3 * fzn := by rw [kz_fz, HZ1.out, HFZ.out]
      have HPQ : ∀ j, (Value.ownBlock (.slice ma mn mc) = some j ∨ ∃ z ∈ Z, z.2.2.1.ownBlock = some j) → lo1 ≤ j ∧ j < hi1 := by
        rintro j (h | ⟨z, hz, h⟩)
        · exact ⟨(HZ2.out.row.lt j h).1, HZ6.out j h⟩
        · exact ⟨((HZ2.out.each z hz).lt j h).1, HZ8.out z hz j h⟩
      have HPQ2 := hid HPQ
      clear HPQ
      refine (markMS6_any (fun j => Value.ownBlock (.slice ma mn mc) = some j ∨ ∃ z ∈ Z, z.2.2.1.ownBlock = some j) lo1 ma mn mc (q + 5) Z W6 (HZ2.out.chg X2.out (fun j hj e => by have h1 := HPQ2.out j (.inl hj); have h3 := HOF.out; omega) (fun z hz j hj e => by have h1 := HPQ2.out j (.inr ⟨z, hz, hj⟩); have h3 := HOF.out; omega)) (by rw [← HMN.out, ← HZ1.out, List.length_map]) hmb (by omega) (by rw [hkz5]; omega) (by rw [HZ1.out]; exact HSX.out) (fun j hj => .inl hj) (fun z hz j hj => .inr ⟨z, hz, hj⟩)).mono ?_
      rintro e w7 ⟨rfl, ho7, hc7⟩
      rw [hkz5]
      have c7 : w7.cell? ⟨gr, i * 7 + 6, none⟩ = some (.slice ga gn gc) := (cell_same (p := ⟨gr, _, none⟩) (hc7.block gr (Nat.lt_of_lt_of_le HGR.out X2.out.size) (fun e => by have h1 := HPQ2.out gr e; have h3 := HOF.out; omega))).trans C6
      have HO7 := hid ho7
      have HC7 := hid hc7
      have c8 : OwI w7 lo1 (.slice ga gn gc) G1 := row_chg (row_chg HZ3.out X2.out (fun j hj e => by have h1 := HZ7.out j hj; have h2 := (HZ3.out.lt j hj).1; have h3 := HOF.out; omega)) hc7 (by
        rintro j hj (h | ⟨z, hz, h⟩)
        · exact HZ4.out j hj h
        · exact HZ5.out z hz j hj h)
      have HC8 := hid c8
      clear ho7 hc7 hkz5 c1 f1 C6 c8
      go_wp2_with fail
      rw [show (q : Int) + 5 + 3 * (fzn : Int) = ((q + 5 + 3 * fzn : Nat) : Int) by omega]
      refine (markIS_any lo1 ga gn gc (q + 5 + 3 * fzn) G1 w7 HC8.out HGN.out hgb (by omega)).mono ?_; rintro e w8 ⟨rfl, ho8, hg8⟩
      have HXN : OwX w8 lo1 hi1 (.slice ma L1.length mc) (.slice ga G1.length gc) (mzl (q + 5) L1) (mki (q + 5 + 3 * fz L1) G1.length) := by
        rw [HMN.out, HFZ.out, HGN.out]
        have h := OwX.marked (W := wr) (W1 := w7) (W2 := w8) (hi := hi1) (k := q + 5) HZ1.out HZ2.out HZ3.out HZ4.out HZ5.out HZ6.out HZ7.out HZ8.out HTP.out HO7.out (Nat.le_trans X2.out.size HC7.out.size) (by rw [HFZ.out, HGN.out]; exact ho8) hg8
        rw [HFZ.out, HGN.out] at h
        exact h
      have HCH : Chg (fun j => lo1 ≤ j ∧ j < hi1) W6 w8 := Chg.trans (HC7.out.mono HPQ2.out) (Chg.of_grown hg8 (fun j hj => ⟨(HZ3.out.lt j hj).1, HZ7.out j hj⟩))
      have HFI := hid (HMK2.out W6 w8 X2.out R2.out HCH HXN)
      have HCW : Hid (Chg P wr w8) := Chg.trans (X2.out.mono (fun j hj => by subst hj; exact HHI.out)) (HCH.mono (fun j hj => HBL.out j hj.1 hj.2))
      clear ho8 hg8 HXN HCH
      go_wp2
      go_roundw
      case rel =>
        refine ⟨i + 1, by omega, by rw [HKQ.out]; go_num, by go_num, ?_, Chg.trans HC.out HCW.out⟩
        rw [HMQ.out, List.append_assoc]
        exact HFI.out
      case measure => simp [intOf]; omega
    · have HE1 : Hid (Y.take i = Y) := List.take_of_length_le (by rw [HL.out]; omega)
      have HE2 : Hid (Y.drop i = []) := List.drop_of_length_le (by rw [HL.out]; omega)
      go_wp2
      go_ret
      have h := HOW.out
      rw [HE1.out, HE2.out, List.append_nil] at h
      exact ⟨by rw [HE1.out]; rfl, h, HC.out⟩
end Go.Proofs.YtocfggfccbnbhaaGreatDoor

namespace Go.Proofs.YtocfggfccbnbhaaGreatDoor
open Go.RowKit Go.ChangeMaps
set_option maxHeartbeats 8000000 in
set_option maxRecDepth 100000 in
theorem heldBS_any (B : Nat) (a : Option Addr) (n cap k : Nat) (Y : List Y9) (w : World) (hown : OwS w B (.slice a n cap) (mys k Y)) (hl : Y.length = n) (hn : n ≤ 1048576) (hk : 0 < k) (hkz : kx k (Y.map yd) ≤ 6291456) (hsm : SmX (Y.map yd)) :
    Calls Tryz.prog 82 #[.slice a n cap, .int .i64 (k : Int)] w fun e w' => e = .returned (.int .i64 (kx k (Y.map yd) : Int)) ∧ Below w.heap.size w w' := by
  have HO := hid hown
  have HL := hid hl
  have HK := hid hk
  have HKZ := hid hkz
  have HSM := hid hsm
  clear hown hl hk hkz hsm
  go_enter Tryz.func82, Tryz.ntmps82
  go_wp2
  go_loopw [1, 5] (fun kv iv wr => ∃ i : Nat, i ≤ n ∧ kv = .int .i64 ((kx k ((Y.take i).map yd) : Nat) : Int) ∧ iv = .int .i64 (i : Int) ∧ Below w.heap.size w wr) (fun _ iv _ => n - (intOf iv).toNat)
  case atStart => exact ⟨0, Nat.zero_le _, by simp [kx], rfl, bre _⟩
  case round =>
    obtain ⟨i, hin, rfl, rfl, hb⟩ := hrel
    have HB := hid hb
    clear hb
    by_cases hlt : i < n
    · have hiz : i < Y.length := by rw [HL.out]; exact hlt
      have hown := HO.out.later HB.out
      have hyl : i < (mys k Y).length := by rw [mys_len]; exact hiz
      rcases hown.row.2 with ⟨_, h2⟩ | ⟨gr, cap', cur, h1, hB, hr⟩
      · exfalso
        omega
      simp only [Value.slice.injEq] at h1
      obtain ⟨rfl, -, rfl⟩ := h1
      clear hr
      obtain ⟨c, -⟩ := hown.spot i hyl
      have heach := (hown.each _ (List.getElem_mem hyl)).1
      rw [mys_at k Y i hiz hyl] at c heach
      have hkq := kx_snoc k ((Y.take i).map yd) (yd Y[i])
      have htk : (Y.take (i + 1)).map yd = (Y.take i).map yd ++ [yd Y[i]] := by rw [List.take_succ_eq_append_getElem hiz, List.map_append]; rfl
      rw [← htk] at hkq
      have hlim : kx k ((Y.take (i + 1)).map yd) ≤ 6291456 := Nat.le_trans (by rw [List.map_take]; exact kx_take k (Y.map yd) (i + 1)) HKZ.out
      have hge := kx_le k ((Y.take i).map yd)
      have hsx := HSM.out (yd Y[i]) (List.mem_map_of_mem (List.getElem_mem hiz))
      have hgr : gr < wr.heap.size := (hown.row.lt gr rfl).2
      obtain ⟨q, hq⟩ : ∃ q : Nat, kx k ((Y.take i).map yd) = q := ⟨_, rfl⟩
      rw [hq] at hkq hge c heach
      obtain ⟨x, hxe⟩ : ∃ x, Y[i] = x := ⟨_, rfl⟩
      rw [hxe] at c hkq heach hsx
      obtain ⟨g1, nm1, t1, b1, nx1, mv1, gv1, L1, G1, lo1, hi1⟩ := x
      obtain ⟨ma, mc, ga, gc, hmv, hgv, _⟩ := heach.reads
      simp only [my1, mzl_len, mki_len] at hmv hgv
      subst hmv hgv
      obtain ⟨Z, hz1, hz2, hz3, -⟩ := heach.own
      dsimp only [my1] at hz1 hz2 hz3 c
      have hzf := mzs_fix _ _ Z hz1
      obtain ⟨mn, hmn⟩ : ∃ m, L1.length = m := ⟨_, rfl⟩
      obtain ⟨gn, hgn⟩ : ∃ m, G1.length = m := ⟨_, rfl⟩
      obtain ⟨fzn, hfz⟩ : ∃ m, fz L1 = m := ⟨_, rfl⟩
      dsimp only [yd] at hsx
      dsimp only [yd, kx1] at hkq
      rw [hmn] at hz2
      rw [hgn, hfz] at hz3
      rw [hmn, hgn] at c
      rw [hfz, hgn] at hkq
      have hlq : q + 5 + 3 * fzn + gn ≤ 6291456 := by rw [← hkq]; exact hlim
      have hmb : mn ≤ 1048576 := by rw [← hmn]; exact hsx.2.1
      have hgb : gn ≤ 1048576 := by rw [← hgn]; exact hsx.2.2
      have hzl : Z.length = mn := by have h := congrArg List.length hz1; rw [List.length_map, mzl_len] at h; rw [h]; exact hmn
      have hsmz : Sm (Z.map md) := by rw [hz1]; exact mzl_sm _ _ hsx.1 (by rw [hfz]; omega)
      have hkzz : kz (q + 5) Z = q + 5 + 3 * fzn := by rw [kz_fz, hz1, mzl_fz, hfz]
      have HZ2 : Hid (OwZ wr lo1 (.slice ma mn mc) (mzs (q + 5) Z)) := by show OwZ _ _ _ _; rw [hzf]; exact hz2
      have HZ3 := hid hz3
      have HZL := hid hzl
      have HSZ := hid hsmz
      have HKK := hid hkzz
      have HKQ := hid hkq
      have HK0 := HK.out
      obtain ⟨tx, htx⟩ : ∃ tx, mtx6 (q + 1) = tx := ⟨_, rfl⟩
      rw [htx] at c
      have HTX := hid htx
      have e1 : ((q : Int) != (q : Int)) = false := by simp
      have e2 : (((q : Int) + 1 + 1) != ((q : Int) + 1 + 1)) = false := by simp
      have e5 : (((q : Int) + 1 + 1 + 1) != ((q : Int) + 1 + 1 + 1)) = false := by simp
      have e6 : (((q : Int) + 1 + 1 + 1 + 1) != ((q : Int) + 1 + 1 + 1 + 1)) = false := by simp
      have e4 : (!tx.toList == tx.toList) = false := by simp
      have hI : (0 : Int) ≤ (i : Int) ∧ (i : Int) < (n : Int) := by omega
      rw [show ((q + 2 : Nat) : Int) = (q : Int) + 1 + 1 by omega, show ((q + 3 : Nat) : Int) = (q : Int) + 1 + 1 + 1 by omega, show ((q + 4 : Nat) : Int) = (q : Int) + 1 + 1 + 1 + 1 by omega] at c
      have HSS : Hid (∀ W, Below wr.heap.size wr W → (W.cell? ⟨gr, i * 7, none⟩ = some (.int .i64 q) ∧ W.cell? ⟨gr, i * 7 + 1, none⟩ = some (.string tx) ∧ W.cell? ⟨gr, i * 7 + 2, none⟩ = some (.int .i64 (q + 1 + 1)) ∧ W.cell? ⟨gr, i * 7 + 3, none⟩ = some (.int .i64 (q + 1 + 1 + 1)) ∧ W.cell? ⟨gr, i * 7 + 4, none⟩ = some (.int .i64 (q + 1 + 1 + 1 + 1)) ∧ W.cell? ⟨gr, i * 7 + 5, none⟩ = some (.slice ma mn mc) ∧ W.cell? ⟨gr, i * 7 + 6, none⟩ = some (.slice ga gn gc))) := fun W h => C7.later c hgr h
      rw [hq]
      simp only [C7] at c
      clear hown heach hkq hyl hmn hgn hfz hxe hq hlim htx hgr hB hz1 hz2 hz3 hzf hzl hsmz hkzz hsx htk
      go_wp2_with fail
      go_region_held3 (fun W => W.cell? ⟨gr, i * 7, none⟩ = some (.int .i64 q) ∧ W.cell? ⟨gr, i * 7 + 1, none⟩ = some (.string tx) ∧ W.cell? ⟨gr, i * 7 + 2, none⟩ = some (.int .i64 (q + 1 + 1)) ∧ W.cell? ⟨gr, i * 7 + 3, none⟩ = some (.int .i64 (q + 1 + 1 + 1)) ∧ W.cell? ⟨gr, i * 7 + 4, none⟩ = some (.int .i64 (q + 1 + 1 + 1 + 1)) ∧ W.cell? ⟨gr, i * 7 + 5, none⟩ = some (.slice ma mn mc) ∧ W.cell? ⟨gr, i * 7 + 6, none⟩ = some (.slice ga gn gc))
        ((refine HSS.out _ ?_; repeat (first | exact bdr (bre _) | refine btr ?_ (by assumption))))
        ((go_at_call 123; rw [show ((q : Int) + 1) = ((q + 1 : Nat) : Int) by omega]; refine (markText_any (q + 1) _ (by omega) (by omega)).mono ?_; rintro e w1 ⟨rfl, hb1⟩; rw [HTX.out]))
      have HB1 : Hid (Below wr.heap.size wr w1) := by show Below _ _ _; repeat (first | exact bdr (bre _) | refine btr ?_ (by assumption))
      have c2 := HSS.out w1 HB1.out
      go_wp2_with fail
      rw [show (q : Int) + 1 + 1 + 1 + 1 + 1 = ((q + 5 : Nat) : Int) by omega]
      refine (heldMS6_any lo1 ma mn mc (q + 5) Z _ (HZ2.out.later HB1.out) HZL.out hmb (by omega) (by rw [HKK.out]; omega) HSZ.out).mono ?_; rintro e w2 ⟨rfl, hb2⟩
      rw [HKK.out]
      have HB2 := hid (btr HB1.out hb2)
      have c3 := HSS.out w2 HB2.out
      have e7 : ¬ (((q + 5 + 3 * fzn : Nat) : Int) < 0) := by omega
      clear hb2 c2 c
      go_wp2_with fail
      rw [show (q : Int) + 5 + 3 * (fzn : Int) = ((q + 5 + 3 * fzn : Nat) : Int) by omega]
      refine (heldIS_any lo1 ga gn gc (q + 5 + 3 * fzn) _ (own_later HZ3.out HB2.out) hgb (by omega)).mono ?_; rintro e w3 ⟨rfl, hw3⟩
      subst hw3
      have e8 : ¬ (((q + 5 + 3 * fzn + gn : Nat) : Int) < 0) := by omega
      have HB3 := hid (btr HB.out HB2.out)
      go_wp2
      go_roundw
      case rel => exact ⟨i + 1, by omega, by rw [HKQ.out]; go_num, by go_num, HB3.out⟩
      case measure => simp [intOf]; omega
    · have HE1 : Hid (Y.take i = Y) := List.take_of_length_le (by rw [HL.out]; omega)
      go_wp2
      go_ret
      exact ⟨by rw [HE1.out]; rfl, HB.out⟩
end Go.Proofs.YtocfggfccbnbhaaGreatDoor

namespace Go.Proofs.YtocfggfccbnbhaaGreatDoor
open Go.RowKit Go.ChangeMaps
section
variable {W W' : World} {B B' hi : Nat} {bv gv : Value} {S : List X7} {G : List Int} {P : Nat → Prop}
end
set_option maxHeartbeats 800000 in
set_option maxRecDepth 100000 in
theorem markStore_any (B hi : Nat) (y tm : Int) (ma : Option Addr) (mn mc : Nat) (ga : Option Addr) (gn gc : Nat) (S : List X7) (G : List Int) (w : World) (hown : OwU w B hi (.slice ma mn mc) (.slice ga gn gc) S G) (hl : S.length = mn) (hn : mn ≤ 1048576) (hsm : SmX S) (hgl : G.length = gn) (hgn : gn ≤ 1048576) (hfz : kx 1 S ≤ 6291456) :
    Calls Tryz.prog 29 #[.agg #[.int .i64 y, .int .i64 tm, .slice ma mn mc, .slice ga gn gc], .int .i64 1] w fun e w' => e = .returned (.int .i64 ((kx 1 S + gn : Nat) : Int)) ∧ OwU w' B hi (.slice ma mn mc) (.slice ga gn gc) (mxl 1 S) (mki (kx 1 S) gn) ∧ Chg (fun j => B ≤ j ∧ j < hi) w w' := by
  obtain ⟨Y, rfl, hz, hii, hd, hdz, hv1, hv2, hv3⟩ := hown
  have hlt : ∀ j, (Value.ownBlock (.slice ma mn mc) = some j ∨ ∃ z ∈ Y, z.lo ≤ j ∧ j < z.hi) → j < w.heap.size := by
    rintro j (h | ⟨z, hzz, _, h⟩)
    · exact (hz.row.lt j h).2
    · exact Nat.lt_of_lt_of_le h (hz.each z hzz).1.top
  have hbl : ∀ j, (Value.ownBlock (.slice ma mn mc) = some j ∨ ∃ z ∈ Y, z.lo ≤ j ∧ j < z.hi) → B ≤ j ∧ j < hi := by
    rintro j (h | ⟨z, hzz, h1, h2⟩)
    · exact ⟨(hz.row.lt j h).1, hv1 j h⟩
    · exact ⟨Nat.le_trans (hz.each z hzz).2 h1, Nat.lt_of_lt_of_le h2 (hv3 z hzz)⟩
  have HLT := hid hlt
  have HBL := hid hbl
  have HV1 := hid hv1
  have HV2 := hid hv2
  have HV3 := hid hv3
  obtain ⟨W0, hW0⟩ : ∃ W0, w.alloc (.cells #[.int .i64 y, .int .i64 tm, .slice ma mn mc, .slice ga gn gc] 27) = W0 := ⟨_, rfl⟩
  have a0 : Sx W0 w.heap.size 27 y tm (.slice ma mn mc) (.slice ga gn gc) := by subst hW0; exact Sx.new w _ y tm _ _
  have b0 : Below w.heap.size w W0 := by subst hW0; exact bpush (bre _) _
  have c0 := a0.cells
  have HC := markBS_any (fun j => Value.ownBlock (.slice ma mn mc) = some j ∨ ∃ z ∈ Y, z.lo ≤ j ∧ j < z.hi) B ma mn mc 1 Y W0 (hz.later b0) (by rw [← hl, List.length_map]) hn (by omega) hfz hsm (fun j hj => .inl hj) (fun z hz j h1 h2 => .inr ⟨z, hz, h1, h2⟩)
  have HCC := hid HC
  have HZ := hid hz
  have HI := hid hii
  have HD := hid hd
  have HDZ := hid hdz
  have A0 := hid a0
  have B0 := hid b0
  have HGL := hid hgl
  obtain ⟨q, hq⟩ : ∃ q, kx 1 (Y.map yd) = q := ⟨_, rfl⟩
  have hqb : q ≤ 6291456 := by rw [← hq]; exact hfz
  have HQ := hid hq
  rw [hq]
  clear hbl HC hz hii hd hdz a0 b0 hgl hsm hfz hl hlt hv1 hv2 hv3
  go_enter Tryz.func29, Tryz.ntmps29
  go_wp2_with fail
  clear hW0
  refine HCC.out.mono ?_; rintro e w1 ⟨rfl, ho1, hc1⟩
  rw [hq]
  clear hq
  have ho2 : OwI w1 B (.slice ga gn gc) G := row_chg (own_later HI.out B0.out) hc1 (fun j hj => by
    rintro (h | ⟨z, hzz, h1, h2⟩)
    · exact HD.out j hj h
    · have := HDZ.out z hzz j hj; omega)
  have x1 : Sx w1 w.heap.size 27 y tm (.slice ma mn mc) (.slice ga gn gc) := (hc1.block _ A0.out.lt (fun e => by have h1 := HLT.out _ e; omega)).trans A0.out
  have k1 := x1.cells
  have HC1 := hid hc1
  have HO1 := hid ho1
  have HO2 := hid ho2
  clear hc1 ho1 ho2 c0 x1
  go_wp2_with fail
  refine (markIS_any B ga gn gc q G w1 HO2.out HGL.out hgn (by omega)).mono ?_; rintro e w2 ⟨rfl, ho3, hg3⟩
  have HO3 := hid ho3
  have HG3 := hid hg3
  clear ho3 hg3
  have HF : Hid (OwS w2 B (.slice ma mn mc) (mys 1 Y)) := by
    show OwS _ _ _ _
    refine HO1.out.kept HG3.out.size (fun j hj => HG3.out.block j (HO1.out.row.lt j hj).2 (fun e => HD.out j e.symm hj)) (fun z hz j j1 j2 => HG3.out.block j (Nat.lt_of_lt_of_le j2 (HO1.out.each z hz).1.top) (fun e => ?_))
    obtain ⟨x, hx, e1, e2⟩ := mys_mem 1 Y z hz
    have := HDZ.out x hx j e.symm
    omega
  have HCH : Hid (Chg (fun j => B ≤ j ∧ j < hi) w w2) := by
    show Chg _ _ _
    refine Chg.trans (Chg.trans (Chg.of_below B0.out) (HC1.out.mono HBL.out)) (Chg.of_grown HG3.out (fun j hj => ⟨(HI.out.lt j hj).1, HV2.out j hj⟩))
  go_wp2
  go_ret
  refine ⟨by go_num, ⟨mys 1 Y, mys_yd 1 Y, HF.out, HO3.out, HD.out, fun z hz j hj => ?_, HV1.out, HV2.out, fun z hz => ?_⟩, HCH.out⟩
  · obtain ⟨x, hx, e1, e2⟩ := mys_mem 1 Y z hz
    rw [e1, e2]; exact HDZ.out x hx j hj
  · obtain ⟨x, hx, e1, e2⟩ := mys_mem 1 Y z hz
    rw [e2]; exact HV3.out x hx
/-- What a marked row is the marks of. -/
theorem mys_fix (k : Nat) (S : List X7) : ∀ Y : List Y9, Y.map yd = mxl k S → mys k Y = Y := by
  induction S generalizing k with
  | nil =>
    intro Y h
    cases Y with
    | nil => rfl
    | cons y Y => simp [mxl] at h
  | cons x S ih =>
    intro Y h
    cases Y with
    | nil => simp [mxl] at h
    | cons y Y =>
      simp only [List.map_cons, mxl, List.cons.injEq] at h
      obtain ⟨h1, h2⟩ := h
      have e : kx1 k (yd y) = kx1 k x := by rw [h1]; simp [kx1, mx1, mzl_fz, mki_len]
      simp only [mys]
      rw [e, ih _ Y h2]
      obtain ⟨g, nm, t, b, nx, mv, gv, L, G, lo, hi⟩ := y
      simp only [yd, mx1, Prod.mk.injEq] at h1
      obtain ⟨rfl, rfl, rfl, rfl, rfl, rfl, rfl⟩ := h1
      have e2 : ∀ (k : Nat) (L : List M4), mzl k (mzl k L) = mzl k L := by
        intro k L
        induction L generalizing k with
        | nil => rfl
        | cons m L ih =>
          have e3 : km1 k (mm1 k m) = km1 k m := by simp [km1, mm1, mks_len]
          simp only [mzl]
          rw [e3, ih]
          simp [mm1, mks_len]
      simp [my1, e2, mzl_fz, mki_len]
theorem kx_fix (k : Nat) (S : List X7) : kx k (mxl k S) = kx k S := by
  induction S generalizing k with
  | nil => rfl
  | cons x S ih =>
    have e : kx1 k (mx1 k x) = kx1 k x := by simp [kx1, mx1, mzl_fz, mki_len]
    simp only [mxl, kx]
    rw [e, ih]
theorem mxl_smx (k : Nat) (S : List X7) (h : SmX S) (hk : kx k S ≤ 6291456) : SmX (mxl k S) := by
  induction S generalizing k with
  | nil => intro x hx; simp [mxl] at hx
  | cons x S ih =>
    have h1 := kx_le (kx1 k x) S
    have e1 : kx1 k x = k + 5 + 3 * fz x.2.2.2.2.2.1 + x.2.2.2.2.2.2.length := rfl
    have hk' : kx (kx1 k x) S ≤ 6291456 := hk
    intro z hz
    simp only [mxl, List.mem_cons] at hz
    rcases hz with rfl | hz
    · have hs := h x (by simp)
      exact ⟨mzl_sm _ _ hs.1 (by omega), by simp only [mx1, mzl_len]; exact hs.2.1, by simp only [mx1, mki_len]; exact hs.2.2⟩
    · exact ih (kx1 k x) (fun x hx => h x (by simp [hx])) hk' z hz
set_option maxHeartbeats 800000 in
set_option maxRecDepth 100000 in
theorem heldStore_any (B hi : Nat) (y tm : Int) (ma : Option Addr) (mn mc : Nat) (ga : Option Addr) (gn gc : Nat) (S : List X7) (w : World) (hown : OwU w B hi (.slice ma mn mc) (.slice ga gn gc) (mxl 1 S) (mki (kx 1 S) gn)) (hl : S.length = mn) (hn : mn ≤ 1048576) (hsm : SmX S) (hgn : gn ≤ 1048576) (hfz : kx 1 S ≤ 6291456) :
    Calls Tryz.prog 30 #[.agg #[.int .i64 y, .int .i64 tm, .slice ma mn mc, .slice ga gn gc], .int .i64 1] w fun e w' => e = .returned (.int .i64 ((kx 1 S + gn : Nat) : Int)) ∧ Below w.heap.size w w' := by
  obtain ⟨Y, hy, hz, hii, -⟩ := hown
  have hfix := mys_fix 1 S Y hy
  have hkx : kx 1 (Y.map yd) = kx 1 S := by rw [hy, kx_fix]
  have hyl : Y.length = mn := by have h := congrArg List.length hy; rw [List.length_map, mxl_len] at h; omega
  obtain ⟨W0, hW0⟩ : ∃ W0, w.alloc (.cells #[.int .i64 y, .int .i64 tm, .slice ma mn mc, .slice ga gn gc] 27) = W0 := ⟨_, rfl⟩
  have a0 : Sx W0 w.heap.size 27 y tm (.slice ma mn mc) (.slice ga gn gc) := by subst hW0; exact Sx.new w _ y tm _ _
  have b0 : Below w.heap.size w W0 := by subst hW0; exact bpush (bre _) _
  have c0 := a0.cells
  have HC := heldBS_any B ma mn mc 1 Y W0 (by rw [hfix]; exact hz.later b0) hyl hn (by omega) (by rw [hkx]; exact hfz) (by rw [hy]; exact mxl_smx 1 S hsm hfz)
  rw [hkx] at HC
  have HCC := hid HC
  have HI := hid hii
  have A0 := hid a0
  have B0 := hid b0
  obtain ⟨q, hq⟩ : ∃ q, kx 1 S = q := ⟨_, rfl⟩
  have hqb : q ≤ 6291456 := by rw [← hq]; exact hfz
  have HQ := hid hq
  have h1 : ¬ (q : Int) < 0 := by omega
  rw [hq]
  clear HC hz hii a0 b0 hsm hfz hl hy hfix hkx hyl
  go_enter Tryz.func30, Tryz.ntmps30
  go_wp2_with fail
  clear hW0
  refine HCC.out.mono ?_; rintro e w1 ⟨rfl, hb1⟩
  rw [hq]
  clear hq
  have c0 := (A0.out.later hb1).cells
  have B1 := hid (btr B0.out hb1)
  clear hb1
  go_wp2_with fail
  refine (heldIS_any B ga gn gc q w1 (by rw [← HQ.out]; exact own_later HI.out B1.out) hgn (by omega)).mono ?_; rintro e w2 ⟨rfl, hw2⟩
  subst hw2
  have h2 : ¬ ((q + gn : Nat) : Int) < 0 := by omega
  have h3 : ¬ (q : Int) + (gn : Int) < 0 := by omega
  go_wp2
  go_ret
  exact ⟨by go_num, B1.out⟩
end Go.Proofs.YtocfggfccbnbhaaGreatDoor

namespace Go.Proofs.YtocfggfccbnbhaaGreatDoor
open Go.RowKit Go.ChangeMaps
theorem sb_smx {S : List X7} (h : Sb S) : SmX S := fun x hx => ⟨(h x hx).2.2.1, (h x hx).2.1, (h x hx).2.2.2⟩
theorem fz_few (L : List M4) (h : ∀ m ∈ L, m.2.2.1.length = 3) : fz L = 4 * L.length := by
  induction L with
  | nil => rfl
  | cons m L ih =>
    simp only [fz, List.length_cons, ih (fun x hx => h x (by simp [hx])), h m (by simp)]
    omega
theorem bxx_small {x : X7} (h : bxx x = true) : Sx1 x ∧ kx1 0 x ≤ 200 := by
  obtain ⟨g, nm, t, b, nx, L, G⟩ := x
  simp only [bxx] at h
  obtain ⟨h1, h2, h3, h4, h5, h6⟩ := bx_parts h
  have hm : ∀ m ∈ L, m.2.2.1.length = 3 ∧ m.2.2.2.size ≤ 60 := by
    intro m hm
    obtain ⟨i, hi, rfl⟩ := List.getElem_of_mem hm
    have h7 := List.all_eq_true.1 h3 i (List.mem_range.2 hi)
    obtain ⟨⟨a, c, d, e⟩, hLi⟩ : ∃ m, L[i] = m := ⟨_, rfl⟩
    rw [stp_at hi hLi] at h7
    rw [hLi]
    simp only [Bool.and_eq_true, mlOk, flOk, decide_eq_true_eq] at h7
    exact ⟨h7.1.2.2.1.1, by have := h7.1.2.2.2; show e.size ≤ 60; omega⟩
  have hn : nm.size ≤ 12 := by
    simp only [bxOk, nmOk, Bool.and_eq_true, decide_eq_true_eq] at h
    have := h.2.1.2.2
    omega
  refine ⟨⟨by show nm.size ≤ _; omega, by show L.length ≤ _; omega, fun m hm' => ⟨by have := (hm m hm').1; omega, by have := (hm m hm').2; omega⟩, by show G.length ≤ _; omega⟩, ?_⟩
  show 0 + 5 + 3 * fz L + G.length ≤ 200
  rw [fz_few L (fun m hm' => (hm m hm').1)]
  omega
theorem sOk_small {y tm : Int} {S : List X7} {G : List Int} (h : sOk y tm S G = true) : S.length ≤ 5 ∧ Sb S ∧ kx 1 S ≤ 6291456 ∧ G.length ≤ 20 := by
  obtain ⟨h1, h2, h3, _⟩ := sOk_all h
  have hx : ∀ x ∈ S, bxx x = true := by
    intro x hx
    obtain ⟨i, hi, rfl⟩ := List.getElem_of_mem hx
    exact (stp7_all h3 hi).1
  have hk : ∀ (k : Nat) (T : List X7), (∀ x ∈ T, bxx x = true) → kx k T ≤ k + 200 * T.length := by
    intro k T
    induction T generalizing k with
    | nil => intro _; simp [kx]
    | cons x T ih =>
      intro hT
      have a := ih (kx1 k x) (fun z hz => hT z (by simp [hz]))
      have b := (bxx_small (hT x (by simp))).2
      have e : kx1 k x = k + 5 + 3 * fz x.2.2.2.2.2.1 + x.2.2.2.2.2.2.length := rfl
      have e2 : kx1 0 x = 0 + 5 + 3 * fz x.2.2.2.2.2.1 + x.2.2.2.2.2.2.length := rfl
      show kx (kx1 k x) T ≤ _
      simp only [List.length_cons]
      omega
  exact ⟨h1, fun x hx' => (bxx_small (hx x hx')).1, by have := hk 1 S hx; omega, (sOk_gone h).2⟩
/-- A store handed back, laid into a block of its own. -/
structure AnsS (wn W : World) (k : Nat) (y tm : Int) (bv gv : Value) (S : List X7) (G : List Int) : Prop where
  box : Sx W k 27 y tm bv gv
  le : wn.heap.size ≤ k
  own : ∃ B hi, OwU W B hi bv gv S G ∧ wn.heap.size ≤ B ∧ hi ≤ W.heap.size ∧ (k < B ∨ hi ≤ k)
  bel : Below wn.heap.size wn W
theorem anss_last {wn v : World} {B : Nat} {y tm : Int} {bv gv : Value} {S : List X7} {G : List Int} (ho : OwT v B bv gv S G) (hB : wn.heap.size ≤ B) (hb : Below wn.heap.size wn v) :
    AnsS wn (v.alloc (.cells #[.int .i64 y, .int .i64 tm, bv, gv] 27)) v.heap.size y tm bv gv S G :=
  ⟨Sx.new v _ _ _ _ _, hb.size, ⟨B, v.heap.size, ho.u.later (bpush (bre _) _), hB, by simp, .inr (Nat.le_refl _)⟩, bpush hb _⟩
end Go.Proofs.YtocfggfccbnbhaaGreatDoor

namespace Go.Proofs.YtocfggfccbnbhaaGreatDoor
open Go.RowKit Go.ChangeMaps
/-- As many numbers as are told, but at most mo and one more. -/
def rints (s : ByteArray) (a : Int) (mo : Int) : Option (List Int × Int) := (rd s a).bind fun p => rds s p.2 (min p.1 (mo + 1)).toNat
/-- What was read so far, or it went bad. -/
def Rk {α : Type} (o : Option (α × Int)) (x : α) (b : Int) (bad : Bool) : Prop := (bad = false ∧ o = some (x, b)) ∨ (bad = true ∧ o = none)
theorem Rk.start (a : Int) : Rk (some ((), a)) () a false := Or.inl ⟨rfl, rfl⟩
theorem Rk.var {α : Type} {o : Option (α × Int)} {x : α} {s : ByteArray} {b : Int} {bad : Bool} {n b' : Int} {bad' : Bool} (h : Rk o x b bad) (hn : nxt s b bad n b' bad') :
    Rk (o.bind fun p => (rd s p.2).map fun q => ((p.1, q.1), q.2)) (x, n) b' bad' := by
  rcases h with ⟨h1, h2⟩ | ⟨h1, h2⟩
  · rcases hn with ⟨_, g2, g3⟩ | ⟨g1, _, _, g4⟩
    · exact Or.inl ⟨g2, by rw [h2]; simp only [Option.bind_some, g3, Option.map_some]⟩
    · rcases g4 with g4 | g4
      · rw [h1] at g4; cases g4
      · exact Or.inr ⟨g1, by rw [h2]; simp only [Option.bind_some, g4, Option.map_none]⟩
  · rcases hn with ⟨g1, _, _⟩ | ⟨g1, _, _, _⟩
    · rw [h1] at g1; cases g1
    · exact Or.inr ⟨g1, by rw [h2]; rfl⟩
theorem Rk.short {α : Type} {o : Option (α × Int)} {x : α} {s : ByteArray} {b : Int} {bad : Bool} {t : ByteArray} {b' : Int} {bad' : Bool} (h : Rk o x b bad) (hn : nxtS s b bad t b' bad') :
    Rk (o.bind fun p => (rsh s p.2).map fun q => ((p.1, q.1), q.2)) (x, t) b' bad' := by
  rcases h with ⟨h1, h2⟩ | ⟨h1, h2⟩
  · rcases hn with ⟨_, g2, g3⟩ | ⟨g1, _, _, g4⟩
    · exact Or.inl ⟨g2, by rw [h2]; simp only [Option.bind_some, g3, Option.map_some]⟩
    · rcases g4 with g4 | g4
      · rw [h1] at g4; cases g4
      · exact Or.inr ⟨g1, by rw [h2]; simp only [Option.bind_some, g4, Option.map_none]⟩
  · rcases hn with ⟨g1, _, _⟩ | ⟨g1, _, _, _⟩
    · rw [h1] at g1; cases g1
    · exact Or.inr ⟨g1, by rw [h2]; rfl⟩
/-- How a call ends that reads numbers by the cursor at block k. -/
def Ints1 (w : World) (k : Nat) (s : ByteArray) (b : Int) (bad : Bool) (mo : Int) (e : Ending) (w' : World) : Prop :=
  ∃ G gv b' bad', e = .returned gv ∧ OwI w' w.heap.size gv G ∧ Cg w' k s b' bad' ∧ ((bad = false ∧ bad' = false ∧ rints s b mo = some (G, b')) ∨ (bad' = true ∧ (bad = true ∨ rints s b mo = none))) ∧ w.grownBy w' (some k) ∧ G.length ≤ 101
def Iq (s : ByteArray) (b1 : Int) (bad1 : Bool) (G : List Int) (b2 : Int) (bad2 : Bool) : Prop := (bad1 = true ∧ bad2 = true) ∨ (bad1 = false ∧ SS s b1 G b2 bad2)
theorem Iq.start (s : ByteArray) (b1 : Int) (bad1 : Bool) : Iq s b1 bad1 [] b1 bad1 := by
  cases bad1
  · exact Or.inr ⟨rfl, SS.start s b1⟩
  · exact Or.inl ⟨rfl, rfl⟩
/-- What numbers come to at the end. -/
theorem Iq.fin {s : ByteArray} {b : Int} {bad : Bool} {n b1 : Int} {bad1 : Bool} {mo : Int} {G : List Int} {b2 : Int} {bad2 : Bool} (hn : nxt s b bad n b1 bad1) (h : Iq s b1 bad1 G b2 bad2) (hm : bad2 = true ∨ G.length = (min n (mo + 1)).toNat) (hl : G.length ≤ (min n (mo + 1)).toNat) :
    (bad = false ∧ bad2 = false ∧ rints s b mo = some (G, b2)) ∨ (bad2 = true ∧ (bad = true ∨ rints s b mo = none)) := by
  rcases hn with ⟨h1, h2, h3⟩ | ⟨h1, _, _, h4⟩
  · rcases h with ⟨h5, _⟩ | ⟨_, h5⟩
    · rw [h2] at h5; cases h5
    · rcases h5 with ⟨h6, h7⟩ | ⟨h6, h7⟩
      · rcases hm with h8 | h8
        · rw [h6] at h8; cases h8
        · refine Or.inl ⟨h1, h6, ?_⟩
          unfold rints
          rw [h3]
          simp only [Option.bind_some]
          rw [← h8, h7]
      · refine Or.inr ⟨h6, Or.inr ?_⟩
        unfold rints
        rw [h3]
        simp only [Option.bind_some]
        have h9 := rds_dead h7 ((min n (mo + 1)).toNat - G.length)
        rwa [show G.length + ((min n (mo + 1)).toNat - G.length) = (min n (mo + 1)).toNat by omega] at h9
  · rcases h with ⟨_, h5⟩ | ⟨h5, _⟩
    · exact Or.inr ⟨h5, h4.imp id (fun h => by unfold rints; rw [h]; rfl)⟩
    · rw [h1] at h5; cases h5
theorem grown_alloc {a w : World} {r : Option Nat} (h : a.grownBy w r) (o : Obj) : a.grownBy (w.alloc o) r :=
  ⟨h.os, h.tape, h.output, by have := h.size; simp; omega, fun i hi hr => (RowKit.Below.heap_alloc w o i (Nat.lt_of_lt_of_le hi h.size)).trans (h.block i hi hr)⟩
theorem grown_up {a w w' : World} {r : Option Nat} {B : Nat} (h : a.grownBy w r) (hb : Below B w w') (hB : a.heap.size ≤ B) : a.grownBy w' r :=
  ⟨hb.os.trans h.os, hb.tape.trans h.tape, hb.output.trans h.output, Nat.le_trans h.size hb.size, fun i hi hr => (hb.block i (by omega)).trans (h.block i hi hr)⟩
theorem ownI_far {W W' : World} {B k : Nat} {v : Value} {G : List Int} (h : OwI W B v G) (hg : W.grownBy W' (some k)) (hk : k < B) : OwI W' B v G :=
  World.ownsRow.kept h hg (by
    cases hv : v.ownBlock with
    | none => exact Or.inl rfl
    | some j => exact Or.inr (fun e => by have := (World.ownsRow.lt h j hv).1; simp at e; omega))
theorem cell_one_i10 (w : World) (n : Int) (e : Nat) : ∀ (j : Nat) (u : Value), ([Value.int .i64 n] : List Value)[j]? = some u → (w.alloc (.cells #[.int .i64 n] e)).cell? ((⟨w.heap.size, 0, none⟩ : Addr).add j) = some u := by
  intro j u hj
  match j, hj with
  | 0, hj =>
    simp only [List.getElem?_cons_zero, Option.some.injEq] at hj
    subst hj
    exact cell_of_row _ w.heap.size 0 _ _ _ (heap_alloc_new w _)
  | j + 1, hj => simp at hj
theorem wpList_append_i10 (w : World) {ops : Array Oper} {rest : List Oper} {o : Oper} {a : Act} {Q : Exit → Act → World → Prop} (hgd : o.guard = none) (s x : Operand)
    (ho : o.op = .call { callee := .builtin .append, args := #[s, x], argTypes := #[25, 25] })
    (base : Nat) (v : Value) (bs : List Int) (hs : a.eval s = v) (hown : OwI w base v bs) (n : Int)
    (hx : a.eval x = .slice (some ⟨w.heap.size, 0, none⟩) 1 1) (hlen : bs.length ≤ 9000000) (hbase : base ≤ w.heap.size)
    (h : ∀ v' w', OwI w' base v' (bs ++ [n]) → Below base w w' → wpList Tryz.prog ops Q rest (a.put o.dst v') w') :
    wpList Tryz.prog ops Q (o :: rest) a (w.alloc (.cells #[.int .i64 n] 3)) := by
  obtain ⟨i0, hi, hz0, hz1, hz2⟩ := info_parts3 info_int
  refine wpList_append_own _ hgd s x 25 ho base 3 i0 (.int .i64 0) 1 8 Tryz.underlying25 hi hz0 hz1 hz2 rfl (by decide) v _ _ hs (hown.alloc _) ⟨w.heap.size, 0, none⟩ 1 1 [.int .i64 n] hx rfl (cell_one_i10 _ _ _) (by intro u hu; simp at hu; subst hu; rfl) (by unfold maxLen; omega) (by omega) (by simp; omega) ?_
  intro v' w' hown' hg _
  refine h v' w' (by simpa [OwI] using hown') (((Below.refl base w).alloc hbase _).grown hg (by simp; omega) (fun k hk => (hown.lt k hk).1))
set_option maxHeartbeats 1600000 in
set_option maxRecDepth 100000 in
theorem l10Ints_any (k : Nat) (s : ByteArray) (b : Int) (bad : Bool) (mo : Int) (w : World) (hs : s.size ≤ 1048576) (hc : Cg w k s b bad) (hmo : 0 ≤ mo ∧ mo ≤ 100) :
    Calls Tryz.prog 48 #[.pointer (some ⟨k, 0, none⟩), .int .i64 mo] w fun e w' => Ints1 w k s b bad mo e w' := by
  have HK := hid hc.lt
  have HC := hid hc
  have HSZ := hid hs
  clear hc hs
  go_enter Tryz.func48, Tryz.ntmps48
  go_wp2_with fail
  refine (l05Var_any k s b bad _ HSZ.out HC.out).mono ?_; rintro e w1 ⟨n, b1, bad1, rfl, hc1, hn1, hg1⟩
  have HN := hid hn1
  have C1 := hid (hc1.later (bpush (bre _) (.cells #[] 3)))
  have G1 := hid (grown_alloc hg1 (.cells #[] 3))
  have hs1 := hg1.size
  have O1 := hid (ownI_empty w1 w.heap.size hs1)
  have hnn : 0 ≤ n ∧ n ≤ 1000000000 := by
    rcases hn1 with ⟨_, _, h⟩ | ⟨_, h, _⟩
    · have := rd_some h; omega
    · omega
  clear hc1 hg1 HC hn1
  go_wp2
  obtain ⟨w2, hw2⟩ : ∃ x, w1.alloc (.cells #[] 3) = x := ⟨_, rfl⟩
  rw [hw2] at C1 G1 O1
  rw [hw2]
  clear hw2
  obtain ⟨mx, hmx⟩ : ∃ m : Nat, (m : Int) = min n (mo + 1) := ⟨(min n (mo + 1)).toNat, by omega⟩
  have HMX : Hid (mx = (min n (mo + 1)).toNat) := hid (by omega)
  go_loopw [6, 7] (fun ov iv wr => ∃ (i : Nat) (G : List Int) (b2 : Int) (bad2 : Bool), i ≤ mx ∧ iv = .int .i64 (i : Int) ∧ Hid (G.length = i) ∧ OwI wr w.heap.size ov G ∧ Cg wr k s b2 bad2 ∧ Hid (Iq s b1 bad1 G b2 bad2) ∧ w.grownBy wr (some k)) (fun _ iv _ => mx - (intOf iv).toNat)
  case atStart => exact ⟨0, [], b1, bad1, Nat.zero_le _, rfl, rfl, O1.out, C1.out, Iq.start s b1 bad1, G1.out⟩
  case round =>
    obtain ⟨i, G, b2, bad2, hi, rfl, HL, ho, hc, HQ, hg⟩ := hrel
    have XO := hid ho
    have XC := hid hc
    have XG := hid hg
    have c0 := hc.cells
    clear ho hc hg O1 C1 G1
    by_cases hlt : (i : Int) < n
    · by_cases hle : (i : Int) ≤ mo
      · cases bad2
        · have HQ2 : Hid (bad1 = false ∧ SS s b1 G b2 false) := hid (by rcases HQ.out with ⟨_, h⟩ | h; (cases h); exact h)
          go_wp2_with fail
          refine (l05Var_any k s b2 false _ HSZ.out XC.out).mono ?_; rintro e w3 ⟨x, b3, bad3, rfl, hc3, hn3, hg3⟩
          have S3 := hid (HQ2.out.2.next hn3)
          have O3 := hid (ownI_far XO.out hg3 HK.out)
          have G3 := hid (wtr XG.out hg3)
          have C3 := hid hc3
          have hs3 := G3.out.size
          have hgl : G.length ≤ 9000000 := by rw [HL.out]; omega
          obtain ⟨a9, c9, e9, _⟩ := OwI.shape O3.out
          subst e9
          clear hc3 hn3 hg3 c0
          go_wp2_with (at_builtin; refine wpList_append_i10 _ rfl _ _ rfl w.heap.size _ G (by rfl) O3.out x (by rfl) hgl hs3 ?_; intro v4 w4 hown4 hb4)
          have C4 := hid (C3.out.below hb4 HK.out)
          have G4 := hid (grown_up G3.out hb4 (Nat.le_refl _))
          have O4 := hid hown4
          obtain ⟨a8, c8, e8, _⟩ := OwI.shape hown4
          subst e8
          clear hown4 hb4
          go_roundw
          case rel => exact ⟨i + 1, G ++ [x], b3, bad3, by omega, by go_num, hid (by show (G ++ [x]).length = i + 1; rw [List.length_append, HL.out]; rfl), O4.out, C4.out, Or.inr ⟨HQ2.out.1, S3.out⟩, G4.out⟩
          case measure => simp [intOf]; omega
        · go_wp2
          go_ret
          exact ⟨G, _, b2, _, rfl, XO.out, XC.out, Iq.fin HN.out HQ.out (Or.inl rfl) (by rw [HL.out, ← HMX.out]; exact hi), XG.out, by rw [HL.out]; have := HMX.out; omega⟩
      · go_wp2
        go_ret
        exact ⟨G, _, b2, _, rfl, XO.out, XC.out, Iq.fin HN.out HQ.out (Or.inr (by rw [HL.out, ← HMX.out]; omega)) (by rw [HL.out, ← HMX.out]; exact hi), XG.out, by rw [HL.out]; have := HMX.out; omega⟩
    · go_wp2
      go_ret
      exact ⟨G, _, b2, _, rfl, XO.out, XC.out, Iq.fin HN.out HQ.out (Or.inr (by rw [HL.out, ← HMX.out]; omega)) (by rw [HL.out, ← HMX.out]; exact hi), XG.out, by rw [HL.out]; have := HMX.out; omega⟩
end Go.Proofs.YtocfggfccbnbhaaGreatDoor

namespace Go.Proofs.YtocfggfccbnbhaaGreatDoor
open Go.RowKit Go.ChangeMaps
/-- Mails, one behind the other. -/
def rms (s : ByteArray) (a : Int) : Nat → Option (List M4 × Int)
  | 0 => some ([], a)
  | k + 1 => (rms s a k).bind fun p => if (rm6 s p.2).2.2.2.2.2 = true then some (p.1 ++ [((rm6 s p.2).1, (rm6 s p.2).2.1, (rm6 s p.2).2.2.1, (rm6 s p.2).2.2.2.1)], (rm6 s p.2).2.2.2.2.1) else none
theorem rms_dead {s : ByteArray} {a : Int} {k : Nat} (h : rms s a k = none) (j : Nat) : rms s a (k + j) = none := by
  induction j with
  | zero => exact h
  | succ j ih => show (rms s a (k + j)).bind _ = none; rw [ih]; rfl
abbrev Hd6 := (((((Unit × Int) × ByteArray) × Int) × Int) × Int) × Int
/-- What stands ahead of a box's mails. -/
def rh1 (s : ByteArray) (a : Int) : Option ((Unit × Int) × Int) := (some ((), a)).bind fun p => (rd s p.2).map fun q => ((p.1, q.1), q.2)
def rh2 (s : ByteArray) (a : Int) : Option (((Unit × Int) × ByteArray) × Int) := (rh1 s a).bind fun p => (rsh s p.2).map fun q => ((p.1, q.1), q.2)
def rh3 (s : ByteArray) (a : Int) : Option ((((Unit × Int) × ByteArray) × Int) × Int) := (rh2 s a).bind fun p => (rd s p.2).map fun q => ((p.1, q.1), q.2)
def rh4 (s : ByteArray) (a : Int) : Option (((((Unit × Int) × ByteArray) × Int) × Int) × Int) := (rh3 s a).bind fun p => (rd s p.2).map fun q => ((p.1, q.1), q.2)
def rh5 (s : ByteArray) (a : Int) : Option ((((((Unit × Int) × ByteArray) × Int) × Int) × Int) × Int) := (rh4 s a).bind fun p => (rd s p.2).map fun q => ((p.1, q.1), q.2)
def rh6 (s : ByteArray) (a : Int) : Option (Hd6 × Int) := (rh5 s a).bind fun p => (rd s p.2).map fun q => ((p.1, q.1), q.2)
/-- The box that is read: the box, and the place behind it. -/
def rbx (s : ByteArray) (a : Int) : Option (X7 × Int) :=
  (rh6 s a).bind fun p => (rms s p.2 (min p.1.2 11).toNat).bind fun q => (rints s q.2 40).bind fun r =>
    if bxOk p.1.1.1.1.1.1.2 p.1.1.1.1.1.2 p.1.1.1.1.2 p.1.1.1.2 p.1.1.2 q.1 r.1 = true then some ((p.1.1.1.1.1.1.2, p.1.1.1.1.1.2, p.1.1.1.1.2, p.1.1.1.2, p.1.1.2, q.1, r.1), r.2) else none
/-- How a call ends that reads a box. -/
def RbPost (s : ByteArray) (a : Int) (w : World) (e : Ending) (w' : World) : Prop :=
  (rbx s a = none ∧ e = .returned (.tuple #[.agg #[.int .i64 0, .string ⟨#[]⟩, .int .i64 0, .int .i64 0, .int .i64 0, .slice none 0 0, .slice none 0 0], .int .i64 0, .bool false]) ∧ Below w.heap.size w w') ∨
  ∃ g nm t b nx L G c mv gv, rbx s a = some ((g, nm, t, b, nx, L, G), c) ∧ bxOk g nm t b nx L G = true ∧ e = .returned (.tuple #[.agg #[.int .i64 g, .string nm, .int .i64 t, .int .i64 b, .int .i64 nx, mv, gv], .int .i64 c, .bool true]) ∧ OwB w' w.heap.size mv gv L G ∧ Below w.heap.size w w'
/-- The memory of a call that reads a box. -/
structure Rbs (w W : World) (kb : Nat) (s : ByteArray) (g : Int) (nm : ByteArray) (t b nx : Int) (mv gv : Value) (c : Int) (bad : Bool) : Prop where
  zero : Bx W w.heap.size 38 0 ⟨#[]⟩ 0 0 0 (.slice none 0 0) (.slice none 0 0)
  cur : Cg W (w.heap.size + 1) s c bad
  box : Bx W kb 38 g nm t b nx mv gv
  far : w.heap.size + 1 < kb
  bel : Below w.heap.size w W
section
variable {w W W' : World} {kb : Nat} {s : ByteArray} {g : Int} {nm : ByteArray} {t b nx : Int} {mv gv : Value} {c : Int} {bad : Bool}
theorem Rbs.later (h : Rbs w W kb s g nm t b nx mv gv c bad) (hb : Below W.heap.size W W') : Rbs w W' kb s g nm t b nx mv gv c bad :=
  ⟨h.zero.later hb, h.cur.later hb, h.box.later hb, h.far, btr h.bel hb⟩
theorem Rbs.below {B : Nat} (h : Rbs w W kb s g nm t b nx mv gv c bad) (hb : Below B W W') (hB : kb < B) : Rbs w W' kb s g nm t b nx mv gv c bad :=
  have hf := h.far
  ⟨(hb.block _ (by omega)).trans h.zero, (hb.block _ (by omega)).trans h.cur, (hb.block _ hB).trans h.box, h.far, h.bel.trans (hb.mono (by omega))⟩
theorem Rbs.read {c' : Int} {bad' : Bool} (h : Rbs w W kb s g nm t b nx mv gv c bad) (hg : W.grownBy W' (some (w.heap.size + 1))) (hc : Cg W' (w.heap.size + 1) s c' bad') : Rbs w W' kb s g nm t b nx mv gv c' bad' :=
  have hf := h.far
  ⟨h.zero.grown hg (by simp), hc, h.box.grown hg (by simp; omega), h.far, h.bel.trans (below_grownR hg (by intro j hj; simp at hj; omega) h.bel.size)⟩
theorem Rbs.put {i : Nat} {x : Value} {g' : Int} {nm' : ByteArray} {t' b' nx' : Int} {mv' gv' : Value} (h : Rbs w W kb s g nm t b nx mv gv c bad) (hx : Bx (W.setCell ⟨kb, i, none⟩ x) kb 38 g' nm' t' b' nx' mv' gv') : Rbs w (W.setCell ⟨kb, i, none⟩ x) kb s g' nm' t' b' nx' mv' gv' c bad :=
  have hf := h.far
  ⟨heap_setCell_far x h.zero (by omega), h.cur.far x (by omega), hx, h.far, bsk h.bel (by omega) i x⟩
theorem Rbs.place (h : Rbs w W kb s g nm t b nx mv gv c bad) (c' : Int) : Rbs w (W.setCell ⟨w.heap.size + 1, 1, none⟩ (.int .i64 c')) kb s g nm t b nx mv gv c' bad :=
  have hf := h.far
  ⟨heap_setCell_far _ h.zero (by omega), h.cur.s1 c', heap_setCell_far _ h.box (by omega), h.far, bsk h.bel (by omega) 1 _⟩
end
theorem ownZ_far {W : World} {B k i : Nat} {v x : Value} {Z : List Z5} (h : OwZ W B v Z) (hk : k < B) : OwZ (W.setCell ⟨k, i, none⟩ x) B v Z :=
  h.grown (wst (wre W (some k)) i x) hk
theorem ownZ_nil (W : World) (B : Nat) : OwZ W B (.slice none 0 0) [] :=
  ⟨⟨rfl, Or.inl ⟨rfl, rfl⟩⟩, (fun z hz => by cases hz), (fun z hz => by cases hz), List.Pairwise.nil⟩
end Go.Proofs.YtocfggfccbnbhaaGreatDoor

