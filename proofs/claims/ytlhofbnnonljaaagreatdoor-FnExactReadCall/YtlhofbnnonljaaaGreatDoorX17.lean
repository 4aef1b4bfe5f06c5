/- Tb4, Tc0, Wa, Wb. -/
import Derived.Test.YtlhofbnnonljaaaGreatDoorX11
import Derived.Test.YtlhofbnnonljaaaGreatDoorX16
namespace Go.Proofs.YtlhofbnnonljaaaGreatDoor
open Go.RowKit Go.ChangeMaps
theorem stR_l (y tm : Int) (S : List X7) (G : List Int) : ∃ x : ByteArray, stR y tm S G = .tuple #[.string x, .bool (sOk y tm S G)] ∧ (sOk y tm S G = true → x = stx y tm S G ++ tail4 (stx y tm S G)) := by
  cases h : sOk y tm S G
  · exact ⟨⟨#[]⟩, by unfold stR; rw [h]; rfl, fun h2 => by cases h2⟩
  · exact ⟨_, by unfold stR; rw [h]; rfl, fun _ => rfl⟩
set_option maxHeartbeats 8000000 in
set_option maxRecDepth 100000 in
theorem specReadStore_any (s : ByteArray) (w : World) (hs : s.size ≤ 1048576) :
    Calls Tryz.prog 26 #[.string s] w fun e w' => RsPost s w e w' := by
  obtain ⟨u, hu⟩ : ∃ u, (uns s).1 = u := ⟨_, rfl⟩
  obtain ⟨ok, hok⟩ : ∃ k, (uns s).2 = k := ⟨_, rfl⟩
  have HSZ : Hid (u.size ≤ 1048576) := hid (by have := uns_size s; rw [hu] at this; omega)
  obtain ⟨W0, hW0⟩ : ∃ W0, w.alloc (.cells #[.int .i64 0, .int .i64 0, .slice none 0 0, .slice none 0 0] 57) = W0 := ⟨_, rfl⟩
  have X0 : Hid (Sx W0 w.heap.size 57 0 0 (.slice none 0 0) (.slice none 0 0)) := by subst hW0; exact Sx.new w _ _ _ _ _
  have B0 : Hid (Below w.heap.size w W0) := by subst hW0; exact bpush (bre _) _
  have CU := specUnsealed_any s W0 hs
  rw [hu, hok] at CU
  have HCU := hid CU
  have HU := hid hu
  have HOKU := hid hok
  clear CU hu hok hs
  go_enter Tryz.func26, Tryz.ntmps26
  go_wp2_with fail
  try rw [hW0]
  clear hW0
  refine HCU.out.mono ?_; rintro e w1 ⟨rfl, hb1⟩
  have X1 := hid (X0.out.later hb1)
  have B1 := hid (btr B0.out hb1)
  have HK0 : Hid (w.heap.size < w1.heap.size) := hid X1.out.lt
  clear hb1 X0 B0 HCU
  go_upto_region 3 with fail
  obtain ⟨bad0, hbad0⟩ : ∃ x, (!ok) = x := ⟨_, rfl⟩
  obtain ⟨kc, hkc⟩ : ∃ k, w1.heap.size = k := ⟨_, rfl⟩
  obtain ⟨W1, hW1⟩ : ∃ W, w1.alloc (.cells #[.string u, .int .i64 0, .bool (!ok)] 47) = W := ⟨_, rfl⟩
  have C1 : Hid (Cg W1 w1.heap.size u 0 (!ok)) := hid (by rw [← hW1]; exact Cg.new w1 u 0 (!ok))
  have Y1 : Hid (Sx W1 w.heap.size 57 0 0 (.slice none 0 0) (.slice none 0 0)) := hid (by rw [← hW1]; exact X1.out.later (bpush (bre _) _))
  have D1 : Hid (Below w.heap.size w W1) := hid (by rw [← hW1]; exact btr B1.out (bpush (bre _) _))
  have HK1 := HK0
  rw [hkc, hbad0] at C1
  rw [hkc] at HK1
  rw [hW1]
  try rw [hkc]
  have K0 : Hid (Rk (if ok = true then some ((), (0 : Int)) else none) () 0 bad0) := hid (by
    rw [← hbad0]
    cases ok
    · exact Or.inr ⟨rfl, rfl⟩
    · exact Or.inl ⟨rfl, rfl⟩)
  clear hW1 hkc hbad0 X1 B1 HK0
  go_wp2_with fail
  refine (l05Var_any _ u 0 bad0 _ HSZ.out C1.out).mono ?_; rintro e w2 ⟨y, c2, bad2, rfl, hc2, hn2, hg2⟩
  have K2 : Hid (Rk (rt1 u (if ok = true then some ((), (0 : Int)) else none)) ((), y) c2 bad2) := K0.out.var hn2
  have hk1 := HK1.out
  have R2 : Hid (Rss w (w2.alloc (.cells #[.int .i64 y, .int .i64 0, .slice none 0 0, .slice none 0 0] 57)) kc w2.heap.size u y 0 (.slice none 0 0) (.slice none 0 0) c2 bad2) :=
    hid ⟨(Y1.out.grown hg2 (by simp; omega)).later (bpush (bre _) _), hc2.later (bpush (bre _) _), Sx.new w2 _ _ _ _ _, HK1.out, hc2.lt, btr (D1.out.trans (below_grownR hg2 (by intro j hj; simp at hj; omega) D1.out.size)) (bpush (bre _) _)⟩
  obtain ⟨ks, hks⟩ : ∃ k, w2.heap.size = k := ⟨_, rfl⟩
  clear hc2 hn2 hg2 Y1 C1 D1 K0
  go_wp2_with fail
  obtain ⟨W2, hW2⟩ : ∃ W, w2.alloc (.cells #[.int .i64 y, .int .i64 0, .slice none 0 0, .slice none 0 0] 57) = W := ⟨_, rfl⟩
  rw [hW2, hks] at R2
  try rw [hW2]
  try rw [hks]
  clear hW2 hks
  refine (l05Var_any _ u c2 bad2 _ HSZ.out R2.out.cur).mono ?_; rintro e w3 ⟨tm, c3, bad3, rfl, hc, hn, hg⟩
  have K3 : Hid (Rk (rt2 u (if ok = true then some ((), (0 : Int)) else none)) (((), y), tm) c3 bad3) := K2.out.var hn
  have R3 := hid (R2.out.read hg hc)
  have d8 := R3.out.box.cells
  have f8 := R3.out.box.loose
  have Q3 := hid (R3.out.put (R3.out.box.s1 tm))
  clear hc hn hg K2 R2
  go_wp2_with fail
  clear d8 f8 R3
  refine (l05Var_any _ u c3 bad3 _ HSZ.out Q3.out.cur).mono ?_; rintro e w6 ⟨n, c6, bad6, rfl, hc, hn, hg⟩
  have K6 : Hid (Rk (rt3 u (if ok = true then some ((), (0 : Int)) else none)) ((((), y), tm), n) c6 bad6) := K3.out.var hn
  have R6 := hid (Q3.out.read hg hc)
  have hnn : 0 ≤ n ∧ n ≤ 1000000000 := by
    rcases hn with ⟨_, _, h⟩ | ⟨_, h, _⟩
    · have := rd_some h; omega
    · omega
  have HBD : Hid (bad6 = true → n = 0) := hid (by
    rcases hn with ⟨_, h, _⟩ | ⟨_, h, _⟩
    · intro h2; rw [h] at h2; cases h2
    · intro _; exact h)
  have HKB : Hid (ks < w6.heap.size) := hid R6.out.box.lt
  clear hc hn hg K3 Q3
  go_wp2
  obtain ⟨mx, hmx⟩ : ∃ m : Nat, (m : Int) = min n 6 := ⟨(min n 6).toNat, by omega⟩
  have HMX : Hid (mx = (min n 6).toNat) := hid (by omega)
  go_loopw [9] (fun iv wr => ∃ (i : Nat) (Y : List Y9) (bv : Value) (c : Int), i ≤ mx ∧ iv = .int .i64 (i : Int) ∧ Hid (Y.length = i) ∧ Rss w wr kc ks u y tm bv (.slice none 0 0) c bad6 ∧ OwS wr w6.heap.size bv Y ∧ Hid (Rbz u c6 bad6 Y c) ∧ Hid (∀ x ∈ Y.map yd, bxx x = true) ∧ Hid (w6.heap.size ≤ wr.heap.size)) (fun iv _ => mx - (intOf iv).toNat)
  case atStart => exact ⟨0, [], .slice none 0 0, c6, Nat.zero_le _, rfl, rfl, R6.out, ownS_nil _ _, Or.inr rfl, (fun x hx => by cases hx), Nat.le_refl _⟩
  case round =>
    obtain ⟨i, Y, bv, c, hi, rfl, HL, hR, hO, HQ, HA, HZ⟩ := hrel
    have XR := hid hR
    have XO := hid hO
    have c7 := hR.cur.cells
    obtain ⟨ba, bcp, hbv⟩ := hO.shape
    subst hbv
    have HZL := hid (show Y.length ≤ 1048576 by rw [HL.out]; omega)
    obtain ⟨zl, hzl⟩ : ∃ n, Y.length = n := ⟨_, rfl⟩
    rw [hzl] at XR XO
    clear hR hO R6
    by_cases hlt : (i : Int) < n
    · by_cases hle : (i : Int) ≤ 5
      · cases bad6
        · go_wp2_with fail
          refine (specReadBox_any u c _ HSZ.out).mono ?_
          rintro e w7 (⟨hrb, rfl, hb7⟩ | ⟨bg, bnm, bt, bb, bnx, bL, bG, c', mv, hv, hrb, hbk, rfl, ho7, hb7⟩)
          · have HNO : Hid (rst s = none) := hid (by
              unfold rst
              rw [HU.out, HOKU.out]
              rcases K6.out with ⟨_, h⟩ | ⟨h, _⟩
              · rw [h]
                simp only [Option.bind_some]
                rcases HQ.out with h2 | h2
                · cases h2
                · have h3 := rbs_dead (rbs_stop h2 hrb) (mx - (i + 1))
                  rw [hzl, show zl = i from hzl.symm.trans HL.out, show i + 1 + (mx - (i + 1)) = mx by omega] at h3
                  rw [← HMX.out, h3]
                  rfl
              · cases h)
            clear c7
            go_upto_region 10 with fail
            obtain ⟨W7, hW7⟩ : ∃ W, w7.alloc (.cells #[.int .i64 0, .string ⟨#[]⟩, .int .i64 0, .int .i64 0, .int .i64 0, .slice none 0 0, .slice none 0 0] 77) = W := ⟨_, rfl⟩
            have R7 : Hid (Rss w W7 kc ks u y tm (.slice ba zl bcp) (.slice none 0 0) c false) := hid (by rw [← hW7]; exact XR.out.later (bpush hb7 _))
            rw [hW7]
            clear hW7 hb7 hrb
            have d4 := R7.out.zero.cells
            have f4 := R7.out.zero.loose
            go_wp2
            have d := (R7.out.zero.put4 0 0 (.slice none 0 0) (.slice none 0 0)).cells
            unfold put4 at d
            exact bodyPost_ret (v := .tuple #[.agg #[.int .i64 0, .int .i64 0, .slice none 0 0, .slice none 0 0], .bool false]) (by simp [results, Tryz.results26, go_sem, d]) rfl (Or.inl ⟨HNO.out, rfl, by have h9 := below_put4 R7.out.bel 0 0 (.slice none 0 0) (.slice none 0 0); unfold put4 at h9; exact h9⟩)
          · obtain ⟨ma, mcp, ha, hcp, rfl, rfl, hms, hgs, _, _⟩ := ho7.owx.reads
            obtain ⟨mn, hmn⟩ : ∃ k, bL.length = k := ⟨_, rfl⟩
            obtain ⟨hn, hhn⟩ : ∃ k, bG.length = k := ⟨_, rfl⟩
            rw [hmn, hhn] at ho7
            rw [hmn, hhn]
            have HRB := hid hrb
            have HBK := hid hbk
            clear c7 hms hgs hmn hhn hrb hbk
            go_upto_region 10 with fail
            obtain ⟨W7, hW7⟩ : ∃ W, w7.alloc (.cells #[.int .i64 bg, .string bnm, .int .i64 bt, .int .i64 bb, .int .i64 bnx, .slice ma mn mcp, .slice ha hn hcp] 77) = W := ⟨_, rfl⟩
            have B7 : Hid (Below wr.heap.size wr W7) := hid (by rw [← hW7]; exact bpush hb7 _)
            have MM : Hid (Bx W7 w7.heap.size 77 bg bnm bt bb bnx (.slice ma mn mcp) (.slice ha hn hcp)) := hid (by rw [← hW7]; exact Bx.new w7 _ _ _ _ _ _ _ _)
            have O7 : Hid (OwX W7 wr.heap.size w7.heap.size (.slice ma mn mcp) (.slice ha hn hcp) bL bG) := hid (by rw [← hW7]; exact ho7.owx.later (bpush (bre _) _))
            obtain ⟨km, hkm⟩ : ∃ k, w7.heap.size = k := ⟨_, rfl⟩
            rw [hkm] at MM O7
            rw [hW7, hkm]
            have R7 := hid (XR.out.later B7.out)
            have Z7 := hid (XO.out.later B7.out)
            clear ho7 hb7 hW7 hkm
            have HMV : Hid (∀ j, (Value.slice ba zl bcp).ownBlock = some j → j < wr.heap.size ∨ km ≤ j) := hid (fun j hj => Or.inl (XO.out.row.lt j hj).2)
            have HEV : Hid (∀ x ∈ Y, x.hi ≤ wr.heap.size ∨ km ≤ x.lo) := hid (fun x hx => Or.inl (XO.out.each x hx).1.top)
            have d8 := R7.out.box.cells
            have dm := MM.out.cells
            have hzz := HZ.out
            have hz7 : w6.heap.size ≤ W7.heap.size := Nat.le_trans hzz B7.out.size
            go_upto_region 13 with (at_builtin; refine wpList_append_bx rfl (.tmp 63) (.tmp 65) rfl w6.heap.size (.slice ba zl bcp) Y (by rfl) ⟨bg, bnm, bt, bb, bnx, .slice ma mn mcp, .slice ha hn hcp, bL, bG, wr.heap.size, km⟩ Z7.out O7.out hzz HMV.out HEV.out (by rfl) HZL.out hz7 ?_; intro v8 w8 hown8 hb8 hg8 hl8; obtain ⟨a8, k8, hv8⟩ := hown8.shape; subst hv8; obtain ⟨n8, hn8⟩ : ∃ n, (Y ++ [(⟨bg, bnm, bt, bb, bnx, .slice ma mn mcp, .slice ha hn hcp, bL, bG, wr.heap.size, km⟩ : Y9)]).length = n := ⟨_, rfl⟩; rw [hn8] at hown8; rw [hn8]; clear hn8; have R8 := R7.out.below hb8 HKB.out; have c9 := R8.box.cells; have f9 := R8.box.loose)
            obtain ⟨mv8, hmv8⟩ : ∃ v, Value.slice a8 n8 k8 = v := ⟨_, rfl⟩
            obtain ⟨W8, hW8⟩ : ∃ W, w8.setCell ⟨ks, 2, none⟩ (.slice a8 n8 k8) = W := ⟨_, rfl⟩
            have hk6 := HKB.out
            have O8 := ownS_far (k := ks) (i := 2) (x := .slice a8 n8 k8) hown8 hk6
            have R8' := R8.put (R8.box.s2 (.slice a8 n8 k8))
            have HS9 : Hid (w6.heap.size ≤ W8.heap.size) := hid (by rw [← hW8]; have := Nat.le_trans hz7 hb8.size; simp [World.setCell]; omega)
            rw [hW8] at O8 R8'
            rw [hmv8] at O8 R8'
            rw [hW8]
            have c10 := R8'.cur.cells
            have f10 := R8'.cur.loose
            have hkf := R8'.far
            have R9 := hid (R8'.place c')
            have O9 := hid (ownS_far (k := kc) (i := 1) (x := .int .i64 c') O8 (by omega))
            clear hW8 hmv8 O8 R8' R8 c9 f9 hown8 hb8 hg8 hl8 d8 dm
            go_wp2
            go_roundw
            case rel => exact ⟨i + 1, Y ++ [⟨bg, bnm, bt, bb, bnx, .slice ma mn mcp, .slice ha hn hcp, bL, bG, wr.heap.size, km⟩], _, c', by omega, by go_num, hid (by show (Y ++ [_]).length = i + 1; rw [List.length_append, HL.out]; rfl), R9.out, O9.out, (by
              rcases HQ.out with h | h
              · cases h
              · refine Or.inr ?_
                have h2 := rbs_next h HRB.out
                rw [List.length_append, List.map_append]
                exact h2), hid (by
              intro x hx
              rw [List.map_append] at hx
              rcases List.mem_append.1 hx with hx | hx
              · exact HA.out x hx
              · simp only [List.map_cons, List.map_nil, List.mem_singleton] at hx
                subst hx
                exact HBK.out), (by show _ ≤ _; have := HS9.out; simp [World.setCell]; omega)⟩
            case measure => simp [intOf]; omega
        · exfalso
          have := HBD.out rfl
          omega
      · have HIX : Hid (zl = mx) := hid (by have h1 := HL.out; have h2 := HMX.out; omega)
        go_wp2_with fail
        refine (l10Ints_any _ u c bad6 20 _ HSZ.out XR.out.cur (by omega)).mono ?_; rintro e w9 ⟨G, gv, c9, bad9, rfl, hoI, hcI, hI, hgI, hgL⟩
        obtain ⟨ga, gcp, hgv, _⟩ := OwI.shape hoI
        subst hgv
        have HI := hid hI
        have HGL := hid hgL
        have hkw : ks < wr.heap.size := XR.out.box.lt
        have hkf := XR.out.far
        have hk6 := HKB.out
        have R9 := hid (XR.out.read hgI hcI)
        have OZ := hid (ownS_far (k := ks) (i := 3) (x := .slice ga G.length gcp) (XO.out.grown hgI (by omega)) hk6)
        have OI : Hid (OwI (w9.setCell ⟨ks, 3, none⟩ (.slice ga G.length gcp)) wr.heap.size (.slice ga G.length gcp) G) := hid (ownI_far hoI (wst (wre w9 (some ks)) 3 _) hkw)
        have d8 := R9.out.box.cells
        have f8 := R9.out.box.loose
        have Q9 := hid (R9.out.put (R9.out.box.s3 (.slice ga G.length gcp)))
        obtain ⟨gn, hgn⟩ : ∃ n, G.length = n := ⟨_, rfl⟩
        have HGN := hid hgn
        rw [hgn] at OI Q9 OZ HGL
        rw [hgn]
        clear hI hoI hcI hgI hkw hkf hk6 R9 c7 hgn hgL
        go_upto_region 15 with fail
        obtain ⟨W9, hW9⟩ : ∃ W, w9.setCell ⟨ks, 3, none⟩ (.slice ga gn gcp) = W := ⟨_, rfl⟩
        rw [hW9] at OZ OI Q9
        rw [hW9]
        clear hW9 d8 f8
        have e8 := Q9.out.box.cells
        have HLZ : Hid ((Y.map yd).length = zl) := hid (by rw [List.length_map]; exact hzl)
        have CS := specStoreText_any _ _ _ _ y tm ba zl bcp ga gn gcp (Y.map yd) G W9 HLZ.out (by have := HIX.out; omega) (sb_right HA.out) (OZ.out.bs).2 HGN.out (by have := HGL.out; omega) (OwI.is OI.out).2
        obtain ⟨x, hx1, hx2⟩ := stR_l y tm (Y.map yd) G
        rw [hx1] at CS
        obtain ⟨q, hq⟩ : ∃ q, sOk y tm (Y.map yd) G = q := ⟨_, rfl⟩
        rw [hq] at CS hx2
        have HCS := hid CS
        have HX2 := hid hx2
        have HQQ := hid hq
        clear CS hx1 hx2 hq
        go_wp2_with fail
        refine HCS.out.mono ?_; rintro e w10 ⟨rfl, hb10⟩
        have Q10 := hid (Q9.out.later hb10)
        have OZ10 := hid (OZ.out.later hb10)
        have OI10 := hid (own_later OI.out hb10)
        clear hb10 e8 HCS
        have c7 := Q10.out.cur.cells
        have e8 := Q10.out.box.cells
        cases bad9
        · have HB6 : Hid (bad6 = false ∧ rints u c 20 = some (G, c9)) := hid (by rcases HI.out with ⟨h1, _, h3⟩ | ⟨h1, _⟩; (exact ⟨h1, h3⟩); cases h1)
          have HRM : Hid (rbs u c6 mx = some (Y.map yd, c)) := hid (by rcases HQ.out with h1 | h1; (rw [HB6.out.1] at h1; cases h1); rw [hzl, HIX.out] at h1; exact h1)
          have HRB : Hid (rst s = if q = true ∧ stx y tm (Y.map yd) G ++ tail4 (stx y tm (Y.map yd) G) = s then some (y, tm, Y.map yd, G) else none) := hid (by
            unfold rst
            rw [HU.out, HOKU.out]
            rcases K6.out with ⟨_, h⟩ | ⟨h, _⟩
            · rw [h]
              simp only [Option.bind_some]
              rw [← HMX.out, HRM.out]
              simp only [Option.bind_some]
              rw [HB6.out.2]
              simp only [Option.bind_some, HQQ.out]
            · rw [HB6.out.1] at h; cases h)
          cases q
          · have HNO : Hid (rst s = none) := hid (HRB.out.trans (if_neg (fun h => by cases h.1)))
            have d4 := Q10.out.zero.cells
            have f4 := Q10.out.zero.loose
            go_wp2
            have d := (Q10.out.zero.put4 0 0 (.slice none 0 0) (.slice none 0 0)).cells
            unfold put4 at d
            exact bodyPost_ret (v := .tuple #[.agg #[.int .i64 0, .int .i64 0, .slice none 0 0, .slice none 0 0], .bool false]) (by simp [results, Tryz.results26, go_sem, d]) rfl (Or.inl ⟨HNO.out, rfl, by have h9 := below_put4 Q10.out.bel 0 0 (.slice none 0 0) (.slice none 0 0); unfold put4 at h9; exact h9⟩)
          · by_cases hxs : x = s
            · have HYES := hid (HRB.out.trans (if_pos ⟨rfl, by rw [← HX2.out rfl]; exact hxs⟩))
              have hxx : (!x.toList == s.toList) = false := by rw [hxs]; simp
              have d4 := Q10.out.zero.cells
              have f4 := Q10.out.zero.loose
              clear hxs
              go_wp2
              have hk6 := HKB.out
              have hkf := XR.out.far
              have hkf0 := XR.out.far0
              have hzz := HZ.out
              have hgr := put4_grown w10 w.heap.size y tm (.slice ba zl bcp) (.slice ga gn gcp)
              have OZE := hid (OZ10.out.grown hgr (by omega))
              have OIE := hid (ownI_far OI10.out hgr (by omega))
              have BE := hid (below_put4 Q10.out.bel y tm (.slice ba zl bcp) (.slice ga gn gcp))
              have d := (Q10.out.zero.put4 y tm (.slice ba zl bcp) (.slice ga gn gcp)).cells
              unfold put4 at OZE OIE BE d
              exact bodyPost_ret (v := .tuple #[.agg #[.int .i64 y, .int .i64 tm, .slice ba zl bcp, .slice ga gn gcp], .bool true]) (by simp [results, Tryz.results26, go_sem, d]) rfl (Or.inr ⟨y, tm, Y.map yd, G, _, _, HYES.out, HQQ.out, rfl, ⟨Y, rfl, OZE.out.base (by omega), own_base OIE.out (by omega), (fun j h1 h2 => by have h3 := (World.ownsRow.lt OI.out j h1).1; have h4 := (XO.out.row.lt j h2).2; omega), fun z hz j h1 => Or.inr (Nat.le_trans (XO.out.each z hz).1.top (World.ownsRow.lt OI.out j h1).1)⟩, BE.out⟩)
            · have HNO : Hid (rst s = none) := hid (HRB.out.trans (if_neg (fun h => hxs (by rw [HX2.out rfl]; exact h.2))))
              have hxx : (!x.toList == s.toList) = true := by rw [bytes_ne hxs]; rfl
              clear hxs
              have d4 := Q10.out.zero.cells
              have f4 := Q10.out.zero.loose
              go_wp2
              have d := (Q10.out.zero.put4 0 0 (.slice none 0 0) (.slice none 0 0)).cells
              unfold put4 at d
              exact bodyPost_ret (v := .tuple #[.agg #[.int .i64 0, .int .i64 0, .slice none 0 0, .slice none 0 0], .bool false]) (by simp [results, Tryz.results26, go_sem, d]) rfl (Or.inl ⟨HNO.out, rfl, by have h9 := below_put4 Q10.out.bel 0 0 (.slice none 0 0) (.slice none 0 0); unfold put4 at h9; exact h9⟩)
        · have HNO : Hid (rst s = none) := hid (by
            unfold rst
            rw [HU.out, HOKU.out]
            rcases K6.out with ⟨h0, h⟩ | ⟨_, h⟩
            · rw [h]
              simp only [Option.bind_some]
              rcases HQ.out with h1 | h1
              · rw [h0] at h1; cases h1
              · rw [hzl, HIX.out] at h1
                rw [← HMX.out, h1]
                simp only [Option.bind_some]
                rcases HI.out with ⟨_, h2, _⟩ | ⟨_, h2⟩
                · cases h2
                · rcases h2 with h2 | h2
                  · rw [h0] at h2; cases h2
                  · rw [h2]; rfl
            · rw [h]; rfl)
          have d4 := Q10.out.zero.cells
          have f4 := Q10.out.zero.loose
          go_wp2
          have d := (Q10.out.zero.put4 0 0 (.slice none 0 0) (.slice none 0 0)).cells
          unfold put4 at d
          exact bodyPost_ret (v := .tuple #[.agg #[.int .i64 0, .int .i64 0, .slice none 0 0, .slice none 0 0], .bool false]) (by simp [results, Tryz.results26, go_sem, d]) rfl (Or.inl ⟨HNO.out, rfl, by have h9 := below_put4 Q10.out.bel 0 0 (.slice none 0 0) (.slice none 0 0); unfold put4 at h9; exact h9⟩)
    · have HIX : Hid (zl = mx) := hid (by have h1 := HL.out; have h2 := HMX.out; omega)
      go_wp2_with fail
      refine (l10Ints_any _ u c bad6 20 _ HSZ.out XR.out.cur (by omega)).mono ?_; rintro e w9 ⟨G, gv, c9, bad9, rfl, hoI, hcI, hI, hgI, hgL⟩
      obtain ⟨ga, gcp, hgv, _⟩ := OwI.shape hoI
      subst hgv
      have HI := hid hI
      have HGL := hid hgL
      have hkw : ks < wr.heap.size := XR.out.box.lt
      have hkf := XR.out.far
      have hk6 := HKB.out
      have R9 := hid (XR.out.read hgI hcI)
      have OZ := hid (ownS_far (k := ks) (i := 3) (x := .slice ga G.length gcp) (XO.out.grown hgI (by omega)) hk6)
      have OI : Hid (OwI (w9.setCell ⟨ks, 3, none⟩ (.slice ga G.length gcp)) wr.heap.size (.slice ga G.length gcp) G) := hid (ownI_far hoI (wst (wre w9 (some ks)) 3 _) hkw)
      have d8 := R9.out.box.cells
      have f8 := R9.out.box.loose
      have Q9 := hid (R9.out.put (R9.out.box.s3 (.slice ga G.length gcp)))
      obtain ⟨gn, hgn⟩ : ∃ n, G.length = n := ⟨_, rfl⟩
      have HGN := hid hgn
      rw [hgn] at OI Q9 OZ HGL
      rw [hgn]
      clear hI hoI hcI hgI hkw hkf hk6 R9 c7 hgn hgL
      go_upto_region 15 with fail
      obtain ⟨W9, hW9⟩ : ∃ W, w9.setCell ⟨ks, 3, none⟩ (.slice ga gn gcp) = W := ⟨_, rfl⟩
      rw [hW9] at OZ OI Q9
      rw [hW9]
      clear hW9 d8 f8
      have e8 := Q9.out.box.cells
      have HLZ : Hid ((Y.map yd).length = zl) := hid (by rw [List.length_map]; exact hzl)
      have CS := specStoreText_any _ _ _ _ y tm ba zl bcp ga gn gcp (Y.map yd) G W9 HLZ.out (by have := HIX.out; omega) (sb_right HA.out) (OZ.out.bs).2 HGN.out (by have := HGL.out; omega) (OwI.is OI.out).2
      obtain ⟨x, hx1, hx2⟩ := stR_l y tm (Y.map yd) G
      rw [hx1] at CS
      obtain ⟨q, hq⟩ : ∃ q, sOk y tm (Y.map yd) G = q := ⟨_, rfl⟩
      rw [hq] at CS hx2
      have HCS := hid CS
      have HX2 := hid hx2
      have HQQ := hid hq
      clear CS hx1 hx2 hq
      go_wp2_with fail
      refine HCS.out.mono ?_; rintro e w10 ⟨rfl, hb10⟩
      have Q10 := hid (Q9.out.later hb10)
      have OZ10 := hid (OZ.out.later hb10)
      have OI10 := hid (own_later OI.out hb10)
      clear hb10 e8 HCS
      have c7 := Q10.out.cur.cells
      have e8 := Q10.out.box.cells
      cases bad9
      · have HB6 : Hid (bad6 = false ∧ rints u c 20 = some (G, c9)) := hid (by rcases HI.out with ⟨h1, _, h3⟩ | ⟨h1, _⟩; (exact ⟨h1, h3⟩); cases h1)
        have HRM : Hid (rbs u c6 mx = some (Y.map yd, c)) := hid (by rcases HQ.out with h1 | h1; (rw [HB6.out.1] at h1; cases h1); rw [hzl, HIX.out] at h1; exact h1)
        have HRB : Hid (rst s = if q = true ∧ stx y tm (Y.map yd) G ++ tail4 (stx y tm (Y.map yd) G) = s then some (y, tm, Y.map yd, G) else none) := hid (by
          unfold rst
          rw [HU.out, HOKU.out]
          rcases K6.out with ⟨_, h⟩ | ⟨h, _⟩
          · rw [h]
            simp only [Option.bind_some]
            rw [← HMX.out, HRM.out]
            simp only [Option.bind_some]
            rw [HB6.out.2]
            simp only [Option.bind_some, HQQ.out]
          · rw [HB6.out.1] at h; cases h)
        cases q
        · have HNO : Hid (rst s = none) := hid (HRB.out.trans (if_neg (fun h => by cases h.1)))
          have d4 := Q10.out.zero.cells
          have f4 := Q10.out.zero.loose
          go_wp2
          have d := (Q10.out.zero.put4 0 0 (.slice none 0 0) (.slice none 0 0)).cells
          unfold put4 at d
          exact bodyPost_ret (v := .tuple #[.agg #[.int .i64 0, .int .i64 0, .slice none 0 0, .slice none 0 0], .bool false]) (by simp [results, Tryz.results26, go_sem, d]) rfl (Or.inl ⟨HNO.out, rfl, by have h9 := below_put4 Q10.out.bel 0 0 (.slice none 0 0) (.slice none 0 0); unfold put4 at h9; exact h9⟩)
        · by_cases hxs : x = s
          · have HYES := hid (HRB.out.trans (if_pos ⟨rfl, by rw [← HX2.out rfl]; exact hxs⟩))
            have hxx : (!x.toList == s.toList) = false := by rw [hxs]; simp
            have d4 := Q10.out.zero.cells
            have f4 := Q10.out.zero.loose
            clear hxs
            go_wp2
            have hk6 := HKB.out
            have hkf := XR.out.far
            have hkf0 := XR.out.far0
            have hzz := HZ.out
            have hgr := put4_grown w10 w.heap.size y tm (.slice ba zl bcp) (.slice ga gn gcp)
            have OZE := hid (OZ10.out.grown hgr (by omega))
            have OIE := hid (ownI_far OI10.out hgr (by omega))
            have BE := hid (below_put4 Q10.out.bel y tm (.slice ba zl bcp) (.slice ga gn gcp))
            have d := (Q10.out.zero.put4 y tm (.slice ba zl bcp) (.slice ga gn gcp)).cells
            unfold put4 at OZE OIE BE d
            exact bodyPost_ret (v := .tuple #[.agg #[.int .i64 y, .int .i64 tm, .slice ba zl bcp, .slice ga gn gcp], .bool true]) (by simp [results, Tryz.results26, go_sem, d]) rfl (Or.inr ⟨y, tm, Y.map yd, G, _, _, HYES.out, HQQ.out, rfl, ⟨Y, rfl, OZE.out.base (by omega), own_base OIE.out (by omega), (fun j h1 h2 => by have h3 := (World.ownsRow.lt OI.out j h1).1; have h4 := (XO.out.row.lt j h2).2; omega), fun z hz j h1 => Or.inr (Nat.le_trans (XO.out.each z hz).1.top (World.ownsRow.lt OI.out j h1).1)⟩, BE.out⟩)
          · have HNO : Hid (rst s = none) := hid (HRB.out.trans (if_neg (fun h => hxs (by rw [HX2.out rfl]; exact h.2))))
            have hxx : (!x.toList == s.toList) = true := by rw [bytes_ne hxs]; rfl
            clear hxs
            have d4 := Q10.out.zero.cells
            have f4 := Q10.out.zero.loose
            go_wp2
            have d := (Q10.out.zero.put4 0 0 (.slice none 0 0) (.slice none 0 0)).cells
            unfold put4 at d
            exact bodyPost_ret (v := .tuple #[.agg #[.int .i64 0, .int .i64 0, .slice none 0 0, .slice none 0 0], .bool false]) (by simp [results, Tryz.results26, go_sem, d]) rfl (Or.inl ⟨HNO.out, rfl, by have h9 := below_put4 Q10.out.bel 0 0 (.slice none 0 0) (.slice none 0 0); unfold put4 at h9; exact h9⟩)
      · have HNO : Hid (rst s = none) := hid (by
          unfold rst
          rw [HU.out, HOKU.out]
          rcases K6.out with ⟨h0, h⟩ | ⟨_, h⟩
          · rw [h]
            simp only [Option.bind_some]
            rcases HQ.out with h1 | h1
            · rw [h0] at h1; cases h1
            · rw [hzl, HIX.out] at h1
              rw [← HMX.out, h1]
              simp only [Option.bind_some]
              rcases HI.out with ⟨_, h2, _⟩ | ⟨_, h2⟩
              · cases h2
              · rcases h2 with h2 | h2
                · rw [h0] at h2; cases h2
                · rw [h2]; rfl
          · rw [h]; rfl)
        have d4 := Q10.out.zero.cells
        have f4 := Q10.out.zero.loose
        go_wp2
        have d := (Q10.out.zero.put4 0 0 (.slice none 0 0) (.slice none 0 0)).cells
        unfold put4 at d
        exact bodyPost_ret (v := .tuple #[.agg #[.int .i64 0, .int .i64 0, .slice none 0 0, .slice none 0 0], .bool false]) (by simp [results, Tryz.results26, go_sem, d]) rfl (Or.inl ⟨HNO.out, rfl, by have h9 := below_put4 Q10.out.bel 0 0 (.slice none 0 0) (.slice none 0 0); unfold put4 at h9; exact h9⟩)
section
variable {s : ByteArray} {a : Int} {X Y : List UInt8}
end
theorem vil_vis (G : List Int) : vil G = bl (vis G) := by
  induction G with
  | nil => rfl
  | cons n G ih =>
    rw [vis, bl_app, bl_vi, ← ih]
    rfl
/-- What is read as a store is a right one, and this is its text. -/
theorem rst_stood {s : ByteArray} {y tm : Int} {S : List X7} {G : List Int} (h : rst s = some (y, tm, S, G)) : sOk y tm S G = true ∧ stx y tm S G ++ tail4 (stx y tm S G) = s := by
  unfold rst at h
  cases h1 : rt3 (uns s).1 (if (uns s).2 = true then some ((), 0) else none) with
  | none => rw [h1] at h; cases h
  | some p =>
    rw [h1] at h
    simp only [Option.bind_some] at h
    cases h2 : rbs (uns s).1 p.2 (min p.1.2 6).toNat with
    | none => rw [h2] at h; cases h
    | some q =>
      rw [h2] at h
      simp only [Option.bind_some] at h
      cases h3 : rints (uns s).1 q.2 20 with
      | none => rw [h3] at h; cases h
      | some r =>
        rw [h3] at h
        simp only [Option.bind_some] at h
        split at h
        · rename_i hh
          simp only [Option.some.injEq, Prod.mk.injEq] at h
          obtain ⟨rfl, rfl, rfl, rfl⟩ := h
          exact hh
        · cases h
theorem vbs_ne (n : Nat) : 0 < (vbs n).length := by
  by_cases h : 127 < n
  · rw [vbs_big n h]; simp
  · rw [vbs_small n h]; simp
theorem rd_lt {s : ByteArray} {a n c : Int} (h : rd s a = some (n, c)) : 0 ≤ a ∧ a < c ∧ c ≤ s.size ∧ 0 ≤ n ∧ n ≤ 1000000000 := by
  obtain ⟨h1, h2, h3, h4, h5⟩ := rd_some h
  have h6 := congrArg List.length (rd_stood h)
  have h7 := vbs_ne n.toNat
  rw [List.length_append, List.length_drop, List.length_drop, bl_len] at h6
  omega
theorem rds_lt {s : ByteArray} {a : Int} : ∀ {k : Nat} {l : List Int} {b : Int}, rds s a k = some (l, b) → a + k ≤ b ∧ (0 < k → 0 ≤ a ∧ b ≤ s.size) := by
  intro k
  induction k with
  | zero =>
    intro l b h
    simp only [rds, Option.some.injEq, Prod.mk.injEq] at h
    omega
  | succ k ih =>
    intro l b h
    rw [rds] at h
    cases hk : rds s a k with
    | none => rw [hk] at h; cases h
    | some p =>
      obtain ⟨l0, b0⟩ := p
      rw [hk] at h
      simp only [Option.bind_some] at h
      cases hr : rd s b0 with
      | none => rw [hr] at h; cases h
      | some q =>
        obtain ⟨n, c⟩ := q
        rw [hr] at h
        simp only [Option.map_some, Option.some.injEq, Prod.mk.injEq] at h
        obtain ⟨h1, h2⟩ := ih hk
        have h3 := rd_lt hr
        refine ⟨by omega, fun _ => ⟨?_, by omega⟩⟩
        cases k with
        | zero =>
          simp only [rds, Option.some.injEq, Prod.mk.injEq] at hk
          omega
        | succ k => exact (h2 (by omega)).1
theorem rsh_lt {s t : ByteArray} {b c : Int} (h : rsh s b = some (t, c)) : 0 ≤ b ∧ b < c ∧ c ≤ s.size := by
  unfold rsh at h
  cases hr : rd s b with
  | none => rw [hr] at h; cases h
  | some p =>
    obtain ⟨n, d⟩ := p
    rw [hr] at h
    simp only [Option.bind_some] at h
    split at h
    · simp only [Option.some.injEq, Prod.mk.injEq] at h
      have h3 := rd_lt hr
      omega
    · cases h
/-- A mail that is read: all its bytes stand there, and where it ends. -/
theorem rm6_end {s : ByteArray} {a g u : Int} {l : List R3} {t : ByteArray} {c : Int} (h : rm6 s a = (g, u, l, t, c, true)) : mlOk g u l t = true ∧ (bl s).drop a.toNat = bl (mtx g u l t) ++ (bl s).drop c.toNat ∧ 0 ≤ a ∧ a < c ∧ c ≤ s.size := by
  have hok := rm6_right h
  unfold rm6 at h
  split at h
  · rename_i g' u' r b hr
    split at h
    · rename_i t' c' ht
      split at h
      · simp only [Prod.mk.injEq, and_true] at h
        obtain ⟨rfl, rfl, rfl, rfl, rfl⟩ := h
        have h1 := rds_stood _ hr
        have h2 := rsh_stood ht
        have h3 := rds_lt hr
        have h4 := rsh_lt ht
        have h5 := rds_long _ hr
        refine ⟨hok, ?_, (h3.2 (by omega)).1, by omega, h4.2.2⟩
        rw [h1, h2.1, mtx_bl, flat_regs _ (by simp only [List.length_cons] at h5; omega)]
        simp only [List.append_assoc]
      · simp [zero6] at h
    · simp [zero6] at h
  · simp [zero6] at h
theorem rms_end {s : ByteArray} {a : Int} : ∀ {k : Nat} {L : List M4} {c : Int}, rms s a k = some (L, c) → (bl s).drop a.toNat = bl (mts L) ++ (bl s).drop c.toNat ∧ a + k ≤ c ∧ (0 < k → 0 ≤ a ∧ c ≤ s.size) := by
  intro k
  induction k with
  | zero =>
    intro L c h
    simp only [rms, Option.some.injEq, Prod.mk.injEq] at h
    obtain ⟨rfl, rfl⟩ := h
    exact ⟨by simp [mts, bl], by omega, fun h => by omega⟩
  | succ k ih =>
    intro L c h
    cases hk : rms s a k with
    | none => rw [show rms s a (k + 1) = (rms s a k).bind _ from rfl, hk] at h; cases h
    | some p =>
      obtain ⟨L0, c0⟩ := p
      obtain ⟨h1, h2, h3⟩ := ih hk
      cases hr : rm6 s c0 with
      | mk g r =>
        obtain ⟨u, l, t, c', q⟩ := r
        cases q
        · rw [rms_stop hk hr] at h; cases h
        · rw [rms_next hk hr] at h
          simp only [Option.some.injEq, Prod.mk.injEq] at h
          obtain ⟨rfl, rfl⟩ := h
          obtain ⟨-, h4, h5, h6, h7⟩ := rm6_end hr
          refine ⟨?_, by omega, fun _ => ⟨?_, h7⟩⟩
          · rw [h1, h4, mts_snoc, bl_app]
            simp only [List.append_assoc]
          · cases k with
            | zero =>
              simp only [rms, Option.some.injEq, Prod.mk.injEq] at hk
              omega
            | succ k => exact (h3 (by omega)).1
/-- Mails and numbers, as many as are told. -/
def ims (s : ByteArray) (b : Int) : Option (List M4 × Int) := (rd s b).bind fun p => rms s p.2 p.1.toNat
def iis (s : ByteArray) (b : Int) : Option (List Int × Int) := (rd s b).bind fun p => rds s p.2 p.1.toNat
/-- A box, as the program reads it. -/
def ibx (s : ByteArray) (a : Int) : Option (X7 × Int) :=
  (rd s a).bind fun p1 => (rsh s p1.2).bind fun p2 => (rg2 s p2.2).bind fun p3 => (rd s p3.2).bind fun p4 => (ims s p4.2).bind fun p5 => (iis s p5.2).bind fun p6 =>
    if bxOk p1.1 p2.1 p3.1.1 p3.1.2 p4.1 p5.1 p6.1 = true then some ((p1.1, p2.1, p3.1.1, p3.1.2, p4.1, p5.1, p6.1), p6.2) else none
theorem rds_cut {s : ByteArray} {a : Int} {m n : Nat} (h : rds s a n = none) (hm : n ≤ m) : rds s a m = none := by
  obtain ⟨j, rfl⟩ : ∃ j, m = n + j := ⟨m - n, by omega⟩
  exact rds_dead h j
theorem rms_cut {s : ByteArray} {a : Int} {m n : Nat} (h : rms s a n = none) (hm : n ≤ m) : rms s a m = none := by
  obtain ⟨j, rfl⟩ : ∃ j, m = n + j := ⟨m - n, by omega⟩
  exact rms_dead h j
/-- Numbers: what is too many is refused either way. -/
theorem ints_either {α : Type} {s : ByteArray} {b mo : Int} {F : List Int × Int → Option α} (hmo : 0 ≤ mo) (hF : ∀ G c, mo < G.length → F (G, c) = none) : (iis s b).bind F = (rints s b mo).bind F := by
  unfold iis rints
  cases hr : rd s b with
  | none => rfl
  | some p =>
    obtain ⟨n, c⟩ := p
    simp only [Option.bind_some]
    by_cases hn : n ≤ mo
    · rw [show min n (mo + 1) = n by omega]
    · have h1 : ((rds s c (min n (mo + 1)).toNat).bind F) = none := by
        cases h2 : rds s c (min n (mo + 1)).toNat with
        | none => rfl
        | some q =>
          obtain ⟨G, d⟩ := q
          have h3 := rds_len h2
          exact hF G d (by omega)
      have h4 : ((rds s c n.toNat).bind F) = none := by
        cases h2 : rds s c n.toNat with
        | none => rfl
        | some q =>
          obtain ⟨G, d⟩ := q
          have h3 := rds_len h2
          exact hF G d (by omega)
      rw [h1, h4]
theorem mails_either {α : Type} {s : ByteArray} {b n : Int} {F : List M4 × Int → Option α} (hF : ∀ L c, 10 < L.length → F (L, c) = none) : (rms s b n.toNat).bind F = (rms s b (min n 11).toNat).bind F := by
  by_cases hn : n ≤ 11
  · rw [show min n 11 = n by omega]
  · have h1 : ((rms s b (min n 11).toNat).bind F) = none := by
      cases h2 : rms s b (min n 11).toNat with
      | none => rfl
      | some q =>
        obtain ⟨L, d⟩ := q
        have h3 := (rms_right h2).1
        exact hF L d (by omega)
    have h4 : ((rms s b n.toNat).bind F) = none := by
      cases h2 : rms s b n.toNat with
      | none => rfl
      | some q =>
        obtain ⟨L, d⟩ := q
        have h3 := (rms_right h2).1
        exact hF L d (by omega)
    rw [h1, h4]
theorem ibx_rbx (s : ByteArray) (a : Int) : ibx s a = rbx s a := by
  unfold ibx rbx rh6 rh5 rh4 rh3 rh2 rh1 rg2
  simp only [Option.bind_some]
  cases h1 : rd s a with
  | none => rfl
  | some p1 =>
  simp only [Option.bind_some, Option.map_some]
  cases h2 : rsh s p1.2 with
  | none => rfl
  | some p2 =>
  simp only [Option.bind_some, Option.map_some]
  cases h3 : rd s p2.2 with
  | none => rfl
  | some p3 =>
  simp only [Option.bind_some, Option.map_some]
  cases h4 : rd s p3.2 with
  | none => rfl
  | some p4 =>
  simp only [Option.bind_some, Option.map_some]
  cases h5 : rd s p4.2 with
  | none => rfl
  | some p5 =>
  simp only [Option.bind_some, Option.map_some]
  unfold ims
  cases h6 : rd s p5.2 with
  | none => rfl
  | some p6 =>
  simp only [Option.bind_some, Option.map_some]
  have hg : ∀ (L : List M4) (c : Int), ((iis s c).bind fun p6 => if bxOk p1.1 p2.1 p3.1 p4.1 p5.1 L p6.1 = true then some ((p1.1, p2.1, p3.1, p4.1, p5.1, L, p6.1), p6.2) else none) = ((rints s c 40).bind fun r => if bxOk p1.1 p2.1 p3.1 p4.1 p5.1 L r.1 = true then some ((p1.1, p2.1, p3.1, p4.1, p5.1, L, r.1), r.2) else none) := fun L c =>
    ints_either (by omega) (fun G d hl => if_neg (fun hb => by
      obtain ⟨-, -, -, -, -, -, h7, -⟩ := bx_txt hb
      exact absurd h7 (by show ¬ G.length ≤ 40; omega)))
  simp only [hg]
  refine mails_either (fun L c hl => ?_)
  simp only []
  cases h8 : rints s c 40 with
  | none => rfl
  | some q =>
    simp only [Option.bind_some]
    exact if_neg (fun hb => by
      obtain ⟨-, -, -, -, h7, -⟩ := bx_txt hb
      exact absurd h7 (by show ¬ L.length ≤ 10; omega))
def Lin1 (w : World) (k : Nat) (s : ByteArray) (b : Int) (e : Ending) (w' : World) : Prop :=
  (∃ G v c, iis s b = some (G, c) ∧ e = .returned v ∧ Dg w' k s c ∧ OwI w' w.heap.size v G ∧ w.grownBy w' (some k)) ∨ (iis s b = none ∧ e = .panicked notHere ∧ w.grownBy w' (some k))
def Lml1 (w : World) (k : Nat) (s : ByteArray) (b : Int) (e : Ending) (w' : World) : Prop :=
  (∃ L Z v c, ims s b = some (L, c) ∧ Z.map md = L ∧ e = .returned v ∧ Dg w' k s c ∧ OwZ w' w.heap.size v Z ∧ w.grownBy w' (some k)) ∨ (ims s b = none ∧ e = .panicked notHere ∧ w.grownBy w' (some k))
theorem iis_no {s : ByteArray} {b : Int} (h : rd s b = none) : iis s b = none := by unfold iis; rw [h]; rfl
theorem ims_no {s : ByteArray} {b : Int} (h : rd s b = none) : ims s b = none := by unfold ims; rw [h]; rfl
theorem iis_is {s : ByteArray} {b n c : Int} (h : rd s b = some (n, c)) : iis s b = rds s c n.toNat := by unfold iis; rw [h]; rfl
theorem ims_is {s : ByteArray} {b n c : Int} (h : rd s b = some (n, c)) : ims s b = rms s c n.toNat := by unfold ims; rw [h]; rfl
theorem rds_step {s : ByteArray} {a : Int} {G : List Int} {b : Int} (h : rds s a G.length = some (G, b)) (hr : rd s b = none) : rds s a (G.length + 1) = none := by
  rw [rds, h]
  simp only [Option.bind_some, hr, Option.map_none]
theorem ownI_nil (W : World) (B : Nat) : OwI W B (.slice none 0 0) [] := ⟨rfl, .inl ⟨rfl, rfl⟩⟩
set_option maxHeartbeats 1600000 in
set_option maxRecDepth 100000 in
theorem lints_any (k : Nat) (s : ByteArray) (b : Int) (w : World) (hs : s.size ≤ 1048576) (hc : Dg w k s b) :
    Calls Tryz.prog 143 #[.pointer (some ⟨k, 0, none⟩), .func (.func 44) #[] #[]] w fun e w' => Lin1 w k s b e w' := by
  have HK := hid hc.lt
  have HC := hid hc
  have HSZ := hid hs
  clear hc hs
  go_enter Tryz.func143, Tryz.ntmps143
  go_wp2_with fail
  refine (numr_any k s b _ HSZ.out HC.out).mono ?_; rintro e w1 (⟨n, b1, hr, rfl, hd, hg⟩ | ⟨hr, rfl, hg⟩)
  case inr =>
    have H := hid (iis_no hr)
    have G := hid hg
    clear hr hg
    go_wp2_with fail
    exact ⟨rfl, Or.inr ⟨H.out, rfl, G.out⟩⟩
  have HR := hid hr
  have HN := hid (rd_lt hr)
  have C1 := hid hd
  have G1 := hid hg
  have hnn : 0 ≤ n ∧ n ≤ 1000000000 := ⟨HN.out.2.2.2.1, HN.out.2.2.2.2⟩
  clear hr hd hg HC
  go_wp2
  obtain ⟨mx, hmx⟩ : ∃ m : Nat, (m : Int) = n := ⟨n.toNat, by omega⟩
  have HMX : Hid (mx = n.toNat) := hid (by omega)
  go_loopw [5, 8] (fun ov iv wr => ∃ (i : Nat) (G : List Int) (b2 : Int), i ≤ mx ∧ iv = .int .i64 (i : Int) ∧ Hid (G.length = i) ∧ OwI wr w.heap.size ov G ∧ Dg wr k s b2 ∧ Hid (rds s b1 G.length = some (G, b2)) ∧ w.grownBy wr (some k)) (fun _ iv _ => mx - (intOf iv).toNat)
  case atStart => exact ⟨0, [], b1, Nat.zero_le _, rfl, rfl, ownI_nil _ _, C1.out, rfl, G1.out⟩
  case round =>
    obtain ⟨i, G, b2, hi, rfl, HL, ho, hc, HQ, hg⟩ := hrel
    have XO := hid ho
    have XC := hid hc
    have XG := hid hg
    clear ho hc hg C1 G1
    by_cases hlt : (i : Int) < n
    · go_wp2_with fail
      refine (numr_any k s b2 _ HSZ.out XC.out).mono ?_; rintro e w3 (⟨x, b3, hr3, rfl, hd3, hg3⟩ | ⟨hr3, rfl, hg3⟩)
      case inr =>
        have H : Hid (iis s b = none) := hid (by
          rw [iis_is HR.out, ← HMX.out]
          exact rds_cut (rds_step HQ.out hr3) (by rw [HL.out]; omega))
        have G := hid (wtr XG.out hg3)
        clear hr3 hg3
        go_wp2_with fail
        exact ⟨rfl, Or.inr ⟨H.out, rfl, G.out⟩⟩
      have H3 := hid hr3
      have C3 := hid hd3
      have G3 := hid (wtr XG.out hg3)
      have hk := HK.out
      have O3 := hid (ownI_far XO.out hg3 hk)
      have hs3 := G3.out.size
      have HLE : Hid (G.length ≤ 9000000) := hid (by have h1 := rds_lt HQ.out; have h2 := HSZ.out; have h3 := HN.out; have h4 := rd_lt hr3; omega)
      clear hr3 hd3 hg3 hk
      go_wp2_with (at_builtin; refine wpList_append_i10 w3 rfl (.tmp 10) (.tmp 14) rfl w.heap.size _ G (by rfl) O3.out x rfl HLE.out hs3 ?_; intro v4 w4 hown4 hb4; have HO4 := hid hown4; have HB4 := hid hb4; clear hown4 hb4)
      go_roundw
      case rel => exact ⟨i + 1, G ++ [x], b3, by omega, by go_num, hid (by show (G ++ [x]).length = i + 1; rw [List.length_append, HL.out]; rfl), HO4.out, (HB4.out.block k HK.out).trans C3.out, hid (rds_some HQ.out H3.out), grown_under G3.out HB4.out (Nat.le_refl _)⟩
      case measure => simp [intOf]; omega
    · have HF : Hid (iis s b = some (G, b2)) := hid (by rw [iis_is HR.out, ← HMX.out, show mx = G.length by rw [HL.out]; omega]; exact HQ.out)
      go_wp2
      go_ret
      exact Or.inl ⟨G, _, b2, HF.out, rfl, XC.out, XO.out, XG.out⟩
set_option maxHeartbeats 3200000 in
set_option maxRecDepth 100000 in
theorem lmails_any (k : Nat) (s : ByteArray) (b : Int) (w : World) (hs : s.size ≤ 1048576) (hc : Dg w k s b) :
    Calls Tryz.prog 177 #[.pointer (some ⟨k, 0, none⟩), .func (.func 178) #[] #[]] w fun e w' => Lml1 w k s b e w' := by
  have HK := hid hc.lt
  have HC := hid hc
  have HSZ := hid hs
  clear hc hs
  go_enter Tryz.func177, Tryz.ntmps177
  go_wp2_with fail
  refine (numr_any k s b _ HSZ.out HC.out).mono ?_; rintro e w1 (⟨n, b1, hr, rfl, hd, hg⟩ | ⟨hr, rfl, hg⟩)
  case inr =>
    have H := hid (ims_no hr)
    have G := hid hg
    clear hr hg
    go_wp2_with fail
    exact ⟨rfl, Or.inr ⟨H.out, rfl, G.out⟩⟩
  have HR := hid hr
  have HN := hid (rd_lt hr)
  have C1 := hid hd
  have G1 := hid hg
  have hnn : 0 ≤ n ∧ n ≤ 1000000000 := ⟨HN.out.2.2.2.1, HN.out.2.2.2.2⟩
  clear hr hd hg HC
  go_wp2
  obtain ⟨mx, hmx⟩ : ∃ m : Nat, (m : Int) = n := ⟨n.toNat, by omega⟩
  have HMX : Hid (mx = n.toNat) := hid (by omega)
  go_loopw [5, 8] (fun ov iv wr => ∃ (i : Nat) (Z : List Z5) (b2 : Int), i ≤ mx ∧ iv = .int .i64 (i : Int) ∧ Hid (Z.length = i) ∧ OwZ wr w.heap.size ov Z ∧ Dg wr k s b2 ∧ Hid (rms s b1 Z.length = some (Z.map md, b2)) ∧ w.grownBy wr (some k)) (fun _ iv _ => mx - (intOf iv).toNat)
  case atStart => exact ⟨0, [], b1, Nat.zero_le _, rfl, rfl, ownZ_nil _ _, C1.out, rfl, G1.out⟩
  case round =>
    obtain ⟨i, Z, b2, hi, rfl, HL, ho, hc, HQ, hg⟩ := hrel
    have XO := hid ho
    have XC := hid hc
    have XG := hid hg
    clear ho hc hg C1 G1
    by_cases hlt : (i : Int) < n
    · go_wp2_with fail
      refine (mail_any k s b2 _ HSZ.out XC.out).mono ?_; rintro e w3 (⟨mg, mu, ml, mt, b3, v, hr3, rfl, hd3, ho3, hg3⟩ | ⟨hr3, rfl, hg3⟩)
      case inr =>
        have H : Hid (ims s b = none) := hid (by
          rw [ims_is HR.out, ← HMX.out]
          exact rms_cut (rms_stop HQ.out hr3) (by rw [HL.out]; omega))
        have G := hid (wtr XG.out hg3)
        clear hr3 hg3
        go_wp2_with fail
        exact ⟨rfl, Or.inr ⟨H.out, rfl, G.out⟩⟩
      have H3 := hid hr3
      have C3 := hid hd3
      have G3 := hid (wtr XG.out hg3)
      have hk := HK.out
      have hs0 := XG.out.size
      have Z3 := hid (XO.out.grown hg3 hk)
      have HMV : Hid (∀ j, u5.ownBlock = some j → j < wr.heap.size) := hid (fun j hj => (XO.out.row.lt j hj).2)
      have HEV : Hid (∀ y ∈ Z, ∀ j, y.2.2.1.ownBlock = some j → j < wr.heap.size) := hid (fun y hy j hj => (World.ownsRow.lt (XO.out.each y hy) j hj).2)
      have HFV : Hid (∀ j, v.ownBlock = some j → wr.heap.size ≤ j) := hid (fun j hj => (World.ownsRow.lt ho3 j hj).1)
      have O3 : Hid (Ow w3 w.heap.size v ml) := hid (own_base ho3 hs0)
      have hs3 := G3.out.size
      have HLE : Hid (Z.length ≤ 1048576) := hid (by have h1 := rms_end HQ.out; have h2 := HSZ.out; have h3 := HN.out; have h4 := rm6_end hr3; omega)
      obtain ⟨fa, fc, hv, _⟩ := Ow.shape ho3
      subst hv
      clear hr3 hd3 hg3 ho3 hk hs0
      go_wp2_with (at_builtin; refine wpList_append_ml rfl (.tmp 10) (.tmp 14) rfl w.heap.size _ Z (by rfl) (mg, mu, .slice fa ml.length fc, ml, mt) Z3.out O3.out (fun j h1 h2 => by have := HMV.out j h1; have := HFV.out j h2; omega) (fun y hy j h1 h2 => by have := HEV.out y hy j h1; have := HFV.out j h2; omega) (by rfl) HLE.out hs3 ?_; intro v4 w4 hown4 hb4 _ _; have HO4 := hid hown4; have HB4 := hid hb4; clear hown4 hb4)
      go_roundw
      case rel => exact ⟨i + 1, Z ++ [(mg, mu, .slice fa ml.length fc, ml, mt)], b3, by omega, by go_num, hid (by show (Z ++ [_]).length = i + 1; rw [List.length_append, HL.out]; rfl), HO4.out, (HB4.out.block k HK.out).trans C3.out, hid (by
        have h2 := rms_next HQ.out H3.out
        rw [List.length_append, List.map_append]
        exact h2), grown_under G3.out HB4.out (Nat.le_refl _)⟩
      case measure => simp [intOf]; omega
    · have HF : Hid (ims s b = some (Z.map md, b2)) := hid (by rw [ims_is HR.out, ← HMX.out, show mx = Z.length by rw [HL.out]; omega]; exact HQ.out)
      go_wp2
      go_ret
      exact Or.inl ⟨Z.map md, Z, _, b2, HF.out, rfl, rfl, XC.out, XO.out, XG.out⟩
end Go.Proofs.YtlhofbnnonljaaaGreatDoor
