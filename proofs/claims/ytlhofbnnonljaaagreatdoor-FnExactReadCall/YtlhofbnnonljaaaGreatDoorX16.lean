/- Tb2, Tb3. -/
import Derived.Test.YtlhofbnnonljaaaGreatDoorX15
namespace Go.Proofs.YtlhofbnnonljaaaGreatDoor
open Go.RowKit Go.ChangeMaps
theorem rm6_right {s : ByteArray} {a g u : Int} {l : List R3} {t : ByteArray} {c : Int} (h : rm6 s a = (g, u, l, t, c, true)) : mlOk g u l t = true := by
  unfold rm6 at h
  split at h
  · split at h
    · split at h
      · rename_i hm
        simp only [Prod.mk.injEq, and_true] at h
        obtain ⟨rfl, rfl, rfl, rfl, rfl⟩ := h
        exact hm
      · simp [zero6] at h
    · simp [zero6] at h
  · simp [zero6] at h
theorem rms_next {s : ByteArray} {a : Int} {k : Nat} {L : List M4} {c g u : Int} {l : List R3} {t : ByteArray} {c' : Int} (h : rms s a k = some (L, c)) (hr : rm6 s c = (g, u, l, t, c', true)) : rms s a (k + 1) = some (L ++ [(g, u, l, t)], c') := by
  show (rms s a k).bind _ = _
  rw [h]
  simp only [Option.bind_some, hr, if_pos]
theorem rms_stop {s : ByteArray} {a : Int} {k : Nat} {L : List M4} {c g u : Int} {l : List R3} {t : ByteArray} {c' : Int} (h : rms s a k = some (L, c)) (hr : rm6 s c = (g, u, l, t, c', false)) : rms s a (k + 1) = none := by
  show (rms s a k).bind _ = _
  rw [h]
  simp only [Option.bind_some, hr]
  rfl
/-- All that was read are right mails. -/
theorem rms_right {s : ByteArray} {a : Int} : ∀ {k : Nat} {L : List M4} {c : Int}, rms s a k = some (L, c) → L.length = k ∧ ∀ m ∈ L, mlOk m.1 m.2.1 m.2.2.1 m.2.2.2 = true := by
  intro k
  induction k with
  | zero =>
    intro L c h
    simp only [rms, Option.some.injEq, Prod.mk.injEq] at h
    obtain ⟨rfl, rfl⟩ := h
    exact ⟨rfl, fun m hm => by cases hm⟩
  | succ k ih =>
    intro L c h
    cases hk : rms s a k with
    | none => rw [show rms s a (k + 1) = (rms s a k).bind _ from rfl, hk] at h; cases h
    | some p =>
      obtain ⟨L0, c0⟩ := p
      obtain ⟨h1, h2⟩ := ih hk
      cases hr : rm6 s c0 with
      | mk g r =>
        obtain ⟨u, l, t, c', q⟩ := r
        cases q
        · rw [rms_stop hk hr] at h; cases h
        · rw [rms_next hk hr] at h
          simp only [Option.some.injEq, Prod.mk.injEq] at h
          obtain ⟨rfl, rfl⟩ := h
          refine ⟨by rw [List.length_append, h1]; rfl, fun m hm => ?_⟩
          rcases List.mem_append.1 hm with hm | hm
          · exact h2 m hm
          · simp only [List.mem_singleton] at hm
            subst hm
            exact rm6_right hr
theorem sm_right {L : List M4} (h : ∀ m ∈ L, mlOk m.1 m.2.1 m.2.2.1 m.2.2.2 = true) : Sm L := by
  intro m hm
  have h1 := h m hm
  simp only [mlOk, flOk, Bool.and_eq_true, decide_eq_true_eq] at h1
  have h2 : m.2.2.1.length = 3 := by simpa using h1.2.2.1.1
  exact ⟨by omega, by omega⟩
theorem rsh_size {s : ByteArray} {a : Int} {t : ByteArray} {c : Int} (h : rsh s a = some (t, c)) : t.size ≤ 1048576 ∨ s.size > 1048576 := by
  unfold rsh at h
  cases hr : rd s a with
  | none => rw [hr] at h; cases h
  | some p =>
    rw [hr] at h
    simp only [Option.bind_some] at h
    split at h
    · simp only [Option.some.injEq, Prod.mk.injEq] at h
      obtain ⟨rfl, _⟩ := h
      left
      rw [ByteArray.size_extract]
      omega
    · cases h
theorem below_set7 {a W : World} (h : Below a.heap.size a W) (g : Int) (nm : ByteArray) (t b nx : Int) (mv gv : Value) : Below a.heap.size a (set7 W a.heap.size g nm t b nx mv gv) := by
  unfold set7
  exact bsk (bsk (bsk (bsk (bsk (bsk (bsk h (Nat.le_refl _) _ _) (Nat.le_refl _) _ _) (Nat.le_refl _) _ _) (Nat.le_refl _) _ _) (Nat.le_refl _) _ _) (Nat.le_refl _) _ _) (Nat.le_refl _) _ _
theorem rds_len {s : ByteArray} {a : Int} : ∀ {k : Nat} {G : List Int} {c : Int}, rds s a k = some (G, c) → G.length = k := by
  intro k
  induction k with
  | zero =>
    intro G c h
    simp only [rds, Option.some.injEq, Prod.mk.injEq] at h
    rw [← h.1]
    rfl
  | succ k ih =>
    intro G c h
    rw [rds] at h
    cases hk : rds s a k with
    | none => rw [hk] at h; cases h
    | some p =>
      rw [hk] at h
      simp only [Option.bind_some] at h
      cases hr : rd s p.2 with
      | none => rw [hr] at h; cases h
      | some q =>
        rw [hr] at h
        simp only [Option.map_some, Option.some.injEq, Prod.mk.injEq] at h
        rw [← h.1, List.length_append, ih (G := p.1) (c := p.2) hk]
        rfl
theorem rints_len {s : ByteArray} {a mo : Int} {G : List Int} {c : Int} (h : rints s a mo = some (G, c)) : G.length ≤ (mo + 1).toNat := by
  unfold rints at h
  cases hr : rd s a with
  | none => rw [hr] at h; cases h
  | some p =>
    rw [hr] at h
    simp only [Option.bind_some] at h
    have := rds_len h
    omega
/-- What was read of mails: nothing counts where it went bad ahead. -/
def Rmz (s : ByteArray) (a : Int) (bad : Bool) (Z : List Z5) (c : Int) : Prop := bad = true ∨ rms s a Z.length = some (Z.map md, c)
set_option maxHeartbeats 8000000 in
set_option maxRecDepth 100000 in
theorem specReadBox_any (s : ByteArray) (a : Int) (w : World) (hs : s.size ≤ 1048576) :
    Calls Tryz.prog 48 #[.string s, .int .i64 a] w fun e w' => RbPost s a w e w' := by
  have HSZ := hid hs
  clear hs
  obtain ⟨W0, hW0⟩ : ∃ W0, (w.alloc (.cells #[.int .i64 0, .string ⟨#[]⟩, .int .i64 0, .int .i64 0, .int .i64 0, .slice none 0 0, .slice none 0 0] 77)).alloc (.cells #[.string s, .int .i64 a, .bool false] 47) = W0 := ⟨_, rfl⟩
  have X0 : Hid (Bx W0 w.heap.size 77 0 ⟨#[]⟩ 0 0 0 (.slice none 0 0) (.slice none 0 0)) := by subst hW0; exact (Bx.new w _ _ _ _ _ _ _ _).later (bpush (bre _) _)
  have C0 : Hid (Cg W0 (w.heap.size + 1) s a false) := by subst hW0; show Cg _ _ _ _ _; simpa using Cg.new (w.alloc (.cells #[.int .i64 0, .string ⟨#[]⟩, .int .i64 0, .int .i64 0, .int .i64 0, .slice none 0 0, .slice none 0 0] 77)) s a false
  have B0 : Hid (Below w.heap.size w W0) := by subst hW0; exact bpush (bpush (bre _) _) _
  go_enter Tryz.func48, Tryz.ntmps48
  go_wp2_with fail
  try rw [hW0]
  clear hW0
  refine (l05Var_any _ s a false _ HSZ.out C0.out).mono ?_; rintro e w1 ⟨g, c1, bad1, rfl, hc1, hn1, hg1⟩
  have K1 : Hid (Rk (rh1 s a) ((), g) c1 bad1) := (Rk.start a).var hn1
  have R1 : Hid (Rbs w (w1.alloc (.cells #[.int .i64 g, .string ⟨#[]⟩, .int .i64 0, .int .i64 0, .int .i64 0, .slice none 0 0, .slice none 0 0] 77)) w1.heap.size s g ⟨#[]⟩ 0 0 0 (.slice none 0 0) (.slice none 0 0) c1 bad1) :=
    hid ⟨(X0.out.grown hg1 (by simp)).later (bpush (bre _) _), hc1.later (bpush (bre _) _), Bx.new w1 _ _ _ _ _ _ _ _, hc1.lt, btr (B0.out.trans (below_grownR hg1 (by intro j hj; simp at hj; omega) B0.out.size)) (bpush (bre _) _)⟩
  obtain ⟨kb, hkb⟩ : ∃ k, w1.heap.size = k := ⟨_, rfl⟩
  clear hc1 hn1 hg1 X0 C0 B0
  go_wp2_with fail
  obtain ⟨W1, hW1⟩ : ∃ W, w1.alloc (.cells #[.int .i64 g, .string ⟨#[]⟩, .int .i64 0, .int .i64 0, .int .i64 0, .slice none 0 0, .slice none 0 0] 77) = W := ⟨_, rfl⟩
  rw [hW1, hkb] at R1
  try rw [hW1]
  try rw [hkb]
  clear hW1 hkb
  refine (l05Short_any _ s c1 bad1 _ HSZ.out R1.out.cur).mono ?_; rintro e w2 ⟨nm, c2, bad2, rfl, hc2, hn2, hg2⟩
  have K2 : Hid (Rk (rh2 s a) (((), g), nm) c2 bad2) := K1.out.short hn2
  have HNM : Hid (nm.size ≤ 1048576) := hid (by
    rcases hn2 with ⟨_, _, h⟩ | ⟨_, h, _⟩
    · have := rsh_size h; have := HSZ.out; omega
    · rw [h]; decide)
  have R2 := hid (R1.out.read hg2 hc2)
  have d8 := R2.out.box.cells
  have f8 := R2.out.box.loose
  have Q2 := hid (R2.out.put (R2.out.box.s1 nm))
  clear hc2 hn2 hg2 R1 K1
  go_wp2_with fail
  clear d8 f8 R2
  refine (l05Var_any _ s c2 bad2 _ HSZ.out Q2.out.cur).mono ?_; rintro e w3 ⟨t, c3, bad3, rfl, hc, hn, hg⟩
  have K3 : Hid (Rk (rh3 s a) ((((), g), nm), t) c3 bad3) := K2.out.var hn
  have R3 := hid (Q2.out.read hg hc)
  have d8 := R3.out.box.cells
  have f8 := R3.out.box.loose
  have Q3 := hid (R3.out.put (R3.out.box.s2 t))
  clear hc hn hg K2 Q2
  go_wp2_with fail
  clear d8 f8 R3
  refine (l05Var_any _ s c3 bad3 _ HSZ.out Q3.out.cur).mono ?_; rintro e w4 ⟨b, c4, bad4, rfl, hc, hn, hg⟩
  have K4 : Hid (Rk (rh4 s a) (((((), g), nm), t), b) c4 bad4) := K3.out.var hn
  have R4 := hid (Q3.out.read hg hc)
  have d8 := R4.out.box.cells
  have f8 := R4.out.box.loose
  have Q4 := hid (R4.out.put (R4.out.box.s3 b))
  clear hc hn hg K3 Q3
  go_wp2_with fail
  clear d8 f8 R4
  refine (l05Var_any _ s c4 bad4 _ HSZ.out Q4.out.cur).mono ?_; rintro e w5 ⟨nx, c5, bad5, rfl, hc, hn, hg⟩
  have K5 : Hid (Rk (rh5 s a) ((((((), g), nm), t), b), nx) c5 bad5) := K4.out.var hn
  have R5 := hid (Q4.out.read hg hc)
  have d8 := R5.out.box.cells
  have f8 := R5.out.box.loose
  have Q5 := hid (R5.out.put (R5.out.box.s4 nx))
  clear hc hn hg K4 Q4
  go_wp2_with fail
  clear d8 f8 R5
  refine (l05Var_any _ s c5 bad5 _ HSZ.out Q5.out.cur).mono ?_; rintro e w6 ⟨n, c6, bad6, rfl, hc, hn, hg⟩
  have K6 : Hid (Rk (rh6 s a) (((((((), g), nm), t), b), nx), n) c6 bad6) := K5.out.var hn
  have R6 := hid (Q5.out.read hg hc)
  have hnn : 0 ≤ n ∧ n ≤ 1000000000 := by
    rcases hn with ⟨_, _, h⟩ | ⟨_, h, _⟩
    · have := rd_some h; omega
    · omega
  have HBD : Hid (bad6 = true → n = 0) := hid (by
    rcases hn with ⟨_, h, _⟩ | ⟨_, h, _⟩
    · intro h2; rw [h] at h2; cases h2
    · intro _; exact h)
  have HKB : Hid (kb < w6.heap.size) := hid R6.out.box.lt
  clear hc hn hg K5 Q5
  go_wp2
  obtain ⟨mx, hmx⟩ : ∃ m : Nat, (m : Int) = min n 11 := ⟨(min n 11).toNat, by omega⟩
  have HMX : Hid (mx = (min n 11).toNat) := hid (by omega)
  go_loopw [10] (fun iv wr => ∃ (i : Nat) (Z : List Z5) (mv : Value) (c : Int), i ≤ mx ∧ iv = .int .i64 (i : Int) ∧ Hid (Z.length = i) ∧ Rbs w wr kb s g nm t b nx mv (.slice none 0 0) c bad6 ∧ OwZ wr w6.heap.size mv Z ∧ Hid (Rmz s c6 bad6 Z c) ∧ Hid (w6.heap.size ≤ wr.heap.size)) (fun iv _ => mx - (intOf iv).toNat)
  case atStart => exact ⟨0, [], .slice none 0 0, c6, Nat.zero_le _, rfl, rfl, R6.out, ownZ_nil _ _, Or.inr rfl, Nat.le_refl _⟩
  case round =>
    obtain ⟨i, Z, mv, c, hi, rfl, HL, hR, hO, HQ, HZ⟩ := hrel
    have XR := hid hR
    have XO := hid hO
    have c7 := hR.cur.cells
    obtain ⟨ma, mcp, hmv⟩ := hO.shape
    subst hmv
    have HZL := hid (show Z.length ≤ 1048576 by rw [HL.out]; omega)
    obtain ⟨zl, hzl⟩ : ∃ n, Z.length = n := ⟨_, rfl⟩
    rw [hzl] at XR XO
    clear hR hO R6
    by_cases hlt : (i : Int) < n
    · by_cases hle : (i : Int) ≤ 10
      · cases bad6
        · go_wp2_with fail
          refine (specReadMail_any s c _ HSZ.out).mono ?_; rintro e w7 ⟨mg, mu, ml, mt, mc, mq, v, hrm, rfl, ho7, hb7⟩
          obtain ⟨fa, fc, hv, _⟩ := ho7.shape
          subst hv
          have HRM := hid hrm
          clear c7
          go_upto_region 12 with fail
          obtain ⟨W7, hW7⟩ : ∃ W, w7.alloc (.cells #[.int .i64 mg, .int .i64 mu, .slice fa ml.length fc, .string mt] 103) = W := ⟨_, rfl⟩
          have B7 : Hid (Below wr.heap.size wr W7) := hid (by rw [← hW7]; exact bpush hb7 _)
          have MM : Hid (Mg W7 w7.heap.size 103 mg mu (.slice fa ml.length fc) mt) := hid (by rw [← hW7]; exact Mg.new w7 _ _ _ _ _)
          have O7 : Hid (Ow W7 wr.heap.size (.slice fa ml.length fc) ml) := hid (by rw [← hW7]; exact own_later ho7 (bpush (bre _) _))
          obtain ⟨km, hkm⟩ : ∃ k, w7.heap.size = k := ⟨_, rfl⟩
          rw [hkm] at MM
          rw [hW7, hkm]
          have R7 := hid (XR.out.later B7.out)
          have Z7 := hid (XO.out.later B7.out)
          clear hrm ho7 hb7 hW7 hkm
          cases mq
          · have HNO : Hid (rbx s a = none) := hid (by
              unfold rbx
              rcases K6.out with ⟨_, h⟩ | ⟨h, _⟩
              · rw [h]
                simp only [Option.bind_some]
                rcases HQ.out with h2 | h2
                · cases h2
                · have h3 := rms_dead (rms_stop h2 HRM.out) (mx - (i + 1))
                  rw [hzl, show zl = i from hzl.symm.trans HL.out, show i + 1 + (mx - (i + 1)) = mx by omega] at h3
                  rw [← HMX.out, h3]
                  rfl
              · cases h)
            have d4 := R7.out.zero.cells
            have f4 := R7.out.zero.loose
            go_wp2
            have d := (R7.out.zero.set7 0 ⟨#[]⟩ 0 0 0 (.slice none 0 0) (.slice none 0 0)).cells
            unfold set7 at d
            exact bodyPost_ret (v := .tuple #[.agg #[.int .i64 0, .string ⟨#[]⟩, .int .i64 0, .int .i64 0, .int .i64 0, .slice none 0 0, .slice none 0 0], .int .i64 0, .bool false]) (by simp [results, Tryz.results48, go_sem, d]) rfl (Or.inl ⟨HNO.out, rfl, by have h9 := below_set7 R7.out.bel 0 ⟨#[]⟩ 0 0 0 (.slice none 0 0) (.slice none 0 0); unfold set7 at h9; exact h9⟩)
          · have HMV : Hid (∀ j, (Value.slice ma zl mcp).ownBlock = some j → j < wr.heap.size) := hid (fun j hj => (XO.out.row.lt j hj).2)
            have HFV : Hid (∀ j, (Value.slice fa ml.length fc).ownBlock = some j → wr.heap.size ≤ j) := hid (fun j hj => (World.ownsRow.lt O7.out j hj).1)
            have HEV : Hid (∀ y ∈ Z, ∀ j, y.2.2.1.ownBlock = some j → j < wr.heap.size) := hid (fun y hy j hj => (World.ownsRow.lt (XO.out.each y hy) j hj).2)
            have d8 := R7.out.box.cells
            have dm := MM.out.cells
            have hzz := HZ.out
            have hz7 : w6.heap.size ≤ W7.heap.size := Nat.le_trans hzz B7.out.size
            go_upto_region 15 with (at_builtin; refine wpList_append_ml rfl (.tmp 67) (.tmp 69) rfl w6.heap.size (.slice ma zl mcp) Z (by rfl) (mg, mu, .slice fa ml.length fc, ml, mt) Z7.out (own_base O7.out hzz) (fun j h1 h2 => by have := HMV.out j h1; have := HFV.out j h2; omega) (fun y hy j h1 h2 => by have := HEV.out y hy j h1; have := HFV.out j h2; omega) (by rfl) HZL.out hz7 ?_; intro v8 w8 hown8 hb8 hg8 hl8; obtain ⟨a8, k8, hv8⟩ := hown8.shape; subst hv8; obtain ⟨n8, hn8⟩ : ∃ n, (Z ++ [(mg, mu, Value.slice fa ml.length fc, ml, mt)]).length = n := ⟨_, rfl⟩; rw [hn8] at hown8; rw [hn8]; clear hn8; have R8 := R7.out.below hb8 HKB.out; have c9 := R8.box.cells; have f9 := R8.box.loose)
            obtain ⟨mv8, hmv8⟩ : ∃ v, Value.slice a8 n8 k8 = v := ⟨_, rfl⟩
            obtain ⟨W8, hW8⟩ : ∃ W, w8.setCell ⟨kb, 5, none⟩ (.slice a8 n8 k8) = W := ⟨_, rfl⟩
            have hk6 := HKB.out
            have O8 := ownZ_far (k := kb) (i := 5) (x := .slice a8 n8 k8) hown8 hk6
            have R8' := R8.put (R8.box.s5 (.slice a8 n8 k8))
            have HS9 : Hid (w6.heap.size ≤ W8.heap.size) := hid (by rw [← hW8]; have := Nat.le_trans hz7 hb8.size; simp [World.setCell]; omega)
            rw [hW8] at O8 R8'
            rw [hmv8] at O8 R8'
            rw [hW8]
            have c10 := R8'.cur.cells
            have f10 := R8'.cur.loose
            have hkf := R8'.far
            have R9 := hid (R8'.place mc)
            have O9 := hid (ownZ_far (k := w.heap.size + 1) (i := 1) (x := .int .i64 mc) O8 (by omega))
            clear hW8 hmv8 O8 R8' R8 c9 f9 hown8 hb8 hg8 hl8 d8 dm
            go_wp2
            go_roundw
            case rel => exact ⟨i + 1, Z ++ [(mg, mu, .slice fa ml.length fc, ml, mt)], _, mc, by omega, by go_num, hid (by show (Z ++ [_]).length = i + 1; rw [List.length_append, HL.out]; rfl), R9.out, O9.out, (by
              rcases HQ.out with h | h
              · cases h
              · refine Or.inr ?_
                have h2 := rms_next h HRM.out
                rw [List.length_append, List.map_append]
                exact h2), (by show _ ≤ _; have := HS9.out; simp [World.setCell]; omega)⟩
            case measure => simp [intOf]; omega
        · exfalso
          have := HBD.out rfl
          omega
      · have HIX : Hid (zl = mx) := hid (by have h1 := HL.out; have h2 := HMX.out; omega)
        go_wp2_with fail
        refine (l10Ints_any _ s c bad6 40 _ HSZ.out XR.out.cur (by omega)).mono ?_; rintro e w9 ⟨G, gv, c9, bad9, rfl, hoI, hcI, hI, hgI, _⟩
        obtain ⟨ga, gcp, hgv, _⟩ := OwI.shape hoI
        subst hgv
        have HI := hid hI
        have hkw : kb < wr.heap.size := XR.out.box.lt
        have hkf := XR.out.far
        have hk6 := HKB.out
        have R9 := hid (XR.out.read hgI hcI)
        have OZ := hid (ownZ_far (k := kb) (i := 6) (x := .slice ga G.length gcp) (XO.out.grown hgI (by omega)) hk6)
        have OI : Hid (OwI (w9.setCell ⟨kb, 6, none⟩ (.slice ga G.length gcp)) wr.heap.size (.slice ga G.length gcp) G) := hid (ownI_far hoI (wst (wre w9 (some kb)) 6 _) hkw)
        have d8 := R9.out.box.cells
        have f8 := R9.out.box.loose
        have Q9 := hid (R9.out.put (R9.out.box.s6 (.slice ga G.length gcp)))
        obtain ⟨W9, hW9⟩ : ∃ W, w9.setCell ⟨kb, 6, none⟩ (.slice ga G.length gcp) = W := ⟨_, rfl⟩
        rw [hW9] at OZ OI Q9
        obtain ⟨gn, hgn⟩ : ∃ n, G.length = n := ⟨_, rfl⟩
        have HGN := hid hgn
        rw [hgn] at OI Q9 hW9
        have HLZ : Hid ((Z.map md).length = zl) := hid (by rw [List.length_map]; exact hzl)
        clear hI hoI hcI hgI hkw hkf hk6 R9 c7
        rw [hgn]
        clear hgn
        have c7 := Q9.out.cur.cells
        have e8 := Q9.out.box.cells
        cases bad9
        · have HB6 : Hid (bad6 = false ∧ rints s c 40 = some (G, c9)) := hid (by rcases HI.out with ⟨h1, _, h3⟩ | ⟨h1, _⟩; (exact ⟨h1, h3⟩); cases h1)
          have HRM : Hid (rms s c6 mx = some (Z.map md, c)) := hid (by rcases HQ.out with h1 | h1; (rw [HB6.out.1] at h1; cases h1); rw [hzl, HIX.out] at h1; exact h1)
          have HGL : Hid (gn ≤ 1048576) := hid (by have h1 := rints_len HB6.out.2; rw [HGN.out] at h1; omega)
          have HSM := hid (sm_right (rms_right HRM.out).2)
          obtain ⟨q, hq⟩ : ∃ q, bxOk g nm t b nx (Z.map md) G = q := ⟨_, rfl⟩
          have CB := specBoxOk_any _ _ _ _ g nm t b nx ma zl mcp ga gn gcp (Z.map md) G W9 HNM.out HLZ.out (by have := HIX.out; omega) HSM.out (OZ.out.ms).2 HGN.out HGL.out (OwI.is OI.out).2
          rw [hq] at CB
          have HCB := hid CB
          have HRB : Hid (rbx s a = if q = true then some ((g, nm, t, b, nx, Z.map md, G), c9) else none) := hid (by
            unfold rbx
            rcases K6.out with ⟨_, h⟩ | ⟨h, _⟩
            · rw [h]
              simp only [Option.bind_some]
              rw [← HMX.out, HRM.out]
              simp only [Option.bind_some]
              rw [HB6.out.2]
              simp only [Option.bind_some, hq]
            · rw [HB6.out.1] at h; cases h)
          have HQQ := hid hq
          clear CB hq
          go_wp2_with fail
          try rw [hW9]
          clear hW9 d8 f8
          refine HCB.out.mono ?_; rintro e w10 ⟨rfl, hb10⟩
          have Q10 := hid (Q9.out.later hb10)
          have OZ10 := hid (OZ.out.later hb10)
          have OI10 := hid (own_later OI.out hb10)
          clear hb10 c7 e8 HCB
          have c7 := Q10.out.cur.cells
          have e8 := Q10.out.box.cells
          cases q
          · have HNO : Hid (rbx s a = none) := hid (HRB.out.trans (if_neg (by decide)))
            have d4 := Q10.out.zero.cells
            have f4 := Q10.out.zero.loose
            go_wp2
            have d := (Q10.out.zero.set7 0 ⟨#[]⟩ 0 0 0 (.slice none 0 0) (.slice none 0 0)).cells
            unfold set7 at d
            exact bodyPost_ret (v := .tuple #[.agg #[.int .i64 0, .string ⟨#[]⟩, .int .i64 0, .int .i64 0, .int .i64 0, .slice none 0 0, .slice none 0 0], .int .i64 0, .bool false]) (by simp [results, Tryz.results48, go_sem, d]) rfl (Or.inl ⟨HNO.out, rfl, by have h9 := below_set7 Q10.out.bel 0 ⟨#[]⟩ 0 0 0 (.slice none 0 0) (.slice none 0 0); unfold set7 at h9; exact h9⟩)
          · have HYES := hid (HRB.out.trans (if_pos rfl))
            clear c7 e8
            go_wp2_with fail
            refine wp_region_noPanic ?_
            refine wp_region_held_drew (S := (fun W => (W.cell? ⟨kb, 0, none⟩ = some (.int .i64 g) ∧ W.cell? ⟨kb, 1, none⟩ = some (.string nm) ∧ W.cell? ⟨kb, 2, none⟩ = some (.int .i64 t) ∧ W.cell? ⟨kb, 3, none⟩ = some (.int .i64 b) ∧ W.cell? ⟨kb, 4, none⟩ = some (.int .i64 nx) ∧ W.cell? ⟨kb, 5, none⟩ = some (.slice ma zl mcp) ∧ W.cell? ⟨kb, 6, none⟩ = some (.slice ga gn gcp)) ∧ W.cell? ⟨w.heap.size + 1, 0, none⟩ = some (.string s) ∧ W.cell? ⟨w.heap.size + 1, 1, none⟩ = some (.int .i64 c9) ∧ W.cell? ⟨w.heap.size + 1, 2, none⟩ = some (.bool false))) (by kernel_rfl) ⟨(Q10.out.later (bdr (bre _))).box.cells, (Q10.out.later (bdr (bre _))).cur.cells⟩ (fun hHeld => ?_)
            have QD := hid (Q10.out.later (bdr (bre w10)))
            have OZD := hid (OZ10.out.later (bdr (bre w10)))
            have OID := hid (own_later OI10.out (bdr (bre w10)))
            obtain ⟨WD, hWD⟩ : ∃ W, w10.drew = W := ⟨_, rfl⟩
            rw [hWD] at QD OZD OID hHeld
            rw [hWD]
            clear hWD
            refine tk 0 ?_
            refine tk 1 ?_
            refine tk 2 ?_
            refine tk 3 ?_
            refine tk 4 ?_
            clear hHeld
            have d4 := QD.out.zero.cells
            have f4 := QD.out.zero.loose
            refine ry 5 (fun K hK => ?_)
            go_simp
            have hk6 := HKB.out
            have hkf := XR.out.far
            have hzz := HZ.out
            have hgr := set7_grown WD w.heap.size g nm t b nx (.slice ma zl mcp) (.slice ga gn gcp)
            have hsc := (QD.out.box.grown hgr (by simp; omega)).cells
            have hcc : Cg (set7 WD w.heap.size g nm t b nx (.slice ma zl mcp) (.slice ga gn gcp)) (w.heap.size + 1) s c9 false := (hgr.block _ QD.out.cur.lt (by simp)).trans QD.out.cur
            have hcd := hcc.cells
            have OZE := hid (OZD.out.grown hgr (by omega))
            have OIE := hid (ownI_far OID.out hgr (by omega))
            have BE := hid (below_set7 QD.out.bel g nm t b nx (.slice ma zl mcp) (.slice ga gn gcp))
            have d := (QD.out.zero.set7 g nm t b nx (.slice ma zl mcp) (.slice ga gn gcp)).cells
            unfold set7 at hsc hcd OZE OIE BE d
            refine hK.out _ _ ⟨hsc, hcd⟩ (fun hHeld => ?_)
            clear hK K d4 f4
            try simp only [Act.put, List.setIfInBounds_toArray, List.set_cons_zero, List.set_cons_succ]
            refine tk 6 ?_
            refine tk 7 ?_
            refine wpAnyH_done (by kernel_rfl) ?_ _
            refine NoPanic.normal ?_
            clear hHeld hsc hcd hcc hgr
            go_wp2
            exact bodyPost_ret (v := .tuple #[.agg #[.int .i64 g, .string nm, .int .i64 t, .int .i64 b, .int .i64 nx, .slice ma zl mcp, .slice ga gn gcp], .int .i64 c9, .bool true]) (by simp [results, Tryz.results48, go_sem, d]) rfl (Or.inr ⟨g, nm, t, b, nx, Z.map md, G, c9, _, _, HYES.out, HQQ.out, rfl, ⟨Z, rfl, OZE.out.base (by omega), own_base OIE.out (by omega), (fun j h1 h2 => by have h3 := (World.ownsRow.lt OI.out j h1).1; have h4 := (XO.out.row.lt j h2).2; omega), fun z hz j h1 h2 => by have h3 := (World.ownsRow.lt OI.out j h1).1; have h4 := (World.ownsRow.lt (XO.out.each z hz) j h2).2; omega⟩, BE.out⟩)
        · have HNO : Hid (rbx s a = none) := hid (by
            unfold rbx
            rcases K6.out with ⟨h0, h⟩ | ⟨_, h⟩
            · rw [h]
              simp only [Option.bind_some]
              rcases HQ.out with h1 | h1
              · rw [h0] at h1; cases h1
              · rw [hzl, HIX.out] at h1
                rw [← HMX.out, h1]
                simp only [Option.bind_some]
                rcases HI.out with ⟨_, h2, _⟩ | ⟨_, h2⟩
                · cases h2
                · rcases h2 with h2 | h2
                  · rw [h0] at h2; cases h2
                  · rw [h2]; rfl
            · rw [h]; rfl)
          have d4 := Q9.out.zero.cells
          have f4 := Q9.out.zero.loose
          go_wp2
          have d := (Q9.out.zero.set7 0 ⟨#[]⟩ 0 0 0 (.slice none 0 0) (.slice none 0 0)).cells
          unfold set7 at d
          exact bodyPost_ret (v := .tuple #[.agg #[.int .i64 0, .string ⟨#[]⟩, .int .i64 0, .int .i64 0, .int .i64 0, .slice none 0 0, .slice none 0 0], .int .i64 0, .bool false]) (by simp [results, Tryz.results48, go_sem, d]) rfl (Or.inl ⟨HNO.out, rfl, by have h9 := below_set7 Q9.out.bel 0 ⟨#[]⟩ 0 0 0 (.slice none 0 0) (.slice none 0 0); unfold set7 at h9; exact h9⟩)
    · have HIX : Hid (zl = mx) := hid (by have h1 := HL.out; have h2 := HMX.out; omega)
      go_wp2_with fail
      refine (l10Ints_any _ s c bad6 40 _ HSZ.out XR.out.cur (by omega)).mono ?_; rintro e w9 ⟨G, gv, c9, bad9, rfl, hoI, hcI, hI, hgI, _⟩
      obtain ⟨ga, gcp, hgv, _⟩ := OwI.shape hoI
      subst hgv
      have HI := hid hI
      have hkw : kb < wr.heap.size := XR.out.box.lt
      have hkf := XR.out.far
      have hk6 := HKB.out
      have R9 := hid (XR.out.read hgI hcI)
      have OZ := hid (ownZ_far (k := kb) (i := 6) (x := .slice ga G.length gcp) (XO.out.grown hgI (by omega)) hk6)
      have OI : Hid (OwI (w9.setCell ⟨kb, 6, none⟩ (.slice ga G.length gcp)) wr.heap.size (.slice ga G.length gcp) G) := hid (ownI_far hoI (wst (wre w9 (some kb)) 6 _) hkw)
      have d8 := R9.out.box.cells
      have f8 := R9.out.box.loose
      have Q9 := hid (R9.out.put (R9.out.box.s6 (.slice ga G.length gcp)))
      obtain ⟨W9, hW9⟩ : ∃ W, w9.setCell ⟨kb, 6, none⟩ (.slice ga G.length gcp) = W := ⟨_, rfl⟩
      rw [hW9] at OZ OI Q9
      obtain ⟨gn, hgn⟩ : ∃ n, G.length = n := ⟨_, rfl⟩
      have HGN := hid hgn
      rw [hgn] at OI Q9 hW9
      have HLZ : Hid ((Z.map md).length = zl) := hid (by rw [List.length_map]; exact hzl)
      clear hI hoI hcI hgI hkw hkf hk6 R9 c7
      rw [hgn]
      clear hgn
      have c7 := Q9.out.cur.cells
      have e8 := Q9.out.box.cells
      cases bad9
      · have HB6 : Hid (bad6 = false ∧ rints s c 40 = some (G, c9)) := hid (by rcases HI.out with ⟨h1, _, h3⟩ | ⟨h1, _⟩; (exact ⟨h1, h3⟩); cases h1)
        have HRM : Hid (rms s c6 mx = some (Z.map md, c)) := hid (by rcases HQ.out with h1 | h1; (rw [HB6.out.1] at h1; cases h1); rw [hzl, HIX.out] at h1; exact h1)
        have HGL : Hid (gn ≤ 1048576) := hid (by have h1 := rints_len HB6.out.2; rw [HGN.out] at h1; omega)
        have HSM := hid (sm_right (rms_right HRM.out).2)
        obtain ⟨q, hq⟩ : ∃ q, bxOk g nm t b nx (Z.map md) G = q := ⟨_, rfl⟩
        have CB := specBoxOk_any _ _ _ _ g nm t b nx ma zl mcp ga gn gcp (Z.map md) G W9 HNM.out HLZ.out (by have := HIX.out; omega) HSM.out (OZ.out.ms).2 HGN.out HGL.out (OwI.is OI.out).2
        rw [hq] at CB
        have HCB := hid CB
        have HRB : Hid (rbx s a = if q = true then some ((g, nm, t, b, nx, Z.map md, G), c9) else none) := hid (by
          unfold rbx
          rcases K6.out with ⟨_, h⟩ | ⟨h, _⟩
          · rw [h]
            simp only [Option.bind_some]
            rw [← HMX.out, HRM.out]
            simp only [Option.bind_some]
            rw [HB6.out.2]
            simp only [Option.bind_some, hq]
          · rw [HB6.out.1] at h; cases h)
        have HQQ := hid hq
        clear CB hq
        go_wp2_with fail
        try rw [hW9]
        clear hW9 d8 f8
        refine HCB.out.mono ?_; rintro e w10 ⟨rfl, hb10⟩
        have Q10 := hid (Q9.out.later hb10)
        have OZ10 := hid (OZ.out.later hb10)
        have OI10 := hid (own_later OI.out hb10)
        clear hb10 c7 e8 HCB
        have c7 := Q10.out.cur.cells
        have e8 := Q10.out.box.cells
        cases q
        · have HNO : Hid (rbx s a = none) := hid (HRB.out.trans (if_neg (by decide)))
          have d4 := Q10.out.zero.cells
          have f4 := Q10.out.zero.loose
          go_wp2
          have d := (Q10.out.zero.set7 0 ⟨#[]⟩ 0 0 0 (.slice none 0 0) (.slice none 0 0)).cells
          unfold set7 at d
          exact bodyPost_ret (v := .tuple #[.agg #[.int .i64 0, .string ⟨#[]⟩, .int .i64 0, .int .i64 0, .int .i64 0, .slice none 0 0, .slice none 0 0], .int .i64 0, .bool false]) (by simp [results, Tryz.results48, go_sem, d]) rfl (Or.inl ⟨HNO.out, rfl, by have h9 := below_set7 Q10.out.bel 0 ⟨#[]⟩ 0 0 0 (.slice none 0 0) (.slice none 0 0); unfold set7 at h9; exact h9⟩)
        · have HYES := hid (HRB.out.trans (if_pos rfl))
          clear c7 e8
          go_wp2_with fail
          refine wp_region_noPanic ?_
          refine wp_region_held_drew (S := (fun W => (W.cell? ⟨kb, 0, none⟩ = some (.int .i64 g) ∧ W.cell? ⟨kb, 1, none⟩ = some (.string nm) ∧ W.cell? ⟨kb, 2, none⟩ = some (.int .i64 t) ∧ W.cell? ⟨kb, 3, none⟩ = some (.int .i64 b) ∧ W.cell? ⟨kb, 4, none⟩ = some (.int .i64 nx) ∧ W.cell? ⟨kb, 5, none⟩ = some (.slice ma zl mcp) ∧ W.cell? ⟨kb, 6, none⟩ = some (.slice ga gn gcp)) ∧ W.cell? ⟨w.heap.size + 1, 0, none⟩ = some (.string s) ∧ W.cell? ⟨w.heap.size + 1, 1, none⟩ = some (.int .i64 c9) ∧ W.cell? ⟨w.heap.size + 1, 2, none⟩ = some (.bool false))) (by kernel_rfl) ⟨(Q10.out.later (bdr (bre _))).box.cells, (Q10.out.later (bdr (bre _))).cur.cells⟩ (fun hHeld => ?_)
          have QD := hid (Q10.out.later (bdr (bre w10)))
          have OZD := hid (OZ10.out.later (bdr (bre w10)))
          have OID := hid (own_later OI10.out (bdr (bre w10)))
          obtain ⟨WD, hWD⟩ : ∃ W, w10.drew = W := ⟨_, rfl⟩
          rw [hWD] at QD OZD OID hHeld
          rw [hWD]
          clear hWD
          refine tk 0 ?_
          refine tk 1 ?_
          refine tk 2 ?_
          refine tk 3 ?_
          refine tk 4 ?_
          clear hHeld
          have d4 := QD.out.zero.cells
          have f4 := QD.out.zero.loose
          refine ry 5 (fun K hK => ?_)
          go_simp
          have hk6 := HKB.out
          have hkf := XR.out.far
          have hzz := HZ.out
          have hgr := set7_grown WD w.heap.size g nm t b nx (.slice ma zl mcp) (.slice ga gn gcp)
          have hsc := (QD.out.box.grown hgr (by simp; omega)).cells
          have hcc : Cg (set7 WD w.heap.size g nm t b nx (.slice ma zl mcp) (.slice ga gn gcp)) (w.heap.size + 1) s c9 false := (hgr.block _ QD.out.cur.lt (by simp)).trans QD.out.cur
          have hcd := hcc.cells
          have OZE := hid (OZD.out.grown hgr (by omega))
          have OIE := hid (ownI_far OID.out hgr (by omega))
          have BE := hid (below_set7 QD.out.bel g nm t b nx (.slice ma zl mcp) (.slice ga gn gcp))
          have d := (QD.out.zero.set7 g nm t b nx (.slice ma zl mcp) (.slice ga gn gcp)).cells
          unfold set7 at hsc hcd OZE OIE BE d
          refine hK.out _ _ ⟨hsc, hcd⟩ (fun hHeld => ?_)
          clear hK K d4 f4
          try simp only [Act.put, List.setIfInBounds_toArray, List.set_cons_zero, List.set_cons_succ]
          refine tk 6 ?_
          refine tk 7 ?_
          refine wpAnyH_done (by kernel_rfl) ?_ _
          refine NoPanic.normal ?_
          clear hHeld hsc hcd hcc hgr
          go_wp2
          exact bodyPost_ret (v := .tuple #[.agg #[.int .i64 g, .string nm, .int .i64 t, .int .i64 b, .int .i64 nx, .slice ma zl mcp, .slice ga gn gcp], .int .i64 c9, .bool true]) (by simp [results, Tryz.results48, go_sem, d]) rfl (Or.inr ⟨g, nm, t, b, nx, Z.map md, G, c9, _, _, HYES.out, HQQ.out, rfl, ⟨Z, rfl, OZE.out.base (by omega), own_base OIE.out (by omega), (fun j h1 h2 => by have h3 := (World.ownsRow.lt OI.out j h1).1; have h4 := (XO.out.row.lt j h2).2; omega), fun z hz j h1 h2 => by have h3 := (World.ownsRow.lt OI.out j h1).1; have h4 := (World.ownsRow.lt (XO.out.each z hz) j h2).2; omega⟩, BE.out⟩)
      · have HNO : Hid (rbx s a = none) := hid (by
          unfold rbx
          rcases K6.out with ⟨h0, h⟩ | ⟨_, h⟩
          · rw [h]
            simp only [Option.bind_some]
            rcases HQ.out with h1 | h1
            · rw [h0] at h1; cases h1
            · rw [hzl, HIX.out] at h1
              rw [← HMX.out, h1]
              simp only [Option.bind_some]
              rcases HI.out with ⟨_, h2, _⟩ | ⟨_, h2⟩
              · cases h2
              · rcases h2 with h2 | h2
                · rw [h0] at h2; cases h2
                · rw [h2]; rfl
          · rw [h]; rfl)
        have d4 := Q9.out.zero.cells
        have f4 := Q9.out.zero.loose
        go_wp2
        have d := (Q9.out.zero.set7 0 ⟨#[]⟩ 0 0 0 (.slice none 0 0) (.slice none 0 0)).cells
        unfold set7 at d
        exact bodyPost_ret (v := .tuple #[.agg #[.int .i64 0, .string ⟨#[]⟩, .int .i64 0, .int .i64 0, .int .i64 0, .slice none 0 0, .slice none 0 0], .int .i64 0, .bool false]) (by simp [results, Tryz.results48, go_sem, d]) rfl (Or.inl ⟨HNO.out, rfl, by have h9 := below_set7 Q9.out.bel 0 ⟨#[]⟩ 0 0 0 (.slice none 0 0) (.slice none 0 0); unfold set7 at h9; exact h9⟩)
/-- What is sealed in a text, and whether it is. -/
def uns (s : ByteArray) : ByteArray × Bool := if 4 ≤ s.size ∧ s.size ≤ 20004 ∧ tail4 (s.extract 0 (s.size - 4)) = s.extract (s.size - 4) s.size then (s.extract 0 (s.size - 4), true) else (⟨#[]⟩, false)
theorem uns_size (s : ByteArray) : (uns s).1.size ≤ 20000 := by
  unfold uns
  split
  · rw [ByteArray.size_extract]; omega
  · decide
theorem specUnsealed_any (s : ByteArray) (w : World) (hm : s.size ≤ 1048576) :
    Calls Tryz.prog 47 #[.string s] w fun e w' => e = .returned (.tuple #[.string (uns s).1, .bool (uns s).2]) ∧ Below w.heap.size w w' := by
  by_cases h : 4 ≤ s.size ∧ s.size ≤ 20004
  · by_cases h2 : tail4 (s.extract 0 (s.size - 4)) = s.extract (s.size - 4) s.size
    · have e : uns s = (s.extract 0 (s.size - 4), true) := by unfold uns; rw [if_pos ⟨h.1, h.2, h2⟩]
      rw [e]
      exact specUnsealed_yes s (s.size - 4) w (by omega) (by omega) h2
    · have e : uns s = (⟨#[]⟩, false) := by unfold uns; rw [if_neg (fun x => h2 x.2.2)]
      rw [e]
      exact specUnsealed_no s (s.size - 4) w (by omega) (by omega) h2
  · have e : uns s = (⟨#[]⟩, false) := by unfold uns; rw [if_neg (fun x => h ⟨x.1, x.2.1⟩)]
    rw [e]
    exact specUnsealed_size s w hm (by omega)
/-- Boxes, one behind the other. -/
def rbs (s : ByteArray) (a : Int) : Nat → Option (List X7 × Int)
  | 0 => some ([], a)
  | k + 1 => (rbs s a k).bind fun p => (rbx s p.2).map fun q => (p.1 ++ [q.1], q.2)
theorem rbs_dead {s : ByteArray} {a : Int} {k : Nat} (h : rbs s a k = none) (j : Nat) : rbs s a (k + j) = none := by
  induction j with
  | zero => exact h
  | succ j ih => show (rbs s a (k + j)).bind _ = none; rw [ih]; rfl
theorem rbs_next {s : ByteArray} {a : Int} {k : Nat} {S : List X7} {c : Int} {x : X7} {c' : Int} (h : rbs s a k = some (S, c)) (hr : rbx s c = some (x, c')) : rbs s a (k + 1) = some (S ++ [x], c') := by
  show (rbs s a k).bind _ = _
  rw [h]
  simp only [Option.bind_some, hr, Option.map_some]
theorem rbs_stop {s : ByteArray} {a : Int} {k : Nat} {S : List X7} {c : Int} (h : rbs s a k = some (S, c)) (hr : rbx s c = none) : rbs s a (k + 1) = none := by
  show (rbs s a k).bind _ = _
  rw [h]
  simp only [Option.bind_some, hr, Option.map_none]
theorem rbx_right {s : ByteArray} {a : Int} {x : X7} {c : Int} (h : rbx s a = some (x, c)) : bxx x = true := by
  unfold rbx at h
  cases h1 : rh6 s a with
  | none => rw [h1] at h; cases h
  | some p =>
    rw [h1] at h
    simp only [Option.bind_some] at h
    cases h2 : rms s p.2 (min p.1.2 11).toNat with
    | none => rw [h2] at h; cases h
    | some q =>
      rw [h2] at h
      simp only [Option.bind_some] at h
      cases h3 : rints s q.2 40 with
      | none => rw [h3] at h; cases h
      | some r =>
        rw [h3] at h
        simp only [Option.bind_some] at h
        split at h
        · rename_i hb
          simp only [Option.some.injEq, Prod.mk.injEq] at h
          obtain ⟨rfl, _⟩ := h
          exact hb
        · cases h
theorem rbs_right {s : ByteArray} {a : Int} : ∀ {k : Nat} {S : List X7} {c : Int}, rbs s a k = some (S, c) → S.length = k ∧ ∀ x ∈ S, bxx x = true := by
  intro k
  induction k with
  | zero =>
    intro S c h
    simp only [rbs, Option.some.injEq, Prod.mk.injEq] at h
    obtain ⟨rfl, rfl⟩ := h
    exact ⟨rfl, fun m hm => by cases hm⟩
  | succ k ih =>
    intro S c h
    cases hk : rbs s a k with
    | none => rw [show rbs s a (k + 1) = (rbs s a k).bind _ from rfl, hk] at h; cases h
    | some p =>
      obtain ⟨S0, c0⟩ := p
      obtain ⟨h1, h2⟩ := ih hk
      cases hr : rbx s c0 with
      | none => rw [rbs_stop hk hr] at h; cases h
      | some q =>
        obtain ⟨x, c'⟩ := q
        rw [rbs_next hk hr] at h
        simp only [Option.some.injEq, Prod.mk.injEq] at h
        obtain ⟨rfl, rfl⟩ := h
        refine ⟨by rw [List.length_append, h1]; rfl, fun m hm => ?_⟩
        rcases List.mem_append.1 hm with hm | hm
        · exact h2 m hm
        · simp only [List.mem_singleton] at hm
          subst hm
          exact rbx_right hr
theorem sb_right {S : List X7} (h : ∀ x ∈ S, bxx x = true) : Sb S := by
  intro x hx
  obtain ⟨_, p2, _, _, p5, p6, p7, _⟩ := bx_txt (h x hx)
  exact ⟨by omega, by omega, sm_right p6, by omega⟩
def rt1 (s : ByteArray) (o : Option (Unit × Int)) : Option ((Unit × Int) × Int) := o.bind fun p => (rd s p.2).map fun q => ((p.1, q.1), q.2)
def rt2 (s : ByteArray) (o : Option (Unit × Int)) : Option (((Unit × Int) × Int) × Int) := (rt1 s o).bind fun p => (rd s p.2).map fun q => ((p.1, q.1), q.2)
def rt3 (s : ByteArray) (o : Option (Unit × Int)) : Option ((((Unit × Int) × Int) × Int) × Int) := (rt2 s o).bind fun p => (rd s p.2).map fun q => ((p.1, q.1), q.2)
/-- The store that is read. -/
def rst (s : ByteArray) : Option (Int × Int × List X7 × List Int) :=
  (rt3 (uns s).1 (if (uns s).2 = true then some ((), 0) else none)).bind fun p => (rbs (uns s).1 p.2 (min p.1.2 6).toNat).bind fun q => (rints (uns s).1 q.2 20).bind fun r =>
    if sOk p.1.1.1.2 p.1.1.2 q.1 r.1 = true ∧ stx p.1.1.1.2 p.1.1.2 q.1 r.1 ++ tail4 (stx p.1.1.1.2 p.1.1.2 q.1 r.1) = s then some (p.1.1.1.2, p.1.1.2, q.1, r.1) else none
/-- How a call ends that reads a store. -/
def RsPost (s : ByteArray) (w : World) (e : Ending) (w' : World) : Prop :=
  (rst s = none ∧ e = .returned (.tuple #[.agg #[.int .i64 0, .int .i64 0, .slice none 0 0, .slice none 0 0], .bool false]) ∧ Below w.heap.size w w') ∨
  ∃ y tm S G bv gv, rst s = some (y, tm, S, G) ∧ sOk y tm S G = true ∧ e = .returned (.tuple #[.agg #[.int .i64 y, .int .i64 tm, bv, gv], .bool true]) ∧ OwT w' w.heap.size bv gv S G ∧ Below w.heap.size w w'
/-- The memory of a call that reads a store. -/
structure Rss (w W : World) (kc ks : Nat) (s : ByteArray) (y tm : Int) (bv gv : Value) (c : Int) (bad : Bool) : Prop where
  zero : Sx W w.heap.size 57 0 0 (.slice none 0 0) (.slice none 0 0)
  cur : Cg W kc s c bad
  box : Sx W ks 57 y tm bv gv
  far0 : w.heap.size < kc
  far : kc < ks
  bel : Below w.heap.size w W
section
variable {w W W' : World} {kc ks : Nat} {s : ByteArray} {y tm : Int} {bv gv : Value} {c : Int} {bad : Bool}
theorem Rss.later (h : Rss w W kc ks s y tm bv gv c bad) (hb : Below W.heap.size W W') : Rss w W' kc ks s y tm bv gv c bad :=
  ⟨h.zero.later hb, h.cur.later hb, h.box.later hb, h.far0, h.far, btr h.bel hb⟩
theorem Rss.below {B : Nat} (h : Rss w W kc ks s y tm bv gv c bad) (hb : Below B W W') (hB : ks < B) : Rss w W' kc ks s y tm bv gv c bad :=
  have hf := h.far
  have hf0 := h.far0
  ⟨(hb.block _ (by omega)).trans h.zero, (hb.block _ (by omega)).trans h.cur, (hb.block _ hB).trans h.box, h.far0, h.far, h.bel.trans (hb.mono (by omega))⟩
theorem Rss.read {c' : Int} {bad' : Bool} (h : Rss w W kc ks s y tm bv gv c bad) (hg : W.grownBy W' (some kc)) (hc : Cg W' kc s c' bad') : Rss w W' kc ks s y tm bv gv c' bad' :=
  have hf := h.far
  have hf0 := h.far0
  ⟨h.zero.grown hg (by simp; omega), hc, h.box.grown hg (by simp; omega), h.far0, h.far, h.bel.trans (below_grownR hg (by intro j hj; simp at hj; omega) h.bel.size)⟩
theorem Rss.put {i : Nat} {x : Value} {y' tm' : Int} {bv' gv' : Value} (h : Rss w W kc ks s y tm bv gv c bad) (hx : Sx (W.setCell ⟨ks, i, none⟩ x) ks 57 y' tm' bv' gv') : Rss w (W.setCell ⟨ks, i, none⟩ x) kc ks s y' tm' bv' gv' c bad :=
  have hf := h.far
  have hf0 := h.far0
  ⟨heap_setCell_far x h.zero (by omega), h.cur.far x (by omega), hx, h.far0, h.far, bsk h.bel (by omega) i x⟩
theorem Rss.place (h : Rss w W kc ks s y tm bv gv c bad) (c' : Int) : Rss w (W.setCell ⟨kc, 1, none⟩ (.int .i64 c')) kc ks s y tm bv gv c' bad :=
  have hf := h.far
  have hf0 := h.far0
  ⟨heap_setCell_far _ h.zero (by omega), h.cur.s1 c', heap_setCell_far _ h.box (by omega), h.far0, h.far, bsk h.bel (by omega) 1 _⟩
end
theorem ownS_far {W : World} {B k i : Nat} {v x : Value} {Y : List Y9} (h : OwS W B v Y) (hk : k < B) : OwS (W.setCell ⟨k, i, none⟩ x) B v Y :=
  h.grown (wst (wre W (some k)) i x) hk
theorem ownS_nil (W : World) (B : Nat) : OwS W B (.slice none 0 0) [] :=
  ⟨⟨rfl, Or.inl ⟨rfl, rfl⟩⟩, (fun z hz => by cases hz), (fun z hz => by cases hz), List.Pairwise.nil⟩
theorem below_put4 {a W : World} (h : Below a.heap.size a W) (y tm : Int) (bv gv : Value) : Below a.heap.size a (put4 W a.heap.size y tm bv gv) := by
  unfold put4
  exact bsk (bsk (bsk (bsk h (Nat.le_refl _) _ _) (Nat.le_refl _) _ _) (Nat.le_refl _) _ _) (Nat.le_refl _) _ _
/-- What was read of boxes: nothing counts where it went bad ahead. -/
def Rbz (s : ByteArray) (a : Int) (bad : Bool) (Y : List Y9) (c : Int) : Prop := bad = true ∨ rbs s a Y.length = some (Y.map yd, c)
end Go.Proofs.YtlhofbnnonljaaaGreatDoor
