/- Qpm, Qpn, Qpo, Qpq, Qpr, Qps. -/
import Derived.Test.YtmalpgbdemcmdaaDoorR5
namespace Go.Proofs.YtmalpgbdemcmdaaDoor
open Go.RowKit
/-- How reading one token of a kind ends: R is what the model reads. -/
def Lf13 (s : ByteArray) (a : Nat) (kd : Int) (R : Option (Option (ByteArray × Nat))) (w : World) (e : Ending) (w' : World) : Prop :=
  ∃ (kd' : Int) (t : ByteArray) (n : Nat) (c : Int), e = .returned (.tuple #[.agg #[.int .i64 kd', .string t], .int .i64 (n : Int), .int .i64 c]) ∧ Below w.heap.size w w' ∧
    ((c = 0 ∧ kd' = kd ∧ 0 < n ∧ a + n ≤ s.size ∧ R = some (some (t, a + n))) ∨ (c = 1 ∧ R = none) ∨ (c = 2 ∧ R = some none))
theorem ext_size {s : ByteArray} {a : Nat} (_ha : a ≤ s.size) : (s.extract a s.size).size = s.size - a := by rw [ByteArray.size_extract]; omega
theorem ext_ext (s : ByteArray) (a i j : Nat) (hj : a + j ≤ s.size) : (s.extract a s.size).extract i j = s.extract (a + i) (a + j) := by
  apply ba_ext13
  simp only [ByteArray.data_extract, Array.toList_extract, List.extract_eq_take_drop]
  rw [List.drop_take, List.take_take, List.drop_drop]
  congr 1
  omega
theorem tw_cons {q : UInt8 → Bool} {l : List UInt8} {b : UInt8} (h : q b = true) : ((b :: l).takeWhile q).length = (l.takeWhile q).length + 1 := by rw [List.takeWhile_cons, if_pos h]; rfl
theorem aen_lead {s : ByteArray} : ∀ (f a : Nat), s.size < a + f → aen s f a = if ((s.data.toList.drop a).takeWhile ato).length = (s.data.toList.drop a).length then none else some (a + ((s.data.toList.drop a).takeWhile ato).length)
  | 0, a, h => by
    rw [aen, List.drop_eq_nil_of_le (by rw [dat_len]; omega)]
    rfl
  | f + 1, a, h => by
    rw [aen]
    cases hx : s.data.toList[a]? with
    | none => rw [drop_none hx]; rfl
    | some b =>
      dsimp only
      rw [drop_get hx]
      by_cases hb : ato b = true
      · rw [if_pos hb, aen_lead f (a + 1) (by omega), tw_cons hb, List.length_cons]
        by_cases he : ((s.data.toList.drop (a + 1)).takeWhile ato).length = (s.data.toList.drop (a + 1)).length
        · rw [if_pos he, if_pos (by omega)]
        · rw [if_neg he, if_neg (by omega)]
          congr 1
          omega
      · rw [if_neg hb, List.takeWhile_cons, if_neg hb, if_neg (by simp)]
        rfl
theorem lda_ext (s : ByteArray) (a : Nat) : lda (s.extract a s.size) = ((s.data.toList.drop a).takeWhile ato).length := by
  unfold lda lead
  rw [ext_data]
  congr 2
  funext b
  exact aso_ato b
set_option maxHeartbeats 1600000 in
set_option maxRecDepth 100000 in
theorem atomAhead_any (s : ByteArray) (a : Nat) (w : World) (hs : s.size ≤ 1048576) (ha : a ≤ s.size) :
    Calls Tryd.prog 65 #[.string (s.extract a s.size)] w fun e w' => Lf13 s a 1 (ard s a) w e w' := by
  obtain ⟨x, hx⟩ : ∃ x, s.extract a s.size = x := ⟨_, rfl⟩
  have hxs : x.size = s.size - a := by rw [← hx]; exact ext_size (by omega)
  have HL := hid (fun W : World => lda_any x W (by omega))
  have hle : lda x ≤ x.size := lead_le _ _
  have he := aen_lead (s := s) (s.size + 1) a (by omega)
  have hlen : (s.data.toList.drop a).length = x.size := by rw [List.length_drop, dat_len]; omega
  rw [← lda_ext, hx, hlen] at he
  obtain ⟨n, hn⟩ : ∃ n, lda x = n := ⟨_, rfl⟩
  rw [hn] at HL hle he
  have HX := hid hx
  rw [hx]
  clear hn hx hlen
  have T0 := hid (Tok.new w 28 0 ⟨#[]⟩)
  have B0 := hid (bpush (bre w) (.cells #[.int .i64 0, .string ⟨#[]⟩] 28))
  by_cases h1 : n = x.size
  · have HR : Hid (ard s a = none) := hid (by rw [ard, he, if_pos h1])
    clear he
    go_enter Tryd.func65, Tryd.ntmps65
    go_wp2_with fail
    refine (HL.out _).mono ?_; rintro e w1 ⟨rfl, hb⟩
    have HB := hid (btr B0.out hb)
    have T1 := hid (T0.out.later hb)
    have c1 := T1.out.cells
    have f1 := T1.out.loose
    clear hb
    subst h1
    go_wp2
    have d := (T1.out.put 0 ⟨#[]⟩).cells
    refine bodyPost_ret (v := .tuple #[.agg #[.int .i64 0, .string ⟨#[]⟩], .int .i64 0, .int .i64 1]) (by simp [results, Tryd.results65, go_sem, d]) rfl ⟨0, ⟨#[]⟩, 0, 1, rfl, bsk (bsk HB.out (Nat.le_refl _) 0 _) (Nat.le_refl _) 1 _, Or.inr (Or.inl ⟨rfl, HR.out⟩)⟩
  · have i1 : ((n : Int) == (x.size : Int)) = false := by rw [beq_eq_false_iff_ne]; omega
    have hI : (0 : Int) ≤ (n : Int) ∧ (n : Int) ≤ (x.size : Int) := by omega
    obtain ⟨y, hy⟩ : ∃ y, x.extract 0 n = y := ⟨_, rfl⟩
    have hys : y.size = n := by rw [← hy, ByteArray.size_extract]; omega
    have HY := hid hy
    have HA := hid (fun W : World => implAtom_any y W (by omega))
    have HE : Hid (y = s.extract a (a + n)) := hid (by rw [← hy, ← HX.out, ext_ext s a 0 n (by omega)]; rfl)
    have HR : Hid (ard s a = if atk y = true then some (some (y, a + n)) else some none) := hid (by rw [ard, he, if_neg h1]; dsimp only; rw [← HE.out])
    clear he hy
    by_cases hk : atk y = true
    · have HN : Hid (ard s a = some (some (y, a + n))) := hid (by rw [HR.out, if_pos hk])
      have hn0 : 0 < n := by
        have := (atk_in hk).2.1
        have h2 : (b13 y).length = y.size := dat_len y
        omega
      have HK := hid hk
      clear HR hk
      go_enter Tryd.func65, Tryd.ntmps65
      go_wp2_with fail
      refine (HL.out _).mono ?_; rintro e w1 ⟨rfl, hb⟩
      have HB := hid (btr B0.out hb)
      have T1 := hid (T0.out.later hb)
      clear hb
      go_wp2_with fail
      rw [HY.out]
      refine (HA.out _).mono ?_; rintro e w2 ⟨rfl, hb⟩
      have HB2 := hid (btr HB.out hb)
      have T2 := hid (T1.out.later hb)
      clear hb
      rw [HK.out]
      go_wp2_with fail
      rw [HY.out]
      refine (clone_any y _ (by omega)).mono ?_; rintro e w3 ⟨rfl, hb⟩
      have HB3 := hid (btr HB2.out hb)
      have T3 := hid (T2.out.later hb)
      have c1 := T3.out.cells
      have f1 := T3.out.loose
      clear hb
      go_wp2
      have d := (T3.out.put 1 y).cells
      refine bodyPost_ret (v := .tuple #[.agg #[.int .i64 1, .string y], .int .i64 (n : Int), .int .i64 0]) (by simp [results, Tryd.results65, go_sem, d]) rfl ⟨1, y, n, 0, rfl, bsk (bsk HB3.out (Nat.le_refl _) 0 _) (Nat.le_refl _) 1 _, Or.inl ⟨rfl, rfl, hn0, by omega, HN.out⟩⟩
    · have HN : Hid (ard s a = some none) := hid (by rw [HR.out, if_neg hk])
      have HK : Hid (atk y = false) := hid (by simpa using hk)
      clear HR hk
      go_enter Tryd.func65, Tryd.ntmps65
      go_wp2_with fail
      refine (HL.out _).mono ?_; rintro e w1 ⟨rfl, hb⟩
      have HB := hid (btr B0.out hb)
      have T1 := hid (T0.out.later hb)
      clear hb
      go_wp2_with fail
      rw [HY.out]
      refine (HA.out _).mono ?_; rintro e w2 ⟨rfl, hb⟩
      have HB2 := hid (btr HB.out hb)
      have T2 := hid (T1.out.later hb)
      have c1 := T2.out.cells
      have f1 := T2.out.loose
      clear hb
      rw [HK.out]
      go_wp2
      have d := (T2.out.put 0 ⟨#[]⟩).cells
      refine bodyPost_ret (v := .tuple #[.agg #[.int .i64 0, .string ⟨#[]⟩], .int .i64 0, .int .i64 2]) (by simp [results, Tryd.results65, go_sem, d]) rfl ⟨0, ⟨#[]⟩, 0, 2, rfl, bsk (bsk HB2.out (Nat.le_refl _) 0 _) (Nat.le_refl _) 1 _, Or.inr (Or.inr ⟨rfl, HN.out⟩)⟩
/-- Behind a `\`. -/
def qt2 (s : ByteArray) (f i : Nat) (acc : List UInt8) : Option (Option (ByteArray × Nat)) :=
  match s.data.toList[i]? with
  | none => none
  | some e => if e.toNat = 34 ∨ e.toNat = 92 then (if 60 < acc.length + 1 then some none else qd s f (i + 1) (acc ++ [e])) else some none
/-- What stands at the loop's head. -/
def qst (s : ByteArray) (tn : Bool) (f i : Nat) (acc : List UInt8) : Option (Option (ByteArray × Nat)) := if tn = true then qt2 s f i acc else qd s f i acc
section
variable {s : ByteArray} {f i : Nat} {acc : List UInt8} {b : UInt8}
theorem qst_end {tn : Bool} (h : s.data.toList[i]? = none) : qst s tn f i acc = none := by
  cases tn
  · exact qd_none h
  · show qt2 s f i acc = none
    rw [qt2, h]
theorem qst_esc (h : s.data.toList[i]? = some b) (hb : b.toNat = 34 ∨ b.toNat = 92) (ha : acc.length + 1 ≤ 60) : qst s true f i acc = qst s false f (i + 1) (acc ++ [b]) := by
  show qt2 s f i acc = qd s f (i + 1) (acc ++ [b])
  rw [qt2, h]
  dsimp only
  rw [if_pos hb, if_neg (by omega)]
theorem qst_esc_full (h : s.data.toList[i]? = some b) (hb : b.toNat = 34 ∨ b.toNat = 92) (ha : 60 < acc.length + 1) : qst s true f i acc = some none := by
  show qt2 s f i acc = some none
  rw [qt2, h]
  dsimp only
  rw [if_pos hb, if_pos ha]
theorem qst_esc_bad (h : s.data.toList[i]? = some b) (hb : ¬ (b.toNat = 34 ∨ b.toNat = 92)) : qst s true f i acc = some none := by
  show qt2 s f i acc = some none
  rw [qt2, h]
  dsimp only
  rw [if_neg hb]
theorem qst_quote (h : s.data.toList[i]? = some b) (hb : b.toNat = 34) : qst s false (f + 1) i acc = some (some (⟨acc.toArray⟩, i + 1)) := by
  show qd s (f + 1) i acc = _
  rw [qd, h]
  dsimp only
  rw [if_pos hb]
theorem qst_turn (h : s.data.toList[i]? = some b) (hb : b.toNat = 92) : qst s false (f + 1) i acc = qst s true f (i + 1) acc := by
  show qd s (f + 1) i acc = qt2 s f (i + 1) acc
  rw [qd, h, qt2]
  dsimp only
  rw [if_neg (by omega), if_pos hb]
  rfl
theorem qst_bad (h : s.data.toList[i]? = some b) (hb : b.toNat < 32 ∨ 126 < b.toNat) : qst s false (f + 1) i acc = some none := by
  show qd s (f + 1) i acc = _
  rw [qd, h]
  dsimp only
  rw [if_neg (by omega), if_neg (by omega), if_pos hb]
theorem qst_full (h : s.data.toList[i]? = some b) (h1 : b.toNat ≠ 34) (h2 : b.toNat ≠ 92) (hb : ¬ (b.toNat < 32 ∨ 126 < b.toNat)) (ha : 60 < acc.length + 1) : qst s false (f + 1) i acc = some none := by
  show qd s (f + 1) i acc = _
  rw [qd, h]
  dsimp only
  rw [if_neg h1, if_neg h2, if_neg hb, if_pos ha]
theorem qst_more (h : s.data.toList[i]? = some b) (h1 : b.toNat ≠ 34) (h2 : b.toNat ≠ 92) (hb : ¬ (b.toNat < 32 ∨ 126 < b.toNat)) (ha : acc.length + 1 ≤ 60) : qst s false (f + 1) i acc = qst s false f (i + 1) (acc ++ [b]) := by
  show qd s (f + 1) i acc = qd s f (i + 1) (acc ++ [b])
  rw [qd, h]
  dsimp only
  rw [if_neg h1, if_neg h2, if_neg hb, if_neg (by omega)]
end
theorem enc_snoc (acc : List UInt8) (b : UInt8) (r : Nat) (hb : b.toNat = r) (hr : r < 128) : (⟨acc.toArray⟩ ++ Utf8.encode (r : Int) : ByteArray) = ⟨(acc ++ [b]).toArray⟩ := by
  rw [encode_one r hr, ba_snoc]
  have : b = r.toUInt8 := (u8_iff b r (by omega)).2 hb
  rw [this]
set_option maxHeartbeats 3200000 in
set_option maxRecDepth 100000 in
theorem quotedAhead_any (s : ByteArray) (a : Nat) (w : World) (hs : s.size ≤ 1048576) (ha : a < s.size) :
    Calls Tryd.prog 63 #[.string (s.extract a s.size)] w fun e w' => Lf13 s a 2 (qd s (s.size + 1) (a + 1) []) w e w' := by
  obtain ⟨R, hR⟩ : ∃ R, qd s (s.size + 1) (a + 1) [] = R := ⟨_, rfl⟩
  rw [hR]
  have HR0 := hid hR
  obtain ⟨x, hx⟩ : ∃ x, s.extract a s.size = x := ⟨_, rfl⟩
  have hxs : x.size = s.size - a := by rw [← hx]; exact ext_size (by omega)
  obtain ⟨y, hy⟩ : ∃ y, x.extract 1 x.size = y := ⟨_, rfl⟩
  have hys : y.size = s.size - (a + 1) := by rw [← hy, ByteArray.size_extract]; omega
  have HYE : Hid (y = s.extract (a + 1) s.size) := hid (by rw [← hy, ← hx, ext_size (by omega), ext_ext s a 1 (s.size - a) (by omega)]; congr 1; omega)
  have HG : Hid (∀ pos (h : pos < y.size), s.data.toList[a + 1 + pos]? = some y[pos]) := hid (fun pos h => by
    rw [← at_get h, HYE.out, ext_data, List.getElem?_drop])
  have HY := hid hy
  rw [hx]
  clear hR hx hy
  have T0 := hid (Tok.new w 28 0 ⟨#[]⟩)
  obtain ⟨W0, hW0⟩ : ∃ W0, w.alloc (.cells #[.int .i64 0, .string ⟨#[]⟩] 28) = W0 := ⟨_, rfl⟩
  rw [hW0] at T0
  have B0 : Hid (Below w.heap.size w W0) := hid (by rw [← hW0]; exact bpush (bre _) _)
  have hI1 : (1 : Int) ≤ (x.size : Int) := by omega
  have HXS := hid hxs
  have hxm : x.size ≤ 1048576 := by omega
  have hym : y.size ≤ 1048576 := by omega
  have HYS := hid hys
  clear hxs hys
  go_enter Tryd.func63, Tryd.ntmps63
  go_wp2
  rw [HY.out]
  go_loopw [5, 6, 7, 8] (fun sv tv _ _ wr => ∃ (pos f : Nat) (acc : List UInt8) (tn : Bool) (o : ByteArray), pos ≤ y.size ∧ Hid (o = ⟨acc.toArray⟩) ∧ sv = .string o ∧ tv = .bool tn ∧ acc.length ≤ 60 ∧ wr.heap[W0.heap.size]? = some (.stringIter y pos) ∧ Below W0.heap.size W0 wr ∧ Hid (s.size < a + 1 + pos + f) ∧ Hid (qst s tn f (a + 1 + pos) acc = R)) (fun _ _ _ _ wr => y.size - wr.iterPos W0.heap.size)
  case atStart => exact ⟨0, s.size + 1, [], false, _, Nat.zero_le _, rfl, rfl, rfl, by simp, by simpa using World.iter_heap W0 y 0, bpush (bre _) _, by show _ < _; omega, HR0.out⟩
  case round =>
    obtain ⟨pos, f, acc, tn, o, hle, HOE, rfl, rfl, hacc, hit, hbw, HF, HQ⟩ := hrel
    have HB := hid hbw
    clear hbw
    have HSA : Hid (o.size = acc.length) := hid (by rw [HOE.out]; show acc.toArray.size = _; simp)
    have hso : o.size ≤ 60 := by rw [HSA.out]; exact hacc
    have HAC := hid hacc
    clear hacc
    by_cases hlt : pos < y.size
    · obtain ⟨r, hr⟩ : ∃ r : Nat, (Utf8.decode y pos).1 = r := ⟨_, rfl⟩
      obtain ⟨d, hd⟩ : ∃ d : Nat, (Utf8.decode y pos).2 = d := ⟨_, rfl⟩
      have hnx : ∀ ty, (Instr.next (.pointer (some ⟨W0.heap.size, 0, none⟩)) true ty).run Tryd.prog wr = _ := fun ty => Lib.run_next_any_at wr W0.heap.size y pos ty hit hlt
      rw [hr, hd] at hnx
      have hit2 := Lib.iterAt_heap wr W0.heap.size y pos (pos + d) hit
      have HB3 := hid (Lib.below_iterAt HB.out (Nat.le_refl _) y (pos + d))
      have HB2 := hid (btr B0.out HB3.out)
      have T2 := hid (T0.out.later HB3.out)
      obtain ⟨b, hb⟩ : ∃ b, y[pos] = b := ⟨_, rfl⟩
      have hg := HG.out pos hlt
      have HR : Hid ((b.toNat = r ∧ d = 1 ∧ r < 128) ∨ (128 ≤ r ∧ 128 ≤ b.toNat)) := by
        rw [← hb]
        by_cases h1 : y[pos].toNat < 128
        · have h2 := decode_ascii y pos hlt h1
          rw [h2] at hr hd
          simp only at hr hd
          subst hr hd
          exact .inl ⟨rfl, rfl, h1⟩
        · have h2 := (decode_high y pos hlt (by omega)).1
          rw [hr] at h2
          exact .inr ⟨h2, by omega⟩
      rw [hb] at hg
      have HGB := hid hg
      clear hr hd hg hb
      obtain ⟨f', hf'⟩ : ∃ f', f = f' + 1 := ⟨f - 1, by have := HF.out; have := HYS.out; omega⟩
      subst hf'
      cases tn with
      | true =>
        by_cases hq : r = 34 ∨ r = 92
        · have hbr : b.toNat = r ∧ d = 1 := by
            rcases HR.out with ⟨h1, h2, h3⟩ | ⟨h1, h2⟩
            · exact ⟨h1, h2⟩
            · omega
          obtain ⟨hbr, rfl⟩ := hbr
          have HT : Hid ((((r : Int) == 34) || ((r : Int) == 92)) = true) := hid (by rcases hq with rfl | rfl <;> rfl)
          have HBR := hid hbr
          have HQB : Hid (b.toNat = 34 ∨ b.toNat = 92) := hid (by rw [hbr]; exact hq)
          have he1 := encode_size (c := r) (by omega)
          have hr128 : r < 128 := by omega
          have HES : Hid (o ++ Utf8.encode (r : Int) = ⟨(acc ++ [b]).toArray⟩) := hid (by rw [HOE.out]; exact enc_snoc acc b r hbr hr128)
          clear hbr hq
          by_cases h60 : acc.length = 60
          · have HN : Hid (R = some none) := hid (by rw [← HQ.out]; exact qst_esc_full HGB.out HQB.out (by omega))
            have i60 : o.size = 60 := by rw [HSA.out]; exact h60
            clear h60 hso
            go_wp2_with fail
            refine (turnedSign_any r _).mono ?_; rintro e w1 ⟨rfl, rfl⟩
            rw [HT.out]
            have c1 := T2.out.cells
            have f1 := T2.out.loose
            go_wp2
            have d := (T2.out.put 0 ⟨#[]⟩).cells
            refine bodyPost_ret (v := .tuple #[.agg #[.int .i64 0, .string ⟨#[]⟩], .int .i64 0, .int .i64 2]) (by simp [results, Tryd.results63, go_sem, d]) rfl ⟨0, ⟨#[]⟩, 0, 2, rfl, bsk (bsk HB2.out (Nat.le_refl _) 0 _) (Nat.le_refl _) 1 _, Or.inr (Or.inr ⟨rfl, HN.out⟩)⟩
          · have HN := hid (qst_esc (s := s) (f := f' + 1) (i := a + 1 + pos) (acc := acc) HGB.out HQB.out (by have := HAC.out; omega))
            have i60 : (o.size : Int) < 60 := by rw [HSA.out]; have := HAC.out; omega
            have H61 : Hid ((acc ++ [b]).length ≤ 60) := hid (by have := HAC.out; simp; omega)
            have H60 := hid h60
            clear h60
            go_wp2_with fail
            refine (turnedSign_any r _).mono ?_; rintro e w1 ⟨rfl, rfl⟩
            rw [HT.out]
            go_wp2
            go_roundw
            case rel => exact ⟨pos + 1, f' + 1, acc ++ [b], false, _, by omega, HES.out, rfl, rfl, H61.out, hit2, HB3.out, by have := HF.out; show _ < _; omega, by show _ = _; rw [← HQ.out, HN.out]; rfl⟩
            case measure =>
              have e1 : ((wr.iterAt W0.heap.size y (pos + 1)).iterPos W0.heap.size) = pos + 1 := by simp only [World.iterPos, hit2]
              have e2 : wr.iterPos W0.heap.size = pos := by simp only [World.iterPos, hit]
              rw [e1, e2]
              omega
        · have HT : Hid ((((r : Int) == 34) || ((r : Int) == 92)) = false) := hid (by rw [Bool.or_eq_false_iff, beq_eq_false_iff_ne, beq_eq_false_iff_ne]; omega)
          have HN : Hid (R = some none) := hid (by
            rw [← HQ.out]
            refine qst_esc_bad HGB.out ?_
            rcases HR.out with ⟨h1, h2, h3⟩ | ⟨h1, h2⟩
            · rw [h1]; exact hq
            · omega)
          clear hq
          go_wp2_with fail
          refine (turnedSign_any r _).mono ?_; rintro e w1 ⟨rfl, rfl⟩
          rw [HT.out]
          have c1 := T2.out.cells
          have f1 := T2.out.loose
          go_wp2
          have d := (T2.out.put 0 ⟨#[]⟩).cells
          refine bodyPost_ret (v := .tuple #[.agg #[.int .i64 0, .string ⟨#[]⟩], .int .i64 0, .int .i64 2]) (by simp [results, Tryd.results63, go_sem, d]) rfl ⟨0, ⟨#[]⟩, 0, 2, rfl, bsk (bsk HB2.out (Nat.le_refl _) 0 _) (Nat.le_refl _) 1 _, Or.inr (Or.inr ⟨rfl, HN.out⟩)⟩
      | false =>
        by_cases h34 : r = 34
        · subst h34
          have hbr : b.toNat = 34 := by
            rcases HR.out with ⟨h1, h2, h3⟩ | ⟨h1, h2⟩
            · exact h1
            · omega
          have HN : Hid (R = some (some (o, a + (pos + 2)))) := hid (by rw [← HQ.out, HOE.out, qst_quote HGB.out hbr, show a + 1 + pos + 1 = a + (pos + 2) by omega])
          have HPY : Hid (a + (pos + 2) ≤ s.size) := hid (by have := HYS.out; omega)
          clear hbr
          have c1 := T2.out.cells
          have f1 := T2.out.loose
          go_wp2
          have d := (T2.out.put 2 o).cells
          refine bodyPost_ret (v := .tuple #[.agg #[.int .i64 2, .string o], .int .i64 (((pos + 2) : Nat) : Int), .int .i64 0]) (by simp [results, Tryd.results63, go_sem, d]) rfl ⟨2, o, (pos + 2), 0, rfl, bsk (bsk HB2.out (Nat.le_refl _) 0 _) (Nat.le_refl _) 1 _, Or.inl ⟨rfl, rfl, by omega, HPY.out, HN.out⟩⟩
        · have i34 : ((r : Int) == 34) = false := by rw [beq_eq_false_iff_ne]; omega
          by_cases h92 : r = 92
          · subst h92
            have hbr : b.toNat = 92 ∧ d = 1 := by
              rcases HR.out with ⟨h1, h2, h3⟩ | ⟨h1, h2⟩
              · exact ⟨h1, h2⟩
              · omega
            obtain ⟨hbr, rfl⟩ := hbr
            have HQ2 : Hid (qst s true f' (a + 1 + (pos + 1)) acc = R) := hid (by rw [← HQ.out, qst_turn HGB.out hbr]; rfl)
            clear hbr
            go_wp2
            go_roundw
            case rel => exact ⟨pos + 1, f', acc, true, o, by omega, HOE.out, rfl, rfl, HAC.out, hit2, HB3.out, by have := HF.out; show _ < _; omega, HQ2.out⟩
            case measure =>
              have e1 : ((wr.iterAt W0.heap.size y (pos + 1)).iterPos W0.heap.size) = pos + 1 := by simp only [World.iterPos, hit2]
              have e2 : wr.iterPos W0.heap.size = pos := by simp only [World.iterPos, hit]
              rw [e1, e2]
              omega
          · have i92 : ((r : Int) == 92) = false := by rw [beq_eq_false_iff_ne]; omega
            by_cases h60 : acc.length = 60
            · have HN : Hid (R = some none) := hid (by
                rw [← HQ.out]
                by_cases hp : 32 ≤ r ∧ r ≤ 126
                · have hbr : b.toNat = r := by
                    rcases HR.out with ⟨h1, h2, h3⟩ | ⟨h1, h2⟩
                    · exact h1
                    · omega
                  exact qst_full HGB.out (by omega) (by omega) (by omega) (by omega)
                · refine qst_bad HGB.out ?_
                  rcases HR.out with ⟨h1, h2, h3⟩ | ⟨h1, h2⟩ <;> omega)
              have i60 : ((o.size : Int) == 60) = true := by rw [HSA.out, h60]; rfl
              clear h92 h34 h60
              have c1 := T2.out.cells
              have f1 := T2.out.loose
              go_wp2
              have d := (T2.out.put 0 ⟨#[]⟩).cells
              refine bodyPost_ret (v := .tuple #[.agg #[.int .i64 0, .string ⟨#[]⟩], .int .i64 0, .int .i64 2]) (by simp [results, Tryd.results63, go_sem, d]) rfl ⟨0, ⟨#[]⟩, 0, 2, rfl, bsk (bsk HB2.out (Nat.le_refl _) 0 _) (Nat.le_refl _) 1 _, Or.inr (Or.inr ⟨rfl, HN.out⟩)⟩
            · have i60 : ((o.size : Int) == 60) = false := by rw [HSA.out, beq_eq_false_iff_ne]; have := HAC.out; omega
              by_cases hp : 32 ≤ r ∧ r ≤ 126
              · have HP : Hid ((decide (32 ≤ (r : Int)) && decide ((r : Int) ≤ 126)) = true) := hid (by rw [decide_eq_true (by omega), decide_eq_true (by omega)]; rfl)
                have hbr : b.toNat = r ∧ d = 1 := by
                  rcases HR.out with ⟨h1, h2, h3⟩ | ⟨h1, h2⟩
                  · exact ⟨h1, h2⟩
                  · omega
                obtain ⟨hbr, rfl⟩ := hbr
                have HQ2 : Hid (qst s false f' (a + 1 + (pos + 1)) (acc ++ [b]) = R) := hid (by rw [← HQ.out, qst_more HGB.out (by omega) (by omega) (by omega) (by have := HAC.out; omega)]; rfl)
                have H61 : Hid ((acc ++ [b]).length ≤ 60) := hid (by have := HAC.out; simp; omega)
                have he1 := encode_size (c := r) (by omega)
                have HES : Hid (o ++ Utf8.encode (r : Int) = ⟨(acc ++ [b]).toArray⟩) := hid (by rw [HOE.out]; exact enc_snoc acc b r hbr (by omega))
                clear hbr hp h92 h34 h60
                go_wp2_with fail
                refine (plainSign_any _ _).mono ?_; rintro e w1 ⟨rfl, rfl⟩
                rw [HP.out]
                go_wp2
                go_roundw
                case rel => exact ⟨pos + 1, f', acc ++ [b], false, _, by omega, HES.out, rfl, rfl, H61.out, hit2, HB3.out, by have := HF.out; show _ < _; omega, HQ2.out⟩
                case measure =>
                  have e1 : ((wr.iterAt W0.heap.size y (pos + 1)).iterPos W0.heap.size) = pos + 1 := by simp only [World.iterPos, hit2]
                  have e2 : wr.iterPos W0.heap.size = pos := by simp only [World.iterPos, hit]
                  rw [e1, e2]
                  omega
              · have HP : Hid ((decide (32 ≤ (r : Int)) && decide ((r : Int) ≤ 126)) = false) := hid (by rw [Bool.and_eq_false_iff, decide_eq_false_iff_not, decide_eq_false_iff_not]; omega)
                have HN : Hid (R = some none) := hid (by
                  rw [← HQ.out]
                  refine qst_bad HGB.out ?_
                  rcases HR.out with ⟨h1, h2, h3⟩ | ⟨h1, h2⟩ <;> omega)
                clear hp h34 h92 h60
                go_wp2_with fail
                refine (plainSign_any _ _).mono ?_; rintro e w1 ⟨rfl, rfl⟩
                rw [HP.out]
                have c1 := T2.out.cells
                have f1 := T2.out.loose
                go_wp2
                have d := (T2.out.put 0 ⟨#[]⟩).cells
                refine bodyPost_ret (v := .tuple #[.agg #[.int .i64 0, .string ⟨#[]⟩], .int .i64 0, .int .i64 2]) (by simp [results, Tryd.results63, go_sem, d]) rfl ⟨0, ⟨#[]⟩, 0, 2, rfl, bsk (bsk HB2.out (Nat.le_refl _) 0 _) (Nat.le_refl _) 1 _, Or.inr (Or.inr ⟨rfl, HN.out⟩)⟩
    · have hnx : ∀ ty, (Instr.next (.pointer (some ⟨W0.heap.size, 0, none⟩)) true ty).run Tryd.prog wr = _ := fun ty => Lib.run_next_end_at wr W0.heap.size y pos ty hit hlt
      have HN : Hid (R = none) := hid (by rw [← HQ.out]; exact qst_end (at_none (by have := HYS.out; omega)))
      have HB2 := hid (btr B0.out HB.out)
      have T2 := hid (T0.out.later HB.out)
      have c1 := T2.out.cells
      have f1 := T2.out.loose
      go_wp2
      have d := (T2.out.put 0 ⟨#[]⟩).cells
      refine bodyPost_ret (v := .tuple #[.agg #[.int .i64 0, .string ⟨#[]⟩], .int .i64 0, .int .i64 1]) (by simp [results, Tryd.results63, go_sem, d]) rfl ⟨0, ⟨#[]⟩, 0, 1, rfl, bsk (bsk HB2.out (Nat.le_refl _) 0 _) (Nat.le_refl _) 1 _, Or.inr (Or.inl ⟨rfl, HN.out⟩)⟩
theorem fga_ext (s : ByteArray) (a : Nat) : fga (s.extract a s.size) = ((s.data.toList.drop a).takeWhile fg).length := by
  unfold fga lead
  rw [ext_data]
  congr 2
  funext b
  show (decide ((48 : Int) ≤ (b.toNat : Int)) && decide ((b.toNat : Int) ≤ 57)) = fg b
  unfold fg
  rw [decide_eq_decide.2 (show (48 : Int) ≤ (b.toNat : Int) ↔ 48 ≤ b.toNat by omega), decide_eq_decide.2 (show (b.toNat : Int) ≤ 57 ↔ b.toNat ≤ 57 by omega)]
theorem ltd_lead {s : ByteArray} : ∀ (k f a n g : Nat), s.size < a + f → ((s.data.toList.drop a).takeWhile fg).length = k → g ≤ 2 →
    ltd s f a n g = if 2 < g + k then some none else match s.data.toList[a + k]? with | none => none | some c => if c.toNat = 125 then some (some (vlf n ((s.data.toList.drop a).take k), g + k, a + k)) else some none
  | k, 0, a, n, g, hf, hk, hg => by
    have hd : s.data.toList.drop a = [] := List.drop_eq_nil_of_le (by rw [dat_len]; omega)
    rw [hd] at hk
    subst hk
    rw [ltd, if_neg (by simpa using hg), at_none (by omega)]
  | k, f + 1, a, n, g, hf, hk, hg => by
    rw [ltd]
    cases hx : s.data.toList[a]? with
    | none =>
      rw [drop_none hx] at hk
      obtain rfl : k = 0 := hk.symm
      dsimp only
      simp only [Nat.add_zero]
      rw [if_neg (show ¬ 2 < g by omega), hx]
    | some b =>
      dsimp only
      rw [drop_get hx] at hk ⊢
      by_cases hb : fg b = true
      · rw [tw_cons hb] at hk
        obtain ⟨j, rfl⟩ : ∃ j, k = j + 1 := ⟨k - 1, by omega⟩
        have hb2 : 48 ≤ b.toNat ∧ b.toNat ≤ 57 := by
          unfold fg at hb
          simpa only [Bool.and_eq_true, decide_eq_true_eq] using hb
        rw [if_neg (by omega)]
        by_cases h2 : g = 2
        · rw [if_pos (Or.inr (Or.inr h2)), if_pos (by omega)]
        · rw [if_neg (by omega), ltd_lead j f (a + 1) _ (g + 1) (by omega) (by omega) (by omega)]
          rw [show g + 1 + j = g + (j + 1) by omega, show a + 1 + j = a + (j + 1) by omega]
          rfl
      · have hb2 : ¬ (48 ≤ b.toNat ∧ b.toNat ≤ 57) := by
          intro h
          apply hb
          unfold fg
          rw [decide_eq_true h.1, decide_eq_true h.2]
          rfl
        rw [List.takeWhile_cons, if_neg hb] at hk
        obtain rfl : k = 0 := hk.symm
        simp only [Nat.add_zero]
        rw [if_neg (show ¬ 2 < g by omega), hx]
        dsimp only
        by_cases h125 : b.toNat = 125
        · rw [if_pos h125, if_pos h125]; rfl
        · rw [if_neg h125, if_neg h125, if_pos (by omega)]
theorem vlf_le (l : List UInt8) (hl : l.length ≤ 2) (h : ∀ b ∈ l, 48 ≤ b.toNat ∧ b.toNat ≤ 57) : vlf 0 l ≤ 99 := by
  rcases l with _ | ⟨x, _ | ⟨y, _ | ⟨z, L⟩⟩⟩
  · simp [vlf]
  · have := h x (by simp)
    simp only [vlf, List.foldl_cons, List.foldl_nil]
    omega
  · have := h x (by simp)
    have := h y (by simp)
    simp only [vlf, List.foldl_cons, List.foldl_nil]
    omega
  · simp at hl
theorem cma_count (s : ByteArray) (i : Nat) (c : UInt8) (h : s.data.toList[i]? = some c) : cma (s.extract i s.size) ⟨#[125, 13, 10]⟩ = (if c.toNat = 125 then (match s.data.toList[i + 1]? with | none => 1 | some x => if x.toNat = 13 then (match s.data.toList[i + 2]? with | none => 1 | some y => if y.toNat = 10 then 0 else 2) else 2) else 2) := by
  unfold cma
  rw [pre13_list, pre13_list, ext_data, drop_get h]
  have e0 := u8_iff c 125 (by omega)
  by_cases hc : c.toNat = 125
  · rw [if_pos hc, e0.2 hc]
    cases h2 : s.data.toList[i + 1]? with
    | none => rw [drop_none h2]; rfl
    | some x =>
      rw [drop_get h2]
      have e1 := u8_iff x 13 (by omega)
      by_cases hx : x.toNat = 13
      · rw [e1.2 hx]
        cases h3 : s.data.toList[i + 2]? with
        | none => rw [drop_none h3]; rfl
        | some y =>
          rw [drop_get h3]
          have e2 := u8_iff y 10 (by omega)
          by_cases hy : y.toNat = 10
          · rw [e2.2 hy]; simp
          · have hne : y ≠ 10 := fun e => hy (e2.1 e)
            have hne2 : ¬ (10 : UInt8) = y := fun e => hne e.symm
            cases s.data.toList.drop (i + 2 + 1) <;> simp [hy, hne, hne2]
      · have hne : x ≠ 13 := fun e => hx (e1.1 e)
        have hne2 : ¬ (13 : UInt8) = x := fun e => hne e.symm
        rcases s.data.toList.drop (i + 1 + 1) with _ | ⟨p, _ | ⟨q, L⟩⟩ <;> simp [hx, hne, hne2]
  · have hne : c ≠ 125 := fun e => hc (e0.1 e)
    have hne2 : ¬ (125 : UInt8) = c := fun e => hne e.symm
    rw [if_neg hc]
    rcases s.data.toList.drop (i + 1) with _ | ⟨p, _ | ⟨q, L⟩⟩ <;> simp [hne, hne2]
section
variable {s : ByteArray} {a k : Nat}
theorem lrd_long (hk : ((s.data.toList.drop (a + 1)).takeWhile fg).length = k) (h : 2 < k) : lrd s a = some none := by
  by_cases ha : s.size < a + 1
  · exfalso
    rw [List.drop_eq_nil_of_le (by rw [dat_len]; omega)] at hk
    rw [← hk] at h
    exact absurd h (by decide)
  · rw [lrd, ltd_lead k (s.size + 1) (a + 1) 0 0 (by omega) hk (by omega), if_pos (by omega)]
theorem lrd_end (_ha : a < s.size) (hk : ((s.data.toList.drop (a + 1)).takeWhile fg).length = k) (h : k ≤ 2) (hc : s.data.toList[a + 1 + k]? = none) : lrd s a = none := by
  rw [lrd, ltd_lead k (s.size + 1) (a + 1) 0 0 (by omega) hk (by omega), if_neg (by omega), hc]
theorem lrd_way (_ha : a < s.size) (hk : ((s.data.toList.drop (a + 1)).takeWhile fg).length = k) (h : k ≤ 2) {c : UInt8} (hc : s.data.toList[a + 1 + k]? = some c) {n : Nat} (hn : vlf 0 ((s.data.toList.drop (a + 1)).take k) = n) :
    lrd s a = if c.toNat = 125 then (if k = 0 ∨ 60 < n then some none else lte s n (a + 1 + k + 1)) else some none := by
  rw [lrd, ltd_lead k (s.size + 1) (a + 1) 0 0 (by omega) hk (by omega), if_neg (by omega), hc]
  dsimp only
  by_cases h125 : c.toNat = 125
  · rw [if_pos h125, if_pos h125, hn]
    dsimp only
    rw [Nat.zero_add]
  · rw [if_neg h125, if_neg h125]
theorem lrd_bad (ha : a < s.size) (hk : ((s.data.toList.drop (a + 1)).takeWhile fg).length = k) (h : k ≤ 2) {c : UInt8} (hc : s.data.toList[a + 1 + k]? = some c) {n : Nat} (hn : vlf 0 ((s.data.toList.drop (a + 1)).take k) = n) (hb : k = 0 ∨ 60 < n) : lrd s a = some none := by
  rw [lrd_way ha hk h hc hn, if_pos hb]
  split <;> rfl
/-- What stands behind the figures, and what is read then. -/
theorem lrd_code (ha : a < s.size) (hk : ((s.data.toList.drop (a + 1)).takeWhile fg).length = k) (h : k ≤ 2) {c : UInt8} (hc : s.data.toList[a + 1 + k]? = some c) {n : Nat} (hn : vlf 0 ((s.data.toList.drop (a + 1)).take k) = n) (hb : ¬ (k = 0 ∨ 60 < n)) :
    (cma (s.extract (a + 1 + k) s.size) ⟨#[125, 13, 10]⟩ = 0 ∧ a + (k + 4) ≤ s.size ∧ lrd s a = if s.size < a + (k + 4) + n then none else some (some (s.extract (a + (k + 4)) (a + (k + 4 + n)), a + (k + 4 + n)))) ∨ (cma (s.extract (a + 1 + k) s.size) ⟨#[125, 13, 10]⟩ = 1 ∧ lrd s a = none) ∨ (cma (s.extract (a + 1 + k) s.size) ⟨#[125, 13, 10]⟩ = 2 ∧ lrd s a = some none) := by
  rw [cma_count s _ c hc, lrd_way ha hk h hc hn, if_neg hb, lte]
  by_cases h125 : c.toNat = 125
  · rw [if_pos h125, if_pos h125]
    cases h2 : s.data.toList[a + 1 + k + 1]? with
    | none => exact .inr (.inl ⟨rfl, rfl⟩)
    | some x =>
      dsimp only
      by_cases hx : x.toNat = 13
      · rw [if_pos hx, if_pos hx, show a + 1 + k + 1 + 1 = a + 1 + k + 2 by omega]
        cases h3 : s.data.toList[a + 1 + k + 2]? with
        | none => exact .inr (.inl ⟨rfl, rfl⟩)
        | some y =>
          dsimp only
          by_cases hy : y.toNat = 10
          · rw [if_pos hy, if_pos hy]
            refine .inl ⟨rfl, ?_, ?_⟩
            · by_cases hl : a + 1 + k + 2 < s.size
              · omega
              · rw [at_none (by omega)] at h3; cases h3
            · rw [show a + 1 + k + 1 + 2 = a + (k + 4) by omega, show a + (k + 4) + n = a + (k + 4 + n) by omega]
          · rw [if_neg hy, if_neg hy]
            exact .inr (.inr ⟨rfl, rfl⟩)
      · rw [if_neg hx, if_neg hx]
        exact .inr (.inr ⟨rfl, rfl⟩)
  · rw [if_neg h125, if_neg h125]
    exact .inr (.inr ⟨rfl, rfl⟩)
end
theorem tw_figs : ∀ l : List UInt8, ∀ b ∈ l.takeWhile fg, 48 ≤ b.toNat ∧ b.toNat ≤ 57
  | [], _, h => by cases h
  | x :: l, b, h => by
    rw [List.takeWhile_cons] at h
    split at h
    · rename_i hx
      rcases List.mem_cons.1 h with rfl | h
      · unfold fg at hx
        simpa only [Bool.and_eq_true, decide_eq_true_eq] using hx
      · exact tw_figs l b h
    · cases h
theorem tw_take (q : UInt8 → Bool) : ∀ l : List UInt8, l.take (l.takeWhile q).length = l.takeWhile q
  | [] => rfl
  | x :: l => by
    rw [List.takeWhile_cons]
    split
    · rw [List.length_cons, List.take_succ_cons, tw_take q l]
    · rfl
set_option maxHeartbeats 3200000 in
set_option maxRecDepth 100000 in
theorem countedAhead_any (s : ByteArray) (a : Nat) (w : World) (hs : s.size ≤ 1048576) (ha : a < s.size) :
    Calls Tryd.prog 64 #[.string (s.extract a s.size)] w fun e w' => Lf13 s a 2 (lrd s a) w e w' := by
  obtain ⟨k, hk⟩ : ∃ k, ((s.data.toList.drop (a + 1)).takeWhile fg).length = k := ⟨_, rfl⟩
  obtain ⟨x, hx⟩ : ∃ x, s.extract a s.size = x := ⟨_, rfl⟩
  have hxs : x.size = s.size - a := by rw [← hx]; exact ext_size (by omega)
  obtain ⟨y, hy⟩ : ∃ y, x.extract 1 x.size = y := ⟨_, rfl⟩
  have hye : y = s.extract (a + 1) s.size := by rw [← hy, ← hx, ext_size (by omega), ext_ext s a 1 (s.size - a) (by omega)]; congr 1; omega
  have hyz : y.size = s.size - (a + 1) := by rw [hye]; exact ext_size (by omega)
  have hkf : fga y = k := by rw [hye, fga_ext, hk]
  have hky : k ≤ y.size := by rw [← hkf]; exact lead_le _ _
  have HF := hid (fun W : World => fga_any y W (by omega))
  rw [hkf] at HF
  obtain ⟨F, hF⟩ : ∃ F, x.extract 1 (1 + k) = F := ⟨_, rfl⟩
  have hFe : F = s.extract (a + 1) (a + 1 + k) := by rw [← hF, ← hx, ext_ext s a 1 (1 + k) (by omega)]; congr 1; omega
  have hFd : F.data.toList = (s.data.toList.drop (a + 1)).take k := by
    rw [hFe, ByteArray.data_extract, Array.toList_extract, List.extract_eq_take_drop]
    congr 1
    omega
  have hFs : F.size = k := by rw [hFe, ByteArray.size_extract]; omega
  have hkx : 1 + k ≤ x.size := by omega
  have HY := hid hy
  have HFE := hid hF
  have HX := hid hx
  have HK := hid hk
  have HFD := hid hFd
  have HXS := hid hxs
  have hxm : x.size ≤ 1048576 := by omega
  have hI1 : (1 : Int) ≤ (x.size : Int) := by omega
  have hI2 : (0 : Int) ≤ 1 + (k : Int) ∧ 1 + (k : Int) ≤ (x.size : Int) := by omega
  rw [hx]
  clear hx hy hye hyz hkf hky hFe hF hFd hxs hk
  have T0 := hid (Tok.new w 28 0 ⟨#[]⟩)
  obtain ⟨W0, hW0⟩ : ∃ W0, w.alloc (.cells #[.int .i64 0, .string ⟨#[]⟩] 28) = W0 := ⟨_, rfl⟩
  rw [hW0] at T0
  have B0 : Hid (Below w.heap.size w W0) := hid (by rw [← hW0]; exact bpush (bre _) _)
  go_enter Tryd.func64, Tryd.ntmps64
  go_wp2_with fail
  rw [HY.out]
  refine (HF.out _).mono ?_; rintro e w1 ⟨rfl, hb⟩
  have HB1 := hid (btr B0.out hb)
  have T1 := hid (T0.out.later hb)
  clear hb
  by_cases hkx2 : 1 + k = x.size
  · have j1 : (1 + (k : Int) == (x.size : Int)) = true := by rw [beq_iff_eq]; omega
    have hc : s.data.toList[a + 1 + k]? = none := at_none (by have := HXS.out; omega)
    by_cases h2 : 2 < k
    · have HN : Hid (lrd s a = some none) := hid (lrd_long HK.out h2)
      have i3 : ¬ 1 + (k : Int) ≤ 3 := by omega
      have HFE2 : Hid (x.extract 1 x.size = F) := hid (by rw [← HFE.out, hkx2])
      clear hc
      go_wp2_with fail
      rw [HFE2.out]
      refine (fewFigures_bad F 2 2 rfl _ (by omega) (by omega)).mono ?_; rintro e w2 ⟨rfl, hb⟩
      have HB2 := hid (btr HB1.out hb)
      have T2 := hid (T1.out.later hb)
      clear hb
      have c1 := T2.out.cells
      have f1 := T2.out.loose
      go_wp2
      have d := (T2.out.put 0 ⟨#[]⟩).cells
      refine bodyPost_ret (v := .tuple #[.agg #[.int .i64 0, .string ⟨#[]⟩], .int .i64 0, .int .i64 2]) (by simp [results, Tryd.results64, go_sem, d]) rfl ⟨0, ⟨#[]⟩, 0, 2, rfl, bsk (bsk HB2.out (Nat.le_refl _) 0 _) (Nat.le_refl _) 1 _, Or.inr (Or.inr ⟨rfl, HN.out⟩)⟩
    · have HN : Hid (lrd s a = none) := hid (lrd_end ha HK.out (by omega) hc)
      have i3 : 1 + (k : Int) ≤ 3 := by omega
      clear hc
      have c1 := T1.out.cells
      have f1 := T1.out.loose
      go_wp2
      have d := (T1.out.put 0 ⟨#[]⟩).cells
      refine bodyPost_ret (v := .tuple #[.agg #[.int .i64 0, .string ⟨#[]⟩], .int .i64 0, .int .i64 1]) (by simp [results, Tryd.results64, go_sem, d]) rfl ⟨0, ⟨#[]⟩, 0, 1, rfl, bsk (bsk HB1.out (Nat.le_refl _) 0 _) (Nat.le_refl _) 1 _, Or.inr (Or.inl ⟨rfl, HN.out⟩)⟩
  · have j1 : (1 + (k : Int) == (x.size : Int)) = false := by rw [beq_eq_false_iff_ne]; omega
    obtain ⟨c, hc⟩ : ∃ c, s.data.toList[a + 1 + k]? = some c := ⟨_, at_get (by have := HXS.out; omega)⟩
    obtain ⟨n, hn⟩ : ∃ n, vlf 0 ((s.data.toList.drop (a + 1)).take k) = n := ⟨_, rfl⟩
    have HNV := hid hn
    clear hn
    have hkx3 : 1 + k < x.size := by omega
    clear hkx2
    by_cases h2 : k = 0 ∨ 2 < k
    · have HN : Hid (lrd s a = some none) := hid (by
        rcases h2 with h0 | h2
        · exact lrd_bad ha HK.out (by omega) hc HNV.out (Or.inl h0)
        · exact lrd_long HK.out h2)
      clear hc
      go_wp2_with fail
      rw [HFE.out]
      refine (fewFigures_bad F 2 2 rfl _ (by omega) (by omega)).mono ?_; rintro e w2 ⟨rfl, hb⟩
      have HB2 := hid (btr HB1.out hb)
      have T2 := hid (T1.out.later hb)
      clear hb
      have c1 := T2.out.cells
      have f1 := T2.out.loose
      go_wp2
      have d := (T2.out.put 0 ⟨#[]⟩).cells
      refine bodyPost_ret (v := .tuple #[.agg #[.int .i64 0, .string ⟨#[]⟩], .int .i64 0, .int .i64 2]) (by simp [results, Tryd.results64, go_sem, d]) rfl ⟨0, ⟨#[]⟩, 0, 2, rfl, bsk (bsk HB2.out (Nat.le_refl _) 0 _) (Nat.le_refl _) 1 _, Or.inr (Or.inr ⟨rfl, HN.out⟩)⟩
    · have hfig : ∀ b ∈ F.data.toList, 48 ≤ b.toNat ∧ b.toNat ≤ 57 := by
        intro b hb
        rw [HFD.out, ← HK.out, tw_take] at hb
        exact tw_figs _ b hb
      have hn99 : n ≤ 99 := by
        rw [← HNV.out, ← HFD.out]
        exact vlf_le _ (by rw [dat_len]; omega) hfig
      have HC := hid (fun (W : World) => fewFigures_any F 2 2 rfl W (by omega) (by omega) (by omega) hfig)
      rw [HFD.out, HNV.out] at HC
      clear hfig
      obtain ⟨z, hz⟩ : ∃ z, x.extract (1 + k) x.size = z := ⟨_, rfl⟩
      have hze : z = s.extract (a + 1 + k) s.size := by rw [← hz, ← HX.out, ext_size (by omega), ext_ext s a (1 + k) (s.size - a) (by omega)]; congr 1 <;> omega
      have hzs : z.size ≤ 1048576 := by rw [← hz, ByteArray.size_extract]; omega
      have HM := hid (fun W : World => comesAhead_any z ⟨#[125, 13, 10]⟩ W hzs (by decide))
      have HZ := hid hz
      have HZE := hid hze
      clear hz hze hzs
      by_cases h60 : 60 < n
      · have HN : Hid (lrd s a = some none) := hid (lrd_bad ha HK.out (by omega) hc HNV.out (Or.inr h60))
        have HC1 := hid HC.out
        have i60 : (60 : Int) < (n : Int) := by omega
        clear hc HM HC
        go_wp2_with fail
        rw [HFE.out]
        refine (HC1.out _).mono ?_; rintro e w2 ⟨rfl, hb⟩
        have HB2 := hid (btr HB1.out hb)
        have T2 := hid (T1.out.later hb)
        clear hb
        have c1 := T2.out.cells
        have f1 := T2.out.loose
        go_wp2
        have d := (T2.out.put 0 ⟨#[]⟩).cells
        refine bodyPost_ret (v := .tuple #[.agg #[.int .i64 0, .string ⟨#[]⟩], .int .i64 0, .int .i64 2]) (by simp [results, Tryd.results64, go_sem, d]) rfl ⟨0, ⟨#[]⟩, 0, 2, rfl, bsk (bsk HB2.out (Nat.le_refl _) 0 _) (Nat.le_refl _) 1 _, Or.inr (Or.inr ⟨rfl, HN.out⟩)⟩
      · have HC1 := hid HC.out
        have i60 : ¬ (60 : Int) < (n : Int) := by omega
        clear HC
        have hcode := lrd_code ha HK.out (by omega) hc HNV.out (by omega)
        rw [← HZE.out] at hcode
        obtain ⟨q, hq⟩ : ∃ q, cma z ⟨#[125, 13, 10]⟩ = q := ⟨_, rfl⟩
        rw [hq] at hcode HM
        clear hc hq
        rcases hcode with ⟨rfl, hal, hl⟩ | ⟨rfl, hl⟩ | ⟨rfl, hl⟩
        · have HL := hid hl
          have HAL := hid hal
          have hfx : 1 + k + 3 ≤ x.size := by have := HXS.out; omega
          have hI3 : (0 : Int) ≤ 1 + (k : Int) + 3 ∧ 1 + (k : Int) + 3 ≤ (x.size : Int) := by omega
          clear hl hal
          by_cases hn : x.size < 1 + k + 3 + n
          · have HN : Hid (lrd s a = none) := hid (by rw [HL.out, if_pos (by have := HXS.out; have := HAL.out; omega)])
            have in1 : (x.size : Int) - (1 + (k : Int) + 3) < (n : Int) := by omega
            clear HL
            go_wp2_with fail
            rw [HFE.out]
            refine (HC1.out _).mono ?_; rintro e w2 ⟨rfl, hb⟩
            have HB2 := hid (btr HB1.out hb)
            have T2 := hid (T1.out.later hb)
            clear hb
            go_wp2_with fail
            rw [HZ.out]
            refine (HM.out _).mono ?_; rintro e w3 ⟨rfl, h3⟩
            subst h3
            have c1 := T2.out.cells
            have f1 := T2.out.loose
            go_wp2
            have d := (T2.out.put 0 ⟨#[]⟩).cells
            refine bodyPost_ret (v := .tuple #[.agg #[.int .i64 0, .string ⟨#[]⟩], .int .i64 0, .int .i64 1]) (by simp [results, Tryd.results64, go_sem, d]) rfl ⟨0, ⟨#[]⟩, 0, 1, rfl, bsk (bsk HB2.out (Nat.le_refl _) 0 _) (Nat.le_refl _) 1 _, Or.inr (Or.inl ⟨rfl, HN.out⟩)⟩
          · have in1 : ¬ (x.size : Int) - (1 + (k : Int) + 3) < (n : Int) := by omega
            obtain ⟨t, ht⟩ : ∃ t, x.extract (1 + k + 3) (1 + k + 3 + n) = t := ⟨_, rfl⟩
            have hts : t.size ≤ 1048576 := by rw [← ht, ByteArray.size_extract]; omega
            have HTE : Hid (t = s.extract (a + (k + 4)) (a + (k + 4 + n))) := hid (by rw [← ht, ← HX.out, ext_ext s a (1 + k + 3) (1 + k + 3 + n) (by have := HXS.out; omega)]; congr 1 <;> omega)
            have HN : Hid (lrd s a = some (some (t, a + (k + 4 + n)))) := hid (by rw [HL.out, if_neg (by have := HXS.out; omega), HTE.out])
            have HNS : Hid (a + (k + 4 + n) ≤ s.size) := hid (by have := HXS.out; omega)
            have hI4 : (0 : Int) ≤ 1 + (k : Int) + 3 + (n : Int) ∧ 1 + (k : Int) + 3 + (n : Int) ≤ (x.size : Int) := by omega
            have HTT := hid ht
            clear HL ht
            go_wp2_with fail
            rw [HFE.out]
            refine (HC1.out _).mono ?_; rintro e w2 ⟨rfl, hb⟩
            have HB2 := hid (btr HB1.out hb)
            have T2 := hid (T1.out.later hb)
            clear hb
            go_wp2_with fail
            rw [HZ.out]
            refine (HM.out _).mono ?_; rintro e w3 ⟨rfl, h3⟩
            subst h3
            go_wp2_with fail
            rw [HTT.out]
            refine (clone_any t _ hts).mono ?_; rintro e w4 ⟨rfl, hb⟩
            have HB4 := hid (btr HB2.out hb)
            have T4 := hid (T2.out.later hb)
            clear hb
            have c1 := T4.out.cells
            have f1 := T4.out.loose
            go_wp2
            have d := (T4.out.put 2 t).cells
            refine bodyPost_ret (v := .tuple #[.agg #[.int .i64 2, .string t], .int .i64 (1 + (k : Int) + 3 + (n : Int)), .int .i64 0]) (by simp [results, Tryd.results64, go_sem, d]) rfl ⟨2, t, (k + 4 + n), 0, by rw [show (1 + (k : Int) + 3 + (n : Int)) = ((k + 4 + n : Nat) : Int) by omega], bsk (bsk HB4.out (Nat.le_refl _) 0 _) (Nat.le_refl _) 1 _, Or.inl ⟨rfl, rfl, by omega, HNS.out, HN.out⟩⟩
        · have HN := hid hl
          clear hl
          go_wp2_with fail
          rw [HFE.out]
          refine (HC1.out _).mono ?_; rintro e w2 ⟨rfl, hb⟩
          have HB2 := hid (btr HB1.out hb)
          have T2 := hid (T1.out.later hb)
          clear hb
          go_wp2_with fail
          rw [HZ.out]
          refine (HM.out _).mono ?_; rintro e w3 ⟨rfl, h3⟩
          subst h3
          have c1 := T2.out.cells
          have f1 := T2.out.loose
          go_wp2
          have d := (T2.out.put 0 ⟨#[]⟩).cells
          refine bodyPost_ret (v := .tuple #[.agg #[.int .i64 0, .string ⟨#[]⟩], .int .i64 0, .int .i64 1]) (by simp [results, Tryd.results64, go_sem, d]) rfl ⟨0, ⟨#[]⟩, 0, 1, rfl, bsk (bsk HB2.out (Nat.le_refl _) 0 _) (Nat.le_refl _) 1 _, Or.inr (Or.inl ⟨rfl, HN.out⟩)⟩
        · have HN := hid hl
          clear hl
          go_wp2_with fail
          rw [HFE.out]
          refine (HC1.out _).mono ?_; rintro e w2 ⟨rfl, hb⟩
          have HB2 := hid (btr HB1.out hb)
          have T2 := hid (T1.out.later hb)
          clear hb
          go_wp2_with fail
          rw [HZ.out]
          refine (HM.out _).mono ?_; rintro e w3 ⟨rfl, h3⟩
          subst h3
          have c1 := T2.out.cells
          have f1 := T2.out.loose
          go_wp2
          have d := (T2.out.put 0 ⟨#[]⟩).cells
          refine bodyPost_ret (v := .tuple #[.agg #[.int .i64 0, .string ⟨#[]⟩], .int .i64 0, .int .i64 2]) (by simp [results, Tryd.results64, go_sem, d]) rfl ⟨0, ⟨#[]⟩, 0, 2, rfl, bsk (bsk HB2.out (Nat.le_refl _) 0 _) (Nat.le_refl _) 1 _, Or.inr (Or.inr ⟨rfl, HN.out⟩)⟩
theorem pre_one (s : ByteArray) (a : Nat) (c : UInt8) : pre13 (s.extract a s.size) ⟨#[c]⟩ = (match s.data.toList[a]? with | none => false | some b => decide (b = c)) := by
  rw [pre13_list, ext_data]
  cases h : s.data.toList[a]? with
  | none => rw [drop_none h]; rfl
  | some b =>
    rw [drop_get h]
    show (decide (1 ≤ (b :: s.data.toList.drop (a + 1)).length) && ([b] == [c])) = _
    rw [decide_eq_true (by simp), Bool.true_and]
    by_cases hb : b = c
    · subst hb; simp
    · simp [hb]
theorem tka_of {s : ByteArray} {a : Nat} {kd : Int} {R : Option (Option (ByteArray × Nat))} {kd' : Int} {t : ByteArray} {n : Nat} {c : Int} (ht : tkn s a = tkm kd R)
    (h : (c = 0 ∧ kd' = kd ∧ 0 < n ∧ a + n ≤ s.size ∧ R = some (some (t, a + n))) ∨ (c = 1 ∧ R = none) ∨ (c = 2 ∧ R = some none)) :
    (c = 0 ∧ 0 < n ∧ a + n ≤ s.size ∧ (tkn s a = some (some ((kd', t), a + n)) ∨ (tkn s a = none ∧ a + n = s.size))) ∨ (c = 1 ∧ tkn s a = none) ∨ (c = 2 ∧ tkn s a = some none) := by
  rw [ht]
  rcases h with ⟨h1, h2, h3, h4, h5⟩ | ⟨h1, h2⟩ | ⟨h1, h2⟩
  · subst h2
    rw [h5]
    exact .inl ⟨h1, h3, h4, .inl rfl⟩
  · rw [h2]
    exact .inr (.inl ⟨h1, rfl⟩)
  · rw [h2]
    exact .inr (.inr ⟨h1, rfl⟩)
set_option maxHeartbeats 3200000 in
set_option maxRecDepth 100000 in
theorem tokenAhead_any (s : ByteArray) (a : Nat) (w : World) (hs : s.size ≤ 1048576) (ha : a ≤ s.size) :
    Calls Tryd.prog 58 #[.string (s.extract a s.size)] w fun e w' => Tka s a w e w' := by
  obtain ⟨x, hx⟩ : ∃ x, s.extract a s.size = x := ⟨_, rfl⟩
  have hxs : x.size = s.size - a := by rw [← hx]; exact ext_size (by omega)
  have HP := hid (fun (c : UInt8) (W : World) => hasPre13_any x ⟨#[c]⟩ W (by omega) (by show 1 ≤ _; omega))
  have hp1 := fun c => pre_one s a c
  rw [hx] at hp1
  have HX := hid hx
  have HXS := hid hxs
  rw [hx]
  clear hx
  have T0 := hid (Tok.new w 28 0 ⟨#[]⟩)
  obtain ⟨W0, hW0⟩ : ∃ W0, w.alloc (.cells #[.int .i64 0, .string ⟨#[]⟩] 28) = W0 := ⟨_, rfl⟩
  rw [hW0] at T0
  have B0 : Hid (Below w.heap.size w W0) := hid (by rw [← hW0]; exact bpush (bre _) _)
  cases hg : s.data.toList[a]? with
  | none =>
    have hz : x.size = 0 := by
      by_cases h : a < s.size
      · rw [at_get h] at hg; cases hg
      · omega
    have hx0 : x = ⟨#[]⟩ := by
      cases x; simp only [ByteArray.mk.injEq]; simpa [ByteArray.size] using hz
    have HA := hid (fun W : World => HP.out 34 W)
    have HB := hid (fun W : World => HP.out 123 W)
    simp only [hp1, hg] at HA HB
    have HTN : Hid (tkn s a = tkm 1 (ard s a)) := hid (by
      rw [tkn, hg]
      show none = tkm 1 (ard s a)
      rw [ard, aen, hg]
      rfl)
    have HC := hid (fun W : World => atomAhead_any s a W hs ha)
    rw [HX.out] at HC
    clear hg hp1 HP hz hxs HXS HX
    subst hx0
    go_enter Tryd.func58, Tryd.ntmps58
    go_wp2_with fail
    refine (HA.out _).mono ?_; rintro e w1 ⟨rfl, h1⟩
    subst h1
    go_wp2_with fail
    refine (HB.out _).mono ?_; rintro e w1 ⟨rfl, h1⟩
    subst h1
    go_wp2_with fail
    refine (HC.out _).mono ?_; rintro e w2 ⟨kd, t, n, c, rfl, hb, hw⟩
    have HB2 := hid (btr B0.out hb)
    have T2 := hid (T0.out.later hb)
    have HW := hid (tka_of HTN.out hw)
    clear hb hw
    have c1 := T2.out.cells
    have f1 := T2.out.loose
    go_wp2
    have d := (T2.out.put kd t).cells
    refine bodyPost_ret (v := .tuple #[.agg #[.int .i64 kd, .string t], .int .i64 (n : Int), .int .i64 c]) (by simp [results, Tryd.results58, go_sem, d]) rfl ⟨kd, t, n, c, rfl, bsk (bsk HB2.out (Nat.le_refl _) 0 _) (Nat.le_refl _) 1 _, HW.out⟩
  | some b =>
    have hal : a < s.size := by
      by_cases h : a < s.size
      · exact h
      · rw [at_none (by omega)] at hg; cases hg
    have HA := hid (fun W : World => HP.out 34 W)
    have HB := hid (fun W : World => HP.out 123 W)
    simp only [hp1, hg] at HA HB
    have e34 := u8_iff b 34 (by omega)
    have e123 := u8_iff b 123 (by omega)
    by_cases h34 : b = 34
    · have HTN : Hid (tkn s a = tkm 2 (qd s (s.size + 1) (a + 1) [])) := hid (by rw [tkn, hg]; dsimp only; rw [if_pos (e34.1 h34)])
      have HC := hid (fun W : World => quotedAhead_any s a W hs hal)
      rw [HX.out] at HC
      simp only [h34, decide_true] at HA
      clear hg hp1 HP hxs e34 e123
      go_enter Tryd.func58, Tryd.ntmps58
      go_wp2_with fail
      refine (HA.out _).mono ?_; rintro e w1 ⟨rfl, h1⟩
      subst h1
      go_wp2_with fail
      refine (HC.out _).mono ?_; rintro e w2 ⟨kd, t, n, c, rfl, hb, hw⟩
      have HB2 := hid (btr B0.out hb)
      have T2 := hid (T0.out.later hb)
      have HW := hid (tka_of HTN.out hw)
      clear hb hw
      have c1 := T2.out.cells
      have f1 := T2.out.loose
      go_wp2
      have d := (T2.out.put kd t).cells
      refine bodyPost_ret (v := .tuple #[.agg #[.int .i64 kd, .string t], .int .i64 (n : Int), .int .i64 c]) (by simp [results, Tryd.results58, go_sem, d]) rfl ⟨kd, t, n, c, rfl, bsk (bsk HB2.out (Nat.le_refl _) 0 _) (Nat.le_refl _) 1 _, HW.out⟩
    · by_cases h123 : b = 123
      · have HTN : Hid (tkn s a = tkm 2 (lrd s a)) := hid (by rw [tkn, hg]; dsimp only; rw [if_neg (fun e => h34 (e34.2 e)), if_pos (e123.1 h123)])
        have HC := hid (fun W : World => countedAhead_any s a W hs hal)
        rw [HX.out] at HC
        simp only [h34, decide_false] at HA
        simp only [h123, decide_true] at HB
        clear hg hp1 HP hxs e34 e123
        go_enter Tryd.func58, Tryd.ntmps58
        go_wp2_with fail
        refine (HA.out _).mono ?_; rintro e w1 ⟨rfl, h1⟩
        subst h1
        go_wp2_with fail
        refine (HB.out _).mono ?_; rintro e w1 ⟨rfl, h1⟩
        subst h1
        go_wp2_with fail
        refine (HC.out _).mono ?_; rintro e w2 ⟨kd, t, n, c, rfl, hb, hw⟩
        have HB2 := hid (btr B0.out hb)
        have T2 := hid (T0.out.later hb)
        have HW := hid (tka_of HTN.out hw)
        clear hb hw
        have c1 := T2.out.cells
        have f1 := T2.out.loose
        go_wp2
        have d := (T2.out.put kd t).cells
        refine bodyPost_ret (v := .tuple #[.agg #[.int .i64 kd, .string t], .int .i64 (n : Int), .int .i64 c]) (by simp [results, Tryd.results58, go_sem, d]) rfl ⟨kd, t, n, c, rfl, bsk (bsk HB2.out (Nat.le_refl _) 0 _) (Nat.le_refl _) 1 _, HW.out⟩
      · have HTN : Hid (tkn s a = tkm 1 (ard s a)) := hid (by rw [tkn, hg]; dsimp only; rw [if_neg (fun e => h34 (e34.2 e)), if_neg (fun e => h123 (e123.2 e))])
        have HC := hid (fun W : World => atomAhead_any s a W hs ha)
        rw [HX.out] at HC
        simp only [h34, decide_false] at HA
        simp only [h123, decide_false] at HB
        clear hg hp1 HP hxs e34 e123
        go_enter Tryd.func58, Tryd.ntmps58
        go_wp2_with fail
        refine (HA.out _).mono ?_; rintro e w1 ⟨rfl, h1⟩
        subst h1
        go_wp2_with fail
        refine (HB.out _).mono ?_; rintro e w1 ⟨rfl, h1⟩
        subst h1
        go_wp2_with fail
        refine (HC.out _).mono ?_; rintro e w2 ⟨kd, t, n, c, rfl, hb, hw⟩
        have HB2 := hid (btr B0.out hb)
        have T2 := hid (T0.out.later hb)
        have HW := hid (tka_of HTN.out hw)
        clear hb hw
        have c1 := T2.out.cells
        have f1 := T2.out.loose
        go_wp2
        have d := (T2.out.put kd t).cells
        refine bodyPost_ret (v := .tuple #[.agg #[.int .i64 kd, .string t], .int .i64 (n : Int), .int .i64 c]) (by simp [results, Tryd.results58, go_sem, d]) rfl ⟨kd, t, n, c, rfl, bsk (bsk HB2.out (Nat.le_refl _) 0 _) (Nat.le_refl _) 1 _, HW.out⟩
theorem readP_any (s : ByteArray) (w : World) (hs : s.size ≤ 1048576) (hM : Mx w) : Calls Tryd.prog 8 #[.string s] w fun e w' => Irk s w e w' :=
  readTokens13_any s w hs hM (fun s a W h1 h2 => tokenAhead_any s a W h1 h2)
theorem readG_any (s : ByteArray) (w : World) (hs : s.size ≤ 1048576) (hM : Mx w) (hg : good13 s) : Calls Tryd.prog 8 #[.string s] w fun e w' => Rk13 s w e w' := by
  refine (readP_any s w hs hM).mono ?_
  rintro e w' ⟨v, l, t, c, rfl, ho, hb, hw⟩
  have h := irk_rtk hg
  rcases hw with ⟨rfl, n, rfl, hw⟩ | ⟨rfl, rfl, rfl, hw⟩ | ⟨rfl, rfl, rfl, hw⟩
  · exact ⟨v, l, _, 0, rfl, h.1 _ _ hw, ho, hb⟩
  · exact ⟨v, [], _, 1, rfl, h.2.1 hw, ho, hb⟩
  · exact ⟨v, [], _, 2, rfl, by rw [h.2.2 hw, cut_eln], ho, hb⟩
theorem readT_as (X : ByteArray) (hX : X.size ≤ 1048576) (hg : good13 X) (l : List T2) (t : ByteArray) (c : Int) (h : rtk X = (l, t, c)) (N : Nat) (hN : l.length = N) (w : World) (hM : Mx w) :
    Calls Tryd.prog 8 #[.string X] w fun e w' => ∃ a cp, e = .returned (.tuple #[.slice a N cp, .string t, .int .i64 c]) ∧ OwK w' w.heap.size (.slice a N cp) l ∧ Below w.heap.size w w' := by
  refine (readG_any X w hX hM hg).mono ?_
  rintro e w' ⟨v, l', t', c', rfl, hr, ho, hb⟩
  rw [h] at hr
  simp only [Prod.mk.injEq] at hr
  obtain ⟨rfl, rfl, rfl⟩ := hr
  obtain ⟨a, cp, rfl⟩ := ho.shape
  rw [hN] at ho ⊢
  exact ⟨a, cp, rfl, ho, hb⟩
theorem readU_any (X : ByteArray) (hX : X.size ≤ 1048576) (w : World) (hM : Mx w) :
    Calls Tryd.prog 8 #[.string X] w fun e w' => ∃ a N cp t c, e = .returned (.tuple #[.slice a N cp, .string t, .int .i64 c]) ∧ Below w.heap.size w w' := by
  refine (readP_any X w hX hM).mono ?_
  rintro e w' ⟨v, l, t, c, rfl, ho, hb, hw⟩
  obtain ⟨a, cp, rfl⟩ := ho.shape
  exact ⟨a, _, cp, t, c, rfl, hb⟩
theorem tb_head {p : T2} (h : okt p) : ∃ c L, tb p = c :: L ∧ c.toNat ≠ 13 := by
  obtain ⟨kd, t⟩ := p
  unfold tb
  rcases h with ⟨h1, h2⟩ | ⟨h1, h2⟩
  · have e : kd = 1 := h1
    subst e
    show ∃ c L, b13 t = c :: L ∧ _
    have hk : atk t = true := h2
    have hin := atk_in hk
    rcases hd : b13 t with _ | ⟨c, L⟩
    · rw [hd] at hin
      have := hin.2.1
      simp at this
    · refine ⟨c, L, rfl, fun hc => ?_⟩
      have hc2 : c = 13 := (u8_iff c 13 (by omega)).2 hc
      have h3 := hin.1
      rw [hd, List.all_cons, hc2, show ato 13 = false by decide] at h3
      cases h3
  · have e : kd = 2 := h1
    subst e
    by_cases hq : qok t = true
    · have e : ttx 2 t = qtx t := by unfold ttx; rw [if_neg (by decide), if_pos hq]
      show ∃ c L, b13 (ttx 2 t) = c :: L ∧ _
      rw [e, b13_q]
      exact ⟨_, _, rfl, by decide⟩
    · have e : ttx 2 t = ltx t := by unfold ttx; rw [if_neg (by decide), if_neg hq]; rfl
      show ∃ c L, b13 (ttx 2 t) = c :: L ∧ _
      rw [e, b13_l]
      exact ⟨_, _, rfl, by decide⟩
theorem bd_head {l : List T2} (h0 : l ≠ []) (hk : ∀ p ∈ l, okt p) : ∃ c L, bd l = c :: L ∧ c.toNat ≠ 13 := by
  rcases l with _ | ⟨x, _ | ⟨y, r⟩⟩
  · exact absurd rfl h0
  · exact tb_head (hk x (by simp))
  · obtain ⟨c, L, h1, h2⟩ := tb_head (hk x (by simp))
    exact ⟨c, L ++ 32 :: bd (y :: r), by show tb x ++ 32 :: bd (y :: r) = _; rw [h1]; rfl, h2⟩
theorem good_said {l : List T2} (h0 : l ≠ []) (hk : ∀ p ∈ l, okt p) (hl : l.length ≤ 4) (r : ByteArray) : good13 (sdt l ++ r) := by
  have hb : (sdt l ++ r).data.toList = bd l ++ 13 :: 10 :: b13 r := by
    rw [ByteArray.data_append, Array.toList_append]
    show (bd l ++ [13, 10]) ++ b13 r = _
    simp
  have h1 := tks_here (s := sdt l ++ r) (R := b13 r) l 9 0 [] h0 hk (by simp; omega) (by omega) (by show List.drop 0 _ = _; rw [List.drop_zero]; exact hb)
  refine ⟨fun e => ?_, fun h => ?_⟩
  · rw [e] at hb
    have h2 : 1 = (bd l ++ 13 :: 10 :: b13 r).length := congrArg List.length hb
    rw [List.length_append, List.length_cons, List.length_cons] at h2
    omega
  · rw [h1] at h
    cases h.1
theorem good_cut {l : List T2} (h0 : l ≠ []) (hk : ∀ p ∈ l, okt p) (hl : l.length ≤ 4) (m : Nat) (hm : m < (sdt l).size) : good13 ((sdt l).extract 0 m) := by
  have hb : ((sdt l).extract 0 m).data.toList = (bd l ++ [13, 10]).take m := by
    rw [ByteArray.data_extract, Array.toList_extract, List.extract_eq_take_drop]
    show ((bd l ++ [13, 10]).drop 0).take (m - 0) = _
    simp
  have hs := sdt_size l
  have h1 := tks_part (s := (sdt l).extract 0 m) l 9 0 m [] h0 hk (by simp; omega) (by omega) (by omega) (by show List.drop 0 _ = _; rw [List.drop_zero]; exact hb)
  refine ⟨fun e => ?_, fun h => ?_⟩
  · rw [e] at hb
    obtain ⟨c, L, h2, h3⟩ := bd_head h0 hk
    rw [h2] at hb
    rcases m with _ | m
    · cases hb
    · have h4 : (13 : UInt8) = c := by
        have := congrArg List.head? hb
        simpa using this
      exact h3 (by rw [← h4]; rfl)
  · rw [h1] at h
    cases h.1
end Go.Proofs.YtmalpgbdemcmdaaDoor
