/- Ec, Ee, Ef, Eg, Ed. -/
import Derived.Test.YtpannfkfaagflaaDoorR2
namespace Go.Proofs.YtpannfkfaagflaaDoor
open Go.RowKit
/-- The records from a place on, and the place behind the last one. -/
def rrs (j : ByteArray) : Nat → Int → List ByteArray × Int
  | 0, a => ([], a)
  | f + 1, a => match rrd j a with
    | none => ([], a)
    | some p => (p.1 :: (rrs j f p.2).1, (rrs j f p.2).2)
theorem rrs_stop {j : ByteArray} {f : Nat} {a : Int} (h : rrd j a = none) : rrs j f a = ([], a) := by
  cases f with
  | zero => rfl
  | succ f => simp only [rrs, h]
theorem rrs_next {j : ByteArray} {f : Nat} {a : Int} {t : ByteArray} {c : Int} (h : rrd j a = some (t, c)) : rrs j (f + 1) a = (t :: (rrs j f c).1, (rrs j f c).2) := by simp only [rrs, h]
/-- All records of a text. -/
def rcs (j : ByteArray) : List ByteArray × Int := rrs j (j.size + 1) 0
/-- How many there are at most. -/
def lsts (L : List ByteArray) : List (List UInt8) := L.map fun t => t.data.toList
theorem lsts_snoc (L : List ByteArray) (t : ByteArray) : lsts (L ++ [t]) = lsts L ++ [t.data.toList] := by unfold lsts; simp
theorem rrR_none {j : ByteArray} {a : Int} (h : rrd j a = none) : rrR j a = .tuple #[.string ⟨#[]⟩, .int .i64 0, .bool false] := by unfold rrR; rw [h]
theorem rrR_some {j : ByteArray} {a : Int} {t : ByteArray} {c : Int} (h : rrd j a = some (t, c)) : rrR j a = .tuple #[.string t, .int .i64 c, .bool true] := by unfold rrR; rw [h]
/-- What ReadRecords answers. -/
def Rr12 (j : ByteArray) (w : World) (e : Ending) (w' : World) : Prop :=
  ∃ v, e = .returned (.tuple #[v, .int .i64 (rcs j).2]) ∧ w'.ownsRow w.heap.size 9 1 v (rcs j).1.length ((lsts (rcs j).1).map sv) ∧ Below w.heap.size w w'
set_option maxHeartbeats 800000 in
set_option maxRecDepth 100000 in
theorem specRecords_any (j : ByteArray) (w : World) (hj : j.size ≤ 1048576) :
    Calls Tryd.prog 7 #[.string j] w fun e w' => Rr12 j w e w' := by
  have HJ := hid hj
  have CR := hid (fun (W : World) (a : Int) => specRead12_any j a W hj)
  have h0 : w.heap.size ≤ (w.alloc (.cells #[] 9)).heap.size := (bpush (bre w) _).size
  have O0 : (w.alloc (.cells #[] 9)).ownsRow w.heap.size 9 1 (.slice (some ⟨w.heap.size, 0, none⟩) 0 0) 0 [] := ⟨rfl, Or.inr ⟨w.heap.size, 0, #[], rfl, Nat.le_refl _, heap_alloc_new w _, Nat.le_refl _, by decide, rfl, rfl⟩⟩
  have OO := hid O0
  have BB := hid (bpush (bre w) (.cells #[] 9))
  clear hj O0
  go_enter Tryd.func7, Tryd.ntmps7
  go_wp2
  go_loopw [4, 5] (fun ov av wr => ∃ (L : List ByteArray) (a f : Nat), av = .int .i64 (a : Int) ∧ wr.ownsRow w.heap.size 9 1 ov L.length ((lsts L).map sv) ∧ Hid (rcs j = (L ++ (rrs j f a).1, (rrs j f a).2)) ∧ a ≤ j.size ∧ j.size + 1 ≤ f + a ∧ 4 * L.length ≤ a ∧ Below w.heap.size w wr) (fun _ av _ => j.size + 1 - (intOf av).toNat)
  case atStart => exact ⟨[], 0, j.size + 1, rfl, OO.out, rfl, Nat.zero_le _, Nat.le_refl _, Nat.le_refl _, BB.out⟩
  case round =>
    obtain ⟨L, a, f, rfl, hO, HE, ha, hf, hL, hb⟩ := hrel
    have HO := hid hO
    have HB := hid hb
    clear hO hb h0
    cases hr : rrd j a with
    | none =>
      have CN := hid (fun (W : World) => CR.out W a)
      rw [rrR_none hr] at CN
      have HZ : Hid (rcs j = (L, (a : Int))) := hid (by rw [HE.out, rrs_stop hr, List.append_nil])
      clear hr
      go_wp2_with fail
      refine (CN.out _).mono ?_; rintro e w1 ⟨rfl, hb1⟩
      have B1 := hid (btr HB.out hb1)
      have O1 := hid (own_later HO.out hb1)
      clear hb1
      go_wp2
      refine bodyPost_ret (v := .tuple #[u4, .int .i64 (a : Int)]) (by simp [results, Tryd.results7, go_sem]) rfl ?_
      exact ⟨_, by rw [HZ.out], by rw [HZ.out]; exact O1.out, B1.out⟩
    | some p =>
      obtain ⟨t, c⟩ := p
      obtain ⟨h1, h2, h3⟩ := rrd_in hr
      obtain ⟨k, rfl⟩ : ∃ k : Nat, c = k := ⟨c.toNat, by omega⟩
      obtain ⟨g, rfl⟩ : ∃ g, f = g + 1 := ⟨f - 1, by omega⟩
      have CN := hid (fun (W : World) => CR.out W a)
      rw [rrR_some hr] at CN
      have HZ : Hid (rcs j = ((L ++ [t]) ++ (rrs j g k).1, (rrs j g k).2)) := hid (by rw [HE.out, rrs_next hr, List.append_assoc]; rfl)
      have hlen : (lsts L).length ≤ 1000000 := by unfold lsts; rw [List.length_map]; have := HJ.out; omega
      have HL := hid hlen
      have hkm : j.size + 1 - k < j.size + 1 - a := by omega
      have HKM := hid hkm
      have HS := hid (show k ≤ j.size ∧ j.size + 1 ≤ g + k ∧ 4 * (L.length + 1) ≤ k by omega)
      clear hr hf hlen h1 h2 h3 ha hL hkm
      go_wp2_with fail
      refine (CN.out _).mono ?_; rintro e w1 ⟨rfl, hb1⟩
      have B1 := hid (btr HB.out hb1)
      have O1 := hid (own_later HO.out hb1)
      clear hb1
      go_wp2_with (at_builtin; refine wpList_append_str w1 rfl (.tmp 21) (.tmp 23) 25 rfl w.heap.size 9 Tryd.info9 Tryd.underlying25 _ (lsts L) (by rfl) (by have h := O1.out; rw [show (lsts L).length = L.length by unfold lsts; simp]; exact h) _ t.data.toList (by rfl) rfl HL.out B1.out.size ?_; intro v1 w2 hown1 hb2)
      go_roundw
      case rel => exact ⟨L ++ [t], k, g, rfl, by rw [← lsts_snoc] at hown1; rw [show (lsts (L ++ [t])).length = (L ++ [t]).length by unfold lsts; simp] at hown1; exact hown1, HZ, HS.out.1, HS.out.2.1, by rw [List.length_append]; exact HS.out.2.2, B1.out.trans hb2⟩
      case measure => simp [intOf]; have := HKM.out; omega
/-- Does a text begin with another one? -/
def pre12 (x y : ByteArray) : Bool := decide (y.size ≤ x.size) && (x.extract 0 y.size).toList == y.toList
theorem hasPre0_any (x y : ByteArray) (w : World) (_hx : x.size ≤ 1048576) (_hy : y.size ≤ 1048576) :
    Calls Tryd.prog 33 #[.string x, .string y] w fun e w' => e = .returned (.bool (pre12 x y)) ∧ w = w' := by
  by_cases h : y.size ≤ x.size
  · have HP : Hid (pre12 x y = ((x.extract 0 y.size).toList == y.toList)) := hid (by unfold pre12; rw [decide_eq_true h, Bool.true_and])
    rw [HP.out]
    go_enter Tryd.func33, Tryd.ntmps33
    go_wp2
    go_ret
    exact ⟨rfl, rfl⟩
  · have HP : Hid (pre12 x y = false) := hid (by unfold pre12; rw [decide_eq_false h, Bool.false_and])
    rw [HP.out]
    go_enter Tryd.func33, Tryd.ntmps33
    go_wp2
    go_ret
    exact ⟨rfl, rfl⟩
theorem hasPre_any (x y : ByteArray) (w : World) (hx : x.size ≤ 1048576) (hy : y.size ≤ 1048576) :
    Calls Tryd.prog 27 #[.string x, .string y] w fun e w' => e = .returned (.bool (pre12 x y)) ∧ w = w' := by
  go_enter Tryd.func27, Tryd.ntmps27
  go_wp2_with fail
  refine (hasPre0_any x y _ hx hy).mono ?_; rintro e w1 ⟨rfl, rfl⟩
  go_wp2
  go_ret
  exact ⟨rfl, rfl⟩
set_option maxHeartbeats 400000 in
set_option maxRecDepth 100000 in
theorem implRecord_any (t : ByteArray) (w : World) (ht : t.size ≤ 1048576) (hn : Nib w) :
    Calls Tryd.prog 6 #[.string t] w fun e w' => e = .returned (rtR t) ∧ Below w.heap.size w w' := by
  have HN := hid hn
  clear hn
  by_cases h0 : t = ⟨#[]⟩
  · subst h0
    have HA : Hid (rtR ⟨#[]⟩ = .tuple #[.string ⟨#[]⟩, .bool false]) := hid rfl
    rw [HA.out]
    go_enter Tryd.func6, Tryd.ntmps6
    go_wp2
    go_ret2
    exact ⟨rfl, bre _⟩
  · have hne : t.toList.isEmpty = false := by
      rw [ByteArray.toList_eq]
      cases hl : t.data.toList with
      | nil => exact absurd (by cases t; simp only [ByteArray.mk.injEq]; simpa using hl) h0
      | cons => rfl
    have hz : 1 ≤ t.size := by
      rcases Nat.eq_zero_or_pos t.size with h | h
      · exact absurd (by cases t; simp only [ByteArray.mk.injEq]; simpa [ByteArray.size] using h) h0
      · exact h
    clear h0
    by_cases h : t.size ≤ 6000
    · have HA : Hid (rtR t = .tuple #[.string (rtx t), .bool true]) := hid (if_pos (by unfold rtOk; exact decide_eq_true ⟨hz, h⟩))
      have CV := hid (fun (W : World) => implShort_yes t W (by omega))
      have hz2 := vi_5 _ h
      have hv : (⟨(vbs t.size).toArray⟩ : ByteArray) = vi t.size := rfl
      obtain ⟨x, hx⟩ : ∃ x, vi t.size = x := ⟨_, rfl⟩
      rw [hv, hx] at CV
      rw [hx] at hz2
      have CS := hid (fun (W : World) (hn : Nib W) => implSealed_yes (x ++ t) W (by rw [ByteArray.size_append]; omega) hn)
      have HX := hid hx
      clear hx hv ht
      rw [HA.out]
      go_enter Tryd.func6, Tryd.ntmps6
      go_wp2_with fail
      refine (CV.out _).mono ?_; rintro e w1 ⟨rfl, hb1⟩
      have B1 := hid hb1
      have N1 := hid (HN.out.later hb1 (World.block_lt_of_cell? _ _ (HN.out 0 (by omega))))
      clear hb1
      go_wp2_with fail
      refine (CS.out _ N1.out).mono ?_; rintro e w2 ⟨rfl, hb2⟩
      have B2 := hid (btr B1.out hb2)
      clear hb2
      go_wp2
      refine bodyPost_ret (v := .tuple #[.string ((x ++ t) ++ tail4 (x ++ t)), .bool true]) (by simp [results, Tryd.results6, go_sem]) rfl ⟨?_, B2.out⟩
      rw [← HX.out]
      rfl
    · have HA : Hid (rtR t = .tuple #[.string ⟨#[]⟩, .bool false]) := hid (if_neg (by unfold rtOk; rw [decide_eq_false (fun hh => h hh.2)]; decide))
      rw [HA.out]
      go_enter Tryd.func6, Tryd.ntmps6
      go_wp2
      go_ret2
      exact ⟨rfl, bre _⟩
theorem rtx_size (t : ByteArray) : (rtx t).size = (vbs t.size).length + t.size + 4 := by
  unfold rtx
  rw [ByteArray.size_append, ByteArray.size_append, tail4_size]
  have : (vi t.size).size = (vbs t.size).length := by show (vbs ((t.size : Int).toNat)).toArray.size = _; simp
  omega
theorem rsh_size {j t : ByteArray} {a : Nat} {c : Int} (ha : a ≤ j.size) (h : rsh j a = some (t, c)) : c + 4 = (a + (rtx t).size : Nat) := by
  obtain ⟨h1, h2, h3⟩ := rsh_stood h
  have h4 := congrArg List.length h1
  rw [List.length_append, List.length_append, List.length_drop, List.length_drop, bl_len, bl_len] at h4
  have h5 := rtx_size t
  omega
theorem pre12_is {j r : ByteArray} {a : Nat} (ha : a ≤ j.size) : pre12 (j.extract a j.size) r = true ↔ a + r.size ≤ j.size ∧ r = j.extract a (a + r.size) := by
  have hz : (j.extract a j.size).size = j.size - a := by rw [ByteArray.size_extract]; omega
  unfold pre12
  rw [Bool.and_eq_true, decide_eq_true_eq, hz, ByteArray.toList_eq, ByteArray.toList_eq, beq_iff_eq]
  constructor
  · rintro ⟨h1, h2⟩
    refine ⟨by omega, ?_⟩
    have h3 := bl_inj h2
    rw [← h3]
    rw [ByteArray.extract_extract]
    congr 1
    rw [ByteArray.size_extract]
    omega
  · rintro ⟨h1, h2⟩
    refine ⟨by omega, ?_⟩
    have h3 : (j.extract a j.size).extract 0 r.size = r := by
      rw [ByteArray.extract_extract]
      conv => rhs; rw [h2]
      congr 1
      omega
    rw [h3]
theorem rrd_p {j t : ByteArray} {a : Nat} {c : Int} (ha : a ≤ j.size) (h : rsh j a = some (t, c)) (hk : rtOk t = true) (hp : pre12 (j.extract a j.size) (rtx t) = true) : rrR j a = .tuple #[.string t, .int .i64 (a + (rtx t).size : Nat), .bool true] := by
  obtain ⟨h1, h2⟩ := (pre12_is ha).1 hp
  have h3 := rsh_size ha h
  rw [rrd_y h ⟨by omega, hk, by rw [h3]; exact h2⟩, h3]
theorem rrd_q {j t : ByteArray} {a : Nat} {c : Int} (ha : a ≤ j.size) (h : rsh j a = some (t, c)) (hp : pre12 (j.extract a j.size) (rtx t) = false) : rrR j a = .tuple #[.string ⟨#[]⟩, .int .i64 0, .bool false] := by
  have h3 := rsh_size ha h
  refine rrd_n2 h fun hh => ?_
  rw [(pre12_is ha).2 ⟨by omega, by have := hh.2.2; rw [h3] at this; exact this⟩] at hp
  cases hp
theorem Nib.upon {w w' : World} (h : Nib w) (hb : Below w.heap.size w w') : Nib w' := h.later hb (World.block_lt_of_cell? _ _ (h 0 (by omega)))
theorem rshi12_l (s : ByteArray) (b : Int) (hs : s.size ≤ 1048576) : ∃ (t : ByteArray) (c : Int) (ok : Bool), Hid ((ok = true ∧ rsh s b = some (t, c)) ∨ (ok = false ∧ t = ⟨#[]⟩ ∧ rsh s b = none)) ∧ Hid (∀ w, Calls Tryd.prog 26 #[.string s, .int .i64 b] w fun e w' => e = .returned (.tuple #[.string t, .int .i64 c, .bool ok]) ∧ Below w.heap.size w w') := by
  have h := implRsh s b (hs := hs)
  unfold rshT at h
  cases hr : rsh s b with
  | none => rw [hr] at h; exact ⟨⟨#[]⟩, 0, false, Or.inr ⟨rfl, rfl, rfl⟩, h⟩
  | some p => rw [hr] at h; exact ⟨p.1, p.2, true, Or.inl ⟨rfl, rfl⟩, h⟩
set_option maxHeartbeats 800000 in
set_option maxRecDepth 100000 in
theorem implRecAt_any (j : ByteArray) (a : Nat) (w : World) (hj : j.size ≤ 1048576) (ha : a ≤ j.size) (hn : Nib w) :
    Calls Tryd.prog 18 #[.string j, .int .i64 (a : Int)] w fun e w' => e = .returned (rrR j a) ∧ Below w.heap.size w w' := by
  have HN := hid hn
  clear hn
  obtain ⟨t, c, ok, hr, CR⟩ := rshi12_l j a hj
  rcases hr.out with ⟨rfl, hh⟩ | ⟨rfl, rfl, hh⟩
  · obtain ⟨h1, h2, h3, h4⟩ := rsh_in hh
    have CT := hid (fun (W : World) (hN : Nib W) => implRecord_any t W (by omega) hN)
    cases hk : rtOk t
    · have HA := hid (rrd_n2 (a := a) hh (by rw [hk]; simp))
      have ht : rtR t = .tuple #[.string ⟨#[]⟩, .bool false] := by unfold rtR; rw [hk]; rfl
      rw [ht] at CT
      rw [HA.out]
      clear hr hh hk ht
      go_enter Tryd.func18, Tryd.ntmps18
      go_wp2_with fail
      refine (CR.out _).mono ?_; rintro e w1 ⟨rfl, hb1⟩
      have B1 := hid hb1
      have N1 := hid (HN.out.upon hb1)
      clear hb1
      go_wp2_with fail
      refine (CT.out _ N1.out).mono ?_; rintro e w2 ⟨rfl, hb2⟩
      have B2 := hid (btr B1.out hb2)
      clear hb2
      go_wp2
      exact bodyPost_ret (v := .tuple #[.string ⟨#[]⟩, .int .i64 0, .bool false]) (by simp [results, Tryd.results18, go_sem]) rfl ⟨rfl, B2.out⟩
    · have ht : rtR t = .tuple #[.string (rtx t), .bool true] := by unfold rtR; rw [hk]; rfl
      rw [ht] at CT
      have hxz : a + (rtx t).size ≤ 2000000 ∧ (rtx t).size ≤ 1048576 := by
        have h5 := rtx_size t
        have h6 : t.size ≤ 6000 := (of_decide_eq_true hk).2
        have h7 := vi_5 _ h6
        have : (vi t.size).size = (vbs t.size).length := by show (vbs ((t.size : Int).toNat)).toArray.size = _; simp
        omega
      have HZ := hid (show (j.extract a j.size).size ≤ 1048576 by rw [ByteArray.size_extract]; omega)
      cases hp : pre12 (j.extract a j.size) (rtx t)
      · have HA := hid (rrd_q ha hh hp)
        obtain ⟨x, hx⟩ : ∃ x, rtx t = x := ⟨_, rfl⟩
        rw [hx] at CT hp hxz
        have CP := hid (fun (W : World) => hasPre_any (j.extract a j.size) x W HZ.out hxz.2)
        rw [hp] at CP
        rw [HA.out]
        clear hr hh hk ht hx hp
        go_enter Tryd.func18, Tryd.ntmps18
        go_wp2_with fail
        refine (CR.out _).mono ?_; rintro e w1 ⟨rfl, hb1⟩
        have B1 := hid hb1
        have N1 := hid (HN.out.upon hb1)
        clear hb1
        go_wp2_with fail
        refine (CT.out _ N1.out).mono ?_; rintro e w2 ⟨rfl, hb2⟩
        have B2 := hid (btr B1.out hb2)
        clear hb2
        go_wp2_with fail
        refine (CP.out _).mono ?_; rintro e w3 ⟨rfl, rfl⟩
        go_wp2
        exact bodyPost_ret (v := .tuple #[.string ⟨#[]⟩, .int .i64 0, .bool false]) (by simp [results, Tryd.results18, go_sem]) rfl ⟨rfl, B2.out⟩
      · have HA := hid (rrd_p ha hh hk hp)
        obtain ⟨x, hx⟩ : ∃ x, rtx t = x := ⟨_, rfl⟩
        rw [hx] at CT hp hxz HA
        have CP := hid (fun (W : World) => hasPre_any (j.extract a j.size) x W HZ.out hxz.2)
        rw [hp] at CP
        have hw : wrap64 ((a : Int) + (x.size : Int)) = ((a + x.size : Nat) : Int) := by unfold wrap64; omega
        rw [HA.out]
        clear hr hh hk ht hx hp
        go_enter Tryd.func18, Tryd.ntmps18
        go_wp2_with fail
        refine (CR.out _).mono ?_; rintro e w1 ⟨rfl, hb1⟩
        have B1 := hid hb1
        have N1 := hid (HN.out.upon hb1)
        clear hb1
        go_wp2_with fail
        refine (CT.out _ N1.out).mono ?_; rintro e w2 ⟨rfl, hb2⟩
        have B2 := hid (btr B1.out hb2)
        clear hb2
        go_wp2_with fail
        refine (CP.out _).mono ?_; rintro e w3 ⟨rfl, rfl⟩
        go_wp2
        exact bodyPost_ret (v := .tuple #[.string t, .int .i64 ((a + x.size : Nat) : Int), .bool true]) (by simp [results, Tryd.results18, go_sem]) rfl ⟨rfl, B2.out⟩
  · have HA := hid (rrd_n1 hh)
    have CT := hid (fun (W : World) (hN : Nib W) => implRecord_any ⟨#[]⟩ W (by decide) hN)
    have ht : rtR ⟨#[]⟩ = .tuple #[.string ⟨#[]⟩, .bool false] := rfl
    rw [ht] at CT
    rw [HA.out]
    clear hr hh ht
    go_enter Tryd.func18, Tryd.ntmps18
    go_wp2_with fail
    refine (CR.out _).mono ?_; rintro e w1 ⟨rfl, hb1⟩
    have B1 := hid hb1
    have N1 := hid (HN.out.upon hb1)
    clear hb1
    go_wp2_with fail
    refine (CT.out _ N1.out).mono ?_; rintro e w2 ⟨rfl, hb2⟩
    have B2 := hid (btr B1.out hb2)
    clear hb2
    go_wp2
    exact bodyPost_ret (v := .tuple #[.string ⟨#[]⟩, .int .i64 0, .bool false]) (by simp [results, Tryd.results18, go_sem]) rfl ⟨rfl, B2.out⟩
set_option maxHeartbeats 800000 in
set_option maxRecDepth 100000 in
theorem implRecords_any (j : ByteArray) (w : World) (hj : j.size ≤ 1048576) (hn : Nib w) :
    Calls Tryd.prog 8 #[.string j] w fun e w' => Rr12 j w e w' := by
  have HJ := hid hj
  have HN := hid hn
  have CR := hid (fun (W : World) (a : Nat) (ha : a ≤ j.size) (hN : Nib W) => implRecAt_any j a W hj ha hN)
  have O0 : w.ownsRow w.heap.size 9 1 (.slice none 0 0) 0 [] := ⟨rfl, Or.inl ⟨rfl, rfl⟩⟩
  have OO := hid O0
  clear hj O0 hn
  go_enter Tryd.func8, Tryd.ntmps8
  go_wp2
  go_loopw [4, 5] (fun ov av wr => ∃ (L : List ByteArray) (a f : Nat), av = .int .i64 (a : Int) ∧ wr.ownsRow w.heap.size 9 1 ov L.length ((lsts L).map sv) ∧ Hid (rcs j = (L ++ (rrs j f a).1, (rrs j f a).2)) ∧ a ≤ j.size ∧ j.size + 1 ≤ f + a ∧ 4 * L.length ≤ a ∧ Below w.heap.size w wr) (fun _ av _ => j.size + 1 - (intOf av).toNat)
  case atStart => exact ⟨[], 0, j.size + 1, rfl, OO.out, rfl, Nat.zero_le _, Nat.le_refl _, Nat.le_refl _, bre _⟩
  case round =>
    obtain ⟨L, a, f, rfl, hO, HE, ha, hf, hL, hb⟩ := hrel
    have HO := hid hO
    have HB := hid hb
    have NR := hid (HN.out.upon hb)
    have HA := hid ha
    clear hO hb
    cases hr : rrd j a with
    | none =>
      have CN := hid (fun (W : World) (hN : Nib W) => CR.out W a HA.out hN)
      rw [rrR_none hr] at CN
      have HZ : Hid (rcs j = (L, (a : Int))) := hid (by rw [HE.out, rrs_stop hr, List.append_nil])
      clear hr
      go_wp2_with fail
      refine (CN.out _ NR.out).mono ?_; rintro e w1 ⟨rfl, hb1⟩
      have B1 := hid (btr HB.out hb1)
      have O1 := hid (own_later HO.out hb1)
      clear hb1
      go_wp2
      refine bodyPost_ret (v := .tuple #[u4, .int .i64 (a : Int)]) (by simp [results, Tryd.results8, go_sem]) rfl ?_
      exact ⟨_, by rw [HZ.out], by rw [HZ.out]; exact O1.out, B1.out⟩
    | some p =>
      obtain ⟨t, c⟩ := p
      obtain ⟨h1, h2, h3⟩ := rrd_in hr
      obtain ⟨k, rfl⟩ : ∃ k : Nat, c = k := ⟨c.toNat, by omega⟩
      obtain ⟨g, rfl⟩ : ∃ g, f = g + 1 := ⟨f - 1, by omega⟩
      have CN := hid (fun (W : World) (hN : Nib W) => CR.out W a HA.out hN)
      rw [rrR_some hr] at CN
      have HZ : Hid (rcs j = ((L ++ [t]) ++ (rrs j g k).1, (rrs j g k).2)) := hid (by rw [HE.out, rrs_next hr, List.append_assoc]; rfl)
      have hlen : (lsts L).length ≤ 1000000 := by unfold lsts; rw [List.length_map]; have := HJ.out; omega
      have HL := hid hlen
      have hkm : j.size + 1 - k < j.size + 1 - a := by omega
      have HKM := hid hkm
      have HS := hid (show k ≤ j.size ∧ j.size + 1 ≤ g + k ∧ 4 * (L.length + 1) ≤ k by omega)
      clear hr hf hlen h1 h2 h3 ha hL hkm
      go_wp2_with fail
      refine (CN.out _ NR.out).mono ?_; rintro e w1 ⟨rfl, hb1⟩
      have B1 := hid (btr HB.out hb1)
      have O1 := hid (own_later HO.out hb1)
      clear hb1
      go_wp2_with (at_builtin; refine wpList_append_str w1 rfl (.tmp 20) (.tmp 22) 25 rfl w.heap.size 9 Tryd.info9 Tryd.underlying25 _ (lsts L) (by rfl) (by have h := O1.out; rw [show (lsts L).length = L.length by unfold lsts; simp]; exact h) _ t.data.toList (by rfl) rfl HL.out B1.out.size ?_; intro v1 w2 hown1 hb2)
      go_roundw
      case rel => exact ⟨L ++ [t], k, g, rfl, by rw [← lsts_snoc] at hown1; rw [show (lsts (L ++ [t])).length = (L ++ [t]).length by unfold lsts; simp] at hown1; exact hown1, HZ, HS.out.1, HS.out.2.1, by rw [List.length_append]; exact HS.out.2.2, B1.out.trans hb2⟩
      case measure => simp [intOf]; have := HKM.out; omega
set_option maxHeartbeats 400000 in
set_option maxRecDepth 100000 in
theorem lawRecord_any (t : ByteArray) (w : World) (hm : t.size ≤ maxLen) (hn : Nib w) :
    Calls Tryd.prog 3 #[.string t] w fun e w' => e = .returned (.bool true) ∧ Below w.heap.size w w' := by
  have HN := hid hn
  have hm2 : (t.size : Int) ≤ 9223372036854775807 := by unfold maxLen at hm; omega
  by_cases h : t.size ≤ 1048576
  · have h2 : ¬ (1048576 : Int) < (t.size : Int) := by omega
    have CS := hid (fun (W : World) => specRecord_any t W h)
    have CI := hid (fun (W : World) (hn : Nib W) => implRecord_any t W h hn)
    obtain ⟨x, q, hq⟩ : ∃ x q, rtR t = .tuple #[.string x, .bool q] := by
      unfold rtR
      split
      · exact ⟨_, _, rfl⟩
      · exact ⟨_, _, rfl⟩
    rw [hq] at CS CI
    clear hq hn hm hm2 h
    cases q
    all_goals
      go_enter Tryd.func3, Tryd.ntmps3
      go_wp2_with fail
      refine (CS.out _).mono ?_; rintro e w1 ⟨rfl, hb⟩
      have B1 := hid hb; have N1 := hid (HN.out.upon hb)
      clear hb
      go_wp2_with fail
      refine (CI.out _ N1.out).mono ?_; rintro e w2 ⟨rfl, hb⟩
      have B2 := hid (btr B1.out hb)
      clear hb
      go_wp2
      go_ret
      exact ⟨rfl, B2.out⟩
  · have h2 : (1048576 : Int) < (t.size : Int) := by omega
    clear hn hm hm2 h
    go_enter Tryd.func3, Tryd.ntmps3
    go_wp2
    go_ret
    exact ⟨rfl, bre _⟩
theorem rowV {w : World} {B n : Nat} {v : Value} {xs : List (List UInt8)} (h : w.ownsRow B 9 1 v n (xs.map sv)) :
    ∃ ao ga cap, v = .slice ao n cap ∧ xs.length = n ∧ (0 < n → ao = some ⟨ga, 0, none⟩ ∧ ga < w.heap.size) ∧ ∀ i (h : i < xs.length), w.cell? ⟨ga, i, none⟩ = some (sv xs[i]) := by
  have hl : xs.length = n := by have := h.1; simpa using this
  rcases h.2 with ⟨h1, h2⟩ | ⟨g, cap, _, h1, _⟩
  · exact ⟨none, 0, 0, by rw [h1, h2], hl, fun hp => by omega, fun i hi => by omega⟩
  · subst h1
    refine ⟨_, g, cap, rfl, hl, fun _ => ⟨rfl, (h.lt g rfl).2⟩, fun i hi => ?_⟩
    rw [h.cellAt i (by omega), List.getElem?_map, List.getElem?_eq_getElem hi]; rfl
theorem markNil (k : Nat) (w : World) (_hk : k ≤ 1000) : Calls Tryd.prog 10 #[.slice none 0 0, .int .i64 k] w fun e w' => e = .returned (.int .i64 k) ∧ w = w' := by
  go_enter Tryd.func10, Tryd.ntmps10
  go_wp2
  refine wp_loop_rounds 1 ?_
  rw [rounds_succ]
  go_wp2
  go_ret
  exact ⟨rfl, rfl⟩
theorem heldNil (k : Nat) (w : World) (_hk : k ≤ 1000) : Calls Tryd.prog 11 #[.slice none 0 0, .int .i64 k] w fun e w' => e = .returned (.int .i64 k) ∧ w = w' := by
  go_enter Tryd.func11, Tryd.ntmps11
  go_wp2
  refine wp_loop_rounds 1 ?_
  rw [rounds_succ]
  go_wp2
  go_ret
  exact ⟨rfl, rfl⟩
theorem markR_any (B n : Nat) (v : Value) (xs : List Value) (w : World) (hown : w.ownsRow B 9 1 v n xs) (hn : n ≤ 300000) :
    Calls Tryd.prog 10 #[v, .int .i64 1] w fun e w' => e = .returned (.int .i64 (1 + n : Nat)) ∧ w'.ownsRow B 9 1 v n ((marks 1 n).map sv) ∧ Below B w w' := by
  rcases hown.2 with ⟨h1, h2⟩ | ⟨g, cap, cur, h1, h2, _⟩
  · subst h1; subst h2
    refine (markNil 1 w (by decide)).mono ?_
    rintro e w' ⟨rfl, rfl⟩
    exact ⟨rfl, ⟨rfl, Or.inl ⟨rfl, rfl⟩⟩, Below.refl _ _⟩
  · subst h1
    exact markS_any B g n cap 1 xs w hown (by decide) (by omega) h2
theorem heldR_any (B n : Nat) (v : Value) (w : World) (hown : w.ownsRow B 9 1 v n ((marks 1 n).map sv)) (hn : n ≤ 300000) :
    Calls Tryd.prog 11 #[v, .int .i64 1] w fun e w' => e = .returned (.int .i64 (1 + n : Nat)) ∧ Below w.heap.size w w' := by
  rcases hown.2 with ⟨h1, h2⟩ | ⟨g, cap, cur, h1, h2, _⟩
  · subst h1; subst h2
    refine (heldNil 1 w (by decide)).mono ?_
    rintro e w' ⟨rfl, rfl⟩
    exact ⟨rfl, bre _⟩
  · subst h1
    exact heldS_any B g n cap 1 w hown (by decide) (by omega)
theorem bdn12 {B : Nat} {w W : World} (h : Below B w W) (n : Nat) : Below B w (W.drewN n) := ⟨h.os, h.tape, h.output, h.size, h.block⟩
theorem rrs_len (j : ByteArray) : ∀ (f : Nat) (a : Int), 0 ≤ a → a ≤ j.size → 4 * (rrs j f a).1.length + a ≤ j.size := by
  intro f
  induction f with
  | zero => intro a h0 h1; simp only [rrs, List.length_nil]; omega
  | succ f ih =>
    intro a h0 h1
    cases hr : rrd j a with
    | none => rw [rrs_stop hr]; simp only [List.length_nil]; omega
    | some p =>
      obtain ⟨t, c⟩ := p
      obtain ⟨h2, h3, h4⟩ := rrd_in hr
      rw [rrs_next hr]
      have := ih c (by omega) h4
      simp only [List.length_cons]
      omega
theorem recs_l (j : ByteArray) (hj : j.size ≤ 1048576) : ∃ (n : Nat) (L : List (List UInt8)) (c : Int), L.length = n ∧ n ≤ 300000 ∧
    (∀ w e w', Rr12 j w e w' → ∃ v, e = .returned (.tuple #[v, .int .i64 c]) ∧ w'.ownsRow w.heap.size 9 1 v n (L.map sv) ∧ Below w.heap.size w w') := by
  refine ⟨(rcs j).1.length, lsts (rcs j).1, (rcs j).2, by unfold lsts; simp, ?_, fun w e w' h => h⟩
  have := rrs_len j (j.size + 1) 0 (by omega) (by omega)
  unfold rcs
  omega
set_option maxHeartbeats 1000000 in
set_option maxRecDepth 100000 in
theorem lawRecords_any (j : ByteArray) (w : World) (hm : j.size ≤ maxLen) (hn : Nib w) :
    Calls Tryd.prog 4 #[.string j] w fun e w' => e = .returned (.bool true) ∧ Below w.heap.size w w' := by
  have HN := hid hn
  have hm2 : (j.size : Int) ≤ 9223372036854775807 := by unfold maxLen at hm; omega
  by_cases h : j.size ≤ 1048576
  · have h2 : ¬ (1048576 : Int) < (j.size : Int) := by omega
    obtain ⟨n, L, c, hL, hn3, hP⟩ := recs_l j h
    have HL := hid hL
    have HN3 := hid hn3
    have CS := hid (fun (W : World) => (specRecords_any j W h).mono (fun _ _ h => hP _ _ _ h))
    have CI := hid (fun (W : World) (hn : Nib W) => (implRecords_any j W h hn).mono (fun _ _ h => hP _ _ _ h))
    clear hn hm hm2 h hL hn3 hP
    go_enter Tryd.func4, Tryd.ntmps4
    go_wp2_with fail
    refine (CS.out _).mono ?_; rintro e w1 ⟨v0, rfl, ho, hb⟩
    obtain ⟨ao, ga, ca, hv0, hxl, hga, hcell⟩ := rowV ho
    subst hv0
    have B1 := hid hb; have N1 := hid (HN.out.upon hb); have HGA := hid hga; have HC := hid hcell
    clear ho hb hxl hga hcell
    go_wp2_with fail
    refine (CI.out _ N1.out).mono ?_; rintro e w2 ⟨v1, rfl, ho, hb⟩
    obtain ⟨bo, gb, cb, hv1, hxl, hgb, hcell⟩ := rowV ho
    have B2 := hid hb; have HO := hid ho; have HGB := hid hgb; have HD := hid hcell
    rw [hv1] at HO
    subst hv1
    clear ho hb hxl hgb hcell
    go_wp2_with fail
    refine (eqS_any bo ao n cb ca gb ga L _ HL.out (by have := HN3.out; omega) (fun h => (HGB.out h).1) (fun h => (HGA.out h).1) HD.out
      (fun i hi => (B2.out.cell (p := ⟨ga, i, none⟩) ((HGA.out (by have := HL.out; omega)).2)).trans (HC.out i hi))).mono ?_
    rintro e w2' ⟨rfl, k1, rfl⟩
    go_wp2_with fail
    refine (markR_any w1.heap.size n _ _ (w2.drewN k1) HO.out HN3.out).mono ?_; rintro e w3 ⟨rfl, ho, hb⟩
    have B3 := hid ((bdn12 B2.out k1).trans hb); have HO3 := hid ho
    clear ho hb HD HO
    go_wp2_with fail
    refine (heldR_any w1.heap.size n _ _ HO3.out HN3.out).mono ?_; rintro e w4 ⟨rfl, hb⟩
    have B4 := hid (B3.out.trans (hb.mono B3.out.size)); have HO4 := hid (own_later HO3.out hb); have N4 := hid (N1.out.upon (B3.out.trans (hb.mono B3.out.size)))
    clear hb HO3
    go_wp2_with fail
    refine (CI.out _ N4.out).mono ?_; rintro e w5 ⟨v2, rfl, ho, hb⟩
    obtain ⟨co, gc, cc, hv2, hxl, hgc, hcell⟩ := rowV ho
    subst hv2
    have B5 := hid (B4.out.trans (hb.mono B4.out.size)); have HO5 := hid (own_later HO4.out hb); have HGC := hid hgc; have HE := hid hcell
    clear ho hb hxl hgc hcell HO4
    go_wp2_with fail
    refine (eqS_any co ao n cc ca gc ga L _ HL.out (by have := HN3.out; omega) (fun h => (HGC.out h).1) (fun h => (HGA.out h).1) HE.out
      (fun i hi => (B5.out.cell (p := ⟨ga, i, none⟩) ((HGA.out (by have := HL.out; omega)).2)).trans (HC.out i hi))).mono ?_
    rintro e w5' ⟨rfl, k2, rfl⟩
    go_wp2_with fail
    refine (heldR_any w1.heap.size n _ (w5.drewN k2) HO5.out HN3.out).mono ?_; rintro e w6 ⟨rfl, hb⟩
    go_wp2
    go_ret
    exact ⟨rfl, (B1.out.trans ((bdn12 B5.out k2).mono B1.out.size)).trans (hb.mono (Nat.le_trans B1.out.size B5.out.size))⟩
  · have h2 : (1048576 : Int) < (j.size : Int) := by omega
    clear hn hm hm2 h
    go_enter Tryd.func4, Tryd.ntmps4
    go_wp2
    go_ret
    exact ⟨rfl, bre _⟩
end Go.Proofs.YtpannfkfaagflaaDoor
