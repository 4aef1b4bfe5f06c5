/- Qc, Qd, Qe, Qf, Qh, Qi, Qj. -/
import Derived.Test.YtmalpgbdemcmdaaDoorR1
namespace Go.Proofs.YtmalpgbdemcmdaaDoor
open Go.RowKit
/-- Block k holds a token. -/
def Tok (W : World) (k ty : Nat) (kd : Int) (t : ByteArray) : Prop := W.heap[k]? = some (.cells #[.int .i64 kd, .string t] ty)
theorem Tok.new (w : World) (ty : Nat) (kd : Int) (t : ByteArray) : Tok (w.alloc (.cells #[.int .i64 kd, .string t] ty)) w.heap.size ty kd t := heap_alloc_new w _
theorem Tok.lt {W : World} {k ty : Nat} {kd : Int} {t : ByteArray} (h : Tok W k ty kd t) : k < W.heap.size := (Array.getElem?_eq_some_iff.1 h).1
theorem Tok.later {W W' : World} {k ty : Nat} {kd : Int} {t : ByteArray} (h : Tok W k ty kd t) (hb : Below W.heap.size W W') : Tok W' k ty kd t := (hb.block k h.lt).trans h
theorem Tok.cells {W : World} {k ty : Nat} {kd : Int} {t : ByteArray} (h : Tok W k ty kd t) : W.cell? ⟨k, 0, none⟩ = some (.int .i64 kd) ∧ W.cell? ⟨k, 1, none⟩ = some (.string t) := by
  constructor <;> (unfold World.cell?; rw [show W.heap[(⟨k, _, none⟩ : Addr).block]? = _ from h]; rfl)
def ttx (kd : Int) (t : ByteArray) : ByteArray := if kd = 1 then t else if qok t = true then qtx t else (⟨#[123]⟩ ++ ⟨(dg t.size).toArray⟩) ++ ⟨#[125, 13, 10]⟩ ++ t
theorem qtR_yes {t : ByteArray} (h : qok t = true) : qtR t = .tuple #[.string (qtx t), .bool true] := by rw [qtR, if_pos h]
theorem qtR_no {t : ByteArray} (h : ¬ qok t = true) : qtR t = .tuple #[.string ⟨#[]⟩, .bool false] := by rw [qtR, if_neg h]
set_option maxHeartbeats 1600000 in
set_option maxRecDepth 100000 in
theorem specTokenText_any (kd : Int) (t : ByteArray) (w : World) (ht : t.size ≤ 1048576) :
    Calls Tryd.prog 20 #[.agg #[.int .i64 kd, .string t]] w fun e w' => e = .returned (.string (ttx kd t)) ∧ Below w.heap.size w w' := by
  obtain ⟨W0, hW0⟩ : ∃ W0, w.alloc (.cells #[.int .i64 kd, .string t] 28) = W0 := ⟨_, rfl⟩
  have k0 : Tok W0 w.heap.size 28 kd t := by subst hW0; exact Tok.new w _ kd t
  have b0 : Below w.heap.size w W0 := by subst hW0; exact bpush (bre _) _
  have K0 := hid k0
  have B0 := hid b0
  have c0 := k0.cells
  clear k0 b0
  by_cases hk : kd = 1
  · subst hk
    go_enter Tryd.func20, Tryd.ntmps20
    go_wp2
    go_ret
    exact ⟨rfl, B0.out⟩
  · have hk1 : (kd == 1) = false := by rw [beq_eq_false_iff_ne]; exact hk
    have HK := hid hk
    clear hk
    by_cases hq : qok t = true
    · have HQ := hid hq
      have HR := hid (qtR_yes hq)
      clear hq
      go_enter Tryd.func20, Tryd.ntmps20
      go_wp2_with fail
      refine (specQuote_any t _ ht).mono ?_; rintro e w1 ⟨rfl, h1⟩
      subst h1
      rw [HR.out]
      clear hW0
      go_wp2
      go_ret
      exact ⟨by rw [ttx, if_neg HK.out, if_pos HQ.out]; rfl, B0.out⟩
    · have HQ := hid hq
      have HR := hid (qtR_no hq)
      clear hq
      go_enter Tryd.func20, Tryd.ntmps20
      go_wp2_with fail
      refine (specQuote_any t _ ht).mono ?_; rintro e w1 ⟨rfl, h1⟩
      subst h1
      rw [HR.out]
      clear hW0
      have hdl : (dg t.size).length ≤ 13 := dg_len 12 t.size (by omega)
      obtain ⟨D, hD⟩ : ∃ D : ByteArray, (⟨(dg t.size).toArray⟩ : ByteArray) = D := ⟨_, rfl⟩
      have hds : D.size ≤ 13 := by
        rw [← hD]
        show (dg t.size).toArray.size ≤ _
        rw [List.size_toArray]
        exact hdl
      have HD := hid hD
      clear hdl hD
      have f1 : (1 + D.size > 9223372036854775807) = False := eq_false (by omega)
      have f2 : (1 + D.size + 3 > 9223372036854775807) = False := eq_false (by omega)
      have f3 : (1 + D.size + 3 + t.size > 9223372036854775807) = False := eq_false (by omega)
      have HS : Hid (∀ W, Below w1.heap.size w1 W → W.cell? ⟨w.heap.size, 1, none⟩ = some (.string t)) := fun W h => (K0.out.later h).cells.2
      go_wp2_with fail
      go_region_held3 (fun W => W.cell? ⟨w.heap.size, 1, none⟩ = some (.string t))
        ((refine HS.out _ ?_; repeat (first | exact bdr (bre _) | exact P2.out | refine btr ?_ (by assumption))))
        ((go_at_call 43; refine (decimal_any t.size _ (by omega)).mono ?_; rintro e w2 ⟨rfl, hb2⟩; rw [HD.out]; have P2 : Hid (Below w1.heap.size w1 w2) := btr (bdr (bre _)) hb2))
      go_wp2
      go_ret
      exact ⟨by rw [ttx, if_neg HK.out, if_neg HQ.out, HD.out]; rfl, btr B0.out P2.out⟩
/-- Block k holds a reader: the text, the place, whether more must come, whether it is none. -/
def Qg (W : World) (k : Nat) (s : ByteArray) (a : Nat) (mo ba : Bool) : Prop := W.heap[k]? = some (.cells #[.string s, .int .i64 (a : Int), .bool mo, .bool ba] 58 (0, 0))
section
variable {W W' : World} {k : Nat} {s : ByteArray} {a : Nat} {mo ba : Bool}
theorem Qg.lt (h : Qg W k s a mo ba) : k < W.heap.size := (Array.getElem?_eq_some_iff.1 h).1
theorem Qg.later (h : Qg W k s a mo ba) (hb : Below W.heap.size W W') : Qg W' k s a mo ba := (hb.block k h.lt).trans h
theorem Qg.cells (h : Qg W k s a mo ba) : W.cell? ⟨k, 0, none⟩ = some (.string s) ∧ W.cell? ⟨k, 1, none⟩ = some (.int .i64 (a : Int)) ∧ W.cell? ⟨k, 2, none⟩ = some (.bool mo) ∧ W.cell? ⟨k, 3, none⟩ = some (.bool ba) :=
  ⟨cell_of_row W k 0 _ _ _ h, cell_of_row W k 1 _ _ _ h, cell_of_row W k 2 _ _ _ h, cell_of_row W k 3 _ _ _ h⟩
theorem Qg.loose (h : Qg W k s a mo ba) : W.frozen? ⟨k, 0, none⟩ = false ∧ W.frozen? ⟨k, 1, none⟩ = false ∧ W.frozen? ⟨k, 2, none⟩ = false ∧ W.frozen? ⟨k, 3, none⟩ = false :=
  ⟨frozen_of_row W k 0 _ _ h, frozen_of_row W k 1 _ _ h, frozen_of_row W k 2 _ _ h, frozen_of_row W k 3 _ _ h⟩
theorem Qg.s1 (h : Qg W k s a mo ba) (a' : Nat) : Qg (W.setCell ⟨k, 1, none⟩ (.int .i64 (a' : Int))) k s a' mo ba := heap_setCell_same W k 1 _ _ (.int .i64 (a' : Int)) h
theorem Qg.s2 (h : Qg W k s a mo ba) (b : Bool) : Qg (W.setCell ⟨k, 2, none⟩ (.bool b)) k s a b ba := heap_setCell_same W k 2 _ _ (.bool b) h
theorem Qg.s3 (h : Qg W k s a mo ba) (b : Bool) : Qg (W.setCell ⟨k, 3, none⟩ (.bool b)) k s a mo b := heap_setCell_same W k 3 _ _ (.bool b) h
end
theorem gdn {a w : World} {r : Option Nat} (h : a.grownBy w r) (n : Nat) : a.grownBy (w.drewN n) r := ⟨h.os, h.tape, h.output, h.size, h.block⟩
/-- How asking for the next sign ends. -/
def Nx (w : World) (k : Nat) (s : ByteArray) (a : Nat) (e : Ending) (w' : World) : Prop :=
  ∃ (c : Nat) (ok : Bool), e = .returned (.tuple #[.int .u8 (c : Int), .bool ok]) ∧ c < 256 ∧ Qg w' k s a (!ok) false ∧ w.grownBy w' (some k) ∧ ((ok = true ∧ ∃ h : a < s.size, s[a].toNat = c) ∨ (ok = false ∧ s.size ≤ a))
set_option maxHeartbeats 800000 in
set_option maxRecDepth 100000 in
theorem next_shut (k : Nat) (s : ByteArray) (a : Nat) (mo ba : Bool) (w : World) (hc : Qg w k s a mo ba) (hm : (mo || ba) = true) :
    Calls Tryd.prog 35 #[.pointer (some ⟨k, 0, none⟩)] w fun e w' => e = .returned (.tuple #[.int .u8 0, .bool false]) ∧ w' = w := by
  have d := hc.cells
  clear hc
  go_enter Tryd.func35, Tryd.ntmps35
  cases mo
  · cases ba
    · cases hm
    · clear hm
      go_wp2
      go_ret2
      exact ⟨rfl, rfl⟩
  · clear hm
    go_wp2
    go_ret2
    exact ⟨rfl, rfl⟩
set_option maxHeartbeats 800000 in
set_option maxRecDepth 100000 in
theorem next_any (k : Nat) (s : ByteArray) (a : Nat) (w : World) (ha : a ≤ 2097152) (hc : Qg w k s a false false) :
    Calls Tryd.prog 35 #[.pointer (some ⟨k, 0, none⟩)] w fun e w' => Nx w k s a e w' := by
  have HC := hid hc
  have d := hc.cells
  clear hc
  by_cases hlt : a < s.size
  · have hI : (0 : Int) ≤ (a : Int) ∧ (a : Int) < (s.size : Int) := by omega
    have hn : ¬ ((s.size : Int) ≤ (a : Int)) := by omega
    obtain ⟨c, hcx⟩ : ∃ c : Nat, s[a].toNat = c := ⟨_, rfl⟩
    have hcb : c < 256 := by rw [← hcx]; exact s[a].toNat_lt
    go_enter Tryd.func35, Tryd.ntmps35
    go_wp2
    go_quiet (fail)
    go_wp2
    go_quiet (fail)
    go_wp2
    go_ret2
    exact ⟨c, true, rfl, hcb, HC.out, gdn (gdn (wre _ _) _) _, Or.inl ⟨rfl, hlt, hcx⟩⟩
  · have hn : (s.size : Int) ≤ (a : Int) := by omega
    have f := HC.out.loose
    go_enter Tryd.func35, Tryd.ntmps35
    go_wp2
    go_quiet (fail)
    go_wp2
    go_ret2
    exact ⟨0, false, rfl, by decide, HC.out.s2 true, wst (gdn (wre _ _) _) _ _, Or.inr ⟨rfl, by omega⟩⟩
/-- How asking for just this sign ends. -/
def Mu (w : World) (k : Nat) (s : ByteArray) (a b : Nat) (e : Ending) (w' : World) : Prop :=
  ∃ (a' : Nat) (mo ba : Bool), e = .returned (.tuple #[]) ∧ Qg w' k s a' mo ba ∧ w.grownBy w' (some k) ∧ (((∃ h : a < s.size, s[a].toNat = b) ∧ a' = a + 1 ∧ mo = false ∧ ba = false) ∨ ((∃ h : a < s.size, s[a].toNat ≠ b) ∧ a' = a ∧ mo = false ∧ ba = true) ∨ (s.size ≤ a ∧ a' = a ∧ mo = true ∧ ba = false))
set_option maxHeartbeats 800000 in
set_option maxRecDepth 100000 in
theorem must_shut (k : Nat) (s : ByteArray) (a : Nat) (mo ba : Bool) (b : Nat) (w : World) (hc : Qg w k s a mo ba) (hm : (mo || ba) = true) :
    Calls Tryd.prog 36 #[.pointer (some ⟨k, 0, none⟩), .int .u8 (b : Int)] w fun e w' => e = .returned (.tuple #[]) ∧ w' = w := by
  have HN := hid (next_shut k s a mo ba w hc hm)
  clear hc hm
  go_enter Tryd.func36, Tryd.ntmps36
  go_wp2_with fail
  refine HN.out.mono ?_; rintro e w1 ⟨rfl, h1⟩
  subst h1
  go_wp2
  go_end0
  exact ⟨rfl, rfl⟩
set_option maxHeartbeats 800000 in
set_option maxRecDepth 100000 in
theorem must_any (k : Nat) (s : ByteArray) (a b : Nat) (w : World) (ha : a ≤ 2097152) (hc : Qg w k s a false false) :
    Calls Tryd.prog 36 #[.pointer (some ⟨k, 0, none⟩), .int .u8 (b : Int)] w fun e w' => Mu w k s a b e w' := by
  have HN := hid (next_any k s a w ha hc)
  clear hc
  go_enter Tryd.func36, Tryd.ntmps36
  go_wp2_with fail
  refine HN.out.mono ?_
  intro e w1 hn
  obtain ⟨c, ok, rfl, hcb, hq, hg, hw⟩ := hn
  have HQ := hid hq
  have HG := hid hg
  have d := hq.cells
  have f := hq.loose
  clear hq hg
  cases ok with
  | false =>
    have hle : s.size ≤ a := by rcases hw with ⟨h, _⟩ | ⟨_, h⟩; (cases h); exact h
    clear hw
    go_wp2
    go_end0
    exact ⟨a, true, false, rfl, HQ.out, HG.out, Or.inr (Or.inr ⟨hle, rfl, rfl, rfl⟩)⟩
  | true =>
    have hlt : ∃ h : a < s.size, s[a].toNat = c := by rcases hw with ⟨_, h⟩ | ⟨h, _⟩; (exact h); cases h
    clear hw
    obtain ⟨hlt, hcx⟩ := hlt
    by_cases hcb2 : c = b
    · subst hcb2
      have hbb : ((c : Int) != (c : Int)) = false := by simp
      go_wp2
      go_end0
      refine ⟨a + 1, false, false, rfl, ?_, wst HG.out _ _, Or.inl ⟨⟨hlt, hcx⟩, rfl, rfl, rfl⟩⟩
      exact HQ.out.s1 (a + 1)
    · have hbb : ((c : Int) != (b : Int)) = true := by simp; omega
      go_wp2
      refine bodyPost_ret (results_none rfl _ _ _) rfl ?_
      exact ⟨a, false, true, rfl, HQ.out.s3 true, wst HG.out _ _, Or.inr (Or.inl ⟨⟨hlt, by rw [hcx]; exact hcb2⟩, rfl, rfl, rfl⟩)⟩
/-- What a reading comes to: none: more must come; some none: it is none; else what was read, and the place behind it. -/
def qd (s : ByteArray) : Nat → Nat → List UInt8 → Option (Option (ByteArray × Nat))
  | 0, _, _ => none
  | f + 1, a, acc =>
    match s.data.toList[a]? with
    | none => none
    | some b =>
      if b.toNat = 34 then some (some (⟨acc.toArray⟩, a + 1))
      else if b.toNat = 92 then
        match s.data.toList[a + 1]? with
        | none => none
        | some e => if e.toNat = 34 ∨ e.toNat = 92 then (if 60 < acc.length + 1 then some none else qd s f (a + 2) (acc ++ [e])) else some none
      else if b.toNat < 32 ∨ 126 < b.toNat then some none
      else if 60 < acc.length + 1 then some none else qd s f (a + 1) (acc ++ [b])
theorem at_get {s : ByteArray} {a : Nat} (h : a < s.size) : s.data.toList[a]? = some s[a] := List.getElem?_eq_getElem (l := s.data.toList) (i := a) (by rw [dat_len]; exact h)
theorem at_none {s : ByteArray} {a : Nat} (h : s.size ≤ a) : s.data.toList[a]? = none := List.getElem?_eq_none (by rw [dat_len]; exact h)
theorem ba_snoc (acc : List UInt8) (b : UInt8) : (⟨acc.toArray⟩ ++ ⟨#[b]⟩ : ByteArray) = ⟨(acc ++ [b]).toArray⟩ := by
  apply ba_ext13
  rw [ByteArray.data_append, Array.toList_append]
theorem gal13 {a w : World} {r : Option Nat} (h : a.grownBy w r) (o : Obj) : a.grownBy (w.alloc o) r :=
  ⟨h.os, h.tape, h.output, by have := h.size; simp; omega, fun k hk hne => (Below.heap_alloc w o k (Nat.lt_of_lt_of_le hk h.size)).trans (h.block k hk hne)⟩
/-- The place that a reader stands at. -/
def qat (k : Nat) (W : World) : Nat := match W.cell? ⟨k, 1, none⟩ with | some (.int _ n) => n.toNat | _ => 0
theorem Qg.qat {W : World} {k : Nat} {s : ByteArray} {a : Nat} {mo ba : Bool} (h : Qg W k s a mo ba) : qat k W = a := by
  unfold Go.Proofs.YtmalpgbdemcmdaaDoor.qat
  rw [h.cells.2.1]
  simp
/-- How reading a text ends. -/
def Rq (w : World) (k : Nat) (s : ByteArray) (R : Option (Option (ByteArray × Nat))) (e : Ending) (w' : World) : Prop :=
  w.grownBy w' (some k) ∧ ((R = none ∧ e = .returned (.string ⟨#[]⟩) ∧ ∃ a, Qg w' k s a true false) ∨ (R = some none ∧ e = .returned (.string ⟨#[]⟩) ∧ ∃ a, Qg w' k s a false true) ∨ ∃ t n, R = some (some (t, n)) ∧ e = .returned (.string t) ∧ n ≤ s.size ∧ Qg w' k s n false false)
set_option maxHeartbeats 3200000 in
set_option maxRecDepth 100000 in
theorem quoted_any (k : Nat) (s : ByteArray) (a0 : Nat) (w : World) (hs : s.size ≤ 1048576) (ha : a0 < s.size) (hc : Qg w k s a0 false false) :
    Calls Tryd.prog 50 #[.pointer (some ⟨k, 0, none⟩)] w fun e w' => Rq w k s (qd s (s.size + 1) (a0 + 1) []) e w' := by
  obtain ⟨R, hR⟩ : ∃ R, qd s (s.size + 1) (a0 + 1) [] = R := ⟨_, rfl⟩
  rw [hR]
  have HR := hid hR
  have HC := hid hc
  have d := hc.cells
  have f := hc.loose
  clear hc hR
  go_enter Tryd.func50, Tryd.ntmps50
  go_wp2
  go_loopw [3] (fun sv wr => ∃ (a : Nat) (acc : List UInt8) (fu : Nat) (o : ByteArray), sv = .string o ∧ Hid (o = ⟨acc.toArray⟩) ∧ o.size ≤ 60 ∧ a ≤ s.size ∧ Qg wr k s a false false ∧ w.grownBy wr (some k) ∧ Hid (qd s fu a acc = R) ∧ Hid (s.size < a + fu)) (fun _ wr => s.size + 1 - qat k wr)
  case atStart => exact ⟨a0 + 1, [], s.size + 1, ⟨#[]⟩, rfl, rfl, by decide, by omega, HC.out.s1 (a0 + 1), wst (wre _ _) _ _, HR.out, by show _ < _; omega⟩
  case round =>
    obtain ⟨a, acc, fu, o, rfl, HO, hos, hal, hq, hg, HD, HF⟩ := hrel
    obtain ⟨fu, rfl⟩ : ∃ f', fu = f' + 1 := ⟨fu - 1, by have := HF.out; omega⟩
    have HG := hid hg
    have HN := hid (next_any k s a wr (by omega) hq)
    have HAT := hid hq.qat
    clear hg hq d f
    go_wp2_with fail
    refine HN.out.mono ?_
    intro e w1 hn
    obtain ⟨c, ok, rfl, hcb, hq, hg, hw⟩ := hn
    have HQ := hid hq
    have HG1 := hid (wtr HG.out hg)
    have d := hq.cells
    have f := hq.loose
    clear hq hg HN
    cases ok with
    | false =>
      have hle : s.size ≤ a := by rcases hw with ⟨h, _⟩ | ⟨_, h⟩; (cases h); exact h
      clear hw
      have HX : Hid (R = none) := by
        show _ = _
        rw [← HD.out, qd, at_none hle]
      go_wp2
      go_ret
      exact ⟨HG1.out, Or.inl ⟨HX.out, rfl, a, HQ.out⟩⟩
    | true =>
      have hlt : ∃ h : a < s.size, s[a].toNat = c := by rcases hw with ⟨_, h⟩ | ⟨h, _⟩; (exact h); cases h
      clear hw
      obtain ⟨hlt, hcx⟩ := hlt
      have HU : Hid (qd s (fu + 1) a acc = if c = 34 then some (some (⟨acc.toArray⟩, a + 1)) else if c = 92 then (match s.data.toList[a + 1]? with | none => none | some e => if e.toNat = 34 ∨ e.toNat = 92 then (if 60 < acc.length + 1 then some none else qd s fu (a + 2) (acc ++ [e])) else some none) else if c < 32 ∨ 126 < c then some none else if 60 < acc.length + 1 then some none else qd s fu (a + 1) (acc ++ [s[a]])) := by
        show _ = _
        rw [qd, at_get hlt]
        simp only [hcx]
      have hcc : c = 34 ∨ c = 92 ∨ (c < 32 ∨ 126 < c) ∨ (c ≠ 34 ∧ c ≠ 92 ∧ 32 ≤ c ∧ c ≤ 126) := by omega
      have hq2 : Qg (w1.setCell ⟨k, 1, none⟩ (.int .i64 ((a : Int) + 1))) k s (a + 1) false false := HQ.out.s1 (a + 1)
      have HQ2 := hid hq2
      have HG2 : Hid (w.grownBy (w1.setCell ⟨k, 1, none⟩ (.int .i64 ((a : Int) + 1))) (some k)) := wst HG1.out _ _
      have HOL : Hid (o.size = acc.length) := by show _ = _; rw [HO.out]; exact List.size_toArray
      clear hq2
      rcases hcc with rfl | rfl | h3 | ⟨h3, h4, h5, h6⟩
      · have HX : Hid (R = some (some (o, a + 1))) := by
          show _ = _
          rw [← HD.out, HU.out, if_pos rfl, HO.out]
        clear HU
        go_wp2
        go_ret
        exact ⟨HG2.out, Or.inr (Or.inr ⟨o, a + 1, HX.out, rfl, by omega, HQ2.out⟩)⟩
      · have HU2 : Hid (R = (match s.data.toList[a + 1]? with | none => none | some e => if e.toNat = 34 ∨ e.toNat = 92 then (if 60 < acc.length + 1 then some none else qd s fu (a + 2) (acc ++ [e])) else some none)) := by
          show _ = _
          rw [← HD.out, HU.out, if_neg (by decide), if_pos rfl]
        clear HU
        go_upto_region 9 with fail
        obtain ⟨W2, hW2⟩ : ∃ W2, w1.setCell ⟨k, 1, none⟩ (.int .i64 ((a : Int) + 1)) = W2 := ⟨_, rfl⟩
        rw [hW2] at HQ2 HG2 ⊢
        obtain ⟨a1, ha1⟩ : ∃ a1 : Nat, a + 1 = a1 := ⟨_, rfl⟩
        rw [ha1] at HQ2 HU2
        have HA1 := hid ha1
        clear hW2 d f ha1
        have HN2 := hid (next_any k s a1 W2 (by have := HA1.out; omega) HQ2.out)
        go_wp2_with fail
        refine HN2.out.mono ?_
        intro e w3 hn
        obtain ⟨c2, ok2, rfl, hcb2, hq, hg, hw⟩ := hn
        have HQ3 := hid hq
        have HG3 := hid (wtr HG2.out hg)
        have d := hq.cells
        have f := hq.loose
        clear hq hg HN2
        cases ok2 with
        | false =>
          have hle : s.size ≤ a1 := by rcases hw with ⟨h, _⟩ | ⟨_, h⟩; (cases h); exact h
          clear hw
          have HX : Hid (R = none) := by
            show _ = _
            rw [HU2.out, at_none hle]
          go_wp2
          go_ret
          exact ⟨HG3.out, Or.inl ⟨HX.out, rfl, a1, HQ3.out⟩⟩
        | true =>
          have hlt2 : ∃ h : a1 < s.size, s[a1].toNat = c2 := by rcases hw with ⟨_, h⟩ | ⟨h, _⟩; (exact h); cases h
          clear hw
          obtain ⟨hlt2, hcx2⟩ := hlt2
          have HU3 : Hid (R = if c2 = 34 ∨ c2 = 92 then (if 60 < acc.length + 1 then some none else qd s fu (a1 + 1) (acc ++ [s[a1]])) else some none) := by
            show _ = _
            rw [HU2.out, at_get hlt2]
            simp only [hcx2]
            rw [show a + 2 = a1 + 1 by have := HA1.out; omega]
          clear HU2
          have HQ4 : Hid (Qg (w3.setCell ⟨k, 1, none⟩ (.int .i64 ((a1 : Int) + 1))) k s (a1 + 1) false false) := HQ3.out.s1 (a1 + 1)
          have HG4 : Hid (w.grownBy (w3.setCell ⟨k, 1, none⟩ (.int .i64 ((a1 : Int) + 1))) (some k)) := wst HG3.out _ _
          by_cases h7 : c2 = 34 ∨ c2 = 92
          · have HU4 : Hid (R = if 60 < acc.length + 1 then some none else qd s fu (a1 + 1) (acc ++ [s[a1]])) := by
              show _ = _
              rw [HU3.out, if_pos h7]
            clear HU3
            have j : (((c2 : Int) != 34) = false) ∨ ((((c2 : Int) != 34) = true) ∧ ((c2 : Int) != 92) = false) := by
              rcases h7 with rfl | rfl
              · exact Or.inl rfl
              · exact Or.inr ⟨rfl, rfl⟩
            clear h7
            rcases j with j1 | ⟨j1, j2⟩
            all_goals
              go_upto_region 20 with fail
              obtain ⟨W4, hW4⟩ : ∃ W4, w3.setCell ⟨k, 1, none⟩ (.int .i64 ((a1 : Int) + 1)) = W4 := ⟨_, rfl⟩
              rw [hW4] at HQ4 HG4 ⊢
              clear hW4 d f
              have hone := run_one s[a1] W4
              rw [hcx2] at hone
              have HQ5 := hid (HQ4.out.later (bpush (bre W4) (.cells #[.int .u8 ((s[a1].toNat : Nat) : Int)] 5)))
              have HG5 := hid (gal13 HG4.out (.cells #[.int .u8 ((s[a1].toNat : Nat) : Int)] 5))
              rw [hcx2] at HQ5 HG5
              have d3 := HQ5.out.cells.2.2.2
              have f3 := HQ5.out.loose.2.2.2
              have hz : (o ++ ⟨#[s[a1]]⟩ : ByteArray).size = o.size + 1 := by rw [ByteArray.size_append]; rfl
              have HB : Hid (o ++ ⟨#[s[a1]]⟩ = (⟨(acc ++ [s[a1]]).toArray⟩ : ByteArray)) := by show _ = _; rw [HO.out]; exact ba_snoc acc s[a1]
              obtain ⟨o2, ho2⟩ : ∃ o2, o ++ ⟨#[s[a1]]⟩ = o2 := ⟨_, rfl⟩
              rw [ho2] at hz HB
              have hlen : o.size = acc.length := HOL.out
              by_cases hbig : 60 < o.size + 1
              · have HY : Hid (R = some none) := by
                  show _ = _
                  rw [HU4.out, if_pos (by rw [← hlen]; exact hbig)]
                clear hlen
                go_wp2
                go_ret
                exact ⟨wst HG5.out _ _, Or.inr (Or.inl ⟨HY.out, rfl, a1 + 1, HQ5.out.s3 true⟩)⟩
              · have HY : Hid (qd s fu (a1 + 1) (acc ++ [s[a1]]) = R) := by
                  show _ = _
                  rw [HU4.out, if_neg (by rw [← hlen]; exact hbig)]
                clear hlen
                go_wp2
                go_roundw
                case rel => exact ⟨a1 + 1, acc ++ [s[a1]], fu, o2, rfl, HB.out, by omega, by omega, HQ5.out, HG5.out, HY.out, by have := HF.out; have := HA1.out; show _ < _; omega⟩
                case measure =>
                  rw [HQ5.out.qat, HAT.out]
                  have := HA1.out
                  omega
          · have HX : Hid (R = some none) := by
              show _ = _
              rw [HU3.out, if_neg h7]
            clear HU3
            have j1 : ((c2 : Int) != 34) = true := by simp; omega
            have j2 : ((c2 : Int) != 92) = true := by simp; omega
            go_wp2
            go_ret
            exact ⟨wst HG3.out _ _, Or.inr (Or.inl ⟨HX.out, rfl, a1, HQ3.out.s3 true⟩)⟩
      · have HX : Hid (R = some none) := by
          show _ = _
          rw [← HD.out, HU.out, if_neg (by omega), if_neg (by omega), if_pos h3]
        clear HU
        have i1 : ((c : Int) == 34) = false := by rw [beq_eq_false_iff_ne]; omega
        have i2 : ((c : Int) == 92) = false := by rw [beq_eq_false_iff_ne]; omega
        have f3 := HQ2.out.loose.2.2.2
        have d3 := HQ2.out.cells.2.2.2
        rcases h3 with h3 | h3
        all_goals
          go_wp2
          go_ret
          exact ⟨wst HG2.out _ _, Or.inr (Or.inl ⟨HX.out, rfl, a + 1, HQ2.out.s3 true⟩)⟩
      · have i1 : ((c : Int) == 34) = false := by rw [beq_eq_false_iff_ne]; omega
        have i2 : ((c : Int) == 92) = false := by rw [beq_eq_false_iff_ne]; omega
        have i5 : ¬ ((c : Int) < 32) := by omega
        have i6 : ¬ (126 < (c : Int)) := by omega
        have HX : Hid (qd s (fu + 1) a acc = if 60 < acc.length + 1 then some none else qd s fu (a + 1) (acc ++ [s[a]])) := by
          show _ = _
          rw [HU.out, if_neg h3, if_neg h4, if_neg (by omega)]
        clear HU h3 h4 h5 h6
        go_upto_region 20 with fail
        obtain ⟨W2, hW2⟩ : ∃ W2, w1.setCell ⟨k, 1, none⟩ (.int .i64 ((a : Int) + 1)) = W2 := ⟨_, rfl⟩
        rw [hW2] at HQ2 HG2 ⊢
        clear hW2 d f
        have hone := run_one s[a] W2
        rw [hcx] at hone
        have HQ3 := hid (HQ2.out.later (bpush (bre W2) (.cells #[.int .u8 (c : Int)] 5)))
        have HG3 := hid (gal13 HG2.out (.cells #[.int .u8 (c : Int)] 5))
        have d3 := HQ3.out.cells.2.2.2
        have f3 := HQ3.out.loose.2.2.2
        have hz : (o ++ ⟨#[s[a]]⟩ : ByteArray).size = o.size + 1 := by rw [ByteArray.size_append]; rfl
        have HB : Hid (o ++ ⟨#[s[a]]⟩ = (⟨(acc ++ [s[a]]).toArray⟩ : ByteArray)) := by show _ = _; rw [HO.out]; exact ba_snoc acc s[a]
        obtain ⟨o2, ho2⟩ : ∃ o2, o ++ ⟨#[s[a]]⟩ = o2 := ⟨_, rfl⟩
        rw [ho2] at hz HB
        have hlen : o.size = acc.length := HOL.out
        by_cases hbig : 60 < o.size + 1
        · have HY : Hid (R = some none) := by
            show _ = _
            rw [← HD.out, HX.out, if_pos (by rw [← hlen]; exact hbig)]
          clear hlen
          go_wp2
          go_ret
          exact ⟨wst HG3.out _ _, Or.inr (Or.inl ⟨HY.out, rfl, a + 1, HQ3.out.s3 true⟩)⟩
        · have HY : Hid (qd s fu (a + 1) (acc ++ [s[a]]) = R) := by
            show _ = _
            rw [← HD.out, HX.out, if_neg (by rw [← hlen]; exact hbig)]
          clear hlen
          go_wp2
          go_roundw
          case rel => exact ⟨a + 1, acc ++ [s[a]], fu, o2, rfl, HB.out, by omega, by omega, HQ3.out, HG3.out, HY.out, by have := HF.out; show _ < _; omega⟩
          case measure =>
            rw [HQ3.out.qat, HAT.out]
            omega
/-- Where an atom ends: the first place whose sign is none of an atom's. -/
def aen (s : ByteArray) : Nat → Nat → Option Nat
  | 0, _ => none
  | f + 1, a =>
    match s.data.toList[a]? with
    | none => none
    | some b => if ato b = true then aen s f (a + 1) else some a
def ard (s : ByteArray) (a : Nat) : Option (Option (ByteArray × Nat)) :=
  match aen s (s.size + 1) a with
  | none => none
  | some n => if atk (s.extract a n) = true then some (some (s.extract a n, n)) else some none
theorem atk_one (b : UInt8) : atk ⟨#[b]⟩ = ato b := by
  show (([b].all ato) && (decide (1 ≤ (1 : Int)) && decide ((1 : Int) ≤ 40))) = ato b
  simp
set_option maxHeartbeats 3200000 in
set_option maxRecDepth 100000 in
theorem atom_any (k : Nat) (s : ByteArray) (a0 : Nat) (w : World) (hs : s.size ≤ 1048576) (ha : a0 ≤ s.size) (hc : Qg w k s a0 false false) :
    Calls Tryd.prog 52 #[.pointer (some ⟨k, 0, none⟩)] w fun e w' => Rq w k s (ard s a0) e w' := by
  obtain ⟨E, hE⟩ : ∃ E, aen s (s.size + 1) a0 = E := ⟨_, rfl⟩
  have HE := hid hE
  have HC := hid hc
  have d := hc.cells
  clear hc hE
  go_enter Tryd.func52, Tryd.ntmps52
  go_wp2
  go_loopw [4] (fun _ wr => ∃ (a : Nat) (fu : Nat), a0 ≤ a ∧ a ≤ s.size ∧ Qg wr k s a false false ∧ w.grownBy wr (some k) ∧ Hid (aen s fu a = E) ∧ Hid (s.size < a + fu)) (fun _ wr => s.size + 1 - qat k wr)
  case atStart => exact ⟨a0, s.size + 1, Nat.le_refl _, ha, HC.out, wre _ _, HE.out, by show _ < _; omega⟩
  case round =>
    obtain ⟨a, fu, hl0, hal, hq, hg, HD, HF⟩ := hrel
    obtain ⟨fu, rfl⟩ : ∃ f', fu = f' + 1 := ⟨fu - 1, by have := HF.out; omega⟩
    have HG := hid hg
    have HN := hid (next_any k s a wr (by omega) hq)
    have HAT := hid hq.qat
    clear hg hq d
    go_wp2_with fail
    refine HN.out.mono ?_
    intro e w1 hn
    obtain ⟨c, ok, rfl, hcb, hq, hg, hw⟩ := hn
    have HQ := hid hq
    have HG1 := hid (wtr HG.out hg)
    have d := hq.cells
    have f := hq.loose
    clear hq hg HN
    cases ok with
    | false =>
      have hle : s.size ≤ a := by rcases hw with ⟨h, _⟩ | ⟨_, h⟩; (cases h); exact h
      clear hw
      have HX : Hid (ard s a0 = none) := by
        show _ = _
        rw [ard, HE.out, ← HD.out, aen, at_none hle]
      go_wp2
      go_ret
      exact ⟨HG1.out, Or.inl ⟨HX.out, rfl, a, HQ.out⟩⟩
    | true =>
      have hlt : ∃ h : a < s.size, s[a].toNat = c := by rcases hw with ⟨_, h⟩ | ⟨h, _⟩; (exact h); cases h
      clear hw
      obtain ⟨hlt, hcx⟩ := hlt
      have hone := run_one s[a] w1
      rw [hcx] at hone
      have HQ2 := hid (HQ.out.later (bpush (bre w1) (.cells #[.int .u8 (c : Int)] 5)))
      have HG2 := hid (gal13 HG1.out (.cells #[.int .u8 (c : Int)] 5))
      have d2 := HQ2.out.cells
      have f2 := HQ2.out.loose
      have HAO := hid (specAtom_any ⟨#[s[a]]⟩ (w1.alloc (.cells #[.int .u8 (c : Int)] 5)) (by show 1 ≤ _; omega))
      rw [atk_one] at HAO
      cases hat : ato s[a] with
      | true =>
        rw [hat] at HAO
        have HX : Hid (aen s fu (a + 1) = E) := by
          show _ = _
          rw [← HD.out, aen, at_get hlt]
          simp only [hat, if_true]
        clear hat d f
        go_wp2_with fail
        refine HAO.out.mono ?_; rintro e w2 ⟨rfl, h2⟩
        subst h2
        go_wp2
        go_roundw
        case rel => exact ⟨a + 1, fu, by omega, by omega, HQ2.out.s1 (a + 1), wst HG2.out _ _, HX.out, by have := HF.out; show _ < _; omega⟩
        case measure =>
          have h1 : qat k ((w1.alloc (.cells #[.int .u8 (c : Int)] 5)).setCell ⟨k, 1, none⟩ (.int .i64 ((a : Int) + 1))) = a + 1 := (HQ2.out.s1 (a + 1)).qat
          rw [h1, HAT.out]
          omega
      | false =>
        rw [hat] at HAO
        have HX : Hid (ard s a0 = if atk (s.extract a0 a) = true then some (some (s.extract a0 a, a)) else some none) := by
          show _ = _
          rw [ard, HE.out, ← HD.out, aen, at_get hlt]
          simp only [hat, Bool.false_eq_true, if_false]
        have hI : (0 : Int) ≤ (a0 : Int) ∧ (a0 : Int) ≤ (a : Int) ∧ (a : Int) ≤ (s.size : Int) := by omega
        clear hat d f
        go_wp2_with fail
        refine HAO.out.mono ?_; rintro e w2 ⟨rfl, h2⟩
        subst h2
        obtain ⟨W2, hW2⟩ : ∃ W2, w1.alloc (.cells #[.int .u8 (c : Int)] 5) = W2 := ⟨_, rfl⟩
        rw [hW2] at HQ2 HG2 d2 f2 hone ⊢
        clear hone
        obtain ⟨x, hx⟩ : ∃ x, s.extract a0 a = x := ⟨_, rfl⟩
        have hxs : x.size ≤ 1048576 := by rw [← hx, ByteArray.size_extract]; omega
        rw [hx] at HX
        have HAX := hid (fun W => specAtom_any x W hxs)
        go_wp2
        go_quiet (fail)
        go_wp2_with fail
        refine (HAX.out _).mono ?_; rintro e w3 ⟨rfl, h3⟩
        subst h3
        cases hat : atk x with
        | true =>
          rw [hat, if_pos rfl] at HX
          clear hat
          go_wp2
          go_ret
          exact ⟨gdn HG2.out _, Or.inr (Or.inr ⟨x, a, HX.out, rfl, hal, HQ2.out⟩)⟩
        | false =>
          rw [hat, if_neg (by decide)] at HX
          clear hat
          go_wp2
          go_ret
          exact ⟨wst (gdn HG2.out _) _ _, Or.inr (Or.inl ⟨HX.out, rfl, a, HQ2.out.s3 true⟩)⟩
/-- The figures of a length, up to 125: the number, how many there are, and where 125 stands. -/
def ltd (s : ByteArray) : Nat → Nat → Nat → Nat → Option (Option (Nat × Nat × Nat))
  | 0, _, _, _ => none
  | f + 1, a, n, g =>
    match s.data.toList[a]? with
    | none => none
    | some b => if b.toNat = 125 then some (some (n, g, a)) else if b.toNat < 48 ∨ 57 < b.toNat ∨ g = 2 then some none else ltd s f (a + 1) (10 * n + b.toNat - 48) (g + 1)
/-- The line's end behind it, and the text. -/
def lte (s : ByteArray) (n a : Nat) : Option (Option (ByteArray × Nat)) :=
  match s.data.toList[a]? with
  | none => none
  | some x => if x.toNat = 13 then
      (match s.data.toList[a + 1]? with
      | none => none
      | some y => if y.toNat = 10 then (if s.size < a + 2 + n then none else some (some (s.extract (a + 2) (a + 2 + n), a + 2 + n))) else some none)
    else some none
def lrd (s : ByteArray) (a : Nat) : Option (Option (ByteArray × Nat)) :=
  match ltd s (s.size + 1) (a + 1) 0 0 with
  | none => none
  | some none => some none
  | some (some (n, g, b)) => if g = 0 ∨ 60 < n then some none else lte s n (b + 1)
set_option maxHeartbeats 3200000 in
set_option maxRecDepth 100000 in
theorem literal_any (k : Nat) (s : ByteArray) (a0 : Nat) (w : World) (hs : s.size ≤ 1048576) (ha : a0 < s.size) (hc : Qg w k s a0 false false) :
    Calls Tryd.prog 51 #[.pointer (some ⟨k, 0, none⟩)] w fun e w' => Rq w k s (lrd s a0) e w' := by
  obtain ⟨E, hE⟩ : ∃ E, ltd s (s.size + 1) (a0 + 1) 0 0 = E := ⟨_, rfl⟩
  have HE := hid hE
  have HC := hid hc
  have d := hc.cells
  have f := hc.loose
  clear hc hE
  go_enter Tryd.func51, Tryd.ntmps51
  go_wp2
  go_loopw [3, 4] (fun nv gv wr => ∃ (a fu n g : Nat), nv = .int .i64 (n : Int) ∧ gv = .int .i64 (g : Int) ∧ g ≤ 2 ∧ n ≤ 99 ∧ (g = 0 → n = 0) ∧ (g ≤ 1 → n ≤ 9) ∧ a ≤ s.size ∧ Qg wr k s a false false ∧ w.grownBy wr (some k) ∧ Hid (ltd s fu a n g = E) ∧ Hid (s.size < a + fu)) (fun _ _ wr => s.size + 1 - qat k wr)
  case atStart => exact ⟨a0 + 1, s.size + 1, 0, 0, rfl, rfl, by omega, by omega, fun _ => rfl, fun _ => by omega, by omega, HC.out.s1 (a0 + 1), wst (wre _ _) _ _, HE.out, by show _ < _; omega⟩
  case round =>
    obtain ⟨a, fu, n, g, rfl, rfl, hg2, hn99, hgz, hgo, hal, hq, hg, HD, HF⟩ := hrel
    obtain ⟨fu, rfl⟩ : ∃ f', fu = f' + 1 := ⟨fu - 1, by have := HF.out; omega⟩
    have HG := hid hg
    have HN := hid (next_any k s a wr (by omega) hq)
    have HAT := hid hq.qat
    have HGZ := hid hgz
    have HGO := hid hgo
    clear hg hq d f hgz hgo
    go_wp2_with fail
    refine HN.out.mono ?_
    intro e w1 hn
    obtain ⟨c, ok, rfl, hcb, hq, hg, hw⟩ := hn
    have HQ := hid hq
    have HG1 := hid (wtr HG.out hg)
    have d := hq.cells
    have f := hq.loose
    clear hq hg HN
    cases ok with
    | false =>
      have hle : s.size ≤ a := by rcases hw with ⟨h, _⟩ | ⟨_, h⟩; (cases h); exact h
      clear hw
      have HX : Hid (lrd s a0 = none) := by
        show _ = _
        rw [lrd, HE.out, ← HD.out, ltd, at_none hle]
      go_wp2
      go_ret
      exact ⟨HG1.out, Or.inl ⟨HX.out, rfl, a, HQ.out⟩⟩
    | true =>
      have hlt : ∃ h : a < s.size, s[a].toNat = c := by rcases hw with ⟨_, h⟩ | ⟨h, _⟩; (exact h); cases h
      clear hw
      obtain ⟨hlt, hcx⟩ := hlt
      have HU : Hid (E = if c = 125 then some (some (n, g, a)) else if c < 48 ∨ 57 < c ∨ g = 2 then some none else ltd s fu (a + 1) (10 * n + c - 48) (g + 1)) := by
        show _ = _
        rw [← HD.out, ltd, at_get hlt]
        simp only [hcx]
      have hcc : c = 125 ∨ (c ≠ 125 ∧ c < 48) ∨ (c ≠ 125 ∧ ¬ c < 48 ∧ 57 < c) ∨ (48 ≤ c ∧ c ≤ 57 ∧ g = 2) ∨ (48 ≤ c ∧ c ≤ 57 ∧ g ≠ 2) := by omega
      rcases hcc with rfl | ⟨h1, h2⟩ | ⟨h1, h2, h3⟩ | ⟨h1, h2, h3⟩ | ⟨h1, h2, h3⟩
      · have HX : Hid (lrd s a0 = if g = 0 ∨ 60 < n then some none else lte s n (a + 1)) := by
          show _ = _
          rw [lrd, HE.out, HU.out, if_pos rfl]
        clear HU
        by_cases hb : g = 0 ∨ 60 < n
        · have HY : Hid (lrd s a0 = some none) := by
            show _ = _
            rw [HX.out, if_pos hb]
          have hb2 : ((g : Int) == 0) = true ∨ (((g : Int) == 0) = false ∧ 60 < (n : Int)) := by
            by_cases h0 : g = 0
            · subst h0; exact Or.inl rfl
            · exact Or.inr ⟨by rw [beq_eq_false_iff_ne]; omega, by omega⟩
          clear hb HX
          rcases hb2 with h1 | ⟨h1, h2⟩
          all_goals
            go_wp2
            go_ret
            exact ⟨wst HG1.out _ _, Or.inr (Or.inl ⟨HY.out, rfl, a, HQ.out.s3 true⟩)⟩
        · have HX2 : Hid (lrd s a0 = lte s n (a + 1)) := by
            show _ = _
            rw [HX.out, if_neg hb]
          have i1 : ((g : Int) == 0) = false := by rw [beq_eq_false_iff_ne]; omega
          have i2 : ¬ (60 < (n : Int)) := by omega
          have HQ2 : Hid (Qg (w1.setCell ⟨k, 1, none⟩ (.int .i64 ((a : Int) + 1))) k s (a + 1) false false) := HQ.out.s1 (a + 1)
          have HG2 : Hid (w.grownBy (w1.setCell ⟨k, 1, none⟩ (.int .i64 ((a : Int) + 1))) (some k)) := wst HG1.out _ _
          have hn60 : n ≤ 60 := by omega
          clear hb HX
          go_upto_region 18 with fail
          obtain ⟨W2, hW2⟩ : ∃ W2, w1.setCell ⟨k, 1, none⟩ (.int .i64 ((a : Int) + 1)) = W2 := ⟨_, rfl⟩
          rw [hW2] at HQ2 HG2 ⊢
          obtain ⟨a1, ha1⟩ : ∃ a1 : Nat, a + 1 = a1 := ⟨_, rfl⟩
          rw [ha1] at HQ2 HX2
          have ha1s : a1 ≤ s.size := by omega
          clear hW2 d f ha1 i1 i2
          have HM := hid (must_any k s a1 13 W2 (by omega) HQ2.out)
          go_wp2_with fail
          refine HM.out.mono ?_
          intro e w3 hm
          obtain ⟨a2, mo, ba, rfl, hq, hg, hw⟩ := hm
          have HQ3 := hid hq
          have HG3 := hid (wtr HG2.out hg)
          clear hq hg HM
          rcases hw with ⟨⟨hl, hx⟩, rfl, rfl, rfl⟩ | ⟨⟨hl, hx⟩, rfl, rfl, rfl⟩ | ⟨hl, rfl, rfl, rfl⟩
          · have HX3 : Hid (lrd s a0 = (match s.data.toList[a1 + 1]? with | none => none | some y => if y.toNat = 10 then (if s.size < a1 + 2 + n then none else some (some (s.extract (a1 + 2) (a1 + 2 + n), a1 + 2 + n))) else some none)) := by
              show _ = _
              rw [HX2.out, lte, at_get hl]
              simp only [hx, if_true]
            obtain ⟨a2, ha2⟩ : ∃ a2 : Nat, a1 + 1 = a2 := ⟨_, rfl⟩
            rw [show a1 + 2 = a1 + 1 + 1 from rfl, ha2] at HX3
            rw [ha2] at HQ3
            have ha2s : a2 ≤ s.size := by omega
            clear HX2 hx ha2
            have HM := hid (must_any k s a2 10 w3 (by omega) HQ3.out)
            go_wp2_with fail
            refine HM.out.mono ?_
            intro e w4 hm
            obtain ⟨a3, mo, ba, rfl, hq, hg, hw⟩ := hm
            have HQ4 := hid hq
            have HG4 := hid (wtr HG3.out hg)
            have d := hq.cells
            have f := hq.loose
            clear hq hg HM
            rcases hw with ⟨⟨hl2, hx2⟩, rfl, rfl, rfl⟩ | ⟨⟨hl2, hx2⟩, rfl, rfl, rfl⟩ | ⟨hl2, rfl, rfl, rfl⟩
            · have HX4 : Hid (lrd s a0 = if s.size < a2 + 1 + n then none else some (some (s.extract (a2 + 1) (a2 + 1 + n), a2 + 1 + n))) := by
                show _ = _
                rw [HX3.out, at_get hl2]
                simp only [hx2, if_true]
              clear HX3 hx2
              obtain ⟨a3, ha3⟩ : ∃ a3 : Nat, a2 + 1 = a3 := ⟨_, rfl⟩
              have ha3s : a3 ≤ s.size := by omega
              rw [ha3] at HX4 HQ4 d
              clear ha3
              by_cases hfew : s.size < a3 + n
              · have HX5 : Hid (lrd s a0 = none) := by
                  show _ = _
                  rw [HX4.out, if_pos hfew]
                have hgt : ((n : Int) > (s.size : Int) - (a3 : Int)) := by omega
                clear HX4
                go_wp2
                go_quiet (fail)
                go_wp2
                go_ret
                exact ⟨wst (gdn HG4.out _) _ _, Or.inl ⟨HX5.out, rfl, a3, HQ4.out.s2 true⟩⟩
              · have HX5 : Hid (lrd s a0 = some (some (s.extract a3 (a3 + n), a3 + n))) := by
                  show _ = _
                  rw [HX4.out, if_neg hfew]
                have hgt : ¬ ((n : Int) > (s.size : Int) - (a3 : Int)) := by omega
                have hI : (0 : Int) ≤ (a3 : Int) ∧ (a3 : Int) ≤ (a3 : Int) + (n : Int) ∧ (a3 : Int) + (n : Int) ≤ (s.size : Int) := by omega
                clear HX4
                go_wp2
                go_quiet (fail)
                go_wp2
                go_quiet (fail)
                go_wp2
                go_ret
                exact ⟨wst (gdn HG4.out _) _ _, Or.inr (Or.inr ⟨_, a3 + n, HX5.out, rfl, by omega, HQ4.out.s1 (a3 + n)⟩)⟩
            · have HX4 : Hid (lrd s a0 = some none) := by
                show _ = _
                rw [HX3.out, at_get hl2]
                simp only [hx2, if_false]
              go_wp2
              go_ret
              exact ⟨HG4.out, Or.inr (Or.inl ⟨HX4.out, rfl, _, HQ4.out⟩)⟩
            · have HX4 : Hid (lrd s a0 = none) := by
                show _ = _
                rw [HX3.out, at_none hl2]
              go_wp2
              go_ret
              exact ⟨HG4.out, Or.inl ⟨HX4.out, rfl, _, HQ4.out⟩⟩
          · have HX3 : Hid (lrd s a0 = some none) := by
              show _ = _
              rw [HX2.out, lte, at_get hl]
              simp only [hx, if_false]
            have HM := hid (must_shut k s a2 false true 10 w3 HQ3.out rfl)
            go_wp2_with fail
            refine HM.out.mono ?_; rintro e w4 ⟨rfl, h4⟩
            subst h4
            have d := HQ3.out.cells
            go_wp2
            go_ret
            exact ⟨HG3.out, Or.inr (Or.inl ⟨HX3.out, rfl, _, HQ3.out⟩)⟩
          · have HX3 : Hid (lrd s a0 = none) := by
              show _ = _
              rw [HX2.out, lte, at_none hl]
            have HM := hid (must_shut k s a2 true false 10 w3 HQ3.out rfl)
            go_wp2_with fail
            refine HM.out.mono ?_; rintro e w4 ⟨rfl, h4⟩
            subst h4
            have d := HQ3.out.cells
            go_wp2
            go_ret
            exact ⟨HG3.out, Or.inl ⟨HX3.out, rfl, _, HQ3.out⟩⟩
      · have HX : Hid (lrd s a0 = some none) := by
          show _ = _
          rw [lrd, HE.out, HU.out, if_neg h1, if_pos (Or.inl h2)]
        clear HU
        have i1 : ((c : Int) == 125) = false := by rw [beq_eq_false_iff_ne]; omega
        go_wp2
        go_ret
        exact ⟨wst HG1.out _ _, Or.inr (Or.inl ⟨HX.out, rfl, a, HQ.out.s3 true⟩)⟩
      · have HX : Hid (lrd s a0 = some none) := by
          show _ = _
          rw [lrd, HE.out, HU.out, if_neg h1, if_pos (Or.inr (Or.inl h3))]
        clear HU
        have i1 : ((c : Int) == 125) = false := by rw [beq_eq_false_iff_ne]; omega
        go_wp2
        go_ret
        exact ⟨wst HG1.out _ _, Or.inr (Or.inl ⟨HX.out, rfl, a, HQ.out.s3 true⟩)⟩
      · have HX : Hid (lrd s a0 = some none) := by
          show _ = _
          rw [lrd, HE.out, HU.out, if_neg (by omega), if_pos (Or.inr (Or.inr h3))]
        clear HU
        have i1 : ((c : Int) == 125) = false := by rw [beq_eq_false_iff_ne]; omega
        have i2 : ¬ ((c : Int) < 48) := by omega
        have i3 : ¬ (57 < (c : Int)) := by omega
        have i4 : ((g : Int) == 2) = true := by subst h3; rfl
        clear h3
        go_wp2
        go_ret
        exact ⟨wst HG1.out _ _, Or.inr (Or.inl ⟨HX.out, rfl, a, HQ.out.s3 true⟩)⟩
      · have HX : Hid (ltd s fu (a + 1) (10 * n + c - 48) (g + 1) = E) := by
          show _ = _
          rw [HU.out, if_neg (by omega), if_neg (by omega)]
        clear HU
        have hn9 : n ≤ 9 := HGO.out (by omega)
        have i1 : ((c : Int) == 125) = false := by rw [beq_eq_false_iff_ne]; omega
        have i2 : ¬ ((c : Int) < 48) := by omega
        have i3 : ¬ (57 < (c : Int)) := by omega
        have i4 : ((g : Int) == 2) = false := by rw [beq_eq_false_iff_ne]; omega
        have HG3 := hid h3
        clear h3
        go_wp2
        go_roundw
        case rel =>
          refine ⟨a + 1, fu, 10 * n + c - 48, g + 1, ?_, by go_num, by have := HG3.out; omega, by omega, by omega, ?_, by omega, HQ.out.s1 (a + 1), wst HG1.out _ _, HX.out, by have := HF.out; show _ < _; omega⟩
          · go_num
          · intro h
            have : g = 0 := by omega
            have := HGZ.out this
            omega
        case measure =>
          have h1 : qat k (w1.setCell ⟨k, 1, none⟩ (.int .i64 ((a : Int) + 1))) = a + 1 := (HQ.out.s1 (a + 1)).qat
          rw [h1, HAT.out]
          omega
def tkm (kd : Int) : Option (Option (ByteArray × Nat)) → Option (Option ((Int × ByteArray) × Nat))
  | none => none
  | some none => some none
  | some (some (t, n)) => some (some ((kd, t), n))
theorem Tok.loose {W : World} {k ty : Nat} {kd : Int} {t : ByteArray} (h : Tok W k ty kd t) : W.frozen? ⟨k, 0, none⟩ = false ∧ W.frozen? ⟨k, 1, none⟩ = false := ⟨frozen_of_row W k 0 _ _ h, frozen_of_row W k 1 _ _ h⟩
theorem Tok.put {W : World} {k ty : Nat} {kd : Int} {t : ByteArray} (h : Tok W k ty kd t) (kd' : Int) (t' : ByteArray) : Tok ((W.setCell ⟨k, 0, none⟩ (.int .i64 kd')).setCell ⟨k, 1, none⟩ (.string t')) k ty kd' t' :=
  heap_setCell_same _ k 1 _ _ (.string t') (heap_setCell_same W k 0 _ _ (.int .i64 kd') h)
theorem Qg.far {W : World} {k : Nat} {s : ByteArray} {a : Nat} {mo ba : Bool} (h : Qg W k s a mo ba) {g : Nat} (hg : k ≠ g) (i : Nat) (v : Value) : Qg (W.setCell ⟨g, i, none⟩ v) k s a mo ba := heap_setCell_far v h hg
theorem wfar13 {w W : World} {r : Option Nat} (h : w.grownBy W r) {g : Nat} (hg : w.heap.size ≤ g) (i : Nat) (v : Value) : w.grownBy (W.setCell ⟨g, i, none⟩ v) r :=
  ⟨h.os, h.tape, h.output, by rw [show (W.setCell ⟨g, i, none⟩ v).heap.size = W.heap.size by simp [World.setCell]]; exact h.size, fun k hk hne => (Below.heap_setCell _ _ _ _ (Nat.ne_of_lt (Nat.lt_of_lt_of_le hk hg))).trans (h.block k hk hne)⟩
/-- A token read from a place on. -/
def tkn (s : ByteArray) (a : Nat) : Option (Option ((Int × ByteArray) × Nat)) :=
  match s.data.toList[a]? with
  | none => none
  | some b => if b.toNat = 34 then tkm 2 (qd s (s.size + 1) (a + 1) []) else if b.toNat = 123 then tkm 2 (lrd s a) else tkm 1 (ard s a)
/-- How reading a token ends. -/
def Rt13 (w : World) (k : Nat) (s : ByteArray) (R : Option (Option ((Int × ByteArray) × Nat))) (e : Ending) (w' : World) : Prop :=
  w.grownBy w' (some k) ∧ ((R = none ∧ (∃ kd t, e = .returned (.agg #[.int .i64 kd, .string t])) ∧ ∃ a, Qg w' k s a true false) ∨ (R = some none ∧ (∃ kd t, e = .returned (.agg #[.int .i64 kd, .string t])) ∧ ∃ a, Qg w' k s a false true) ∨ ∃ kd t n, R = some (some ((kd, t), n)) ∧ e = .returned (.agg #[.int .i64 kd, .string t]) ∧ n ≤ s.size ∧ Qg w' k s n false false)
set_option maxHeartbeats 3200000 in
set_option maxRecDepth 100000 in
theorem token_any (k : Nat) (s : ByteArray) (a : Nat) (w : World) (hs : s.size ≤ 1048576) (ha : a ≤ s.size) (hc : Qg w k s a false false) :
    Calls Tryd.prog 34 #[.pointer (some ⟨k, 0, none⟩)] w fun e w' => Rt13 w k s (tkn s a) e w' := by
  obtain ⟨W0, hW0⟩ : ∃ W0, w.alloc (.cells #[.int .i64 0, .string ⟨#[]⟩] 28) = W0 := ⟨_, rfl⟩
  have b0 : Below w.heap.size w W0 := by subst hW0; exact bpush (bre _) _
  have t0 : Tok W0 w.heap.size 28 0 ⟨#[]⟩ := by subst hW0; exact Tok.new w _ _ _
  have HQ0 := hid (hc.later b0)
  have HT0 := hid t0
  have HG0 : Hid (w.grownBy W0 (some k)) := by subst hW0; exact gal13 (wre _ _) _
  have HKL := hid hc.lt
  clear b0 t0 hc
  go_enter Tryd.func34, Tryd.ntmps34
  go_wp2_with fail
  clear hW0
  have HN := hid (next_any k s a W0 (by omega) HQ0.out)
  refine HN.out.mono ?_
  intro e w1 hn
  obtain ⟨c, ok, rfl, hcb, hq, hg, hw⟩ := hn
  have HQ := hid hq
  have HG1 := hid (wtr HG0.out hg)
  have hkne : k ≠ w.heap.size := by have := HKL.out; omega
  have HT1 : Hid (Tok w1 w.heap.size 28 0 ⟨#[]⟩) := (hg.block _ HT0.out.lt (fun e => by simp only [Option.some.injEq] at e; omega)).trans HT0.out
  have ct := HT1.out.cells
  have ft := HT1.out.loose
  clear hq hg HN
  cases ok with
  | false =>
    have hle : s.size ≤ a := by rcases hw with ⟨h, _⟩ | ⟨_, h⟩; (cases h); exact h
    clear hw
    have HX : Hid (tkn s a = none) := by
      show _ = _
      rw [tkn, at_none hle]
    have dt := (HT1.out.put 0 ⟨#[]⟩).cells
    go_wp2
    exact bodyPost_ret (v := .agg #[.int .i64 0, .string ⟨#[]⟩]) (by simp [results, Tryd.results34, go_sem, dt]) rfl ⟨wfar13 (wfar13 HG1.out (Nat.le_refl _) _ _) (Nat.le_refl _) _ _, Or.inl ⟨HX.out, ⟨_, _, rfl⟩, a, (HQ.out.far hkne _ _).far hkne _ _⟩⟩
  | true =>
    have hlt : ∃ h : a < s.size, s[a].toNat = c := by rcases hw with ⟨_, h⟩ | ⟨h, _⟩; (exact h); cases h
    clear hw
    obtain ⟨hlt, hcx⟩ := hlt
    have HU : Hid (tkn s a = if c = 34 then tkm 2 (qd s (s.size + 1) (a + 1) []) else if c = 123 then tkm 2 (lrd s a) else tkm 1 (ard s a)) := by
      show _ = _
      rw [tkn, at_get hlt]
      simp only [hcx]
    have hcc : c = 34 ∨ c = 123 ∨ (c ≠ 34 ∧ c ≠ 123) := by omega
    rcases hcc with rfl | rfl | ⟨h1, h2⟩
    · have HX : Hid (tkn s a = tkm 2 (qd s (s.size + 1) (a + 1) [])) := by show _ = _; rw [HU.out, if_pos rfl]
      have HM := hid (quoted_any k s a w1 hs hlt HQ.out)
      clear HU
      go_wp2_with fail
      refine HM.out.mono ?_
      intro e w2 hr
      obtain ⟨hg, hr⟩ := hr
      have HG2 := hid (wtr HG1.out hg)
      have HT2 : Hid (Tok w2 w.heap.size 28 0 ⟨#[]⟩) := (hg.block _ HT1.out.lt (fun e => by simp only [Option.some.injEq] at e; omega)).trans HT1.out
      clear hg HM ct ft
      have ct := HT2.out.cells
      have ft := HT2.out.loose
      rcases hr with ⟨h3, rfl, a3, hq⟩ | ⟨h3, rfl, a3, hq⟩ | ⟨t, n, h3, rfl, hn, hq⟩
      · have HR := hid hq
        have dt := (HT2.out.put 2 ⟨#[]⟩).cells
        have H3 : Hid (tkn s a = none) := by show _ = _; rw [HX.out, h3]; rfl
        clear hq h3
        go_wp2
        exact bodyPost_ret (v := .agg #[.int .i64 2, .string ⟨#[]⟩]) (by simp [results, Tryd.results34, go_sem, dt]) rfl ⟨wfar13 (wfar13 HG2.out (Nat.le_refl _) _ _) (Nat.le_refl _) _ _, Or.inl ⟨H3.out, ⟨_, _, rfl⟩, a3, (HR.out.far hkne _ _).far hkne _ _⟩⟩
      · have HR := hid hq
        have dt := (HT2.out.put 2 ⟨#[]⟩).cells
        have H3 : Hid (tkn s a = some none) := by show _ = _; rw [HX.out, h3]; rfl
        clear hq h3
        go_wp2
        exact bodyPost_ret (v := .agg #[.int .i64 2, .string ⟨#[]⟩]) (by simp [results, Tryd.results34, go_sem, dt]) rfl ⟨wfar13 (wfar13 HG2.out (Nat.le_refl _) _ _) (Nat.le_refl _) _ _, Or.inr (Or.inl ⟨H3.out, ⟨_, _, rfl⟩, a3, (HR.out.far hkne _ _).far hkne _ _⟩)⟩
      · have HR := hid hq
        have dt := (HT2.out.put 2 t).cells
        have H3 : Hid (tkn s a = some (some ((2, t), n))) := by show _ = _; rw [HX.out, h3]; rfl
        clear hq h3
        go_wp2
        exact bodyPost_ret (v := .agg #[.int .i64 2, .string t]) (by simp [results, Tryd.results34, go_sem, dt]) rfl ⟨wfar13 (wfar13 HG2.out (Nat.le_refl _) _ _) (Nat.le_refl _) _ _, Or.inr (Or.inr ⟨2, t, n, H3.out, rfl, hn, (HR.out.far hkne _ _).far hkne _ _⟩)⟩
    · have HX : Hid (tkn s a = tkm 2 (lrd s a)) := by show _ = _; rw [HU.out, if_neg (by decide), if_pos rfl]
      have HM := hid (literal_any k s a w1 hs hlt HQ.out)
      clear HU
      go_wp2_with fail
      refine HM.out.mono ?_
      intro e w2 hr
      obtain ⟨hg, hr⟩ := hr
      have HG2 := hid (wtr HG1.out hg)
      have HT2 : Hid (Tok w2 w.heap.size 28 0 ⟨#[]⟩) := (hg.block _ HT1.out.lt (fun e => by simp only [Option.some.injEq] at e; omega)).trans HT1.out
      clear hg HM ct ft
      have ct := HT2.out.cells
      have ft := HT2.out.loose
      rcases hr with ⟨h3, rfl, a3, hq⟩ | ⟨h3, rfl, a3, hq⟩ | ⟨t, n, h3, rfl, hn, hq⟩
      · have HR := hid hq
        have dt := (HT2.out.put 2 ⟨#[]⟩).cells
        have H3 : Hid (tkn s a = none) := by show _ = _; rw [HX.out, h3]; rfl
        clear hq h3
        go_wp2
        exact bodyPost_ret (v := .agg #[.int .i64 2, .string ⟨#[]⟩]) (by simp [results, Tryd.results34, go_sem, dt]) rfl ⟨wfar13 (wfar13 HG2.out (Nat.le_refl _) _ _) (Nat.le_refl _) _ _, Or.inl ⟨H3.out, ⟨_, _, rfl⟩, a3, (HR.out.far hkne _ _).far hkne _ _⟩⟩
      · have HR := hid hq
        have dt := (HT2.out.put 2 ⟨#[]⟩).cells
        have H3 : Hid (tkn s a = some none) := by show _ = _; rw [HX.out, h3]; rfl
        clear hq h3
        go_wp2
        exact bodyPost_ret (v := .agg #[.int .i64 2, .string ⟨#[]⟩]) (by simp [results, Tryd.results34, go_sem, dt]) rfl ⟨wfar13 (wfar13 HG2.out (Nat.le_refl _) _ _) (Nat.le_refl _) _ _, Or.inr (Or.inl ⟨H3.out, ⟨_, _, rfl⟩, a3, (HR.out.far hkne _ _).far hkne _ _⟩)⟩
      · have HR := hid hq
        have dt := (HT2.out.put 2 t).cells
        have H3 : Hid (tkn s a = some (some ((2, t), n))) := by show _ = _; rw [HX.out, h3]; rfl
        clear hq h3
        go_wp2
        exact bodyPost_ret (v := .agg #[.int .i64 2, .string t]) (by simp [results, Tryd.results34, go_sem, dt]) rfl ⟨wfar13 (wfar13 HG2.out (Nat.le_refl _) _ _) (Nat.le_refl _) _ _, Or.inr (Or.inr ⟨2, t, n, H3.out, rfl, hn, (HR.out.far hkne _ _).far hkne _ _⟩)⟩
    · have HX : Hid (tkn s a = tkm 1 (ard s a)) := by show _ = _; rw [HU.out, if_neg h1, if_neg h2]
      have HM := hid (atom_any k s a w1 hs ha HQ.out)
      have i1 : ((c : Int) == 34) = false := by rw [beq_eq_false_iff_ne]; omega
      have i2 : ((c : Int) == 123) = false := by rw [beq_eq_false_iff_ne]; omega
      clear HU h1 h2
      go_wp2_with fail
      refine HM.out.mono ?_
      intro e w2 hr
      obtain ⟨hg, hr⟩ := hr
      have HG2 := hid (wtr HG1.out hg)
      have HT2 : Hid (Tok w2 w.heap.size 28 0 ⟨#[]⟩) := (hg.block _ HT1.out.lt (fun e => by simp only [Option.some.injEq] at e; omega)).trans HT1.out
      clear hg HM ct ft
      have ct := HT2.out.cells
      have ft := HT2.out.loose
      rcases hr with ⟨h3, rfl, a3, hq⟩ | ⟨h3, rfl, a3, hq⟩ | ⟨t, n, h3, rfl, hn, hq⟩
      · have HR := hid hq
        have dt := (HT2.out.put 1 ⟨#[]⟩).cells
        have H3 : Hid (tkn s a = none) := by show _ = _; rw [HX.out, h3]; rfl
        clear hq h3
        go_wp2
        exact bodyPost_ret (v := .agg #[.int .i64 1, .string ⟨#[]⟩]) (by simp [results, Tryd.results34, go_sem, dt]) rfl ⟨wfar13 (wfar13 HG2.out (Nat.le_refl _) _ _) (Nat.le_refl _) _ _, Or.inl ⟨H3.out, ⟨_, _, rfl⟩, a3, (HR.out.far hkne _ _).far hkne _ _⟩⟩
      · have HR := hid hq
        have dt := (HT2.out.put 1 ⟨#[]⟩).cells
        have H3 : Hid (tkn s a = some none) := by show _ = _; rw [HX.out, h3]; rfl
        clear hq h3
        go_wp2
        exact bodyPost_ret (v := .agg #[.int .i64 1, .string ⟨#[]⟩]) (by simp [results, Tryd.results34, go_sem, dt]) rfl ⟨wfar13 (wfar13 HG2.out (Nat.le_refl _) _ _) (Nat.le_refl _) _ _, Or.inr (Or.inl ⟨H3.out, ⟨_, _, rfl⟩, a3, (HR.out.far hkne _ _).far hkne _ _⟩)⟩
      · have HR := hid hq
        have dt := (HT2.out.put 1 t).cells
        have H3 : Hid (tkn s a = some (some ((1, t), n))) := by show _ = _; rw [HX.out, h3]; rfl
        clear hq h3
        go_wp2
        exact bodyPost_ret (v := .agg #[.int .i64 1, .string t]) (by simp [results, Tryd.results34, go_sem, dt]) rfl ⟨wfar13 (wfar13 HG2.out (Nat.le_refl _) _ _) (Nat.le_refl _) _ _, Or.inr (Or.inr ⟨1, t, n, H3.out, rfl, hn, (HR.out.far hkne _ _).far hkne _ _⟩)⟩
/-- What is behind the first 13 and 10, from a place on. -/
def eln (s : ByteArray) : Nat → Nat → ByteArray
  | 0, _ => ⟨#[]⟩
  | f + 1, i =>
    match s.data.toList[i]?, s.data.toList[i + 1]? with
    | some x, some y => if x.toNat = 13 ∧ y.toNat = 10 then s.extract (i + 2) s.size else eln s f (i + 1)
    | _, _ => ⟨#[]⟩
set_option maxHeartbeats 1600000 in
set_option maxRecDepth 100000 in
theorem end13_any (s : ByteArray) (w : World) (hs : s.size ≤ 1048576) :
    Calls Tryd.prog 37 #[.string s] w fun e w' => e = .returned (.string (eln s (s.size + 1) 0)) ∧ w' = w := by
  obtain ⟨E, hE⟩ : ∃ E, eln s (s.size + 1) 0 = E := ⟨_, rfl⟩
  rw [hE]
  have HE := hid hE
  clear hE
  go_enter Tryd.func37, Tryd.ntmps37
  go_wp2
  go_loopw [3] (fun iv wr => ∃ (i fu : Nat), i ≤ s.size ∧ iv = .int .i64 (i : Int) ∧ Hid (eln s fu i = E) ∧ Hid (s.size < i + fu) ∧ wr = w) (fun iv _ => s.size + 1 - (intOf iv).toNat)
  case atStart => exact ⟨0, s.size + 1, Nat.zero_le _, rfl, HE.out, by show _ < _; omega, rfl⟩
  case round =>
    obtain ⟨i, fu, hi, rfl, HD, HF, hw⟩ := hrel
    subst hw
    obtain ⟨fu, rfl⟩ : ∃ f', fu = f' + 1 := ⟨fu - 1, by have := HF.out; omega⟩
    by_cases hlt : i + 1 < s.size
    · obtain ⟨c, hcx⟩ : ∃ c : Nat, s[i].toNat = c := ⟨_, rfl⟩
      obtain ⟨c2, hcx2⟩ : ∃ c : Nat, s[i + 1].toNat = c := ⟨_, rfl⟩
      have hcb : c < 256 := by rw [← hcx]; exact s[i].toNat_lt
      have hcb2 : c2 < 256 := by rw [← hcx2]; exact s[i + 1].toNat_lt
      have hI : (0 : Int) ≤ (i : Int) ∧ (i : Int) < (s.size : Int) ∧ (i : Int) + 1 < (s.size : Int) := by omega
      have HU : Hid (E = if c = 13 ∧ c2 = 10 then s.extract (i + 2) s.size else eln s fu (i + 1)) := by
        show _ = _
        rw [← HD.out, eln, at_get (show i < s.size by omega), at_get hlt]
        simp only [hcx, hcx2]
      by_cases h1 : c = 13
      · by_cases h2 : c2 = 10
        · subst h1
          subst h2
          have HX : Hid (E = s.extract (i + 2) s.size) := by show _ = _; rw [HU.out, if_pos ⟨rfl, rfl⟩]
          clear HU
          go_wp2
          go_ret
          exact ⟨by rw [HX.out]; rfl, rfl⟩
        · subst h1
          have HX : Hid (eln s fu (i + 1) = E) := by show _ = _; rw [HU.out, if_neg (fun h => h2 h.2)]
          have i2 : ((c2 : Int) == 10) = false := by rw [beq_eq_false_iff_ne]; omega
          clear HU h2
          go_wp2
          go_roundw
          case rel => exact ⟨i + 1, fu, by omega, by go_num, HX.out, by have := HF.out; show _ < _; omega, trivial⟩
          case measure => simp [intOf]; omega
      · have HX : Hid (eln s fu (i + 1) = E) := by show _ = _; rw [HU.out, if_neg (fun h => h1 h.1)]
        have i1 : ((c : Int) == 13) = false := by rw [beq_eq_false_iff_ne]; omega
        clear HU h1
        go_wp2
        go_roundw
        case rel => exact ⟨i + 1, fu, by omega, by go_num, HX.out, by have := HF.out; show _ < _; omega, trivial⟩
        case measure => simp [intOf]; omega
    · have HX : Hid (E = ⟨#[]⟩) := by
        show _ = _
        rw [← HD.out, eln, at_none (show s.size ≤ i + 1 by omega)]
        cases s.data.toList[i]? <;> rfl
      go_wp2
      go_ret
      exact ⟨by rw [HX.out]; rfl, rfl⟩
end Go.Proofs.YtmalpgbdemcmdaaDoor
