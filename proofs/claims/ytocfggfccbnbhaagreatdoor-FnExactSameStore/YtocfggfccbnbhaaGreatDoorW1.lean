/- Ma, Short, Mc, Me, MailTx. -/
import Derived.Test.YtocfggfccbnbhaaGreatDoorS15
import Derived.WalkKit
import Derived.Laws.IdiomStrings
import Derived.WalkSpells
import Derived.Test.YtocfggfccbnbhaaGreatDoorProg
import Derived.WalkLawsBesides
import Derived.Lib.Strings
import Derived.Lib.BufferWrite
import Derived.Lib.UnsafeStr
import Derived.Laws.MakeOwn
import Derived.Test.YtocfggfccbnbhaaGreatDoorProg
import Derived.Below
import Derived.BigQuiet
import Derived.Deep.QuietTactic
import Derived.Deep.RegionHeld3
import Derived.Deep.Cut
import Derived.Laws.ShiftsVarLaws
import Derived.Lib.BufferMore
namespace Go.Proofs.YtocfggfccbnbhaaGreatDoor
open Go.RowKit
end Go.Proofs.YtocfggfccbnbhaaGreatDoor
namespace Go.Proofs.YtocfggfccbnbhaaGreatDoor
open Go.RowKit
set_option maxHeartbeats 400000 in
set_option maxRecDepth 100000 in
theorem implVar_any (n : Nat) (w : World) (hn : n ≤ 1000000000) :
    Calls Tryz.prog 37 #[.int .i64 n] w fun e w' => e = .returned (.tuple #[.string ⟨(vbs n).toArray⟩, .bool true]) ∧ Below w.heap.size w w' := by
  obtain ⟨i0, hi, hz0, hz1, hz2⟩ := info_parts Tryz.info5
  go_enter Tryz.func37, Tryz.ntmps37
  go_wp2_with (at_make; refine wpList_make_own w rfl _ _ 22 rfl w.heap.size 5 i0 (.int .u8 0) 1 Tryz.underlying22 hi hz0 hz1 .i64 .i64 5 5 (by rfl) (by rfl) rfl (by rw [hz2]; decide) (by decide) (Nat.le_refl _) ?_; intro w0 hown0 hg0)
  clear hi hz0 hz1 hz2 i0
  go_loopw [0, 4] (fun nv v wr => ∃ (m : Nat) (bs : List UInt8), nv = .int .i64 m ∧ m ≤ n ∧ bs ++ vbs m = vbs n ∧ wr.ownsRow w.heap.size 5 1 v bs.length (bs.map bv) ∧ Below w.heap.size w wr)
    (fun nv _ _ => (intOf nv).toNat)
  case atStart => exact ⟨n, [], rfl, Nat.le_refl _, rfl, hown0, (Below.refl _ _).grown hg0 (Nat.le_refl _) (by simp)⟩
  case round =>
    clear hown0 hg0
    obtain ⟨m, bs, rfl, hm, hbs, hown, hnx⟩ := hrel
    have HB : Hid (bs ++ vbs m = vbs n) := hbs
    clear hbs
    have hsz := hnx.size
    have hlen : bs.length ≤ 1000000000001 := by have := congrArg List.length HB.out; have := vbs_len n; simp at *; omega
    by_cases hlt : 127 < m
    · go_wp2_with (at_builtin; (refine wpList_append_byte wr rfl (.tmp 14) (.tmp 19) 22 rfl w.heap.size 5 Tryz.info5 Tryz.underlying22 _ bs (by rfl) hown _ (UInt8.ofNat (m % 128 + 128)) ?c1 rfl (by omega) hsz ?_); rotate_right; intro v1 w1 hown1 hb1)
      case c1 => rw [u8_nat _ (by omega)]; omega
      go_roundw
      case rel => exact ⟨m / 128, bs ++ [UInt8.ofNat (m % 128 + 128)], by go_num, by omega, by rw [← HB.out, vbs_big m hlt]; simp, hown1, hnx.trans hb1⟩
      case measure => simp [intOf]; omega
    · go_wp2_with (first | (at_builtin; (refine wpList_append_byte wr rfl (.tmp 23) (.tmp 26) 22 rfl w.heap.size 5 Tryz.info5 Tryz.underlying22 _ bs (by rfl) hown _ (UInt8.ofNat m) ?c2 rfl (by omega) hsz ?_); rotate_right; intro v1 w1 hown1 hb1; have hcv := run_string_own (P := Tryz.prog) w1 22 9 5 Tryz.underlying22 Tryz.underlying5 Tryz.underlying9 _ hown1))
      case c2 => rw [u8_nat _ (by omega)]
      go_ret2
      exact ⟨ret_strok (by rw [← HB.out, vbs_small m hlt]), hnx.trans hb1⟩
end Go.Proofs.YtocfggfccbnbhaaGreatDoor
namespace Go.Proofs.YtocfggfccbnbhaaGreatDoor
open Go.RowKit
end Go.Proofs.YtocfggfccbnbhaaGreatDoor
namespace Go.Proofs.YtocfggfccbnbhaaGreatDoor
open Go.RowKit
abbrev rgv (v t b : Int) : Value := .agg #[.int .i64 v, .int .i64 t, .int .i64 b]
theorem toStamp_any (t b : Int) (w : World) :
    Calls Tryz.prog 156 #[.agg #[.int .i64 t, .int .i64 b]] w fun e w' => e = .returned (.agg #[.int .i64 t, .int .i64 b]) ∧ w' = ((w.alloc (.cells #[.int .i64 t, .int .i64 b] 147)).alloc (.cells #[.int .i64 t, .int .i64 b] 35)).alloc (.cells #[.int .i64 t, .int .i64 b] 35) := by
  go_enter Tryz.func156, Tryz.ntmps156
  go_wp2
  exact bodyPost_ret (v := .agg #[.int .i64 t, .int .i64 b]) (by simp [results, Tryz.results156, go_sem]) rfl ⟨rfl, rfl⟩
end Go.Proofs.YtocfggfccbnbhaaGreatDoor
namespace Go.Proofs.YtocfggfccbnbhaaGreatDoor
open Go.RowKit
end Go.Proofs.YtocfggfccbnbhaaGreatDoor
namespace Go.Proofs.YtocfggfccbnbhaaGreatDoor
open Go.RowKit
theorem toReg_any (v t b : Int) (w : World) :
    Calls Tryz.prog 215 #[.agg #[.int .i64 v, .int .i64 t, .int .i64 b]] w fun e w' => e = .returned (.agg #[.int .i64 v, .int .i64 t, .int .i64 b]) ∧ Below w.heap.size w w' := by
  go_enter Tryz.func215, Tryz.ntmps215
  go_wp2_with fail
  refine (toStamp_any t b _).mono ?_; rintro e w1 ⟨rfl, rfl⟩
  go_wp2_with fail
  exact bodyPost_ret (v := rgv v t b) (by simp [results, Tryz.results215, go_sem]) rfl ⟨rfl, by repeat (first | exact bre _ | refine bpush ?_ _)⟩
end Go.Proofs.YtocfggfccbnbhaaGreatDoor
namespace Go.Proofs.YtocfggfccbnbhaaGreatDoor
open Go.RowKit
theorem toStamp_b (t b : Int) (w : World) :
    Calls Tryz.prog 156 #[.agg #[.int .i64 t, .int .i64 b]] w fun e w' => e = .returned (.agg #[.int .i64 t, .int .i64 b]) ∧ Below w.heap.size w w' :=
  (toStamp_any t b w).mono fun _ _ h => ⟨h.1, h.2 ▸ bpush (bpush (bpush (bre _) _) _) _⟩
end Go.Proofs.YtocfggfccbnbhaaGreatDoor
namespace Go.Proofs.YtocfggfccbnbhaaGreatDoor
open Go.RowKit
end Go.Proofs.YtocfggfccbnbhaaGreatDoor

namespace Go.Proofs.YtocfggfccbnbhaaGreatDoor
open Go.RowKit
theorem implShort_yes (s : ByteArray) (w : World) (hs : s.size ≤ 20000) :
    Calls Tryz.prog 51 #[.string s] w fun e w' => e = .returned (.tuple #[.string (⟨(vbs s.size).toArray⟩ ++ s), .bool true]) ∧ Below w.heap.size w w' := by
  have hl := vbs_len s.size
  go_enter Tryz.func51, Tryz.ntmps51
  go_wp2_with fail
  refine (implVar_any s.size _ (by omega)).mono ?_; rintro e w1 ⟨rfl, hb1⟩
  go_wp2
  go_ret2
  exact ⟨rfl, hb1⟩
end Go.Proofs.YtocfggfccbnbhaaGreatDoor

namespace Go.Proofs.YtocfggfccbnbhaaGreatDoor
open Go.RowKit
theorem Rs.empty (W : World) (a : Option Addr) : Rs W a [] := fun h => absurd h (by simp)
end Go.Proofs.YtocfggfccbnbhaaGreatDoor
namespace Go.Proofs.YtocfggfccbnbhaaGreatDoor
open Go.RowKit
theorem fl_rep (n : Nat) : fl (List.replicate n (0, 0, 0)) = List.replicate (n * 3) (.int .i64 0) := by
  induction n with
  | zero => rfl
  | succ n ih => rw [List.replicate_succ, show (n + 1) * 3 = n * 3 + 1 + 1 + 1 by omega]; simp only [fl, ih, List.replicate_succ]
theorem made3 (n : Nat) : (madeCells #[.int .i64 0, .int .i64 0, .int .i64 0] (n * 3)).toList = fl (List.replicate n (0, 0, 0)) := by
  rw [fl_rep]
  apply List.ext_getElem?
  intro j
  by_cases hj : j < n * 3
  · have h3 : j % 3 = 0 ∨ j % 3 = 1 ∨ j % 3 = 2 := by omega
    rcases h3 with h | h | h <;> simp [madeCells, hj, h]
  · simp [madeCells, hj]
/-- A new row of n registers. -/
theorem make_rg (n : Nat) (hn : n ≤ 1048576) : ∃ M : Array Value, Hid (∀ W : World, Ow (W.alloc (.cells M 138)) W.heap.size (.slice (some ⟨W.heap.size, 0, none⟩) n n) (List.replicate n (0, 0, 0))) ∧
    ∀ W : World, (Instr.makeSlice 84 (.int .i64 (n : Int)) (.int .i64 (n : Int))).run Tryz.prog W = .ok (.slice (some ⟨W.heap.size, 0, none⟩) n n) (W.alloc (.cells M 138)) := by
  obtain ⟨i0, hi, hz0, hz1, hz2⟩ := info_parts3 info_rg
  refine ⟨madeCells #[.int .i64 0, .int .i64 0, .int .i64 0] (n * 3), fun W => ?_, fun W => ?_⟩
  · have h := World.ownsRow_lit (base := W.heap.size) (e := 138) (size := 3) W (madeCells #[.int .i64 0, .int .i64 0, .int .i64 0] (n * 3)) n (Nat.le_refl _) (by unfold maxLen; omega) (size_madeCells _ _)
    rw [made3] at h
    simpa [Ow] using h
  · have h := run_make (P := Tryz.prog) W 84 138 i0 (.agg #[.int .i64 0, .int .i64 0, .int .i64 0]) Tryz.underlying84 hi hz0 .i64 .i64 (n : Int) (n : Int) (by omega) (by omega) (by rw [hz2]; omega) (by omega)
    rw [hz1, Int.toNat_natCast] at h
    exact h
theorem sz_over (ao : Option Addr) (n cap : Nat) (lf : Int) (w : World) (_hn : (n : Int) ≤ 9223372036854775807) (_hl : 0 ≤ lf ∧ lf ≤ 1048576) (h : lf < (n : Int)) :
    Calls Tryz.prog 205 #[.slice ao n cap, .int .i64 lf] w fun e w' => e = .returned (.int .i64 (-1)) ∧ w' = w := by
  have h1 : lf - (n : Int) < 0 := by omega
  go_enter Tryz.func205, Tryz.ntmps205
  go_wp2
  go_ret
  exact ⟨rfl, rfl⟩
theorem sz_fits (ao : Option Addr) (n cap : Nat) (lf : Int) (w : World) (_hn : (n : Int) ≤ 9223372036854775807) (_hl : 0 ≤ lf ∧ lf ≤ 1048576) (h : ¬ lf < (n : Int)) :
    Calls Tryz.prog 205 #[.slice ao n cap, .int .i64 lf] w fun e w' => e = .returned (.int .i64 (lf - n)) ∧ w' = w := by
  have h1 : ¬ lf - (n : Int) < 0 := by omega
  go_enter Tryz.func205, Tryz.ntmps205
  go_wp2
  go_ret
  exact ⟨rfl, rfl⟩
/-- A row that is filled from the front: the first i places are l's. -/
def fil (l : List R3) (i : Nat) : List R3 := l.take i ++ List.replicate (l.length - i) (0, 0, 0)
theorem fil_len (l : List R3) (i : Nat) (h : i ≤ l.length) : (fil l i).length = l.length := by simp [fil]; omega
theorem fil_zero (l : List R3) : fil l 0 = List.replicate l.length (0, 0, 0) := by simp [fil]
theorem fil_all (l : List R3) : fil l l.length = l := by simp [fil]
theorem fil_set (l : List R3) (i : Nat) (h : i < l.length) : (fil l i).set i l[i] = fil l (i + 1) := by
  unfold fil
  rw [List.set_append_right _ _ (by simp; omega)]
  have e : i - (l.take i).length = 0 := by simp; omega
  rw [e]
  obtain ⟨m, hm⟩ : ∃ m, l.length - i = m + 1 := ⟨l.length - i - 1, by omega⟩
  rw [hm, show l.length - (i + 1) = m by omega, List.replicate_succ, List.set_cons_zero, List.take_succ_eq_append_getElem h, List.append_assoc]
  rfl
set_option maxHeartbeats 400000 in
set_option maxRecDepth 100000 in
theorem toS_any (ao : Option Addr) (n cap : Nat) (l : List R3) (w : World) (hl : l.length = n) (hn : n ≤ 1048576) (hr : Rs w ao l) :
    Calls Tryz.prog 206 #[.slice ao n cap] w fun e w' => e = .returned (.slice (some ⟨w.heap.size, 0, none⟩) n n) ∧ Ow w' w.heap.size (.slice (some ⟨w.heap.size, 0, none⟩) n n) l ∧ Below w.heap.size w w' := by
  obtain ⟨M, hM, hmk⟩ := make_rg n hn
  have HR := hid hr
  have HL := hid hl
  clear hr hl
  go_enter Tryz.func206, Tryz.ntmps206
  go_wp2
  clear hmk
  go_loopw [4] (fun iv wr => ∃ i : Nat, i ≤ n ∧ iv = .int .i64 (i : Int) ∧ Ow wr w.heap.size (.slice (some ⟨w.heap.size, 0, none⟩) n n) (fil l i) ∧ Below w.heap.size w wr) (fun iv _ => n - (intOf iv).toNat)
  case atStart => exact ⟨0, Nat.zero_le _, rfl, by rw [fil_zero, HL.out]; exact hM.out w, bpush (bre _) _⟩
  case round =>
    obtain ⟨i, hi, rfl, hown, hb⟩ := hrel
    have HO := hid hown
    have hsz := hb.size
    clear hown
    by_cases hlt : i < n
    · have hil : i < l.length := by rw [HL.out]; exact hlt
      obtain ⟨k, o, rfl, hk, c1, c2, c3⟩ := (HR.out.later hb).at hil
      obtain ⟨p, hp⟩ : ∃ p, l[i] = p := ⟨_, rfl⟩
      rw [hp] at c1 c2 c3
      obtain ⟨v, t, b⟩ := p
      have HP := hid hp
      clear hp
      go_wp2_with fail
      refine (toReg_any v t b _).mono ?_; rintro e w1 ⟨rfl, hb1⟩
      have H1 := hid (own_later HO.out hb1)
      obtain ⟨x, y, z, hc, hf⟩ := Ow.spot H1.out i (by rw [fil_len _ _ (by omega)]; exact hil)
      have HST := hid (Ow.stored H1.out i (by rw [fil_len _ _ (by omega)]; exact hil) (v, t, b))
      have HB1 : Hid (Below w.heap.size w w1) := btr hb hb1
      clear c1 c2 c3 hb1 hb
      go_wp2
      go_roundw
      case rel => exact ⟨i + 1, by omega, by go_num, HST.out.cast (by rw [← HP.out]; exact fil_set l i hil), bset (bset (bset HB1.out (Nat.le_refl _) _) (Nat.le_refl _) _) (Nat.le_refl _) _⟩
      case measure => simp [intOf]; omega
    · have HE : Hid (i = l.length) := by show _ = _; rw [HL.out]; omega
      go_wp2
      go_ret
      exact ⟨rfl, HO.out.cast (by rw [HE.out, fil_all]), hb⟩
end Go.Proofs.YtocfggfccbnbhaaGreatDoor
namespace Go.Proofs.YtocfggfccbnbhaaGreatDoor
open Go.RowKit
end Go.Proofs.YtocfggfccbnbhaaGreatDoor
namespace Go.Proofs.YtocfggfccbnbhaaGreatDoor
open Go.RowKit
end Go.Proofs.YtocfggfccbnbhaaGreatDoor
namespace Go.Proofs.YtocfggfccbnbhaaGreatDoor
open Go.RowKit
end Go.Proofs.YtocfggfccbnbhaaGreatDoor
namespace Go.Proofs.YtocfggfccbnbhaaGreatDoor
open Go.RowKit
end Go.Proofs.YtocfggfccbnbhaaGreatDoor

namespace Go.Proofs.YtocfggfccbnbhaaGreatDoor
open Go.RowKit
end Go.Proofs.YtocfggfccbnbhaaGreatDoor
namespace Go.Proofs.YtocfggfccbnbhaaGreatDoor
open Go.RowKit
/-- Three blocks: a mail as it came in, and two that are new. -/
theorem three_mails (w : World) (ta tb tc : Nat) (g u g1 u1 g2 u2 : Int) (f f1 f2 : Value) (t t1 t2 : ByteArray) (W0 : World) (h : (((w.alloc (.cells #[.int .i64 g, .int .i64 u, f, .string t] ta)).alloc (.cells #[.int .i64 g1, .int .i64 u1, f1, .string t1] tb)).alloc (.cells #[.int .i64 g2, .int .i64 u2, f2, .string t2] tc)) = W0) :
    Mg W0 w.heap.size ta g u f t ∧ Mg W0 (w.heap.size + 1) tb g1 u1 f1 t1 ∧ Mg W0 (w.heap.size + 1 + 1) tc g2 u2 f2 t2 ∧ Below w.heap.size w W0 := by
  subst h
  exact ⟨(Mg.new w ta g u f t).later (bpush (bpush (bre _) _) _), Mg.later (by simpa using Mg.new (w.alloc (.cells #[.int .i64 g, .int .i64 u, f, .string t] ta)) tb g1 u1 f1 t1) (bpush (bre _) _),
    by simpa using Mg.new ((w.alloc (.cells #[.int .i64 g, .int .i64 u, f, .string t] ta)).alloc (.cells #[.int .i64 g1, .int .i64 u1, f1, .string t1] tb)) tc g2 u2 f2 t2, bpush (bpush (bpush (bre _) _) _) _⟩
set_option maxHeartbeats 400000 in
set_option maxRecDepth 100000 in
theorem toMail_any (g u : Int) (ao : Option Addr) (n cap : Nat) (l : List R3) (t : ByteArray) (w : World) (hl : l.length = n) (hn : n ≤ 1048576) (hr : Rs w ao l) :
    Calls Tryz.prog 183 #[.agg #[.int .i64 g, .int .i64 u, .slice ao n cap, .string t]] w fun e w' => ∃ k, e = .returned (.agg #[.int .i64 g, .int .i64 u, .slice (some ⟨k, 0, none⟩) n n, .string t]) ∧ Ow w' k (.slice (some ⟨k, 0, none⟩) n n) l ∧ w.heap.size ≤ k ∧ Below w.heap.size w w' := by
  obtain ⟨W0, hW0⟩ : ∃ W0, (((w.alloc (.cells #[.int .i64 g, .int .i64 u, .slice ao n cap, .string t] 202)).alloc (.cells #[.int .i64 0, .int .i64 0, .slice none 0 0, .string ⟨#[]⟩] 86)).alloc (.cells #[.int .i64 0, .int .i64 0, .slice none 0 0, .string ⟨#[]⟩] 86)) = W0 := ⟨_, rfl⟩
  obtain ⟨a0, a1, a2, b0⟩ := three_mails w _ _ _ _ _ _ _ _ _ _ _ _ _ _ _ W0 hW0
  have A0 := hid a0
  have A1 := hid a1
  have A2 := hid a2
  have B0 := hid b0
  have HR := hid hr
  have HL := hid hl
  have HN := hid hn
  have c0 := a0.cells
  have c2 := a2.cells
  have f2 := a2.loose
  have hsz : W0.heap.size = w.heap.size + 1 + 1 + 1 := by rw [← hW0]; simp
  have HSZ := hid hsz
  clear a0 a1 a2 b0 hr hl hn hsz
  go_enter Tryz.func183, Tryz.ntmps183
  go_wp2_with fail
  clear hW0
  obtain ⟨W1, hW1⟩ : ∃ W1, (W0.setCell ⟨w.heap.size + 1 + 1, 0, none⟩ (.int .i64 g)).setCell ⟨w.heap.size + 1 + 1, 1, none⟩ (.int .i64 u) = W1 := ⟨_, rfl⟩
  rw [hW1]
  have M2 : Hid (Mg W1 (w.heap.size + 1 + 1) 86 g u (.slice none 0 0) ⟨#[]⟩) := by subst hW1; exact (A2.out.s0 g).s1 u
  have M1 : Hid (Mg W1 (w.heap.size + 1) 86 0 0 (.slice none 0 0) ⟨#[]⟩) := by subst hW1; exact (A1.out.far _ (by omega)).far _ (by omega)
  have M0 : Hid (Mg W1 w.heap.size 202 g u (.slice ao n cap) t) := by subst hW1; exact (A0.out.far _ (by omega)).far _ (by omega)
  have B1 : Hid (Below w.heap.size w W1) := by subst hW1; exact bsk (bsk B0.out (by omega) _ _) (by omega) _ _
  clear hW1 c0 c2 f2 A1 A2 B0
  refine (toS_any ao n cap l W1 HL.out HN.out (HR.out.later B1.out)).mono ?_; rintro e w1 ⟨rfl, hown, hb⟩
  have m1 := M1.out.later hb
  have m2 := M2.out.later hb
  have c0 := (M0.out.later hb).cells
  have c1 := m1.cells
  have f1 := m1.loose
  have c2 := m2.cells
  have f2 := m2.loose
  have E1 := hid m1
  have E2 := hid m2
  have HO := hid hown
  have HB := hid (btr B1.out hb)
  have HS := hid B1.out.size
  have L2 := hid M2.out.lt
  clear m1 m2 hown hb
  go_wp2
  have k2 := (E2.out.s2 (.slice (some ⟨W1.heap.size, 0, none⟩) n n)).s3 t
  have k1 := ((((E1.out.far (.slice (some ⟨W1.heap.size, 0, none⟩) n n) (j := w.heap.size + 1 + 1) (i := 2) (by omega)).far (.string t) (j := w.heap.size + 1 + 1) (i := 3) (by omega)).s0 g).s1 u).s2 (.slice (some ⟨W1.heap.size, 0, none⟩) n n) |>.s3 t
  have d1 := k1.cells
  refine bodyPost_ret (v := .agg #[.int .i64 g, .int .i64 u, .slice (some ⟨W1.heap.size, 0, none⟩) n n, .string t]) (by simp [results, Tryz.results183, go_sem, d1]) rfl ⟨_, rfl, ?_, HS.out, ?_⟩
  · have h2 := L2.out
    exact (((((HO.out.far (by omega) 2 _).far (by omega) 3 _).far (by omega) 0 _).far (by omega) 1 _).far (by omega) 2 _).far (by omega) 3 _
  · exact bsk (bsk (bsk (bsk (bsk (bsk HB.out (by omega) _ _) (by omega) _ _) (by omega) _ _) (by omega) _ _) (by omega) _ _) (by omega) _ _
theorem szMail_over (g u : Int) (ao : Option Addr) (n cap : Nat) (t : ByteArray) (lf : Int) (w : World) (hn : (n : Int) ≤ 9223372036854775807) (ht : (t.size : Int) ≤ 9223372036854775807) (hl : 0 ≤ lf ∧ lf ≤ 1048576) (h : lf < (n : Int) + t.size) :
    Calls Tryz.prog 182 #[.agg #[.int .i64 g, .int .i64 u, .slice ao n cap, .string t], .int .i64 lf] w fun e w' => e = .returned (.int .i64 (-1)) ∧ Below w.heap.size w w' := by
  have A0 := (Mg.new w 202 g u (.slice ao n cap) t).cells
  by_cases h1 : lf < (n : Int)
  · go_enter Tryz.func182, Tryz.ntmps182
    go_wp2_with fail
    refine (sz_over ao n cap lf _ hn hl h1).mono ?_; rintro e w1 ⟨rfl, h1⟩
    subst h1
    go_wp2
    go_ret
    exact ⟨rfl, bpush (bre _) _⟩
  · have H1 := hid h1
    go_enter Tryz.func182, Tryz.ntmps182
    go_wp2_with fail
    refine (sz_fits ao n cap lf _ hn hl (by have := H1.out; omega)).mono ?_; rintro e w1 ⟨rfl, h2⟩
    subst h2
    obtain ⟨m, hm⟩ : ∃ m : Int, lf - n = m := ⟨_, rfl⟩
    rw [hm]
    have h1 := H1.out
    have h3 : ¬ m < 0 := by omega
    have h4 : m - (t.size : Int) < 0 := by omega
    have h5 : m ≤ 1048576 := by omega
    clear hm h h1
    go_wp2
    go_ret
    exact ⟨rfl, bpush (bre _) _⟩
theorem szMail_fits (g u : Int) (ao : Option Addr) (n cap : Nat) (t : ByteArray) (lf : Int) (w : World) (hn : (n : Int) ≤ 9223372036854775807) (ht : (t.size : Int) ≤ 9223372036854775807) (hl : 0 ≤ lf ∧ lf ≤ 1048576) (h : ¬ lf < (n : Int) + t.size) :
    Calls Tryz.prog 182 #[.agg #[.int .i64 g, .int .i64 u, .slice ao n cap, .string t], .int .i64 lf] w fun e w' => e = .returned (.int .i64 (lf - n - t.size)) ∧ Below w.heap.size w w' := by
  have A0 := (Mg.new w 202 g u (.slice ao n cap) t).cells
  have H1 : Hid (¬ lf < (n : Int)) := by show ¬ _; omega
  go_enter Tryz.func182, Tryz.ntmps182
  go_wp2_with fail
  refine (sz_fits ao n cap lf _ hn hl (by have := H1.out; omega)).mono ?_; rintro e w1 ⟨rfl, h2⟩
  subst h2
  obtain ⟨m, hm⟩ : ∃ m : Int, lf - n = m := ⟨_, rfl⟩
  rw [hm]
  have h1 := H1.out
  have h3 : ¬ m < 0 := by omega
  have h4 : ¬ m - (t.size : Int) < 0 := by omega
  have h5 : m ≤ 1048576 := by omega
  have HM := hid hm
  clear hm h h1
  go_wp2
  go_ret
  exact ⟨by rw [HM.out]; rfl, bpush (bre _) _⟩
end Go.Proofs.YtocfggfccbnbhaaGreatDoor
namespace Go.Proofs.YtocfggfccbnbhaaGreatDoor
open Go.RowKit
end Go.Proofs.YtocfggfccbnbhaaGreatDoor
namespace Go.Proofs.YtocfggfccbnbhaaGreatDoor
open Go.RowKit
end Go.Proofs.YtocfggfccbnbhaaGreatDoor
namespace Go.Proofs.YtocfggfccbnbhaaGreatDoor
open Go.RowKit
end Go.Proofs.YtocfggfccbnbhaaGreatDoor
namespace Go.Proofs.YtocfggfccbnbhaaGreatDoor
open Go.RowKit
end Go.Proofs.YtocfggfccbnbhaaGreatDoor
namespace Go.Proofs.YtocfggfccbnbhaaGreatDoor
open Go.RowKit
end Go.Proofs.YtocfggfccbnbhaaGreatDoor
namespace Go.Proofs.YtocfggfccbnbhaaGreatDoor
open Go.RowKit
end Go.Proofs.YtocfggfccbnbhaaGreatDoor

namespace Go.Proofs.YtocfggfccbnbhaaGreatDoor
open Go.RowKit
theorem var_i (n : Int) (h0 : 0 ≤ n) (h1 : n ≤ 1000000000) : ∃ x : ByteArray, Hid (x = vi n) ∧ x.size ≤ 1000000001 ∧ Hid (∀ w, Calls Tryz.prog 37 #[.int .i64 n] w fun e w' => e = .returned (.tuple #[.string x, .bool true]) ∧ Below w.heap.size w w') := by
  obtain ⟨k, rfl⟩ : ∃ k : Nat, n = k := ⟨n.toNat, by omega⟩
  exact ⟨vi k, rfl, vi_size _ h1, fun w => implVar_any k w (by omega)⟩
set_option maxHeartbeats 400000 in
set_option maxRecDepth 100000 in
theorem varTexts_any (k : Nat) (xs : List Int) (n : Nat) (w : World) (hn : xs.length = n) (h3 : n ≤ 3) (hx : ∀ x ∈ xs, 0 ≤ x ∧ x ≤ 1000000000) (hk : k < w.heap.size) (hc : ∀ i (h : i < xs.length), w.cell? ⟨k, i, none⟩ = some (.int .i64 xs[i])) :
    Calls Tryz.prog 34 #[.slice (some ⟨k, 0, none⟩) n n] w fun e w' => e = .returned (.string (vis xs)) ∧ Below w.heap.size w w' := by
  have HN := hid hn
  have HX := hid hx
  have HC := hid hc
  have HK := hid hk
  clear hn hx hc hk
  go_enter Tryz.func34, Tryz.ntmps34
  go_wp2
  go_loopw [3, 10] (fun sv iv wr => ∃ (i : Nat) (s : ByteArray), i ≤ n ∧ iv = .int .i64 (i : Int) ∧ sv = .string s ∧ Hid (s = vis (xs.take i)) ∧ s.size ≤ i * 1000000001 ∧ Below w.heap.size w wr) (fun _ iv _ => n - (intOf iv).toNat)
  case atStart => exact ⟨0, ⟨#[]⟩, Nat.zero_le _, rfl, rfl, rfl, (Nat.zero_le _ : 0 ≤ 0 * 1000000001), bre _⟩
  case round =>
    obtain ⟨i, s, hi, rfl, rfl, HS, hs, hb⟩ := hrel
    have HB := hid hb
    clear hb
    by_cases hlt : i < n
    · have hil : i < xs.length := by rw [HN.out]; exact hlt
      have HT : Hid (xs.take (i + 1) = xs.take i ++ [xs[i]]) := take_next xs i hil
      have hc : wr.cell? ⟨k, i, none⟩ = some (.int .i64 xs[i]) := (HB.out.cell (p := ⟨k, i, none⟩) HK.out).trans (HC.out i hil)
      have hm := HX.out xs[i] (List.getElem_mem hil)
      obtain ⟨x, hx⟩ : ∃ x, xs[i] = x := ⟨_, rfl⟩
      have HE := hid hx
      rw [hx] at hc hm
      clear hx
      obtain ⟨y, hy, hys, cy⟩ := var_i x hm.1 hm.2
      go_wp2_with fail
      refine (cy.out _).mono ?_; rintro e w1 ⟨rfl, hb1⟩
      have HB1 := hid (btr HB.out hb1)
      clear hc hb1
      go_wp2
      go_roundw
      case rel => exact ⟨i + 1, s ++ y, by omega, by go_num, rfl, by show _ = _; rw [HT.out, HE.out, vis_snoc, ← HS.out, hy.out], by rw [ByteArray.size_append]; omega, HB1.out⟩
      case measure => simp [intOf]; omega
    · have HE : Hid (xs.take i = xs) := List.take_of_length_le (by rw [HN.out]; omega)
      go_wp2
      go_ret
      exact ⟨by rw [← HE.out, ← HS.out]; rfl, HB.out⟩
theorem two_ints (w : World) (x y : Int) (e : Nat) : ∀ i (h : i < [x, y].length), (w.alloc (.cells #[.int .i64 x, .int .i64 y] e)).cell? ⟨w.heap.size, i, none⟩ = some (.int .i64 [x, y][i]) := by
  intro i hi
  have h := heap_alloc_new w (.cells #[.int .i64 x, .int .i64 y] e)
  have h2 : i = 0 ∨ i = 1 := by simp at hi; omega
  rcases h2 with rfl | rfl
  · exact cell_of_row _ _ 0 _ _ _ h
  · exact cell_of_row _ _ 1 _ _ _ h
theorem three_ints (w : World) (x y z : Int) (e : Nat) : ∀ i (h : i < [x, y, z].length), (w.alloc (.cells #[.int .i64 x, .int .i64 y, .int .i64 z] e)).cell? ⟨w.heap.size, i, none⟩ = some (.int .i64 [x, y, z][i]) := by
  intro i hi
  have h := heap_alloc_new w (.cells #[.int .i64 x, .int .i64 y, .int .i64 z] e)
  have h2 : i = 0 ∨ i = 1 ∨ i = 2 := by simp at hi; omega
  rcases h2 with rfl | rfl | rfl
  · exact cell_of_row _ _ 0 _ _ _ h
  · exact cell_of_row _ _ 1 _ _ _ h
  · exact cell_of_row _ _ 2 _ _ _ h
theorem texts2 (x y : Int) (hx : 0 ≤ x ∧ x ≤ 1000000000) (hy : 0 ≤ y ∧ y ≤ 1000000000) : ∃ s : ByteArray, Hid (s = vi x ++ vi y) ∧ s.size ≤ 2000000002 ∧ Hid (∀ w k, k = w.heap.size → Calls Tryz.prog 34 #[.slice (some ⟨k, 0, none⟩) 2 2] (w.alloc (.cells #[.int .i64 x, .int .i64 y] 3)) fun e w' => e = .returned (.string s) ∧ Below w.heap.size w w') := by
  have a := vi_size x hx.2
  have b := vi_size y hy.2
  refine ⟨vis [x, y], ?_, ?_, fun w k hk => ?_⟩
  · show _ = _; simp only [vis, nil_ba]
  · simp only [vis, nil_ba, ByteArray.size_append]; omega
  · subst hk
    refine (varTexts_any w.heap.size [x, y] 2 _ rfl (by omega) (by intro z hz; simp at hz; rcases hz with rfl | rfl <;> assumption) (by simp) (two_ints w x y 3)).mono fun _ _ h => ⟨h.1, btr (bpush (bre _) _) h.2⟩
theorem texts3 (x y z : Int) (hx : 0 ≤ x ∧ x ≤ 1000000000) (hy : 0 ≤ y ∧ y ≤ 1000000000) (hz : 0 ≤ z ∧ z ≤ 1000000000) : ∃ s : ByteArray, Hid (s = rt (x, y, z)) ∧ s.size ≤ 3000000003 ∧ Hid (∀ w k, k = w.heap.size → Calls Tryz.prog 34 #[.slice (some ⟨k, 0, none⟩) 3 3] (w.alloc (.cells #[.int .i64 x, .int .i64 y, .int .i64 z] 3)) fun e w' => e = .returned (.string s) ∧ Below w.heap.size w w') := by
  have a := vi_size x hx.2
  have b := vi_size y hy.2
  have c := vi_size z hz.2
  refine ⟨vis [x, y, z], ?_, ?_, fun w k hk => ?_⟩
  · show _ = _; simp only [vis, rt, nil_ba, ByteArray.append_assoc]
  · simp only [vis, nil_ba, ByteArray.size_append]; omega
  · subst hk
    refine (varTexts_any w.heap.size [x, y, z] 3 _ rfl (by omega) (by intro v hv; simp at hv; rcases hv with rfl | rfl | rfl <;> assumption) (by simp) (three_ints w x y z 3)).mono fun _ _ h => ⟨h.1, btr (bpush (bre _) _) h.2⟩
theorem short_i (t : ByteArray) (ht : t.size ≤ 60) : ∃ s : ByteArray, Hid (s = vi t.size ++ t) ∧ s.size ≤ 121 ∧ Hid (∀ w, Calls Tryz.prog 51 #[.string t] w fun e w' => e = .returned (.tuple #[.string s, .bool true]) ∧ Below w.heap.size w w') := by
  refine ⟨vi t.size ++ t, rfl, ?_, fun w => implShort_yes t w (by omega)⟩
  have := vbs_len t.size
  rw [ByteArray.size_append]
  have e : (vi t.size).size = (vbs t.size).length := by show (vbs ((t.size : Int).toNat)).toArray.size = _; simp
  omega
set_option maxHeartbeats 800000 in
set_option maxRecDepth 100000 in
theorem implMailText_any (g u : Int) (ao : Option Addr) (n cap : Nat) (l : List R3) (t : ByteArray) (w : World) (hl : l.length = n) (hn : n ≤ 1048576) (hr : Rs w ao l) :
    Calls Tryz.prog 53 #[.agg #[.int .i64 g, .int .i64 u, .slice ao n cap, .string t]] w fun e w' => e = .returned (mtR g u l t) ∧ Below w.heap.size w w' := by
  obtain ⟨q, hq, cq⟩ := implMailOk_l g u ao n cap l t hl hn
  obtain ⟨W0, hW0⟩ : ∃ W0, w.alloc (.cells #[.int .i64 g, .int .i64 u, .slice ao n cap, .string t] 86) = W0 := ⟨_, rfl⟩
  have A0 : Hid (Mg W0 w.heap.size 86 g u (.slice ao n cap) t) := by subst hW0; exact Mg.new _ _ _ _ _ _
  have B0 : Hid (Below w.heap.size w W0) := by subst hW0; exact bpush (bre _) _
  have HR := hid (hr.later B0.out)
  have HL := hid hl
  have c0 := A0.out.cells
  clear hr hl
  cases q
  · have HE : Hid (mtR g u l t = .tuple #[.string ⟨#[]⟩, .bool false]) := by show _ = _; rw [mtR, ← hq.out]; rfl
    rw [HE.out]
    go_enter Tryz.func53, Tryz.ntmps53
    go_wp2_with fail
    refine (cq.out _ HR.out).mono ?_; rintro e w1 ⟨rfl, hb1⟩
    go_wp2
    go_ret2
    exact ⟨rfl, btr B0.out hb1⟩
  · have HE : Hid (mtR g u l t = .tuple #[.string (mtx g u l t), .bool true]) := by show _ = _; rw [mtR, ← hq.out]; rfl
    rw [HE.out]
    obtain ⟨hg, hu, h3, hp, ht⟩ := mlOk_in hq.out.symm
    have HP := hid hp
    have HN : Hid (n = 3) := HL.out.symm.trans h3
    clear hp h3
    obtain ⟨s2, e2, z2, c2⟩ := texts2 g u (by omega) (by omega)
    obtain ⟨s4, e4, z4, c4⟩ := short_i t ht
    go_enter Tryz.func53, Tryz.ntmps53
    go_wp2_with fail
    refine (cq.out _ HR.out).mono ?_; rintro e w1 ⟨rfl, hb1⟩
    have B1 := hid (btr B0.out hb1)
    have A1 := hid (A0.out.later hb1)
    have HR1 := hid (HR.out.later hb1)
    have d := A1.out.cells
    clear hb1 c0 hW0 A0 HR
    go_wp2_with fail
    refine (c2.out _ _ rfl).mono ?_; rintro e w2 ⟨rfl, hb2⟩
    have B2 := hid (btr B1.out hb2)
    have A2 := hid (A1.out.later hb2)
    have HR2 := hid (HR1.out.later hb2)
    have d := A2.out.cells
    clear hb2 A1 HR1 B1
    go_wp2
    go_loopw [4, 21] (fun sv iv wr => ∃ (i : Nat) (s : ByteArray), i ≤ n ∧ iv = .int .i64 (i : Int) ∧ sv = .string s ∧ Hid (s = vi g ++ vi u ++ rts (l.take i)) ∧ s.size ≤ 2000000002 + i * 3000000003 ∧ Below w2.heap.size w2 wr) (fun _ iv _ => n - (intOf iv).toNat)
    case atStart => exact ⟨0, s2, Nat.zero_le _, rfl, rfl, by show _ = _; rw [List.take_zero, rts, nil_ba, e2.out], by omega, bre _⟩
    case round =>
      obtain ⟨i, s, hi, rfl, rfl, HS, hs, hb⟩ := hrel
      have HB := hid hb
      clear hb
      by_cases hlt : i < n
      · have hil : i < l.length := by rw [HL.out]; exact hlt
        have HT : Hid (l.take (i + 1) = l.take i ++ [l[i]]) := take_next l i hil
        obtain ⟨k, o, rfl, hk, c⟩ := (HR2.out.later HB.out).at hil
        have hok := okp_in (HP.out l[i] (List.getElem_mem hil))
        obtain ⟨p, hp⟩ : ∃ p, l[i] = p := ⟨_, rfl⟩
        rw [hp] at c hok
        obtain ⟨v, x, y⟩ := p
        have HEP := hid hp
        clear hp
        simp only at hok
        obtain ⟨s3, e3, z3, c3⟩ := texts3 v x y (by omega) (by omega) (by omega)
        have hb9 : i < 3 := by have := HN.out; omega
        clear hok
        go_wp2_with fail
        refine (c3.out _ _ (by simp)).mono ?_; rintro e w3 ⟨rfl, hb3⟩
        have B3 := hid (btr HB.out (btr (bpush (bre _) _) hb3))
        clear c hb3
        go_wp2
        go_roundw
        case rel => exact ⟨i + 1, s ++ s3, by omega, by go_num, rfl, by show _ = _; rw [HT.out, HEP.out, rts_snoc, HS.out, e3.out, ByteArray.append_assoc], by rw [ByteArray.size_append]; omega, B3.out⟩
        case measure => simp [intOf]; omega
      · have HE : Hid (l.take i = l) := List.take_of_length_le (by rw [HL.out]; omega)
        have d := (A2.out.later HB.out).cells
        have hs' : s.size ≤ 100000000000 := by have := HN.out; omega
        go_wp2_with fail
        refine (c4.out _).mono ?_; rintro e w4 ⟨rfl, hb4⟩
        have B4 := hid (btr HB.out hb4)
        clear d hb4
        go_wp2
        go_ret2
        exact ⟨ret_strok (by rw [HS.out, HE.out, e4.out, mtx]; exact ByteArray.append_assoc.symm), btr B2.out B4.out⟩
end Go.Proofs.YtocfggfccbnbhaaGreatDoor

