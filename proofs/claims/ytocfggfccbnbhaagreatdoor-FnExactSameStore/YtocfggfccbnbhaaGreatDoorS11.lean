/- Seq, Crc, Sum, SpecSum, Four, Seal, SpecSeal, Tkk, Mkz, Mk, Tkz, Tia. -/
import Derived.Test.YtocfggfccbnbhaaGreatDoorS10
import Derived.Test.YtocfggfccbnbhaaGreatDoorProg
import Derived.WalkKit
import Derived.WalkSpells
import Derived.WalkLawsBesides
import Derived.Lib.LaidTab
import Derived.Deep.RegionHeld3
import Derived.Deep.QuietTactic
import Derived.BigQuiet
import Derived.Lib.ItoaNum
import Derived.Shelf.Spec.SlicesInsertGrow
import Derived.Shelf.Slices.SearchI
import Derived.Shelf.Slices.Empties
import Derived.Shelf.Abstract
namespace Go.Proofs.YtocfggfccbnbhaaGreatDoor
open Go.RowKit Go.ChangeMaps
set_option maxHeartbeats 1600000 in
set_option maxRecDepth 100000 in
/-- Two rows of the same boxes are told alike. -/
theorem eqBoxS_any (l1 h1 l2 h2 : Nat) (ao bo : Option Addr) (n ca cb : Nat) (S : List X7) (w : World) (hl : S.length = n) (hn : n ≤ 1048576) (hsb : Sb S) (ha : Bs l1 h1 w ao S) (hb : Bs l2 h2 w bo S) :
    Calls Tryz.prog 78 #[.slice ao n ca, .slice bo n cb] w fun e w' => e = .returned (.bool true) ∧ Below w.heap.size w w' := by
  have hnn : ((n : Int) != (n : Int)) = false := by simp
  have HA := hid ha
  have HB := hid hb
  have HL := hid hl
  have HS := hid hsb
  clear ha hb hl hsb
  go_enter Tryz.func78, Tryz.ntmps78
  go_wp2
  clear hnn
  go_loopw [5] (fun iv wr => ∃ i : Nat, i ≤ n ∧ iv = .int .i64 (i : Int) ∧ Below w.heap.size w wr) (fun iv _ => n - (intOf iv).toNat)
  case atStart => exact ⟨0, Nat.zero_le _, rfl, bre _⟩
  case round =>
    obtain ⟨i, hi, rfl, hb⟩ := hrel
    have HBE := hid hb
    clear hb
    by_cases hlt : i < n
    · have hil : i < S.length := by rw [HL.out]; exact hlt
      obtain ⟨k, o, ma, mc, ga, gc, rfl, hk, c, hms, his, _⟩ := (HA.out.later HBE.out).at hil
      obtain ⟨k', o', ma', mc', ga', gc', rfl, hk', d, hms', his', _⟩ := (HB.out.later HBE.out).at hil
      have hmem := HS.out S[i] (List.getElem_mem hil)
      obtain ⟨p, hp⟩ : ∃ p, S[i] = p := ⟨_, rfl⟩
      rw [hp] at c d hms his hms' his' hmem
      obtain ⟨g, nm, t, b, nx, L, G⟩ := p
      dsimp only at c d hms his hms' his' hmem
      obtain ⟨m, hm⟩ : ∃ m, L.length = m := ⟨_, rfl⟩
      obtain ⟨q, hq⟩ : ∃ q, G.length = q := ⟨_, rfl⟩
      rw [hm, hq] at c d hmem
      have HM := hid hm
      have HQ := hid hq
      have HMM := hid hmem
      have R1 := hid hms
      have R2 := hid hms'
      have I1 := hid his
      have I2 := hid his'
      have hI : (0 : Int) ≤ (i : Int) ∧ (i : Int) < (n : Int) := by omega
      have HSS : Hid (∀ W, Below wr.heap.size wr W → (W.cell? ⟨k, o + i * 7, none⟩ = some (.int .i64 g) ∧ W.cell? ⟨k, o + i * 7 + 1, none⟩ = some (.string nm) ∧ W.cell? ⟨k, o + i * 7 + 2, none⟩ = some (.int .i64 t) ∧ W.cell? ⟨k, o + i * 7 + 3, none⟩ = some (.int .i64 b) ∧ W.cell? ⟨k, o + i * 7 + 4, none⟩ = some (.int .i64 nx) ∧ W.cell? ⟨k, o + i * 7 + 5, none⟩ = some (.slice ma m mc) ∧ W.cell? ⟨k, o + i * 7 + 6, none⟩ = some (.slice ga q gc)) ∧ (W.cell? ⟨k', o' + i * 7, none⟩ = some (.int .i64 g) ∧ W.cell? ⟨k', o' + i * 7 + 1, none⟩ = some (.string nm) ∧ W.cell? ⟨k', o' + i * 7 + 2, none⟩ = some (.int .i64 t) ∧ W.cell? ⟨k', o' + i * 7 + 3, none⟩ = some (.int .i64 b) ∧ W.cell? ⟨k', o' + i * 7 + 4, none⟩ = some (.int .i64 nx) ∧ W.cell? ⟨k', o' + i * 7 + 5, none⟩ = some (.slice ma' m mc') ∧ W.cell? ⟨k', o' + i * 7 + 6, none⟩ = some (.slice ga' q gc'))) := fun W h => ⟨C7.later c hk h, C7.later d hk' h⟩
      clear c d hp hm hq hmem hms his hms' his'
      go_wp2_with fail
      go_region_held3 (fun W => (W.cell? ⟨k, o + i * 7, none⟩ = some (.int .i64 g) ∧ W.cell? ⟨k, o + i * 7 + 1, none⟩ = some (.string nm) ∧ W.cell? ⟨k, o + i * 7 + 2, none⟩ = some (.int .i64 t) ∧ W.cell? ⟨k, o + i * 7 + 3, none⟩ = some (.int .i64 b) ∧ W.cell? ⟨k, o + i * 7 + 4, none⟩ = some (.int .i64 nx) ∧ W.cell? ⟨k, o + i * 7 + 5, none⟩ = some (.slice ma m mc) ∧ W.cell? ⟨k, o + i * 7 + 6, none⟩ = some (.slice ga q gc)) ∧ (W.cell? ⟨k', o' + i * 7, none⟩ = some (.int .i64 g) ∧ W.cell? ⟨k', o' + i * 7 + 1, none⟩ = some (.string nm) ∧ W.cell? ⟨k', o' + i * 7 + 2, none⟩ = some (.int .i64 t) ∧ W.cell? ⟨k', o' + i * 7 + 3, none⟩ = some (.int .i64 b) ∧ W.cell? ⟨k', o' + i * 7 + 4, none⟩ = some (.int .i64 nx) ∧ W.cell? ⟨k', o' + i * 7 + 5, none⟩ = some (.slice ma' m mc') ∧ W.cell? ⟨k', o' + i * 7 + 6, none⟩ = some (.slice ga' q gc')))
        ((refine HSS.out _ ?_; repeat (first | exact bdr (bre _) | refine btr ?_ (by assumption))))
        ((go_at_call 122; refine (eqBox_any l1 h1 l2 h2 l1 h1 l2 h2 g nm t b nx ma m mc ga q gc ma' mc' ga' gc' L G _ HM.out HMM.out.2.1 HMM.out.2.2.1 (R1.out.later (by repeat (first | exact bdr (bre _) | exact bre _ | refine btr ?_ (by assumption)))) (R2.out.later (by repeat (first | exact bdr (bre _) | exact bre _ | refine btr ?_ (by assumption)))) HQ.out HMM.out.2.2.2 (I1.out.later (by repeat (first | exact bdr (bre _) | exact bre _ | refine btr ?_ (by assumption)))) (I2.out.later (by repeat (first | exact bdr (bre _) | exact bre _ | refine btr ?_ (by assumption))))).mono ?_; rintro e w1 ⟨rfl, hb1⟩))
      have HB1 : Hid (Below w.heap.size w w1) := by show Below _ _ _; refine btr HBE.out ?_; repeat (first | exact bdr (bre _) | refine btr ?_ (by assumption))
      go_wp2
      go_roundw
      case rel => exact ⟨i + 1, by omega, by go_num, HB1.out⟩
      case measure => simp [intOf]; omega
    · go_wp2
      go_ret
      exact ⟨rfl, HBE.out⟩
theorem two_stores (w : World) (ta tb : Nat) (y tm y1 tm1 : Int) (bv gv bv1 gv1 : Value) (W0 : World)
    (h : ((w.alloc (.cells #[.int .i64 y, .int .i64 tm, bv, gv] ta)).alloc (.cells #[.int .i64 y1, .int .i64 tm1, bv1, gv1] tb)) = W0) :
    Sx W0 w.heap.size ta y tm bv gv ∧ Sx W0 (w.heap.size + 1) tb y1 tm1 bv1 gv1 ∧ Below w.heap.size w W0 ∧ W0.heap.size = w.heap.size + 1 + 1 := by
  have e1 : (w.alloc (.cells #[.int .i64 y, .int .i64 tm, bv, gv] ta)).heap.size = w.heap.size + 1 := by simp
  have h1 := Sx.new (w.alloc (.cells #[.int .i64 y, .int .i64 tm, bv, gv] ta)) tb y1 tm1 bv1 gv1
  rw [e1] at h1
  subst h
  exact ⟨(Sx.new w ta y tm bv gv).later (bpush (bre _) _), h1, bpush (bpush (bre _) _) _, by simp⟩
set_option maxHeartbeats 800000 in
set_option maxRecDepth 100000 in
theorem eqStore_any (l1 h1 l2 h2 l3 h3 l4 h4 : Nat) (y tm : Int) (ba : Option Addr) (bn bc : Nat) (ga : Option Addr) (gn gc : Nat) (ba' : Option Addr) (bc' : Nat) (ga' : Option Addr) (gc' : Nat) (S : List X7) (G : List Int) (w : World) (hl : S.length = bn) (hn : bn ≤ 1048576) (hsb : Sb S) (hm : Bs l1 h1 w ba S) (hm' : Bs l2 h2 w ba' S)
    (hgl : G.length = gn) (hgn : gn ≤ 1048576) (hs : Is l3 h3 w ga G) (hs' : Is l4 h4 w ga' G) :
    Calls Tryz.prog 28 #[.agg #[.int .i64 y, .int .i64 tm, .slice ba bn bc, .slice ga gn gc], .agg #[.int .i64 y, .int .i64 tm, .slice ba' bn bc', .slice ga' gn gc']] w fun e w' => e = .returned (.bool true) ∧ Below w.heap.size w w' := by
  obtain ⟨W0, hW0⟩ : ∃ W0, ((w.alloc (.cells #[.int .i64 y, .int .i64 tm, .slice ba bn bc, .slice ga gn gc] 27)).alloc (.cells #[.int .i64 y, .int .i64 tm, .slice ba' bn bc', .slice ga' gn gc'] 27)) = W0 := ⟨_, rfl⟩
  obtain ⟨a0, a1, b0, _⟩ := two_stores w _ _ _ _ _ _ _ _ _ _ W0 hW0
  have A0 := hid a0
  have A1 := hid a1
  have B0 := hid b0
  have c0 := a0.cells
  have c1 := a1.cells
  have HM := hid hm
  have HM' := hid hm'
  have HS := hid hs
  have HS' := hid hs'
  have HX := hid hsb
  have e1 : (y != y) = false := by simp
  have e2 : (tm != tm) = false := by simp
  clear a0 a1 b0 hm hm' hs hs' hsb
  go_enter Tryz.func28, Tryz.ntmps28
  go_wp2_with fail
  clear hW0
  refine (eqBoxS_any l1 h1 l2 h2 ba ba' bn bc bc' S _ hl hn HX.out (HM.out.later B0.out) (HM'.out.later B0.out)).mono ?_; rintro e w2 ⟨rfl, hb2⟩
  have k0 := A0.out.later hb2
  have k1 := A1.out.later hb2
  have B2 := hid (btr B0.out hb2)
  have c0 := k0.cells
  have c1 := k1.cells
  clear hb2 k0 k1 A0 A1 B0
  go_wp2_with fail
  refine (eqIntS_any l3 h3 l4 h4 ga ga' gn gc gc' G _ hgl hgn (HS.out.later B2.out) (HS'.out.later B2.out)).mono ?_; rintro e w3 ⟨rfl, hb3⟩
  have B3 := hid (btr B2.out hb3)
  clear hb3
  go_wp2
  go_ret
  exact ⟨rfl, B3.out⟩
end Go.Proofs.YtocfggfccbnbhaaGreatDoor

namespace Go.Proofs.YtocfggfccbnbhaaGreatDoor
def st (x : Nat) : Nat := if x % 2 = 1 then x / 2 ^^^ 3558460437 else x / 2
def st8 (x : Nat) : Nat := st (st (st (st (st (st (st (st x)))))))
def st4 (x : Nat) : Nat := st (st (st (st x)))
def smore (x : Nat) (l : List UInt8) : Nat := l.foldl (fun x b => st8 (x ^^^ b.toNat)) x
def tabW : List Nat := [0, 1166650509, 2333301018, 3466261911, 3189058079, 4221339282, 889615109, 1888477064, 3558460437, 2442158232, 1594529039, 444807554, 1779230218, 797264519, 3776954128, 2761298845]
def four (x : Nat) : Nat := x / 16 ^^^ tabW.getD (x % 16) 0
theorem st_lin (x y : Nat) : st (x ^^^ y) = st x ^^^ st y := by
  have hm := @Nat.xor_mod_two_eq_one x y
  have hd := @Nat.xor_div_two x y
  unfold st
  rw [hd]
  by_cases hx : x % 2 = 1 <;> by_cases hy : y % 2 = 1
  · rw [if_neg (by rw [hm]; simp [hx, hy]), if_pos hx, if_pos hy]
    rw [Nat.xor_assoc, Nat.xor_comm 3558460437 (y / 2 ^^^ 3558460437), Nat.xor_assoc, Nat.xor_self]; simp
  · rw [if_pos (by rw [hm]; simp [hx, hy]), if_pos hx, if_neg hy]
    rw [Nat.xor_assoc, Nat.xor_assoc, Nat.xor_comm (y / 2)]
  · rw [if_pos (by rw [hm]; simp [hx, hy]), if_neg hx, if_pos hy, Nat.xor_assoc]
  · rw [if_neg (by rw [hm]; simp [hx, hy]), if_neg hx, if_neg hy]
theorem st4_lin (x y : Nat) : st4 (x ^^^ y) = st4 x ^^^ st4 y := by
  unfold st4; rw [st_lin, st_lin, st_lin, st_lin]
theorem split16 (x : Nat) : x = (16 * (x / 16)) ^^^ (x % 16) := by
  apply Nat.eq_of_testBit_eq; intro i
  rw [Nat.testBit_xor, show (16 : Nat) = 2 ^ 4 from rfl, Nat.testBit_two_pow_mul, Nat.testBit_mod_two_pow, Nat.testBit_div_two_pow]
  by_cases h : i < 4
  · have h' : ¬ i ≥ 4 := by omega
    simp [h, h']
  · have h' : i ≥ 4 := by omega
    simp [h, h']
theorem st_even (q : Nat) : st (2 * q) = q := by unfold st; rw [if_neg (by omega)]; omega
theorem st4_16 (q : Nat) : st4 (16 * q) = q := by
  unfold st4
  rw [show 16 * q = 2 * (2 * (2 * (2 * q))) by omega, st_even, st_even, st_even, st_even]
theorem st4_tab : ∀ r : Fin 16, st4 r.val = tabW.getD r.val 0 := by decide
theorem st4_four (x : Nat) : st4 x = four x := by
  conv => lhs; rw [split16 x]
  rw [st4_lin, st4_16]
  unfold four
  rw [st4_tab ⟨x % 16, Nat.mod_lt _ (by omega)⟩]
theorem st8_four (x : Nat) : st8 x = four (four x) := by
  rw [← st4_four, ← st4_four]; rfl
theorem st_lt {x : Nat} (h : x < 4294967296) : st x < 4294967296 := by
  unfold st
  split
  · exact Nat.xor_lt_two_pow (n := 32) (by omega) (by omega)
  · omega
theorem st8_lt {x : Nat} (h : x < 4294967296) : st8 x < 4294967296 := by
  unfold st8; exact st_lt (st_lt (st_lt (st_lt (st_lt (st_lt (st_lt (st_lt h)))))))
theorem xor_byte_lt {x : Nat} (h : x < 4294967296) (b : UInt8) : x ^^^ b.toNat < 4294967296 := by
  have := b.toNat_lt
  exact Nat.xor_lt_two_pow (n := 32) (by omega) (by omega)
theorem smore_lt (l : List UInt8) : ∀ {x : Nat}, x < 4294967296 → smore x l < 4294967296 := by
  induction l with
  | nil => intro x h; exact h
  | cons b l ih => intro x h; exact ih (st8_lt (xor_byte_lt h b))
theorem smore_append (x : Nat) (l m : List UInt8) : smore x (l ++ m) = smore (smore x l) m := by
  unfold smore; rw [List.foldl_append]
def f4 (x : Nat) : List UInt8 := [UInt8.ofNat (x / 16777216), UInt8.ofNat (x / 65536), UInt8.ofNat (x / 256), UInt8.ofNat x]
theorem u8_of (n : Nat) : (UInt8.ofNat n).toNat = n % 256 := by simp
end Go.Proofs.YtocfggfccbnbhaaGreatDoor

namespace Go.Proofs.YtocfggfccbnbhaaGreatDoor
open Go.RowKit
/-- The program's table lies at its block. -/
def Nib (w : World) : Prop := ∀ i, i < 16 → w.cell? ⟨0, i, none⟩ = some (.int .u32 (tabW.getD i 0 : Nat))
theorem Nib.later {w w' : World} {B : Nat} (h : Nib w) (hb : Below B w w') (hB : 0 < B) : Nib w' := fun i hi => by
  rw [hb.cell (p := ⟨0, i, none⟩) hB]; exact h i hi
theorem tab_lt (i : Nat) (h : i < 16) : tabW.getD i 0 < 4294967296 := by
  have : ∀ r : Fin 16, tabW.getD r.val 0 < 4294967296 := by decide
  exact this ⟨i, h⟩
theorem four_lt {x : Nat} (h : x < 4294967296) : four x < 4294967296 := by
  have := tab_lt (x % 16) (Nat.mod_lt _ (by omega))
  exact Nat.xor_lt_two_pow (n := 32) (by omega) (by omega)
theorem four_any (x : Nat) (w : World) (hx : x < 4294967296) (hn : Nib w) :
    Calls Tryz.prog 200 #[.int .u32 (x : Int)] w fun e w' => e = .returned (.int .u32 (four x : Nat)) ∧ w = w' := by
  have hc := hn (x % 16) (Nat.mod_lt _ (by omega))
  clear hn
  go_enter Tryz.func200, Tryz.ntmps200
  go_wp2
  go_ret
  exact ⟨ret_int (by rw [show (x : Int) / 16 = ((x / 16 : Nat) : Int) from by omega]; exact u32_xor_nat _ _ (by omega) (tab_lt _ (Nat.mod_lt _ (by omega)))), rfl⟩
theorem smore_step (x : Nat) (s : ByteArray) (k : Nat) (h : k < s.size) : smore x (s.data.toList.take (k + 1)) = st8 (smore x (s.data.toList.take k) ^^^ s[k].toNat) := by
  rw [List.take_succ_eq_append_getElem (by rw [Array.length_toList]; exact h), smore_append]; rfl
theorem more_any (x : Nat) (s : ByteArray) (w : World) (hx : x < 4294967296) (hs : s.size ≤ 1048577) (hn : Nib w) :
    Calls Tryz.prog 173 #[.int .u32 (x : Int), .string s] w fun e w' => e = .returned (.int .u32 (smore x s.data.toList : Nat)) ∧ w = w' := by
  have HN := hide hn
  clear hn
  go_enter Tryz.func173, Tryz.ntmps173
  go_wp2
  go_loop [0, 8] (fun sv iv => ∃ (k y : Nat), k ≤ s.size ∧ y = smore x (s.data.toList.take k) ∧ sv = .int .u32 (y : Int) ∧ iv = .int .i64 (k : Int)) (fun _ iv => s.size - (intOf iv).toNat)
  case atStart => exact ⟨0, x, Nat.zero_le _, rfl, rfl, rfl⟩
  case round =>
    obtain ⟨k, y, hk, hy, rfl, rfl⟩ := hrel
    have hyl : y < 4294967296 := by rw [hy]; exact smore_lt _ hx
    have HY := hide hy
    clear hy
    by_cases hlt : k < s.size
    · obtain ⟨c, hcx⟩ : ∃ c : Nat, s[k].toNat = c := ⟨_, rfl⟩
      have hcb : c < 256 := by rw [← hcx]; exact s[k].toNat_lt
      have HC := hide hcx
      have hI : (0 : Int) ≤ (k : Int) ∧ (k : Int) < (s.size : Int) := by omega
      obtain ⟨z, hz⟩ : ∃ z : Nat, y ^^^ c = z := ⟨_, rfl⟩
      have hzl : z < 4294967296 := by rw [← hz]; exact Nat.xor_lt_two_pow (n := 32) (by omega) (by omega)
      have hxr : bits .xor .u32 (y : Int) (c : Int) = (z : Int) := by rw [u32_xor_nat y c hyl (by omega), hz]
      have HZ := hide hz
      clear hz
      go_wp2_with fail
      refine (four_any z _ hzl (unhide HN)).mono ?_; rintro e w' ⟨rfl, rfl⟩
      go_wp2_with fail
      refine (four_any (four z) _ (four_lt hzl) (unhide HN)).mono ?_; rintro e w' ⟨rfl, rfl⟩
      go_wp2
      go_round
      case rel => exact ⟨k + 1, four (four z), by omega, by rw [smore_step x s k hlt, ← unhide HY, unhide HC, unhide HZ, st8_four], rfl, by go_num⟩
      case measure => simp [intOf]; omega
    · go_wp2
      go_ret
      exact ⟨ret_int (by rw [unhide HY, List.take_of_length_le (by rw [Array.length_toList]; exact Nat.le_of_not_lt hlt)]), rfl⟩
theorem implMore_any (x : Nat) (s : ByteArray) (w : World) (hx : x < 4294967296) (hs : s.size ≤ 1048577) (hn : Nib w) :
    Calls Tryz.prog 133 #[.int .u32 (x : Int), .string s] w fun e w' => e = .returned (.int .u32 (smore x s.data.toList : Nat)) ∧ w = w' := by
  have HN := hide hn
  clear hn
  go_enter Tryz.func133, Tryz.ntmps133
  go_wp2_with fail
  refine (more_any x s _ hx hs (unhide HN)).mono ?_; rintro e w' ⟨rfl, rfl⟩
  go_wp2
  go_ret
  exact ⟨rfl, rfl⟩
theorem implOf_any (s : ByteArray) (w : World) (hs : s.size ≤ 1048577) (hn : Nib w) :
    Calls Tryz.prog 88 #[.string s] w fun e w' => e = .returned (.int .u32 (smore 4294967295 s.data.toList : Nat)) ∧ w = w' := by
  have HN := hide hn
  clear hn
  go_enter Tryz.func88, Tryz.ntmps88
  go_wp2_with fail
  refine (implMore_any 4294967295 s _ (by decide) hs (unhide HN)).mono ?_; rintro e w' ⟨rfl, rfl⟩
  go_wp2
  go_ret
  exact ⟨rfl, rfl⟩
end Go.Proofs.YtocfggfccbnbhaaGreatDoor

namespace Go.Proofs.YtocfggfccbnbhaaGreatDoor
open Go.RowKit
def stN : Nat → Nat → Nat
  | 0, x => x
  | k + 1, x => st (stN k x)
theorem stN_lt : ∀ (k : Nat) {x : Nat}, x < 4294967296 → stN k x < 4294967296
  | 0, _, h => h
  | k + 1, _, h => st_lt (stN_lt k h)
theorem specMore_any (x : Nat) (s : ByteArray) (w : World) (hx : x < 4294967296) (hs : s.size ≤ 1048577) :
    Calls Tryz.prog 137 #[.int .u32 (x : Int), .string s] w fun e w' => e = .returned (.int .u32 (smore x s.data.toList : Nat)) ∧ w = w' := by
  go_enter Tryz.func137, Tryz.ntmps137
  go_wp2
  go_loop [0, 5] (fun sv iv => ∃ (k y : Nat), k ≤ s.size ∧ y = smore x (s.data.toList.take k) ∧ sv = .int .u32 (y : Int) ∧ iv = .int .i64 (k : Int)) (fun _ iv => s.size - (intOf iv).toNat)
  case atStart => exact ⟨0, x, Nat.zero_le _, rfl, rfl, rfl⟩
  case round =>
    obtain ⟨k, y, hk, hy, rfl, rfl⟩ := hrel
    have hyl : y < 4294967296 := by rw [hy]; exact smore_lt _ hx
    have HY := hide hy
    clear hy
    by_cases hlt : k < s.size
    · obtain ⟨c, hcx⟩ : ∃ c : Nat, s[k].toNat = c := ⟨_, rfl⟩
      have hcb : c < 256 := by rw [← hcx]; exact s[k].toNat_lt
      have HC := hide hcx
      have hI : (0 : Int) ≤ (k : Int) ∧ (k : Int) < (s.size : Int) := by omega
      obtain ⟨z, hz⟩ : ∃ z : Nat, y ^^^ c = z := ⟨_, rfl⟩
      have hzl : z < 4294967296 := by rw [← hz]; exact Nat.xor_lt_two_pow (n := 32) (by omega) (by omega)
      have hxr : bits .xor .u32 (y : Int) (c : Int) = (z : Int) := by rw [u32_xor_nat y c hyl (by omega), hz]
      have HZ := hide hz
      clear hz
      go_wp2
      go_loop [0, 6] (fun sv iv => ∃ (j v : Nat), j ≤ 8 ∧ v = stN j z ∧ sv = .int .u32 (v : Int) ∧ iv = .int .i64 (j : Int)) (fun _ iv => 8 - (intOf iv).toNat)
      case atStart => exact ⟨0, z, by omega, rfl, rfl, rfl⟩
      case round =>
        obtain ⟨j, v, hj, hv, rfl, rfl⟩ := hrel
        have hvl : v < 4294967296 := by rw [hv]; exact stN_lt j hzl
        have HV := hide hv
        clear hv
        by_cases hj8 : j < 8
        · obtain ⟨q, hq⟩ : ∃ q : Nat, v / 2 = q := ⟨_, rfl⟩
          have hqi : (v : Int) / 2 = (q : Int) := by omega
          have hql : q < 4294967296 := by omega
          have HQ := hide hq
          clear hq
          by_cases ho : v % 2 = 1
          · have hoi : ((v : Int) % 2 == 1) = true := by simp; omega
            obtain ⟨r, hr⟩ : ∃ r : Nat, q ^^^ 3558460437 = r := ⟨_, rfl⟩
            have hri : bits .xor .u32 (q : Int) 3558460437 = (r : Int) := by rw [← hr]; exact u32_xor_nat q 3558460437 hql (by omega)
            have HR := hide hr
            have HO := hide ho
            clear hr ho
            go_wp2
            go_round
            case rel => exact ⟨j + 1, r, by omega, by rw [stN, ← unhide HV, st, if_pos (unhide HO), unhide HQ, unhide HR], rfl, by go_num⟩
            case measure => simp [intOf]; omega
          · have hoi : ((v : Int) % 2 == 1) = false := by simp; omega
            have HO := hide ho
            clear ho
            go_wp2
            go_round
            case rel => exact ⟨j + 1, q, by omega, by rw [stN, ← unhide HV, st, if_neg (unhide HO), unhide HQ], rfl, by go_num⟩
            case measure => simp [intOf]; omega
        · have hj' : j = 8 := by omega
          subst hj'
          go_wp2
          go_round
          case rel => exact ⟨k + 1, v, by omega, by rw [smore_step x s k hlt, ← unhide HY, unhide HC, unhide HZ, unhide HV]; rfl, rfl, by go_num⟩
          case measure => simp [intOf]; omega
    · go_wp2
      go_ret
      exact ⟨ret_int (by rw [unhide HY, List.take_of_length_le (by rw [Array.length_toList]; exact Nat.le_of_not_lt hlt)]), rfl⟩
theorem specOf_any (s : ByteArray) (w : World) (hs : s.size ≤ 1048577) :
    Calls Tryz.prog 99 #[.string s] w fun e w' => e = .returned (.int .u32 (smore 4294967295 s.data.toList : Nat)) ∧ w = w' := by
  go_enter Tryz.func99, Tryz.ntmps99
  go_wp2_with fail
  refine (specMore_any 4294967295 s _ (by decide) hs).mono ?_; rintro e w' ⟨rfl, rfl⟩
  go_wp2
  go_ret
  exact ⟨rfl, rfl⟩
end Go.Proofs.YtocfggfccbnbhaaGreatDoor

namespace Go.Proofs.YtocfggfccbnbhaaGreatDoor
open Go.RowKit
theorem f4_conv (x : Nat) (w : World) (hx : x < 4294967296) :
    (convert 22 9 (.slice (some ⟨w.heap.size, 0, none⟩) 4 4)).run Tryz.prog (w.alloc (.cells #[.int .u8 ((x : Int) / 16777216), .int .u8 ((x : Int) / 65536 % 256), .int .u8 ((x : Int) / 256 % 256), .int .u8 ((x : Int) % 256)] 5)) = .ok (.string ⟨(f4 x).toArray⟩) (w.alloc (.cells #[.int .u8 ((x : Int) / 16777216), .int .u8 ((x : Int) / 65536 % 256), .int .u8 ((x : Int) / 256 % 256), .int .u8 ((x : Int) % 256)] 5)) := by
  refine run_convert_bytes_back (P := Tryz.prog) _ 22 9 5 ⟨w.heap.size, 0, none⟩ 4 (f4 x) Tryz.underlying22 Tryz.underlying5 Tryz.underlying9 (fun j hj => ?_)
  have hj' : j < 4 := hj
  have key : ∀ (i : Nat) (v : Value), (#[.int .u8 ((x : Int) / 16777216), .int .u8 ((x : Int) / 65536 % 256), .int .u8 ((x : Int) / 256 % 256), .int .u8 ((x : Int) % 256)] : Array Value)[i]? = some v →
      (w.alloc (.cells #[.int .u8 ((x : Int) / 16777216), .int .u8 ((x : Int) / 65536 % 256), .int .u8 ((x : Int) / 256 % 256), .int .u8 ((x : Int) % 256)] 5)).cell? ((⟨w.heap.size, 0, none⟩ : Addr).add i) = some v := by
    intro i v h
    rw [show (⟨w.heap.size, 0, none⟩ : Addr).add i = ⟨w.heap.size, i, none⟩ from by by_cases h0 : i = 0 <;> simp [Addr.add, h0]]
    rw [cell_of_row _ w.heap.size i _ _ (0, 0) (heap_alloc_new w _)]
    exact h
  match j, hj' with
  | 0, _ => exact key 0 _ (congrArg some (congrArg (Value.int .u8) (by show (x : Int) / 16777216 = ((UInt8.ofNat (x / 16777216)).toNat : Nat); rw [u8_of]; omega)))
  | 1, _ => exact key 1 _ (congrArg some (congrArg (Value.int .u8) (by show (x : Int) / 65536 % 256 = ((UInt8.ofNat (x / 65536)).toNat : Nat); rw [u8_of]; omega)))
  | 2, _ => exact key 2 _ (congrArg some (congrArg (Value.int .u8) (by show (x : Int) / 256 % 256 = ((UInt8.ofNat (x / 256)).toNat : Nat); rw [u8_of]; omega)))
  | 3, _ => exact key 3 _ (congrArg some (congrArg (Value.int .u8) (by show (x : Int) % 256 = ((UInt8.ofNat x).toNat : Nat); rw [u8_of]; omega)))
theorem implBytes_any (x : Nat) (w : World) (hx : x < 4294967296) :
    Calls Tryz.prog 89 #[.int .u32 (x : Int)] w fun e w' => e = .returned (.string ⟨(f4 x).toArray⟩) ∧ Below w.heap.size w w' := by
  have hcv := f4_conv x w hx
  go_enter Tryz.func89, Tryz.ntmps89
  go_wp2
  go_ret
  exact ⟨rfl, (Below.refl _ _).alloc (Nat.le_refl _) _⟩
end Go.Proofs.YtocfggfccbnbhaaGreatDoor

namespace Go.Proofs.YtocfggfccbnbhaaGreatDoor
open Go.RowKit
/-- The sum of a text. -/
def sof (s : ByteArray) : Nat := smore 4294967295 s.data.toList
theorem sof_lt (s : ByteArray) : sof s < 4294967296 := smore_lt _ (by decide)
/-- The four bytes of its sum. -/
def tail4 (s : ByteArray) : ByteArray := ⟨(f4 (sof s)).toArray⟩
theorem tail4_size (s : ByteArray) : (tail4 s).size = 4 := rfl
theorem bytes_eq {a b : ByteArray} (h : a.toList = b.toList) : a = b := by
  rw [ByteArray.toList_eq, ByteArray.toList_eq] at h
  exact ByteArray.ext (Array.toList_inj.mp h)
theorem Nib.drew {w : World} (h : Nib w) : Nib w.drew := h
end Go.Proofs.YtocfggfccbnbhaaGreatDoor

namespace Go.Proofs.YtocfggfccbnbhaaGreatDoor
open Go.RowKit
theorem specFour_any (x : Nat) (w : World) (hx : x < 4294967296) :
    Calls Tryz.prog 98 #[.int .u32 (x : Int)] w fun e w' => e = .returned (.string ⟨(f4 x).toArray⟩) ∧ Below w.heap.size w w' := by
  have hcv := f4_conv x w hx
  go_enter Tryz.func98, Tryz.ntmps98
  go_wp2
  go_ret
  exact ⟨rfl, (Below.refl _ _).alloc (Nat.le_refl _) _⟩
theorem specSealed_yes (s : ByteArray) (w : World) (hs : s.size ≤ 20000) :
    Calls Tryz.prog 45 #[.string s] w fun e w' => e = .returned (.tuple #[.string (s ++ tail4 s), .bool true]) ∧ Below w.heap.size w w' := by
  have hz := tail4_size s
  go_enter Tryz.func45, Tryz.ntmps45
  go_wp2_with fail
  refine (specOf_any s _ (by omega)).mono ?_; rintro e w1 ⟨rfl, rfl⟩
  go_wp2_with fail
  refine (specFour_any (sof s) _ (sof_lt s)).mono ?_; rintro e w1 ⟨he, hb1⟩
  obtain rfl : e = .returned (.string (tail4 s)) := he
  go_wp2
  go_ret2
  exact ⟨rfl, hb1⟩
end Go.Proofs.YtocfggfccbnbhaaGreatDoor

namespace Go.Proofs.YtocfggfccbnbhaaGreatDoor
open Go.RowKit Go.ChangeMaps
theorem tp0 (a : Act) (v : Value) : a.put none v = a := rfl
theorem tp1 (a : Act) (t : Tmp) (v : Value) : a.put (some t) v = { a with tmps := a.tmps.setIfInBounds t v } := rfl
theorem tp2 {α : Type} (l : List α) (i : Nat) (x : α) : l.toArray.setIfInBounds i x = (l.set i x).toArray := List.setIfInBounds_toArray ..
theorem tp3 {α : Type} (a : α) (l : List α) (x : α) : (a :: l).set 0 x = x :: l := rfl
theorem tp4 {α : Type} (a : α) (l : List α) (i : Nat) (x : α) : (a :: l).set (i + 1) x = a :: l.set i x := rfl
section
variable {P : Program} {ops : Array Oper} {Q : Exit → Act → World → Prop} {md : Region.Mode} {S : World → Prop} {d : Option Tmp} {o : Op} {t : TypeId} {ps : String} {af : Array Edge} {gd : Option (Nat × Bool)} {v : Value} {fuel : Nat} {listed : Array Bool} {a a2 : Act} {w : World}
theorem tk (i : Nat) (h : wpAnyH P md ops Q S fuel (listed.setIfInBounds i true) a2 w)
    (hi : ops[i]? = some ⟨d, o, t, ps, af, gd⟩ := by (first | (simp only [List.getElem?_toArray, List.getElem?_cons_succ, List.getElem?_cons_zero]; rfl) | rfl)) (hs : Region.noSelect ops = true := by kernel_rfl) (hf : Region.free md ops listed i = true := by kernel_rfl) (hr : (Region.ready md ops listed).contains i = true := by kernel_rfl)
    (hw : Region.wanted ⟨d, o, t, ps, af, gd⟩ (yielded ops a.tmps) = true := by rfl) (hy : ∀ w, S w → (execOp a.eval ⟨d, o, t, ps, af, gd⟩).run P w = .ok (.value v) w := by (intro w hSw; (try dsimp only at hSw); go_simp; try with_reducible rfl)) (hS : S w := by assumption)
    (hQ : ∀ c a w, Q (.panic c) (a.put d v) w → Q (.panic c) a w := by exact fun _ _ _ h => h)
    (hp : a.put d v = a2 := by (first | (simp only [tp0, tp1, tp2, tp3, tp4]; done) | (simp only [tp0, tp1, tp2, tp3, tp4]; rfl) | rfl)) : wpAnyH P md ops Q S (fuel + 1) listed a w :=
  wpAnyH_take hi hs hf hr hQ (Or.inl ⟨hw, hy⟩) hS (by subst hp; exact h)
theorem ry (i : Nat)
    (h : ∀ K' : Act → World → Prop, Shut (∀ a w, S w → (S w → wpAnyH P md ops Q S fuel (listed.setIfInBounds i true) a w) → K' a w) → if Region.wanted ⟨d, o, t, ps, af, gd⟩ (yielded ops a.tmps) = true then Oper.wp P ⟨d, o, t, ps, af, gd⟩ a w K' Q else K' (a.put d undef) w)
    (hr : Region.ready md ops listed = [i] := by kernel_rfl) (hi : ops[i]? = some ⟨d, o, t, ps, af, gd⟩ := by (first | (simp only [List.getElem?_toArray, List.getElem?_cons_succ, List.getElem?_cons_zero]; rfl) | rfl)) : wpAnyH P md ops Q S (fuel + 1) listed a w := wpAnyH_ready hr (by simp) (AllReadyH.cons hi h AllReadyH.nil)
end
end Go.Proofs.YtocfggfccbnbhaaGreatDoor

namespace Go.Proofs.YtocfggfccbnbhaaGreatDoor
open Go.RowKit Go.ChangeMaps
def mdg (n : Nat) : List UInt8 := Lib.decDigits n
/-- The mark of number k, as a text. -/
def mtx6 (k : Nat) : ByteArray := ⟨(109 :: mdg k).toArray⟩
/-! Numbers marked. -/
def mki (k n : Nat) : List Int := (List.range n).map fun i => ((k + i : Nat) : Int)
end Go.Proofs.YtocfggfccbnbhaaGreatDoor
namespace Go.Proofs.YtocfggfccbnbhaaGreatDoor
open Go.RowKit Go.ChangeMaps
/-- Blocks of P may have turned; new ones may be there. -/
structure Chg (P : Nat → Prop) (W W' : World) : Prop where
  os : W'.os = W.os
  tape : W'.tape = W.tape
  output : W'.output = W.output
  size : W.heap.size ≤ W'.heap.size
  block : ∀ k, k < W.heap.size → ¬ P k → W'.heap[k]? = W.heap[k]?
theorem Chg.refl (P : Nat → Prop) (W : World) : Chg P W W := ⟨rfl, rfl, rfl, Nat.le_refl _, fun _ _ _ => rfl⟩
theorem Chg.trans {P : Nat → Prop} {A B C : World} (h : Chg P A B) (k : Chg P B C) : Chg P A C :=
  ⟨k.os.trans h.os, k.tape.trans h.tape, k.output.trans h.output, Nat.le_trans h.size k.size, fun i hi' hr => (k.block i (Nat.lt_of_lt_of_le hi' h.size) hr).trans (h.block i hi' hr)⟩
theorem Chg.of_grown {P : Nat → Prop} {A B : World} {r : Option Nat} (h : A.grownBy B r) (hr : ∀ j, r = some j → P j) : Chg P A B :=
  ⟨h.os, h.tape, h.output, h.size, fun k hk hl => h.block k hk (fun e => hl (hr k e.symm))⟩
theorem Chg.mono {P Q : Nat → Prop} {A B : World} (h : Chg P A B) (hq : ∀ j, P j → Q j) : Chg Q A B := ⟨h.os, h.tape, h.output, h.size, fun k hk hl => h.block k hk (fun e => hl (hq k e))⟩
theorem Chg.below {P : Nat → Prop} {lo : Nat} {A B : World} (h : Chg P A B) (hl : lo ≤ A.heap.size) (hp : ∀ j, P j → lo ≤ j) : Below lo A B := ⟨h.os, h.tape, h.output, h.size, fun k hk => h.block k (by omega) (fun e => by have := hp k e; omega)⟩
/-- A row in a block that stays. -/
theorem row_chg {P : Nat → Prop} {W W' : World} {B e size n : Nat} {v : Value} {xs : List Value} (h : W.ownsRow B e size v n xs) (hc : Chg P W W') (hp : ∀ j, v.ownBlock = some j → ¬ P j) : W'.ownsRow B e size v n xs := by
  refine ⟨h.1, h.2.imp id ?_⟩
  rintro ⟨g, cap, cur, h1, h2, h3, h4⟩
  have hv : v.ownBlock = some g := by rw [h1]; rfl
  exact ⟨g, cap, cur, h1, h2, (hc.block g (h.lt g hv).2 (hp g hv)).trans h3, h4⟩
/-- The mark of a mail from number k on. -/
def mz1 (k : Nat) (z : Z5) : Z5 := ((k : Int), ((k + 1 : Nat) : Int), z.2.2.1, mks (k + 2) z.2.2.2.1.length, mtx6 (k + 2 + z.2.2.2.1.length * 3))
def kz1 (k : Nat) (z : Z5) : Nat := k + 2 + z.2.2.2.1.length * 3 + 1
def mzs (k : Nat) : List Z5 → List Z5
  | [] => []
  | z :: Z => mz1 k z :: mzs (kz1 k z) Z
/-- How many marks mails take, by threes. -/
def fz : List M4 → Nat
  | [] => 0
  | m :: L => 1 + m.2.2.1.length + fz L
/-- Three cells of a mail stored: the flags' stays. -/
theorem zc_set3 (Z : List Z5) (i : Nat) (z : Z5) (h : i < Z.length) (hf : z.2.2.1 = Z[i].2.2.1) :
    (((zc Z).set (i * 4) (.int .i64 z.1)).set (i * 4 + 1) (.int .i64 z.2.1)).set (i * 4 + 3) (.string z.2.2.2.2) = zc (Z.set i z) := by
  induction Z generalizing i with
  | nil => simp at h
  | cons y Z ih =>
    cases i with
    | zero =>
      simp only [List.getElem_cons_zero] at hf
      simp [zc, hf]
    | succ i =>
      have h' : i < Z.length := by simpa using h
      have := ih i h' (by simpa using hf)
      have e : (i + 1) * 4 = i * 4 + 1 + 1 + 1 + 1 := by omega
      rw [e]
      simpa [zc] using this
/-- A mail of an owned row marked: its numbers and its text in the row, its flags in their own. -/
theorem OwZ.marked {W W' : World} {B gr n cap : Nat} {P C : List Z5} {z z' : Z5} (h : OwZ W B (.slice (some ⟨gr, 0, none⟩) n cap) (P ++ z :: C)) (hrow : W'.ownsRow B 86 4 (.slice (some ⟨gr, 0, none⟩) n cap) (P ++ z' :: C).length (zc (P ++ z' :: C))) (hf : z'.2.2.1 = z.2.2.1) (ho : Ow W' B z'.2.2.1 z'.2.2.2.1)
    (hk : ∀ {x : Value} {l : List R3}, Ow W B x l → x.ownBlock ≠ some gr → Dj x z.2.2.1 → Ow W' B x l) : OwZ W' B (.slice (some ⟨gr, 0, none⟩) n cap) (P ++ z' :: C) := by
  have hap := List.pairwise_append.1 h.apart
  have hap2 := List.pairwise_cons.1 hap.2.1
  have hmem : ∀ y ∈ P ++ z' :: C, y = z' ∨ (y ∈ P ++ z :: C ∧ Dj y.2.2.1 z.2.2.1) := by
    intro y hy
    rcases List.mem_append.1 hy with hy | hy
    · exact .inr ⟨by simp [hy], hap.2.2 y hy z (by simp)⟩
    · rcases List.mem_cons.1 hy with hy | hy
      · exact .inl hy
      · exact .inr ⟨by simp [hy], (hap2.1 y hy).symm⟩
  refine ⟨hrow, fun y hy => ?_, fun y hy => ?_, ?_⟩
  · rcases hmem y hy with rfl | ⟨hy, hd⟩
    · exact ho
    · exact hk (h.each y hy) (far_of h hy) hd
  · rcases hmem y hy with rfl | ⟨hy, _⟩
    · rw [hf]; exact h.off z (by simp)
    · exact h.off y hy
  · rw [List.pairwise_append, List.pairwise_cons]
    refine ⟨hap.1, ⟨fun y hy => by rw [hf]; exact hap2.1 y hy, hap2.2⟩, fun x hx y hy => ?_⟩
    rcases List.mem_cons.1 hy with rfl | hy
    · rw [hf]; exact hap.2.2 x hx z (by simp)
    · exact hap.2.2 x hx y (by simp [hy])
theorem row_kept {W W' : World} {B e size n : Nat} {v : Value} {xs : List Value} {r : Option Nat} (h : W.ownsRow B e size v n xs) (hg : W.grownBy W' r) (hne : ∀ j, v.ownBlock = some j → r ≠ some j) : W'.ownsRow B e size v n xs :=
  World.ownsRow.kept h hg (by
    cases hv : v.ownBlock with
    | none => exact Or.inl rfl
    | some j => exact Or.inr (fun e => hne j hv e.symm))
/-- A mail's numbers stored, its flags marked, some blocks laid, its text stored. -/
theorem OwZ.three {W W1 W2 : World} {B g n c i : Nat} {P C : List Z5} {z z' : Z5} (h : OwZ W B (.slice (some ⟨g, 0, none⟩) n c) (P ++ z :: C)) (hp : P.length = i) (hf : z'.2.2.1 = z.2.2.1)
    (hg1 : ((W.setCell ⟨g, i * 4, none⟩ (.int .i64 z'.1)).setCell ⟨g, i * 4 + 1, none⟩ (.int .i64 z'.2.1)).grownBy W1 z.2.2.1.ownBlock) (ho : Ow W1 B z'.2.2.1 z'.2.2.2.1) (hb : Below W1.heap.size W1 W2) :
    (W2.cell? ⟨g, i * 4 + 3, none⟩ = some (.string z.2.2.2.2) ∧ W2.frozen? ⟨g, i * 4 + 3, none⟩ = false) ∧ OwZ (W2.setCell ⟨g, i * 4 + 3, none⟩ (.string z'.2.2.2.2)) B (.slice (some ⟨g, 0, none⟩) n c) (P ++ z' :: C) := by
  have hmem : z ∈ P ++ z :: C := List.mem_append.2 (.inr (List.mem_cons_self ..))
  have hoff := far_of h hmem
  have hil : i < (P ++ z :: C).length := by rw [List.length_append, hp, List.length_cons]; omega
  have hzi : (P ++ z :: C)[i] = z := by
    rw [List.getElem_append_right (by omega)]
    simp [hp]
  obtain rfl := h.ms.1
  have h1 := (World.ownsRow.stored h.row (i * 4) (.int .i64 z'.1)).1
  have h2 := (World.ownsRow.stored h1 (i * 4 + 1) (.int .i64 z'.2.1)).1
  have h3 := row_kept h2 hg1 (fun j hj e => hoff (by simp only [Value.ownBlock, Option.some.injEq] at hj; rw [hj]; exact e))
  have h4 := own_later h3 hb
  have h5 := (World.ownsRow.stored h4 (i * 4 + 3) (.string z'.2.2.2.2)).1
  rw [zc_set3 _ i z' hil (by rw [hzi]; exact hf)] at h5
  have hms : (P ++ z :: C).set i z' = P ++ z' :: C := by rw [← hp]; exact mid_set
  rw [hms] at h5
  have e3 := (zc_at (P ++ z :: C) i hil).2.2.2
  rw [hzi] at e3
  have hlen : (P ++ z' :: C).length = (P ++ z :: C).length := by simp
  refine ⟨⟨(h4.cellAt _ (by omega)).trans ?_, h4.frozenAt _⟩, OwZ.marked h (by rw [hlen]; exact h5) hf ?_ ?_⟩
  · rw [List.getElem?_set_ne (by omega), List.getElem?_set_ne (by omega)]; exact e3
  · exact World.ownsRow.kept (own_later ho hb) (wst (wre _ _) _ _) (Or.inr (by rw [hf]; exact hoff))
  · intro x l hx hxg hxd
    have k1 : Ow ((W.setCell ⟨g, i * 4, none⟩ (.int .i64 z'.1)).setCell ⟨g, i * 4 + 1, none⟩ (.int .i64 z'.2.1)) B x l := World.ownsRow.kept hx (wst (wst (wre _ _) _ _) _ _) (Or.inr hxg)
    exact World.ownsRow.kept (own_later (own_kept k1 hg1 (fun j hj => hxd j hj)) hb) (wst (wre _ _) _ _) (Or.inr hxg)
end Go.Proofs.YtocfggfccbnbhaaGreatDoor
namespace Go.Proofs.YtocfggfccbnbhaaGreatDoor
open Go.RowKit Go.ChangeMaps
theorem mzs_own (k : Nat) (Z : List Z5) : ∀ z ∈ mzs k Z, ∃ y ∈ Z, z.2.2.1 = y.2.2.1 := by
  induction Z generalizing k with
  | nil => intro z hz; simp [mzs] at hz
  | cons y Z ih =>
    intro z hz
    simp only [mzs, List.mem_cons] at hz
    rcases hz with rfl | hz
    · exact ⟨y, by simp, rfl⟩
    · obtain ⟨x, hx, e⟩ := ih _ z hz
      exact ⟨x, by simp [hx], e⟩
theorem OwZ.chg {P : Nat → Prop} {W W' : World} {B : Nat} {v : Value} {Z : List Z5} (h : OwZ W B v Z) (hc : Chg P W W') (hv : ∀ j, v.ownBlock = some j → ¬ P j) (he : ∀ z ∈ Z, ∀ j, z.2.2.1.ownBlock = some j → ¬ P j) : OwZ W' B v Z :=
  h.kept hc.size (fun j hj => hc.block j (h.row.lt j hj).2 (hv j hj)) (fun z hz j hj => hc.block j ((h.each z hz).lt j hj).2 (he z hz j hj))
/-- The lists of a box that a call owns, in blocks below hi. -/
def OwH (W : World) (B hi : Nat) (mv gv : Value) (L : List M4) (G : List Int) : Prop :=
  ∃ Z, Z.map md = L ∧ OwZ W B mv Z ∧ OwI W B gv G ∧ Dj gv mv ∧ (∀ z ∈ Z, Dj gv z.2.2.1) ∧ (∀ j, mv.ownBlock = some j → j < hi) ∧ (∀ j, gv.ownBlock = some j → j < hi) ∧ ∀ z ∈ Z, ∀ j, z.2.2.1.ownBlock = some j → j < hi
theorem OwB.h {W : World} {B : Nat} {mv gv : Value} {L : List M4} {G : List Int} (h : OwB W B mv gv L G) : OwH W B W.heap.size mv gv L G := by
  obtain ⟨Z, h1, h2, h3, h4, h5⟩ := h
  exact ⟨Z, h1, h2, h3, h4, h5, fun j hj => (h2.row.lt j hj).2, fun j hj => (h3.lt j hj).2, fun z hz j hj => ((h2.each z hz).lt j hj).2⟩
theorem OwH.b {W : World} {B hi : Nat} {mv gv : Value} {L : List M4} {G : List Int} (h : OwH W B hi mv gv L G) : OwB W B mv gv L G := by
  obtain ⟨Z, h1, h2, h3, h4, h5, _⟩ := h
  exact ⟨Z, h1, h2, h3, h4, h5⟩
theorem OwH.later {W W' : World} {B hi : Nat} {mv gv : Value} {L : List M4} {G : List Int} (h : OwH W B hi mv gv L G) (hb : Below W.heap.size W W') : OwH W' B hi mv gv L G := by
  obtain ⟨Z, h1, h2, h3, h4⟩ := h
  exact ⟨Z, h1, h2.later hb, own_later h3 hb, h4⟩
theorem OwH.base {W : World} {B B' hi : Nat} {mv gv : Value} {L : List M4} {G : List Int} (h : OwH W B' hi mv gv L G) (hB : B ≤ B') : OwH W B hi mv gv L G := by
  obtain ⟨Z, h1, h2, h3, h4⟩ := h
  exact ⟨Z, h1, h2.base hB, own_base h3 hB, h4⟩
theorem OwH.chg {P : Nat → Prop} {W W' : World} {B hi : Nat} {mv gv : Value} {L : List M4} {G : List Int} (h : OwH W B hi mv gv L G) (hc : Chg P W W') (hp : ∀ j, B ≤ j → j < hi → ¬ P j) : OwH W' B hi mv gv L G := by
  obtain ⟨Z, h1, h2, h3, h4, h5, h6, h7, h8⟩ := h
  exact ⟨Z, h1, h2.chg hc (fun j hj => hp j (h2.row.lt j hj).1 (h6 j hj)) (fun z hz j hj => hp j ((h2.each z hz).lt j hj).1 (h8 z hz j hj)), row_chg h3 hc (fun j hj => hp j (h3.lt j hj).1 (h7 j hj)), h4, h5, h6, h7, h8⟩
theorem Bx.chg {P : Nat → Prop} {W W' : World} {k ty : Nat} {g : Int} {nm : ByteArray} {t b nx : Int} {ms gs : Value} (h : Bx W k ty g nm t b nx ms gs) (hc : Chg P W W') (hk : ¬ P k) : Bx W' k ty g nm t b nx ms gs := (hc.block k h.lt hk).trans h
end Go.Proofs.YtocfggfccbnbhaaGreatDoor
namespace Go.Proofs.YtocfggfccbnbhaaGreatDoor
open Go.RowKit Go.ChangeMaps
end Go.Proofs.YtocfggfccbnbhaaGreatDoor
namespace Go.Proofs.YtocfggfccbnbhaaGreatDoor
open Go.RowKit Go.ChangeMaps
end Go.Proofs.YtocfggfccbnbhaaGreatDoor

namespace Go.Proofs.YtocfggfccbnbhaaGreatDoor
open Go.RowKit Go.ChangeMaps
theorem zc_set1 (Z : List Z5) (i : Nat) (z : Z5) (h : i < Z.length) (h0 : z.1 = Z[i].1) (h1 : z.2.1 = Z[i].2.1) (h3 : z.2.2.2.2 = Z[i].2.2.2.2) :
    (zc Z).set (i * 4 + 2) z.2.2.1 = zc (Z.set i z) := by
  induction Z generalizing i with
  | nil => simp at h
  | cons y Z ih =>
    cases i with
    | zero =>
      simp only [List.getElem_cons_zero] at h0 h1 h3
      simp [zc, h0, h1, h3]
    | succ i =>
      have h' : i < Z.length := by simpa using h
      have := ih i h' (by simpa using h0) (by simpa using h1) (by simpa using h3)
      have e : (i + 1) * 4 + 2 = i * 4 + 2 + 1 + 1 + 1 + 1 := by omega
      rw [e]
      simpa [zc] using this
/-- Flags alone stored at place i of an owned row. -/
theorem OwZ.flags {W : World} {B g n c : Nat} {Z : List Z5} (h : OwZ W B (.slice (some ⟨g, 0, none⟩) n c) Z) (i : Nat) (hi : i < Z.length) (z : Z5) (h0 : z.1 = Z[i].1) (h1 : z.2.1 = Z[i].2.1) (h3 : z.2.2.2.2 = Z[i].2.2.2.2) (ho : Ow W B z.2.2.1 z.2.2.2.1) (hg : z.2.2.1.ownBlock ≠ some g) (hd : ∀ y ∈ Z, Dj z.2.2.1 y.2.2.1) :
    OwZ (W.setCell ⟨g, i * 4 + 2, none⟩ z.2.2.1) B (.slice (some ⟨g, 0, none⟩) n c) (Z.set i z) := by
  obtain rfl := h.ms.1
  have hgr : W.grownBy (W.setCell ⟨g, i * 4 + 2, none⟩ z.2.2.1) (some g) := wst (wre _ _) _ _
  have h2 := (World.ownsRow.stored h.row (i * 4 + 2) z.2.2.1).1
  rw [zc_set1 Z i z hi h0 h1 h3] at h2
  have hk : ∀ {x : Value} {l : List R3}, Ow W B x l → x.ownBlock ≠ some g → Ow (W.setCell ⟨g, i * 4 + 2, none⟩ z.2.2.1) B x l :=
    fun hx hne => World.ownsRow.kept hx hgr (Or.inr hne)
  refine ⟨by simpa using h2, fun y hy => ?_, fun y hy => ?_, pair_set h.apart i z hd (fun y hy => (hd y hy).symm)⟩
  · rcases mem_set hy with hy | rfl
    · exact hk (h.each y hy) (far_of h hy)
    · exact hk ho hg
  · rcases mem_set hy with hy | rfl
    · exact h.off y hy
    · exact fun j hj hj' => hg (by rw [hj', ← hj]; rfl)
end Go.Proofs.YtocfggfccbnbhaaGreatDoor
namespace Go.Proofs.YtocfggfccbnbhaaGreatDoor
open Go.RowKit Go.ChangeMaps
end Go.Proofs.YtocfggfccbnbhaaGreatDoor
namespace Go.Proofs.YtocfggfccbnbhaaGreatDoor
open Go.RowKit Go.ChangeMaps
end Go.Proofs.YtocfggfccbnbhaaGreatDoor

namespace Go.Proofs.YtocfggfccbnbhaaGreatDoor
open Go.RowKit Go.ChangeMaps
theorem OwMp.drop {W : World} {B b c : Nat} {E1 : List En} {e0 : En} {E2 : List En} (h : OwMp W B b (E1 ++ e0 :: E2) c) : OwMp (setBlock W b (.map ((E1 ++ E2).map ent).toArray c)) B b (E1 ++ E2) c := by
  have hsub : (E1 ++ E2).Sublist (E1 ++ e0 :: E2) := (List.Sublist.refl E1).append (List.sublist_cons_self ..)
  refine ⟨heap_setBlock_same h.lies _, h.base, fun e he => h.old e (hsub.subset he), h.births.sublist (hsub.map _), h.keys.sublist (hsub.map _), fun e he => ?_, List.Pairwise.sublist hsub h.apart⟩
  have ho := h.each e (hsub.subset he)
  exact World.ownsRow.kept ho (setBlock_grown h.lies _) (Or.inr (h.off ho))
end Go.Proofs.YtocfggfccbnbhaaGreatDoor
namespace Go.Proofs.YtocfggfccbnbhaaGreatDoor
open Go.RowKit Go.ChangeMaps
end Go.Proofs.YtocfggfccbnbhaaGreatDoor
namespace Go.Proofs.YtocfggfccbnbhaaGreatDoor
open Go.RowKit Go.ChangeMaps
/-- The cells of an owned row of mails. -/
theorem OwZ.cell {W : World} {B g n c : Nat} {Z : List Z5} (h : OwZ W B (.slice (some ⟨g, 0, none⟩) n c) Z) (j : Nat) (hj : j < Z.length * 4) : W.cell? ⟨g, j, none⟩ = (zc Z)[j]? := by
  obtain rfl := h.ms.1
  exact h.row.cellAt j hj
end Go.Proofs.YtocfggfccbnbhaaGreatDoor
namespace Go.Proofs.YtocfggfccbnbhaaGreatDoor
open Go.RowKit Go.ChangeMaps
end Go.Proofs.YtocfggfccbnbhaaGreatDoor
namespace Go.Proofs.YtocfggfccbnbhaaGreatDoor
open Go.RowKit Go.ChangeMaps
end Go.Proofs.YtocfggfccbnbhaaGreatDoor

namespace Go.Proofs.YtocfggfccbnbhaaGreatDoor
open Go.RowKit Go.ChangeMaps
theorem atName_any (x : X7) (mv gv : Value) (z : ByteArray) (kb : Nat) (w : World) (hkb : kb < w.heap.size) (hc : w.cell? ⟨kb, 0, none⟩ = some (.string z)) :
    Calls Tryz.prog 169 #[.agg #[.int .i64 x.1, .string x.2.1, .int .i64 x.2.2.1, .int .i64 x.2.2.2.1, .int .i64 x.2.2.2.2.1, mv, gv], .pointer (some ⟨kb, 0, none⟩)] w fun e w' => e = .returned (.bool (isN z x)) ∧ Below w.heap.size w w' := by
  obtain ⟨g, nm, t, b, nx, L, G⟩ := x
  dsimp only
  have A0 := (Bx.new w 38 g nm t b nx mv gv).cells
  have c1 := ((bpush (bre w) (.cells #[.int .i64 g, .string nm, .int .i64 t, .int .i64 b, .int .i64 nx, mv, gv] 38)).cell (p := ⟨kb, 0, none⟩) hkb).trans hc
  have HE : Hid (isN z (g, nm, t, b, nx, L, G) = (nm.toList == z.toList)) := by
    show _ = _
    by_cases h : nm = z
    · subst h; simp [isN]
    · rw [bytes_ne h]; simp [isN, h]
  clear hc
  go_enter Tryz.func169, Tryz.ntmps169
  go_wp2
  go_ret
  exact ⟨by rw [HE.out]; rfl, bpush (bre _) _⟩
set_option maxHeartbeats 800000 in
set_option maxRecDepth 100000 in
theorem idxFunc_any (F : Nat) (p : X7 → Bool) (lo hi : Nat) (ba : Option Addr) (bn bc : Nat) (S : List X7) (kb : Nat) (w : World) (hl : S.length = bn) (hn : bn ≤ 1048576) (hm : Bs lo hi w ba S) (hE : ∀ args W, (callFunc F args).run Tryz.prog W = .ok (.enter F args) W)
    (hF : ∀ (x : X7) (mv gv : Value) (W : World), Below w.heap.size w W → Calls Tryz.prog F #[.agg #[.int .i64 x.1, .string x.2.1, .int .i64 x.2.2.1, .int .i64 x.2.2.2.1, .int .i64 x.2.2.2.2.1, mv, gv], .pointer (some ⟨kb, 0, none⟩)] W fun e W' => e = .returned (.bool (p x)) ∧ Below W.heap.size W W') :
    Calls Tryz.prog 168 #[.slice ba bn bc, .func (.func F) #[] #[.pointer (some ⟨kb, 0, none⟩)]] w fun e w' => e = .returned (.int .i64 (fidx p S 0)) ∧ Below w.heap.size w w' := by
  have HR := hid hm
  have HL := hid hl
  have HF := hid hF
  clear hm hl hF
  go_enter Tryz.func168, Tryz.ntmps168
  go_wp2
  go_loopw [8] (fun iv wr => ∃ (i : Nat), i ≤ bn ∧ iv = .int .i64 (i : Int) ∧ Hid (fidx p S 0 = fidx p (S.drop i) i) ∧ Below w.heap.size w wr) (fun iv _ => bn - (intOf iv).toNat)
  case atStart => exact ⟨0, Nat.zero_le _, rfl, rfl, bre _⟩
  case round =>
    obtain ⟨i, hi, rfl, HQ, hb⟩ := hrel
    by_cases hlt : i < bn
    · have hil : i < S.length := by rw [HL.out]; exact hlt
      obtain ⟨k, o, ma, mc, ga, gc, rfl, hk, d, _⟩ := (HR.out.later hb).at hil
      obtain ⟨q, hq⟩ : ∃ q, S[i] = q := ⟨_, rfl⟩
      rw [hq] at d
      have HP := hid hq
      have HB := hid hb
      have HC := hid (HF.out q)
      obtain ⟨r, hr⟩ : ∃ r, p q = r := ⟨_, rfl⟩
      rw [hr] at HC
      have HRR := hid hr
      obtain ⟨g1, nm1, t1, b1, nx1, L1, G1⟩ := q
      dsimp only at d HC
      obtain ⟨m1, hm1⟩ : ∃ m1, L1.length = m1 := ⟨_, rfl⟩
      obtain ⟨n1, hn1⟩ : ∃ n1, G1.length = n1 := ⟨_, rfl⟩
      rw [hm1, hn1] at d
      unfold C7 at d
      have hI : (0 : Int) ≤ (i : Int) ∧ (i : Int) < (bn : Int) := by omega
      clear hq hb hr hm1 hn1
      go_wp2_with fail
      refine (HC.out _ _ _ HB.out).mono ?_; rintro e w1 ⟨rfl, hb1⟩
      have HB1 := hid (btr HB.out hb1)
      clear hb1 d
      cases r
      · have HE : Hid (fidx p S 0 = fidx p (S.drop (i + 1)) (i + 1)) := by show _ = _; rw [HQ.out, fidx_on hil (by rw [HP.out]; exact HRR.out)]
        go_wp2
        go_roundw
        case rel => exact ⟨i + 1, by omega, by go_num, HE, HB1.out⟩
        case measure => simp [intOf]; omega
      · have HE : Hid (fidx p S 0 = i) := by show _ = _; rw [HQ.out, fidx_here hil (by rw [HP.out]; exact HRR.out)]
        go_wp2
        go_ret
        exact ⟨by rw [HE.out]; rfl, HB1.out⟩
    · have HE : Hid (fidx p S 0 = -1) := by show _ = _; rw [HQ.out, List.drop_of_length_le (by rw [HL.out]; omega)]; rfl
      go_wp2
      go_ret
      exact ⟨by rw [HE.out]; rfl, hb⟩
/-- A store in its block, and a cell beside it. -/
theorem store_cell (w : World) (ta tc : Nat) (y tm : Int) (bv gv v : Value) (W0 : World) (h : (w.alloc (.cells #[.int .i64 y, .int .i64 tm, bv, gv] ta)).alloc (.cells #[v] tc) = W0) :
    Sx W0 w.heap.size ta y tm bv gv ∧ W0.cell? ⟨w.heap.size + 1, 0, none⟩ = some v ∧ Below w.heap.size w W0 ∧ W0.heap.size = w.heap.size + 1 + 1 := by
  subst h
  refine ⟨(Sx.new w _ y tm _ _).later (bpush (bre _) _), ?_, bpush (bpush (bre _) _) _, by simp⟩
  have h := heap_alloc_new (w.alloc (.cells #[.int .i64 y, .int .i64 tm, bv, gv] ta)) (.cells #[v] tc)
  rw [show (w.alloc (.cells #[.int .i64 y, .int .i64 tm, bv, gv] ta)).heap.size = w.heap.size + 1 by simp] at h
  exact cell_of_row _ _ 0 _ _ _ h
set_option maxRecDepth 100000 in
theorem implBoxNamed_any (lo hi : Nat) (y tm : Int) (ba : Option Addr) (bn bc : Nat) (gv : Value) (S : List X7) (x : ByteArray) (w : World) (hl : S.length = bn) (hn : bn ≤ 1048576) (hm : Bs lo hi w ba S) :
    Calls Tryz.prog 128 #[.agg #[.int .i64 y, .int .i64 tm, .slice ba bn bc, gv], .string x] w fun e w' => e = .returned (.int .i64 (fidx (isN x) S 0)) ∧ Below w.heap.size w w' := by
  obtain ⟨W0, hW0⟩ : ∃ W0, (w.alloc (.cells #[.int .i64 y, .int .i64 tm, .slice ba bn bc, gv] 27)).alloc (.cells #[.string x] 9) = W0 := ⟨_, rfl⟩
  obtain ⟨a0, hx, b0, hs⟩ := store_cell w _ _ _ _ _ _ _ W0 hW0
  have c0 := a0.cells
  have HR := hid (hm.later b0)
  have B0 := hid b0
  have HX := hid hx
  have HS := hid hs
  clear a0 b0 hm hx hs
  go_enter Tryz.func128, Tryz.ntmps128
  go_wp2_with fail
  clear hW0 c0
  have hlt : w.heap.size + 1 < W0.heap.size := by have := HS.out; omega
  refine (idxFunc_any 169 (isN x) lo hi ba bn bc S (w.heap.size + 1) _ hl hn HR.out (Go.Proofs.enters_of Tryz.func169 (by kernel_rfl) rfl) (fun q mv gv W hW => atName_any q mv gv x (w.heap.size + 1) W (Nat.lt_of_lt_of_le hlt hW.size) ((hW.cell (p := ⟨w.heap.size + 1, 0, none⟩) hlt).trans HX.out))).mono ?_; rintro e w1 ⟨rfl, hb1⟩
  have B1 := hid (btr B0.out hb1)
  clear hb1
  obtain ⟨q, hq⟩ : ∃ q, fidx (isN x) S 0 = q := ⟨_, rfl⟩
  rw [hq]
  have HQ := hid hq
  clear hq
  go_wp2
  go_ret
  exact ⟨by rw [HQ.out]; rfl, B1.out⟩
end Go.Proofs.YtocfggfccbnbhaaGreatDoor

