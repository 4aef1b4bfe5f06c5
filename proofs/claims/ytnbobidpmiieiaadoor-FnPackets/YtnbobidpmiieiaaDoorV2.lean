/- Mb, Mc, Md, Me, Mf, MailTx, MailRd, MailCur, MailRm, MailRs, MailTrip, Crc. -/
import Derived.Test.YtnbobidpmiieiaaDoorV1
namespace Go.Proofs.YtnbobidpmiieiaaDoor
open Go.RowKit
/-- Block cb is a cursor over a code of n bytes. -/
def Cur (w : World) (cb : Nat) (ao : Option Addr) (n cap : Nat) : Prop :=
  ∃ (i : Nat) (h : Int), i ≤ n ∧ w.heap[cb]? = some (.cells #[.slice ao n cap, .int .i64 (i : Int), .int .i64 h] 80 (0, 0))
/-- The code's bytes lie below block cb. -/
def Code (w : World) (cb : Nat) (ao : Option Addr) (n : Nat) : Prop :=
  0 < n → ∃ b off, ao = some ⟨b, off, none⟩ ∧ b < cb ∧ ∀ j, j < n → ∃ z : Nat, z < 256 ∧ w.cell? ⟨b, off + j, none⟩ = some (.int .u8 (z : Int))
theorem Code.later {w w' : World} {cb n : Nat} {ao : Option Addr} (h : Code w cb ao n) (hb : w.grownBy w' (some cb)) : Code w' cb ao n := by
  intro hn
  obtain ⟨b, off, h1, h2, h3⟩ := h hn
  refine ⟨b, off, h1, h2, fun j hj => ?_⟩
  obtain ⟨z, hz, hc⟩ := h3 j hj
  exact ⟨z, hz, hb.cell hc (by simp; omega)⟩
theorem Cur.alloc {w : World} {cb n cap : Nat} {ao : Option Addr} (h : Cur w cb ao n cap) (o : Obj) : Cur (w.alloc o) cb ao n cap := by
  obtain ⟨i, x, h1, h2⟩ := h
  exact ⟨i, x, h1, by rw [Below.heap_alloc w o cb (Array.getElem?_eq_some_iff.1 h2).1]; exact h2⟩
theorem Cur.lt {w : World} {cb n cap : Nat} {ao : Option Addr} (h : Cur w cb ao n cap) : cb < w.heap.size := by
  obtain ⟨i, x, h1, h2⟩ := h
  exact (Array.getElem?_eq_some_iff.1 h2).1
theorem only_set {w : World} {cb o : Nat} {u : Value} : w.grownBy (w.setCell ⟨cb, o, none⟩ u) (some cb) :=
  ⟨rfl, rfl, rfl, by simp [World.setCell], fun k _ hk => heap_setCell_other w ⟨cb, o, none⟩ k u (fun e => hk (by simp [e]))⟩
theorem only_trans {a b c : World} {r : Option Nat} (h : a.grownBy b r) (k : b.grownBy c r) : a.grownBy c r :=
  ⟨k.os.trans h.os, k.tape.trans h.tape, k.output.trans h.output, Nat.le_trans h.size k.size, fun i hi hr => (k.block i (Nat.lt_of_lt_of_le hi h.size) hr).trans (h.block i hi hr)⟩
theorem i64_and255 (n : Int) : bits .and .i64 n 255 = n % 256 := by
  have h255 : (BitVec.ofInt 64 255).toNat = 2 ^ 8 - 1 := by decide
  have key : (BitVec.ofInt 64 n &&& BitVec.ofInt 64 255).toNat = (n % ((2 ^ 64 : Nat) : Int)).toNat % 2 ^ 8 := by
    rw [BitVec.toNat_and, BitVec.toNat_ofInt, h255, Nat.and_two_pow_sub_one_eq_mod]
  show IntKind.i64.wrap ((BitVec.ofInt 64 n &&& BitVec.ofInt 64 255).toNat : Nat) = n % 256
  rw [key, IntKind.wrap_i64]
  omega
theorem and255 (n : Int) : ∃ x : Nat, x < 256 ∧ bits .and .i64 n 255 = (x : Int) := ⟨(n % 256).toNat, by omega, by rw [i64_and255]; omega⟩
set_option maxHeartbeats 400000 in
set_option maxRecDepth 100000 in
theorem byte_any (cb : Nat) (ao : Option Addr) (n cap : Nat) (w : World) (hn : n ≤ 1048576) (hcur : Cur w cb ao n cap) (hcode : Code w cb ao n) :
    Calls Tryd.prog 56 #[.pointer (some ⟨cb, 0, none⟩)] w fun e w' => ∃ x : Nat, x < 256 ∧ e = .returned (.int .i64 (x : Int)) ∧ Cur w' cb ao n cap ∧ w.grownBy w' (some cb) := by
  obtain ⟨i, h, hi, hblk⟩ := hcur
  have c0 := cell_of_row w cb 0 _ _ _ hblk
  have c1 := cell_of_row w cb 1 _ _ _ hblk
  have c2 := cell_of_row w cb 2 _ _ _ hblk
  have f1 := frozen_of_row w cb 1 _ _ hblk
  have f2 := frozen_of_row w cb 2 _ _ hblk
  simp at c0 c1 c2
  have HBLK := hide hblk
  have HCODE := hide hcode
  clear hblk hcode
  by_cases hlt : i < n
  · obtain ⟨b, off, hao, hbc, hz⟩ := unhide HCODE (by omega)
    obtain ⟨z, hzb, hcz⟩ := hz i hlt
    subst hao
    have hI : (0 : Int) ≤ (i : Int) ∧ (i : Int) < (n : Int) := by omega
    clear hz
    go_enter Tryd.func56, Tryd.ntmps56
    go_wp2_with fail
    generalize wrap64 (wrap64 (h * 6364136223846793005) + 1442695040888963407) = h1
    obtain ⟨w1, hw1⟩ : ∃ w1, w.setCell ⟨cb, 2, none⟩ (.int .i64 h1) = w1 := ⟨_, rfl⟩
    have hblk1 : w1.heap[cb]? = some (.cells #[.slice (some ⟨b, off, none⟩) n cap, .int .i64 (i : Int), .int .i64 h1] 80 (0, 0)) := by
      rw [← hw1]; exact heap_setCell_same w cb 2 _ _ _ (unhide HBLK)
    have hbel : w.grownBy w1 (some cb) := by rw [← hw1]; exact only_set
    rw [hw1]
    have d0 := cell_of_row w1 cb 0 _ _ _ hblk1
    have d1 := cell_of_row w1 cb 1 _ _ _ hblk1
    have d2 := cell_of_row w1 cb 2 _ _ _ hblk1
    have g1 := frozen_of_row w1 cb 1 _ _ hblk1
    simp at d0 d1 d2
    have dz : w1.cell? ⟨b, off + i, none⟩ = some (.int .u8 (z : Int)) := hbel.cell hcz (by simp; omega)
    have HBLK1 := hide hblk1
    have HBEL := hide hbel
    clear hblk1 hbel hw1 c0 c1 c2 f1 f2 hcz HBLK HCODE
    go_quiet (fail)
    obtain ⟨x0, hx0, hx0e⟩ := and255 (bits BinOp.xor IntKind.i64 (h1 / 8589934592) (h1 / 35184372088832))
    rw [hx0e]
    go_wp2_with fail
    go_quiet (fail)
    go_wp2_with fail
    go_quiet (fail)
    go_wp2_with fail
    obtain ⟨x1, hx1, hx1e⟩ := and255 ((x0 : Int) + (z : Int))
    go_ret
    refine ⟨x1, hx1, ret_int hx1e, ⟨i + 1, h1, hlt, ?_⟩, ?_⟩
    · rw [show (((i + 1 : Nat)) : Int) = (i : Int) + 1 from by omega]
      exact heap_setCell_same _ cb 1 _ _ _ (unhide HBLK1)
    · refine only_trans (b := w1.drewN 0) ⟨(unhide HBEL).os, (unhide HBEL).tape, (unhide HBEL).output, (unhide HBEL).size, (unhide HBEL).block⟩ ?_
      exact ⟨rfl, rfl, rfl, by simp [World.setCell], fun k _ hk => heap_setCell_other w1 ⟨cb, 1, none⟩ k _ (fun e => hk (by simp [e]))⟩
  · go_enter Tryd.func56, Tryd.ntmps56
    go_wp2_with fail
    generalize wrap64 (wrap64 (h * 6364136223846793005) + 1442695040888963407) = h1
    obtain ⟨w1, hw1⟩ : ∃ w1, w.setCell ⟨cb, 2, none⟩ (.int .i64 h1) = w1 := ⟨_, rfl⟩
    have hblk1 : w1.heap[cb]? = some (.cells #[.slice ao n cap, .int .i64 (i : Int), .int .i64 h1] 80 (0, 0)) := by
      rw [← hw1]; exact heap_setCell_same w cb 2 _ _ _ (unhide HBLK)
    have hbel : w.grownBy w1 (some cb) := by rw [← hw1]; exact only_set
    rw [hw1]
    have d0 := cell_of_row w1 cb 0 _ _ _ hblk1
    have d1 := cell_of_row w1 cb 1 _ _ _ hblk1
    have d2 := cell_of_row w1 cb 2 _ _ _ hblk1
    simp at d0 d1 d2
    have HBLK1 := hide hblk1
    have HBEL := hide hbel
    clear hblk1 hbel hw1 c0 c1 c2 f1 f2 HBLK HCODE
    go_quiet (fail)
    obtain ⟨x0, hx0, hx0e⟩ := and255 (bits BinOp.xor IntKind.i64 (h1 / 8589934592) (h1 / 35184372088832))
    rw [hx0e]
    go_wp2_with fail
    go_quiet (fail)
    go_wp2_with fail
    go_ret
    exact ⟨x0, hx0, rfl, ⟨i, h1, hi, unhide HBLK1⟩, ⟨(unhide HBEL).os, (unhide HBEL).tape, (unhide HBEL).output, (unhide HBEL).size, (unhide HBEL).block⟩⟩
set_option maxHeartbeats 400000 in
theorem below_any (cb : Nat) (ao : Option Addr) (n cap m : Nat) (w : World) (hn : n ≤ 1048576) (hcur : Cur w cb ao n cap) (hcode : Code w cb ao n) (hm : 0 < m) (hm2 : m ≤ 4294967296) :
    Calls Tryd.prog 32 #[.pointer (some ⟨cb, 0, none⟩), .int .i64 (m : Int)] w fun e w' => ∃ x : Nat, x < m ∧ e = .returned (.int .i64 (x : Int)) ∧ Cur w' cb ao n cap ∧ w.grownBy w' (some cb) := by
  have HC := hide hcur
  have HO := hide hcode
  clear hcur hcode
  have hm0 : ¬ (m : Int) = 0 := by omega
  by_cases h2 : m ≤ 256
  · go_enter Tryd.func32, Tryd.ntmps32
    go_wp2_with fail
    refine (byte_any cb ao n cap _ hn (unhide HC) (unhide HO)).mono ?_; rintro e w1 ⟨x, hx, rfl, hc1, hb1⟩
    have HC1 := hide hc1
    clear hc1
    go_wp2
    go_ret
    exact ⟨x % m, Nat.mod_lt _ hm, ret_int (by simp), unhide HC1, hb1⟩
  · go_enter Tryd.func32, Tryd.ntmps32
    go_wp2_with fail
    refine (byte_any cb ao n cap _ hn (unhide HC) (unhide HO)).mono ?_; rintro e w1 ⟨x, hx, rfl, hc1, hb1⟩
    have HC1 := hide hc1
    clear hc1
    go_wp2_with fail
    refine (byte_any cb ao n cap _ hn (unhide HC1) ((unhide HO).later hb1)).mono ?_; rintro e w2 ⟨y, hy, rfl, hc2, hb2⟩
    have HC2 := hide hc2
    have hb12 := only_trans hb1 hb2
    clear hc2
    go_wp2_with fail
    refine (byte_any cb ao n cap _ hn (unhide HC2) ((unhide HO).later hb12)).mono ?_; rintro e w3 ⟨z, hz, rfl, hc3, hb3⟩
    have HC3 := hide hc3
    have hb13 := only_trans hb12 hb3
    clear hc3
    go_wp2_with fail
    refine (byte_any cb ao n cap _ hn (unhide HC3) ((unhide HO).later hb13)).mono ?_; rintro e w4 ⟨v, hv, rfl, hc4, hb4⟩
    have HC4 := hide hc4
    have hb14 := only_trans hb13 hb4
    clear hc4
    go_wp2
    go_ret
    exact ⟨(x * 16777216 + y * 65536 + z * 256 + v) % m, Nat.mod_lt _ hm, ret_int (by simp), unhide HC4, hb14⟩
theorem below4 (cb : Nat) (ao : Option Addr) (n cap : Nat) (w : World) (hn : n ≤ 1048576) (hcur : Cur w cb ao n cap) (hcode : Code w cb ao n) (m : Int) (hm : 0 < m) (hm2 : m ≤ 4294967296) :
    Calls Tryd.prog 32 #[.pointer (some ⟨cb, 0, none⟩), .int .i64 m] w fun e w' => ∃ x : Nat, (x : Int) < m ∧ e = .returned (.int .i64 (x : Int)) ∧ Cur w' cb ao n cap ∧ w.grownBy w' (some cb) := by
  obtain ⟨k, rfl⟩ : ∃ k : Nat, m = k := ⟨m.toNat, by omega⟩
  refine (below_any cb ao n cap k w hn hcur hcode (by omega) (by omega)).mono ?_
  rintro e w' ⟨x, h1, h2, h3, h4⟩
  exact ⟨x, by omega, h2, h3, h4⟩
theorem once_any (cb : Nat) (ao : Option Addr) (n cap : Nat) (w : World) (hn : n ≤ 1048576) (hcur : Cur w cb ao n cap) (hcode : Code w cb ao n) (m : Int) (hm : 0 < m) (hm2 : m ≤ 4294967296) :
    Calls Tryd.prog 43 #[.pointer (some ⟨cb, 0, none⟩), .int .i64 m] w fun e w' => ∃ t : Bool, e = .returned (.bool t) ∧ Cur w' cb ao n cap ∧ w.grownBy w' (some cb) := by
  have HC := hide hcur
  have HO := hide hcode
  clear hcur hcode
  go_enter Tryd.func43, Tryd.ntmps43
  go_wp2_with fail
  refine (below4 cb ao n cap _ hn (unhide HC) (unhide HO) m hm hm2).mono ?_; rintro e w1 ⟨x, hx, rfl, hc1, hb1⟩
  have HC1 := hide hc1
  clear hc1
  go_wp2
  go_ret
  exact ⟨_, rfl, unhide HC1, hb1⟩
/-- One of a row of ints that lies in another block. -/
theorem pickInt_any (cb g k : Nat) (zs : List Int) (ao : Option Addr) (n cap : Nat) (w : World) (hn : n ≤ 1048576) (hcur : Cur w cb ao n cap) (hcode : Code w cb ao n) (hk : zs.length = k) (hk0 : 0 < k) (hk2 : k ≤ 1000) (hg : g ≠ cb)
    (hcell : ∀ i (h : i < zs.length), w.cell? ⟨g, i, none⟩ = some (.int .i64 zs[i])) :
    Calls Tryd.prog 42 #[.pointer (some ⟨cb, 0, none⟩), .slice (some ⟨g, 0, none⟩) k k] w fun e w' => ∃ x : Int, x ∈ zs ∧ e = .returned (.int .i64 x) ∧ Cur w' cb ao n cap ∧ w.grownBy w' (some cb) := by
  have HC := hide hcur
  have HO := hide hcode
  have HK := hide hk
  have HCELL := hide hcell
  clear hcur hcode hk hcell
  go_enter Tryd.func42, Tryd.ntmps42
  go_wp2_with fail
  refine (below4 cb ao n cap _ hn (unhide HC) (unhide HO) k (by omega) (by omega)).mono ?_; rintro e w1 ⟨x, hx, rfl, hc1, hb1⟩
  have hxl : x < zs.length := by rw [unhide HK]; omega
  obtain ⟨y, hy⟩ : ∃ y, zs[x] = y := ⟨_, rfl⟩
  have hc : w1.cell? ⟨g, x, none⟩ = some (.int .i64 y) := hb1.cell (by rw [← hy]; exact unhide HCELL x hxl) (by simp; omega)
  have HY := hide hy
  have HC1 := hide hc1
  have hI : (0 : Int) ≤ (x : Int) ∧ (x : Int) < (k : Int) := by omega
  clear hc1 hy
  go_wp2
  go_ret
  exact ⟨y, by rw [← unhide HY]; exact List.getElem_mem _, rfl, unhide HC1, hb1⟩
set_option maxHeartbeats 400000 in
set_option maxRecDepth 100000 in
theorem new_any (ao : Option Addr) (n cap : Nat) (w : World) (hn : n ≤ 1048576) (hcode : Code w w.heap.size ao n) :
    Calls Tryd.prog 21 #[.slice ao n cap] w fun e w' => e = .returned (.pointer (some ⟨w.heap.size, 0, none⟩)) ∧ Cur w' w.heap.size ao n cap ∧ Code w' w.heap.size ao n ∧ Below w.heap.size w w' := by
  have HO := hide hcode
  clear hcode
  go_enter Tryd.func21, Tryd.ntmps21
  go_wp2
  go_loop [3, 4] (fun hv iv => ∃ (h : Int) (i : Nat), i ≤ n ∧ hv = .int .i64 h ∧ iv = .int .i64 (i : Int)) (fun _ iv => n - (intOf iv).toNat)
  case atStart => exact ⟨_, 0, Nat.zero_le _, rfl, rfl⟩
  case round =>
    obtain ⟨h, i, hi, rfl, rfl⟩ := hrel
    by_cases hlt : i < n
    · by_cases h4 : i < 4000
      · obtain ⟨b, off, hao, hbc, hz⟩ := unhide HO (by omega)
        obtain ⟨z, hzb, hcz⟩ := hz i hlt
        subst hao
        have hI : (0 : Int) ≤ (i : Int) ∧ (i : Int) < (n : Int) := by omega
        clear hz
        go_wp2
        go_round
        case rel => exact ⟨_, i + 1, by omega, rfl, by go_num⟩
        case measure => simp [intOf]; omega
      · go_wp2
        go_ret
        refine ⟨rfl, ⟨0, h, Nat.zero_le _, heap_alloc_new w _⟩, (unhide HO).later (World.grownBy_alloc _ _ _), (Below.refl _ _).alloc (Nat.le_refl _) _⟩
    · go_wp2
      go_ret
      refine ⟨rfl, ⟨0, h, Nat.zero_le _, heap_alloc_new w _⟩, (unhide HO).later (World.grownBy_alloc _ _ _), (Below.refl _ _).alloc (Nat.le_refl _) _⟩
end Go.Proofs.YtnbobidpmiieiaaDoor
namespace Go.Proofs.YtnbobidpmiieiaaDoor
open Go.RowKit
theorem only_add {w w1 w2 : World} {cb : Nat} (h : w.grownBy w1 (some cb)) (k : Below w.heap.size w1 w2) : w.grownBy w2 (some cb) :=
  ⟨k.os.trans h.os, k.tape.trans h.tape, k.output.trans h.output, Nat.le_trans h.size k.size, fun i hi hr => (k.block i hi).trans (h.block i hi hr)⟩
theorem Cur.later {w1 w2 : World} {B cb n cap : Nat} {ao : Option Addr} (h : Cur w1 cb ao n cap) (k : Below B w1 w2) (hB : cb < B) : Cur w2 cb ao n cap := by
  obtain ⟨i, x, h1, h2⟩ := h
  exact ⟨i, x, h1, by rw [k.block cb hB]; exact h2⟩
set_option maxHeartbeats 400000 in
set_option maxRecDepth 100000 in
theorem text_any (cb : Nat) (ao : Option Addr) (n cap m : Nat) (w : World) (hn : n ≤ 1048576) (hcur : Cur w cb ao n cap) (hcode : Code w cb ao n) (hm : m ≤ 5000) :
    Calls Tryd.prog 57 #[.pointer (some ⟨cb, 0, none⟩), .int .i64 (m : Int)] w fun e w' => ∃ bs : List UInt8, bs.length = m ∧ e = .returned (.string ⟨bs.toArray⟩) ∧ Cur w' cb ao n cap ∧ w.grownBy w' (some cb) := by
  have hcb := hcur.lt
  have HC := hide hcur
  have HO := hide hcode
  clear hcur hcode
  go_enter Tryd.func57, Tryd.ntmps57
  go_wp2
  go_loopw [5, 6] (fun v iv wr => ∃ (k : Nat) (bs : List UInt8), k ≤ m ∧ bs.length = k ∧ iv = .int .i64 (k : Int) ∧ wr.ownsRow w.heap.size 5 1 v bs.length (bs.map bv) ∧ Cur wr cb ao n cap ∧ w.grownBy wr (some cb)) (fun _ iv _ => m - (intOf iv).toNat)
  case atStart => exact ⟨0, [], Nat.zero_le _, rfl, rfl, World.ownsRow_made w #[] 0 (Nat.le_refl _) (by decide) rfl, (unhide HC).alloc _, World.grownBy_alloc _ _ _⟩
  case round =>
    obtain ⟨k, bs, hk, hbl, rfl, hown, hcu, hg⟩ := hrel
    have HBL := hide hbl
    have HCU := hide hcu
    have HOWN := hide hown
    have HG := hide hg
    have hsz := hg.size
    clear hbl hcu hown hg
    by_cases hlt : k < m
    · go_wp2_with fail
      refine (byte_any cb ao n cap _ hn (unhide HCU) ((unhide HO).later (unhide HG))).mono ?_; rintro e w1 ⟨x, hx, rfl, hc1, hb1⟩
      have hown1 : w1.ownsRow w.heap.size 5 1 _ bs.length (bs.map bv) := (unhide HOWN).kept hb1 (by
        cases hv : Value.ownBlock _ with
        | none => left; rfl
        | some b => right; have := ((unhide HOWN).lt b hv).1; simp; omega)
      have HC1 := hide hc1
      have hs1 := hb1.size
      have hxi : IntKind.u8.wrap (x : Int) = (x : Int) := by rw [IntKind.wrap_u8]; omega
      clear hc1
      go_wp2_with (at_builtin; refine wpList_append_byte w1 rfl (.tmp 15) (.tmp 19) 22 rfl w.heap.size 5 Tryd.info5 Tryd.underlying22 _ bs (by rfl) hown1 _ (UInt8.ofNat x) ?c1 rfl (by have := unhide HBL; omega) (by omega) ?_; rotate_right; intro v2 w2 hown2 hb2)
      case c1 => rw [u8_nat _ (by omega)]
      go_roundw
      case rel => exact ⟨k + 1, bs ++ [UInt8.ofNat x], hlt, by simp [unhide HBL], by go_num, hown2, (unhide HC1).later hb2 hcb, only_add (only_trans (unhide HG) hb1) hb2⟩
      case measure => simp [intOf]; omega
    · have hcv := run_string_own (P := Tryd.prog) wr 22 9 5 Tryd.underlying22 Tryd.underlying5 Tryd.underlying9 _ (unhide HOWN)
      go_wp2
      go_ret
      exact ⟨bs, by have := unhide HBL; omega, rfl, unhide HCU, unhide HG⟩
set_option maxHeartbeats 400000 in
set_option maxRecDepth 100000 in
theorem long_any (m : Nat) (x : UInt8) (w : World) (hm : m ≤ 1000000) :
    Calls Tryd.prog 41 #[.int .i64 (m : Int), .int .u8 (x.toNat : Int)] w fun e w' => ∃ bs : List UInt8, bs.length = m ∧ e = .returned (.string ⟨bs.toArray⟩) ∧ Below w.heap.size w w' := by
  obtain ⟨i0, hi, hz0, hz1, hz2⟩ := info_parts Tryd.info5
  have hmk : i0.bytes * m ≤ 281474976710656 := by rw [hz2]; omega
  go_enter Tryd.func41, Tryd.ntmps41
  go_wp2_with (at_make; refine wpList_make_full w rfl _ _ 22 rfl w.heap.size 5 i0 (.int .u8 0) 1 Tryd.underlying22 hi hz0 hz1 .i64 .i64 (m : Int) (m : Int) m (by rfl) (by rfl) rfl rfl hmk (by unfold maxLen; omega) (Nat.le_refl _) ?_; intro w0 hown0 hg0)
  clear hi hz0 hz1 hz2 hmk
  have hst : (madeCells (Value.int .u8 0).cells (m * 1)).toList = (List.replicate m (0 : UInt8)).map bv := by
    have e : (Value.int .u8 0).cells = #[Value.int .u8 0] := rfl
    apply List.ext_getElem?
    intro j
    rw [e]
    by_cases hj : j < m
    · simp [madeCells, hj, bv, Nat.mod_one]
    · rw [List.getElem?_eq_none (by rw [Array.length_toList, size_madeCells]; omega), List.getElem?_eq_none (by simp; omega)]
  rw [hst] at hown0
  clear hst
  go_loopw [6] (fun iv wr => ∃ (k : Nat) (bs : List UInt8), k ≤ m ∧ bs.length = m ∧ iv = .int .i64 (k : Int) ∧ wr.ownsRow w.heap.size 5 1 (.slice (some ⟨w.heap.size, 0, none⟩) m m) m (bs.map bv) ∧ Below w.heap.size w wr) (fun iv _ => m - (intOf iv).toNat)
  case atStart => exact ⟨0, List.replicate m 0, Nat.zero_le _, by simp, rfl, hown0, (Below.refl _ _).grown hg0 (Nat.le_refl _) (by simp)⟩
  case round =>
    clear hown0 hg0
    obtain ⟨k, bs, hk, hbl, rfl, hown, hb⟩ := hrel
    have HBL := hide hbl
    have HOWN := hide hown
    clear hbl hown
    by_cases hlt : k < m
    · have hkl : k < bs.length := by rw [unhide HBL]; exact hlt
      have hc : wr.cell? ⟨w.heap.size, k, none⟩ = some (bv bs[k]) := by rw [(unhide HOWN).cellAt k (by omega), List.getElem?_map, List.getElem?_eq_getElem hkl]; rfl
      obtain ⟨y, hy⟩ : ∃ y, bv bs[k] = .int .u8 y := ⟨_, rfl⟩
      rw [hy] at hc
      have hf := (unhide HOWN).frozenAt k
      have hst := ((unhide HOWN).stored k (bv x)).1
      rw [← List.map_set] at hst
      have HST := hide hst
      clear hst hy
      go_wp2
      go_roundw
      case rel => exact ⟨k + 1, bs.set k x, hlt, by simp [unhide HBL], by go_num, unhide HST, hb.setCell (p := ⟨w.heap.size, k, none⟩) (Nat.le_refl _) _⟩
      case measure => simp [intOf]; omega
    · have hcv := run_string_own (P := Tryd.prog) wr 22 9 5 Tryd.underlying22 Tryd.underlying5 Tryd.underlying9 _ (unhide HOWN)
      go_wp2
      go_ret
      exact ⟨bs, unhide HBL, rfl, hb⟩
end Go.Proofs.YtnbobidpmiieiaaDoor
namespace Go.Proofs.YtnbobidpmiieiaaDoor
open Go.RowKit
end Go.Proofs.YtnbobidpmiieiaaDoor
namespace Go.Proofs.YtnbobidpmiieiaaDoor
open Go.RowKit
theorem Cur.set {w : World} {cb n cap k o : Nat} {ao : Option Addr} {u : Value} (h : Cur w cb ao n cap) (hk : k ≠ cb) : Cur (w.setCell ⟨k, o, none⟩ u) cb ao n cap := by
  obtain ⟨i, x, h1, h2⟩ := h
  exact ⟨i, x, h1, by rw [Below.heap_setCell _ _ _ _ (fun e => hk e.symm)]; exact h2⟩
theorem Cur.drew {w : World} {cb n cap : Nat} {ao : Option Addr} (h : Cur w cb ao n cap) : Cur w.drew cb ao n cap := h
theorem hid {p : Prop} (h : p) : Hid p := h
/-- A register as three numbers: its value, its stamp's time, its stamp's server. -/
abbrev R3 := Int × Int × Int
/-- The cells of a list of registers. -/
def fl : List R3 → List Value
  | [] => []
  | p :: l => .int .i64 p.1 :: .int .i64 p.2.1 :: .int .i64 p.2.2 :: fl l
theorem own_base {w : World} {B B' e size n : Nat} {v : Value} {xs : List Value} (h : w.ownsRow B' e size v n xs) (hB : B ≤ B') : w.ownsRow B e size v n xs :=
  ⟨h.1, h.2.imp id (fun ⟨g, cap, cur, a, b, c⟩ => ⟨g, cap, cur, a, Nat.le_trans hB b, c⟩)⟩
end Go.Proofs.YtnbobidpmiieiaaDoor
namespace Go.Proofs.YtnbobidpmiieiaaDoor
open Go.RowKit
theorem info_parts3 {P : Program} {e : Nat} {z : Value} {s b : Nat} (h : (P.info? e).map (fun i => (i.zero, i.size, i.bytes)) = some (some z, s, b)) : ∃ i, P.info? e = some i ∧ i.zero = some z ∧ i.size = s ∧ i.bytes = b := by
  cases hi : P.info? e with
  | none => rw [hi] at h; cases h
  | some i =>
    rw [hi] at h
    simp only [Option.map_some, Option.some.injEq, Prod.mk.injEq] at h
    exact ⟨i, rfl, h.1, h.2.1, h.2.2⟩
end Go.Proofs.YtnbobidpmiieiaaDoor
namespace Go.Proofs.YtnbobidpmiieiaaDoor
open Go.RowKit
theorem wtr {a b c : World} {r : Option Nat} (h : a.grownBy b r) (k : b.grownBy c r) : a.grownBy c r :=
  ⟨k.os.trans h.os, k.tape.trans h.tape, k.output.trans h.output, Nat.le_trans h.size k.size, fun i hi hr => (k.block i (Nat.lt_of_lt_of_le hi h.size) hr).trans (h.block i hi hr)⟩
theorem wre (a : World) (r : Option Nat) : a.grownBy a r := ⟨rfl, rfl, rfl, Nat.le_refl _, fun _ _ _ => rfl⟩
theorem wst {a w : World} {g : Nat} (h : a.grownBy w (some g)) (i : Nat) (u : Value) : a.grownBy (w.setCell ⟨g, i, none⟩ u) (some g) :=
  wtr h ⟨rfl, rfl, rfl, by simp [World.setCell], fun k _ hk => Below.heap_setCell _ _ _ _ (fun e => hk (by simpa using e))⟩
theorem below_of_grown {B g : Nat} {a w : World} (h : a.grownBy w (some g)) (hB : B ≤ g) (hs : B ≤ a.heap.size) : Below B a w :=
  ⟨h.os, h.tape, h.output, h.size, fun k hk => h.block k (by omega) (by simp; omega)⟩
end Go.Proofs.YtnbobidpmiieiaaDoor
namespace Go.Proofs.YtnbobidpmiieiaaDoor
open Go.RowKit
end Go.Proofs.YtnbobidpmiieiaaDoor
namespace Go.Proofs.YtnbobidpmiieiaaDoor
open Go.RowKit
end Go.Proofs.YtnbobidpmiieiaaDoor
namespace Go.Proofs.YtnbobidpmiieiaaDoor
open Go.RowKit
end Go.Proofs.YtnbobidpmiieiaaDoor
namespace Go.Proofs.YtnbobidpmiieiaaDoor
open Go.RowKit
theorem addr_add (k o j : Nat) : (⟨k, o, none⟩ : Addr).add j = ⟨k, o + j, none⟩ := by unfold Addr.add; split <;> simp_all
end Go.Proofs.YtnbobidpmiieiaaDoor
namespace Go.Proofs.YtnbobidpmiieiaaDoor
open Go.RowKit
end Go.Proofs.YtnbobidpmiieiaaDoor
namespace Go.Proofs.YtnbobidpmiieiaaDoor
open Go.RowKit
/-- A drawn flag: 0 or 1, its stamp right. -/
def gd (p : R3) : Prop := (0 ≤ p.1 ∧ p.1 < 2) ∧ 0 ≤ p.2.1 ∧ p.2.1 < 12 ∧ 1 ≤ p.2.2 ∧ p.2.2 ≤ 2
end Go.Proofs.YtnbobidpmiieiaaDoor
namespace Go.Proofs.YtnbobidpmiieiaaDoor
open Go.RowKit
end Go.Proofs.YtnbobidpmiieiaaDoor
namespace Go.Proofs.YtnbobidpmiieiaaDoor
open Go.RowKit
/-- A list of three. -/
theorem three {l : List R3} (h : l.length = 3) : ∃ p q r, l = [p, q, r] := by
  match l, h with
  | [p, q, r], _ => exact ⟨p, q, r, rfl⟩
theorem bdn {B : Nat} {w w1 : World} (h : Below B w w1) (k : Nat) : Below B w (w1.drewN k) := ⟨h.os, h.tape, h.output, h.size, h.block⟩
theorem bigF_no (ao : Option Addr) (n cap : Nat) (w : World) (hn : n ≤ 1048576) : Calls Tryd.prog 4 #[.slice ao n cap] w fun e w' => e = .returned (.bool false) ∧ w' = w := by
  go_enter Tryd.func4, Tryd.ntmps4
  go_wp2
  go_ret
  exact ⟨ret_bool (by simp; omega), rfl⟩
theorem bigF_yes (ao : Option Addr) (n cap : Nat) (w : World) (hn : ¬ n ≤ 1048576) : Calls Tryd.prog 4 #[.slice ao n cap] w fun e w' => e = .returned (.bool true) ∧ w' = w := by
  go_enter Tryd.func4, Tryd.ntmps4
  go_wp2
  go_ret
  exact ⟨ret_bool (by simp; omega), rfl⟩
/-- A store into another block. -/
theorem heap_setCell_far {W : World} {k j i : Nat} {o : Obj} (u : Value) (h : W.heap[k]? = some o) (hk : k ≠ j) : (W.setCell ⟨j, i, none⟩ u).heap[k]? = some o := (Below.heap_setCell _ _ _ _ hk).trans h
theorem bsk {a w : World} (h : Below a.heap.size a w) {k : Nat} (hk : a.heap.size ≤ k) (i : Nat) (x : Value) : Below a.heap.size a (w.setCell ⟨k, i, none⟩ x) := bset h hk x
end Go.Proofs.YtnbobidpmiieiaaDoor
namespace Go.Proofs.YtnbobidpmiieiaaDoor
open Go.RowKit
end Go.Proofs.YtnbobidpmiieiaaDoor
namespace Go.Proofs.YtnbobidpmiieiaaDoor
open Go.RowKit
end Go.Proofs.YtnbobidpmiieiaaDoor
namespace Go.Proofs.YtnbobidpmiieiaaDoor
open Go.RowKit
end Go.Proofs.YtnbobidpmiieiaaDoor
namespace Go.Proofs.YtnbobidpmiieiaaDoor
open Go.RowKit
end Go.Proofs.YtnbobidpmiieiaaDoor
namespace Go.Proofs.YtnbobidpmiieiaaDoor
open Go.RowKit
end Go.Proofs.YtnbobidpmiieiaaDoor
namespace Go.Proofs.YtnbobidpmiieiaaDoor
open Go.RowKit
theorem below_grownR {B : Nat} {a w : World} {r : Option Nat} (h : a.grownBy w r) (hB : ∀ j, r = some j → B ≤ j) (hs : B ≤ a.heap.size) : Below B a w :=
  ⟨h.os, h.tape, h.output, h.size, fun k hk => h.block k (by omega) (fun e => by have := hB k e.symm; omega)⟩
end Go.Proofs.YtnbobidpmiieiaaDoor
namespace Go.Proofs.YtnbobidpmiieiaaDoor
open Go.RowKit
/-- A store into a block that is new. -/
theorem wst_new {a w : World} {r : Option Nat} (h : a.grownBy w r) {j : Nat} (hj : a.heap.size ≤ j) (i : Nat) (x : Value) : a.grownBy (w.setCell ⟨j, i, none⟩ x) r :=
  ⟨h.os, h.tape, h.output, by simpa [World.setCell] using h.size, fun k hk hr => (Below.heap_setCell w ⟨j, i, none⟩ x k (by show k ≠ j; omega)).trans (h.block k hk hr)⟩
theorem grown_below {a w : World} (h : Below a.heap.size a w) (r : Option Nat) : a.grownBy w r := ⟨h.os, h.tape, h.output, h.size, fun k hk _ => h.block k hk⟩
/-- One of a row of texts that lies in another block. -/
theorem pick_any (cb g k z : Nat) (zs : List ByteArray) (ao : Option Addr) (n cap : Nat) (w : World) (hn : n ≤ 1048576) (hcur : Cur w cb ao n cap) (hcode : Code w cb ao n) (hk : zs.length = k) (hk0 : 0 < k) (hk2 : k ≤ 1000) (hg : g ≠ cb) (hz : ∀ y ∈ zs, y.size ≤ z)
    (hcell : ∀ i (h : i < zs.length), w.cell? ⟨g, i, none⟩ = some (.string zs[i])) :
    Calls Tryd.prog 45 #[.pointer (some ⟨cb, 0, none⟩), .slice (some ⟨g, 0, none⟩) k k] w fun e w' => ∃ x : ByteArray, x.size ≤ z ∧ e = .returned (.string x) ∧ Cur w' cb ao n cap ∧ w.grownBy w' (some cb) := by
  have HC := hide hcur
  have HO := hide hcode
  have HK := hide hk
  have HZ := hide hz
  have HCELL := hide hcell
  clear hcur hcode hk hcell hz
  go_enter Tryd.func45, Tryd.ntmps45
  go_wp2_with fail
  refine (below4 cb ao n cap _ hn (unhide HC) (unhide HO) k (by omega) (by omega)).mono ?_; rintro e w1 ⟨x, hx, rfl, hc1, hb1⟩
  have hxl : x < zs.length := by rw [unhide HK]; omega
  obtain ⟨y, hy⟩ : ∃ y, zs[x] = y := ⟨_, rfl⟩
  have hc : w1.cell? ⟨g, x, none⟩ = some (.string y) := hb1.cell (by rw [← hy]; exact unhide HCELL x hxl) (by simp; omega)
  have HY : Hid (y.size ≤ z) := by show _ ≤ _; rw [← hy]; exact unhide HZ _ (List.getElem_mem _)
  have HC1 := hide hc1
  have hI : (0 : Int) ≤ (x : Int) ∧ (x : Int) < (k : Int) := by omega
  clear hc1 hy
  go_wp2
  go_ret
  exact ⟨y, HY.out, rfl, unhide HC1, hb1⟩
end Go.Proofs.YtnbobidpmiieiaaDoor
namespace Go.Proofs.YtnbobidpmiieiaaDoor
open Go.RowKit
end Go.Proofs.YtnbobidpmiieiaaDoor
namespace Go.Proofs.YtnbobidpmiieiaaDoor
open Go.RowKit
theorem data_len (s : ByteArray) : s.data.toList.length = s.size := Array.length_toList
/-- A number's bytes; those of many; a register's; those of many; a mail's. -/
def vi (n : Int) : ByteArray := ⟨(vbs n.toNat).toArray⟩
def vis : List Int → ByteArray
  | [] => ⟨#[]⟩
  | n :: l => vi n ++ vis l
def rt (p : R3) : ByteArray := vi p.1 ++ vi p.2.1 ++ vi p.2.2
theorem ba_nil (s : ByteArray) : (⟨#[]⟩ : ByteArray) ++ s = s := ByteArray.empty_append
theorem nil_ba (s : ByteArray) : s ++ (⟨#[]⟩ : ByteArray) = s := ByteArray.append_empty
theorem vis_snoc (l : List Int) (n : Int) : vis (l ++ [n]) = vis l ++ vi n := by
  induction l with
  | nil => simp only [List.nil_append, vis, ba_nil, nil_ba]
  | cons a l ih => simp only [List.cons_append, vis, ih, ByteArray.append_assoc]
theorem vi_size (n : Int) (h : n ≤ 1000000000) : (vi n).size ≤ 1000000001 := by
  have := vbs_len n.toNat
  show (vbs n.toNat).toArray.size ≤ _
  simp only [List.size_toArray]
  omega
theorem var_s (n : Int) (h0 : 0 ≤ n) (h1 : n ≤ 1000000000) : ∃ x : ByteArray, Hid (x = vi n) ∧ x.size ≤ 1000000001 ∧ Hid (∀ w, Calls Tryd.prog 28 #[.int .i64 n] w fun e w' => e = .returned (.string x) ∧ Below w.heap.size w w') := by
  obtain ⟨k, rfl⟩ : ∃ k : Nat, n = k := ⟨n.toNat, by omega⟩
  exact ⟨vi k, rfl, vi_size _ h1, fun w => l01Var_any k w (by omega)⟩
theorem var_i (n : Int) (h0 : 0 ≤ n) (h1 : n ≤ 1000000000) : ∃ x : ByteArray, Hid (x = vi n) ∧ x.size ≤ 1000000001 ∧ Hid (∀ w, Calls Tryd.prog 46 #[.int .i64 n] w fun e w' => e = .returned (.tuple #[.string x, .bool true]) ∧ Below w.heap.size w w') := by
  obtain ⟨k, rfl⟩ : ∃ k : Nat, n = k := ⟨n.toNat, by omega⟩
  exact ⟨vi k, rfl, vi_size _ h1, fun w => implVar_any k w (by omega)⟩
theorem take_next {α : Type} (l : List α) (i : Nat) (h : i < l.length) : l.take (i + 1) = l.take i ++ [l[i]] := List.take_succ_eq_append_getElem h
set_option maxHeartbeats 400000 in
set_option maxRecDepth 100000 in
theorem varTexts_any (k : Nat) (xs : List Int) (n : Nat) (w : World) (hn : xs.length = n) (h3 : n ≤ 4) (hx : ∀ x ∈ xs, 0 ≤ x ∧ x ≤ 1000000000) (hk : k < w.heap.size) (hc : ∀ i (h : i < xs.length), w.cell? ⟨k, i, none⟩ = some (.int .i64 xs[i])) :
    Calls Tryd.prog 25 #[.slice (some ⟨k, 0, none⟩) n n] w fun e w' => e = .returned (.string (vis xs)) ∧ Below w.heap.size w w' := by
  have HN := hid hn
  have HX := hid hx
  have HC := hid hc
  have HK := hid hk
  clear hn hx hc hk
  go_enter Tryd.func25, Tryd.ntmps25
  go_wp2
  go_loopw [3, 10] (fun sv iv wr => ∃ (i : Nat) (s : ByteArray), i ≤ n ∧ iv = .int .i64 (i : Int) ∧ sv = .string s ∧ Hid (s = vis (xs.take i)) ∧ s.size ≤ i * 1000000001 ∧ Below w.heap.size w wr) (fun _ iv _ => n - (intOf iv).toNat)
  case atStart => exact ⟨0, ⟨#[]⟩, Nat.zero_le _, rfl, rfl, rfl, (Nat.zero_le _ : 0 ≤ 0 * 1000000001), bre _⟩
  case round =>
    obtain ⟨i, s, hi, rfl, rfl, HS, hs, hb⟩ := hrel
    have HB := hid hb
    clear hb
    by_cases hlt : i < n
    · have hil : i < xs.length := by rw [HN.out]; exact hlt
      have HT : Hid (xs.take (i + 1) = xs.take i ++ [xs[i]]) := take_next xs i hil
      have hc : wr.cell? ⟨k, i, none⟩ = some (.int .i64 xs[i]) := (HB.out.cell (p := ⟨k, i, none⟩) HK.out).trans (HC.out i hil)
      have hm := HX.out xs[i] (List.getElem_mem hil)
      obtain ⟨x, hx⟩ : ∃ x, xs[i] = x := ⟨_, rfl⟩
      have HE := hid hx
      rw [hx] at hc hm
      clear hx
      obtain ⟨y, hy, hys, cy⟩ := var_i x hm.1 hm.2
      go_wp2_with fail
      refine (cy.out _).mono ?_; rintro e w1 ⟨rfl, hb1⟩
      have HB1 := hid (btr HB.out hb1)
      clear hc hb1
      go_wp2
      go_roundw
      case rel => exact ⟨i + 1, s ++ y, by omega, by go_num, rfl, by show _ = _; rw [HT.out, HE.out, vis_snoc, ← HS.out, hy.out], by rw [ByteArray.size_append]; omega, HB1.out⟩
      case measure => simp [intOf]; omega
    · have HE : Hid (xs.take i = xs) := List.take_of_length_le (by rw [HN.out]; omega)
      go_wp2
      go_ret
      exact ⟨by rw [← HE.out, ← HS.out]; rfl, HB.out⟩
theorem two_ints (w : World) (x y : Int) (e : Nat) : ∀ i (h : i < [x, y].length), (w.alloc (.cells #[.int .i64 x, .int .i64 y] e)).cell? ⟨w.heap.size, i, none⟩ = some (.int .i64 [x, y][i]) := by
  intro i hi
  have h := heap_alloc_new w (.cells #[.int .i64 x, .int .i64 y] e)
  have h2 : i = 0 ∨ i = 1 := by simp at hi; omega
  rcases h2 with rfl | rfl
  · exact cell_of_row _ _ 0 _ _ _ h
  · exact cell_of_row _ _ 1 _ _ _ h
theorem three_ints (w : World) (x y z : Int) (e : Nat) : ∀ i (h : i < [x, y, z].length), (w.alloc (.cells #[.int .i64 x, .int .i64 y, .int .i64 z] e)).cell? ⟨w.heap.size, i, none⟩ = some (.int .i64 [x, y, z][i]) := by
  intro i hi
  have h := heap_alloc_new w (.cells #[.int .i64 x, .int .i64 y, .int .i64 z] e)
  have h2 : i = 0 ∨ i = 1 ∨ i = 2 := by simp at hi; omega
  rcases h2 with rfl | rfl | rfl
  · exact cell_of_row _ _ 0 _ _ _ h
  · exact cell_of_row _ _ 1 _ _ _ h
  · exact cell_of_row _ _ 2 _ _ _ h
theorem texts3 (x y z : Int) (hx : 0 ≤ x ∧ x ≤ 1000000000) (hy : 0 ≤ y ∧ y ≤ 1000000000) (hz : 0 ≤ z ∧ z ≤ 1000000000) : ∃ s : ByteArray, Hid (s = rt (x, y, z)) ∧ s.size ≤ 3000000003 ∧ Hid (∀ w k, k = w.heap.size → Calls Tryd.prog 25 #[.slice (some ⟨k, 0, none⟩) 3 3] (w.alloc (.cells #[.int .i64 x, .int .i64 y, .int .i64 z] 3)) fun e w' => e = .returned (.string s) ∧ Below w.heap.size w w') := by
  have a := vi_size x hx.2
  have b := vi_size y hy.2
  have c := vi_size z hz.2
  refine ⟨vis [x, y, z], ?_, ?_, fun w k hk => ?_⟩
  · show _ = _; simp only [vis, rt, nil_ba, ByteArray.append_assoc]
  · simp only [vis, nil_ba, ByteArray.size_append]; omega
  · subst hk
    refine (varTexts_any w.heap.size [x, y, z] 3 _ rfl (by omega) (by intro v hv; simp at hv; rcases hv with rfl | rfl | rfl <;> assumption) (by simp) (three_ints w x y z 3)).mono fun _ _ h => ⟨h.1, btr (bpush (bre _) _) h.2⟩
def rd (s : ByteArray) (a : Int) : Option (Int × Int) :=
  if 0 ≤ a ∧ a ≤ s.size then (rv 5 (s.data.toList.drop a.toNat) 0 0).map fun p => ((p.1 : Int), a + (p.2 : Int)) else none
def rsh (s : ByteArray) (a : Int) : Option (ByteArray × Int) :=
  (rd s a).bind fun p => if p.1 ≤ 20000 ∧ p.2 + p.1 ≤ s.size then some (s.extract p.2.toNat (p.2 + p.1).toNat, p.2 + p.1) else none
def rdT (s : ByteArray) (a : Int) : Value := match rd s a with
  | some p => .tuple #[.int .i64 p.1, .int .i64 p.2, .bool true]
  | none => .tuple #[.int .i64 0, .int .i64 0, .bool false]
def rshT (s : ByteArray) (a : Int) : Value := match rsh s a with
  | some p => .tuple #[.string p.1, .int .i64 p.2, .bool true]
  | none => .tuple #[.string ⟨#[]⟩, .int .i64 0, .bool false]
theorem rd_out {s : ByteArray} {a : Int} (h : a < 0 ∨ s.size < a) : rd s a = none := by unfold rd; rw [if_neg (by omega)]
theorem rd_in {s : ByteArray} {a : Nat} (h : a ≤ s.size) : rd s a = (rv 5 (s.data.toList.drop a) 0 0).map fun p => ((p.1 : Int), (a : Int) + (p.2 : Int)) := by
  unfold rd; rw [if_pos (by omega)]; rfl
theorem rd_some {s : ByteArray} {a n c : Int} (h : rd s a = some (n, c)) : 0 ≤ n ∧ n ≤ 1000000000 ∧ 0 ≤ a ∧ a ≤ c ∧ c ≤ s.size := by
  by_cases ha : 0 ≤ a ∧ a ≤ s.size
  · obtain ⟨k, rfl⟩ : ∃ k : Nat, a = k := ⟨a.toNat, by omega⟩
    rw [rd_in (by omega)] at h
    cases hr : rv 5 (s.data.toList.drop k) 0 0 with
    | none => rw [hr] at h; cases h
    | some p =>
      obtain ⟨m, d⟩ := p
      rw [hr] at h
      simp only [Option.map_some, Option.some.injEq, Prod.mk.injEq] at h
      have := rv_place (by omega) hr
      omega
  · rw [rd_out (by omega)] at h; cases h
theorem rdT_rv {s : ByteArray} {a : Nat} {e : Ending} (h : a ≤ s.size) (he : RvEnd (rv 5 (s.data.toList.drop a) 0 0) a e) : e = .returned (rdT s a) := by
  unfold rdT
  rw [rd_in h]
  cases hr : rv 5 (s.data.toList.drop a) 0 0 with
  | none => rw [hr] at he; exact he
  | some p =>
    obtain ⟨m, d⟩ := p
    rw [hr] at he
    simp only [RvEnd] at he
    rw [he]; simp
theorem specRd (s : ByteArray) (a : Int) (w : World) (hs : s.size ≤ 1048576) : Calls Tryd.prog 58 #[.string s, .int .i64 a] w fun e w' => e = .returned (rdT s a) ∧ Below w.heap.size w w' := by
  by_cases ha : 0 ≤ a ∧ a ≤ s.size
  · obtain ⟨k, rfl⟩ : ∃ k : Nat, a = k := ⟨a.toNat, by omega⟩
    exact (specRead_any s k w hs (by omega)).mono fun e w' h => ⟨rdT_rv (by omega) h.1, h.2⟩
  · have e : rdT s a = .tuple #[.int .i64 0, .int .i64 0, .bool false] := by unfold rdT; rw [rd_out (by omega)]
    rw [e]
    exact (specRead_no s a w hs (by omega)).mono fun e w' h => ⟨h.1, h.2 ▸ bre _⟩
theorem implRd (s : ByteArray) (a : Int) (w : World) (hs : s.size ≤ 1048576) : Calls Tryd.prog 72 #[.string s, .int .i64 a] w fun e w' => e = .returned (rdT s a) ∧ Below w.heap.size w w' := by
  by_cases ha : 0 ≤ a ∧ a ≤ s.size
  · obtain ⟨k, rfl⟩ : ∃ k : Nat, a = k := ⟨a.toNat, by omega⟩
    exact (implRead_any s k w hs (by omega)).mono fun e w' h => ⟨rdT_rv (by omega) h.1, h.2⟩
  · have e : rdT s a = .tuple #[.int .i64 0, .int .i64 0, .bool false] := by unfold rdT; rw [rd_out (by omega)]
    rw [e]
    exact (implRead_no s a w (by omega)).mono fun e w' h => ⟨h.1, h.2 ▸ bre _⟩
/-- The three ways in which a short text is read. -/
theorem rsh_ways (s : ByteArray) (a : Int) :
    (((a < 0 ∨ s.size < a) ∨ (0 ≤ a ∧ a ≤ s.size ∧ rv 5 (s.data.toList.drop a.toNat) 0 0 = none)) ∧ rshT s a = .tuple #[.string ⟨#[]⟩, .int .i64 0, .bool false]) ∨
    (∃ k n d : Nat, a = k ∧ k ≤ s.size ∧ rv 5 (s.data.toList.drop k) 0 0 = some (n, d) ∧ (20000 < n ∨ s.size < k + d + n) ∧ rshT s a = .tuple #[.string ⟨#[]⟩, .int .i64 0, .bool false]) ∨
    (∃ k n d : Nat, a = k ∧ k ≤ s.size ∧ rv 5 (s.data.toList.drop k) 0 0 = some (n, d) ∧ n ≤ 20000 ∧ k + d + n ≤ s.size ∧ rshT s a = .tuple #[.string (s.extract (k + d) (k + d + n)), .int .i64 (k + d + n : Nat), .bool true]) := by
  by_cases ha : 0 ≤ a ∧ a ≤ s.size
  · obtain ⟨k, rfl⟩ : ∃ k : Nat, a = k := ⟨a.toNat, by omega⟩
    have e := rd_in (s := s) (a := k) (by omega)
    cases hr : rv 5 (s.data.toList.drop k) 0 0 with
    | none =>
      rw [hr] at e
      exact Or.inl ⟨Or.inr ⟨by omega, by omega, by simpa using hr⟩, by unfold rshT rsh; rw [e]; rfl⟩
    | some p =>
      obtain ⟨n, d⟩ := p
      rw [hr] at e
      simp only [Option.map_some] at e
      by_cases h2 : n ≤ 20000 ∧ k + d + n ≤ s.size
      · refine Or.inr (Or.inr ⟨k, n, d, rfl, by omega, hr, h2.1, h2.2, ?_⟩)
        unfold rshT rsh
        rw [e]
        simp only [Option.bind_some]
        rw [if_pos (by omega)]
        have e1 : ((k : Int) + (d : Int)).toNat = k + d := by omega
        have e2 : ((k : Int) + (d : Int) + (n : Int)).toNat = k + d + n := by omega
        have e3 : (k : Int) + (d : Int) + (n : Int) = ((k + d + n : Nat) : Int) := by omega
        rw [e1, e2, e3]
      · refine Or.inr (Or.inl ⟨k, n, d, rfl, by omega, hr, by omega, ?_⟩)
        unfold rshT rsh
        rw [e]
        simp only [Option.bind_some]
        rw [if_neg (by omega)]
  · exact Or.inl ⟨Or.inl (by omega), by unfold rshT rsh; rw [rd_out (by omega)]; rfl⟩
theorem specRsh (s : ByteArray) (a : Int) (w : World) (hs : s.size ≤ 1048576) : Calls Tryd.prog 59 #[.string s, .int .i64 a] w fun e w' => e = .returned (rshT s a) ∧ Below w.heap.size w w' := by
  rcases rsh_ways s a with ⟨h, e⟩ | ⟨k, n, d, rfl, hk, hr, hb, e⟩ | ⟨k, n, d, rfl, hk, hr, h2, h3, e⟩
  · rw [e]; exact specRShort_no s a w hs h
  · rw [e]; exact specRShort_bad s k n d w hs hk hr hb
  · rw [e]; exact specRShort_yes s k n d w hs hk hr h2 h3
theorem implRsh (s : ByteArray) (a : Int) (w : World) (hs : s.size ≤ 1048576) : Calls Tryd.prog 73 #[.string s, .int .i64 a] w fun e w' => e = .returned (rshT s a) ∧ Below w.heap.size w w' := by
  rcases rsh_ways s a with ⟨h, e⟩ | ⟨k, n, d, rfl, hk, hr, hb, e⟩ | ⟨k, n, d, rfl, hk, hr, h2, h3, e⟩
  · rw [e]; exact implRShort_no s a w hs h
  · rw [e]; exact implRShort_bad s k n d w hs hk hr hb
  · rw [e]; exact implRShort_yes s k n d w hs hk hr h2 h3
/-- Block k holds a cursor. -/
def Cg (W : World) (k : Nat) (s : ByteArray) (b : Int) (bad : Bool) : Prop := W.heap[k]? = some (.cells #[.string s, .int .i64 b, .bool bad] 61 (0, 0))
theorem Cg.lt {W : World} {k : Nat} {s : ByteArray} {b : Int} {bad : Bool} (h : Cg W k s b bad) : k < W.heap.size := (Array.getElem?_eq_some_iff.1 h).1
theorem Cg.later {W W' : World} {k : Nat} {s : ByteArray} {b : Int} {bad : Bool} (h : Cg W k s b bad) (hb : Below W.heap.size W W') : Cg W' k s b bad := (hb.block k h.lt).trans h
theorem Cg.cells {W : World} {k : Nat} {s : ByteArray} {b : Int} {bad : Bool} (h : Cg W k s b bad) : W.cell? ⟨k, 0, none⟩ = some (.string s) ∧ W.cell? ⟨k, 1, none⟩ = some (.int .i64 b) ∧ W.cell? ⟨k, 2, none⟩ = some (.bool bad) :=
  ⟨cell_of_row W k 0 _ _ _ h, cell_of_row W k 1 _ _ _ h, cell_of_row W k 2 _ _ _ h⟩
theorem Cg.loose {W : World} {k : Nat} {s : ByteArray} {b : Int} {bad : Bool} (h : Cg W k s b bad) : W.frozen? ⟨k, 0, none⟩ = false ∧ W.frozen? ⟨k, 1, none⟩ = false ∧ W.frozen? ⟨k, 2, none⟩ = false :=
  ⟨frozen_of_row W k 0 _ _ h, frozen_of_row W k 1 _ _ h, frozen_of_row W k 2 _ _ h⟩
theorem Cg.s1 {W : World} {k : Nat} {s : ByteArray} {b : Int} {bad : Bool} (h : Cg W k s b bad) (b' : Int) : Cg (W.setCell ⟨k, 1, none⟩ (.int .i64 b')) k s b' bad := heap_setCell_same W k 1 _ _ (.int .i64 b') h
theorem Cg.s2 {W : World} {k : Nat} {s : ByteArray} {b : Int} {bad : Bool} (h : Cg W k s b bad) (bad' : Bool) : Cg (W.setCell ⟨k, 2, none⟩ (.bool bad')) k s b bad' := heap_setCell_same W k 2 _ _ (.bool bad') h
/-- What a cursor comes to when a number is read: the number, the place, and whether it is bad. -/
def nxt (s : ByteArray) (b : Int) (bad : Bool) (n b' : Int) (bad' : Bool) : Prop :=
  (bad = false ∧ bad' = false ∧ rd s b = some (n, b')) ∨ (bad' = true ∧ n = 0 ∧ b' = b ∧ (bad = true ∨ rd s b = none))
def nxtS (s : ByteArray) (b : Int) (bad : Bool) (t : ByteArray) (b' : Int) (bad' : Bool) : Prop :=
  (bad = false ∧ bad' = false ∧ rsh s b = some (t, b')) ∨ (bad' = true ∧ t = ⟨#[]⟩ ∧ b' = b ∧ (bad = true ∨ rsh s b = none))
/-- How a call ends that reads a number, a text, by the cursor at block k. -/
def Var1 (w : World) (k : Nat) (s : ByteArray) (b : Int) (bad : Bool) (e : Ending) (w' : World) : Prop := ∃ n b' bad', e = .returned (.int .i64 n) ∧ Cg w' k s b' bad' ∧ nxt s b bad n b' bad' ∧ w.grownBy w' (some k)
def Short1 (w : World) (k : Nat) (s : ByteArray) (b : Int) (bad : Bool) (e : Ending) (w' : World) : Prop := ∃ t b' bad', e = .returned (.string t) ∧ Cg w' k s b' bad' ∧ nxtS s b bad t b' bad' ∧ w.grownBy w' (some k)
theorem rd_l (s : ByteArray) (b : Int) (hs : s.size ≤ 1048576) : ∃ (n c : Int) (ok : Bool), Hid ((ok = true ∧ rd s b = some (n, c)) ∨ (ok = false ∧ rd s b = none)) ∧ Hid (∀ w, Calls Tryd.prog 58 #[.string s, .int .i64 b] w fun e w' => e = .returned (.tuple #[.int .i64 n, .int .i64 c, .bool ok]) ∧ Below w.heap.size w w') := by
  have h := specRd s b (hs := hs)
  unfold rdT at h
  cases hr : rd s b with
  | none => rw [hr] at h; exact ⟨0, 0, false, Or.inr ⟨rfl, rfl⟩, h⟩
  | some p => rw [hr] at h; exact ⟨p.1, p.2, true, Or.inl ⟨rfl, rfl⟩, h⟩
theorem rsh_l (s : ByteArray) (b : Int) (hs : s.size ≤ 1048576) : ∃ (t : ByteArray) (c : Int) (ok : Bool), Hid ((ok = true ∧ rsh s b = some (t, c)) ∨ (ok = false ∧ rsh s b = none)) ∧ Hid (∀ w, Calls Tryd.prog 59 #[.string s, .int .i64 b] w fun e w' => e = .returned (.tuple #[.string t, .int .i64 c, .bool ok]) ∧ Below w.heap.size w w') := by
  have h := specRsh s b (hs := hs)
  unfold rshT at h
  cases hr : rsh s b with
  | none => rw [hr] at h; exact ⟨⟨#[]⟩, 0, false, Or.inr ⟨rfl, rfl⟩, h⟩
  | some p => rw [hr] at h; exact ⟨p.1, p.2, true, Or.inl ⟨rfl, rfl⟩, h⟩
set_option maxHeartbeats 800000 in
set_option maxRecDepth 100000 in
theorem l05Var_any (k : Nat) (s : ByteArray) (b : Int) (bad : Bool) (w : World) (hs : s.size ≤ 1048576) (hc : Cg w k s b bad) :
    Calls Tryd.prog 35 #[.pointer (some ⟨k, 0, none⟩)] w fun e w' => Var1 w k s b bad e w' := by
  obtain ⟨n, c, ok, hr, cr⟩ := rd_l s b hs
  have HC := hid hc
  clear hc hs
  have HS : Hid (∀ W, Below w.heap.size w W → (W.cell? ⟨k, 0, none⟩ = some (.string s) ∧ W.cell? ⟨k, 1, none⟩ = some (.int .i64 b) ∧ W.cell? ⟨k, 2, none⟩ = some (.bool bad))) := fun W h => (HC.out.later h).cells
  go_enter Tryd.func35, Tryd.ntmps35
  go_wp2_with fail
  go_region_held3 (fun W => (W.cell? ⟨k, 0, none⟩ = some (.string s) ∧ W.cell? ⟨k, 1, none⟩ = some (.int .i64 b) ∧ W.cell? ⟨k, 2, none⟩ = some (.bool bad)))
    ((refine HS.out _ ?_; repeat (first | exact bdr (bre _) | refine btr ?_ (by assumption))))
    ((go_at_call 58; refine (cr.out _).mono ?_; rintro e w1 ⟨rfl, hb1⟩))
  have B1 : Hid (Below w.heap.size w w1) := by show Below _ _ _; repeat (first | exact bdr (bre _) | refine btr ?_ (by assumption))
  have K1 := hid (HC.out.later B1.out)
  have d := K1.out.cells
  have f := K1.out.loose
  clear hb1 HS
  cases bad
  · cases ok
    · go_wp2
      go_ret
      exact ⟨0, b, true, rfl, K1.out.s2 true, Or.inr ⟨rfl, rfl, rfl, Or.inr (by rcases hr.out with ⟨h, _⟩ | ⟨_, h⟩; (cases h); exact h)⟩, wst (grown_below B1.out _) 2 _⟩
    · go_wp2
      go_ret
      exact ⟨n, c, false, rfl, K1.out.s1 c, Or.inl ⟨rfl, rfl, (by rcases hr.out with ⟨_, h⟩ | ⟨h, _⟩; (exact h); cases h)⟩, wst (grown_below B1.out _) 1 _⟩
  · go_wp2
    go_ret
    exact ⟨0, b, true, rfl, K1.out.s2 true, Or.inr ⟨rfl, rfl, rfl, Or.inl rfl⟩, wst (grown_below B1.out _) 2 _⟩
set_option maxHeartbeats 800000 in
set_option maxRecDepth 100000 in
theorem l05Short_any (k : Nat) (s : ByteArray) (b : Int) (bad : Bool) (w : World) (hs : s.size ≤ 1048576) (hc : Cg w k s b bad) :
    Calls Tryd.prog 36 #[.pointer (some ⟨k, 0, none⟩)] w fun e w' => Short1 w k s b bad e w' := by
  obtain ⟨t, c, ok, hr, cr⟩ := rsh_l s b hs
  have HC := hid hc
  clear hc hs
  have HS : Hid (∀ W, Below w.heap.size w W → (W.cell? ⟨k, 0, none⟩ = some (.string s) ∧ W.cell? ⟨k, 1, none⟩ = some (.int .i64 b) ∧ W.cell? ⟨k, 2, none⟩ = some (.bool bad))) := fun W h => (HC.out.later h).cells
  go_enter Tryd.func36, Tryd.ntmps36
  go_wp2_with fail
  go_region_held3 (fun W => (W.cell? ⟨k, 0, none⟩ = some (.string s) ∧ W.cell? ⟨k, 1, none⟩ = some (.int .i64 b) ∧ W.cell? ⟨k, 2, none⟩ = some (.bool bad)))
    ((refine HS.out _ ?_; repeat (first | exact bdr (bre _) | refine btr ?_ (by assumption))))
    ((go_at_call 59; refine (cr.out _).mono ?_; rintro e w1 ⟨rfl, hb1⟩))
  have B1 : Hid (Below w.heap.size w w1) := by show Below _ _ _; repeat (first | exact bdr (bre _) | refine btr ?_ (by assumption))
  have K1 := hid (HC.out.later B1.out)
  have d := K1.out.cells
  have f := K1.out.loose
  clear hb1 HS
  cases bad
  · cases ok
    · go_wp2
      go_ret
      exact ⟨⟨#[]⟩, b, true, rfl, K1.out.s2 true, Or.inr ⟨rfl, rfl, rfl, Or.inr (by rcases hr.out with ⟨h, _⟩ | ⟨_, h⟩; (cases h); exact h)⟩, wst (grown_below B1.out _) 2 _⟩
    · go_wp2
      go_ret
      exact ⟨t, c, false, rfl, K1.out.s1 c, Or.inl ⟨rfl, rfl, (by rcases hr.out with ⟨_, h⟩ | ⟨h, _⟩; (exact h); cases h)⟩, wst (grown_below B1.out _) 1 _⟩
  · go_wp2
    go_ret
    exact ⟨⟨#[]⟩, b, true, rfl, K1.out.s2 true, Or.inr ⟨rfl, rfl, rfl, Or.inl rfl⟩, wst (grown_below B1.out _) 2 _⟩
abbrev R6 := Int × Int × List R3 × ByteArray × Int × Bool
theorem Cg.new (w : World) (s : ByteArray) (b : Int) (bad : Bool) : Cg (w.alloc (.cells #[.string s, .int .i64 b, .bool bad] 61)) w.heap.size s b bad := heap_alloc_new w _
theorem Cg.far {W : World} {k j i : Nat} {s : ByteArray} {b : Int} {bad : Bool} (h : Cg W k s b bad) (x : Value) (hk : k ≠ j) : Cg (W.setCell ⟨j, i, none⟩ x) k s b bad := heap_setCell_far x h hk
theorem Cg.below {W W' : World} {B k : Nat} {s : ByteArray} {b : Int} {bad : Bool} (h : Cg W k s b bad) (hb : Below B W W') (hk : k < B) : Cg W' k s b bad := (hb.block k hk).trans h
theorem vbs_len_le : ∀ (f n : Nat), n < 128 ^ (f + 1) → (vbs n).length ≤ f + 1
  | 0, n, h => by rw [vbs_small n (by simp at h; omega)]; simp
  | f + 1, n, h => by
    by_cases hn : 127 < n
    · rw [vbs_big n hn]
      have := vbs_len_le f (n / 128) (by rw [Nat.pow_succ] at h; omega)
      simp; omega
    · rw [vbs_small n hn]; simp
theorem rv_vbs (m : Nat) : ∀ (f k acc : Nat) (rest : List UInt8), (vbs m).length ≤ f → acc + m * 128 ^ k ≤ 1000000000 → (0 < m ∨ k = 0) →
    rv f (vbs m ++ rest) k acc = some (acc + m * 128 ^ k, k + (vbs m).length) := by
  induction m using Nat.strongRecOn with
  | _ m ih =>
    intro f k acc rest hf hb hz
    by_cases h : 127 < m
    · rw [vbs_big m h] at hf ⊢
      obtain ⟨g, rfl⟩ : ∃ g, f = g + 1 := ⟨f - 1, by simp at hf; omega⟩
      have e0 : (UInt8.ofNat (m % 128 + 128)).toNat = m % 128 + 128 := by have := u8_nat (m % 128 + 128) (by omega); omega
      have hpow : 128 ^ (k + 1) = 128 ^ k * 128 := Nat.pow_succ ..
      have hsum : m * 128 ^ k = m % 128 * 128 ^ k + m / 128 * 128 ^ (k + 1) := by
        rw [hpow]
        have e1 : m = m % 128 + m / 128 * 128 := by omega
        have e2 : m * 128 ^ k = (m % 128 + m / 128 * 128) * 128 ^ k := by rw [← e1]
        rw [e2, Nat.add_mul, Nat.mul_assoc, Nat.mul_comm 128 (128 ^ k)]
      rw [List.cons_append, rv_more g k acc _ _ (by rw [e0]; omega), e0, show (m % 128 + 128) % 128 = m % 128 by omega]
      rw [ih (m / 128) (by omega) g (k + 1) _ rest (by simp at hf; omega) (by omega) (.inl (by omega))]
      simp only [List.length_cons, Option.some.injEq, Prod.mk.injEq]
      omega
    · rw [vbs_small m h] at hf ⊢
      obtain ⟨g, rfl⟩ : ∃ g, f = g + 1 := ⟨f - 1, by simp at hf; omega⟩
      have e0 : (UInt8.ofNat m).toNat = m := by have := u8_nat m (by omega); omega
      rw [List.cons_append, rv_good g k acc _ _ (by rw [e0]; omega) (by rw [e0, show m % 128 = m by omega]; omega), e0, show m % 128 = m by omega]
      simp
/-- What is read as a number is the number's own bytes. -/
theorem rv_own : ∀ (f : Nat) (L p : List UInt8) (n d : Nat), (∀ b ∈ p, ¬ b.toNat < 128) → rv f L p.length (val p) = some (n, d) → vbs n = (p ++ L).take d ∧ d ≤ (p ++ L).length
  | 0, _, _, _, _, _, h => by simp [rv] at h
  | _ + 1, [], _, _, _, _, h => by simp [rv] at h
  | f + 1, c :: L, p, n, d, hp, h => by
    by_cases hc : c.toNat < 128
    · by_cases h2 : 1000000000 < val p + c.toNat % 128 * 128 ^ p.length ∨ (c.toNat = 0 ∧ 0 < p.length)
      · rw [rv_bad f _ _ c L hc h2] at h; cases h
      · rw [rv_good f _ _ c L hc h2] at h
        simp only [Option.some.injEq, Prod.mk.injEq] at h
        obtain ⟨rfl, rfl⟩ := h
        rw [← val_snoc, vbs_val p c hp hc (by
          by_cases hz : c.toNat = 0
          · left; exact List.eq_nil_of_length_eq_zero (by omega)
          · right; exact hz)]
        constructor
        · rw [show p ++ c :: L = (p ++ [c]) ++ L by simp, List.take_append_of_le_length (by simp), List.take_of_length_le (by simp)]
        · simp
    · rw [rv_more f _ _ c L hc] at h
      have e : rv f L (p ++ [c]).length (val (p ++ [c])) = some (n, d) := by rw [val_snoc, List.length_append]; exact h
      have := rv_own f L (p ++ [c]) n d (by intro b hb; rcases List.mem_append.1 hb with hb | hb; exact hp b hb; simp at hb; rw [hb]; exact hc) e
      simpa using this
/-- A text's bytes. -/
abbrev bl (s : ByteArray) : List UInt8 := s.data.toList
theorem bl_app (s t : ByteArray) : bl (s ++ t) = bl s ++ bl t := by simp [bl, ByteArray.data_append]
theorem bl_vi (n : Int) : bl (vi n) = vbs n.toNat := rfl
theorem bl_len (s : ByteArray) : (bl s).length = s.size := Array.length_toList
theorem bl_inj {s t : ByteArray} (h : bl s = bl t) : s = t := by cases s; cases t; simp only [ByteArray.mk.injEq]; exact Array.toList_inj.1 h
/-- A number stands at b. -/
theorem rd_here {s : ByteArray} {b n : Int} {R : List UInt8} (h0 : 0 ≤ b) (hb : b ≤ s.size) (hn : 0 ≤ n ∧ n ≤ 1000000000) (h : (bl s).drop b.toNat = vbs n.toNat ++ R) : rd s b = some (n, b + (vbs n.toNat).length) := by
  obtain ⟨k, rfl⟩ : ∃ k : Nat, b = k := ⟨b.toNat, by omega⟩
  rw [rd_in (by omega)]
  have h' : s.data.toList.drop k = vbs n.toNat ++ R := by simpa using h
  rw [h', rv_vbs n.toNat 5 0 0 R (vbs_len_le 4 _ (by omega)) (by omega) (.inr rfl)]
  simp only [Option.map_some, Option.some.injEq, Prod.mk.injEq]
  omega
/-- What was read as a number stood there. -/
theorem rd_stood {s : ByteArray} {b n c : Int} (h : rd s b = some (n, c)) : (bl s).drop b.toNat = vbs n.toNat ++ (bl s).drop c.toNat := by
  have hb := rd_some h
  obtain ⟨k, rfl⟩ : ∃ k : Nat, b = k := ⟨b.toNat, by omega⟩
  rw [rd_in (by omega)] at h
  cases hr : rv 5 (s.data.toList.drop k) 0 0 with
  | none => rw [hr] at h; cases h
  | some p =>
    obtain ⟨m, d⟩ := p
    rw [hr] at h
    simp only [Option.map_some, Option.some.injEq, Prod.mk.injEq] at h
    obtain ⟨rfl, rfl⟩ := h
    have o := rv_own 5 _ [] m d (by simp) hr
    have e : ((k : Int) + (d : Int)).toNat = k + d := by omega
    rw [e, Int.toNat_natCast, Int.toNat_natCast, ← List.drop_drop, o.1, List.nil_append]
    exact (List.take_append_drop d _).symm
/-- A short text stands at b. -/
theorem rsh_here {s t : ByteArray} {b : Int} {R : List UInt8} (h0 : 0 ≤ b) (hb : b ≤ s.size) (ht : t.size ≤ 20000) (h : (bl s).drop b.toNat = (vbs t.size ++ bl t) ++ R) : rsh s b = some (t, b + (vbs t.size).length + t.size) := by
  have hr := rd_here (s := s) (b := b) (n := t.size) h0 hb (by omega) (R := bl t ++ R) (by rw [h, Int.toNat_natCast, List.append_assoc])
  rw [Int.toNat_natCast] at hr
  have hs := rd_some hr
  have hst := rd_stood hr
  rw [h, Int.toNat_natCast, List.append_assoc] at hst
  have hd := (List.append_cancel_left hst).symm
  have hl := congrArg List.length hd
  rw [List.length_drop, List.length_append, bl_len, bl_len] at hl
  unfold rsh
  rw [hr]
  simp only [Option.bind_some]
  rw [if_pos (by omega)]
  have e : s.extract (b + ((vbs t.size).length : Int)).toNat (b + ((vbs t.size).length : Int) + (t.size : Int)).toNat = t := by
    apply bl_inj
    have e1 : (b + ((vbs t.size).length : Int) + (t.size : Int)).toNat = (b + ((vbs t.size).length : Int)).toNat + t.size := by omega
    rw [e1]
    simp only [bl, ByteArray.data_extract, Array.toList_extract, List.extract_eq_take_drop]
    have e2 : (b + ((vbs t.size).length : Int)).toNat + t.size - (b + ((vbs t.size).length : Int)).toNat = t.size := by omega
    rw [e2]
    have hd' : s.data.toList.drop (b + ((vbs t.size).length : Int)).toNat = bl t ++ R := hd
    rw [hd', List.take_append_of_le_length (by rw [bl_len]; exact Nat.le_refl _), List.take_of_length_le (by rw [bl_len]; exact Nat.le_refl _)]
  rw [e]
theorem rsh_stood {s t : ByteArray} {b c : Int} (h : rsh s b = some (t, c)) : (bl s).drop b.toNat = (vbs t.size ++ bl t) ++ (bl s).drop c.toNat ∧ 0 ≤ c ∧ c ≤ s.size := by
  unfold rsh at h
  cases hr : rd s b with
  | none => rw [hr] at h; cases h
  | some p =>
    obtain ⟨n, d⟩ := p
    rw [hr] at h
    simp only [Option.bind_some] at h
    split at h
    · next hc =>
      simp only [Option.some.injEq, Prod.mk.injEq] at h
      obtain ⟨rfl, rfl⟩ := h
      have hs := rd_some hr
      have e1 : (d + n).toNat = d.toNat + n.toNat := by omega
      have ht : (s.extract d.toNat (d + n).toNat).size = n.toNat := by rw [ByteArray.size_extract]; omega
      have hb : bl (s.extract d.toNat (d + n).toNat) = ((bl s).drop d.toNat).take n.toNat := by
        simp only [bl, ByteArray.data_extract, Array.toList_extract, List.extract_eq_take_drop]
        rw [e1, show d.toNat + n.toNat - d.toNat = n.toNat by omega]
      refine ⟨?_, by omega, by omega⟩
      rw [rd_stood hr, ht, hb, List.append_assoc, e1, ← List.drop_drop, List.take_append_drop]
    · cases h
end Go.Proofs.YtnbobidpmiieiaaDoor
namespace Go.Proofs.YtnbobidpmiieiaaDoor
def st (x : Nat) : Nat := if x % 2 = 1 then x / 2 ^^^ 3558460437 else x / 2
def st8 (x : Nat) : Nat := st (st (st (st (st (st (st (st x)))))))
def st4 (x : Nat) : Nat := st (st (st (st x)))
def smore (x : Nat) (l : List UInt8) : Nat := l.foldl (fun x b => st8 (x ^^^ b.toNat)) x
def tabW : List Nat := [0, 1166650509, 2333301018, 3466261911, 3189058079, 4221339282, 889615109, 1888477064, 3558460437, 2442158232, 1594529039, 444807554, 1779230218, 797264519, 3776954128, 2761298845]
def four (x : Nat) : Nat := x / 16 ^^^ tabW.getD (x % 16) 0
theorem st_lin (x y : Nat) : st (x ^^^ y) = st x ^^^ st y := by
  have hm := @Nat.xor_mod_two_eq_one x y
  have hd := @Nat.xor_div_two x y
  unfold st
  rw [hd]
  by_cases hx : x % 2 = 1 <;> by_cases hy : y % 2 = 1
  · rw [if_neg (by rw [hm]; simp [hx, hy]), if_pos hx, if_pos hy]
    rw [Nat.xor_assoc, Nat.xor_comm 3558460437 (y / 2 ^^^ 3558460437), Nat.xor_assoc, Nat.xor_self]; simp
  · rw [if_pos (by rw [hm]; simp [hx, hy]), if_pos hx, if_neg hy]
    rw [Nat.xor_assoc, Nat.xor_assoc, Nat.xor_comm (y / 2)]
  · rw [if_pos (by rw [hm]; simp [hx, hy]), if_neg hx, if_pos hy, Nat.xor_assoc]
  · rw [if_neg (by rw [hm]; simp [hx, hy]), if_neg hx, if_neg hy]
theorem st4_lin (x y : Nat) : st4 (x ^^^ y) = st4 x ^^^ st4 y := by
  unfold st4; rw [st_lin, st_lin, st_lin, st_lin]
theorem split16 (x : Nat) : x = (16 * (x / 16)) ^^^ (x % 16) := by
  apply Nat.eq_of_testBit_eq; intro i
  rw [Nat.testBit_xor, show (16 : Nat) = 2 ^ 4 from rfl, Nat.testBit_two_pow_mul, Nat.testBit_mod_two_pow, Nat.testBit_div_two_pow]
  by_cases h : i < 4
  · have h' : ¬ i ≥ 4 := by omega
    simp [h, h']
  · have h' : i ≥ 4 := by omega
    simp [h, h']
theorem st_even (q : Nat) : st (2 * q) = q := by unfold st; rw [if_neg (by omega)]; omega
theorem st4_16 (q : Nat) : st4 (16 * q) = q := by
  unfold st4
  rw [show 16 * q = 2 * (2 * (2 * (2 * q))) by omega, st_even, st_even, st_even, st_even]
theorem st4_tab : ∀ r : Fin 16, st4 r.val = tabW.getD r.val 0 := by decide
theorem st4_four (x : Nat) : st4 x = four x := by
  conv => lhs; rw [split16 x]
  rw [st4_lin, st4_16]
  unfold four
  rw [st4_tab ⟨x % 16, Nat.mod_lt _ (by omega)⟩]
theorem st8_four (x : Nat) : st8 x = four (four x) := by
  rw [← st4_four, ← st4_four]; rfl
theorem st_lt {x : Nat} (h : x < 4294967296) : st x < 4294967296 := by
  unfold st
  split
  · exact Nat.xor_lt_two_pow (n := 32) (by omega) (by omega)
  · omega
theorem st8_lt {x : Nat} (h : x < 4294967296) : st8 x < 4294967296 := by
  unfold st8; exact st_lt (st_lt (st_lt (st_lt (st_lt (st_lt (st_lt (st_lt h)))))))
theorem xor_byte_lt {x : Nat} (h : x < 4294967296) (b : UInt8) : x ^^^ b.toNat < 4294967296 := by
  have := b.toNat_lt
  exact Nat.xor_lt_two_pow (n := 32) (by omega) (by omega)
theorem smore_lt (l : List UInt8) : ∀ {x : Nat}, x < 4294967296 → smore x l < 4294967296 := by
  induction l with
  | nil => intro x h; exact h
  | cons b l ih => intro x h; exact ih (st8_lt (xor_byte_lt h b))
theorem smore_append (x : Nat) (l m : List UInt8) : smore x (l ++ m) = smore (smore x l) m := by
  unfold smore; rw [List.foldl_append]
def f4 (x : Nat) : List UInt8 := [UInt8.ofNat (x / 16777216), UInt8.ofNat (x / 65536), UInt8.ofNat (x / 256), UInt8.ofNat x]
theorem u8_of (n : Nat) : (UInt8.ofNat n).toNat = n % 256 := by simp
end Go.Proofs.YtnbobidpmiieiaaDoor
