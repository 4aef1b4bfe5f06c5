/- Ma, Mb, Mc, Md, Me, Mf, Za, Zb. -/
import Derived.Test.YtkbiebacbebdnaaDoorProg
import Derived.WalkKit
import Derived.Laws.IdiomStrings
import Derived.WalkSpells
import Derived.WalkLawsBesides
import Derived.Lib.Strings
import Derived.Lib.BufferWrite
import Derived.Lib.UnsafeStr
import Derived.Laws.MakeOwn
import Derived.Below
import Derived.BigQuiet
import Derived.Deep.QuietTactic
import Derived.Deep.RegionHeld3
import Derived.Deep.Cut
import Derived.Laws.Bits128
import Derived.Laws.ShiftsVarLaws
import Derived.Lib.BufferMore
import Derived.Lib.ConvBytes
import Derived.Laws.RangeAny
import Derived.Laws.Runes
import Derived.Lib.OthersKept
import Derived.Lib.Bytealg
import Derived.Shelf.Abstract
import Derived.RangeFuncNested
import Derived.Shelf.RegionOpen
import Derived.OwnWalkIn
import Derived.TacticsInMore
import Derived.LoopNIn
import Derived.LoopIn
namespace Go.Proofs.YtkbiebacbebdnaaDoor
open Go.RowKit
theorem hide {p : Prop} (h : p) : Hid p := h
theorem unhide {p : Prop} (h : Hid p) : p := h
theorem ret_int {k : IntKind} {a b : Int} (h : a = b) : Ending.returned (.int k a) = .returned (.int k b) := by rw [h]
/-- A byte as a value. -/
def bv (b : UInt8) : Value := .int .u8 (b.toNat : Int)
/-- What a row of bytes that the call owns reads as. -/
theorem run_string_own {P : Program} (w : World) (src dst e : TypeId) (hs : P.underlying src = some (.slice e)) (he : P.underlying e = some (.int .u8)) (hd : P.underlying dst = some .string)
    {base n : Nat} {v : Value} (bs : List UInt8) (h : w.ownsRow base e 1 v n (bs.map bv)) :
    (convert src dst v).run P w = .ok (.string ⟨bs.toArray⟩) w := by
  have hl : bs.length = n := by simpa using h.1
  rcases h.2 with ⟨rfl, hn⟩ | ⟨g, cap, cur, rfl, _, hg, _, _, _, _⟩
  · have : bs = [] := List.eq_nil_of_length_eq_zero (by omega)
    subst this
    rw [run_convert_bytes_string w src dst e none 0 0 hs he hd]; rfl
  · subst hl
    refine run_convert_bytes_back w src dst e ⟨g, 0, none⟩ cap bs hs he hd (fun j hj => ?_)
    have := h.cells (g := g) rfl j (bv bs[j]) (by simp [hj])
    simpa [bv] using this
theorem u8_nat (k : Nat) (h : k < 256) : ((UInt8.ofNat k).toNat : Int) = (k : Int) := by
  simp [UInt8.toNat_ofNat']; omega
end Go.Proofs.YtkbiebacbebdnaaDoor
namespace Go.Proofs.YtkbiebacbebdnaaDoor
open Go.RowKit
theorem ret_str {a b : ByteArray} (h : a = b) : Ending.returned (.string a) = .returned (.string b) := by rw [h]
end Go.Proofs.YtkbiebacbebdnaaDoor
namespace Go.Proofs.YtkbiebacbebdnaaDoor
open Go.RowKit
end Go.Proofs.YtkbiebacbebdnaaDoor
namespace Go.Proofs.YtkbiebacbebdnaaDoor
open Go.RowKit
/-- Which of two stamps is later. -/
def later (t b t' b' : Int) : Bool := if t = t' then decide (b' < b) else decide (t' < t)
theorem bpush {a w : World} (h : Below a.heap.size a w) (o : Obj) : Below a.heap.size a (w.alloc o) := h.alloc h.size o
theorem btr {a b c : World} (h : Below a.heap.size a b) (k : Below b.heap.size b c) : Below a.heap.size a c := h.trans (k.mono h.size)
theorem bre (a : World) : Below a.heap.size a a := Below.refl _ _
theorem bdr {a w : World} (h : Below a.heap.size a w) : Below a.heap.size a w.drew := h.drew
theorem bset {a w : World} (h : Below a.heap.size a w) {p : Addr} (hp : a.heap.size ≤ p.block) (u : Value) : Below a.heap.size a (w.setCell p u) := h.setCell hp u
theorem ret_bool {x y : Bool} (h : x = y) : Ending.returned (.bool x) = Ending.returned (.bool y) := by rw [h]
def cb (v t b v' t' b' : Int) : Bool := if t = t' ∧ b = b' then decide (v' < v) else later t b t' b'
end Go.Proofs.YtkbiebacbebdnaaDoor
namespace Go.Proofs.YtkbiebacbebdnaaDoor
open Go.RowKit
end Go.Proofs.YtkbiebacbebdnaaDoor
namespace Go.Proofs.YtkbiebacbebdnaaDoor
open Go.RowKit
end Go.Proofs.YtkbiebacbebdnaaDoor
namespace Go.Proofs.YtkbiebacbebdnaaDoor
open Go.RowKit
end Go.Proofs.YtkbiebacbebdnaaDoor
namespace Go.Proofs.YtkbiebacbebdnaaDoor
open Go.RowKit
/-- Block cb is a cursor over a code of n bytes. -/
def Cur (w : World) (cb : Nat) (ao : Option Addr) (n cap : Nat) : Prop :=
  ∃ (i : Nat) (h : Int), i ≤ n ∧ w.heap[cb]? = some (.cells #[.slice ao n cap, .int .i64 (i : Int), .int .i64 h] 67 (0, 0))
/-- The code's bytes lie below block cb. -/
def Code (w : World) (cb : Nat) (ao : Option Addr) (n : Nat) : Prop :=
  0 < n → ∃ b off, ao = some ⟨b, off, none⟩ ∧ b < cb ∧ ∀ j, j < n → ∃ z : Nat, z < 256 ∧ w.cell? ⟨b, off + j, none⟩ = some (.int .u8 (z : Int))
theorem Code.later {w w' : World} {cb n : Nat} {ao : Option Addr} (h : Code w cb ao n) (hb : w.grownBy w' (some cb)) : Code w' cb ao n := by
  intro hn
  obtain ⟨b, off, h1, h2, h3⟩ := h hn
  refine ⟨b, off, h1, h2, fun j hj => ?_⟩
  obtain ⟨z, hz, hc⟩ := h3 j hj
  exact ⟨z, hz, hb.cell hc (by simp; omega)⟩
theorem Cur.alloc {w : World} {cb n cap : Nat} {ao : Option Addr} (h : Cur w cb ao n cap) (o : Obj) : Cur (w.alloc o) cb ao n cap := by
  obtain ⟨i, x, h1, h2⟩ := h
  exact ⟨i, x, h1, by rw [Below.heap_alloc w o cb (Array.getElem?_eq_some_iff.1 h2).1]; exact h2⟩
theorem Cur.lt {w : World} {cb n cap : Nat} {ao : Option Addr} (h : Cur w cb ao n cap) : cb < w.heap.size := by
  obtain ⟨i, x, h1, h2⟩ := h
  exact (Array.getElem?_eq_some_iff.1 h2).1
theorem only_set {w : World} {cb o : Nat} {u : Value} : w.grownBy (w.setCell ⟨cb, o, none⟩ u) (some cb) :=
  ⟨rfl, rfl, rfl, by simp [World.setCell], fun k _ hk => heap_setCell_other w ⟨cb, o, none⟩ k u (fun e => hk (by simp [e]))⟩
theorem only_trans {a b c : World} {r : Option Nat} (h : a.grownBy b r) (k : b.grownBy c r) : a.grownBy c r :=
  ⟨k.os.trans h.os, k.tape.trans h.tape, k.output.trans h.output, Nat.le_trans h.size k.size, fun i hi hr => (k.block i (Nat.lt_of_lt_of_le hi h.size) hr).trans (h.block i hi hr)⟩
theorem only_below {w w' : World} {cb B : Nat} (h : w.grownBy w' (some cb)) (hB : B ≤ cb) (hs : B ≤ w.heap.size) : Below B w w' :=
  ⟨h.os, h.tape, h.output, h.size, fun k hk => h.block k (by omega) (by simp; omega)⟩
theorem i64_and255 (n : Int) : bits .and .i64 n 255 = n % 256 := by
  have h255 : (BitVec.ofInt 64 255).toNat = 2 ^ 8 - 1 := by decide
  have key : (BitVec.ofInt 64 n &&& BitVec.ofInt 64 255).toNat = (n % ((2 ^ 64 : Nat) : Int)).toNat % 2 ^ 8 := by
    rw [BitVec.toNat_and, BitVec.toNat_ofInt, h255, Nat.and_two_pow_sub_one_eq_mod]
  show IntKind.i64.wrap ((BitVec.ofInt 64 n &&& BitVec.ofInt 64 255).toNat : Nat) = n % 256
  rw [key, IntKind.wrap_i64]
  omega
theorem and255 (n : Int) : ∃ x : Nat, x < 256 ∧ bits .and .i64 n 255 = (x : Int) := ⟨(n % 256).toNat, by omega, by rw [i64_and255]; omega⟩
set_option maxHeartbeats 400000 in
set_option maxRecDepth 100000 in
theorem byte_any (cb : Nat) (ao : Option Addr) (n cap : Nat) (w : World) (hn : n ≤ 1048576) (hcur : Cur w cb ao n cap) (hcode : Code w cb ao n) :
    Calls Tryd.prog 30 #[.pointer (some ⟨cb, 0, none⟩)] w fun e w' => ∃ x : Nat, x < 256 ∧ e = .returned (.int .i64 (x : Int)) ∧ Cur w' cb ao n cap ∧ w.grownBy w' (some cb) := by
  obtain ⟨i, h, hi, hblk⟩ := hcur
  have c0 := cell_of_row w cb 0 _ _ _ hblk
  have c1 := cell_of_row w cb 1 _ _ _ hblk
  have c2 := cell_of_row w cb 2 _ _ _ hblk
  have f1 := frozen_of_row w cb 1 _ _ hblk
  have f2 := frozen_of_row w cb 2 _ _ hblk
  simp at c0 c1 c2
  have HBLK := hide hblk
  have HCODE := hide hcode
  clear hblk hcode
  by_cases hlt : i < n
  · obtain ⟨b, off, hao, hbc, hz⟩ := unhide HCODE (by omega)
    obtain ⟨z, hzb, hcz⟩ := hz i hlt
    subst hao
    have hI : (0 : Int) ≤ (i : Int) ∧ (i : Int) < (n : Int) := by omega
    clear hz
    go_enter Tryd.func30, Tryd.ntmps30
    go_wp2_with fail
    generalize wrap64 (wrap64 (h * 6364136223846793005) + 1442695040888963407) = h1
    obtain ⟨w1, hw1⟩ : ∃ w1, w.setCell ⟨cb, 2, none⟩ (.int .i64 h1) = w1 := ⟨_, rfl⟩
    have hblk1 : w1.heap[cb]? = some (.cells #[.slice (some ⟨b, off, none⟩) n cap, .int .i64 (i : Int), .int .i64 h1] 67 (0, 0)) := by
      rw [← hw1]; exact heap_setCell_same w cb 2 _ _ _ (unhide HBLK)
    have hbel : w.grownBy w1 (some cb) := by rw [← hw1]; exact only_set
    rw [hw1]
    have d0 := cell_of_row w1 cb 0 _ _ _ hblk1
    have d1 := cell_of_row w1 cb 1 _ _ _ hblk1
    have d2 := cell_of_row w1 cb 2 _ _ _ hblk1
    have g1 := frozen_of_row w1 cb 1 _ _ hblk1
    simp at d0 d1 d2
    have dz : w1.cell? ⟨b, off + i, none⟩ = some (.int .u8 (z : Int)) := hbel.cell hcz (by simp; omega)
    have HBLK1 := hide hblk1
    have HBEL := hide hbel
    clear hblk1 hbel hw1 c0 c1 c2 f1 f2 hcz HBLK HCODE
    go_quiet (fail)
    obtain ⟨x0, hx0, hx0e⟩ := and255 (bits BinOp.xor IntKind.i64 (h1 / 8589934592) (h1 / 35184372088832))
    rw [hx0e]
    go_wp2_with fail
    go_quiet (fail)
    go_wp2_with fail
    go_quiet (fail)
    go_wp2_with fail
    obtain ⟨x1, hx1, hx1e⟩ := and255 ((x0 : Int) + (z : Int))
    go_ret
    refine ⟨x1, hx1, ret_int hx1e, ⟨i + 1, h1, hlt, ?_⟩, ?_⟩
    · rw [show (((i + 1 : Nat)) : Int) = (i : Int) + 1 from by omega]
      exact heap_setCell_same _ cb 1 _ _ _ (unhide HBLK1)
    · refine only_trans (b := w1.drewN 0) ⟨(unhide HBEL).os, (unhide HBEL).tape, (unhide HBEL).output, (unhide HBEL).size, (unhide HBEL).block⟩ ?_
      exact ⟨rfl, rfl, rfl, by simp [World.setCell], fun k _ hk => heap_setCell_other w1 ⟨cb, 1, none⟩ k _ (fun e => hk (by simp [e]))⟩
  · go_enter Tryd.func30, Tryd.ntmps30
    go_wp2_with fail
    generalize wrap64 (wrap64 (h * 6364136223846793005) + 1442695040888963407) = h1
    obtain ⟨w1, hw1⟩ : ∃ w1, w.setCell ⟨cb, 2, none⟩ (.int .i64 h1) = w1 := ⟨_, rfl⟩
    have hblk1 : w1.heap[cb]? = some (.cells #[.slice ao n cap, .int .i64 (i : Int), .int .i64 h1] 67 (0, 0)) := by
      rw [← hw1]; exact heap_setCell_same w cb 2 _ _ _ (unhide HBLK)
    have hbel : w.grownBy w1 (some cb) := by rw [← hw1]; exact only_set
    rw [hw1]
    have d0 := cell_of_row w1 cb 0 _ _ _ hblk1
    have d1 := cell_of_row w1 cb 1 _ _ _ hblk1
    have d2 := cell_of_row w1 cb 2 _ _ _ hblk1
    simp at d0 d1 d2
    have HBLK1 := hide hblk1
    have HBEL := hide hbel
    clear hblk1 hbel hw1 c0 c1 c2 f1 f2 HBLK HCODE
    go_quiet (fail)
    obtain ⟨x0, hx0, hx0e⟩ := and255 (bits BinOp.xor IntKind.i64 (h1 / 8589934592) (h1 / 35184372088832))
    rw [hx0e]
    go_wp2_with fail
    go_quiet (fail)
    go_wp2_with fail
    go_ret
    exact ⟨x0, hx0, rfl, ⟨i, h1, hi, unhide HBLK1⟩, ⟨(unhide HBEL).os, (unhide HBEL).tape, (unhide HBEL).output, (unhide HBEL).size, (unhide HBEL).block⟩⟩
set_option maxHeartbeats 400000 in
theorem below_any (cb : Nat) (ao : Option Addr) (n cap m : Nat) (w : World) (hn : n ≤ 1048576) (hcur : Cur w cb ao n cap) (hcode : Code w cb ao n) (hm : 0 < m) (hm2 : m ≤ 4294967296) :
    Calls Tryd.prog 31 #[.pointer (some ⟨cb, 0, none⟩), .int .i64 (m : Int)] w fun e w' => ∃ x : Nat, x < m ∧ e = .returned (.int .i64 (x : Int)) ∧ Cur w' cb ao n cap ∧ w.grownBy w' (some cb) := by
  have HC := hide hcur
  have HO := hide hcode
  clear hcur hcode
  have hm0 : ¬ (m : Int) = 0 := by omega
  by_cases h2 : m ≤ 256
  · go_enter Tryd.func31, Tryd.ntmps31
    go_wp2_with fail
    refine (byte_any cb ao n cap _ hn (unhide HC) (unhide HO)).mono ?_; rintro e w1 ⟨x, hx, rfl, hc1, hb1⟩
    have HC1 := hide hc1
    clear hc1
    go_wp2
    go_ret
    exact ⟨x % m, Nat.mod_lt _ hm, ret_int (by simp), unhide HC1, hb1⟩
  · go_enter Tryd.func31, Tryd.ntmps31
    go_wp2_with fail
    refine (byte_any cb ao n cap _ hn (unhide HC) (unhide HO)).mono ?_; rintro e w1 ⟨x, hx, rfl, hc1, hb1⟩
    have HC1 := hide hc1
    clear hc1
    go_wp2_with fail
    refine (byte_any cb ao n cap _ hn (unhide HC1) ((unhide HO).later hb1)).mono ?_; rintro e w2 ⟨y, hy, rfl, hc2, hb2⟩
    have HC2 := hide hc2
    have hb12 := only_trans hb1 hb2
    clear hc2
    go_wp2_with fail
    refine (byte_any cb ao n cap _ hn (unhide HC2) ((unhide HO).later hb12)).mono ?_; rintro e w3 ⟨z, hz, rfl, hc3, hb3⟩
    have HC3 := hide hc3
    have hb13 := only_trans hb12 hb3
    clear hc3
    go_wp2_with fail
    refine (byte_any cb ao n cap _ hn (unhide HC3) ((unhide HO).later hb13)).mono ?_; rintro e w4 ⟨v, hv, rfl, hc4, hb4⟩
    have HC4 := hide hc4
    have hb14 := only_trans hb13 hb4
    clear hc4
    go_wp2
    go_ret
    exact ⟨(x * 16777216 + y * 65536 + z * 256 + v) % m, Nat.mod_lt _ hm, ret_int (by simp), unhide HC4, hb14⟩
theorem below4 (cb : Nat) (ao : Option Addr) (n cap : Nat) (w : World) (hn : n ≤ 1048576) (hcur : Cur w cb ao n cap) (hcode : Code w cb ao n) (m : Int) (hm : 0 < m) (hm2 : m ≤ 4294967296) :
    Calls Tryd.prog 31 #[.pointer (some ⟨cb, 0, none⟩), .int .i64 m] w fun e w' => ∃ x : Nat, (x : Int) < m ∧ e = .returned (.int .i64 (x : Int)) ∧ Cur w' cb ao n cap ∧ w.grownBy w' (some cb) := by
  obtain ⟨k, rfl⟩ : ∃ k : Nat, m = k := ⟨m.toNat, by omega⟩
  refine (below_any cb ao n cap k w hn hcur hcode (by omega) (by omega)).mono ?_
  rintro e w' ⟨x, h1, h2, h3, h4⟩
  exact ⟨x, by omega, h2, h3, h4⟩
theorem once_any (cb : Nat) (ao : Option Addr) (n cap : Nat) (w : World) (hn : n ≤ 1048576) (hcur : Cur w cb ao n cap) (hcode : Code w cb ao n) (m : Int) (hm : 0 < m) (hm2 : m ≤ 4294967296) :
    Calls Tryd.prog 35 #[.pointer (some ⟨cb, 0, none⟩), .int .i64 m] w fun e w' => ∃ t : Bool, e = .returned (.bool t) ∧ Cur w' cb ao n cap ∧ w.grownBy w' (some cb) := by
  have HC := hide hcur
  have HO := hide hcode
  clear hcur hcode
  go_enter Tryd.func35, Tryd.ntmps35
  go_wp2_with fail
  refine (below4 cb ao n cap _ hn (unhide HC) (unhide HO) m hm hm2).mono ?_; rintro e w1 ⟨x, hx, rfl, hc1, hb1⟩
  have HC1 := hide hc1
  clear hc1
  go_wp2
  go_ret
  exact ⟨_, rfl, unhide HC1, hb1⟩
/-- One of a row of ints that lies in another block. -/
theorem pickInt_any (cb g k : Nat) (zs : List Int) (ao : Option Addr) (n cap : Nat) (w : World) (hn : n ≤ 1048576) (hcur : Cur w cb ao n cap) (hcode : Code w cb ao n) (hk : zs.length = k) (hk0 : 0 < k) (hk2 : k ≤ 1000) (hg : g ≠ cb)
    (hcell : ∀ i (h : i < zs.length), w.cell? ⟨g, i, none⟩ = some (.int .i64 zs[i])) :
    Calls Tryd.prog 38 #[.pointer (some ⟨cb, 0, none⟩), .slice (some ⟨g, 0, none⟩) k k] w fun e w' => ∃ x : Int, x ∈ zs ∧ e = .returned (.int .i64 x) ∧ Cur w' cb ao n cap ∧ w.grownBy w' (some cb) := by
  have HC := hide hcur
  have HO := hide hcode
  have HK := hide hk
  have HCELL := hide hcell
  clear hcur hcode hk hcell
  go_enter Tryd.func38, Tryd.ntmps38
  go_wp2_with fail
  refine (below4 cb ao n cap _ hn (unhide HC) (unhide HO) k (by omega) (by omega)).mono ?_; rintro e w1 ⟨x, hx, rfl, hc1, hb1⟩
  have hxl : x < zs.length := by rw [unhide HK]; omega
  obtain ⟨y, hy⟩ : ∃ y, zs[x] = y := ⟨_, rfl⟩
  have hc : w1.cell? ⟨g, x, none⟩ = some (.int .i64 y) := hb1.cell (by rw [← hy]; exact unhide HCELL x hxl) (by simp; omega)
  have HY := hide hy
  have HC1 := hide hc1
  have hI : (0 : Int) ≤ (x : Int) ∧ (x : Int) < (k : Int) := by omega
  clear hc1 hy
  go_wp2
  go_ret
  exact ⟨y, by rw [← unhide HY]; exact List.getElem_mem _, rfl, unhide HC1, hb1⟩
set_option maxHeartbeats 400000 in
set_option maxRecDepth 100000 in
theorem new_any (ao : Option Addr) (n cap : Nat) (w : World) (hn : n ≤ 1048576) (hcode : Code w w.heap.size ao n) :
    Calls Tryd.prog 25 #[.slice ao n cap] w fun e w' => e = .returned (.pointer (some ⟨w.heap.size, 0, none⟩)) ∧ Cur w' w.heap.size ao n cap ∧ Code w' w.heap.size ao n ∧ Below w.heap.size w w' := by
  have HO := hide hcode
  clear hcode
  go_enter Tryd.func25, Tryd.ntmps25
  go_wp2
  go_loop [3, 4] (fun hv iv => ∃ (h : Int) (i : Nat), i ≤ n ∧ hv = .int .i64 h ∧ iv = .int .i64 (i : Int)) (fun _ iv => n - (intOf iv).toNat)
  case atStart => exact ⟨_, 0, Nat.zero_le _, rfl, rfl⟩
  case round =>
    obtain ⟨h, i, hi, rfl, rfl⟩ := hrel
    by_cases hlt : i < n
    · by_cases h4 : i < 4000
      · obtain ⟨b, off, hao, hbc, hz⟩ := unhide HO (by omega)
        obtain ⟨z, hzb, hcz⟩ := hz i hlt
        subst hao
        have hI : (0 : Int) ≤ (i : Int) ∧ (i : Int) < (n : Int) := by omega
        clear hz
        go_wp2
        go_round
        case rel => exact ⟨_, i + 1, by omega, rfl, by go_num⟩
        case measure => simp [intOf]; omega
      · go_wp2
        go_ret
        refine ⟨rfl, ⟨0, h, Nat.zero_le _, heap_alloc_new w _⟩, (unhide HO).later (World.grownBy_alloc _ _ _), (Below.refl _ _).alloc (Nat.le_refl _) _⟩
    · go_wp2
      go_ret
      refine ⟨rfl, ⟨0, h, Nat.zero_le _, heap_alloc_new w _⟩, (unhide HO).later (World.grownBy_alloc _ _ _), (Below.refl _ _).alloc (Nat.le_refl _) _⟩
end Go.Proofs.YtkbiebacbebdnaaDoor
namespace Go.Proofs.YtkbiebacbebdnaaDoor
open Go.RowKit
theorem only_add {w w1 w2 : World} {cb : Nat} (h : w.grownBy w1 (some cb)) (k : Below w.heap.size w1 w2) : w.grownBy w2 (some cb) :=
  ⟨k.os.trans h.os, k.tape.trans h.tape, k.output.trans h.output, Nat.le_trans h.size k.size, fun i hi hr => (k.block i hi).trans (h.block i hi hr)⟩
theorem Cur.later {w1 w2 : World} {B cb n cap : Nat} {ao : Option Addr} (h : Cur w1 cb ao n cap) (k : Below B w1 w2) (hB : cb < B) : Cur w2 cb ao n cap := by
  obtain ⟨i, x, h1, h2⟩ := h
  exact ⟨i, x, h1, by rw [k.block cb hB]; exact h2⟩
end Go.Proofs.YtkbiebacbebdnaaDoor
namespace Go.Proofs.YtkbiebacbebdnaaDoor
open Go.RowKit
theorem Tryd.info3 : (Tryd.prog.info? 3).map (fun i => (i.zero, i.size, i.bytes)) = some (some (.int .i64 0), 1, 8) := by kernel_rfl
/-- A number as an int's cell. -/
def ic (z : Nat) : Value := .int .i64 (z : Int)
theorem wpList_append_nat {P : Program} (w : World) {ops : Array Oper} {rest : List Oper} {o : Oper} {a : Act} {Q : Exit → Act → World → Prop} (hgd : o.guard = none) (s x : Operand) (t : TypeId)
    (ho : o.op = .call { callee := .builtin .append, args := #[s, x], argTypes := #[t, t] })
    (base : Nat) (e : TypeId) (hinfo : (P.info? e).map (fun i => (i.zero, i.size, i.bytes)) = some (some (.int .i64 0), 1, 8)) (ht : P.underlying t = some (.slice e))
    (v : Value) (bs : List Nat) (hs : a.eval s = v) (hown : w.ownsRow base e 1 v bs.length (bs.map ic)) (n : Int) (b : Nat) (hb : n = (b : Int))
    (hx : a.eval x = .slice (some ⟨w.heap.size, 0, none⟩) 1 1) (hlen : bs.length ≤ 1000000) (hbase : base ≤ w.heap.size)
    (h : ∀ v' w', w'.ownsRow base e 1 v' (bs ++ [b]).length ((bs ++ [b]).map ic) → Below base w w' → wpList P ops Q rest (a.put o.dst v') w') :
    wpList P ops Q (o :: rest) a (w.alloc (.cells #[.int .i64 n] e)) := by
  obtain ⟨i0, hi, hz0, hz1, hz2⟩ := info_parts hinfo
  subst hb
  refine wpList_append_own _ hgd s x t ho base e i0 (.int .i64 0) 1 8 ht hi hz0 hz1 hz2 rfl (by decide) v _ _ hs (hown.alloc _) ⟨w.heap.size, 0, none⟩ 1 1 [ic b] hx rfl (cell_one_new _ _ _) (by intro u hu; simp at hu; subst hu; rfl) (by unfold maxLen; omega) (by omega) (by simp; omega) ?_
  intro v' w' hown' hg _
  refine h v' w' (by simpa using hown') (((Below.refl base w).alloc hbase _).grown hg (by simp; omega) (fun k hk => (hown.lt k hk).1))
/-- The first two of a row of twelve. -/
theorem row_two {w : World} {base : Nat} {v : Value} {zs : List Nat} (h : w.ownsRow base 3 1 v zs.length (zs.map ic)) (hl : zs.length = 12) (hz : ∀ z ∈ zs, z < 10000) :
    ∃ g cp x y : Nat, v = .slice (some ⟨g, 0, none⟩) 12 cp ∧ g < w.heap.size ∧ w.cell? ⟨g, 0, none⟩ = some (.int .i64 (x : Int)) ∧ w.cell? ⟨g, 1, none⟩ = some (.int .i64 (y : Int)) ∧ x < 10000 ∧ y < 10000 := by
  have h' := h
  rcases h.2 with ⟨_, h0⟩ | ⟨g, cp, cur, rfl, hb, hg, _⟩
  · omega
  · have c0 := h'.cells (g := g) rfl 0 (ic zs[0]) (by rw [List.getElem?_map, List.getElem?_eq_getElem (by omega)]; rfl)
    have c1 := h'.cells (g := g) rfl 1 (ic zs[1]) (by rw [List.getElem?_map, List.getElem?_eq_getElem (by omega)]; rfl)
    exact ⟨g, cp, zs[0], zs[1], by rw [hl], (Array.getElem?_eq_some_iff.1 hg).1, by simpa [Addr.add, ic] using c0, by simpa [Addr.add, ic] using c1, hz _ (List.getElem_mem _), hz _ (List.getElem_mem _)⟩
set_option maxHeartbeats 400000 in
set_option maxRecDepth 100000 in
theorem drawPlaces_any (ao : Option Addr) (n cap : Nat) (w : World) (hn : n ≤ 1048576) (hcode : Code w w.heap.size ao n) :
    Calls Tryd.prog 9 #[.slice ao n cap] w fun e w' => ∃ (g cp x y : Nat), e = .returned (.slice (some ⟨g, 0, none⟩) 12 cp) ∧ g < w'.heap.size ∧ w'.cell? ⟨g, 0, none⟩ = some (.int .i64 (x : Int)) ∧ w'.cell? ⟨g, 1, none⟩ = some (.int .i64 (y : Int)) ∧ x < 10000 ∧ y < 10000 ∧ Below w.heap.size w w' := by
  have HO := hide hcode
  clear hcode
  go_enter Tryd.func9, Tryd.ntmps9
  go_wp2_with fail
  refine (new_any ao n cap _ hn (unhide HO)).mono ?_; rintro e w1 ⟨rfl, hc1, ho1, hb1⟩
  have HC1 := hide hc1
  have HO1 := hide ho1
  have hs1 := hc1.lt
  clear hc1 ho1
  go_wp2_with fail
  refine (byte_any w.heap.size ao n cap _ hn (unhide HC1) (unhide HO1)).mono ?_; rintro e w2 ⟨x0, hx0, rfl, hc2, hb2⟩
  have HC2 := hide hc2
  have HO2 := hide ((unhide HO1).later hb2)
  have hb12 : Below w.heap.size w w2 := hb1.trans (only_below hb2 (Nat.le_refl _) hb1.size)
  have hs2 := hc2.lt
  clear hc2
  go_wp2
  go_loopw [4, 5] (fun v iv wr => ∃ (k : Nat) (zs : List Nat), k ≤ 12 ∧ zs.length = k ∧ (∀ z ∈ zs, z < 10000) ∧ iv = .int .i64 (k : Int) ∧ wr.ownsRow w2.heap.size 3 1 v zs.length (zs.map ic) ∧ Cur wr w.heap.size ao n cap ∧ w2.grownBy wr (some w.heap.size)) (fun _ iv _ => 12 - (intOf iv).toNat)
  case atStart => exact ⟨0, [], Nat.zero_le _, rfl, by simp, rfl, World.ownsRow_made w2 #[] 0 (Nat.le_refl _) (by decide) rfl, (unhide HC2).alloc _, World.grownBy_alloc _ _ _⟩
  case round =>
    obtain ⟨k, zs, hk, hzl, hzs, rfl, hown, hcu, hg⟩ := hrel
    have HZL := hide hzl
    have HZS := hide hzs
    have HCU := hide hcu
    have HOWN := hide hown
    have HG := hide hg
    have hsz := hg.size
    clear hzl hzs hcu hown hg
    by_cases hlt : k < 12
    · go_wp2_with fail
      refine (below4 w.heap.size ao n cap _ hn (unhide HCU) ((unhide HO2).later (unhide HG)) 10000 (by omega) (by omega)).mono ?_; rintro e w3 ⟨x, hx, rfl, hc3, hb3⟩
      have hown3 : w3.ownsRow w2.heap.size 3 1 _ zs.length (zs.map ic) := (unhide HOWN).kept hb3 (by
        cases hv : Value.ownBlock _ with
        | none => left; rfl
        | some b => right; have := ((unhide HOWN).lt b hv).1; simp; omega)
      have HC3 := hide hc3
      have hs3 := hb3.size
      clear hc3
      go_wp2_with (at_builtin; refine wpList_append_nat w3 rfl (.tmp 15) (.tmp 18) 29 rfl w2.heap.size 3 Tryd.info3 Tryd.underlying29 _ zs (by rfl) hown3 _ x rfl rfl (by have := unhide HZL; omega) (by omega) ?_; rotate_right; intro v4 w4 hown4 hb4)
      go_roundw
      case rel => exact ⟨k + 1, zs ++ [x], hlt, by simp [unhide HZL], by intro z hz; simp at hz; rcases hz with hz | rfl; exact unhide HZS z hz; omega, by go_num, hown4, (unhide HC3).later hb4 hs2, only_add (only_trans (unhide HG) hb3) hb4⟩
      case measure => simp [intOf]; omega
    · have h12 : zs.length = 12 := by have := unhide HZL; omega
      obtain ⟨g, cp, x, y, rfl, hg, c0, c1, hx, hy⟩ := row_two (unhide HOWN) h12 (unhide HZS)
      go_wp2
      go_ret
      exact ⟨g, cp, x, y, rfl, hg, c0, c1, hx, hy, hb12.trans (only_below (unhide HG) (Nat.le_refl _) hb12.size)⟩
end Go.Proofs.YtkbiebacbebdnaaDoor
namespace Go.Proofs.YtkbiebacbebdnaaDoor
open Go.RowKit
theorem gal {w w2 : World} {cb : Nat} (h : w.grownBy w2 (some cb)) (o : Obj) : w.grownBy (w2.alloc o) (some cb) := only_trans h (World.grownBy_alloc _ _ _)
theorem Cur.set {w : World} {cb n cap k o : Nat} {ao : Option Addr} {u : Value} (h : Cur w cb ao n cap) (hk : k ≠ cb) : Cur (w.setCell ⟨k, o, none⟩ u) cb ao n cap := by
  obtain ⟨i, x, h1, h2⟩ := h
  exact ⟨i, x, h1, by rw [Below.heap_setCell _ _ _ _ (fun e => hk e.symm)]; exact h2⟩
theorem Cur.drew {w : World} {cb n cap : Nat} {ao : Option Addr} (h : Cur w cb ao n cap) : Cur w.drew cb ao n cap := h
theorem hid {p : Prop} (h : p) : Hid p := h
/-- A register as three numbers: its value, its stamp's time, its stamp's server. -/
abbrev R3 := Int × Int × Int
theorem own_later {w w' : World} {B e size n : Nat} {v : Value} {xs : List Value} (h : w.ownsRow B e size v n xs) (hb : Below w.heap.size w w') : w'.ownsRow B e size v n xs :=
  h.kept (row := none) ⟨hb.os, hb.tape, hb.output, hb.size, fun k hk _ => hb.block k hk⟩ (by cases v.ownBlock <;> simp)
theorem own_base {w : World} {B B' e size n : Nat} {v : Value} {xs : List Value} (h : w.ownsRow B' e size v n xs) (hB : B ≤ B') : w.ownsRow B e size v n xs :=
  ⟨h.1, h.2.imp id (fun ⟨g, cap, cur, a, b, c⟩ => ⟨g, cap, cur, a, Nat.le_trans hB b, c⟩)⟩
end Go.Proofs.YtkbiebacbebdnaaDoor
namespace Go.Proofs.YtkbiebacbebdnaaDoor
open Go.RowKit
theorem info_parts3 {P : Program} {e : Nat} {z : Value} {s b : Nat} (h : (P.info? e).map (fun i => (i.zero, i.size, i.bytes)) = some (some z, s, b)) : ∃ i, P.info? e = some i ∧ i.zero = some z ∧ i.size = s ∧ i.bytes = b := by
  cases hi : P.info? e with
  | none => rw [hi] at h; cases h
  | some i =>
    rw [hi] at h
    simp only [Option.map_some, Option.some.injEq, Prod.mk.injEq] at h
    exact ⟨i, rfl, h.1, h.2.1, h.2.2⟩
end Go.Proofs.YtkbiebacbebdnaaDoor
namespace Go.Proofs.YtkbiebacbebdnaaDoor
open Go.RowKit
theorem wtr {a b c : World} {r : Option Nat} (h : a.grownBy b r) (k : b.grownBy c r) : a.grownBy c r :=
  ⟨k.os.trans h.os, k.tape.trans h.tape, k.output.trans h.output, Nat.le_trans h.size k.size, fun i hi hr => (k.block i (Nat.lt_of_lt_of_le hi h.size) hr).trans (h.block i hi hr)⟩
theorem wre (a : World) (r : Option Nat) : a.grownBy a r := ⟨rfl, rfl, rfl, Nat.le_refl _, fun _ _ _ => rfl⟩
theorem wst {a w : World} {g : Nat} (h : a.grownBy w (some g)) (i : Nat) (u : Value) : a.grownBy (w.setCell ⟨g, i, none⟩ u) (some g) :=
  wtr h ⟨rfl, rfl, rfl, by simp [World.setCell], fun k _ hk => Below.heap_setCell _ _ _ _ (fun e => hk (by simpa using e))⟩
end Go.Proofs.YtkbiebacbebdnaaDoor
namespace Go.Proofs.YtkbiebacbebdnaaDoor
open Go.RowKit
end Go.Proofs.YtkbiebacbebdnaaDoor
namespace Go.Proofs.YtkbiebacbebdnaaDoor
open Go.RowKit
end Go.Proofs.YtkbiebacbebdnaaDoor
namespace Go.Proofs.YtkbiebacbebdnaaDoor
open Go.RowKit
end Go.Proofs.YtkbiebacbebdnaaDoor
namespace Go.Proofs.YtkbiebacbebdnaaDoor
open Go.RowKit
end Go.Proofs.YtkbiebacbebdnaaDoor
namespace Go.Proofs.YtkbiebacbebdnaaDoor
open Go.RowKit
end Go.Proofs.YtkbiebacbebdnaaDoor
namespace Go.Proofs.YtkbiebacbebdnaaDoor
open Go.RowKit
end Go.Proofs.YtkbiebacbebdnaaDoor
namespace Go.Proofs.YtkbiebacbebdnaaDoor
open Go.RowKit
theorem Code.over {w W : World} {n : Nat} {ao : Option Addr} (h : Code w w.heap.size ao n) (hb : Below w.heap.size w W) : Code W W.heap.size ao n := by
  intro hn
  obtain ⟨b, off, h1, h2, h3⟩ := h hn
  refine ⟨b, off, h1, Nat.lt_of_lt_of_le h2 hb.size, fun j hj => ?_⟩
  obtain ⟨z, hz, hc⟩ := h3 j hj
  exact ⟨z, hz, (hb.cell (p := ⟨b, off + j, none⟩) h2).trans hc⟩
end Go.Proofs.YtkbiebacbebdnaaDoor
namespace Go.Proofs.YtkbiebacbebdnaaDoor
open Go.RowKit
/-- A list of three. -/
theorem three {l : List R3} (h : l.length = 3) : ∃ p q r, l = [p, q, r] := by
  match l, h with
  | [p, q, r], _ => exact ⟨p, q, r, rfl⟩
theorem bdn {B : Nat} {w w1 : World} (h : Below B w w1) (k : Nat) : Below B w (w1.drewN k) := ⟨h.os, h.tape, h.output, h.size, h.block⟩
theorem bigF_no (ao : Option Addr) (n cap : Nat) (w : World) (hn : n ≤ 1048576) : Calls Tryd.prog 5 #[.slice ao n cap] w fun e w' => e = .returned (.bool false) ∧ w' = w := by
  go_enter Tryd.func5, Tryd.ntmps5
  go_wp2
  go_ret
  exact ⟨ret_bool (by simp; omega), rfl⟩
theorem bigF_yes (ao : Option Addr) (n cap : Nat) (w : World) (hn : ¬ n ≤ 1048576) : Calls Tryd.prog 5 #[.slice ao n cap] w fun e w' => e = .returned (.bool true) ∧ w' = w := by
  go_enter Tryd.func5, Tryd.ntmps5
  go_wp2
  go_ret
  exact ⟨ret_bool (by simp; omega), rfl⟩
/-- A store into another block. -/
theorem heap_setCell_far {W : World} {k j i : Nat} {o : Obj} (u : Value) (h : W.heap[k]? = some o) (hk : k ≠ j) : (W.setCell ⟨j, i, none⟩ u).heap[k]? = some o := (Below.heap_setCell _ _ _ _ hk).trans h
theorem bsk {a w : World} (h : Below a.heap.size a w) {k : Nat} (hk : a.heap.size ≤ k) (i : Nat) (x : Value) : Below a.heap.size a (w.setCell ⟨k, i, none⟩ x) := bset h hk x
end Go.Proofs.YtkbiebacbebdnaaDoor
namespace Go.Proofs.YtkbiebacbebdnaaDoor
open Go.RowKit
end Go.Proofs.YtkbiebacbebdnaaDoor
namespace Go.Proofs.YtkbiebacbebdnaaDoor
open Go.RowKit
end Go.Proofs.YtkbiebacbebdnaaDoor
namespace Go.Proofs.YtkbiebacbebdnaaDoor
open Go.RowKit
end Go.Proofs.YtkbiebacbebdnaaDoor
namespace Go.Proofs.YtkbiebacbebdnaaDoor
open Go.RowKit
end Go.Proofs.YtkbiebacbebdnaaDoor
namespace Go.Proofs.YtkbiebacbebdnaaDoor
open Go.RowKit
end Go.Proofs.YtkbiebacbebdnaaDoor
namespace Go.Proofs.YtkbiebacbebdnaaDoor
open Go.RowKit
theorem below_grownR {B : Nat} {a w : World} {r : Option Nat} (h : a.grownBy w r) (hB : ∀ j, r = some j → B ≤ j) (hs : B ≤ a.heap.size) : Below B a w :=
  ⟨h.os, h.tape, h.output, h.size, fun k hk => h.block k (by omega) (fun e => by have := hB k e.symm; omega)⟩
end Go.Proofs.YtkbiebacbebdnaaDoor
namespace Go.Proofs.YtkbiebacbebdnaaDoor
open Go.RowKit
/-- One of a row of texts that lies in another block. -/
theorem pick_any (cb g k z : Nat) (zs : List ByteArray) (ao : Option Addr) (n cap : Nat) (w : World) (hn : n ≤ 1048576) (hcur : Cur w cb ao n cap) (hcode : Code w cb ao n) (hk : zs.length = k) (hk0 : 0 < k) (hk2 : k ≤ 1000) (hg : g ≠ cb) (hz : ∀ y ∈ zs, y.size ≤ z)
    (hcell : ∀ i (h : i < zs.length), w.cell? ⟨g, i, none⟩ = some (.string zs[i])) :
    Calls Tryd.prog 36 #[.pointer (some ⟨cb, 0, none⟩), .slice (some ⟨g, 0, none⟩) k k] w fun e w' => ∃ x : ByteArray, x.size ≤ z ∧ e = .returned (.string x) ∧ Cur w' cb ao n cap ∧ w.grownBy w' (some cb) := by
  have HC := hide hcur
  have HO := hide hcode
  have HK := hide hk
  have HZ := hide hz
  have HCELL := hide hcell
  clear hcur hcode hk hcell hz
  go_enter Tryd.func36, Tryd.ntmps36
  go_wp2_with fail
  refine (below4 cb ao n cap _ hn (unhide HC) (unhide HO) k (by omega) (by omega)).mono ?_; rintro e w1 ⟨x, hx, rfl, hc1, hb1⟩
  have hxl : x < zs.length := by rw [unhide HK]; omega
  obtain ⟨y, hy⟩ : ∃ y, zs[x] = y := ⟨_, rfl⟩
  have hc : w1.cell? ⟨g, x, none⟩ = some (.string y) := hb1.cell (by rw [← hy]; exact unhide HCELL x hxl) (by simp; omega)
  have HY : Hid (y.size ≤ z) := by show _ ≤ _; rw [← hy]; exact unhide HZ _ (List.getElem_mem _)
  have HC1 := hide hc1
  have hI : (0 : Int) ≤ (x : Int) ∧ (x : Int) < (k : Int) := by omega
  clear hc1 hy
  go_wp2
  go_ret
  exact ⟨y, HY.out, rfl, unhide HC1, hb1⟩
end Go.Proofs.YtkbiebacbebdnaaDoor
namespace Go.Proofs.YtkbiebacbebdnaaDoor
open Go.RowKit
end Go.Proofs.YtkbiebacbebdnaaDoor
namespace Go.Proofs.YtkbiebacbebdnaaDoor
open Go.RowKit
/-- A range: from, to. -/
abbrev G2 := Int × Int
def gcs : List G2 → List Value
  | [] => []
  | p :: l => .int .i64 p.1 :: .int .i64 p.2 :: gcs l
/-- A list of ranges, as it reads. -/
def Rr (W : World) (a : Option Addr) (l : List G2) : Prop :=
  0 < l.length → ∃ k o, a = some ⟨k, o, none⟩ ∧ k < W.heap.size ∧ ∀ i (h : i < l.length), W.cell? ⟨k, o + i * 2, none⟩ = some (.int .i64 l[i].1) ∧ W.cell? ⟨k, o + i * 2 + 1, none⟩ = some (.int .i64 l[i].2)
theorem Rr.later {W W' : World} {a : Option Addr} {l : List G2} (h : Rr W a l) (hb : Below W.heap.size W W') : Rr W' a l := by
  intro hn
  obtain ⟨k, o, h1, h2, h3⟩ := h hn
  exact ⟨k, o, h1, Nat.lt_of_lt_of_le h2 hb.size, fun i hi => ⟨(hb.cell (p := ⟨k, o + i * 2, none⟩) h2).trans (h3 i hi).1, (hb.cell (p := ⟨k, o + i * 2 + 1, none⟩) h2).trans (h3 i hi).2⟩⟩
/-- A number that stands for the last one when it is 0. -/
def lst14 (last x : Int) : Int := if x = 0 then last else x
def inr (n last : Int) (p : G2) : Bool := decide (min (lst14 last p.1) (lst14 last p.2) ≤ n) && decide (n ≤ max (lst14 last p.1) (lst14 last p.2))
def ins (l : List G2) (n last : Int) : Bool := decide (1 ≤ n) && l.any (inr n last)
theorem any_take {α : Type} (f : α → Bool) (l : List α) (i : Nat) (h : i < l.length) (ha : (l.take i).any f = false) (hf : f l[i] = false) : (l.take (i + 1)).any f = false := by
  rw [List.take_succ_eq_append_getElem h, List.any_append, ha, Bool.false_or]
  simp [hf]
theorem any_hit {α : Type} (f : α → Bool) (l : List α) (i : Nat) (h : i < l.length) (hf : f l[i] = true) : l.any f = true := List.any_eq_true.2 ⟨l[i], List.getElem_mem h, hf⟩
/-- How a number stands to two bounds, whichever is the greater. -/
theorem inr_ways (p q n : Int) : (q < p ∧ q ≤ n ∧ n ≤ p ∧ (decide (min p q ≤ n) && decide (n ≤ max p q)) = true) ∨ (¬ q < p ∧ p ≤ n ∧ n ≤ q ∧ (decide (min p q ≤ n) && decide (n ≤ max p q)) = true) ∨
    (q < p ∧ ¬ q ≤ n ∧ True ∧ (decide (min p q ≤ n) && decide (n ≤ max p q)) = false) ∨ (q < p ∧ q ≤ n ∧ ¬ n ≤ p ∧ (decide (min p q ≤ n) && decide (n ≤ max p q)) = false) ∨
    (¬ q < p ∧ ¬ p ≤ n ∧ True ∧ (decide (min p q ≤ n) && decide (n ≤ max p q)) = false) ∨ (¬ q < p ∧ p ≤ n ∧ ¬ n ≤ q ∧ (decide (min p q ≤ n) && decide (n ≤ max p q)) = false) := by
  by_cases h1 : q < p
  · have e1 : min p q = q := by omega
    have e2 : max p q = p := by omega
    rw [e1, e2]
    by_cases h2 : q ≤ n
    · by_cases h3 : n ≤ p
      · exact Or.inl ⟨h1, h2, h3, by simp [h2, h3]⟩
      · exact Or.inr (Or.inr (Or.inr (Or.inl ⟨h1, h2, h3, by simp [h3]⟩)))
    · exact Or.inr (Or.inr (Or.inl ⟨h1, h2, trivial, by simp [h2]⟩))
  · have e1 : min p q = p := by omega
    have e2 : max p q = q := by omega
    rw [e1, e2]
    by_cases h2 : p ≤ n
    · by_cases h3 : n ≤ q
      · exact Or.inr (Or.inl ⟨h1, h2, h3, by simp [h2, h3]⟩)
      · exact Or.inr (Or.inr (Or.inr (Or.inr (Or.inr ⟨h1, h2, h3, by simp [h3]⟩))))
    · exact Or.inr (Or.inr (Or.inr (Or.inr (Or.inl ⟨h1, h2, trivial, by simp [h2]⟩))))
set_option maxHeartbeats 3200000 in
set_option maxRecDepth 100000 in
theorem specInSet_any (a : Option Addr) (m cap : Nat) (l : List G2) (n last : Int) (w : World) (hl : l.length = m) (hm : m ≤ 1048576) (hr : Rr w a l) :
    Calls Tryd.prog 17 #[.slice a m cap, .int .i64 n, .int .i64 last] w fun e w' => e = .returned (.bool (ins l n last)) ∧ w' = w := by
  by_cases h1 : n < 1
  · have HX : Hid (ins l n last = false) := by show _ = _; rw [ins, decide_eq_false (by omega), Bool.false_and]
    go_enter Tryd.func17, Tryd.ntmps17
    go_wp2
    go_ret
    exact ⟨by rw [HX.out]; rfl, rfl⟩
  · have HR := hid hr
    have HL := hid hl
    have HI : Hid (ins l n last = l.any (inr n last)) := by show _ = _; rw [ins, decide_eq_true (by omega), Bool.true_and]
    clear hr hl
    go_enter Tryd.func17, Tryd.ntmps17
    go_wp2
    go_loopw [7] (fun iv wr => ∃ i : Nat, i ≤ m ∧ iv = .int .i64 (i : Int) ∧ Hid ((l.take i).any (inr n last) = false) ∧ wr = w) (fun iv _ => m - (intOf iv).toNat)
    case atStart => exact ⟨0, Nat.zero_le _, rfl, rfl, rfl⟩
    case round =>
      obtain ⟨i, hi, rfl, HA, hw⟩ := hrel
      subst hw
      by_cases hlt : i < m
      · have hil : i < l.length := by rw [HL.out]; exact hlt
        obtain ⟨k, o, rfl, hk, hcs⟩ := HR.out (by omega)
        obtain ⟨c1, c2⟩ := hcs i hil
        obtain ⟨⟨x, y⟩, hxy⟩ : ∃ p, l[i] = p := ⟨_, rfl⟩
        rw [hxy] at c1 c2
        dsimp only at c1 c2
        have HIN : Hid (inr n last l[i] = (decide (min (lst14 last x) (lst14 last y) ≤ n) && decide (n ≤ max (lst14 last x) (lst14 last y)))) := by show _ = _; rw [hxy]; rfl
        clear hcs hxy
        have hx : (x == 0) = true ∧ lst14 last x = last ∨ (x == 0) = false ∧ lst14 last x = x := by
          by_cases h : x = 0
          · exact Or.inl ⟨by rw [h]; rfl, if_pos h⟩
          · exact Or.inr ⟨by rw [beq_eq_false_iff_ne]; exact h, if_neg h⟩
        have hy : (y == 0) = true ∧ lst14 last y = last ∨ (y == 0) = false ∧ lst14 last y = y := by
          by_cases h : y = 0
          · exact Or.inl ⟨by rw [h]; rfl, if_pos h⟩
          · exact Or.inr ⟨by rw [beq_eq_false_iff_ne]; exact h, if_neg h⟩
        rcases hx with ⟨hx1, hx2⟩ | ⟨hx1, hx2⟩
        · rcases hy with ⟨hy1, hy2⟩ | ⟨hy1, hy2⟩
          · rw [hx2, hy2] at HIN
            clear hx2 hy2
            rcases inr_ways last last n with ⟨g1, g2, g3, g4⟩ | ⟨g1, g2, g3, g4⟩ | ⟨g1, g2, g3, g4⟩ | ⟨g1, g2, g3, g4⟩ | ⟨g1, g2, g3, g4⟩ | ⟨g1, g2, g3, g4⟩
            · exact absurd g1 (Int.lt_irrefl _)
            · have HX : Hid (ins l n last = true) := by show _ = _; rw [HI.out]; exact any_hit _ l i hil (HIN.out.trans g4)
              clear g4
              go_wp2
              go_ret
              exact ⟨by rw [HX.out]; rfl, rfl⟩
            · exact absurd g1 (Int.lt_irrefl _)
            · exact absurd g1 (Int.lt_irrefl _)
            · have HX := hid (any_take _ l i hil HA.out (HIN.out.trans g4))
              clear g4 g3
              go_wp2
              go_roundw
              case rel => exact ⟨i + 1, by omega, by go_num, HX.out, trivial⟩
              case measure => simp [intOf]; omega
            · have HX := hid (any_take _ l i hil HA.out (HIN.out.trans g4))
              clear g4 
              go_wp2
              go_roundw
              case rel => exact ⟨i + 1, by omega, by go_num, HX.out, trivial⟩
              case measure => simp [intOf]; omega
          · rw [hx2, hy2] at HIN
            clear hx2 hy2
            rcases inr_ways last y n with ⟨g1, g2, g3, g4⟩ | ⟨g1, g2, g3, g4⟩ | ⟨g1, g2, g3, g4⟩ | ⟨g1, g2, g3, g4⟩ | ⟨g1, g2, g3, g4⟩ | ⟨g1, g2, g3, g4⟩
            · have HX : Hid (ins l n last = true) := by show _ = _; rw [HI.out]; exact any_hit _ l i hil (HIN.out.trans g4)
              clear g4
              go_wp2
              go_ret
              exact ⟨by rw [HX.out]; rfl, rfl⟩
            · have HX : Hid (ins l n last = true) := by show _ = _; rw [HI.out]; exact any_hit _ l i hil (HIN.out.trans g4)
              clear g4
              go_wp2
              go_ret
              exact ⟨by rw [HX.out]; rfl, rfl⟩
            · have HX := hid (any_take _ l i hil HA.out (HIN.out.trans g4))
              clear g4 g3
              go_wp2
              go_roundw
              case rel => exact ⟨i + 1, by omega, by go_num, HX.out, trivial⟩
              case measure => simp [intOf]; omega
            · have HX := hid (any_take _ l i hil HA.out (HIN.out.trans g4))
              clear g4 
              go_wp2
              go_roundw
              case rel => exact ⟨i + 1, by omega, by go_num, HX.out, trivial⟩
              case measure => simp [intOf]; omega
            · have HX := hid (any_take _ l i hil HA.out (HIN.out.trans g4))
              clear g4 g3
              go_wp2
              go_roundw
              case rel => exact ⟨i + 1, by omega, by go_num, HX.out, trivial⟩
              case measure => simp [intOf]; omega
            · have HX := hid (any_take _ l i hil HA.out (HIN.out.trans g4))
              clear g4 
              go_wp2
              go_roundw
              case rel => exact ⟨i + 1, by omega, by go_num, HX.out, trivial⟩
              case measure => simp [intOf]; omega
        · rcases hy with ⟨hy1, hy2⟩ | ⟨hy1, hy2⟩
          · rw [hx2, hy2] at HIN
            clear hx2 hy2
            rcases inr_ways x last n with ⟨g1, g2, g3, g4⟩ | ⟨g1, g2, g3, g4⟩ | ⟨g1, g2, g3, g4⟩ | ⟨g1, g2, g3, g4⟩ | ⟨g1, g2, g3, g4⟩ | ⟨g1, g2, g3, g4⟩
            · have HX : Hid (ins l n last = true) := by show _ = _; rw [HI.out]; exact any_hit _ l i hil (HIN.out.trans g4)
              clear g4
              go_wp2
              go_ret
              exact ⟨by rw [HX.out]; rfl, rfl⟩
            · have HX : Hid (ins l n last = true) := by show _ = _; rw [HI.out]; exact any_hit _ l i hil (HIN.out.trans g4)
              clear g4
              go_wp2
              go_ret
              exact ⟨by rw [HX.out]; rfl, rfl⟩
            · have HX := hid (any_take _ l i hil HA.out (HIN.out.trans g4))
              clear g4 g3
              go_wp2
              go_roundw
              case rel => exact ⟨i + 1, by omega, by go_num, HX.out, trivial⟩
              case measure => simp [intOf]; omega
            · have HX := hid (any_take _ l i hil HA.out (HIN.out.trans g4))
              clear g4 
              go_wp2
              go_roundw
              case rel => exact ⟨i + 1, by omega, by go_num, HX.out, trivial⟩
              case measure => simp [intOf]; omega
            · have HX := hid (any_take _ l i hil HA.out (HIN.out.trans g4))
              clear g4 g3
              go_wp2
              go_roundw
              case rel => exact ⟨i + 1, by omega, by go_num, HX.out, trivial⟩
              case measure => simp [intOf]; omega
            · have HX := hid (any_take _ l i hil HA.out (HIN.out.trans g4))
              clear g4 
              go_wp2
              go_roundw
              case rel => exact ⟨i + 1, by omega, by go_num, HX.out, trivial⟩
              case measure => simp [intOf]; omega
          · rw [hx2, hy2] at HIN
            clear hx2 hy2
            rcases inr_ways x y n with ⟨g1, g2, g3, g4⟩ | ⟨g1, g2, g3, g4⟩ | ⟨g1, g2, g3, g4⟩ | ⟨g1, g2, g3, g4⟩ | ⟨g1, g2, g3, g4⟩ | ⟨g1, g2, g3, g4⟩
            · have HX : Hid (ins l n last = true) := by show _ = _; rw [HI.out]; exact any_hit _ l i hil (HIN.out.trans g4)
              clear g4
              go_wp2
              go_ret
              exact ⟨by rw [HX.out]; rfl, rfl⟩
            · have HX : Hid (ins l n last = true) := by show _ = _; rw [HI.out]; exact any_hit _ l i hil (HIN.out.trans g4)
              clear g4
              go_wp2
              go_ret
              exact ⟨by rw [HX.out]; rfl, rfl⟩
            · have HX := hid (any_take _ l i hil HA.out (HIN.out.trans g4))
              clear g4 g3
              go_wp2
              go_roundw
              case rel => exact ⟨i + 1, by omega, by go_num, HX.out, trivial⟩
              case measure => simp [intOf]; omega
            · have HX := hid (any_take _ l i hil HA.out (HIN.out.trans g4))
              clear g4 
              go_wp2
              go_roundw
              case rel => exact ⟨i + 1, by omega, by go_num, HX.out, trivial⟩
              case measure => simp [intOf]; omega
            · have HX := hid (any_take _ l i hil HA.out (HIN.out.trans g4))
              clear g4 g3
              go_wp2
              go_roundw
              case rel => exact ⟨i + 1, by omega, by go_num, HX.out, trivial⟩
              case measure => simp [intOf]; omega
            · have HX := hid (any_take _ l i hil HA.out (HIN.out.trans g4))
              clear g4 
              go_wp2
              go_roundw
              case rel => exact ⟨i + 1, by omega, by go_num, HX.out, trivial⟩
              case measure => simp [intOf]; omega
      · have HX : Hid (ins l n last = false) := by
          show _ = _
          rw [HI.out]
          have := HA.out
          rwa [List.take_of_length_le (by rw [HL.out]; omega)] at this
        go_wp2
        go_ret
        exact ⟨by rw [HX.out]; rfl, rfl⟩
/-- The numbers of 1 .. j that are in a set. -/
def pkd (l : List G2) (n : Int) : Nat → List Nat
  | 0 => []
  | j + 1 => if ins l ((j : Int) + 1) n = true then pkd l n j ++ [j + 1] else pkd l n j
theorem pkd_len (l : List G2) (n : Int) (j : Nat) : (pkd l n j).length ≤ j := by
  induction j with
  | zero => exact Nat.le_refl _
  | succ j ih =>
    rw [pkd]
    split
    · rw [List.length_append]; simp; omega
    · omega
def pks (l : List G2) (n : Int) : List Nat := pkd l n (min 100 n.toNat)
theorem info_int14 : (Tryd.prog.info? 3).map (fun i => (i.zero, i.size, i.bytes)) = some (some (.int .i64 0), 1, 8) := by kernel_rfl
set_option maxHeartbeats 1600000 in
set_option maxRecDepth 100000 in
theorem specPicked_any (a : Option Addr) (m cap : Nat) (l : List G2) (n : Int) (w : World) (hl : l.length = m) (hm : m ≤ 1048576) (hr : Rr w a l) (hn : n ≤ 9223372036854775807) :
    Calls Tryd.prog 19 #[.slice a m cap, .int .i64 n] w fun e w' => ∃ v, e = .returned v ∧ w'.ownsRow w.heap.size 3 1 v (pks l n).length ((pks l n).map ic) ∧ Below w.heap.size w w' := by
  have HR := hid hr
  have HL := hid hl
  have HM := hid hm
  clear hr hl
  go_enter Tryd.func19, Tryd.ntmps19
  go_wp2
  go_loopw [5, 6] (fun ov iv wr => ∃ j : Nat, j ≤ 100 ∧ ((j : Int) ≤ n ∨ j = 0) ∧ iv = .int .i64 ((j : Int) + 1) ∧ wr.ownsRow w.heap.size 3 1 ov (pkd l n j).length ((pkd l n j).map ic) ∧ Below w.heap.size w wr) (fun _ iv _ => 102 - (intOf iv).toNat)
  case atStart => exact ⟨0, by omega, Or.inr rfl, rfl, World.ownsRow_made w #[] 0 (Nat.le_refl _) (by decide) rfl, bpush (bre _) _⟩
  case round =>
    obtain ⟨j, hj, hjn, rfl, ho, hb⟩ := hrel
    have HO := hid ho
    have HB := hid hb
    clear ho hb
    by_cases h1 : (j : Int) + 1 ≤ n
    · by_cases h2 : (j : Int) + 1 ≤ 100
      · have HS := hid (specInSet_any a m cap l ((j : Int) + 1) n wr HL.out HM.out (HR.out.later HB.out))
        cases hin : ins l ((j : Int) + 1) n with
        | true =>
          rw [hin] at HS
          have HP : Hid (pkd l n (j + 1) = pkd l n j ++ [j + 1]) := by show _ = _; rw [pkd, if_pos hin]
          have HLN : Hid ((pkd l n j).length ≤ 1000000) := by have := pkd_len l n j; show _ ≤ _; omega
          have HSZ := hid HB.out.size
          clear hin hjn
          go_wp2_with fail
          refine HS.out.mono ?_; rintro e w1 ⟨rfl, h⟩
          subst h
          go_wp2_with (at_builtin; refine wpList_append_nat w1 rfl (.tmp 21) (.tmp 23) 29 rfl w.heap.size 3 info_int14 Tryd.underlying29 _ _ (by rfl) HO.out _ (j + 1) (by omega) rfl HLN.out HSZ.out ?_; rotate_right; intro v2 w2 ho2 hb2; have HO2 := hid ho2; have HB2 := hid hb2; clear ho2 hb2)
          go_roundw
          case rel => exact ⟨j + 1, by omega, Or.inl (by omega), by go_num, HP.out ▸ HO2.out, HB.out.trans HB2.out⟩
          case measure => simp [intOf]; omega
        | false =>
          rw [hin] at HS
          have HP : Hid (pkd l n (j + 1) = pkd l n j) := by show _ = _; rw [pkd, if_neg (by rw [hin]; decide)]
          clear hin hjn
          go_wp2_with fail
          refine HS.out.mono ?_; rintro e w1 ⟨rfl, h⟩
          subst h
          go_wp2
          go_roundw
          case rel => exact ⟨j + 1, by omega, Or.inl (by omega), by go_num, HP.out ▸ HO.out, HB.out⟩
          case measure => simp [intOf]; omega
      · have HE : Hid (pks l n = pkd l n j) := by show _ = _; rw [pks, show min 100 n.toNat = j by omega]
        go_wp2
        go_ret
        exact ⟨_, rfl, HE.out ▸ HO.out, HB.out⟩
    · have HE : Hid (pks l n = pkd l n j) := by show _ = _; rw [pks, show min 100 n.toNat = j by omega]
      go_wp2
      go_ret
      exact ⟨_, rfl, HE.out ▸ HO.out, HB.out⟩
end Go.Proofs.YtkbiebacbebdnaaDoor
