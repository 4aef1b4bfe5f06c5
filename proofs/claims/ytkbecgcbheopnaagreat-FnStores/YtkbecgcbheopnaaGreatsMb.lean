/- Mb. -/
import Derived.Test.YtkbecgcbheopnaaGreatsMa
import Derived.Laws.Bits128
namespace Go.Proofs.YtkbecgcbheopnaaGreat
open Go.RowKit
def Cur (w : World) (cb : Nat) (ao : Option Addr) (n cap : Nat) : Prop :=
 ∃ (i : Nat) (h : Int), i ≤ n ∧ w.heap[cb]? = some (.cells #[.slice ao n cap, .int .i64 (i : Int), .int .i64 h] 102 (0, 0))
def Code (w : World) (cb : Nat) (ao : Option Addr) (n : Nat) : Prop :=
 0 < n → ∃ b off, ao = some ⟨b, off, none⟩ ∧ b < cb ∧ ∀ j, j < n → ∃ z : Nat, z < 256 ∧ w.cell? ⟨b, off + j, none⟩ = some (.int .u8 (z : Int))
theorem Code.later {w w' : World} {cb n : Nat} {ao : Option Addr} (h : Code w cb ao n) (hb : w.grownBy w' (some cb)) : Code w' cb ao n := by
 intro hn
 obtain ⟨b, off, h1, h2, h3⟩ := h hn
 refine ⟨b, off, h1, h2, fun j hj => ?_⟩
 obtain ⟨z, hz, hc⟩ := h3 j hj
 exact ⟨z, hz, hb.cell hc (by simp; omega)⟩
theorem Cur.alloc {w : World} {cb n cap : Nat} {ao : Option Addr} (h : Cur w cb ao n cap) (o : Obj) : Cur (w.alloc o) cb ao n cap := by
 obtain ⟨i, x, h1, h2⟩ := h
 exact ⟨i, x, h1, by rw [Below.heap_alloc w o cb (Array.getElem?_eq_some_iff.1 h2).1]; exact h2⟩
theorem Cur.lt {w : World} {cb n cap : Nat} {ao : Option Addr} (h : Cur w cb ao n cap) : cb < w.heap.size := by
 obtain ⟨i, x, h1, h2⟩ := h
 exact (Array.getElem?_eq_some_iff.1 h2).1
theorem only_set {w : World} {cb o : Nat} {u : Value} : w.grownBy (w.setCell ⟨cb, o, none⟩ u) (some cb) :=
 ⟨rfl, rfl, rfl, by simp [World.setCell], fun k _ hk => heap_setCell_other w ⟨cb, o, none⟩ k u (fun e => hk (by simp [e]))⟩
theorem only_trans {a b c : World} {r : Option Nat} (h : a.grownBy b r) (k : b.grownBy c r) : a.grownBy c r :=
 ⟨k.os.trans h.os, k.tape.trans h.tape, k.output.trans h.output, Nat.le_trans h.size k.size, fun i hi hr => (k.block i (Nat.lt_of_lt_of_le hi h.size) hr).trans (h.block i hi hr)⟩
theorem only_below {w w' : World} {cb B : Nat} (h : w.grownBy w' (some cb)) (hB : B ≤ cb) (hs : B ≤ w.heap.size) : Below B w w' :=
 ⟨h.os, h.tape, h.output, h.size, fun k hk => h.block k (by omega) (by simp; omega)⟩
theorem i64_and255 (n : Int) : bits .and .i64 n 255 = n % 256 := by
 have h255 : (BitVec.ofInt 64 255).toNat = 2 ^ 8 - 1 := by decide
 have key : (BitVec.ofInt 64 n &&& BitVec.ofInt 64 255).toNat = (n % ((2 ^ 64 : Nat) : Int)).toNat % 2 ^ 8 := by
  rw [BitVec.toNat_and, BitVec.toNat_ofInt, h255, Nat.and_two_pow_sub_one_eq_mod]
 show IntKind.i64.wrap ((BitVec.ofInt 64 n &&& BitVec.ofInt 64 255).toNat : Nat) = n % 256
 rw [key, IntKind.wrap_i64]
 omega
theorem and255 (n : Int) : ∃ x : Nat, x < 256 ∧ bits .and .i64 n 255 = (x : Int) := ⟨(n % 256).toNat, by omega, by rw [i64_and255]; omega⟩
set_option maxHeartbeats 400000 in
set_option maxRecDepth 100000 in
theorem byte_any (cb : Nat) (ao : Option Addr) (n cap : Nat) (w : World) (hn : n ≤ 1048576) (hcur : Cur w cb ao n cap) (hcode : Code w cb ao n) :
  Calls Tryz.prog 38 #[.pointer (some ⟨cb, 0, none⟩)] w fun e w' => ∃ x : Nat, x < 256 ∧ e = .returned (.int .i64 (x : Int)) ∧ Cur w' cb ao n cap ∧ w.grownBy w' (some cb) := by
 obtain ⟨i, h, hi, hblk⟩ := hcur
 have c0 := cell_of_row w cb 0 _ _ _ hblk
 have c1 := cell_of_row w cb 1 _ _ _ hblk
 have c2 := cell_of_row w cb 2 _ _ _ hblk
 have f1 := frozen_of_row w cb 1 _ _ hblk
 have f2 := frozen_of_row w cb 2 _ _ hblk
 simp at c0 c1 c2
 have HBLK := hide hblk
 have HCODE := hide hcode
 clear hblk hcode
 by_cases hlt : i < n
 ·obtain ⟨b, off, hao, hbc, hz⟩ := unhide HCODE (by omega)
  obtain ⟨z, hzb, hcz⟩ := hz i hlt
  subst hao
  have hI : (0 : Int) ≤ (i : Int) ∧ (i : Int) < (n : Int) := by omega
  clear hz
  go_enter Tryz.func38, Tryz.ntmps38
  go_wp2_with fail
  generalize wrap64 (wrap64 (h * 6364136223846793005) + 1442695040888963407) = h1
  obtain ⟨w1, hw1⟩ : ∃ w1, w.setCell ⟨cb, 2, none⟩ (.int .i64 h1) = w1 := ⟨_, rfl⟩
  have hblk1 : w1.heap[cb]? = some (.cells #[.slice (some ⟨b, off, none⟩) n cap, .int .i64 (i : Int), .int .i64 h1] 102 (0, 0)) := by
   rw [← hw1]; exact heap_setCell_same w cb 2 _ _ _ (unhide HBLK)
  have hbel : w.grownBy w1 (some cb) := by rw [← hw1]; exact only_set
  rw [hw1]
  have d0 := cell_of_row w1 cb 0 _ _ _ hblk1
  have d1 := cell_of_row w1 cb 1 _ _ _ hblk1
  have d2 := cell_of_row w1 cb 2 _ _ _ hblk1
  have g1 := frozen_of_row w1 cb 1 _ _ hblk1
  simp at d0 d1 d2
  have dz : w1.cell? ⟨b, off + i, none⟩ = some (.int .u8 (z : Int)) := hbel.cell hcz (by simp; omega)
  have HBLK1 := hide hblk1
  have HBEL := hide hbel
  clear hblk1 hbel hw1 c0 c1 c2 f1 f2 hcz HBLK HCODE
  go_quiet (fail)
  obtain ⟨x0, hx0, hx0e⟩ := and255 (bits BinOp.xor IntKind.i64 (h1 / 8589934592) (h1 / 35184372088832))
  rw [hx0e]
  go_wp2_with fail
  go_quiet (fail)
  go_wp2_with fail
  go_quiet (fail)
  go_wp2_with fail
  obtain ⟨x1, hx1, hx1e⟩ := and255 ((x0 : Int) + (z : Int))
  go_ret
  refine ⟨x1, hx1, ret_int hx1e, ⟨i + 1, h1, hlt, ?_⟩, ?_⟩
  ·rw [show (((i + 1 : Nat)) : Int) = (i : Int) + 1 from by omega]
   exact heap_setCell_same _ cb 1 _ _ _ (unhide HBLK1)
  ·refine only_trans (b := w1.drewN 0) ⟨(unhide HBEL).os, (unhide HBEL).tape, (unhide HBEL).output, (unhide HBEL).size, (unhide HBEL).block⟩ ?_
   exact ⟨rfl, rfl, rfl, by simp [World.setCell], fun k _ hk => heap_setCell_other w1 ⟨cb, 1, none⟩ k _ (fun e => hk (by simp [e]))⟩
 ·go_enter Tryz.func38, Tryz.ntmps38
  go_wp2_with fail
  generalize wrap64 (wrap64 (h * 6364136223846793005) + 1442695040888963407) = h1
  obtain ⟨w1, hw1⟩ : ∃ w1, w.setCell ⟨cb, 2, none⟩ (.int .i64 h1) = w1 := ⟨_, rfl⟩
  have hblk1 : w1.heap[cb]? = some (.cells #[.slice ao n cap, .int .i64 (i : Int), .int .i64 h1] 102 (0, 0)) := by
   rw [← hw1]; exact heap_setCell_same w cb 2 _ _ _ (unhide HBLK)
  have hbel : w.grownBy w1 (some cb) := by rw [← hw1]; exact only_set
  rw [hw1]
  have d0 := cell_of_row w1 cb 0 _ _ _ hblk1
  have d1 := cell_of_row w1 cb 1 _ _ _ hblk1
  have d2 := cell_of_row w1 cb 2 _ _ _ hblk1
  simp at d0 d1 d2
  have HBLK1 := hide hblk1
  have HBEL := hide hbel
  clear hblk1 hbel hw1 c0 c1 c2 f1 f2 HBLK HCODE
  go_quiet (fail)
  obtain ⟨x0, hx0, hx0e⟩ := and255 (bits BinOp.xor IntKind.i64 (h1 / 8589934592) (h1 / 35184372088832))
  rw [hx0e]
  go_wp2_with fail
  go_quiet (fail)
  go_wp2_with fail
  go_ret
  exact ⟨x0, hx0, rfl, ⟨i, h1, hi, unhide HBLK1⟩, ⟨(unhide HBEL).os, (unhide HBEL).tape, (unhide HBEL).output, (unhide HBEL).size, (unhide HBEL).block⟩⟩
set_option maxHeartbeats 400000 in
theorem below_any (cb : Nat) (ao : Option Addr) (n cap m : Nat) (w : World) (hn : n ≤ 1048576) (hcur : Cur w cb ao n cap) (hcode : Code w cb ao n) (hm : 0 < m) (hm2 : m ≤ 4294967296) :
  Calls Tryz.prog 39 #[.pointer (some ⟨cb, 0, none⟩), .int .i64 (m : Int)] w fun e w' => ∃ x : Nat, x < m ∧ e = .returned (.int .i64 (x : Int)) ∧ Cur w' cb ao n cap ∧ w.grownBy w' (some cb) := by
 have HC := hide hcur
 have HO := hide hcode
 clear hcur hcode
 have hm0 : ¬ (m : Int) = 0 := by omega
 by_cases h2 : m ≤ 256
 ·go_enter Tryz.func39, Tryz.ntmps39
  go_wp2_with fail
  refine (byte_any cb ao n cap _ hn (unhide HC) (unhide HO)).mono ?_; rintro e w1 ⟨x, hx, rfl, hc1, hb1⟩
  have HC1 := hide hc1
  clear hc1
  go_wp2
  go_ret
  exact ⟨x % m, Nat.mod_lt _ hm, ret_int (by simp), unhide HC1, hb1⟩
 ·go_enter Tryz.func39, Tryz.ntmps39
  go_wp2_with fail
  refine (byte_any cb ao n cap _ hn (unhide HC) (unhide HO)).mono ?_; rintro e w1 ⟨x, hx, rfl, hc1, hb1⟩
  have HC1 := hide hc1
  clear hc1
  go_wp2_with fail
  refine (byte_any cb ao n cap _ hn (unhide HC1) ((unhide HO).later hb1)).mono ?_; rintro e w2 ⟨y, hy, rfl, hc2, hb2⟩
  have HC2 := hide hc2
  have hb12 := only_trans hb1 hb2
  clear hc2
  go_wp2_with fail
  refine (byte_any cb ao n cap _ hn (unhide HC2) ((unhide HO).later hb12)).mono ?_; rintro e w3 ⟨z, hz, rfl, hc3, hb3⟩
  have HC3 := hide hc3
  have hb13 := only_trans hb12 hb3
  clear hc3
  go_wp2_with fail
  refine (byte_any cb ao n cap _ hn (unhide HC3) ((unhide HO).later hb13)).mono ?_; rintro e w4 ⟨v, hv, rfl, hc4, hb4⟩
  have HC4 := hide hc4
  have hb14 := only_trans hb13 hb4
  clear hc4
  go_wp2
  go_ret
  exact ⟨(x * 16777216 + y * 65536 + z * 256 + v) % m, Nat.mod_lt _ hm, ret_int (by simp), unhide HC4, hb14⟩
theorem below4 (cb : Nat) (ao : Option Addr) (n cap : Nat) (w : World) (hn : n ≤ 1048576) (hcur : Cur w cb ao n cap) (hcode : Code w cb ao n) (m : Int) (hm : 0 < m) (hm2 : m ≤ 4294967296) :
  Calls Tryz.prog 39 #[.pointer (some ⟨cb, 0, none⟩), .int .i64 m] w fun e w' => ∃ x : Nat, (x : Int) < m ∧ e = .returned (.int .i64 (x : Int)) ∧ Cur w' cb ao n cap ∧ w.grownBy w' (some cb) := by
 obtain ⟨k, rfl⟩ : ∃ k : Nat, m = k := ⟨m.toNat, by omega⟩
 refine (below_any cb ao n cap k w hn hcur hcode (by omega) (by omega)).mono ?_
 rintro e w' ⟨x, h1, h2, h3, h4⟩
 exact ⟨x, by omega, h2, h3, h4⟩
theorem once_any (cb : Nat) (ao : Option Addr) (n cap : Nat) (w : World) (hn : n ≤ 1048576) (hcur : Cur w cb ao n cap) (hcode : Code w cb ao n) (m : Int) (hm : 0 < m) (hm2 : m ≤ 4294967296) :
  Calls Tryz.prog 67 #[.pointer (some ⟨cb, 0, none⟩), .int .i64 m] w fun e w' => ∃ t : Bool, e = .returned (.bool t) ∧ Cur w' cb ao n cap ∧ w.grownBy w' (some cb) := by
 have HC := hide hcur
 have HO := hide hcode
 clear hcur hcode
 go_enter Tryz.func67, Tryz.ntmps67
 go_wp2_with fail
 refine (below4 cb ao n cap _ hn (unhide HC) (unhide HO) m hm hm2).mono ?_; rintro e w1 ⟨x, hx, rfl, hc1, hb1⟩
 have HC1 := hide hc1
 clear hc1
 go_wp2
 go_ret
 exact ⟨_, rfl, unhide HC1, hb1⟩
set_option maxHeartbeats 400000 in
set_option maxRecDepth 100000 in
theorem new_any (ao : Option Addr) (n cap : Nat) (w : World) (hn : n ≤ 1048576) (hcode : Code w w.heap.size ao n) :
  Calls Tryz.prog 37 #[.slice ao n cap] w fun e w' => e = .returned (.pointer (some ⟨w.heap.size, 0, none⟩)) ∧ Cur w' w.heap.size ao n cap ∧ Code w' w.heap.size ao n ∧ Below w.heap.size w w' := by
 have HO := hide hcode
 clear hcode
 go_enter Tryz.func37, Tryz.ntmps37
 go_wp2
 go_loop [3, 4] (fun hv iv => ∃ (h : Int) (i : Nat), i ≤ n ∧ hv = .int .i64 h ∧ iv = .int .i64 (i : Int)) (fun _ iv => n - (intOf iv).toNat)
 case atStart => exact ⟨_, 0, Nat.zero_le _, rfl, rfl⟩
 case round =>
  obtain ⟨h, i, hi, rfl, rfl⟩ := hrel
  by_cases hlt : i < n
  ·by_cases h4 : i < 4000
   ·obtain ⟨b, off, hao, hbc, hz⟩ := unhide HO (by omega)
    obtain ⟨z, hzb, hcz⟩ := hz i hlt
    subst hao
    have hI : (0 : Int) ≤ (i : Int) ∧ (i : Int) < (n : Int) := by omega
    clear hz
    go_wp2
    go_round
    case rel => exact ⟨_, i + 1, by omega, rfl, by go_num⟩
    case measure => simp [intOf]; omega
   ·go_wp2
    go_ret
    refine ⟨rfl, ⟨0, h, Nat.zero_le _, heap_alloc_new w _⟩, (unhide HO).later (World.grownBy_alloc _ _ _), (Below.refl _ _).alloc (Nat.le_refl _) _⟩
  ·go_wp2
   go_ret
   refine ⟨rfl, ⟨0, h, Nat.zero_le _, heap_alloc_new w _⟩, (unhide HO).later (World.grownBy_alloc _ _ _), (Below.refl _ _).alloc (Nat.le_refl _) _⟩
theorem only_add {w w1 w2 : World} {cb : Nat} (h : w.grownBy w1 (some cb)) (k : Below w.heap.size w1 w2) : w.grownBy w2 (some cb) :=
 ⟨k.os.trans h.os, k.tape.trans h.tape, k.output.trans h.output, Nat.le_trans h.size k.size, fun i hi hr => (k.block i hi).trans (h.block i hi hr)⟩
theorem Cur.later {w1 w2 : World} {B cb n cap : Nat} {ao : Option Addr} (h : Cur w1 cb ao n cap) (k : Below B w1 w2) (hB : cb < B) : Cur w2 cb ao n cap := by
 obtain ⟨i, x, h1, h2⟩ := h
 exact ⟨i, x, h1, by rw [k.block cb hB]; exact h2⟩
end Go.Proofs.YtkbecgcbheopnaaGreat
namespace Go.Proofs.YtkbecgcbheopnaaGreat
open Go.RowKit
theorem Tryz.info3 : (Tryz.prog.info? 3).map (fun i => (i.zero, i.size, i.bytes)) = some (some (.int .i64 0), 1, 8) := by kernel_rfl
def ic (z : Nat) : Value := .int .i64 (z : Int)
theorem wpList_append_nat {P : Program} (w : World) {ops : Array Oper} {rest : List Oper} {o : Oper} {a : Act} {Q : Exit → Act → World → Prop} (hgd : o.guard = none) (s x : Operand) (t : TypeId)
  (ho : o.op = .call { callee := .builtin .append, args := #[s, x], argTypes := #[t, t] })
  (base : Nat) (e : TypeId) (hinfo : (P.info? e).map (fun i => (i.zero, i.size, i.bytes)) = some (some (.int .i64 0), 1, 8)) (ht : P.underlying t = some (.slice e))
  (v : Value) (bs : List Nat) (hs : a.eval s = v) (hown : w.ownsRow base e 1 v bs.length (bs.map ic)) (n : Int) (b : Nat) (hb : n = (b : Int))
  (hx : a.eval x = .slice (some ⟨w.heap.size, 0, none⟩) 1 1) (hlen : bs.length ≤ 1000000) (hbase : base ≤ w.heap.size)
  (h : ∀ v' w', w'.ownsRow base e 1 v' (bs ++ [b]).length ((bs ++ [b]).map ic) → Below base w w' → wpList P ops Q rest (a.put o.dst v') w') :
  wpList P ops Q (o :: rest) a (w.alloc (.cells #[.int .i64 n] e)) := by
 obtain ⟨i0, hi, hz0, hz1, hz2⟩ := info_parts hinfo
 subst hb
 refine wpList_append_own _ hgd s x t ho base e i0 (.int .i64 0) 1 8 ht hi hz0 hz1 hz2 rfl (by decide) v _ _ hs (hown.alloc _) ⟨w.heap.size, 0, none⟩ 1 1 [ic b] hx rfl (cell_one_new _ _ _) (by intro u hu; simp at hu; subst hu; rfl) (by unfold maxLen; omega) (by omega) (by simp; omega) ?_
 intro v' w' hown' hg _
 refine h v' w' (by simpa using hown') (((Below.refl base w).alloc hbase _).grown hg (by simp; omega) (fun k hk => (hown.lt k hk).1))
theorem row_two {w : World} {base : Nat} {v : Value} {zs : List Nat} (h : w.ownsRow base 3 1 v zs.length (zs.map ic)) (hl : zs.length = 12) (hz : ∀ z ∈ zs, z < 10000) :
  ∃ g cp x y : Nat, v = .slice (some ⟨g, 0, none⟩) 12 cp ∧ g < w.heap.size ∧ w.cell? ⟨g, 0, none⟩ = some (.int .i64 (x : Int)) ∧ w.cell? ⟨g, 1, none⟩ = some (.int .i64 (y : Int)) ∧ x < 10000 ∧ y < 10000 := by
 have h' := h
 rcases h.2 with ⟨_, h0⟩ | ⟨g, cp, cur, rfl, hb, hg, _⟩
 ·omega
 ·have c0 := h'.cells (g := g) rfl 0 (ic zs[0]) (by rw [List.getElem?_map, List.getElem?_eq_getElem (by omega)]; rfl)
  have c1 := h'.cells (g := g) rfl 1 (ic zs[1]) (by rw [List.getElem?_map, List.getElem?_eq_getElem (by omega)]; rfl)
  exact ⟨g, cp, zs[0], zs[1], by rw [hl], (Array.getElem?_eq_some_iff.1 hg).1, by simpa [Addr.add, ic] using c0, by simpa [Addr.add, ic] using c1, hz _ (List.getElem_mem _), hz _ (List.getElem_mem _)⟩
set_option maxHeartbeats 400000 in
set_option maxRecDepth 100000 in
theorem drawPlaces_any (ao : Option Addr) (n cap : Nat) (w : World) (hn : n ≤ 1048576) (hcode : Code w w.heap.size ao n) :
  Calls Tryz.prog 7 #[.slice ao n cap] w fun e w' => ∃ (g cp x y : Nat), e = .returned (.slice (some ⟨g, 0, none⟩) 12 cp) ∧ g < w'.heap.size ∧ w'.cell? ⟨g, 0, none⟩ = some (.int .i64 (x : Int)) ∧ w'.cell? ⟨g, 1, none⟩ = some (.int .i64 (y : Int)) ∧ x < 10000 ∧ y < 10000 ∧ Below w.heap.size w w' := by
 have HO := hide hcode
 clear hcode
 go_enter Tryz.func7, Tryz.ntmps7
 go_wp2_with fail
 refine (new_any ao n cap _ hn (unhide HO)).mono ?_; rintro e w1 ⟨rfl, hc1, ho1, hb1⟩
 have HC1 := hide hc1
 have HO1 := hide ho1
 have hs1 := hc1.lt
 clear hc1 ho1
 go_wp2_with fail
 refine (byte_any w.heap.size ao n cap _ hn (unhide HC1) (unhide HO1)).mono ?_; rintro e w2 ⟨x0, hx0, rfl, hc2, hb2⟩
 have HC2 := hide hc2
 have HO2 := hide ((unhide HO1).later hb2)
 have hb12 : Below w.heap.size w w2 := hb1.trans (only_below hb2 (Nat.le_refl _) hb1.size)
 have hs2 := hc2.lt
 clear hc2
 go_wp2
 go_loopw [4, 5] (fun v iv wr => ∃ (k : Nat) (zs : List Nat), k ≤ 12 ∧ zs.length = k ∧ (∀ z ∈ zs, z < 10000) ∧ iv = .int .i64 (k : Int) ∧ wr.ownsRow w2.heap.size 3 1 v zs.length (zs.map ic) ∧ Cur wr w.heap.size ao n cap ∧ w2.grownBy wr (some w.heap.size)) (fun _ iv _ => 12 - (intOf iv).toNat)
 case atStart => exact ⟨0, [], Nat.zero_le _, rfl, by simp, rfl, World.ownsRow_made w2 #[] 0 (Nat.le_refl _) (by decide) rfl, (unhide HC2).alloc _, World.grownBy_alloc _ _ _⟩
 case round =>
  obtain ⟨k, zs, hk, hzl, hzs, rfl, hown, hcu, hg⟩ := hrel
  have HZL := hide hzl
  have HZS := hide hzs
  have HCU := hide hcu
  have HOWN := hide hown
  have HG := hide hg
  have hsz := hg.size
  clear hzl hzs hcu hown hg
  by_cases hlt : k < 12
  ·go_wp2_with fail
   refine (below4 w.heap.size ao n cap _ hn (unhide HCU) ((unhide HO2).later (unhide HG)) 10000 (by omega) (by omega)).mono ?_; rintro e w3 ⟨x, hx, rfl, hc3, hb3⟩
   have hown3 : w3.ownsRow w2.heap.size 3 1 _ zs.length (zs.map ic) := (unhide HOWN).kept hb3 (by
     cases hv : Value.ownBlock _ with
     | none => left; rfl
     | some b => right; have := ((unhide HOWN).lt b hv).1; simp; omega)
   have HC3 := hide hc3
   have hs3 := hb3.size
   clear hc3
   go_wp2_with (at_builtin; refine wpList_append_nat w3 rfl (.tmp 15) (.tmp 18) 25 rfl w2.heap.size 3 Tryz.info3 Tryz.underlying25 _ zs (by rfl) hown3 _ x rfl rfl (by have := unhide HZL; omega) (by omega) ?_; rotate_right; intro v4 w4 hown4 hb4)
   go_roundw
   case rel => exact ⟨k + 1, zs ++ [x], hlt, by simp [unhide HZL], by intro z hz; simp at hz; rcases hz with hz | rfl; exact unhide HZS z hz; omega, by go_num, hown4, (unhide HC3).later hb4 hs2, only_add (only_trans (unhide HG) hb3) hb4⟩
   case measure => simp [intOf]; omega
  ·have h12 : zs.length = 12 := by have := unhide HZL; omega
   obtain ⟨g, cp, x, y, rfl, hg, c0, c1, hx, hy⟩ := row_two (unhide HOWN) h12 (unhide HZS)
   go_wp2
   go_ret
   exact ⟨g, cp, x, y, rfl, hg, c0, c1, hx, hy, hb12.trans (only_below (unhide HG) (Nat.le_refl _) hb12.size)⟩
theorem Sg.loose {W : World} {k ty : Nat} {t b : Int} (h : Sg W k ty t b) : W.frozen? ⟨k, 0, none⟩ = false ∧ W.frozen? ⟨k, 1, none⟩ = false :=
 ⟨frozen_of_row W k 0 _ _ h, frozen_of_row W k 1 _ _ h⟩
theorem gset {w w2 : World} {cb k : Nat} (h : w.grownBy w2 (some cb)) (hk : w.heap.size ≤ k) (o : Nat) (u : Value) : w.grownBy (w2.setCell ⟨k, o, none⟩ u) (some cb) :=
 ⟨h.os, h.tape, h.output, by simp [World.setCell]; exact h.size, fun i hi hr => by rw [Below.heap_setCell _ _ _ _ (show i ≠ k by omega)]; exact h.block i hi hr⟩
theorem gal {w w2 : World} {cb : Nat} (h : w.grownBy w2 (some cb)) (o : Obj) : w.grownBy (w2.alloc o) (some cb) := only_trans h (World.grownBy_alloc _ _ _)
theorem gdr {w w2 : World} {cb : Nat} (h : w.grownBy w2 (some cb)) : w.grownBy w2.drew (some cb) := ⟨h.os, h.tape, h.output, h.size, h.block⟩
theorem Cur.set {w : World} {cb n cap k o : Nat} {ao : Option Addr} {u : Value} (h : Cur w cb ao n cap) (hk : k ≠ cb) : Cur (w.setCell ⟨k, o, none⟩ u) cb ao n cap := by
 obtain ⟨i, x, h1, h2⟩ := h
 exact ⟨i, x, h1, by rw [Below.heap_setCell _ _ _ _ (fun e => hk e.symm)]; exact h2⟩
end Go.Proofs.YtkbecgcbheopnaaGreat
