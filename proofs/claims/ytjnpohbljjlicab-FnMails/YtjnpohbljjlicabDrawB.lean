/- Drawn texts. -/
import Derived.Test.YtjnpohbljjlicabDraw
import Derived.Test.YtjnpohbljjlicabVar
namespace Go.Proofs.Ytjnpohbljjlicab
open Go.RowKit

theorem ret_str' {a b : ByteArray} (h : a = b) : Ending.returned (.string a) = .returned (.string b) := by rw [h]

theorem only_add {w w1 w2 : World} {cb : Nat} (h : w.grownBy w1 (some cb)) (k : Below w.heap.size w1 w2) : w.grownBy w2 (some cb) :=
  ⟨k.os.trans h.os, k.tape.trans h.tape, k.output.trans h.output, Nat.le_trans h.size k.size, fun i hi hr => (k.block i hi).trans (h.block i hi hr)⟩
theorem Cur.later {w1 w2 : World} {B cb n cap : Nat} {ao : Option Addr} (h : Cur w1 cb ao n cap) (k : Below B w1 w2) (hB : cb < B) : Cur w2 cb ao n cap := by
  obtain ⟨i, x, h1, h2⟩ := h
  exact ⟨i, x, h1, by rw [k.block cb hB]; exact h2⟩

set_option maxHeartbeats 400000 in
set_option maxRecDepth 100000 in
theorem text_any (cb : Nat) (ao : Option Addr) (n cap m : Nat) (w : World) (hn : n ≤ 1048576) (hcur : Cur w cb ao n cap) (hcode : Code w cb ao n) (hm : m ≤ 5000) :
    Calls Try.prog 52 #[.pointer (some ⟨cb, 0, none⟩), .int .i64 (m : Int)] w fun e w' => ∃ bs : List UInt8, bs.length = m ∧ e = .returned (.string ⟨bs.toArray⟩) ∧ Cur w' cb ao n cap ∧ w.grownBy w' (some cb) := by
  have hcb := hcur.lt
  have HC := hide hcur
  have HO := hide hcode
  clear hcur hcode
  go_enter Try.func52, Try.ntmps52
  go_wp2
  go_loopw [5, 6] (fun v iv wr => ∃ (k : Nat) (bs : List UInt8), k ≤ m ∧ bs.length = k ∧ iv = .int .i64 (k : Int) ∧ wr.ownsRow w.heap.size 5 1 v bs.length (bs.map bv) ∧ Cur wr cb ao n cap ∧ w.grownBy wr (some cb)) (fun _ iv _ => m - (intOf iv).toNat)
  case atStart => exact ⟨0, [], Nat.zero_le _, rfl, rfl, World.ownsRow_made w #[] 0 (Nat.le_refl _) (by decide) rfl, (unhide HC).alloc _, World.grownBy_alloc _ _ _⟩
  case round =>
    obtain ⟨k, bs, hk, hbl, rfl, hown, hcu, hg⟩ := hrel
    have HBL := hide hbl
    have HCU := hide hcu
    have HOWN := hide hown
    have HG := hide hg
    have hsz := hg.size
    clear hbl hcu hown hg
    by_cases hlt : k < m
    · go_wp2_with fail
      refine (byte_any cb ao n cap _ hn (unhide HCU) ((unhide HO).later (unhide HG))).mono ?_; rintro e w1 ⟨x, hx, rfl, hc1, hb1⟩
      have hown1 : w1.ownsRow w.heap.size 5 1 _ bs.length (bs.map bv) := (unhide HOWN).kept hb1 (by
        cases hv : Value.ownBlock _ with
        | none => left; rfl
        | some b => right; have := ((unhide HOWN).lt b hv).1; simp; omega)
      have HC1 := hide hc1
      have hs1 := hb1.size
      have hxi : IntKind.u8.wrap (x : Int) = (x : Int) := by rw [IntKind.wrap_u8]; omega
      clear hc1
      go_wp2_with (at_builtin; refine wpList_append_byte w1 rfl (.tmp 15) (.tmp 19) 22 rfl w.heap.size 5 Try.info5 Try.underlying22 _ bs (by rfl) hown1 _ (UInt8.ofNat x) ?c1 rfl (by have := unhide HBL; omega) (by omega) ?_; rotate_right; intro v2 w2 hown2 hb2)
      case c1 => rw [u8_nat _ (by omega)]
      go_roundw
      case rel => exact ⟨k + 1, bs ++ [UInt8.ofNat x], hlt, by simp [unhide HBL], by go_num, hown2, (unhide HC1).later hb2 hcb, only_add (only_trans (unhide HG) hb1) hb2⟩
      case measure => simp [intOf]; omega
    · have hcv := run_string_own (P := Try.prog) wr 22 9 5 Try.underlying22 Try.underlying5 Try.underlying9 _ (unhide HOWN)
      go_wp2
      go_ret
      exact ⟨bs, by have := unhide HBL; omega, rfl, unhide HCU, unhide HG⟩

set_option maxHeartbeats 400000 in
set_option maxRecDepth 100000 in
theorem long_any (m : Nat) (x : UInt8) (w : World) (hm : m ≤ 1000000) :
    Calls Try.prog 43 #[.int .i64 (m : Int), .int .u8 (x.toNat : Int)] w fun e w' => ∃ bs : List UInt8, bs.length = m ∧ e = .returned (.string ⟨bs.toArray⟩) ∧ Below w.heap.size w w' := by
  obtain ⟨i0, hi, hz0, hz1, hz2⟩ := info_parts Try.info5
  have hmk : i0.bytes * m ≤ 281474976710656 := by rw [hz2]; omega
  go_enter Try.func43, Try.ntmps43
  go_wp2_with (at_make; refine wpList_make_full w rfl _ _ 22 rfl w.heap.size 5 i0 (.int .u8 0) 1 Try.underlying22 hi hz0 hz1 .i64 .i64 (m : Int) (m : Int) m (by rfl) (by rfl) rfl rfl hmk (by unfold maxLen; omega) (Nat.le_refl _) ?_; intro w0 hown0 hg0)
  clear hi hz0 hz1 hz2 hmk
  have hst : (madeCells (Value.int .u8 0).cells (m * 1)).toList = (List.replicate m (0 : UInt8)).map bv := by
    have e : (Value.int .u8 0).cells = #[Value.int .u8 0] := rfl
    apply List.ext_getElem?
    intro j
    rw [e]
    by_cases hj : j < m
    · simp [madeCells, hj, bv, Nat.mod_one]
    · rw [List.getElem?_eq_none (by rw [Array.length_toList, size_madeCells]; omega), List.getElem?_eq_none (by simp; omega)]
  rw [hst] at hown0
  clear hst
  go_loopw [6] (fun iv wr => ∃ (k : Nat) (bs : List UInt8), k ≤ m ∧ bs.length = m ∧ iv = .int .i64 (k : Int) ∧ wr.ownsRow w.heap.size 5 1 (.slice (some ⟨w.heap.size, 0, none⟩) m m) m (bs.map bv) ∧ Below w.heap.size w wr) (fun iv _ => m - (intOf iv).toNat)
  case atStart => exact ⟨0, List.replicate m 0, Nat.zero_le _, by simp, rfl, hown0, (Below.refl _ _).grown hg0 (Nat.le_refl _) (by simp)⟩
  case round =>
    clear hown0 hg0
    obtain ⟨k, bs, hk, hbl, rfl, hown, hb⟩ := hrel
    have HBL := hide hbl
    have HOWN := hide hown
    clear hbl hown
    by_cases hlt : k < m
    · have hkl : k < bs.length := by rw [unhide HBL]; exact hlt
      have hc : wr.cell? ⟨w.heap.size, k, none⟩ = some (bv bs[k]) := by rw [(unhide HOWN).cellAt k (by omega), List.getElem?_map, List.getElem?_eq_getElem hkl]; rfl
      obtain ⟨y, hy⟩ : ∃ y, bv bs[k] = .int .u8 y := ⟨_, rfl⟩
      rw [hy] at hc
      have hf := (unhide HOWN).frozenAt k
      have hst := ((unhide HOWN).stored k (bv x)).1
      rw [← List.map_set] at hst
      have HST := hide hst
      clear hst hy
      go_wp2
      go_roundw
      case rel => exact ⟨k + 1, bs.set k x, hlt, by simp [unhide HBL], by go_num, unhide HST, hb.setCell (p := ⟨w.heap.size, k, none⟩) (Nat.le_refl _) _⟩
      case measure => simp [intOf]; omega
    · have hcv := run_string_own (P := Try.prog) wr 22 9 5 Try.underlying22 Try.underlying5 Try.underlying9 _ (unhide HOWN)
      go_wp2
      go_ret
      exact ⟨bs, unhide HBL, rfl, hb⟩

end Go.Proofs.Ytjnpohbljjlicab
