/- Another name, as the program gives it; the law. -/
import Derived.Test.YtanahkieondboaaDoorOne
namespace Go.Proofs.YtanahkieondboaaDoor
open Go.RowKit Go.ChangeMaps

theorem bdn1 {a w : World} (h : Below a.heap.size a w) (k : Nat) : Below a.heap.size a (w.drewN k) := ⟨h.os, h.tape, h.output, h.size, h.block⟩
theorem on6_min (nm : ByteArray) (k : Nat) (h : (k : Int) = min 6 (nm.size : Int)) : nm.extract 0 k = on6 nm := by
  unfold on6
  by_cases h6 : 6 < nm.size
  · rw [if_pos h6, show k = 6 by omega]
  · rw [if_neg h6, show k = nm.size by omega, ByteArray.extract_zero_size]
theorem on5_max (t : ByteArray) (k : Nat) (h : (k : Int) = max 0 ((t.size : Int) - 5)) : t.extract k t.size = on5 t := by
  unfold on5
  by_cases h5 : 5 < t.size
  · rw [if_pos h5, show k = t.size - 5 by omega]
  · rw [if_neg h5, show k = 0 by omega, ByteArray.extract_zero_size]

set_option maxHeartbeats 4000000 in
set_option maxRecDepth 100000 in
theorem implOther_any (nm : ByteArray) (g : Int) (w : World) (hn : nm.size ≤ 1048576) (h0 : -9223372036854775808 ≤ g) (h1 : g ≤ 9223372036854775807) (htab : Lib.TabIs Tryd.prog w "internal/strconv.uint64pow10" .u64 Lib.pow10Tab) :
    Calls Tryd.prog 6 #[.string nm, .int .i64 g] w fun e w' => e = .returned (.string (onm nm g)) ∧ Below w.heap.size w w' := by
  obtain ⟨t, ht⟩ : ∃ t : ByteArray, (if 0 < g then ⟨(dg g.toNat).toArray⟩ else ⟨#[]⟩ : ByteArray) = t := ⟨_, rfl⟩
  have hl : t.size ≤ 19 := by
    rw [← ht]
    split
    · have := dg_len 18 g.toNat (by omega); show (dg g.toNat).toArray.size ≤ 19; simpa using this
    · decide
  have hO : onm nm g = on6 nm ++ ⟨#[120]⟩ ++ on5 t := by unfold onm; rw [ht]
  have HO := hide hO
  have hD : 0 < g → Calls Tryd.prog 13 #[.int .i64 g] w fun e w' => e = .returned (.string t) ∧ Below w.heap.size w w' := by
    intro hg
    have h2 := implDecimal_any g w h0 h1 htab
    rw [show g = ((g.toNat : Nat) : Int) by omega, itoa_pos] at h2
    rw [if_pos hg] at ht
    rw [show (g.toNat : Int) = g by omega, ht] at h2
    exact h2
  have HD := hide hD
  have HT := hide ht
  rw [hO]
  clear hO hD htab ht h0 h1
  obtain ⟨k6, hk6⟩ : ∃ k : Nat, (k : Int) = min 6 (nm.size : Int) := ⟨(min 6 (nm.size : Int)).toNat, by omega⟩
  obtain ⟨k5, hk5⟩ : ∃ k : Nat, (k : Int) = max 0 ((t.size : Int) - 5) := ⟨(max 0 ((t.size : Int) - 5)).toNat, by omega⟩
  have K6 := hide hk6
  have K5 := hide hk5
  by_cases hg : 0 < g
  · go_enter Tryd.func6, Tryd.ntmps6
    go_wp2_with fail
    refine (HD.out hg).mono ?_
    rintro e w' ⟨rfl, hb⟩
    have HB := hide hb
    clear hb hg
    go_wp2_with fail
    go_quiet (fail)
    go_wp2
    go_ret
    refine ⟨?_, bdn1 HB.out _⟩
    exact ret_str (by rw [on6_min nm _ (by omega), on5_max t _ (by omega)])
  · have HT2 : Hid (t = ⟨#[]⟩) := by show _ = _; have := HT.out; rw [if_neg hg] at this; exact this.symm
    go_enter Tryd.func6, Tryd.ntmps6
    go_wp2_with fail
    go_quiet (fail)
    go_wp2
    go_ret
    refine ⟨?_, bdn1 (bre _) _⟩
    exact ret_str (by rw [on6_min nm _ (by omega), HT2.out]; rfl)

set_option maxHeartbeats 4000000 in
set_option maxRecDepth 100000 in
theorem lawOther_any (nm : ByteArray) (g : Int) (w : World) (hz : (nm.size : Int) ≤ 9223372036854775807) (h0 : -9223372036854775808 ≤ g) (h1 : g ≤ 9223372036854775807) (htab : Lib.TabIs Tryd.prog w "internal/strconv.uint64pow10" .u64 Lib.pow10Tab) :
    Calls Tryd.prog 3 #[.string nm, .int .i64 g] w fun e w' => e = .returned (.bool true) ∧ Below w.heap.size w w' := by
  by_cases hn : (1048576 : Int) < (nm.size : Int)
  · clear htab
    go_enter Tryd.func3, Tryd.ntmps3
    go_wp2
    go_ret
    exact ⟨rfl, bre _⟩
  · have HT := hide htab
    have C1 := hide (fun W => specOther_any nm g W (by omega) h1)
    have C2 := hide (fun W h => implOther_any nm g W (by omega) h0 h1 h)
    obtain ⟨r, hr⟩ : ∃ r, onm nm g = r := ⟨_, rfl⟩
    rw [hr] at C1 C2
    have hrr : (!r.toList == r.toList) = false := by simp
    clear htab hr
    go_enter Tryd.func3, Tryd.ntmps3
    go_wp2_with fail
    refine (C1.out _).mono ?_; rintro e w1 ⟨rfl, hb1⟩
    have B1 := hide hb1
    clear hb1
    go_wp2_with fail
    refine (C2.out _ (tab_later B1.out HT.out)).mono ?_; rintro e w2 ⟨rfl, hb2⟩
    have B2 := hide (btr B1.out hb2)
    clear hb2
    go_wp2
    go_ret
    exact ⟨rfl, B2.out⟩
end Go.Proofs.YtanahkieondboaaDoor
