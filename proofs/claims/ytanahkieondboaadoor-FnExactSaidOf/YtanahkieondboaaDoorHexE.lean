/- The walks of the two functions that write figures for bytes, and of the law over them. -/
import Derived.Test.YtanahkieondboaaDoorDecE
import Derived.Deep.RegionHeld3
namespace Go.Proofs.YtanahkieondboaaDoor
open Go.RowKit

/-- The figure of a number below 16. -/
def fig (x : Nat) : UInt8 := if x < 10 then UInt8.ofNat (48 + x) else UInt8.ofNat (87 + x)

theorem fig_lo (x : Nat) (h : x < 10) : ((fig x).toNat : Int) = 48 + (x : Int) := by
  unfold fig; rw [if_pos h, u8_nat _ (by omega)]; simp
theorem fig_hi (x : Nat) (h : ¬ x < 10) (h2 : x < 16) : ((fig x).toNat : Int) = 97 + (x : Int) - 10 := by
  unfold fig; rw [if_neg h, u8_nat _ (by omega)]; omega

/-- Two figures a byte. -/
def hexOf : List UInt8 → List UInt8
  | [] => []
  | c :: l => fig (c.toNat / 16) :: fig (c.toNat % 16) :: hexOf l

theorem hexOf_snoc (l : List UInt8) (c : UInt8) : hexOf (l ++ [c]) = hexOf l ++ [fig (c.toNat / 16), fig (c.toNat % 16)] := by
  induction l with
  | nil => rfl
  | cons b l ih => simp [hexOf, ih]
theorem hexOf_len (l : List UInt8) : (hexOf l).length = 2 * l.length := by
  induction l with
  | nil => rfl
  | cons b l ih => simp [hexOf, ih]; omega

theorem hex_step (s : ByteArray) (k : Nat) (h : k < s.size) : hexOf (s.data.toList.take (k + 1)) = hexOf (s.data.toList.take k) ++ [fig (s[k].toNat / 16), fig (s[k].toNat % 16)] := by
  rw [List.take_succ_eq_append_getElem (by rw [Array.length_toList]; exact h), hexOf_snoc]; rfl

theorem figure_any (x : Nat) (w : World) (h : x < 16) :
    Calls Tryd.prog 28 #[.int .i64 x] w fun e w' => e = .returned (.int .u8 (fig x).toNat) ∧ w = w' := by
  by_cases h1 : x < 10
  · go_enter Tryd.func28, Tryd.ntmps28
    go_wp2
    go_ret
    exact ⟨ret_int (by rw [fig_lo x h1]), rfl⟩
  · go_enter Tryd.func28, Tryd.ntmps28
    go_wp2
    go_ret
    exact ⟨ret_int (by rw [fig_hi x h1 h]), rfl⟩

/-- Two bytes appended to a row of bytes that the call owns, as one step of a region that draws its order. -/
theorem step_append_two {P : Program} {ops : Array Oper} {o : Oper} {a : Act} {w : World} {K : Act → World → Prop} {Q : Exit → Act → World → Prop} {E : Prop}
    (hg : o.guard = none) (s x : Operand) (t : TypeId) (hop : o.op = Op.call { callee := Callee.builtin Builtin.append, args := #[s, x], argTypes := #[t, t] })
    (base : Nat) (e : TypeId) (hinfo : (P.info? e).map (fun i => (i.zero, i.size, i.bytes)) = some (some (.int .u8 0), 1, 1)) (ht : P.underlying t = some (.slice e))
    (v : Value) (bs : List UInt8) (hs : a.eval s = v) (hown : w.ownsRow base e 1 v bs.length (bs.map bv)) (ad : Addr) (b1 b2 : UInt8)
    (hx : a.eval x = .slice (some ad) 2 2) (hc : ∀ j u, [bv b1, bv b2][j]? = some u → w.cell? (ad.add j) = some u) (hlen : bs.length ≤ 70368744177664) (hbase : base ≤ w.heap.size)
    (hK : ∀ v' w', w'.ownsRow base e 1 v' (bs ++ [b1, b2]).length ((bs ++ [b1, b2]).map bv) → Below base w w' → K (a.put o.dst v') w') :
    if Region.wanted o (yielded ops a.tmps) = true then Oper.wp P o a w K Q else E := by
  have hw : Region.wanted o (yielded ops a.tmps) = true := by simp [Region.wanted, hg]
  rw [if_pos hw]
  obtain ⟨i0, hi, hz0, hz1, hz2⟩ := info_parts hinfo
  refine wp_append_own w s x t hop base e i0 (.int .u8 0) 1 1 ht hi hz0 hz1 hz2 rfl (by decide) v _ _ hs hown ad 2 2 [bv b1, bv b2] hx rfl hc (by intro u hu; simp at hu; rcases hu with rfl | rfl <;> rfl) (by unfold maxLen; omega) (by omega) hbase ?_
  intro v' w' hown' hgr _
  exact hK v' w' (by simpa using hown') ((Below.refl base w).grown hgr hbase (fun k hk => (hown.lt k hk).1))

set_option maxHeartbeats 400000 in
theorem specHex_yes (s : ByteArray) (w : World) (hs : s.size ≤ 20000) :
    Calls Tryd.prog 17 #[.string s] w fun e w' => e = .returned (.tuple #[.string ⟨(hexOf s.data.toList).toArray⟩, .bool true]) ∧ Below w.heap.size w w' := by
  go_enter Tryd.func17, Tryd.ntmps17
  go_wp2
  go_loopw [4, 5] (fun v iv wr => ∃ (k : Nat) (bs : List UInt8), k ≤ s.size ∧ iv = .int .i64 (k : Int) ∧ bs = hexOf (s.data.toList.take k) ∧ wr.ownsRow w.heap.size 5 1 v bs.length (bs.map bv) ∧ Below w.heap.size w wr)
    (fun _ iv _ => s.size - (intOf iv).toNat)
  case atStart => exact ⟨0, [], Nat.zero_le _, rfl, rfl, World.ownsRow_made w #[] 0 (Nat.le_refl _) (by decide) rfl, (Below.refl _ _).alloc (Nat.le_refl _) _⟩
  case round =>
    obtain ⟨k, bs, hk, rfl, hbs, hown, hnx⟩ := hrel
    have HB : Hid (bs = hexOf (s.data.toList.take k)) := hbs
    clear hbs
    have hsz := hnx.size
    have hlen : bs.length ≤ 40000 := by rw [HB.out, hexOf_len, List.length_take]; omega
    have HL : Hid (bs.length ≤ 70368744177664) := by show _ ≤ _; omega
    have HZ : Hid (w.heap.size ≤ wr.heap.size + 1) := by show _ ≤ _; omega
    have HX : Hid (Below w.heap.size w wr) := hnx
    have HS : Hid (w.heap.size ≤ wr.heap.size) := hsz
    by_cases hlt : k < s.size
    · obtain ⟨c, hcx⟩ : ∃ c : Nat, s[k].toNat = c := ⟨_, rfl⟩
      have hcb : c < 256 := by rw [← hcx]; exact s[k].toNat_lt
      have HC : Hid (s[k].toNat = c) := hcx
      have hI : (0 : Int) ≤ (k : Int) ∧ (k : Int) < (s.size : Int) := by omega
      obtain ⟨q, hq⟩ : ∃ q : Nat, c / 16 = q := ⟨_, rfl⟩
      obtain ⟨r, hr⟩ : ∃ r : Nat, c % 16 = r := ⟨_, rfl⟩
      have hqi : (c : Int) / 16 = (q : Int) := by omega
      have hri : (c : Int) % 16 = (r : Int) := by omega
      have hqb : q < 16 := by omega
      have hrb : r < 16 := by omega
      have HQ : Hid (c / 16 = q) := hq
      have HRr : Hid (c % 16 = r) := hr
      clear hq hr
      go_wp2_with fail
      have hw0 : IntKind.i64.wrap (c : Int) = (c : Int) := by rw [IntKind.wrap_i64]; omega
      have hw1 : IntKind.i64.wrap ((c : Int) / 16) = (q : Int) := by rw [IntKind.wrap_i64]; omega
      have hw2 : (c : Int).tmod 16 = (r : Int) := by rw [Int.tmod_eq_emod_of_nonneg (by omega)]; omega
      clear hqi hcb hlen hnx hsz
      go_region_held3 (fun _ => True) (trivial) ((first
        | (refine step_append_two rfl (.tmp 16) (.tmp 29) 53 rfl w.heap.size 5 Tryd.info5 Tryd.underlying53 _ bs (by rfl) (by exact hown.alloc _) ⟨wr.heap.size, 0, none⟩ (fig q) (fig r) (by rfl) (by exact cell_two_new _ _ _ _) HL.out (by have := HZ.out; simp; exact this) ?_; intro v1 w1 hown1 hb1)
        | (go_at_call_of 28 (q : Int); refine (figure_any q _ hqb).mono ?_; rintro e w' ⟨rfl, rfl⟩)
        | (go_at_call_of 28 (r : Int); refine (figure_any r _ hrb).mono ?_; rintro e w' ⟨rfl, rfl⟩)))
      all_goals
        go_wp2
        go_roundw
        case rel => exact ⟨k + 1, bs ++ [fig q, fig r], by omega, by go_num, by rw [HB.out, ← HQ.out, ← HRr.out, ← HC.out]; exact (hex_step s k hlt).symm, hown1, ((HX.out.alloc HS.out _).drew).trans hb1⟩
        case measure => simp [intOf]; omega
    · have hcv := run_string_own (P := Tryd.prog) wr 53 9 5 Tryd.underlying53 Tryd.underlying5 Tryd.underlying9 _ hown
      go_wp2
      go_ret2
      exact ⟨ret_strok (by rw [HB.out, List.take_of_length_le (by rw [Array.length_toList]; exact Nat.le_of_not_lt hlt)]), hnx⟩

theorem specHex_no (s : ByteArray) (w : World) (hm : s.size ≤ 1048576) (hs : ¬ s.size ≤ 20000) :
    Calls Tryd.prog 17 #[.string s] w fun e w' => e = .returned (.tuple #[.string ⟨#[]⟩, .bool false]) ∧ w = w' := by
  go_enter Tryd.func17, Tryd.ntmps17
  go_wp2
  go_ret2
  exact ⟨rfl, rfl⟩
end Go.Proofs.YtanahkieondboaaDoor
