/- Mails joined. -/
import Derived.Test.YtfmacodnjhegcamGreatMailEq
import Derived.Test.YtfmacodnjhegcamGreatClone
import Derived.Lib.BufferMore
namespace Go.Proofs.YtfmacodnjhegcamGreat
open Go.RowKit

/-- The greater text. -/
def mxs (x y : ByteArray) : ByteArray := if Op.bytesLess x.toList y.toList = true then y else x
theorem less_tri : ∀ (x y : List UInt8), Op.bytesLess x y = !(Op.bytesLess y x || y == x)
  | [], [] => rfl
  | _ :: _, [] => by simp [Op.bytesLess]
  | [], _ :: _ => by simp [Op.bytesLess]
  | a :: x, b :: y => by
    have ih := less_tri x y
    simp only [Op.bytesLess, List.cons_beq_cons]
    have h3 : a.toNat < b.toNat ∨ a.toNat = b.toNat ∨ b.toNat < a.toNat := by omega
    rcases h3 with h | h | h
    · have h1 : a < b := UInt8.lt_iff_toNat_lt.2 h
      have h2 : ¬ b < a := fun k => by have := UInt8.lt_iff_toNat_lt.1 k; omega
      have h4 : (b == a) = false := beq_eq_false_iff_ne.2 (fun e => by rw [e] at h; omega)
      simp [h1, h2, h4]
    · obtain rfl := UInt8.toNat_inj.1 h
      have h1 : ¬ a < a := fun k => by have := UInt8.lt_iff_toNat_lt.1 k; omega
      simp [h1, ih]
    · have h1 : b < a := UInt8.lt_iff_toNat_lt.2 h
      have h2 : ¬ a < b := fun k => by have := UInt8.lt_iff_toNat_lt.1 k; omega
      have h4 : (a == b) = false := beq_eq_false_iff_ne.2 (fun e => by rw [e] at h; omega)
      simp [h1, h2, h4]
theorem run_max_str {P : Program} (w : World) (ts : Array TypeId) (ty : TypeId) (x y : ByteArray) : (Builtin.max_ ts ty #[.string x, .string y]).run P w = .ok (.string (mxs x y)) w := by
  by_cases h : Op.bytesLess x.toList y.toList = true
  · simp [Builtin.max_, Builtin.max2, Op.stringOp, asBool, mxs, h]
  · simp [Builtin.max_, Builtin.max2, Op.stringOp, asBool, mxs, h]

set_option maxHeartbeats 400000 in
set_option maxRecDepth 100000 in
theorem cloneRg_any (ao : Option Addr) (n cap : Nat) (l : List R3) (w : World) (hl : l.length = n) (hn : n ≤ 1048576) (hr : Rs w ao l) (h0 : ao = none → cap = 0) :
    Calls Tryz.prog 75 #[.slice ao n cap] w fun e w' => ∃ v, e = .returned v ∧ Ow w' w.heap.size v l ∧ Below w.heap.size w w' := by
  have HR := hid hr
  have HL := hid hl
  have HN := hid hn
  clear hr hl hn
  cases ao with
  | none =>
    have hn0 : n = 0 := by
      by_cases h : 0 < n
      · obtain ⟨_, _, h1, _⟩ := HR.out (by rw [HL.out]; exact h)
        cases h1
      · omega
    subst hn0
    obtain rfl := h0 rfl
    have hle : l = [] := List.eq_nil_of_length_eq_zero HL.out
    subst hle
    clear h0
    have hnil : ∀ W, (binOp .eql 48 (.slice none 0 0) (.slice none 0 0)).run Tryz.prog W = .ok (.bool true) W := fun W => Lib.run_eql_slice_nil_nil W 0 0 Tryz.underlying48
    go_enter Tryz.func75, Tryz.ntmps75
    go_wp2
    go_ret
    exact ⟨_, rfl, ⟨rfl, .inl ⟨rfl, rfl⟩⟩, bre _⟩
  | some ad =>
    clear h0
    obtain ⟨i0, hi, hz0, hz1, hz2⟩ := info_parts3 info_rg
    have HSRC : Hid (∀ j u, (fl l)[j]? = some u → (w.alloc (.cells #[] 78)).cell? (ad.add j) = some u) := by
      intro j u hu
      have hj : j < (fl l).length := (List.getElem?_eq_some_iff.1 hu).1
      rw [fl_len] at hj
      obtain ⟨k, o, h1, h2, h3⟩ := (HR.out.later (bpush (bre _) _)) (by omega)
      simp only [Option.some.injEq] at h1
      subst h1
      exact h3.all j u hu
    have hnil : ∀ W, (binOp .eql 48 (.slice (some ad) n cap) (.slice none 0 0)).run Tryz.prog W = .ok (.bool false) W := fun W => Lib.run_eql_slice_some_nil W ad n cap Tryz.underlying48
    go_enter Tryz.func75, Tryz.ntmps75
    go_wp2_with (at_builtin; refine wpList_append_own _ rfl (.tmp 5) (.tmp 6) 48 rfl w.heap.size 78 i0 _ 3 24 Tryz.underlying48 hi hz0 hz1 hz2 rfl (by decide) _ 0 [] (by rfl) (own_empty w _ (Nat.le_refl _)) ad n cap (fl l) (by rfl) (by rw [fl_len, HL.out]) HSRC.out (fl_one l) (by have := HN.out; unfold maxLen; omega) (by have := HN.out; omega) (by simp) ?_; intro v1 w1 hown1 hg1 _)
    go_ret
    exact ⟨_, rfl, by simpa [Ow, HL.out] using hown1, (bpush (bre _) _).grown hg1 (by simp) (by intro k hk; simp [Value.ownBlock] at hk; omega)⟩
end Go.Proofs.YtfmacodnjhegcamGreat
