/- Numbers and texts read from a place on: what is answered, in one word each. -/
import Derived.Test.YtldcmfkmnjdfiaaMailTx
namespace Go.Proofs.Ytldcmfkmnjdfiaa
open Go.RowKit

def rd (s : ByteArray) (a : Int) : Option (Int × Int) :=
  if 0 ≤ a ∧ a ≤ s.size then (rv 5 (s.data.toList.drop a.toNat) 0 0).map fun p => ((p.1 : Int), a + (p.2 : Int)) else none
def rsh (s : ByteArray) (a : Int) : Option (ByteArray × Int) :=
  (rd s a).bind fun p => if p.1 ≤ 20000 ∧ p.2 + p.1 ≤ s.size then some (s.extract p.2.toNat (p.2 + p.1).toNat, p.2 + p.1) else none
def rdT (s : ByteArray) (a : Int) : Value := match rd s a with
  | some p => .tuple #[.int .i64 p.1, .int .i64 p.2, .bool true]
  | none => .tuple #[.int .i64 0, .int .i64 0, .bool false]
def rshT (s : ByteArray) (a : Int) : Value := match rsh s a with
  | some p => .tuple #[.string p.1, .int .i64 p.2, .bool true]
  | none => .tuple #[.string ⟨#[]⟩, .int .i64 0, .bool false]

theorem rd_out {s : ByteArray} {a : Int} (h : a < 0 ∨ s.size < a) : rd s a = none := by unfold rd; rw [if_neg (by omega)]
theorem rd_in {s : ByteArray} {a : Nat} (h : a ≤ s.size) : rd s a = (rv 5 (s.data.toList.drop a) 0 0).map fun p => ((p.1 : Int), (a : Int) + (p.2 : Int)) := by
  unfold rd; rw [if_pos (by omega)]; rfl
theorem rd_some {s : ByteArray} {a n c : Int} (h : rd s a = some (n, c)) : 0 ≤ n ∧ n ≤ 1000000000 ∧ 0 ≤ a ∧ a ≤ c ∧ c ≤ s.size := by
  by_cases ha : 0 ≤ a ∧ a ≤ s.size
  · obtain ⟨k, rfl⟩ : ∃ k : Nat, a = k := ⟨a.toNat, by omega⟩
    rw [rd_in (by omega)] at h
    cases hr : rv 5 (s.data.toList.drop k) 0 0 with
    | none => rw [hr] at h; cases h
    | some p =>
      obtain ⟨m, d⟩ := p
      rw [hr] at h
      simp only [Option.map_some, Option.some.injEq, Prod.mk.injEq] at h
      have := rv_place (by omega) hr
      omega
  · rw [rd_out (by omega)] at h; cases h

theorem rdT_rv {s : ByteArray} {a : Nat} {e : Ending} (h : a ≤ s.size) (he : RvEnd (rv 5 (s.data.toList.drop a) 0 0) a e) : e = .returned (rdT s a) := by
  unfold rdT
  rw [rd_in h]
  cases hr : rv 5 (s.data.toList.drop a) 0 0 with
  | none => rw [hr] at he; exact he
  | some p =>
    obtain ⟨m, d⟩ := p
    rw [hr] at he
    simp only [RvEnd] at he
    rw [he]; simp
theorem specRd (s : ByteArray) (a : Int) (w : World) (hs : s.size ≤ 1048576) : Calls Try.prog 60 #[.string s, .int .i64 a] w fun e w' => e = .returned (rdT s a) ∧ Below w.heap.size w w' := by
  by_cases ha : 0 ≤ a ∧ a ≤ s.size
  · obtain ⟨k, rfl⟩ : ∃ k : Nat, a = k := ⟨a.toNat, by omega⟩
    exact (specRead_any s k w hs (by omega)).mono fun e w' h => ⟨rdT_rv (by omega) h.1, h.2⟩
  · have e : rdT s a = .tuple #[.int .i64 0, .int .i64 0, .bool false] := by unfold rdT; rw [rd_out (by omega)]
    rw [e]
    exact (specRead_no s a w hs (by omega)).mono fun e w' h => ⟨h.1, h.2 ▸ bre _⟩
theorem implRd (s : ByteArray) (a : Int) (w : World) (hs : s.size ≤ 1048576) : Calls Try.prog 74 #[.string s, .int .i64 a] w fun e w' => e = .returned (rdT s a) ∧ Below w.heap.size w w' := by
  by_cases ha : 0 ≤ a ∧ a ≤ s.size
  · obtain ⟨k, rfl⟩ : ∃ k : Nat, a = k := ⟨a.toNat, by omega⟩
    exact (implRead_any s k w hs (by omega)).mono fun e w' h => ⟨rdT_rv (by omega) h.1, h.2⟩
  · have e : rdT s a = .tuple #[.int .i64 0, .int .i64 0, .bool false] := by unfold rdT; rw [rd_out (by omega)]
    rw [e]
    exact (implRead_no s a w (by omega)).mono fun e w' h => ⟨h.1, h.2 ▸ bre _⟩

/-- The three ways in which a short text is read. -/
theorem rsh_ways (s : ByteArray) (a : Int) :
    (((a < 0 ∨ s.size < a) ∨ (0 ≤ a ∧ a ≤ s.size ∧ rv 5 (s.data.toList.drop a.toNat) 0 0 = none)) ∧ rshT s a = .tuple #[.string ⟨#[]⟩, .int .i64 0, .bool false]) ∨
    (∃ k n d : Nat, a = k ∧ k ≤ s.size ∧ rv 5 (s.data.toList.drop k) 0 0 = some (n, d) ∧ (20000 < n ∨ s.size < k + d + n) ∧ rshT s a = .tuple #[.string ⟨#[]⟩, .int .i64 0, .bool false]) ∨
    (∃ k n d : Nat, a = k ∧ k ≤ s.size ∧ rv 5 (s.data.toList.drop k) 0 0 = some (n, d) ∧ n ≤ 20000 ∧ k + d + n ≤ s.size ∧ rshT s a = .tuple #[.string (s.extract (k + d) (k + d + n)), .int .i64 (k + d + n : Nat), .bool true]) := by
  by_cases ha : 0 ≤ a ∧ a ≤ s.size
  · obtain ⟨k, rfl⟩ : ∃ k : Nat, a = k := ⟨a.toNat, by omega⟩
    have e := rd_in (s := s) (a := k) (by omega)
    cases hr : rv 5 (s.data.toList.drop k) 0 0 with
    | none =>
      rw [hr] at e
      exact Or.inl ⟨Or.inr ⟨by omega, by omega, by simpa using hr⟩, by unfold rshT rsh; rw [e]; rfl⟩
    | some p =>
      obtain ⟨n, d⟩ := p
      rw [hr] at e
      simp only [Option.map_some] at e
      by_cases h2 : n ≤ 20000 ∧ k + d + n ≤ s.size
      · refine Or.inr (Or.inr ⟨k, n, d, rfl, by omega, hr, h2.1, h2.2, ?_⟩)
        unfold rshT rsh
        rw [e]
        simp only [Option.bind_some]
        rw [if_pos (by omega)]
        have e1 : ((k : Int) + (d : Int)).toNat = k + d := by omega
        have e2 : ((k : Int) + (d : Int) + (n : Int)).toNat = k + d + n := by omega
        have e3 : (k : Int) + (d : Int) + (n : Int) = ((k + d + n : Nat) : Int) := by omega
        rw [e1, e2, e3]
      · refine Or.inr (Or.inl ⟨k, n, d, rfl, by omega, hr, by omega, ?_⟩)
        unfold rshT rsh
        rw [e]
        simp only [Option.bind_some]
        rw [if_neg (by omega)]
  · exact Or.inl ⟨Or.inl (by omega), by unfold rshT rsh; rw [rd_out (by omega)]; rfl⟩
theorem specRsh (s : ByteArray) (a : Int) (w : World) (hs : s.size ≤ 1048576) : Calls Try.prog 61 #[.string s, .int .i64 a] w fun e w' => e = .returned (rshT s a) ∧ Below w.heap.size w w' := by
  rcases rsh_ways s a with ⟨h, e⟩ | ⟨k, n, d, rfl, hk, hr, hb, e⟩ | ⟨k, n, d, rfl, hk, hr, h2, h3, e⟩
  · rw [e]; exact specRShort_no s a w hs h
  · rw [e]; exact specRShort_bad s k n d w hs hk hr hb
  · rw [e]; exact specRShort_yes s k n d w hs hk hr h2 h3
theorem implRsh (s : ByteArray) (a : Int) (w : World) (hs : s.size ≤ 1048576) : Calls Try.prog 76 #[.string s, .int .i64 a] w fun e w' => e = .returned (rshT s a) ∧ Below w.heap.size w w' := by
  rcases rsh_ways s a with ⟨h, e⟩ | ⟨k, n, d, rfl, hk, hr, hb, e⟩ | ⟨k, n, d, rfl, hk, hr, h2, h3, e⟩
  · rw [e]; exact implRShort_no s a w hs h
  · rw [e]; exact implRShort_bad s k n d w hs hk hr hb
  · rw [e]; exact implRShort_yes s k n d w hs hk hr h2 h3
end Go.Proofs.Ytldcmfkmnjdfiaa
