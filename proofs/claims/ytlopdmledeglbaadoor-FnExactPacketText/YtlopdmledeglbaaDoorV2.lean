/- MailRd, MailCur, MailRm, MailRs, MailTrip, Crc, Sum, SpecSum, Four, Seal, SpecSeal, MailNum, MailCat. -/
import Derived.Test.YtlopdmledeglbaaDoorV1
namespace Go.Proofs.YtlopdmledeglbaaDoor
open Go.RowKit
def rd (s : ByteArray) (a : Int) : Option (Int × Int) :=
  if 0 ≤ a ∧ a ≤ s.size then (rv 5 (s.data.toList.drop a.toNat) 0 0).map fun p => ((p.1 : Int), a + (p.2 : Int)) else none
def rsh (s : ByteArray) (a : Int) : Option (ByteArray × Int) :=
  (rd s a).bind fun p => if p.1 ≤ 20000 ∧ p.2 + p.1 ≤ s.size then some (s.extract p.2.toNat (p.2 + p.1).toNat, p.2 + p.1) else none
def rdT (s : ByteArray) (a : Int) : Value := match rd s a with
  | some p => .tuple #[.int .i64 p.1, .int .i64 p.2, .bool true]
  | none => .tuple #[.int .i64 0, .int .i64 0, .bool false]
def rshT (s : ByteArray) (a : Int) : Value := match rsh s a with
  | some p => .tuple #[.string p.1, .int .i64 p.2, .bool true]
  | none => .tuple #[.string ⟨#[]⟩, .int .i64 0, .bool false]
theorem rd_out {s : ByteArray} {a : Int} (h : a < 0 ∨ s.size < a) : rd s a = none := by unfold rd; rw [if_neg (by omega)]
theorem rd_in {s : ByteArray} {a : Nat} (h : a ≤ s.size) : rd s a = (rv 5 (s.data.toList.drop a) 0 0).map fun p => ((p.1 : Int), (a : Int) + (p.2 : Int)) := by
  unfold rd; rw [if_pos (by omega)]; rfl
theorem rd_some {s : ByteArray} {a n c : Int} (h : rd s a = some (n, c)) : 0 ≤ n ∧ n ≤ 1000000000 ∧ 0 ≤ a ∧ a ≤ c ∧ c ≤ s.size := by
  by_cases ha : 0 ≤ a ∧ a ≤ s.size
  · obtain ⟨k, rfl⟩ : ∃ k : Nat, a = k := ⟨a.toNat, by omega⟩
    rw [rd_in (by omega)] at h
    cases hr : rv 5 (s.data.toList.drop k) 0 0 with
    | none => rw [hr] at h; cases h
    | some p =>
      obtain ⟨m, d⟩ := p
      rw [hr] at h
      simp only [Option.map_some, Option.some.injEq, Prod.mk.injEq] at h
      have := rv_place (by omega) hr
      omega
  · rw [rd_out (by omega)] at h; cases h
theorem rdT_rv {s : ByteArray} {a : Nat} {e : Ending} (h : a ≤ s.size) (he : RvEnd (rv 5 (s.data.toList.drop a) 0 0) a e) : e = .returned (rdT s a) := by
  unfold rdT
  rw [rd_in h]
  cases hr : rv 5 (s.data.toList.drop a) 0 0 with
  | none => rw [hr] at he; exact he
  | some p =>
    obtain ⟨m, d⟩ := p
    rw [hr] at he
    simp only [RvEnd] at he
    rw [he]; simp
theorem specRd (s : ByteArray) (a : Int) (w : World) (hs : s.size ≤ 1048576) : Calls Tryd.prog 30 #[.string s, .int .i64 a] w fun e w' => e = .returned (rdT s a) ∧ Below w.heap.size w w' := by
  by_cases ha : 0 ≤ a ∧ a ≤ s.size
  · obtain ⟨k, rfl⟩ : ∃ k : Nat, a = k := ⟨a.toNat, by omega⟩
    exact (specRead_any s k w hs (by omega)).mono fun e w' h => ⟨rdT_rv (by omega) h.1, h.2⟩
  · have e : rdT s a = .tuple #[.int .i64 0, .int .i64 0, .bool false] := by unfold rdT; rw [rd_out (by omega)]
    rw [e]
    exact (specRead_no s a w hs (by omega)).mono fun e w' h => ⟨h.1, h.2 ▸ bre _⟩
theorem implRd (s : ByteArray) (a : Int) (w : World) (hs : s.size ≤ 1048576) : Calls Tryd.prog 42 #[.string s, .int .i64 a] w fun e w' => e = .returned (rdT s a) ∧ Below w.heap.size w w' := by
  by_cases ha : 0 ≤ a ∧ a ≤ s.size
  · obtain ⟨k, rfl⟩ : ∃ k : Nat, a = k := ⟨a.toNat, by omega⟩
    exact (implRead_any s k w hs (by omega)).mono fun e w' h => ⟨rdT_rv (by omega) h.1, h.2⟩
  · have e : rdT s a = .tuple #[.int .i64 0, .int .i64 0, .bool false] := by unfold rdT; rw [rd_out (by omega)]
    rw [e]
    exact (implRead_no s a w (by omega)).mono fun e w' h => ⟨h.1, h.2 ▸ bre _⟩
/-- The three ways in which a short text is read. -/
theorem rsh_ways (s : ByteArray) (a : Int) :
    (((a < 0 ∨ s.size < a) ∨ (0 ≤ a ∧ a ≤ s.size ∧ rv 5 (s.data.toList.drop a.toNat) 0 0 = none)) ∧ rshT s a = .tuple #[.string ⟨#[]⟩, .int .i64 0, .bool false]) ∨
    (∃ k n d : Nat, a = k ∧ k ≤ s.size ∧ rv 5 (s.data.toList.drop k) 0 0 = some (n, d) ∧ (20000 < n ∨ s.size < k + d + n) ∧ rshT s a = .tuple #[.string ⟨#[]⟩, .int .i64 0, .bool false]) ∨
    (∃ k n d : Nat, a = k ∧ k ≤ s.size ∧ rv 5 (s.data.toList.drop k) 0 0 = some (n, d) ∧ n ≤ 20000 ∧ k + d + n ≤ s.size ∧ rshT s a = .tuple #[.string (s.extract (k + d) (k + d + n)), .int .i64 (k + d + n : Nat), .bool true]) := by
  by_cases ha : 0 ≤ a ∧ a ≤ s.size
  · obtain ⟨k, rfl⟩ : ∃ k : Nat, a = k := ⟨a.toNat, by omega⟩
    have e := rd_in (s := s) (a := k) (by omega)
    cases hr : rv 5 (s.data.toList.drop k) 0 0 with
    | none =>
      rw [hr] at e
      exact Or.inl ⟨Or.inr ⟨by omega, by omega, by simpa using hr⟩, by unfold rshT rsh; rw [e]; rfl⟩
    | some p =>
      obtain ⟨n, d⟩ := p
      rw [hr] at e
      simp only [Option.map_some] at e
      by_cases h2 : n ≤ 20000 ∧ k + d + n ≤ s.size
      · refine Or.inr (Or.inr ⟨k, n, d, rfl, by omega, hr, h2.1, h2.2, ?_⟩)
        unfold rshT rsh
        rw [e]
        simp only [Option.bind_some]
        rw [if_pos (by omega)]
        have e1 : ((k : Int) + (d : Int)).toNat = k + d := by omega
        have e2 : ((k : Int) + (d : Int) + (n : Int)).toNat = k + d + n := by omega
        have e3 : (k : Int) + (d : Int) + (n : Int) = ((k + d + n : Nat) : Int) := by omega
        rw [e1, e2, e3]
      · refine Or.inr (Or.inl ⟨k, n, d, rfl, by omega, hr, by omega, ?_⟩)
        unfold rshT rsh
        rw [e]
        simp only [Option.bind_some]
        rw [if_neg (by omega)]
  · exact Or.inl ⟨Or.inl (by omega), by unfold rshT rsh; rw [rd_out (by omega)]; rfl⟩
theorem specRsh (s : ByteArray) (a : Int) (w : World) (hs : s.size ≤ 1048576) : Calls Tryd.prog 31 #[.string s, .int .i64 a] w fun e w' => e = .returned (rshT s a) ∧ Below w.heap.size w w' := by
  rcases rsh_ways s a with ⟨h, e⟩ | ⟨k, n, d, rfl, hk, hr, hb, e⟩ | ⟨k, n, d, rfl, hk, hr, h2, h3, e⟩
  · rw [e]; exact specRShort_no s a w hs h
  · rw [e]; exact specRShort_bad s k n d w hs hk hr hb
  · rw [e]; exact specRShort_yes s k n d w hs hk hr h2 h3
theorem implRsh (s : ByteArray) (a : Int) (w : World) (hs : s.size ≤ 1048576) : Calls Tryd.prog 43 #[.string s, .int .i64 a] w fun e w' => e = .returned (rshT s a) ∧ Below w.heap.size w w' := by
  rcases rsh_ways s a with ⟨h, e⟩ | ⟨k, n, d, rfl, hk, hr, hb, e⟩ | ⟨k, n, d, rfl, hk, hr, h2, h3, e⟩
  · rw [e]; exact implRShort_no s a w hs h
  · rw [e]; exact implRShort_bad s k n d w hs hk hr hb
  · rw [e]; exact implRShort_yes s k n d w hs hk hr h2 h3
/-- Block k holds a cursor. -/
def Cg (W : World) (k : Nat) (s : ByteArray) (b : Int) (bad : Bool) : Prop := W.heap[k]? = some (.cells #[.string s, .int .i64 b, .bool bad] 41 (0, 0))
theorem Cg.lt {W : World} {k : Nat} {s : ByteArray} {b : Int} {bad : Bool} (h : Cg W k s b bad) : k < W.heap.size := (Array.getElem?_eq_some_iff.1 h).1
theorem Cg.later {W W' : World} {k : Nat} {s : ByteArray} {b : Int} {bad : Bool} (h : Cg W k s b bad) (hb : Below W.heap.size W W') : Cg W' k s b bad := (hb.block k h.lt).trans h
theorem Cg.cells {W : World} {k : Nat} {s : ByteArray} {b : Int} {bad : Bool} (h : Cg W k s b bad) : W.cell? ⟨k, 0, none⟩ = some (.string s) ∧ W.cell? ⟨k, 1, none⟩ = some (.int .i64 b) ∧ W.cell? ⟨k, 2, none⟩ = some (.bool bad) :=
  ⟨cell_of_row W k 0 _ _ _ h, cell_of_row W k 1 _ _ _ h, cell_of_row W k 2 _ _ _ h⟩
theorem Cg.loose {W : World} {k : Nat} {s : ByteArray} {b : Int} {bad : Bool} (h : Cg W k s b bad) : W.frozen? ⟨k, 0, none⟩ = false ∧ W.frozen? ⟨k, 1, none⟩ = false ∧ W.frozen? ⟨k, 2, none⟩ = false :=
  ⟨frozen_of_row W k 0 _ _ h, frozen_of_row W k 1 _ _ h, frozen_of_row W k 2 _ _ h⟩
theorem Cg.s1 {W : World} {k : Nat} {s : ByteArray} {b : Int} {bad : Bool} (h : Cg W k s b bad) (b' : Int) : Cg (W.setCell ⟨k, 1, none⟩ (.int .i64 b')) k s b' bad := heap_setCell_same W k 1 _ _ (.int .i64 b') h
theorem Cg.s2 {W : World} {k : Nat} {s : ByteArray} {b : Int} {bad : Bool} (h : Cg W k s b bad) (bad' : Bool) : Cg (W.setCell ⟨k, 2, none⟩ (.bool bad')) k s b bad' := heap_setCell_same W k 2 _ _ (.bool bad') h
/-- What a cursor comes to when a number is read: the number, the place, and whether it is bad. -/
def nxt (s : ByteArray) (b : Int) (bad : Bool) (n b' : Int) (bad' : Bool) : Prop :=
  (bad = false ∧ bad' = false ∧ rd s b = some (n, b')) ∨ (bad' = true ∧ n = 0 ∧ b' = b ∧ (bad = true ∨ rd s b = none))
def nxtS (s : ByteArray) (b : Int) (bad : Bool) (t : ByteArray) (b' : Int) (bad' : Bool) : Prop :=
  (bad = false ∧ bad' = false ∧ rsh s b = some (t, b')) ∨ (bad' = true ∧ t = ⟨#[]⟩ ∧ b' = b ∧ (bad = true ∨ rsh s b = none))
/-- How a call ends that reads a number, a text, by the cursor at block k. -/
def Var1 (w : World) (k : Nat) (s : ByteArray) (b : Int) (bad : Bool) (e : Ending) (w' : World) : Prop := ∃ n b' bad', e = .returned (.int .i64 n) ∧ Cg w' k s b' bad' ∧ nxt s b bad n b' bad' ∧ w.grownBy w' (some k)
def Short1 (w : World) (k : Nat) (s : ByteArray) (b : Int) (bad : Bool) (e : Ending) (w' : World) : Prop := ∃ t b' bad', e = .returned (.string t) ∧ Cg w' k s b' bad' ∧ nxtS s b bad t b' bad' ∧ w.grownBy w' (some k)
theorem rd_l (s : ByteArray) (b : Int) (hs : s.size ≤ 1048576) : ∃ (n c : Int) (ok : Bool), Hid ((ok = true ∧ rd s b = some (n, c)) ∨ (ok = false ∧ rd s b = none)) ∧ Hid (∀ w, Calls Tryd.prog 30 #[.string s, .int .i64 b] w fun e w' => e = .returned (.tuple #[.int .i64 n, .int .i64 c, .bool ok]) ∧ Below w.heap.size w w') := by
  have h := specRd s b (hs := hs)
  unfold rdT at h
  cases hr : rd s b with
  | none => rw [hr] at h; exact ⟨0, 0, false, Or.inr ⟨rfl, rfl⟩, h⟩
  | some p => rw [hr] at h; exact ⟨p.1, p.2, true, Or.inl ⟨rfl, rfl⟩, h⟩
theorem rsh_l (s : ByteArray) (b : Int) (hs : s.size ≤ 1048576) : ∃ (t : ByteArray) (c : Int) (ok : Bool), Hid ((ok = true ∧ rsh s b = some (t, c)) ∨ (ok = false ∧ rsh s b = none)) ∧ Hid (∀ w, Calls Tryd.prog 31 #[.string s, .int .i64 b] w fun e w' => e = .returned (.tuple #[.string t, .int .i64 c, .bool ok]) ∧ Below w.heap.size w w') := by
  have h := specRsh s b (hs := hs)
  unfold rshT at h
  cases hr : rsh s b with
  | none => rw [hr] at h; exact ⟨⟨#[]⟩, 0, false, Or.inr ⟨rfl, rfl⟩, h⟩
  | some p => rw [hr] at h; exact ⟨p.1, p.2, true, Or.inl ⟨rfl, rfl⟩, h⟩
set_option maxHeartbeats 800000 in
set_option maxRecDepth 100000 in
theorem l05Var_any (k : Nat) (s : ByteArray) (b : Int) (bad : Bool) (w : World) (hs : s.size ≤ 1048576) (hc : Cg w k s b bad) :
    Calls Tryd.prog 20 #[.pointer (some ⟨k, 0, none⟩)] w fun e w' => Var1 w k s b bad e w' := by
  obtain ⟨n, c, ok, hr, cr⟩ := rd_l s b hs
  have HC := hid hc
  clear hc hs
  have HS : Hid (∀ W, Below w.heap.size w W → (W.cell? ⟨k, 0, none⟩ = some (.string s) ∧ W.cell? ⟨k, 1, none⟩ = some (.int .i64 b) ∧ W.cell? ⟨k, 2, none⟩ = some (.bool bad))) := fun W h => (HC.out.later h).cells
  go_enter Tryd.func20, Tryd.ntmps20
  go_wp2_with fail
  go_region_held3 (fun W => (W.cell? ⟨k, 0, none⟩ = some (.string s) ∧ W.cell? ⟨k, 1, none⟩ = some (.int .i64 b) ∧ W.cell? ⟨k, 2, none⟩ = some (.bool bad)))
    ((refine HS.out _ ?_; repeat (first | exact bdr (bre _) | refine btr ?_ (by assumption))))
    ((go_at_call 30; refine (cr.out _).mono ?_; rintro e w1 ⟨rfl, hb1⟩))
  have B1 : Hid (Below w.heap.size w w1) := by show Below _ _ _; repeat (first | exact bdr (bre _) | refine btr ?_ (by assumption))
  have K1 := hid (HC.out.later B1.out)
  have d := K1.out.cells
  have f := K1.out.loose
  clear hb1 HS
  cases bad
  · cases ok
    · go_wp2
      go_ret
      exact ⟨0, b, true, rfl, K1.out.s2 true, Or.inr ⟨rfl, rfl, rfl, Or.inr (by rcases hr.out with ⟨h, _⟩ | ⟨_, h⟩; (cases h); exact h)⟩, wst (grown_below B1.out _) 2 _⟩
    · go_wp2
      go_ret
      exact ⟨n, c, false, rfl, K1.out.s1 c, Or.inl ⟨rfl, rfl, (by rcases hr.out with ⟨_, h⟩ | ⟨h, _⟩; (exact h); cases h)⟩, wst (grown_below B1.out _) 1 _⟩
  · go_wp2
    go_ret
    exact ⟨0, b, true, rfl, K1.out.s2 true, Or.inr ⟨rfl, rfl, rfl, Or.inl rfl⟩, wst (grown_below B1.out _) 2 _⟩
set_option maxHeartbeats 800000 in
set_option maxRecDepth 100000 in
theorem l05Short_any (k : Nat) (s : ByteArray) (b : Int) (bad : Bool) (w : World) (hs : s.size ≤ 1048576) (hc : Cg w k s b bad) :
    Calls Tryd.prog 21 #[.pointer (some ⟨k, 0, none⟩)] w fun e w' => Short1 w k s b bad e w' := by
  obtain ⟨t, c, ok, hr, cr⟩ := rsh_l s b hs
  have HC := hid hc
  clear hc hs
  have HS : Hid (∀ W, Below w.heap.size w W → (W.cell? ⟨k, 0, none⟩ = some (.string s) ∧ W.cell? ⟨k, 1, none⟩ = some (.int .i64 b) ∧ W.cell? ⟨k, 2, none⟩ = some (.bool bad))) := fun W h => (HC.out.later h).cells
  go_enter Tryd.func21, Tryd.ntmps21
  go_wp2_with fail
  go_region_held3 (fun W => (W.cell? ⟨k, 0, none⟩ = some (.string s) ∧ W.cell? ⟨k, 1, none⟩ = some (.int .i64 b) ∧ W.cell? ⟨k, 2, none⟩ = some (.bool bad)))
    ((refine HS.out _ ?_; repeat (first | exact bdr (bre _) | refine btr ?_ (by assumption))))
    ((go_at_call 31; refine (cr.out _).mono ?_; rintro e w1 ⟨rfl, hb1⟩))
  have B1 : Hid (Below w.heap.size w w1) := by show Below _ _ _; repeat (first | exact bdr (bre _) | refine btr ?_ (by assumption))
  have K1 := hid (HC.out.later B1.out)
  have d := K1.out.cells
  have f := K1.out.loose
  clear hb1 HS
  cases bad
  · cases ok
    · go_wp2
      go_ret
      exact ⟨⟨#[]⟩, b, true, rfl, K1.out.s2 true, Or.inr ⟨rfl, rfl, rfl, Or.inr (by rcases hr.out with ⟨h, _⟩ | ⟨_, h⟩; (cases h); exact h)⟩, wst (grown_below B1.out _) 2 _⟩
    · go_wp2
      go_ret
      exact ⟨t, c, false, rfl, K1.out.s1 c, Or.inl ⟨rfl, rfl, (by rcases hr.out with ⟨_, h⟩ | ⟨h, _⟩; (exact h); cases h)⟩, wst (grown_below B1.out _) 1 _⟩
  · go_wp2
    go_ret
    exact ⟨⟨#[]⟩, b, true, rfl, K1.out.s2 true, Or.inr ⟨rfl, rfl, rfl, Or.inl rfl⟩, wst (grown_below B1.out _) 2 _⟩
abbrev R6 := Int × Int × List R3 × ByteArray × Int × Bool
theorem Cg.new (w : World) (s : ByteArray) (b : Int) (bad : Bool) : Cg (w.alloc (.cells #[.string s, .int .i64 b, .bool bad] 41)) w.heap.size s b bad := heap_alloc_new w _
theorem Cg.far {W : World} {k j i : Nat} {s : ByteArray} {b : Int} {bad : Bool} (h : Cg W k s b bad) (x : Value) (hk : k ≠ j) : Cg (W.setCell ⟨j, i, none⟩ x) k s b bad := heap_setCell_far x h hk
theorem Cg.below {W W' : World} {B k : Nat} {s : ByteArray} {b : Int} {bad : Bool} (h : Cg W k s b bad) (hb : Below B W W') (hk : k < B) : Cg W' k s b bad := (hb.block k hk).trans h
theorem vbs_len_le : ∀ (f n : Nat), n < 128 ^ (f + 1) → (vbs n).length ≤ f + 1
  | 0, n, h => by rw [vbs_small n (by simp at h; omega)]; simp
  | f + 1, n, h => by
    by_cases hn : 127 < n
    · rw [vbs_big n hn]
      have := vbs_len_le f (n / 128) (by rw [Nat.pow_succ] at h; omega)
      simp; omega
    · rw [vbs_small n hn]; simp
theorem rv_vbs (m : Nat) : ∀ (f k acc : Nat) (rest : List UInt8), (vbs m).length ≤ f → acc + m * 128 ^ k ≤ 1000000000 → (0 < m ∨ k = 0) →
    rv f (vbs m ++ rest) k acc = some (acc + m * 128 ^ k, k + (vbs m).length) := by
  induction m using Nat.strongRecOn with
  | _ m ih =>
    intro f k acc rest hf hb hz
    by_cases h : 127 < m
    · rw [vbs_big m h] at hf ⊢
      obtain ⟨g, rfl⟩ : ∃ g, f = g + 1 := ⟨f - 1, by simp at hf; omega⟩
      have e0 : (UInt8.ofNat (m % 128 + 128)).toNat = m % 128 + 128 := by have := u8_nat (m % 128 + 128) (by omega); omega
      have hpow : 128 ^ (k + 1) = 128 ^ k * 128 := Nat.pow_succ ..
      have hsum : m * 128 ^ k = m % 128 * 128 ^ k + m / 128 * 128 ^ (k + 1) := by
        rw [hpow]
        have e1 : m = m % 128 + m / 128 * 128 := by omega
        have e2 : m * 128 ^ k = (m % 128 + m / 128 * 128) * 128 ^ k := by rw [← e1]
        rw [e2, Nat.add_mul, Nat.mul_assoc, Nat.mul_comm 128 (128 ^ k)]
      rw [List.cons_append, rv_more g k acc _ _ (by rw [e0]; omega), e0, show (m % 128 + 128) % 128 = m % 128 by omega]
      rw [ih (m / 128) (by omega) g (k + 1) _ rest (by simp at hf; omega) (by omega) (.inl (by omega))]
      simp only [List.length_cons, Option.some.injEq, Prod.mk.injEq]
      omega
    · rw [vbs_small m h] at hf ⊢
      obtain ⟨g, rfl⟩ : ∃ g, f = g + 1 := ⟨f - 1, by simp at hf; omega⟩
      have e0 : (UInt8.ofNat m).toNat = m := by have := u8_nat m (by omega); omega
      rw [List.cons_append, rv_good g k acc _ _ (by rw [e0]; omega) (by rw [e0, show m % 128 = m by omega]; omega), e0, show m % 128 = m by omega]
      simp
/-- What is read as a number is the number's own bytes. -/
theorem rv_own : ∀ (f : Nat) (L p : List UInt8) (n d : Nat), (∀ b ∈ p, ¬ b.toNat < 128) → rv f L p.length (val p) = some (n, d) → vbs n = (p ++ L).take d ∧ d ≤ (p ++ L).length
  | 0, _, _, _, _, _, h => by simp [rv] at h
  | _ + 1, [], _, _, _, _, h => by simp [rv] at h
  | f + 1, c :: L, p, n, d, hp, h => by
    by_cases hc : c.toNat < 128
    · by_cases h2 : 1000000000 < val p + c.toNat % 128 * 128 ^ p.length ∨ (c.toNat = 0 ∧ 0 < p.length)
      · rw [rv_bad f _ _ c L hc h2] at h; cases h
      · rw [rv_good f _ _ c L hc h2] at h
        simp only [Option.some.injEq, Prod.mk.injEq] at h
        obtain ⟨rfl, rfl⟩ := h
        rw [← val_snoc, vbs_val p c hp hc (by
          by_cases hz : c.toNat = 0
          · left; exact List.eq_nil_of_length_eq_zero (by omega)
          · right; exact hz)]
        constructor
        · rw [show p ++ c :: L = (p ++ [c]) ++ L by simp, List.take_append_of_le_length (by simp), List.take_of_length_le (by simp)]
        · simp
    · rw [rv_more f _ _ c L hc] at h
      have e : rv f L (p ++ [c]).length (val (p ++ [c])) = some (n, d) := by rw [val_snoc, List.length_append]; exact h
      have := rv_own f L (p ++ [c]) n d (by intro b hb; rcases List.mem_append.1 hb with hb | hb; exact hp b hb; simp at hb; rw [hb]; exact hc) e
      simpa using this
/-- A text's bytes. -/
abbrev bl (s : ByteArray) : List UInt8 := s.data.toList
theorem bl_app (s t : ByteArray) : bl (s ++ t) = bl s ++ bl t := by simp [bl, ByteArray.data_append]
theorem bl_vi (n : Int) : bl (vi n) = vbs n.toNat := rfl
theorem bl_len (s : ByteArray) : (bl s).length = s.size := Array.length_toList
theorem bl_inj {s t : ByteArray} (h : bl s = bl t) : s = t := by cases s; cases t; simp only [ByteArray.mk.injEq]; exact Array.toList_inj.1 h
/-- A number stands at b. -/
theorem rd_here {s : ByteArray} {b n : Int} {R : List UInt8} (h0 : 0 ≤ b) (hb : b ≤ s.size) (hn : 0 ≤ n ∧ n ≤ 1000000000) (h : (bl s).drop b.toNat = vbs n.toNat ++ R) : rd s b = some (n, b + (vbs n.toNat).length) := by
  obtain ⟨k, rfl⟩ : ∃ k : Nat, b = k := ⟨b.toNat, by omega⟩
  rw [rd_in (by omega)]
  have h' : s.data.toList.drop k = vbs n.toNat ++ R := by simpa using h
  rw [h', rv_vbs n.toNat 5 0 0 R (vbs_len_le 4 _ (by omega)) (by omega) (.inr rfl)]
  simp only [Option.map_some, Option.some.injEq, Prod.mk.injEq]
  omega
/-- What was read as a number stood there. -/
theorem rd_stood {s : ByteArray} {b n c : Int} (h : rd s b = some (n, c)) : (bl s).drop b.toNat = vbs n.toNat ++ (bl s).drop c.toNat := by
  have hb := rd_some h
  obtain ⟨k, rfl⟩ : ∃ k : Nat, b = k := ⟨b.toNat, by omega⟩
  rw [rd_in (by omega)] at h
  cases hr : rv 5 (s.data.toList.drop k) 0 0 with
  | none => rw [hr] at h; cases h
  | some p =>
    obtain ⟨m, d⟩ := p
    rw [hr] at h
    simp only [Option.map_some, Option.some.injEq, Prod.mk.injEq] at h
    obtain ⟨rfl, rfl⟩ := h
    have o := rv_own 5 _ [] m d (by simp) hr
    have e : ((k : Int) + (d : Int)).toNat = k + d := by omega
    rw [e, Int.toNat_natCast, Int.toNat_natCast, ← List.drop_drop, o.1, List.nil_append]
    exact (List.take_append_drop d _).symm
/-- A short text stands at b. -/
theorem rsh_here {s t : ByteArray} {b : Int} {R : List UInt8} (h0 : 0 ≤ b) (hb : b ≤ s.size) (ht : t.size ≤ 20000) (h : (bl s).drop b.toNat = (vbs t.size ++ bl t) ++ R) : rsh s b = some (t, b + (vbs t.size).length + t.size) := by
  have hr := rd_here (s := s) (b := b) (n := t.size) h0 hb (by omega) (R := bl t ++ R) (by rw [h, Int.toNat_natCast, List.append_assoc])
  rw [Int.toNat_natCast] at hr
  have hs := rd_some hr
  have hst := rd_stood hr
  rw [h, Int.toNat_natCast, List.append_assoc] at hst
  have hd := (List.append_cancel_left hst).symm
  have hl := congrArg List.length hd
  rw [List.length_drop, List.length_append, bl_len, bl_len] at hl
  unfold rsh
  rw [hr]
  simp only [Option.bind_some]
  rw [if_pos (by omega)]
  have e : s.extract (b + ((vbs t.size).length : Int)).toNat (b + ((vbs t.size).length : Int) + (t.size : Int)).toNat = t := by
    apply bl_inj
    have e1 : (b + ((vbs t.size).length : Int) + (t.size : Int)).toNat = (b + ((vbs t.size).length : Int)).toNat + t.size := by omega
    rw [e1]
    simp only [bl, ByteArray.data_extract, Array.toList_extract, List.extract_eq_take_drop]
    have e2 : (b + ((vbs t.size).length : Int)).toNat + t.size - (b + ((vbs t.size).length : Int)).toNat = t.size := by omega
    rw [e2]
    have hd' : s.data.toList.drop (b + ((vbs t.size).length : Int)).toNat = bl t ++ R := hd
    rw [hd', List.take_append_of_le_length (by rw [bl_len]; exact Nat.le_refl _), List.take_of_length_le (by rw [bl_len]; exact Nat.le_refl _)]
  rw [e]
theorem rsh_stood {s t : ByteArray} {b c : Int} (h : rsh s b = some (t, c)) : (bl s).drop b.toNat = (vbs t.size ++ bl t) ++ (bl s).drop c.toNat ∧ 0 ≤ c ∧ c ≤ s.size := by
  unfold rsh at h
  cases hr : rd s b with
  | none => rw [hr] at h; cases h
  | some p =>
    obtain ⟨n, d⟩ := p
    rw [hr] at h
    simp only [Option.bind_some] at h
    split at h
    · next hc =>
      simp only [Option.some.injEq, Prod.mk.injEq] at h
      obtain ⟨rfl, rfl⟩ := h
      have hs := rd_some hr
      have e1 : (d + n).toNat = d.toNat + n.toNat := by omega
      have ht : (s.extract d.toNat (d + n).toNat).size = n.toNat := by rw [ByteArray.size_extract]; omega
      have hb : bl (s.extract d.toNat (d + n).toNat) = ((bl s).drop d.toNat).take n.toNat := by
        simp only [bl, ByteArray.data_extract, Array.toList_extract, List.extract_eq_take_drop]
        rw [e1, show d.toNat + n.toNat - d.toNat = n.toNat by omega]
      refine ⟨?_, by omega, by omega⟩
      rw [rd_stood hr, ht, hb, List.append_assoc, e1, ← List.drop_drop, List.take_append_drop]
    · cases h
end Go.Proofs.YtlopdmledeglbaaDoor
namespace Go.Proofs.YtlopdmledeglbaaDoor
def st (x : Nat) : Nat := if x % 2 = 1 then x / 2 ^^^ 3558460437 else x / 2
def st8 (x : Nat) : Nat := st (st (st (st (st (st (st (st x)))))))
def st4 (x : Nat) : Nat := st (st (st (st x)))
def smore (x : Nat) (l : List UInt8) : Nat := l.foldl (fun x b => st8 (x ^^^ b.toNat)) x
def tabW : List Nat := [0, 1166650509, 2333301018, 3466261911, 3189058079, 4221339282, 889615109, 1888477064, 3558460437, 2442158232, 1594529039, 444807554, 1779230218, 797264519, 3776954128, 2761298845]
def four (x : Nat) : Nat := x / 16 ^^^ tabW.getD (x % 16) 0
theorem st_lin (x y : Nat) : st (x ^^^ y) = st x ^^^ st y := by
  have hm := @Nat.xor_mod_two_eq_one x y
  have hd := @Nat.xor_div_two x y
  unfold st
  rw [hd]
  by_cases hx : x % 2 = 1 <;> by_cases hy : y % 2 = 1
  · rw [if_neg (by rw [hm]; simp [hx, hy]), if_pos hx, if_pos hy]
    rw [Nat.xor_assoc, Nat.xor_comm 3558460437 (y / 2 ^^^ 3558460437), Nat.xor_assoc, Nat.xor_self]; simp
  · rw [if_pos (by rw [hm]; simp [hx, hy]), if_pos hx, if_neg hy]
    rw [Nat.xor_assoc, Nat.xor_assoc, Nat.xor_comm (y / 2)]
  · rw [if_pos (by rw [hm]; simp [hx, hy]), if_neg hx, if_pos hy, Nat.xor_assoc]
  · rw [if_neg (by rw [hm]; simp [hx, hy]), if_neg hx, if_neg hy]
theorem st4_lin (x y : Nat) : st4 (x ^^^ y) = st4 x ^^^ st4 y := by
  unfold st4; rw [st_lin, st_lin, st_lin, st_lin]
theorem split16 (x : Nat) : x = (16 * (x / 16)) ^^^ (x % 16) := by
  apply Nat.eq_of_testBit_eq; intro i
  rw [Nat.testBit_xor, show (16 : Nat) = 2 ^ 4 from rfl, Nat.testBit_two_pow_mul, Nat.testBit_mod_two_pow, Nat.testBit_div_two_pow]
  by_cases h : i < 4
  · have h' : ¬ i ≥ 4 := by omega
    simp [h, h']
  · have h' : i ≥ 4 := by omega
    simp [h, h']
theorem st_even (q : Nat) : st (2 * q) = q := by unfold st; rw [if_neg (by omega)]; omega
theorem st4_16 (q : Nat) : st4 (16 * q) = q := by
  unfold st4
  rw [show 16 * q = 2 * (2 * (2 * (2 * q))) by omega, st_even, st_even, st_even, st_even]
theorem st4_tab : ∀ r : Fin 16, st4 r.val = tabW.getD r.val 0 := by decide
theorem st4_four (x : Nat) : st4 x = four x := by
  conv => lhs; rw [split16 x]
  rw [st4_lin, st4_16]
  unfold four
  rw [st4_tab ⟨x % 16, Nat.mod_lt _ (by omega)⟩]
theorem st8_four (x : Nat) : st8 x = four (four x) := by
  rw [← st4_four, ← st4_four]; rfl
theorem st_lt {x : Nat} (h : x < 4294967296) : st x < 4294967296 := by
  unfold st
  split
  · exact Nat.xor_lt_two_pow (n := 32) (by omega) (by omega)
  · omega
theorem st8_lt {x : Nat} (h : x < 4294967296) : st8 x < 4294967296 := by
  unfold st8; exact st_lt (st_lt (st_lt (st_lt (st_lt (st_lt (st_lt (st_lt h)))))))
theorem xor_byte_lt {x : Nat} (h : x < 4294967296) (b : UInt8) : x ^^^ b.toNat < 4294967296 := by
  have := b.toNat_lt
  exact Nat.xor_lt_two_pow (n := 32) (by omega) (by omega)
theorem smore_lt (l : List UInt8) : ∀ {x : Nat}, x < 4294967296 → smore x l < 4294967296 := by
  induction l with
  | nil => intro x h; exact h
  | cons b l ih => intro x h; exact ih (st8_lt (xor_byte_lt h b))
theorem smore_append (x : Nat) (l m : List UInt8) : smore x (l ++ m) = smore (smore x l) m := by
  unfold smore; rw [List.foldl_append]
def f4 (x : Nat) : List UInt8 := [UInt8.ofNat (x / 16777216), UInt8.ofNat (x / 65536), UInt8.ofNat (x / 256), UInt8.ofNat x]
theorem u8_of (n : Nat) : (UInt8.ofNat n).toNat = n % 256 := by simp
end Go.Proofs.YtlopdmledeglbaaDoor
namespace Go.Proofs.YtlopdmledeglbaaDoor
open Go.RowKit
/-- The program's table lies at its block. -/
def Nib (w : World) : Prop := ∀ i, i < 16 → w.cell? ⟨0, i, none⟩ = some (.int .u32 (tabW.getD i 0 : Nat))
theorem Nib.later {w w' : World} {B : Nat} (h : Nib w) (hb : Below B w w') (hB : 0 < B) : Nib w' := fun i hi => by
  rw [hb.cell (p := ⟨0, i, none⟩) hB]; exact h i hi
theorem tab_lt (i : Nat) (h : i < 16) : tabW.getD i 0 < 4294967296 := by
  have : ∀ r : Fin 16, tabW.getD r.val 0 < 4294967296 := by decide
  exact this ⟨i, h⟩
theorem four_lt {x : Nat} (h : x < 4294967296) : four x < 4294967296 := by
  have := tab_lt (x % 16) (Nat.mod_lt _ (by omega))
  exact Nat.xor_lt_two_pow (n := 32) (by omega) (by omega)
theorem four_any (x : Nat) (w : World) (hx : x < 4294967296) (hn : Nib w) :
    Calls Tryd.prog 46 #[.int .u32 (x : Int)] w fun e w' => e = .returned (.int .u32 (four x : Nat)) ∧ w = w' := by
  have hc := hn (x % 16) (Nat.mod_lt _ (by omega))
  clear hn
  go_enter Tryd.func46, Tryd.ntmps46
  go_wp2
  go_ret
  exact ⟨ret_int (by rw [show (x : Int) / 16 = ((x / 16 : Nat) : Int) from by omega]; exact u32_xor_nat _ _ (by omega) (tab_lt _ (Nat.mod_lt _ (by omega)))), rfl⟩
theorem smore_step (x : Nat) (s : ByteArray) (k : Nat) (h : k < s.size) : smore x (s.data.toList.take (k + 1)) = st8 (smore x (s.data.toList.take k) ^^^ s[k].toNat) := by
  rw [List.take_succ_eq_append_getElem (by rw [Array.length_toList]; exact h), smore_append]; rfl
theorem more_any (x : Nat) (s : ByteArray) (w : World) (hx : x < 4294967296) (hs : s.size ≤ 1048577) (hn : Nib w) :
    Calls Tryd.prog 44 #[.int .u32 (x : Int), .string s] w fun e w' => e = .returned (.int .u32 (smore x s.data.toList : Nat)) ∧ w = w' := by
  have HN := hide hn
  clear hn
  go_enter Tryd.func44, Tryd.ntmps44
  go_wp2
  go_loop [0, 8] (fun sv iv => ∃ (k y : Nat), k ≤ s.size ∧ y = smore x (s.data.toList.take k) ∧ sv = .int .u32 (y : Int) ∧ iv = .int .i64 (k : Int)) (fun _ iv => s.size - (intOf iv).toNat)
  case atStart => exact ⟨0, x, Nat.zero_le _, rfl, rfl, rfl⟩
  case round =>
    obtain ⟨k, y, hk, hy, rfl, rfl⟩ := hrel
    have hyl : y < 4294967296 := by rw [hy]; exact smore_lt _ hx
    have HY := hide hy
    clear hy
    by_cases hlt : k < s.size
    · obtain ⟨c, hcx⟩ : ∃ c : Nat, s[k].toNat = c := ⟨_, rfl⟩
      have hcb : c < 256 := by rw [← hcx]; exact s[k].toNat_lt
      have HC := hide hcx
      have hI : (0 : Int) ≤ (k : Int) ∧ (k : Int) < (s.size : Int) := by omega
      obtain ⟨z, hz⟩ : ∃ z : Nat, y ^^^ c = z := ⟨_, rfl⟩
      have hzl : z < 4294967296 := by rw [← hz]; exact Nat.xor_lt_two_pow (n := 32) (by omega) (by omega)
      have hxr : bits .xor .u32 (y : Int) (c : Int) = (z : Int) := by rw [u32_xor_nat y c hyl (by omega), hz]
      have HZ := hide hz
      clear hz
      go_wp2_with fail
      refine (four_any z _ hzl (unhide HN)).mono ?_; rintro e w' ⟨rfl, rfl⟩
      go_wp2_with fail
      refine (four_any (four z) _ (four_lt hzl) (unhide HN)).mono ?_; rintro e w' ⟨rfl, rfl⟩
      go_wp2
      go_round
      case rel => exact ⟨k + 1, four (four z), by omega, by rw [smore_step x s k hlt, ← unhide HY, unhide HC, unhide HZ, st8_four], rfl, by go_num⟩
      case measure => simp [intOf]; omega
    · go_wp2
      go_ret
      exact ⟨ret_int (by rw [unhide HY, List.take_of_length_le (by rw [Array.length_toList]; exact Nat.le_of_not_lt hlt)]), rfl⟩
theorem implMore_any (x : Nat) (s : ByteArray) (w : World) (hx : x < 4294967296) (hs : s.size ≤ 1048577) (hn : Nib w) :
    Calls Tryd.prog 38 #[.int .u32 (x : Int), .string s] w fun e w' => e = .returned (.int .u32 (smore x s.data.toList : Nat)) ∧ w = w' := by
  have HN := hide hn
  clear hn
  go_enter Tryd.func38, Tryd.ntmps38
  go_wp2_with fail
  refine (more_any x s _ hx hs (unhide HN)).mono ?_; rintro e w' ⟨rfl, rfl⟩
  go_wp2
  go_ret
  exact ⟨rfl, rfl⟩
theorem implOf_any (s : ByteArray) (w : World) (hs : s.size ≤ 1048577) (hn : Nib w) :
    Calls Tryd.prog 28 #[.string s] w fun e w' => e = .returned (.int .u32 (smore 4294967295 s.data.toList : Nat)) ∧ w = w' := by
  have HN := hide hn
  clear hn
  go_enter Tryd.func28, Tryd.ntmps28
  go_wp2_with fail
  refine (implMore_any 4294967295 s _ (by decide) hs (unhide HN)).mono ?_; rintro e w' ⟨rfl, rfl⟩
  go_wp2
  go_ret
  exact ⟨rfl, rfl⟩
def stN : Nat → Nat → Nat
  | 0, x => x
  | k + 1, x => st (stN k x)
theorem stN_lt : ∀ (k : Nat) {x : Nat}, x < 4294967296 → stN k x < 4294967296
  | 0, _, h => h
  | k + 1, _, h => st_lt (stN_lt k h)
theorem specMore_any (x : Nat) (s : ByteArray) (w : World) (hx : x < 4294967296) (hs : s.size ≤ 1048577) :
    Calls Tryd.prog 37 #[.int .u32 (x : Int), .string s] w fun e w' => e = .returned (.int .u32 (smore x s.data.toList : Nat)) ∧ w = w' := by
  go_enter Tryd.func37, Tryd.ntmps37
  go_wp2
  go_loop [0, 5] (fun sv iv => ∃ (k y : Nat), k ≤ s.size ∧ y = smore x (s.data.toList.take k) ∧ sv = .int .u32 (y : Int) ∧ iv = .int .i64 (k : Int)) (fun _ iv => s.size - (intOf iv).toNat)
  case atStart => exact ⟨0, x, Nat.zero_le _, rfl, rfl, rfl⟩
  case round =>
    obtain ⟨k, y, hk, hy, rfl, rfl⟩ := hrel
    have hyl : y < 4294967296 := by rw [hy]; exact smore_lt _ hx
    have HY := hide hy
    clear hy
    by_cases hlt : k < s.size
    · obtain ⟨c, hcx⟩ : ∃ c : Nat, s[k].toNat = c := ⟨_, rfl⟩
      have hcb : c < 256 := by rw [← hcx]; exact s[k].toNat_lt
      have HC := hide hcx
      have hI : (0 : Int) ≤ (k : Int) ∧ (k : Int) < (s.size : Int) := by omega
      obtain ⟨z, hz⟩ : ∃ z : Nat, y ^^^ c = z := ⟨_, rfl⟩
      have hzl : z < 4294967296 := by rw [← hz]; exact Nat.xor_lt_two_pow (n := 32) (by omega) (by omega)
      have hxr : bits .xor .u32 (y : Int) (c : Int) = (z : Int) := by rw [u32_xor_nat y c hyl (by omega), hz]
      have HZ := hide hz
      clear hz
      go_wp2
      go_loop [0, 6] (fun sv iv => ∃ (j v : Nat), j ≤ 8 ∧ v = stN j z ∧ sv = .int .u32 (v : Int) ∧ iv = .int .i64 (j : Int)) (fun _ iv => 8 - (intOf iv).toNat)
      case atStart => exact ⟨0, z, by omega, rfl, rfl, rfl⟩
      case round =>
        obtain ⟨j, v, hj, hv, rfl, rfl⟩ := hrel
        have hvl : v < 4294967296 := by rw [hv]; exact stN_lt j hzl
        have HV := hide hv
        clear hv
        by_cases hj8 : j < 8
        · obtain ⟨q, hq⟩ : ∃ q : Nat, v / 2 = q := ⟨_, rfl⟩
          have hqi : (v : Int) / 2 = (q : Int) := by omega
          have hql : q < 4294967296 := by omega
          have HQ := hide hq
          clear hq
          by_cases ho : v % 2 = 1
          · have hoi : ((v : Int) % 2 == 1) = true := by simp; omega
            obtain ⟨r, hr⟩ : ∃ r : Nat, q ^^^ 3558460437 = r := ⟨_, rfl⟩
            have hri : bits .xor .u32 (q : Int) 3558460437 = (r : Int) := by rw [← hr]; exact u32_xor_nat q 3558460437 hql (by omega)
            have HR := hide hr
            have HO := hide ho
            clear hr ho
            go_wp2
            go_round
            case rel => exact ⟨j + 1, r, by omega, by rw [stN, ← unhide HV, st, if_pos (unhide HO), unhide HQ, unhide HR], rfl, by go_num⟩
            case measure => simp [intOf]; omega
          · have hoi : ((v : Int) % 2 == 1) = false := by simp; omega
            have HO := hide ho
            clear ho
            go_wp2
            go_round
            case rel => exact ⟨j + 1, q, by omega, by rw [stN, ← unhide HV, st, if_neg (unhide HO), unhide HQ], rfl, by go_num⟩
            case measure => simp [intOf]; omega
        · have hj' : j = 8 := by omega
          subst hj'
          go_wp2
          go_round
          case rel => exact ⟨k + 1, v, by omega, by rw [smore_step x s k hlt, ← unhide HY, unhide HC, unhide HZ, unhide HV]; rfl, rfl, by go_num⟩
          case measure => simp [intOf]; omega
    · go_wp2
      go_ret
      exact ⟨ret_int (by rw [unhide HY, List.take_of_length_le (by rw [Array.length_toList]; exact Nat.le_of_not_lt hlt)]), rfl⟩
theorem specOf_any (s : ByteArray) (w : World) (hs : s.size ≤ 1048577) :
    Calls Tryd.prog 26 #[.string s] w fun e w' => e = .returned (.int .u32 (smore 4294967295 s.data.toList : Nat)) ∧ w = w' := by
  go_enter Tryd.func26, Tryd.ntmps26
  go_wp2_with fail
  refine (specMore_any 4294967295 s _ (by decide) hs).mono ?_; rintro e w' ⟨rfl, rfl⟩
  go_wp2
  go_ret
  exact ⟨rfl, rfl⟩
theorem f4_conv (x : Nat) (w : World) (hx : x < 4294967296) :
    (convert 51 9 (.slice (some ⟨w.heap.size, 0, none⟩) 4 4)).run Tryd.prog (w.alloc (.cells #[.int .u8 ((x : Int) / 16777216), .int .u8 ((x : Int) / 65536 % 256), .int .u8 ((x : Int) / 256 % 256), .int .u8 ((x : Int) % 256)] 5)) = .ok (.string ⟨(f4 x).toArray⟩) (w.alloc (.cells #[.int .u8 ((x : Int) / 16777216), .int .u8 ((x : Int) / 65536 % 256), .int .u8 ((x : Int) / 256 % 256), .int .u8 ((x : Int) % 256)] 5)) := by
  refine run_convert_bytes_back (P := Tryd.prog) _ 51 9 5 ⟨w.heap.size, 0, none⟩ 4 (f4 x) Tryd.underlying51 Tryd.underlying5 Tryd.underlying9 (fun j hj => ?_)
  have hj' : j < 4 := hj
  have key : ∀ (i : Nat) (v : Value), (#[.int .u8 ((x : Int) / 16777216), .int .u8 ((x : Int) / 65536 % 256), .int .u8 ((x : Int) / 256 % 256), .int .u8 ((x : Int) % 256)] : Array Value)[i]? = some v →
      (w.alloc (.cells #[.int .u8 ((x : Int) / 16777216), .int .u8 ((x : Int) / 65536 % 256), .int .u8 ((x : Int) / 256 % 256), .int .u8 ((x : Int) % 256)] 5)).cell? ((⟨w.heap.size, 0, none⟩ : Addr).add i) = some v := by
    intro i v h
    rw [show (⟨w.heap.size, 0, none⟩ : Addr).add i = ⟨w.heap.size, i, none⟩ from by by_cases h0 : i = 0 <;> simp [Addr.add, h0]]
    rw [cell_of_row _ w.heap.size i _ _ (0, 0) (heap_alloc_new w _)]
    exact h
  match j, hj' with
  | 0, _ => exact key 0 _ (congrArg some (congrArg (Value.int .u8) (by show (x : Int) / 16777216 = ((UInt8.ofNat (x / 16777216)).toNat : Nat); rw [u8_of]; omega)))
  | 1, _ => exact key 1 _ (congrArg some (congrArg (Value.int .u8) (by show (x : Int) / 65536 % 256 = ((UInt8.ofNat (x / 65536)).toNat : Nat); rw [u8_of]; omega)))
  | 2, _ => exact key 2 _ (congrArg some (congrArg (Value.int .u8) (by show (x : Int) / 256 % 256 = ((UInt8.ofNat (x / 256)).toNat : Nat); rw [u8_of]; omega)))
  | 3, _ => exact key 3 _ (congrArg some (congrArg (Value.int .u8) (by show (x : Int) % 256 = ((UInt8.ofNat x).toNat : Nat); rw [u8_of]; omega)))
theorem implBytes_any (x : Nat) (w : World) (hx : x < 4294967296) :
    Calls Tryd.prog 29 #[.int .u32 (x : Int)] w fun e w' => e = .returned (.string ⟨(f4 x).toArray⟩) ∧ Below w.heap.size w w' := by
  have hcv := f4_conv x w hx
  go_enter Tryd.func29, Tryd.ntmps29
  go_wp2
  go_ret
  exact ⟨rfl, (Below.refl _ _).alloc (Nat.le_refl _) _⟩
/-- The sum of a text. -/
def sof (s : ByteArray) : Nat := smore 4294967295 s.data.toList
theorem sof_lt (s : ByteArray) : sof s < 4294967296 := smore_lt _ (by decide)
/-- The four bytes of its sum. -/
def tail4 (s : ByteArray) : ByteArray := ⟨(f4 (sof s)).toArray⟩
theorem tail4_size (s : ByteArray) : (tail4 s).size = 4 := rfl
theorem implSealed_yes (s : ByteArray) (w : World) (hs : s.size ≤ 20000) (hn : Nib w) :
    Calls Tryd.prog 17 #[.string s] w fun e w' => e = .returned (.tuple #[.string (s ++ tail4 s), .bool true]) ∧ Below w.heap.size w w' := by
  have HN := hide hn
  clear hn
  have hz := tail4_size s
  go_enter Tryd.func17, Tryd.ntmps17
  go_wp2_with fail
  refine (implOf_any s _ (by omega) (unhide HN)).mono ?_; rintro e w1 ⟨rfl, rfl⟩
  go_wp2_with fail
  refine (implBytes_any (sof s) _ (sof_lt s)).mono ?_; rintro e w1 ⟨he, hb1⟩
  obtain rfl : e = .returned (.string (tail4 s)) := he
  go_wp2
  go_ret2
  exact ⟨rfl, hb1⟩
theorem bytes_eq {a b : ByteArray} (h : a.toList = b.toList) : a = b := by
  rw [ByteArray.toList_eq, ByteArray.toList_eq] at h
  exact ByteArray.ext (Array.toList_inj.mp h)
theorem size_cut (s : ByteArray) (n : Nat) (h : n ≤ s.size) : (s.extract 0 n).size = n := by simp; omega
/-- What the two callees answer at a text u whose sum is z, in the four bytes t: all as letters. -/
theorem seal_parts (u : ByteArray) (hu : u.size ≤ 1048577) : ∃ (z : Nat) (t : ByteArray), sof u = z ∧ tail4 u = t ∧ t.size = 4 ∧
    (∀ W : World, Nib W → Calls Tryd.prog 28 #[.string u] W fun e w' => e = .returned (.int .u32 (z : Int)) ∧ W = w') ∧
    (∀ W : World, Calls Tryd.prog 29 #[.int .u32 (z : Int)] W fun e w' => e = .returned (.string t) ∧ Below W.heap.size W w') :=
  ⟨sof u, tail4 u, rfl, rfl, rfl, fun W hW => implOf_any u W hu hW, fun W => implBytes_any (sof u) W (sof_lt u)⟩
theorem Nib.drew {w : World} (h : Nib w) : Nib w.drew := h
theorem implUnsealed_yes (s : ByteArray) (n : Nat) (w : World) (hl : s.size = n + 4) (hs : n ≤ 20000) (hn : Nib w) (he : tail4 (s.extract 0 n) = s.extract n s.size) :
    Calls Tryd.prog 22 #[.string s] w fun e w' => e = .returned (.tuple #[.string (s.extract 0 n), .bool true]) ∧ Below w.heap.size w w' := by
  have hcut : (s.extract 0 n).size = n := size_cut s n (by omega)
  obtain ⟨z, t, hz, ht, hts, h21, h32⟩ := seal_parts (s.extract 0 n) (by omega)
  rw [ht] at he
  obtain ⟨u, hu⟩ : ∃ u, s.extract 0 n = u := ⟨_, rfl⟩
  rw [hu] at hcut h21 hz ht
  have hcl : ∀ W : World, Calls Tryd.prog 32 #[.string u] W fun e w' => e = .returned (.string u) ∧ Below W.heap.size W w' := fun W => clone_any u W (by omega)
  have HN := hide hn
  have H21 := hide h21
  have H32 := hide h32
  have HCL := hide hcl
  have hli : (s.size : Int) - 4 = (n : Int) := by omega
  have hle : n ≤ s.size := by omega
  have hlm : s.size ≤ 20004 := by omega
  have hv : s.extract n s.size = t := he.symm
  have htt : (!t.toList == t.toList) = false := by simp
  clear hl hn he h21 h32 hcl hz ht hts hcut
  go_enter Tryd.func22, Tryd.ntmps22
  go_wp2_with fail
  go_region_held3 (fun _ => True) (trivial) ((first
    | (go_at_call 28; refine (unhide H21 _ (by exact unhide HN)).mono ?_; rintro e w1 ⟨rfl, rfl⟩)
    | (go_at_call 29; refine (unhide H32 _).mono ?_; rintro e w1 ⟨rfl, hb1⟩)))
  go_wp2_with fail
  refine (unhide HCL _).mono ?_; rintro e w2 ⟨rfl, hb2⟩
  go_wp2
  go_ret2
  exact ⟨by rw [hu]; rfl, (Below.refl _ w).drew.trans (hb1.trans (hb2.mono hb1.size))⟩
theorem implUnsealed_size (s : ByteArray) (w : World) (hm : s.size ≤ 1048576) (h : s.size < 4 ∨ 20004 < s.size) :
    Calls Tryd.prog 22 #[.string s] w fun e w' => e = .returned (.tuple #[.string ⟨#[]⟩, .bool false]) ∧ w = w' := by
  rcases h with h | h
  · have h1 : (s.size : Int) - 4 < 0 := by omega
    go_enter Tryd.func22, Tryd.ntmps22
    go_wp2
    go_ret2
    exact ⟨rfl, rfl⟩
  · have h0 : ¬ (s.size : Int) - 4 < 0 := by omega
    have h1 : (20000 : Int) < (s.size : Int) - 4 := by omega
    go_enter Tryd.func22, Tryd.ntmps22
    go_wp2
    go_ret2
    exact ⟨rfl, rfl⟩
theorem implUnsealed_no (s : ByteArray) (n : Nat) (w : World) (hl : s.size = n + 4) (hs : n ≤ 20000) (hn : Nib w) (he : tail4 (s.extract 0 n) ≠ s.extract n s.size) :
    Calls Tryd.prog 22 #[.string s] w fun e w' => e = .returned (.tuple #[.string ⟨#[]⟩, .bool false]) ∧ Below w.heap.size w w' := by
  have hcut : (s.extract 0 n).size = n := size_cut s n (by omega)
  obtain ⟨z, t, hz, ht, hts, h21, h32⟩ := seal_parts (s.extract 0 n) (by omega)
  rw [ht] at he
  obtain ⟨u, hu⟩ : ∃ u, s.extract 0 n = u := ⟨_, rfl⟩
  rw [hu] at hcut h21 hz ht
  obtain ⟨v, hv⟩ : ∃ v, s.extract n s.size = v := ⟨_, rfl⟩
  rw [hv] at he
  have HN := hide hn
  have H21 := hide h21
  have H32 := hide h32
  have hli : (s.size : Int) - 4 = (n : Int) := by omega
  have hle : n ≤ s.size := by omega
  have hlm : s.size ≤ 20004 := by omega
  have htt : (!t.toList == v.toList) = true := by simp; intro h; exact he (bytes_eq h)
  clear hl hn he h21 h32 hz ht hts hcut
  go_enter Tryd.func22, Tryd.ntmps22
  go_wp2_with fail
  go_region_held3 (fun _ => True) (trivial) ((first
    | (go_at_call 28; refine (unhide H21 _ (by exact unhide HN)).mono ?_; rintro e w1 ⟨rfl, rfl⟩)
    | (go_at_call 29; refine (unhide H32 _).mono ?_; rintro e w1 ⟨rfl, hb1⟩)))
  go_wp2
  go_ret2
  exact ⟨rfl, (Below.refl _ w).drew.trans hb1⟩
theorem specFour_any (x : Nat) (w : World) (hx : x < 4294967296) :
    Calls Tryd.prog 25 #[.int .u32 (x : Int)] w fun e w' => e = .returned (.string ⟨(f4 x).toArray⟩) ∧ Below w.heap.size w w' := by
  have hcv := f4_conv x w hx
  go_enter Tryd.func25, Tryd.ntmps25
  go_wp2
  go_ret
  exact ⟨rfl, (Below.refl _ _).alloc (Nat.le_refl _) _⟩
theorem specSealed_yes (s : ByteArray) (w : World) (hs : s.size ≤ 20000) :
    Calls Tryd.prog 13 #[.string s] w fun e w' => e = .returned (.tuple #[.string (s ++ tail4 s), .bool true]) ∧ Below w.heap.size w w' := by
  have hz := tail4_size s
  go_enter Tryd.func13, Tryd.ntmps13
  go_wp2_with fail
  refine (specOf_any s _ (by omega)).mono ?_; rintro e w1 ⟨rfl, rfl⟩
  go_wp2_with fail
  refine (specFour_any (sof s) _ (sof_lt s)).mono ?_; rintro e w1 ⟨he, hb1⟩
  obtain rfl : e = .returned (.string (tail4 s)) := he
  go_wp2
  go_ret2
  exact ⟨rfl, hb1⟩
/-- What the two callees of the model answer, all as letters. -/
theorem specSeal_parts (u : ByteArray) (hu : u.size ≤ 1048577) : ∃ (z : Nat) (t : ByteArray), tail4 u = t ∧
    (∀ W : World, Calls Tryd.prog 26 #[.string u] W fun e w' => e = .returned (.int .u32 (z : Int)) ∧ W = w') ∧
    (∀ W : World, Calls Tryd.prog 25 #[.int .u32 (z : Int)] W fun e w' => e = .returned (.string t) ∧ Below W.heap.size W w') :=
  ⟨sof u, tail4 u, rfl, fun W => specOf_any u W hu, fun W => specFour_any (sof u) W (sof_lt u)⟩
theorem specUnsealed_size (s : ByteArray) (w : World) (hm : s.size ≤ 1048576) (h : s.size < 4 ∨ 20004 < s.size) :
    Calls Tryd.prog 19 #[.string s] w fun e w' => e = .returned (.tuple #[.string ⟨#[]⟩, .bool false]) ∧ Below w.heap.size w w' := by
  have hlm : s.size ≤ 1048576 := hm
  obtain ⟨m, hmi⟩ : ∃ m : Int, (s.size : Int) - 4 = m := ⟨_, rfl⟩
  rcases h with h | h
  · have hd0 : decide (m < 0) = true := by simp; omega
    clear h hm
    go_enter Tryd.func19, Tryd.ntmps19
    go_wp2_with fail
    go_region
    all_goals go_wp2
    all_goals go_ret2
    all_goals exact ⟨rfl, (Below.refl _ _).drew⟩
  · have hd0 : decide (m < 0) = false := by simp; omega
    have hd1 : decide ((20000 : Int) < m) = true := by simp; omega
    clear h hm
    go_enter Tryd.func19, Tryd.ntmps19
    go_wp2_with fail
    go_region
    all_goals go_wp2
    all_goals go_ret2
    all_goals exact ⟨rfl, (Below.refl _ _).drew⟩
theorem specUnsealed_yes (s : ByteArray) (n : Nat) (w : World) (hl : s.size = n + 4) (hs : n ≤ 20000) (he : tail4 (s.extract 0 n) = s.extract n s.size) :
    Calls Tryd.prog 19 #[.string s] w fun e w' => e = .returned (.tuple #[.string (s.extract 0 n), .bool true]) ∧ Below w.heap.size w w' := by
  have hcut : (s.extract 0 n).size = n := size_cut s n (by omega)
  obtain ⟨z, t, ht, h21, h32⟩ := specSeal_parts (s.extract 0 n) (by omega)
  rw [ht] at he
  obtain ⟨u, hu⟩ : ∃ u, s.extract 0 n = u := ⟨_, rfl⟩
  rw [hu] at hcut h21 ht
  have H21 := hide h21
  have H32 := hide h32
  have hli : (s.size : Int) - 4 = (n : Int) := by omega
  have hle : n ≤ s.size := by omega
  have hlm : s.size ≤ 20004 := by omega
  have hv : s.extract n s.size = t := he.symm
  have htt : (!t.toList == t.toList) = false := by simp
  have hd0 : decide ((n : Int) < 0) = false := by simp
  have hd1 : decide ((20000 : Int) < (n : Int)) = false := by simp; omega
  clear hl he h21 h32 ht hcut
  go_enter Tryd.func19, Tryd.ntmps19
  go_wp2_with fail
  go_region_held3 (fun _ => True) (trivial) ((first
    | (go_at_call 26; refine (unhide H21 _).mono ?_; rintro e w1 ⟨rfl, rfl⟩)
    | (go_at_call 25; refine (unhide H32 _).mono ?_; rintro e w1 ⟨rfl, hb1⟩)))
  go_wp2
  go_ret2
  exact ⟨by rw [hu]; rfl, (Below.refl _ w).drew.trans hb1⟩
theorem specUnsealed_no (s : ByteArray) (n : Nat) (w : World) (hl : s.size = n + 4) (hs : n ≤ 20000) (he : tail4 (s.extract 0 n) ≠ s.extract n s.size) :
    Calls Tryd.prog 19 #[.string s] w fun e w' => e = .returned (.tuple #[.string ⟨#[]⟩, .bool false]) ∧ Below w.heap.size w w' := by
  have hcut : (s.extract 0 n).size = n := size_cut s n (by omega)
  obtain ⟨z, t, ht, h21, h32⟩ := specSeal_parts (s.extract 0 n) (by omega)
  rw [ht] at he
  obtain ⟨u, hu⟩ : ∃ u, s.extract 0 n = u := ⟨_, rfl⟩
  rw [hu] at hcut h21 ht
  obtain ⟨v, hv⟩ : ∃ v, s.extract n s.size = v := ⟨_, rfl⟩
  rw [hv] at he
  have H21 := hide h21
  have H32 := hide h32
  have hli : (s.size : Int) - 4 = (n : Int) := by omega
  have hle : n ≤ s.size := by omega
  have hlm : s.size ≤ 20004 := by omega
  have htt : (!v.toList == t.toList) = true := by simp; intro h; exact he (bytes_eq h).symm
  have hd0 : decide ((n : Int) < 0) = false := by simp
  have hd1 : decide ((20000 : Int) < (n : Int)) = false := by simp; omega
  clear hl he h21 h32 ht hcut
  go_enter Tryd.func19, Tryd.ntmps19
  go_wp2_with fail
  go_region_held3 (fun _ => True) (trivial) ((first
    | (go_at_call 26; refine (unhide H21 _).mono ?_; rintro e w1 ⟨rfl, rfl⟩)
    | (go_at_call 25; refine (unhide H32 _).mono ?_; rintro e w1 ⟨rfl, hb1⟩)))
  go_wp2
  go_ret2
  exact ⟨rfl, (Below.refl _ w).drew.trans hb1⟩
/-- Block k holds a reader. -/
def Dg (W : World) (k : Nat) (s : ByteArray) (b : Int) : Prop := W.heap[k]? = some (.cells #[.string s, .int .i64 b] 68 (0, 0))
theorem Dg.lt {W : World} {k : Nat} {s : ByteArray} {b : Int} (h : Dg W k s b) : k < W.heap.size := (Array.getElem?_eq_some_iff.1 h).1
theorem Dg.new (w : World) (s : ByteArray) (b : Int) : Dg (w.alloc (.cells #[.string s, .int .i64 b] 68)) w.heap.size s b := heap_alloc_new w _
theorem Dg.later {W W' : World} {k : Nat} {s : ByteArray} {b : Int} (h : Dg W k s b) (hb : Below W.heap.size W W') : Dg W' k s b := (hb.block k h.lt).trans h
theorem Dg.below {W W' : World} {B k : Nat} {s : ByteArray} {b : Int} (h : Dg W k s b) (hb : Below B W W') (hk : k < B) : Dg W' k s b := (hb.block k hk).trans h
theorem Dg.cells {W : World} {k : Nat} {s : ByteArray} {b : Int} (h : Dg W k s b) : W.cell? ⟨k, 0, none⟩ = some (.string s) ∧ W.cell? ⟨k, 1, none⟩ = some (.int .i64 b) :=
  ⟨cell_of_row W k 0 _ _ _ h, cell_of_row W k 1 _ _ _ h⟩
theorem Dg.loose {W : World} {k : Nat} {s : ByteArray} {b : Int} (h : Dg W k s b) : W.frozen? ⟨k, 0, none⟩ = false ∧ W.frozen? ⟨k, 1, none⟩ = false :=
  ⟨frozen_of_row W k 0 _ _ h, frozen_of_row W k 1 _ _ h⟩
theorem Dg.s1 {W : World} {k : Nat} {s : ByteArray} {b : Int} (h : Dg W k s b) (b' : Int) : Dg (W.setCell ⟨k, 1, none⟩ (.int .i64 b')) k s b' := heap_setCell_same W k 1 _ _ (.int .i64 b') h
theorem Dg.far {W : World} {k j i : Nat} {s : ByteArray} {b : Int} (h : Dg W k s b) (x : Value) (hk : k ≠ j) : Dg (W.setCell ⟨j, i, none⟩ x) k s b := heap_setCell_far x h hk
/-- What it panics with. -/
abbrev notHere : List PanicEntry := [{ v := .iface 71 (.agg #[]), recovered := false }]
theorem must_yes (w : World) : Calls Tryd.prog 36 #[.bool true] w fun e w' => e = .returned (.tuple #[]) ∧ w' = w := by
  go_enter Tryd.func36, Tryd.ntmps36
  go_wp2
  go_end0
  exact ⟨rfl, rfl⟩
theorem must_no (w : World) : Calls Tryd.prog 36 #[.bool false] w fun e w' => e = .panicked notHere ∧ w' = w := by
  go_enter Tryd.func36, Tryd.ntmps36
  go_wp2
  exact ⟨rfl, rfl, rfl⟩
/-- How a call ends that reads a number, a text, a register, by the reader at block k. -/
def Num1 (w : World) (k : Nat) (s : ByteArray) (b : Int) (e : Ending) (w' : World) : Prop :=
  (∃ n c, rd s b = some (n, c) ∧ e = .returned (.int .i64 n) ∧ Dg w' k s c ∧ w.grownBy w' (some k)) ∨ (rd s b = none ∧ e = .panicked notHere ∧ w.grownBy w' (some k))
def Txt1 (w : World) (k : Nat) (s : ByteArray) (b : Int) (e : Ending) (w' : World) : Prop :=
  (∃ t c, rsh s b = some (t, c) ∧ e = .returned (.string t) ∧ Dg w' k s c ∧ w.grownBy w' (some k)) ∨ (rsh s b = none ∧ e = .panicked notHere ∧ w.grownBy w' (some k))
theorem rdi_l (s : ByteArray) (b : Int) (hs : s.size ≤ 1048576) : ∃ (n c : Int) (ok : Bool), Hid ((ok = true ∧ rd s b = some (n, c)) ∨ (ok = false ∧ rd s b = none)) ∧ Hid (∀ w, Calls Tryd.prog 42 #[.string s, .int .i64 b] w fun e w' => e = .returned (.tuple #[.int .i64 n, .int .i64 c, .bool ok]) ∧ Below w.heap.size w w') := by
  have h := implRd s b (hs := hs)
  unfold rdT at h
  cases hr : rd s b with
  | none => rw [hr] at h; exact ⟨0, 0, false, Or.inr ⟨rfl, rfl⟩, h⟩
  | some p => rw [hr] at h; exact ⟨p.1, p.2, true, Or.inl ⟨rfl, rfl⟩, h⟩
theorem rshi_l (s : ByteArray) (b : Int) (hs : s.size ≤ 1048576) : ∃ (t : ByteArray) (c : Int) (ok : Bool), Hid ((ok = true ∧ rsh s b = some (t, c)) ∨ (ok = false ∧ rsh s b = none)) ∧ Hid (∀ w, Calls Tryd.prog 43 #[.string s, .int .i64 b] w fun e w' => e = .returned (.tuple #[.string t, .int .i64 c, .bool ok]) ∧ Below w.heap.size w w') := by
  have h := implRsh s b (hs := hs)
  unfold rshT at h
  cases hr : rsh s b with
  | none => rw [hr] at h; exact ⟨⟨#[]⟩, 0, false, Or.inr ⟨rfl, rfl⟩, h⟩
  | some p => rw [hr] at h; exact ⟨p.1, p.2, true, Or.inl ⟨rfl, rfl⟩, h⟩
set_option maxHeartbeats 800000 in
set_option maxRecDepth 100000 in
theorem numr_any (k : Nat) (s : ByteArray) (b : Int) (w : World) (hs : s.size ≤ 1048576) (hc : Dg w k s b) :
    Calls Tryd.prog 34 #[.pointer (some ⟨k, 0, none⟩)] w fun e w' => Num1 w k s b e w' := by
  obtain ⟨n, c, ok, hr, cr⟩ := rdi_l s b hs
  have HC := hid hc
  clear hc hs
  have HS : Hid (∀ W, Below w.heap.size w W → (W.cell? ⟨k, 0, none⟩ = some (.string s) ∧ W.cell? ⟨k, 1, none⟩ = some (.int .i64 b))) := fun W h => (HC.out.later h).cells
  go_enter Tryd.func34, Tryd.ntmps34
  go_wp2_with fail
  go_region_held3 (fun W => (W.cell? ⟨k, 0, none⟩ = some (.string s) ∧ W.cell? ⟨k, 1, none⟩ = some (.int .i64 b)))
    ((refine HS.out _ ?_; repeat (first | exact bdr (bre _) | refine btr ?_ (by assumption))))
    ((go_at_call 42; refine (cr.out _).mono ?_; rintro e w1 ⟨rfl, hb1⟩))
  have B1 : Hid (Below w.heap.size w w1) := by show Below _ _ _; repeat (first | exact bdr (bre _) | refine btr ?_ (by assumption))
  have K1 := hid (HC.out.later B1.out)
  have d := K1.out.cells
  have f := K1.out.loose
  clear hb1 HS
  cases ok
  · go_wp2_with fail
    refine (must_no _).mono ?_; rintro e w2 ⟨rfl, h2⟩
    subst h2
    go_wp2_with fail
    exact ⟨rfl, Or.inr ⟨(by rcases hr.out with ⟨h, _⟩ | ⟨_, h⟩; (cases h); exact h), rfl, grown_below B1.out _⟩⟩
  · go_wp2_with fail
    refine (must_yes _).mono ?_; rintro e w2 ⟨rfl, h2⟩
    subst h2
    go_wp2
    go_ret
    exact Or.inl ⟨n, c, (by rcases hr.out with ⟨_, h⟩ | ⟨h, _⟩; (exact h); cases h), rfl, K1.out.s1 c, wst (grown_below B1.out _) 1 _⟩
set_option maxHeartbeats 800000 in
set_option maxRecDepth 100000 in
theorem short_any (k : Nat) (s : ByteArray) (b : Int) (w : World) (hs : s.size ≤ 1048576) (hc : Dg w k s b) :
    Calls Tryd.prog 35 #[.pointer (some ⟨k, 0, none⟩)] w fun e w' => Txt1 w k s b e w' := by
  obtain ⟨t, c, ok, hr, cr⟩ := rshi_l s b hs
  have HC := hid hc
  clear hc hs
  have HS : Hid (∀ W, Below w.heap.size w W → (W.cell? ⟨k, 0, none⟩ = some (.string s) ∧ W.cell? ⟨k, 1, none⟩ = some (.int .i64 b))) := fun W h => (HC.out.later h).cells
  go_enter Tryd.func35, Tryd.ntmps35
  go_wp2_with fail
  go_region_held3 (fun W => (W.cell? ⟨k, 0, none⟩ = some (.string s) ∧ W.cell? ⟨k, 1, none⟩ = some (.int .i64 b)))
    ((refine HS.out _ ?_; repeat (first | exact bdr (bre _) | refine btr ?_ (by assumption))))
    ((go_at_call 43; refine (cr.out _).mono ?_; rintro e w1 ⟨rfl, hb1⟩))
  have B1 : Hid (Below w.heap.size w w1) := by show Below _ _ _; repeat (first | exact bdr (bre _) | refine btr ?_ (by assumption))
  have K1 := hid (HC.out.later B1.out)
  have d := K1.out.cells
  have f := K1.out.loose
  clear hb1 HS
  cases ok
  · go_wp2_with fail
    refine (must_no _).mono ?_; rintro e w2 ⟨rfl, h2⟩
    subst h2
    go_wp2_with fail
    exact ⟨rfl, Or.inr ⟨(by rcases hr.out with ⟨h, _⟩ | ⟨_, h⟩; (cases h); exact h), rfl, grown_below B1.out _⟩⟩
  · go_wp2_with fail
    refine (must_yes _).mono ?_; rintro e w2 ⟨rfl, h2⟩
    subst h2
    go_wp2
    go_ret
    exact Or.inl ⟨t, c, (by rcases hr.out with ⟨_, h⟩ | ⟨h, _⟩; (exact h); cases h), rfl, K1.out.s1 c, wst (grown_below B1.out _) 1 _⟩
theorem assert_yes (W : World) : (Instr.typeAssert (.iface 71 (.agg #[])) 20 71 true).run Tryd.prog W = .ok (.tuple #[.agg #[], .bool true]) W := by kernel_rfl
theorem assert_nil (W : World) : (Instr.typeAssert .nilIface 20 71 true).run Tryd.prog W = .ok (.tuple #[.agg #[], .bool false]) W := by kernel_rfl
/-- Block k holds a word. -/
def Bwd (W : World) (k : Nat) (b : Bool) : Prop := W.heap[k]? = some (.cells #[.bool b] 4 (0, 0))
theorem Bwd.new (w : World) (b : Bool) : Bwd (w.alloc (.cells #[.bool b] 4)) w.heap.size b := heap_alloc_new w _
theorem Bwd.lt {W : World} {k : Nat} {b : Bool} (h : Bwd W k b) : k < W.heap.size := (Array.getElem?_eq_some_iff.1 h).1
theorem Bwd.later {W W' : World} {k : Nat} {b : Bool} (h : Bwd W k b) (hb : Below W.heap.size W W') : Bwd W' k b := (hb.block k h.lt).trans h
theorem Bwd.grown {W W' : World} {k : Nat} {b : Bool} {r : Option Nat} (h : Bwd W k b) (hg : W.grownBy W' r) (hk : some k ≠ r) : Bwd W' k b := (hg.block k h.lt hk).trans h
theorem Bwd.cell {W : World} {k : Nat} {b : Bool} (h : Bwd W k b) : W.cell? ⟨k, 0, none⟩ = some (.bool b) := cell_of_row W k 0 _ _ _ h
theorem Bwd.loose {W : World} {k : Nat} {b : Bool} (h : Bwd W k b) : W.frozen? ⟨k, 0, none⟩ = false := frozen_of_row W k 0 _ _ h
theorem Bwd.set {W : World} {k : Nat} {b : Bool} (h : Bwd W k b) (b' : Bool) : Bwd (W.setCell ⟨k, 0, none⟩ (.bool b')) k b' := heap_setCell_same W k 0 _ _ (.bool b') h
set_option maxRecDepth 100000 in
theorem catch_panic (kb : Nat) (b0 : Bool) (older : List PanicEntry) (w : World) (hb : Bwd w kb b0) :
    CallsD Tryd.prog 45 #[.pointer (some ⟨kb, 0, none⟩)] (.panicking ({ v := .iface 71 (.agg #[]), recovered := false } :: older)) w fun e u' w' =>
      e = .returned (.tuple #[]) ∧ u' = .panicking ({ v := .iface 71 (.agg #[]), recovered := true } :: older) ∧ w' = (w.alloc (.cells #[] 71)).setCell ⟨kb, 0, none⟩ (.bool false) := by
  have h1 := hb.later (bpush (bre w) (.cells #[] 71))
  have hc := h1.cell
  have hz := h1.loose
  refine callsD_of_wpS Tryd.func45 rfl fun c₀ cs hu => ?_
  apply wpS_seq
  apply wpS_region
  simp [wpOpsS, go_sem, recoverD, hu, Tryd.ntmps45, Exit.thenS, assert_yes]
  apply wpS_seq
  apply wpS_region
  simp [wpOpsS, go_sem, Exit.thenS]
  refine wpS_cond (t := true) (by simp [Act.eval, Array.replicate]) ?_
  simp only [if_true]
  apply wpS_region
  simp [wpOpsS, go_sem, hc, hz, bodyPostS, results, Tryd.results45]
set_option maxRecDepth 100000 in
theorem catch_idle (kb : Nat) (w : World) :
    CallsD Tryd.prog 45 #[.pointer (some ⟨kb, 0, none⟩)] .returning w fun e u' w' => e = .returned (.tuple #[]) ∧ u' = .returning ∧ w' = w.alloc (.cells #[] 71) := by
  refine callsD_of_wpS Tryd.func45 rfl fun c₀ cs hu => ?_
  apply wpS_seq
  apply wpS_region
  simp [wpOpsS, go_sem, recoverD, hu, Tryd.ntmps45, Exit.thenS, assert_nil]
  apply wpS_seq
  apply wpS_region
  simp [wpOpsS, go_sem, Exit.thenS]
  refine wpS_cond (t := false) (by simp [Act.eval, Array.replicate]) ?_
  simp only [Bool.false_eq_true, if_false]
  refine wpS_of_wp (wp_skip ?_)
  cases c₀
  simp_all [bodyPostS, results, Tryd.results45]
end Go.Proofs.YtlopdmledeglbaaDoor
