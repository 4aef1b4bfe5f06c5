/- Ma, Read, ReadA, ReadB, RShort, Mb, Mc, Md, Me, Mf. -/
import Derived.Test.YtocfggfccbnbhaaGreatDoorS15
import Derived.WalkKit
import Derived.Laws.IdiomStrings
import Derived.WalkSpells
import Derived.Test.YtocfggfccbnbhaaGreatDoorProg
import Derived.WalkLawsBesides
import Derived.Lib.Strings
import Derived.Lib.BufferWrite
import Derived.Lib.UnsafeStr
import Derived.Laws.MakeOwn
import Derived.Test.YtocfggfccbnbhaaGreatDoorProg
import Derived.Below
import Derived.BigQuiet
import Derived.Deep.QuietTactic
import Derived.Deep.RegionHeld3
import Derived.Deep.Cut
import Derived.Deep.RegionWith
import Derived.Laws.Bits128
import Derived.Laws.ShiftsVarLaws
import Derived.Lib.BufferMore
import Derived.Lib.ConvBytes
namespace Go.Proofs.YtocfggfccbnbhaaGreatDoor
open Go.RowKit
end Go.Proofs.YtocfggfccbnbhaaGreatDoor
namespace Go.Proofs.YtocfggfccbnbhaaGreatDoor
open Go.RowKit
end Go.Proofs.YtocfggfccbnbhaaGreatDoor
namespace Go.Proofs.YtocfggfccbnbhaaGreatDoor
open Go.RowKit
end Go.Proofs.YtocfggfccbnbhaaGreatDoor
namespace Go.Proofs.YtocfggfccbnbhaaGreatDoor
open Go.RowKit
end Go.Proofs.YtocfggfccbnbhaaGreatDoor
namespace Go.Proofs.YtocfggfccbnbhaaGreatDoor
open Go.RowKit
def Sg (W : World) (k ty : Nat) (t b : Int) : Prop := W.heap[k]? = some (.cells #[.int .i64 t, .int .i64 b] ty (0, 0))
theorem Sg.new (w : World) (ty : Nat) (t b : Int) : Sg (w.alloc (.cells #[.int .i64 t, .int .i64 b] ty)) w.heap.size ty t b := heap_alloc_new w _
theorem Sg.later {W W' : World} {k ty : Nat} {t b : Int} (h : Sg W k ty t b) (hb : Below W.heap.size W W') : Sg W' k ty t b := (hb.block k (Array.getElem?_eq_some_iff.1 h).1).trans h
theorem Sg.lt {W : World} {k ty : Nat} {t b : Int} (h : Sg W k ty t b) : k < W.heap.size := (Array.getElem?_eq_some_iff.1 h).1
theorem Sg.cells {W : World} {k ty : Nat} {t b : Int} (h : Sg W k ty t b) : W.cell? ⟨k, 0, none⟩ = some (.int .i64 t) ∧ W.cell? ⟨k, 1, none⟩ = some (.int .i64 b) :=
  ⟨cell_of_row W k 0 _ _ _ h, cell_of_row W k 1 _ _ _ h⟩
def set2 (W : World) (k : Nat) (t b : Int) : World := (W.setCell ⟨k, 0, none⟩ (.int .i64 t)).setCell ⟨k, 1, none⟩ (.int .i64 b)
theorem Rg.set' {W : World} {k ty : Nat} {v t b v' t' b' : Int} (h : Rg W k ty v t b) : Rg (((W.setCell ⟨k, 0, none⟩ (.int .i64 v')).setCell ⟨k, 1, none⟩ (.int .i64 t')).setCell ⟨k, 2, none⟩ (.int .i64 b')) k ty v' t' b' := h.set
theorem Sg.set' {W : World} {k ty : Nat} {t b t' b' : Int} (h : Sg W k ty t b) : Sg ((W.setCell ⟨k, 0, none⟩ (.int .i64 t')).setCell ⟨k, 1, none⟩ (.int .i64 b')) k ty t' b' := by
  have h1 := heap_setCell_same W k 0 _ _ (.int .i64 t') h
  have h2 := heap_setCell_same _ k 1 _ _ (.int .i64 b') h1
  exact h2
theorem Sg.set {W : World} {k ty : Nat} {t b t' b' : Int} (h : Sg W k ty t b) : Sg (set2 W k t' b') k ty t' b' := by
  have h1 := heap_setCell_same W k 0 _ _ (.int .i64 t') h
  have h2 := heap_setCell_same _ k 1 _ _ (.int .i64 b') h1
  exact h2
end Go.Proofs.YtocfggfccbnbhaaGreatDoor
namespace Go.Proofs.YtocfggfccbnbhaaGreatDoor
open Go.RowKit
end Go.Proofs.YtocfggfccbnbhaaGreatDoor
namespace Go.Proofs.YtocfggfccbnbhaaGreatDoor
open Go.RowKit
end Go.Proofs.YtocfggfccbnbhaaGreatDoor
namespace Go.Proofs.YtocfggfccbnbhaaGreatDoor
open Go.RowKit
end Go.Proofs.YtocfggfccbnbhaaGreatDoor

namespace Go.Proofs.YtocfggfccbnbhaaGreatDoor
open Go.RowKit
/-- What is read of the bytes l, k bytes having come ahead that make n; at most f bytes more. -/
def rv : Nat → List UInt8 → Nat → Nat → Option (Nat × Nat)
  | 0, _, _, _ => none
  | _ + 1, [], _, _ => none
  | f + 1, c :: l, k, n =>
    let m := n + c.toNat % 128 * 128 ^ k
    if c.toNat < 128 then (if 1000000000 < m ∨ (c.toNat = 0 ∧ 0 < k) then none else some (m, k + 1)) else rv f l (k + 1) m
theorem rv_end (f k n : Nat) : rv f [] k n = none := by cases f <;> rfl
theorem rv_more (f k n : Nat) (c : UInt8) (l : List UInt8) (h : ¬ c.toNat < 128) : rv (f + 1) (c :: l) k n = rv f l (k + 1) (n + c.toNat % 128 * 128 ^ k) := by
  simp [rv, h]
theorem rv_bad (f k n : Nat) (c : UInt8) (l : List UInt8) (h : c.toNat < 128) (h2 : 1000000000 < n + c.toNat % 128 * 128 ^ k ∨ (c.toNat = 0 ∧ 0 < k)) : rv (f + 1) (c :: l) k n = none := by
  simp only [rv]; rw [if_pos h, if_pos h2]
theorem rv_good (f k n : Nat) (c : UInt8) (l : List UInt8) (h : c.toNat < 128) (h2 : ¬ (1000000000 < n + c.toNat % 128 * 128 ^ k ∨ (c.toNat = 0 ∧ 0 < k))) : rv (f + 1) (c :: l) k n = some (n + c.toNat % 128 * 128 ^ k, k + 1) := by
  simp only [rv]; rw [if_pos h, if_neg h2]
theorem val_snoc (p : List UInt8) (c : UInt8) : val (p ++ [c]) = val p + c.toNat % 128 * 128 ^ p.length := by
  induction p with
  | nil => simp [val]
  | cons b p ih => simp only [List.cons_append, val, ih, List.length_cons, Nat.pow_succ]; rw [Nat.mul_add]; have : 128 * (c.toNat % 128 * 128 ^ p.length) = c.toNat % 128 * (128 ^ p.length * 128) := by rw [Nat.mul_comm 128, Nat.mul_assoc]
                   omega
theorem vbs_last (n : Nat) : (vbs n).getLast? = some 0 → n = 0 := by
  induction n using Nat.strongRecOn with
  | _ n ih =>
    by_cases h : 127 < n
    · rw [vbs_big n h]
      intro hl
      have hne : vbs (n / 128) ≠ [] := by
        by_cases h2 : 127 < n / 128
        · rw [vbs_big _ h2]; simp
        · rw [vbs_small _ h2]; simp
      have := ih (n / 128) (by omega) (by simpa [List.getLast?_cons, List.getLast?_eq_some_getLast hne] using hl)
      omega
    · rw [vbs_small n h]
      simp only [List.getLast?_singleton, Option.some.injEq]
      intro hl
      have := congrArg UInt8.toNat hl
      simp [UInt8.toNat_ofNat'] at this
      omega
theorem vbs_val (p : List UInt8) (c : UInt8) (hp : ∀ b ∈ p, ¬ b.toNat < 128) (hc : c.toNat < 128) (h0 : p = [] ∨ c.toNat ≠ 0) : vbs (val (p ++ [c])) = p ++ [c] := by
  induction p with
  | nil =>
    simp only [List.nil_append, val]
    rw [vbs_small _ (by omega)]
    simp
    apply UInt8.toNat_inj.1
    simp [UInt8.toNat_ofNat']; omega
  | cons b p ih =>
    have hc0 : c.toNat ≠ 0 := by simpa using h0
    have hb := hp b (by simp)
    have hv : vbs (val (p ++ [c])) = p ++ [c] := ih (fun x hx => hp x (by simp [hx])) (.inr hc0)
    have hpos : 0 < val (p ++ [c]) := by
      rw [val_snoc]
      have : 0 < c.toNat % 128 * 128 ^ p.length := Nat.mul_pos (by omega) (Nat.pow_pos (by decide))
      omega
    simp only [List.cons_append, val]
    have hbl : b.toNat < 256 := b.toNat_lt
    rw [vbs_big _ (by omega)]
    rw [show (b.toNat % 128 + 128 * val (p ++ [c])) / 128 = val (p ++ [c]) by omega, hv]
    rw [show (b.toNat % 128 + 128 * val (p ++ [c])) % 128 + 128 = b.toNat by omega]
    simp
theorem vbs_not (p : List UInt8) (c : UInt8) (hc : c.toNat = 0) (hp : p ≠ []) : vbs (val (p ++ [c])) ≠ p ++ [c] := by
  intro h
  have hc' : c = 0 := UInt8.toNat_inj.1 (by simpa using hc)
  have hz := vbs_last (val (p ++ [c])) (by rw [h]; simp [hc'])
  rw [hz, vbs_small 0 (by decide)] at h
  have := congrArg List.length h
  simp at this
  exact hp this
/-- How a call ends that has read r from the place a on. -/
def RvEnd (r : Option (Nat × Nat)) (a : Nat) (e : Ending) : Prop :=
  match r with
  | none => e = .returned (.tuple #[.int .i64 0, .int .i64 0, .bool false])
  | some (n, k) => e = .returned (.tuple #[.int .i64 n, .int .i64 (a + k : Nat), .bool true])
theorem RvEnd.no {r : Option (Nat × Nat)} {a : Nat} (h : r = none) : RvEnd r a (.returned (.tuple #[.int .i64 0, .int .i64 0, .bool false])) := by subst h; rfl
theorem RvEnd.yes {r : Option (Nat × Nat)} {a n k : Nat} {x y : Int} (h : r = some (n, k)) (hx : x = n) (hy : y = (a + k : Nat)) : RvEnd r a (.returned (.tuple #[.int .i64 x, .int .i64 y, .bool true])) := by subst h hx hy; rfl
theorem val_lt (p : List UInt8) : val p < 128 ^ p.length := by
  induction p with
  | nil => simp [val]
  | cons b p ih => simp only [val, List.length_cons, Nat.pow_succ]; omega
/-- k bytes that go on have been read from the place a on; they make n; what is left is read as the whole is. -/
def RvAt (s : ByteArray) (a k n : Nat) : Prop :=
  a + k ≤ s.size ∧ n = val ((s.data.toList.drop a).take k) ∧ (∀ b ∈ (s.data.toList.drop a).take k, ¬ b.toNat < 128) ∧ rv (5 - k) (s.data.toList.drop (a + k)) k n = rv 5 (s.data.toList.drop a) 0 0
theorem RvAt.start (s : ByteArray) (a : Nat) (h : a ≤ s.size) : RvAt s a 0 0 := ⟨h, rfl, by simp, rfl⟩
theorem len_list (s : ByteArray) : s.data.toList.length = s.size := Array.length_toList
theorem drop_here (s : ByteArray) (j : Nat) (h : j < s.size) : s.data.toList.drop j = s[j] :: s.data.toList.drop (j + 1) := by
  rw [List.drop_eq_getElem_cons (by rw [len_list]; exact h)]; rfl
theorem take_from (s : ByteArray) (a k : Nat) (h : a + k < s.size) : (s.data.toList.drop a).take (k + 1) = (s.data.toList.drop a).take k ++ [s[a + k]] := by
  rw [List.take_succ_eq_append_getElem (by rw [List.length_drop, len_list]; omega)]
  simp
  rfl
theorem RvAt.len {s : ByteArray} {a k n : Nat} (h : RvAt s a k n) : ((s.data.toList.drop a).take k).length = k := by
  rw [List.length_take, List.length_drop, len_list]; have := h.1; omega
theorem RvAt.lt {s : ByteArray} {a k n : Nat} (h : RvAt s a k n) : n < 128 ^ k := by
  have := val_lt ((s.data.toList.drop a).take k); rw [h.len, ← h.2.1] at this; exact this
theorem RvAt.val {s : ByteArray} {a k n m : Nat} (h : RvAt s a k n) (hj : a + k < s.size) (hm : n + s[a + k].toNat % 128 * 128 ^ k = m) : m = val ((s.data.toList.drop a).take k ++ [s[a + k]]) := by
  rw [val_snoc, h.len, ← h.2.1, hm]
theorem RvAt.next {s : ByteArray} {a k n m : Nat} (h : RvAt s a k n) (hk : k < 5) (hj : a + k < s.size) (hm : n + s[a + k].toNat % 128 * 128 ^ k = m) (hc : ¬ s[a + k].toNat < 128) : RvAt s a (k + 1) m := by
  refine ⟨hj, ?_, ?_, ?_⟩
  · rw [take_from s a k hj]; exact h.val hj hm
  · rw [take_from s a k hj]
    intro b hb
    rcases List.mem_append.1 hb with hb | hb
    · exact h.2.2.1 b hb
    · simp at hb; subst hb; exact hc
  · rw [← h.2.2.2, drop_here s (a + k) hj]
    obtain ⟨f, hf⟩ : ∃ f, 5 - k = f + 1 := ⟨4 - k, by omega⟩
    rw [hf, rv_more _ _ _ _ _ hc, hm, show 5 - (k + 1) = f by omega]; rfl
theorem RvAt.big {s : ByteArray} {a k n m : Nat} (h : RvAt s a k n) (hk : k < 5) (hj : a + k < s.size) (hm : n + s[a + k].toNat % 128 * 128 ^ k = m) (hc : s[a + k].toNat < 128) (hb : 1000000000 < m ∨ (s[a + k].toNat = 0 ∧ 0 < k)) : rv 5 (s.data.toList.drop a) 0 0 = none := by
  rw [← h.2.2.2, drop_here s (a + k) hj]
  obtain ⟨f, hf⟩ : ∃ f, 5 - k = f + 1 := ⟨4 - k, by omega⟩
  rw [hf, rv_bad _ _ _ _ _ hc (by rw [hm]; exact hb)]
theorem RvAt.good {s : ByteArray} {a k n m : Nat} (h : RvAt s a k n) (hk : k < 5) (hj : a + k < s.size) (hm : n + s[a + k].toNat % 128 * 128 ^ k = m) (hc : s[a + k].toNat < 128) (hb : ¬ (1000000000 < m ∨ (s[a + k].toNat = 0 ∧ 0 < k))) : rv 5 (s.data.toList.drop a) 0 0 = some (m, k + 1) := by
  rw [← h.2.2.2, drop_here s (a + k) hj]
  obtain ⟨f, hf⟩ : ∃ f, 5 - k = f + 1 := ⟨4 - k, by omega⟩
  rw [hf, rv_good _ _ _ _ _ hc (by rw [hm]; exact hb), hm]
theorem RvAt.out {s : ByteArray} {a k n : Nat} (h : RvAt s a k n) (hk : ¬ (k < 5 ∧ a + k < s.size)) : rv 5 (s.data.toList.drop a) 0 0 = none := by
  rw [← h.2.2.2]
  by_cases h5 : k < 5
  · rw [List.drop_eq_nil_of_le (by rw [len_list]; omega), rv_end]
  · rw [show 5 - k = 0 by omega]; rfl
theorem extract_here (s : ByteArray) (a k : Nat) (h : a + k < s.size) : (s.extract a (a + k + 1)).toList = (s.data.toList.drop a).take k ++ [s[a + k]] := by
  rw [ByteArray.toList_eq, ← take_from s a k h, ByteArray.data_extract]
  simp
  congr 1; omega
/-- The model's test: is what VarText writes of the number the very bytes that stand there? -/
theorem RvAt.test {s : ByteArray} {a k n m : Nat} (h : RvAt s a k n) (hj : a + k < s.size) (hm : n + s[a + k].toNat % 128 * 128 ^ k = m) (hc : s[a + k].toNat < 128) :
    (vbs m == (s.extract a (a + k + 1)).toList) = !decide (s[a + k].toNat = 0 ∧ 0 < k) := by
  rw [extract_here s a k hj, h.val hj hm]
  by_cases h0 : s[a + k].toNat = 0 ∧ 0 < k
  · have hne : (s.data.toList.drop a).take k ≠ [] := fun e => by have := h.len; rw [e] at this; simp at this; omega
    have := vbs_not _ _ h0.1 hne
    simp [h0, this]
  · have := vbs_val ((s.data.toList.drop a).take k) s[a + k] h.2.2.1 hc (by
      by_cases hz : s[a + k].toNat = 0
      · left; apply List.eq_nil_of_length_eq_zero; rw [h.len]; omega
      · right; exact hz)
    rw [this]
    simp only [beq_self_eq_true]
    simp [h0]
theorem RvAt.endNe {s : ByteArray} {a k n m : Nat} (h : RvAt s a k n) (hk : k < 5) (hj : a + k < s.size) (hm : n + s[a + k].toNat % 128 * 128 ^ k = m) (hc : s[a + k].toNat < 128)
    (ht : (!vbs m == (s.extract a (a + k + 1)).toList) = true) : rv 5 (s.data.toList.drop a) 0 0 = none := by
  rw [h.test hj hm hc] at ht
  exact h.big hk hj hm hc (.inr (by simpa using ht))
theorem RvAt.endEq {s : ByteArray} {a k n m : Nat} (h : RvAt s a k n) (hk : k < 5) (hj : a + k < s.size) (hm : n + s[a + k].toNat % 128 * 128 ^ k = m) (hc : s[a + k].toNat < 128) (hb : ¬ 1000000000 < m)
    (ht : (!vbs m == (s.extract a (a + k + 1)).toList) = false) : rv 5 (s.data.toList.drop a) 0 0 = some (m, k + 1) := by
  rw [h.test hj hm hc, Bool.not_not] at ht
  exact h.good hk hj hm hc (fun h => h.elim hb (of_decide_eq_false ht))
end Go.Proofs.YtocfggfccbnbhaaGreatDoor

namespace Go.Proofs.YtocfggfccbnbhaaGreatDoor
open Go.RowKit
set_option maxHeartbeats 400000 in
set_option maxRecDepth 100000 in
theorem specRead_any (s : ByteArray) (a : Nat) (w : World) (hs : s.size ≤ 1048576) (ha : a ≤ s.size) :
    Calls Tryz.prog 101 #[.string s, .int .i64 a] w fun e w' => RvEnd (rv 5 (s.data.toList.drop a) 0 0) a e ∧ Below w.heap.size w w' := by
  go_enter Tryz.func101, Tryz.ntmps101
  go_wp2_with fail
  refine (l01In_yes _ _ _ _ (by omega) (by omega)).mono ?_; rintro e w' ⟨rfl, rfl⟩
  go_wp2_with fail
  go_loopw [7, 8, 9] (fun nv sv iv wr => ∃ (k n : Nat), k ≤ 5 ∧ nv = .int .i64 n ∧ sv = .int .i64 ((128 ^ k : Nat) : Int) ∧ iv = .int .i64 ((a + k : Nat) : Int) ∧ RvAt s a k n ∧ Below w.heap.size w wr) (fun _ _ iv _ => s.size - (intOf iv).toNat)
  case atStart => exact ⟨0, 0, by omega, rfl, rfl, rfl, RvAt.start s a ha, Below.refl _ _⟩
  case round =>
    obtain ⟨k, n, hk, rfl, rfl, rfl, hR, hb⟩ := hrel
    obtain ⟨j, hja⟩ : ∃ j, j = a + k := ⟨_, rfl⟩
    have hj := hR.1
    have hnb := hR.lt
    have HA : Hid (j = a + k) := hja
    have HR : Hid (RvAt s a k n) := hR
    rw [← hja] at hj ⊢
    clear hja hR
    have haj : a ≤ j := by have := HA.out; omega
    have hbsz := hb.size
    by_cases hlt : j < s.size
    · by_cases h5 : k < 5
      · have h5' : j < a + 5 := by have := HA.out; omega
        obtain ⟨c, hcx⟩ : ∃ c : Nat, s[j].toNat = c := ⟨_, rfl⟩
        have hcb : c < 256 := by rw [← hcx]; exact s[j].toNat_lt
        have hak : a + k < s.size := by have := HA.out; omega
        have HC : Hid (s[a + k].toNat = c) := by have e := HA.out; subst e; exact hcx
        have hI1 : (0 : Int) ≤ (j : Int) + 1 := by omega
        have hI2 : (j : Int) + 1 ≤ (s.size : Int) := by omega
        have hI4 : IntKind.i64.wrap ((j : Int) + 1) = (j : Int) + 1 := by rw [IntKind.wrap_i64]; omega
        have hI3 : (a : Int) ≤ (j : Int) + 1 := by omega
        obtain ⟨m, hm⟩ : ∃ m : Nat, n + c % 128 * 128 ^ k = m := ⟨_, rfl⟩
        have HM : Hid (n + s[a + k].toNat % 128 * 128 ^ k = m) := by show _ = _; rw [HC.out]; exact hm
        have HE : Hid ((s.extract a (a + k + 1)).toList = (s.extract a (j + 1)).toList) := by show _ = _; rw [HA.out]
        have hk' : k = 0 ∨ k = 1 ∨ k = 2 ∨ k = 3 ∨ k = 4 := by omega
        clear hk
        rcases hk' with rfl | rfl | rfl | rfl | rfl
        all_goals
          simp only [Nat.reducePow, Nat.mul_one] at hm hnb ⊢
          have hmi := congrArg (Nat.cast (R := Int)) hm
          simp only [Int.natCast_add, Int.natCast_mul, Int.natCast_emod, Int.cast_ofNat_Int] at hmi
          have hmb : m ≤ 68450000000 := by omega
          clear hm
          by_cases hc : c < 128
          · by_cases hbig : 1000000000 < m
            · first
                | (exfalso; omega)
                | (have hd : decide (1000000000 < (m : Int)) = true := by simp; omega
                   go_wp2_with fail
                   go_region
                   all_goals go_wp2
                   all_goals go_ret3
                   all_goals exact ⟨RvEnd.no (HR.out.big (by decide) hak HM.out (by rw [HC.out]; exact hc) (.inl hbig)), hb.drew⟩)
            · have hd : decide (1000000000 < (m : Int)) = false := by simp; omega
              go_wp2_with fail
              go_region_held3 (fun _ => True) (trivial) ((go_at_call 75; refine (l01Var_any m _ (by omega)).mono ?_; rintro e w1 ⟨rfl, hb1⟩))
              all_goals go_wp2
              · have ht : (!vbs m == (s.extract a (j + 1)).toList) = true := by assumption
                go_ret3
                exact ⟨RvEnd.no (HR.out.endNe (by decide) hak HM.out (by rw [HC.out]; exact hc) (by rw [HE.out]; exact ht)), hb.drew.trans (hb1.mono hbsz)⟩
              · have ht : (!vbs m == (s.extract a (j + 1)).toList) = false := by assumption
                go_ret3
                exact ⟨RvEnd.yes (HR.out.endEq (by decide) hak HM.out (by rw [HC.out]; exact hc) hbig (by rw [HE.out]; exact ht)) rfl (by have := HA.out; omega), hb.drew.trans (hb1.mono hbsz)⟩
          · go_wp2_with fail
            go_roundw
            case rel => exact ⟨_, m, by omega, rfl, rfl, by have := HA.out; go_num, HR.out.next (by decide) hak HM.out (by rw [HC.out]; exact hc), hb⟩
            case measure => simp [intOf]; omega
      · have h5' : ¬ j < a + 5 := by have := HA.out; omega
        go_wp2
        go_ret3
        exact ⟨RvEnd.no (HR.out.out (by omega)), hb⟩
    · go_wp2
      go_ret3
      exact ⟨RvEnd.no (HR.out.out (by have := HA.out; omega)), hb⟩
theorem specRead_no (s : ByteArray) (a : Int) (w : World) (_hs : s.size ≤ 1048576) (ha : a < 0 ∨ s.size < a) :
    Calls Tryz.prog 101 #[.string s, .int .i64 a] w fun e w' => e = .returned (.tuple #[.int .i64 0, .int .i64 0, .bool false]) ∧ w = w' := by
  go_enter Tryz.func101, Tryz.ntmps101
  go_wp2_with fail
  refine (l01In_no _ _ _ _ (by omega)).mono ?_; rintro e w' ⟨rfl, rfl⟩
  go_wp2
  go_ret3
  exact ⟨rfl, rfl⟩
end Go.Proofs.YtocfggfccbnbhaaGreatDoor

namespace Go.Proofs.YtocfggfccbnbhaaGreatDoor
open Go.RowKit
set_option maxHeartbeats 1000000 in
set_option maxRecDepth 100000 in
theorem implRead_any (s : ByteArray) (a : Nat) (w : World) (hs : s.size ≤ 1048576) (ha : a ≤ s.size) :
    Calls Tryz.prog 136 #[.string s, .int .i64 a] w fun e w' => RvEnd (rv 5 (s.data.toList.drop a) 0 0) a e ∧ Below w.heap.size w w' := by
  go_enter Tryz.func136, Tryz.ntmps136
  go_wp2_with fail
  go_loopw [7, 8] (fun nv iv wr => ∃ (k n : Nat), k ≤ 5 ∧ nv = .int .i64 n ∧ iv = .int .i64 (k : Int) ∧ RvAt s a k n ∧ Below w.heap.size w wr) (fun _ iv _ => 5 - (intOf iv).toNat)
  case atStart => exact ⟨0, 0, by omega, rfl, rfl, RvAt.start s a ha, Below.refl _ _⟩
  case round =>
    obtain ⟨k, n, hk, rfl, rfl, hR, hb⟩ := hrel
    have hj := hR.1
    have hnb := hR.lt
    have HR : Hid (RvAt s a k n) := hR
    clear hR
    by_cases hlt : a + k < s.size
    · by_cases h5 : k < 5
      · obtain ⟨c, hcx⟩ : ∃ c : Nat, s[a + k].toNat = c := ⟨_, rfl⟩
        have hcb : c < 256 := by rw [← hcx]; exact s[a + k].toNat_lt
        have HC : Hid (s[a + k].toNat = c) := hcx
        obtain ⟨m, hm⟩ : ∃ m : Nat, n + c % 128 * 128 ^ k = m := ⟨_, rfl⟩
        have HM : Hid (n + s[a + k].toNat % 128 * 128 ^ k = m) := by show _ = _; rw [HC.out]; exact hm
        have hI : (0 : Int) ≤ (a : Int) + (k : Int) ∧ (a : Int) + (k : Int) < (s.size : Int) := by omega
        have hk' : k = 0 ∨ k = 1 ∨ k = 2 ∨ k = 3 ∨ k = 4 := by omega
        clear hk
        rcases hk' with rfl | rfl | rfl | rfl | rfl
        all_goals
          try simp only [Nat.add_zero] at hcx
          simp only [Int.cast_ofNat_Int, Int.add_zero] at hI
          simp only [Nat.reducePow, Nat.mul_one] at hm hnb
          have hmb : m ≤ 68450000000 := by omega
          have HM2 := hide hm
          clear hm
          by_cases hc : c < 128
          · go_wp2_with fail
            all_goals
              go_ret3
              have hm := unhide HM2
              first
                | exact ⟨RvEnd.no (HR.out.big (by decide) hlt HM.out (by rw [HC.out]; omega) (by rw [HC.out]; omega)), hb⟩
                | exact ⟨RvEnd.yes (HR.out.good (by decide) hlt HM.out (by rw [HC.out]; omega) (by rw [HC.out]; omega)) (by omega) (by omega), hb⟩
          · go_wp2_with fail
            go_roundw
            case rel =>
              refine ⟨_, m, ?h1, ?h2, ?h3, HR.out.next (by decide) hlt HM.out (by rw [HC.out]; exact hc), hb⟩
              case h1 => decide
              case h2 => have hm := unhide HM2; go_num
              case h3 => rfl
            case measure => simp [intOf]
      · go_wp2_with fail
        go_ret3
        exact ⟨RvEnd.no (HR.out.out (by omega)), hb⟩
    · by_cases h5 : k < 5
      all_goals
        go_wp2_with fail
        go_ret3
        exact ⟨RvEnd.no (HR.out.out (by omega)), hb⟩
theorem implRead_no (s : ByteArray) (a : Int) (w : World) (ha : a < 0 ∨ s.size < a) :
    Calls Tryz.prog 136 #[.string s, .int .i64 a] w fun e w' => e = .returned (.tuple #[.int .i64 0, .int .i64 0, .bool false]) ∧ w = w' := by
  rcases ha with ha | ha
  · go_enter Tryz.func136, Tryz.ntmps136
    go_wp2
    go_ret3
    exact ⟨rfl, rfl⟩
  · have h0 : ¬ a < 0 := by omega
    go_enter Tryz.func136, Tryz.ntmps136
    go_wp2
    go_ret3
    exact ⟨rfl, rfl⟩
end Go.Proofs.YtocfggfccbnbhaaGreatDoor

namespace Go.Proofs.YtocfggfccbnbhaaGreatDoor
open Go.RowKit
theorem rv_some : ∀ (f : Nat) (l : List UInt8) (k n m d : Nat), rv f l k n = some (m, d) → m ≤ 1000000000 ∧ d ≤ k + l.length
  | 0, _, _, _, _, _, h => by simp [rv] at h
  | _ + 1, [], _, _, _, _, h => by simp [rv] at h
  | f + 1, c :: l, k, n, m, d, h => by
    by_cases hc : c.toNat < 128
    · by_cases h2 : 1000000000 < n + c.toNat % 128 * 128 ^ k ∨ (c.toNat = 0 ∧ 0 < k)
      · rw [rv_bad f k n c l hc h2] at h; simp at h
      · rw [rv_good f k n c l hc h2] at h
        simp only [Option.some.injEq, Prod.mk.injEq] at h
        obtain ⟨rfl, rfl⟩ := h
        simp only [List.length_cons]
        omega
    · rw [rv_more f k n c l hc] at h
      have := rv_some f l _ _ m d h
      simp only [List.length_cons]
      omega
/-- The place behind, and whether a text of n bytes lies there. -/
theorem rv_place {s : ByteArray} {k n d : Nat} (hk : k ≤ s.size) (h : rv 5 (s.data.toList.drop k) 0 0 = some (n, d)) : n ≤ 1000000000 ∧ k + d ≤ s.size := by
  have := rv_some _ _ _ _ _ _ h
  rw [List.length_drop, len_list] at this
  omega
theorem specRShort_no (s : ByteArray) (k : Int) (w : World) (hs : s.size ≤ 1048576)
    (h : (k < 0 ∨ s.size < k) ∨ (0 ≤ k ∧ k ≤ s.size ∧ rv 5 (s.data.toList.drop k.toNat) 0 0 = none)) :
    Calls Tryz.prog 117 #[.string s, .int .i64 k] w fun e w' => e = .returned (.tuple #[.string ⟨#[]⟩, .int .i64 0, .bool false]) ∧ Below w.heap.size w w' := by
  rcases h with h | ⟨h0, h1, h2⟩
  · go_enter Tryz.func117, Tryz.ntmps117
    go_wp2_with fail
    refine (specRead_no s k _ hs h).mono ?_; rintro e w1 ⟨rfl, rfl⟩
    go_wp2
    go_ret3
    exact ⟨rfl, Below.refl _ _⟩
  · obtain ⟨a, rfl⟩ : ∃ a : Nat, k = a := ⟨k.toNat, by omega⟩
    have HR : Hid (rv 5 (s.data.toList.drop a) 0 0 = none) := h2
    clear h2
    go_enter Tryz.func117, Tryz.ntmps117
    go_wp2_with fail
    refine (specRead_any s a _ hs (by omega)).mono ?_; rintro e w1 ⟨he, hb1⟩
    rw [HR.out] at he
    obtain rfl : e = .returned (.tuple #[.int .i64 0, .int .i64 0, .bool false]) := he
    go_wp2
    go_ret3
    exact ⟨rfl, hb1⟩
theorem implRShort_no (s : ByteArray) (k : Int) (w : World) (hs : s.size ≤ 1048576)
    (h : (k < 0 ∨ s.size < k) ∨ (0 ≤ k ∧ k ≤ s.size ∧ rv 5 (s.data.toList.drop k.toNat) 0 0 = none)) :
    Calls Tryz.prog 152 #[.string s, .int .i64 k] w fun e w' => e = .returned (.tuple #[.string ⟨#[]⟩, .int .i64 0, .bool false]) ∧ Below w.heap.size w w' := by
  rcases h with h | ⟨h0, h1, h2⟩
  · go_enter Tryz.func152, Tryz.ntmps152
    go_wp2_with fail
    refine (implRead_no s k _ h).mono ?_; rintro e w1 ⟨rfl, rfl⟩
    go_wp2
    go_ret3
    exact ⟨rfl, Below.refl _ _⟩
  · obtain ⟨a, rfl⟩ : ∃ a : Nat, k = a := ⟨k.toNat, by omega⟩
    have HR : Hid (rv 5 (s.data.toList.drop a) 0 0 = none) := h2
    clear h2
    go_enter Tryz.func152, Tryz.ntmps152
    go_wp2_with fail
    refine (implRead_any s a _ hs (by omega)).mono ?_; rintro e w1 ⟨he, hb1⟩
    rw [HR.out] at he
    obtain rfl : e = .returned (.tuple #[.int .i64 0, .int .i64 0, .bool false]) := he
    go_wp2
    go_ret3
    exact ⟨rfl, hb1⟩
theorem specRShort_bad (s : ByteArray) (a n d : Nat) (w : World) (hs : s.size ≤ 1048576) (ha : a ≤ s.size) (hr : rv 5 (s.data.toList.drop a) 0 0 = some (n, d)) (hbad : 20000 < n ∨ s.size < a + d + n) :
    Calls Tryz.prog 117 #[.string s, .int .i64 a] w fun e w' => e = .returned (.tuple #[.string ⟨#[]⟩, .int .i64 0, .bool false]) ∧ Below w.heap.size w w' := by
  have hp := rv_place ha hr
  have HR : Hid (rv 5 (s.data.toList.drop a) 0 0 = some (n, d)) := hr
  clear hr
  by_cases h2 : 20000 < n
  · clear hbad
    go_enter Tryz.func117, Tryz.ntmps117
    go_wp2_with fail
    refine (specRead_any s a _ hs ha).mono ?_; rintro e w1 ⟨he, hb1⟩
    rw [HR.out] at he
    obtain rfl : e = .returned (.tuple #[.int .i64 n, .int .i64 (a + d : Nat), .bool true]) := he
    go_wp2
    go_ret3
    exact ⟨rfl, hb1⟩
  · have h3 : s.size < a + d + n := by omega
    clear hbad
    go_enter Tryz.func117, Tryz.ntmps117
    go_wp2_with fail
    refine (specRead_any s a _ hs ha).mono ?_; rintro e w1 ⟨he, hb1⟩
    rw [HR.out] at he
    obtain rfl : e = .returned (.tuple #[.int .i64 n, .int .i64 (a + d : Nat), .bool true]) := he
    go_wp2
    go_ret3
    exact ⟨rfl, hb1⟩
theorem implRShort_bad (s : ByteArray) (a n d : Nat) (w : World) (hs : s.size ≤ 1048576) (ha : a ≤ s.size) (hr : rv 5 (s.data.toList.drop a) 0 0 = some (n, d)) (hbad : 20000 < n ∨ s.size < a + d + n) :
    Calls Tryz.prog 152 #[.string s, .int .i64 a] w fun e w' => e = .returned (.tuple #[.string ⟨#[]⟩, .int .i64 0, .bool false]) ∧ Below w.heap.size w w' := by
  have hp := rv_place ha hr
  have HR : Hid (rv 5 (s.data.toList.drop a) 0 0 = some (n, d)) := hr
  clear hr
  by_cases h2 : 20000 < n
  · clear hbad
    go_enter Tryz.func152, Tryz.ntmps152
    go_wp2_with fail
    refine (implRead_any s a _ hs ha).mono ?_; rintro e w1 ⟨he, hb1⟩
    rw [HR.out] at he
    obtain rfl : e = .returned (.tuple #[.int .i64 n, .int .i64 (a + d : Nat), .bool true]) := he
    go_wp2
    go_ret3
    exact ⟨rfl, hb1⟩
  · have h3 : s.size < a + d + n := by omega
    clear hbad
    go_enter Tryz.func152, Tryz.ntmps152
    go_wp2_with fail
    refine (implRead_any s a _ hs ha).mono ?_; rintro e w1 ⟨he, hb1⟩
    rw [HR.out] at he
    obtain rfl : e = .returned (.tuple #[.int .i64 n, .int .i64 (a + d : Nat), .bool true]) := he
    go_wp2
    go_ret3
    exact ⟨rfl, hb1⟩
theorem specRShort_yes (s : ByteArray) (a n d : Nat) (w : World) (hs : s.size ≤ 1048576) (ha : a ≤ s.size) (hr : rv 5 (s.data.toList.drop a) 0 0 = some (n, d)) (h2 : n ≤ 20000) (h3 : a + d + n ≤ s.size) :
    Calls Tryz.prog 117 #[.string s, .int .i64 a] w fun e w' => e = .returned (.tuple #[.string (s.extract (a + d) (a + d + n)), .int .i64 (a + d + n : Nat), .bool true]) ∧ Below w.heap.size w w' := by
  have HR : Hid (rv 5 (s.data.toList.drop a) 0 0 = some (n, d)) := hr
  clear hr
  go_enter Tryz.func117, Tryz.ntmps117
  go_wp2_with fail
  refine (specRead_any s a _ hs ha).mono ?_; rintro e w1 ⟨he, hb1⟩
  rw [HR.out] at he
  obtain rfl : e = .returned (.tuple #[.int .i64 n, .int .i64 (a + d : Nat), .bool true]) := he
  go_wp2
  go_ret3
  exact ⟨rfl, hb1⟩
theorem implRShort_yes (s : ByteArray) (a n d : Nat) (w : World) (hs : s.size ≤ 1048576) (ha : a ≤ s.size) (hr : rv 5 (s.data.toList.drop a) 0 0 = some (n, d)) (h2 : n ≤ 20000) (h3 : a + d + n ≤ s.size) :
    Calls Tryz.prog 152 #[.string s, .int .i64 a] w fun e w' => e = .returned (.tuple #[.string (s.extract (a + d) (a + d + n)), .int .i64 (a + d + n : Nat), .bool true]) ∧ Below w.heap.size w w' := by
  have HR : Hid (rv 5 (s.data.toList.drop a) 0 0 = some (n, d)) := hr
  have hsz : (s.extract (a + d) (a + d + n)).size ≤ 1048576 := by rw [ByteArray.size_extract]; omega
  clear hr
  go_enter Tryz.func152, Tryz.ntmps152
  go_wp2_with fail
  refine (implRead_any s a _ hs ha).mono ?_; rintro e w1 ⟨he, hb1⟩
  rw [HR.out] at he
  obtain rfl : e = .returned (.tuple #[.int .i64 n, .int .i64 (a + d : Nat), .bool true]) := he
  go_wp2_with fail
  refine (clone_any _ _ hsz).mono ?_; rintro e w2 ⟨rfl, hb2⟩
  go_wp2
  go_ret3
  exact ⟨rfl, hb1.trans (hb2.mono hb1.size)⟩
end Go.Proofs.YtocfggfccbnbhaaGreatDoor

namespace Go.Proofs.YtocfggfccbnbhaaGreatDoor
open Go.RowKit
/-- Block cb is a cursor over a code of n bytes. -/
def Cur (w : World) (cb : Nat) (ao : Option Addr) (n cap : Nat) : Prop :=
  ∃ (i : Nat) (h : Int), i ≤ n ∧ w.heap[cb]? = some (.cells #[.slice ao n cap, .int .i64 (i : Int), .int .i64 h] 113 (0, 0))
theorem Cur.alloc {w : World} {cb n cap : Nat} {ao : Option Addr} (h : Cur w cb ao n cap) (o : Obj) : Cur (w.alloc o) cb ao n cap := by
  obtain ⟨i, x, h1, h2⟩ := h
  exact ⟨i, x, h1, by rw [Below.heap_alloc w o cb (Array.getElem?_eq_some_iff.1 h2).1]; exact h2⟩
theorem Cur.lt {w : World} {cb n cap : Nat} {ao : Option Addr} (h : Cur w cb ao n cap) : cb < w.heap.size := by
  obtain ⟨i, x, h1, h2⟩ := h
  exact (Array.getElem?_eq_some_iff.1 h2).1
theorem only_set {w : World} {cb o : Nat} {u : Value} : w.grownBy (w.setCell ⟨cb, o, none⟩ u) (some cb) :=
  ⟨rfl, rfl, rfl, by simp [World.setCell], fun k _ hk => heap_setCell_other w ⟨cb, o, none⟩ k u (fun e => hk (by simp [e]))⟩
theorem only_trans {a b c : World} {r : Option Nat} (h : a.grownBy b r) (k : b.grownBy c r) : a.grownBy c r :=
  ⟨k.os.trans h.os, k.tape.trans h.tape, k.output.trans h.output, Nat.le_trans h.size k.size, fun i hi hr => (k.block i (Nat.lt_of_lt_of_le hi h.size) hr).trans (h.block i hi hr)⟩
end Go.Proofs.YtocfggfccbnbhaaGreatDoor
namespace Go.Proofs.YtocfggfccbnbhaaGreatDoor
open Go.RowKit
theorem only_add {w w1 w2 : World} {cb : Nat} (h : w.grownBy w1 (some cb)) (k : Below w.heap.size w1 w2) : w.grownBy w2 (some cb) :=
  ⟨k.os.trans h.os, k.tape.trans h.tape, k.output.trans h.output, Nat.le_trans h.size k.size, fun i hi hr => (k.block i hi).trans (h.block i hi hr)⟩
theorem Cur.later {w1 w2 : World} {B cb n cap : Nat} {ao : Option Addr} (h : Cur w1 cb ao n cap) (k : Below B w1 w2) (hB : cb < B) : Cur w2 cb ao n cap := by
  obtain ⟨i, x, h1, h2⟩ := h
  exact ⟨i, x, h1, by rw [k.block cb hB]; exact h2⟩
end Go.Proofs.YtocfggfccbnbhaaGreatDoor
namespace Go.Proofs.YtocfggfccbnbhaaGreatDoor
open Go.RowKit
end Go.Proofs.YtocfggfccbnbhaaGreatDoor
namespace Go.Proofs.YtocfggfccbnbhaaGreatDoor
open Go.RowKit
theorem Sg.kept {W W' : World} {k ty cb : Nat} {t b : Int} (h : Sg W k ty t b) (hg : W.grownBy W' (some cb)) (hk : k ≠ cb) : Sg W' k ty t b := (hg.block k h.lt (by simpa using hk)).trans h
theorem Sg.loose {W : World} {k ty : Nat} {t b : Int} (h : Sg W k ty t b) : W.frozen? ⟨k, 0, none⟩ = false ∧ W.frozen? ⟨k, 1, none⟩ = false :=
  ⟨frozen_of_row W k 0 _ _ h, frozen_of_row W k 1 _ _ h⟩
theorem gal {w w2 : World} {cb : Nat} (h : w.grownBy w2 (some cb)) (o : Obj) : w.grownBy (w2.alloc o) (some cb) := only_trans h (World.grownBy_alloc _ _ _)
theorem gdr {w w2 : World} {cb : Nat} (h : w.grownBy w2 (some cb)) : w.grownBy w2.drew (some cb) := ⟨h.os, h.tape, h.output, h.size, h.block⟩
theorem Cur.set {w : World} {cb n cap k o : Nat} {ao : Option Addr} {u : Value} (h : Cur w cb ao n cap) (hk : k ≠ cb) : Cur (w.setCell ⟨k, o, none⟩ u) cb ao n cap := by
  obtain ⟨i, x, h1, h2⟩ := h
  exact ⟨i, x, h1, by rw [Below.heap_setCell _ _ _ _ (fun e => hk e.symm)]; exact h2⟩
theorem Sg.other {W : World} {k ty g o : Nat} {t b : Int} {u : Value} (h : Sg W k ty t b) (hk : k ≠ g) : Sg (W.setCell ⟨g, o, none⟩ u) k ty t b := (heap_setCell_other W ⟨g, o, none⟩ k u hk).trans h
theorem Cur.drew {w : World} {cb n cap : Nat} {ao : Option Addr} (h : Cur w cb ao n cap) : Cur w.drew cb ao n cap := h
end Go.Proofs.YtocfggfccbnbhaaGreatDoor

namespace Go.Proofs.YtocfggfccbnbhaaGreatDoor
open Go.RowKit
theorem fl_app (l m : List R3) : fl (l ++ m) = fl l ++ fl m := by
  induction l with
  | nil => rfl
  | cons p l ih => simp only [List.cons_append, fl, ih]
end Go.Proofs.YtocfggfccbnbhaaGreatDoor
namespace Go.Proofs.YtocfggfccbnbhaaGreatDoor
open Go.RowKit
end Go.Proofs.YtocfggfccbnbhaaGreatDoor
namespace Go.Proofs.YtocfggfccbnbhaaGreatDoor
open Go.RowKit
theorem mks_len (k n : Nat) : (mks k n).length = n := by simp [mks]
theorem mks_at (k n i : Nat) (h : i < (mks k n).length) : (mks k n)[i] = (((k + i * 3 : Nat) : Int), ((k + i * 3 + 1 : Nat) : Int), ((k + i * 3 + 2 : Nat) : Int)) := by simp [mks]
/-- A row that is marked from the front. -/
def mkd (k : Nat) (l : List R3) (i : Nat) : List R3 := mks k i ++ l.drop i
theorem mkd_len (k : Nat) (l : List R3) (i : Nat) (h : i ≤ l.length) : (mkd k l i).length = l.length := by simp [mkd, mks_len]; omega
theorem mkd_zero (k : Nat) (l : List R3) : mkd k l 0 = l := by simp [mkd, mks]
theorem mkd_all (k : Nat) (l : List R3) : mkd k l l.length = mks k l.length := by simp [mkd]
theorem mkd_set (k : Nat) (l : List R3) (i : Nat) (h : i < l.length) (p : R3) (hp : p = (((k + i * 3 : Nat) : Int), ((k + i * 3 + 1 : Nat) : Int), ((k + i * 3 + 2 : Nat) : Int))) : (mkd k l i).set i p = mkd k l (i + 1) := by
  unfold mkd
  rw [List.set_append_right _ _ (by rw [mks_len]; omega), mks_len, Nat.sub_self, List.drop_eq_getElem_cons h, List.set_cons_zero, hp]
  have e : mks k (i + 1) = mks k i ++ [(((k + i * 3 : Nat) : Int), ((k + i * 3 + 1 : Nat) : Int), ((k + i * 3 + 2 : Nat) : Int))] := by
    unfold mks; rw [List.range_succ, List.map_append]; rfl
  rw [e, List.append_assoc]
  rfl
end Go.Proofs.YtocfggfccbnbhaaGreatDoor
namespace Go.Proofs.YtocfggfccbnbhaaGreatDoor
open Go.RowKit
end Go.Proofs.YtocfggfccbnbhaaGreatDoor
namespace Go.Proofs.YtocfggfccbnbhaaGreatDoor
open Go.RowKit
end Go.Proofs.YtocfggfccbnbhaaGreatDoor
namespace Go.Proofs.YtocfggfccbnbhaaGreatDoor
open Go.RowKit
def fnew (n t b : Int) : List R3 := [(bit n 0, t, b), (bit n 1, t, b), (bit n 2, t, b)]
theorem cells_new3 (w : World) (p : R3) (e : Nat) : ∀ j u, (fl [p])[j]? = some u → (w.alloc (.cells #[.int .i64 p.1, .int .i64 p.2.1, .int .i64 p.2.2] e)).cell? ((⟨w.heap.size, 0, none⟩ : Addr).add j) = some u := by
  intro j u hu
  have h := heap_alloc_new w (.cells #[.int .i64 p.1, .int .i64 p.2.1, .int .i64 p.2.2] e)
  have hadd : (⟨w.heap.size, 0, none⟩ : Addr).add j = ⟨w.heap.size, j, none⟩ := by unfold Addr.add; split <;> simp_all
  rw [hadd, cell_of_row _ _ _ _ _ _ h]
  simpa [fl] using hu
/-- One register appended to a row of registers that the call owns: the register lies in a block of its own, laid just ahead. -/
theorem wpList_append_rg (w : World) {ops : Array Oper} {rest : List Oper} {o : Oper} {a : Act} {Q : Exit → Act → World → Prop} (hgd : o.guard = none) (s x : Operand)
    (ho : o.op = .call { callee := .builtin .append, args := #[s, x], argTypes := #[84, 84] })
    (base : Nat) (v : Value) (l : List R3) (hs : a.eval s = v) (hown : Ow w base v l) (p q r : Int)
    (hx : a.eval x = .slice (some ⟨w.heap.size, 0, none⟩) 1 1) (hlen : l.length ≤ 1048576) (hbase : base ≤ w.heap.size)
    (h : ∀ v' w', Ow w' base v' (l ++ [(p, q, r)]) → Below base w w' → wpList Tryz.prog ops Q rest (a.put o.dst v') w') :
    wpList Tryz.prog ops Q (o :: rest) a (w.alloc (.cells #[.int .i64 p, .int .i64 q, .int .i64 r] 138)) := by
  obtain ⟨i0, hi, hz0, hz1, hz2⟩ := info_parts3 info_rg
  refine wpList_append_own _ hgd s x 84 ho base 138 i0 _ 3 24 Tryz.underlying84 hi hz0 hz1 hz2 rfl (by decide) v _ _ hs (hown.alloc _) ⟨w.heap.size, 0, none⟩ 1 1 (fl [(p, q, r)]) hx rfl (cells_new3 w (p, q, r) 138) (fl_one _) (by unfold maxLen; omega) (by omega) (by simp; omega) ?_
  intro v' w' hown' hg _
  have h1 : Ow w' base v' (l ++ [(p, q, r)]) := by unfold Ow; rw [fl_app]; simpa using hown'
  exact h v' w' h1 (((Below.refl base w).alloc hbase _).grown hg (by simp; omega) (fun k hk => (hown.lt k hk).1))
end Go.Proofs.YtocfggfccbnbhaaGreatDoor

namespace Go.Proofs.YtocfggfccbnbhaaGreatDoor
open Go.RowKit
/-- One register appended, as one step of a region that draws its order. -/
theorem step_append_rg {ops : Array Oper} {o : Oper} {a : Act} {w : World} {K : Act → World → Prop} {Q : Exit → Act → World → Prop} {E : Prop}
    (hg : o.guard = none) (s x : Operand) (hop : o.op = Op.call { callee := Callee.builtin Builtin.append, args := #[s, x], argTypes := #[84, 84] })
    (base : Nat) (v : Value) (l : List R3) (hs : a.eval s = v) (p q r : Int) (hown : Ow w base v l)
    (hx : a.eval x = .slice (some ⟨w.heap.size, 0, none⟩) 1 1) (hlen : l.length ≤ 1048576) (hbase : base ≤ w.heap.size)
    (hK : ∀ v' w', Ow w' base v' (l ++ [(p, q, r)]) → Below base w w' → K (a.put o.dst v') w') :
    if Region.wanted o (yielded ops a.tmps) = true then Oper.wp Tryz.prog o a (w.alloc (.cells #[.int .i64 p, .int .i64 q, .int .i64 r] 138)) K Q else E := by
  have hw : Region.wanted o (yielded ops a.tmps) = true := by simp [Region.wanted, hg]
  rw [if_pos hw]
  obtain ⟨i0, hi, hz0, hz1, hz2⟩ := info_parts3 info_rg
  refine wp_append_own _ s x 84 hop base 138 i0 _ 3 24 Tryz.underlying84 hi hz0 hz1 hz2 rfl (by decide) v _ _ hs (hown.alloc _) ⟨w.heap.size, 0, none⟩ 1 1 (fl [(p, q, r)]) hx rfl (cells_new3 w (p, q, r) 138) (fl_one _) (by unfold maxLen; omega) (by omega) (by simp; omega) ?_
  intro v' w' hown' hgr _
  refine hK v' w' ?_ (((Below.refl base w).alloc hbase _).grown hgr (by simp; omega) (fun k hk => (hown.lt k hk).1))
  unfold Ow; rw [fl_app]; simpa using hown'
end Go.Proofs.YtocfggfccbnbhaaGreatDoor
namespace Go.Proofs.YtocfggfccbnbhaaGreatDoor
open Go.RowKit
end Go.Proofs.YtocfggfccbnbhaaGreatDoor
namespace Go.Proofs.YtocfggfccbnbhaaGreatDoor
open Go.RowKit
def sl (l : List R3) (n t b : Int) : List R3 := if (flOk l && decide (0 ≤ n ∧ n ≤ 7)) = true then l.mapIdx (sp n t b) else l
theorem Ow.here {W : World} {B g n c : Nat} {l : List R3} (h : Ow W B (.slice (some ⟨g, 0, none⟩) n c) l) (i : Nat) (hi : i < l.length) (p : R3) (hp : l[i] = p) :
    (W.cell? ⟨g, i * 3, none⟩ = some (.int .i64 p.1) ∧ W.cell? ⟨g, i * 3 + 1, none⟩ = some (.int .i64 p.2.1) ∧ W.cell? ⟨g, i * 3 + 2, none⟩ = some (.int .i64 p.2.2)) ∧ W.frozen? ⟨g, i * 3, none⟩ = false ∧ W.frozen? ⟨g, i * 3 + 1, none⟩ = false ∧ W.frozen? ⟨g, i * 3 + 2, none⟩ = false := by
  subst hp
  obtain ⟨rfl, hr⟩ := Ow.rs h
  obtain ⟨k, o, e, _, c1, c2, c3⟩ := hr.at hi
  simp only [Option.some.injEq, Addr.mk.injEq, and_true] at e
  obtain ⟨rfl, rfl⟩ := e
  simp only [Nat.zero_add] at c1 c2 c3
  exact ⟨⟨c1, c2, c3⟩, World.ownsRow.frozenAt h _, World.ownsRow.frozenAt h _, World.ownsRow.frozenAt h _⟩
end Go.Proofs.YtocfggfccbnbhaaGreatDoor
namespace Go.Proofs.YtocfggfccbnbhaaGreatDoor
open Go.RowKit
theorem Sg.same {W W' : World} {k ty : Nat} {t b : Int} (h : Sg W k ty t b) (e : W'.heap[k]? = W.heap[k]?) : Sg W' k ty t b := e.trans h
end Go.Proofs.YtocfggfccbnbhaaGreatDoor
namespace Go.Proofs.YtocfggfccbnbhaaGreatDoor
open Go.RowKit
theorem Ow.solid' {W : World} {B : Nat} {v : Value} {l : List R3} (h : Ow W B v l) (hl : 0 < l.length) : ∃ g c, v = .slice (some ⟨g, 0, none⟩) l.length c ∧ B ≤ g ∧ l.length ≤ c ∧ (c : Int) ≤ 9223372036854775807 := by
  rcases h.2 with ⟨h1, h2⟩ | ⟨g, cap, cur, h1, h2, h3, h4, h5, _⟩
  · omega
  · exact ⟨g, cap, h1, h2, h4, by unfold maxLen at h5; omega⟩
/-- What is drawn as a list: a slice, and the registers in it. -/
def Dl (W : World) (B : Nat) (v : Value) (l : List R3) : Prop := ∃ (a : Option Addr) (c : Nat), v = .slice a l.length c ∧ l.length ≤ 4 ∧ l.length ≤ c ∧ (a = none → c = 0) ∧ Rs W a l ∧ ∀ x, a = some x → B ≤ x.block
theorem Dl.of {W : World} {B B' : Nat} {v : Value} {l : List R3} (h : Ow W B v l) (h0 : 0 < l.length) (h4 : l.length ≤ 4) (hB : B' ≤ B) : Dl W B' v l := by
  obtain ⟨g, c, rfl, hg, hc, _⟩ := h.solid' h0
  exact ⟨_, c, rfl, h4, hc, (by intro e; cases e), (Ow.rs h).2, by intro x e; simp at e; subst e; exact Nat.le_trans hB hg⟩
theorem Dl.later {W W' : World} {B : Nat} {v : Value} {l : List R3} (h : Dl W B v l) (hb : Below W.heap.size W W') : Dl W' B v l := by
  obtain ⟨a, c, h1, h2, h3, h4, h5, h6⟩ := h
  exact ⟨a, c, h1, h2, h3, h4, h5.later hb, h6⟩
theorem Dl.set {W : World} {B k o : Nat} {u v : Value} {l : List R3} (h : Dl W B v l) (hk : k < B) : Dl (W.setCell ⟨k, o, none⟩ u) B v l := by
  obtain ⟨a, c, h1, h2, h3, h4, h5, h6⟩ := h
  exact ⟨a, c, h1, h2, h3, h4, h5.grown (only_set (cb := k)) (fun x e => by have := h6 x e; omega), h6⟩
end Go.Proofs.YtocfggfccbnbhaaGreatDoor
namespace Go.Proofs.YtocfggfccbnbhaaGreatDoor
open Go.RowKit
end Go.Proofs.YtocfggfccbnbhaaGreatDoor

namespace Go.Proofs.YtocfggfccbnbhaaGreatDoor
open Go.RowKit
end Go.Proofs.YtocfggfccbnbhaaGreatDoor
namespace Go.Proofs.YtocfggfccbnbhaaGreatDoor
open Go.RowKit
end Go.Proofs.YtocfggfccbnbhaaGreatDoor
namespace Go.Proofs.YtocfggfccbnbhaaGreatDoor
open Go.RowKit
end Go.Proofs.YtocfggfccbnbhaaGreatDoor
namespace Go.Proofs.YtocfggfccbnbhaaGreatDoor
open Go.RowKit
end Go.Proofs.YtocfggfccbnbhaaGreatDoor
namespace Go.Proofs.YtocfggfccbnbhaaGreatDoor
open Go.RowKit
end Go.Proofs.YtocfggfccbnbhaaGreatDoor
namespace Go.Proofs.YtocfggfccbnbhaaGreatDoor
open Go.RowKit
theorem set4 {W : World} {k ty : Nat} {g u : Int} {f : Value} {t : ByteArray} (h : Mg W k ty g u f t) (g' u' : Int) (f' : Value) (t' : ByteArray) : Mg ((((W.setCell ⟨k, 0, none⟩ (.int .i64 g')).setCell ⟨k, 1, none⟩ (.int .i64 u')).setCell ⟨k, 2, none⟩ f').setCell ⟨k, 3, none⟩ (.string t')) k ty g' u' f' t' :=
  (((h.s0 g').s1 u').s2 f').s3 t'
theorem own4 {W : World} {B j : Nat} {v : Value} {l : List R3} (h : Ow W B v l) (hj : j < B) (g' u' : Int) (f' : Value) (t' : ByteArray) : Ow ((((W.setCell ⟨j, 0, none⟩ (.int .i64 g')).setCell ⟨j, 1, none⟩ (.int .i64 u')).setCell ⟨j, 2, none⟩ f').setCell ⟨j, 3, none⟩ (.string t')) B v l :=
  own_far (own_far (own_far (own_far h hj _ _) hj _ _) hj _ _) hj _ _
theorem bel4 {a w : World} (h : Below a.heap.size a w) {k : Nat} (hk : a.heap.size ≤ k) (g' u' : Int) (f' : Value) (t' : ByteArray) : Below a.heap.size a ((((w.setCell ⟨k, 0, none⟩ (.int .i64 g')).setCell ⟨k, 1, none⟩ (.int .i64 u')).setCell ⟨k, 2, none⟩ f').setCell ⟨k, 3, none⟩ (.string t')) :=
  bsk (bsk (bsk (bsk h hk _ _) hk _ _) hk _ _) hk _ _
end Go.Proofs.YtocfggfccbnbhaaGreatDoor
namespace Go.Proofs.YtocfggfccbnbhaaGreatDoor
open Go.RowKit
theorem markRS_zero (a : Option Addr) (cap k : Nat) (w : World) :
    Calls Tryz.prog 160 #[.slice a 0 cap, .int .i64 (k : Int)] w fun e w' => e = .returned (.int .i64 (k : Int)) ∧ w' = w := by
  go_enter Tryz.func160, Tryz.ntmps160
  go_wp2
  go_loop [1, 5] (fun kv iv => kv = .int .i64 (k : Int) ∧ iv = .int .i64 0) (fun _ _ => 0)
  case atStart => exact ⟨rfl, rfl⟩
  case round =>
    obtain ⟨rfl, rfl⟩ := hrel
    go_wp2
    go_ret
    exact ⟨rfl, rfl⟩
theorem heldRS_zero (a : Option Addr) (cap k : Nat) (w : World) :
    Calls Tryz.prog 161 #[.slice a 0 cap, .int .i64 (k : Int)] w fun e w' => e = .returned (.int .i64 (k : Int)) ∧ w' = w := by
  go_enter Tryz.func161, Tryz.ntmps161
  go_wp2
  go_loop [1, 5] (fun kv iv => kv = .int .i64 (k : Int) ∧ iv = .int .i64 0) (fun _ _ => 0)
  case atStart => exact ⟨rfl, rfl⟩
  case round =>
    obtain ⟨rfl, rfl⟩ := hrel
    go_wp2
    go_ret
    exact ⟨rfl, rfl⟩
theorem own_some {W : World} {B n c : Nat} {a : Option Addr} {l : List R3} (h : Ow W B (.slice a n c) l) (hn : 0 < n) : ∃ g, a = some ⟨g, 0, none⟩ := by
  rcases h.2 with ⟨h1, h2⟩ | ⟨g, cap, cur, h1, _⟩
  · simp only [Value.slice.injEq] at h1
    omega
  · simp only [Value.slice.injEq] at h1
    exact ⟨g, h1.1⟩
end Go.Proofs.YtocfggfccbnbhaaGreatDoor
namespace Go.Proofs.YtocfggfccbnbhaaGreatDoor
open Go.RowKit
theorem grown_push {a w : World} {o : Obj} {r : Option Nat} (h : (a.alloc o).grownBy w r) : a.grownBy w r := wtr (World.grownBy_alloc a o r) h
/-- A store into a block that is new. -/
theorem wst_new {a w : World} {r : Option Nat} (h : a.grownBy w r) {j : Nat} (hj : a.heap.size ≤ j) (i : Nat) (x : Value) : a.grownBy (w.setCell ⟨j, i, none⟩ x) r :=
  ⟨h.os, h.tape, h.output, by simpa [World.setCell] using h.size, fun k hk hr => (Below.heap_setCell w ⟨j, i, none⟩ x k (by show k ≠ j; omega)).trans (h.block k hk hr)⟩
theorem grown_below {a w : World} (h : Below a.heap.size a w) (r : Option Nat) : a.grownBy w r := ⟨h.os, h.tape, h.output, h.size, fun k hk _ => h.block k hk⟩
end Go.Proofs.YtocfggfccbnbhaaGreatDoor

namespace Go.Proofs.YtocfggfccbnbhaaGreatDoor
open Go.RowKit
end Go.Proofs.YtocfggfccbnbhaaGreatDoor
namespace Go.Proofs.YtocfggfccbnbhaaGreatDoor
open Go.RowKit
theorem Dl.far {W : World} {B k o n c : Nat} {u : Value} {a : Option Addr} {l : List R3} (h : Dl W B (.slice a n c) l) (hk : ∀ y, a = some y → y.block ≠ k) : Dl (W.setCell ⟨k, o, none⟩ u) B (.slice a n c) l := by
  obtain ⟨a', c', h1, h2, h3, h4, h5, h6⟩ := h
  simp only [Value.slice.injEq] at h1
  obtain ⟨rfl, rfl, rfl⟩ := h1
  exact ⟨a, c, rfl, h2, h3, h4, h5.grown (only_set (cb := k)) hk, h6⟩
end Go.Proofs.YtocfggfccbnbhaaGreatDoor
namespace Go.Proofs.YtocfggfccbnbhaaGreatDoor
open Go.RowKit
end Go.Proofs.YtocfggfccbnbhaaGreatDoor

