/- MarkA, MarkB, MarkC, MarkD, AddM, in one text. -/
import Derived.Test.YtmpcmllfgogegaaMj
import Derived.Lib.ItoaNum
namespace Go.Proofs.Ytmpcmllfgogegaa
open Go.RowKit Go.ChangeMaps

def mdg (n : Nat) : List UInt8 := Lib.decDigits n
theorem mdg_small (n : Nat) (h : n < 10) : mdg n = [UInt8.ofNat (48 + n)] := by unfold mdg; rw [Lib.decDigits, dif_pos h]
theorem mdg_big (n : Nat) (h : ¬ n < 10) : mdg n = mdg (n / 10) ++ [UInt8.ofNat (48 + n % 10)] := by unfold mdg; rw [Lib.decDigits, dif_neg h]
theorem mdg_len : ∀ (k n : Nat), n < 10 ^ (k + 1) → (mdg n).length ≤ k + 1
  | 0, n, h => by rw [mdg_small n (by simpa using h)]; simp
  | k + 1, n, h => by
    by_cases hn : n < 10
    · rw [mdg_small n hn]; simp
    · rw [mdg_big n hn]
      have := mdg_len k (n / 10) (by rw [Nat.pow_succ] at h; omega)
      simp; omega
def mdz (n : Nat) : List UInt8 := if n = 0 then [] else mdg n
theorem mdz_pos (n : Nat) (h : n ≠ 0) : mdz n = mdg n := by simp [mdz, h]
theorem mdz_step (m : Nat) (h : m ≠ 0) : mdz m = mdz (m / 10) ++ [UInt8.ofNat (48 + m % 10)] := by
  rw [mdz_pos m h]
  by_cases h1 : m < 10
  · rw [mdg_small m h1, show m / 10 = 0 by omega, show mdz 0 = [] from rfl, show m % 10 = m by omega]; rfl
  · rw [mdg_big m h1, mdz_pos _ (by omega)]
theorem mu8 (x : Nat) (h : x < 10) : ((UInt8.ofNat (48 + x)).toNat : Int) = 48 + (x : Int) := by rw [u8_nat _ (by omega)]; omega
theorem mba_cons (b : UInt8) (t : List UInt8) : (⟨#[b]⟩ ++ ⟨t.toArray⟩ : ByteArray) = ⟨(b :: t).toArray⟩ := by
  apply ByteArray.ext
  rw [ByteArray.data_append]
  simp
/-- The mark of number k, as a text. -/
def mtx6 (k : Nat) : ByteArray := ⟨(109 :: mdg k).toArray⟩

/-! Numbers marked. -/
def mki (k n : Nat) : List Int := (List.range n).map fun i => ((k + i : Nat) : Int)
theorem mki_len (k n : Nat) : (mki k n).length = n := by simp [mki]
theorem mki_at (k n i : Nat) (h : i < (mki k n).length) : (mki k n)[i] = ((k + i : Nat) : Int) := by simp [mki]
theorem mki_succ (k n : Nat) : mki k (n + 1) = mki k n ++ [((k + n : Nat) : Int)] := by simp [mki, List.range_succ]

set_option maxHeartbeats 800000 in
set_option maxRecDepth 100000 in
theorem markIS_any (B : Nat) (a : Option Addr) (n cap k : Nat) (G : List Int) (w : World) (hown : OwI w B (.slice a n cap) G) (hl : G.length = n) (hn : n ≤ 1048576) (hk : k ≤ 8000000) :
    Calls Try.prog 8 #[.slice a n cap, .int .i64 (k : Int)] w fun e w' => e = .returned (.int .i64 ((k + n : Nat) : Int)) ∧ OwI w' B (.slice a n cap) (mki k n) ∧ w.grownBy w' (Value.ownBlock (.slice a n cap)) := by
  have HO := hid hown
  have HL := hid hl
  clear hown hl
  go_enter Try.func8, Try.ntmps8
  go_wp2
  go_loopw [1, 5] (fun kv iv wr => ∃ i : Nat, i ≤ n ∧ kv = .int .i64 ((k + i : Nat) : Int) ∧ iv = .int .i64 (i : Int) ∧ OwI wr B (.slice a n cap) (mki k i ++ G.drop i) ∧ w.grownBy wr (Value.ownBlock (.slice a n cap))) (fun _ iv _ => n - (intOf iv).toNat)
  case atStart => exact ⟨0, Nat.zero_le _, by simp, rfl, by simpa [mki] using HO.out, wre _ _⟩
  case round =>
    obtain ⟨i, hi, rfl, rfl, hown, hg⟩ := hrel
    have HOW := hid hown
    have HG := hid hg
    clear hown hg
    by_cases hlt : i < n
    · have hil : i < G.length := by rw [HL.out]; exact hlt
      rcases HOW.out.2 with ⟨h1, h2⟩ | ⟨g, cap', cur, h1, hB, _⟩
      · have := HOW.out.1
        rw [List.length_append, mki_len, List.length_drop] at h2
        omega
      simp only [Value.slice.injEq] at h1
      obtain ⟨rfl, -, rfl⟩ := h1
      have hyl : i < (mki k i ++ G.drop i).length := by rw [List.length_append, mki_len, List.length_drop]; omega
      obtain ⟨k', o', e', hk', c1⟩ := (OwI.is HOW.out).2.at hyl
      simp only [Option.some.injEq, Addr.mk.injEq, and_true] at e'
      obtain ⟨rfl, rfl⟩ := e'
      simp only [Nat.zero_add] at c1
      obtain ⟨x, hx⟩ : ∃ x, (mki k i ++ G.drop i)[i] = x := ⟨_, rfl⟩
      rw [hx] at c1
      have hnn := (OwI.is HOW.out).1
      have hfz := World.ownsRow.frozenAt (n := (mki k i ++ G.drop i).length) (by have h := HOW.out; rw [hnn] at h; exact h) i
      have hst := OwI.stored HOW.out i ((k + i : Nat) : Int)
      have hnew : (mki k i ++ G.drop i).set i ((k + i : Nat) : Int) = mki k (i + 1) ++ G.drop (i + 1) := by
        rw [List.set_append_right _ _ (by rw [mki_len]; omega), mki_len, Nat.sub_self, List.drop_eq_getElem_cons hil, List.set_cons_zero, mki_succ, List.append_assoc]
        rfl
      rw [hnew] at hst
      have HST := hid hst
      obtain ⟨q, hq⟩ : ∃ q : Nat, k + i = q := ⟨_, rfl⟩
      have HQ := hid hq
      have hqb : q ≤ 9100000 := by omega
      rw [hq] at HST ⊢
      clear hq hst hnew hx hnn hyl
      go_wp2
      go_roundw
      case rel => exact ⟨i + 1, by omega, by rw [show ((k + (i + 1) : Nat) : Int) = (q : Int) + 1 by have := HQ.out; omega], by go_num, HST.out, wst HG.out _ _⟩
      case measure => simp [intOf]; omega
    · have HN : Hid (i = n) := by show _ = _; omega
      have HD : Hid (G.drop i = []) := List.drop_of_length_le (by rw [HL.out]; omega)
      go_wp2
      go_ret
      refine ⟨by rw [HN.out]; rfl, ?_, HG.out⟩
      have h := HOW.out
      rw [HD.out, List.append_nil, HN.out] at h
      exact h

set_option maxHeartbeats 800000 in
set_option maxRecDepth 100000 in
theorem heldIS_any (B : Nat) (a : Option Addr) (n cap k : Nat) (w : World) (hown : OwI w B (.slice a n cap) (mki k n)) (hn : n ≤ 1048576) (hk : k ≤ 8000000) :
    Calls Try.prog 9 #[.slice a n cap, .int .i64 (k : Int)] w fun e w' => e = .returned (.int .i64 ((k + n : Nat) : Int)) ∧ w' = w := by
  have HO := hid hown
  clear hown
  go_enter Try.func9, Try.ntmps9
  go_wp2
  go_loop [1, 5] (fun kv iv => ∃ i : Nat, i ≤ n ∧ kv = .int .i64 ((k + i : Nat) : Int) ∧ iv = .int .i64 (i : Int)) (fun _ iv => n - (intOf iv).toNat)
  case atStart => exact ⟨0, Nat.zero_le _, by simp, rfl⟩
  case round =>
    obtain ⟨i, hi, rfl, rfl⟩ := hrel
    by_cases hlt : i < n
    · have hil : i < (mki k n).length := by rw [mki_len]; exact hlt
      obtain ⟨k', o', rfl, hk', c⟩ := (OwI.is HO.out).2.at hil
      rw [mki_at] at c
      obtain ⟨q, hq⟩ : ∃ q : Nat, k + i = q := ⟨_, rfl⟩
      have HQ := hid hq
      have hqb : q ≤ 9100000 := by omega
      rw [hq] at c ⊢
      have e1 : ((q : Int) != (q : Int)) = false := by simp
      clear hq
      go_wp2
      go_round
      case rel => exact ⟨i + 1, by omega, by rw [show ((k + (i + 1) : Nat) : Int) = (q : Int) + 1 by have := HQ.out; omega], by go_num⟩
      case measure => simp [intOf]; omega
    · have HN : Hid (i = n) := by show _ = _; omega
      go_wp2
      go_ret
      exact ⟨by rw [HN.out]; rfl, rfl⟩
end Go.Proofs.Ytmpcmllfgogegaa

namespace Go.Proofs.Ytmpcmllfgogegaa
open Go.RowKit Go.ChangeMaps

/-- Blocks of P may have turned; new ones may be there. -/
structure Chg (P : Nat → Prop) (W W' : World) : Prop where
  os : W'.os = W.os
  tape : W'.tape = W.tape
  output : W'.output = W.output
  size : W.heap.size ≤ W'.heap.size
  block : ∀ k, k < W.heap.size → ¬ P k → W'.heap[k]? = W.heap[k]?
theorem Chg.refl (P : Nat → Prop) (W : World) : Chg P W W := ⟨rfl, rfl, rfl, Nat.le_refl _, fun _ _ _ => rfl⟩
theorem Chg.trans {P : Nat → Prop} {A B C : World} (h : Chg P A B) (k : Chg P B C) : Chg P A C :=
  ⟨k.os.trans h.os, k.tape.trans h.tape, k.output.trans h.output, Nat.le_trans h.size k.size, fun i hi' hr => (k.block i (Nat.lt_of_lt_of_le hi' h.size) hr).trans (h.block i hi' hr)⟩
theorem Chg.of_below {P : Nat → Prop} {A B : World} (h : Below A.heap.size A B) : Chg P A B := ⟨h.os, h.tape, h.output, h.size, fun k hk _ => h.block k hk⟩
theorem Chg.of_grown {P : Nat → Prop} {A B : World} {r : Option Nat} (h : A.grownBy B r) (hr : ∀ j, r = some j → P j) : Chg P A B :=
  ⟨h.os, h.tape, h.output, h.size, fun k hk hl => h.block k hk (fun e => hl (hr k e.symm))⟩
theorem Chg.mono {P Q : Nat → Prop} {A B : World} (h : Chg P A B) (hq : ∀ j, P j → Q j) : Chg Q A B := ⟨h.os, h.tape, h.output, h.size, fun k hk hl => h.block k hk (fun e => hl (hq k e))⟩
theorem Chg.below {P : Nat → Prop} {lo : Nat} {A B : World} (h : Chg P A B) (hl : lo ≤ A.heap.size) (hp : ∀ j, P j → lo ≤ j) : Below lo A B := ⟨h.os, h.tape, h.output, h.size, fun k hk => h.block k (by omega) (fun e => by have := hp k e; omega)⟩
/-- A row in a block that stays. -/
theorem row_chg {P : Nat → Prop} {W W' : World} {B e size n : Nat} {v : Value} {xs : List Value} (h : W.ownsRow B e size v n xs) (hc : Chg P W W') (hp : ∀ j, v.ownBlock = some j → ¬ P j) : W'.ownsRow B e size v n xs := by
  refine ⟨h.1, h.2.imp id ?_⟩
  rintro ⟨g, cap, cur, h1, h2, h3, h4⟩
  have hv : v.ownBlock = some g := by rw [h1]; rfl
  exact ⟨g, cap, cur, h1, h2, (hc.block g (h.lt g hv).2 (hp g hv)).trans h3, h4⟩

/-- The mark of a mail from number k on. -/
def mz1 (k : Nat) (z : Z5) : Z5 := ((k : Int), ((k + 1 : Nat) : Int), z.2.2.1, mks (k + 2) z.2.2.2.1.length, mtx6 (k + 2 + z.2.2.2.1.length * 3))
def kz1 (k : Nat) (z : Z5) : Nat := k + 2 + z.2.2.2.1.length * 3 + 1
def mzs (k : Nat) : List Z5 → List Z5
  | [] => []
  | z :: Z => mz1 k z :: mzs (kz1 k z) Z
def kz (k : Nat) : List Z5 → Nat
  | [] => k
  | z :: Z => kz (kz1 k z) Z
theorem mzs_len (k : Nat) (Z : List Z5) : (mzs k Z).length = Z.length := by
  induction Z generalizing k with
  | nil => rfl
  | cons z Z ih => simp [mzs, ih]
theorem mzs_snoc (k : Nat) (Z : List Z5) (z : Z5) : mzs k (Z ++ [z]) = mzs k Z ++ [mz1 (kz k Z) z] := by
  induction Z generalizing k with
  | nil => rfl
  | cons y Z ih => simp [mzs, kz, ih]
theorem kz_snoc (k : Nat) (Z : List Z5) (z : Z5) : kz k (Z ++ [z]) = kz1 (kz k Z) z := by
  induction Z generalizing k with
  | nil => rfl
  | cons y Z ih => simp [kz, ih]
theorem kz_le (k : Nat) (Z : List Z5) : k ≤ kz k Z := by
  induction Z generalizing k with
  | nil => exact Nat.le_refl _
  | cons z Z ih =>
    have h := ih (kz1 k z)
    have e2 : kz1 k z = k + 2 + z.2.2.2.1.length * 3 + 1 := rfl
    show k ≤ kz (kz1 k z) Z
    omega
/-- How many marks mails take, by threes. -/
def fz : List M4 → Nat
  | [] => 0
  | m :: L => 1 + m.2.2.1.length + fz L
theorem fz_app (L K : List M4) : fz (L ++ K) = fz L + fz K := by
  induction L with
  | nil => simp [fz]
  | cons m L ih => simp only [List.cons_append, fz, ih]; omega
theorem fz_le (L : List M4) : fz L ≤ szL L := by
  induction L with
  | nil => simp [fz, szL, tot]
  | cons m L ih => simp only [fz, szL, List.length_cons, tot] at ih ⊢; omega
theorem kz_fz (k : Nat) (Z : List Z5) : kz k Z = k + 3 * fz (Z.map md) := by
  induction Z generalizing k with
  | nil => simp [kz, fz]
  | cons z Z ih =>
    have h := ih (kz1 k z)
    have e : fz ((z :: Z).map md) = 1 + z.2.2.2.1.length + fz (Z.map md) := rfl
    have e2 : kz1 k z = k + 2 + z.2.2.2.1.length * 3 + 1 := rfl
    rw [e]
    show kz (kz1 k z) Z = _
    omega
theorem kz_take (k : Nat) (Z : List Z5) (i : Nat) : kz k (Z.take i) ≤ kz k Z := by
  induction Z generalizing k i with
  | nil => simp [kz]
  | cons z Z ih =>
    cases i with
    | zero =>
      have h := kz_le (kz1 k z) Z
      have e2 : kz1 k z = k + 2 + z.2.2.2.1.length * 3 + 1 := rfl
      show k ≤ kz (kz1 k z) Z
      omega
    | succ i => simp only [List.take_succ_cons, kz]; exact ih _ _

/-- Three cells of a mail stored: the flags' stays. -/
theorem zc_set3 (Z : List Z5) (i : Nat) (z : Z5) (h : i < Z.length) (hf : z.2.2.1 = Z[i].2.2.1) :
    (((zc Z).set (i * 4) (.int .i64 z.1)).set (i * 4 + 1) (.int .i64 z.2.1)).set (i * 4 + 3) (.string z.2.2.2.2) = zc (Z.set i z) := by
  induction Z generalizing i with
  | nil => simp at h
  | cons y Z ih =>
    cases i with
    | zero =>
      simp only [List.getElem_cons_zero] at hf
      simp [zc, hf]
    | succ i =>
      have h' : i < Z.length := by simpa using h
      have := ih i h' (by simpa using hf)
      have e : (i + 1) * 4 = i * 4 + 1 + 1 + 1 + 1 := by omega
      rw [e]
      simpa [zc] using this

theorem row_kept {W W' : World} {B e size n : Nat} {v : Value} {xs : List Value} {r : Option Nat} (h : W.ownsRow B e size v n xs) (hg : W.grownBy W' r) (hne : ∀ j, v.ownBlock = some j → r ≠ some j) : W'.ownsRow B e size v n xs :=
  World.ownsRow.kept h hg (by
    cases hv : v.ownBlock with
    | none => exact Or.inl rfl
    | some j => exact Or.inr (fun e => hne j hv e.symm))

theorem mzs_at (k : Nat) (Z : List Z5) (i : Nat) (h : i < Z.length) (h' : i < (mzs k Z).length) : (mzs k Z)[i] = mz1 (kz k (Z.take i)) Z[i] := by
  induction Z generalizing k i with
  | nil => simp at h
  | cons z Z ih =>
    cases i with
    | zero => rfl
    | succ i => exact ih (kz1 k z) i (by simpa using h) (by simpa [mzs] using h')

end Go.Proofs.Ytmpcmllfgogegaa

namespace Go.Proofs.Ytmpcmllfgogegaa
open Go.RowKit Go.ChangeMaps

theorem mzs_own (k : Nat) (Z : List Z5) : ∀ z ∈ mzs k Z, ∃ y ∈ Z, z.2.2.1 = y.2.2.1 := by
  induction Z generalizing k with
  | nil => intro z hz; simp [mzs] at hz
  | cons y Z ih =>
    intro z hz
    simp only [mzs, List.mem_cons] at hz
    rcases hz with rfl | hz
    · exact ⟨y, by simp, rfl⟩
    · obtain ⟨x, hx, e⟩ := ih _ z hz
      exact ⟨x, by simp [hx], e⟩
theorem Bx.chg {P : Nat → Prop} {W W' : World} {k ty : Nat} {g : Int} {nm : ByteArray} {t b nx : Int} {ms gs : Value} (h : Bx W k ty g nm t b nx ms gs) (hc : Chg P W W') (hk : ¬ P k) : Bx W' k ty g nm t b nx ms gs := (hc.block k h.lt hk).trans h

end Go.Proofs.Ytmpcmllfgogegaa

namespace Go.Proofs.Ytmpcmllfgogegaa
open Go.RowKit Go.ChangeMaps

theorem Bx.newd (w : World) (ty : Nat) (g : Int) (nm : ByteArray) (t b nx : Int) (ms gs : Value) : Bx (w.alloc (.cells #[.int .i64 g, .string nm, .int .i64 t, .int .i64 b, .int .i64 nx, ms, gs] ty)).drew w.heap.size ty g nm t b nx ms gs := heap_alloc_new w _
theorem bxl {W W' : World} {k ty : Nat} {g : Int} {nm : ByteArray} {t b nx : Int} {ms gs : Value} (h : Bx W k ty g nm t b nx ms gs) (hb : Below W.heap.size W W') : k < W.heap.size ∧ Bx W' k ty g nm t b nx ms gs := ⟨h.lt, h.later hb⟩
end Go.Proofs.Ytmpcmllfgogegaa

namespace Go.Proofs.Ytmpcmllfgogegaa
open Go.RowKit Go.ChangeMaps

end Go.Proofs.Ytmpcmllfgogegaa

