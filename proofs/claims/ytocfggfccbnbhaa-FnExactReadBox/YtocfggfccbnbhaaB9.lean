/- Mkz, MailNum, MailReg. -/
import Derived.Test.YtocfggfccbnbhaaB8
import Derived.Lib.ItoaNum
namespace Go.Proofs.Ytocfggfccbnbhaa
open Go.RowKit Go.ChangeMaps
def mdg (n : Nat) : List UInt8 := Lib.decDigits n
theorem mdg_small (n : Nat) (h : n < 10) : mdg n = [UInt8.ofNat (48 + n)] := by unfold mdg; rw [Lib.decDigits, dif_pos h]
theorem mdg_big (n : Nat) (h : ¬ n < 10) : mdg n = mdg (n / 10) ++ [UInt8.ofNat (48 + n % 10)] := by unfold mdg; rw [Lib.decDigits, dif_neg h]
theorem mdg_len : ∀ (k n : Nat), n < 10 ^ (k + 1) → (mdg n).length ≤ k + 1
  | 0, n, h => by rw [mdg_small n (by simpa using h)]; simp
  | k + 1, n, h => by
    by_cases hn : n < 10
    · rw [mdg_small n hn]; simp
    · rw [mdg_big n hn]
      have := mdg_len k (n / 10) (by rw [Nat.pow_succ] at h; omega)
      simp; omega
def mdz (n : Nat) : List UInt8 := if n = 0 then [] else mdg n
theorem mdz_pos (n : Nat) (h : n ≠ 0) : mdz n = mdg n := by simp [mdz, h]
theorem mdz_step (m : Nat) (h : m ≠ 0) : mdz m = mdz (m / 10) ++ [UInt8.ofNat (48 + m % 10)] := by
  rw [mdz_pos m h]
  by_cases h1 : m < 10
  · rw [mdg_small m h1, show m / 10 = 0 by omega, show mdz 0 = [] from rfl, show m % 10 = m by omega]; rfl
  · rw [mdg_big m h1, mdz_pos _ (by omega)]
theorem mu8 (x : Nat) (h : x < 10) : ((UInt8.ofNat (48 + x)).toNat : Int) = 48 + (x : Int) := by rw [u8_nat _ (by omega)]; omega
theorem mrun_one (b : UInt8) (w : World) : (convert 85 9 (.slice (some ⟨w.heap.size, 0, none⟩) 1 1)).run Try.prog (w.alloc (.cells #[.int .u8 (b.toNat : Int)] 5)) = .ok (.string ⟨#[b]⟩) (w.alloc (.cells #[.int .u8 (b.toNat : Int)] 5)) :=
  run_string_own (P := Try.prog) _ 85 9 5 Try.underlying85 Try.underlying5 Try.underlying9 [b] (World.ownsRow_lit (base := 0) w #[bv b] 1 (Nat.zero_le _) (by decide) rfl)
theorem mba_cons (b : UInt8) (t : List UInt8) : (⟨#[b]⟩ ++ ⟨t.toArray⟩ : ByteArray) = ⟨(b :: t).toArray⟩ := by
  apply ByteArray.ext
  rw [ByteArray.data_append]
  simp
/-- The mark of number k, as a text. -/
def mtx6 (k : Nat) : ByteArray := ⟨(109 :: mdg k).toArray⟩
set_option maxHeartbeats 400000 in
theorem markText_any (k : Nat) (w : World) (hk : 0 < k) (hk2 : k ≤ 9000000) :
    Calls Try.prog 71 #[.int .i64 k] w fun e w' => e = .returned (.string (mtx6 k)) ∧ Below w.heap.size w w' := by
  have hl := mdg_len 7 k (by omega)
  have hk0 : k ≠ 0 := by omega
  go_enter Try.func71, Try.ntmps71
  go_wp2
  go_loopw [0, 3] (fun nv tv wr => ∃ (m : Nat) (t : List UInt8), nv = .int .i64 (m : Int) ∧ tv = .string ⟨t.toArray⟩ ∧ m ≤ k ∧ Hid (mdz m ++ t = mdg k) ∧ t.length ≤ 8 ∧ Below w.heap.size w wr) (fun nv _ _ => (intOf nv).toNat)
  case atStart => exact ⟨k, [], rfl, rfl, Nat.le_refl _, (by show _ = _; rw [mdz_pos k hk0]; simp), by simp, bre _⟩
  case round =>
    obtain ⟨m, t, rfl, rfl, hm, HT, htl, hb⟩ := hrel
    have HB := hid hb
    have hsz := hb.size
    have HSZ := hid hsz
    clear hb hk0 hsz
    by_cases hz : 0 < m
    · obtain ⟨d, hd⟩ : ∃ d : Nat, m % 10 = d := ⟨_, rfl⟩
      have hdi : (m : Int) % 10 = (d : Int) := by omega
      have hdb : d < 10 := by omega
      have HD := hid hd
      obtain ⟨b, hbb⟩ : ∃ b, b = UInt8.ofNat (48 + d) := ⟨_, rfl⟩
      have hbi : (48 : Int) + (d : Int) = (b.toNat : Int) := by rw [hbb, mu8 d hdb]
      have HBB := hid hbb
      have hone := mrun_one b wr
      have HT2 : Hid (mdz (m / 10) ++ (b :: t) = mdg k) := by show _ = _; rw [← HT.out, mdz_step m (by omega), HD.out, ← HBB.out]; simp
      have HTL : Hid ((b :: t).length ≤ 8) := by
        show _ ≤ _
        have h1 := congrArg List.length HT2.out
        simp only [List.length_append] at h1
        omega
      clear hd hbb
      go_wp2
      go_roundw
      case rel => exact ⟨m / 10, b :: t, by go_num, by rw [mba_cons], by omega, HT2, HTL.out, HB.out.alloc HSZ.out _⟩
      case measure => simp [intOf]; omega
    · have HZ : Hid (m = 0) := by show m = 0; omega
      go_wp2
      go_ret
      exact ⟨ret_str (by rw [mba_cons, mtx6, ← HT.out, HZ.out]; rfl), HB.out⟩
/-- A list of registers marked, whatever its address. -/
theorem markRS_gen (B : Nat) (a : Option Addr) (n cap k : Nat) (l : List R3) (w : World) (hown : Ow w B (.slice a n cap) l) (hl : l.length = n) (hn : n ≤ 1048576) (hk : k ≤ 4194304) :
    Calls Try.prog 70 #[.slice a n cap, .int .i64 (k : Int)] w fun e w' => e = .returned (.int .i64 ((k + n * 3 : Nat) : Int)) ∧ Ow w' B (.slice a n cap) (mks k n) ∧ w.grownBy w' (Value.ownBlock (.slice a n cap)) := by
  by_cases h0 : 0 < n
  · obtain ⟨k0, rfl⟩ := own_some hown h0
    exact markRS_any B k0 n cap k l w hown hl hn hk
  · obtain rfl : n = 0 := by omega
    obtain rfl : l = [] := List.eq_nil_of_length_eq_zero hl
    refine (markRS_zero a cap k w).mono ?_
    rintro e w1 ⟨rfl, h1⟩
    subst h1
    exact ⟨by simp, hown, wre _ _⟩
theorem heldRS_gen (B : Nat) (a : Option Addr) (n cap k : Nat) (w : World) (hown : Ow w B (.slice a n cap) (mks k n)) (hn : n ≤ 1048576) (hk : k ≤ 4194304) :
    Calls Try.prog 72 #[.slice a n cap, .int .i64 (k : Int)] w fun e w' => e = .returned (.int .i64 ((k + n * 3 : Nat) : Int)) ∧ w' = w := by
  by_cases h0 : 0 < n
  · obtain ⟨k0, rfl⟩ := own_some hown h0
    exact heldRS_any B k0 n cap k w hown hn hk
  · obtain rfl : n = 0 := by omega
    refine (heldRS_zero a cap k w).mono ?_
    rintro e w1 ⟨rfl, h1⟩
    subst h1
    exact ⟨by simp, rfl⟩
/-! Numbers marked. -/
def mki (k n : Nat) : List Int := (List.range n).map fun i => ((k + i : Nat) : Int)
theorem mki_len (k n : Nat) : (mki k n).length = n := by simp [mki]
theorem mki_at (k n i : Nat) (h : i < (mki k n).length) : (mki k n)[i] = ((k + i : Nat) : Int) := by simp [mki]
theorem mki_succ (k n : Nat) : mki k (n + 1) = mki k n ++ [((k + n : Nat) : Int)] := by simp [mki, List.range_succ]
set_option maxHeartbeats 800000 in
set_option maxRecDepth 100000 in
theorem markIS_any (B : Nat) (a : Option Addr) (n cap k : Nat) (G : List Int) (w : World) (hown : OwI w B (.slice a n cap) G) (hl : G.length = n) (hn : n ≤ 1048576) (hk : k ≤ 8000000) :
    Calls Try.prog 40 #[.slice a n cap, .int .i64 (k : Int)] w fun e w' => e = .returned (.int .i64 ((k + n : Nat) : Int)) ∧ OwI w' B (.slice a n cap) (mki k n) ∧ w.grownBy w' (Value.ownBlock (.slice a n cap)) := by
  have HO := hid hown
  have HL := hid hl
  clear hown hl
  go_enter Try.func40, Try.ntmps40
  go_wp2
  go_loopw [1, 5] (fun kv iv wr => ∃ i : Nat, i ≤ n ∧ kv = .int .i64 ((k + i : Nat) : Int) ∧ iv = .int .i64 (i : Int) ∧ OwI wr B (.slice a n cap) (mki k i ++ G.drop i) ∧ w.grownBy wr (Value.ownBlock (.slice a n cap))) (fun _ iv _ => n - (intOf iv).toNat)
  case atStart => exact ⟨0, Nat.zero_le _, by simp, rfl, by simpa [mki] using HO.out, wre _ _⟩
  case round =>
    obtain ⟨i, hi, rfl, rfl, hown, hg⟩ := hrel
    have HOW := hid hown
    have HG := hid hg
    clear hown hg
    by_cases hlt : i < n
    · have hil : i < G.length := by rw [HL.out]; exact hlt
      rcases HOW.out.2 with ⟨h1, h2⟩ | ⟨g, cap', cur, h1, hB, _⟩
      · have := HOW.out.1
        rw [List.length_append, mki_len, List.length_drop] at h2
        omega
      simp only [Value.slice.injEq] at h1
      obtain ⟨rfl, -, rfl⟩ := h1
      have hyl : i < (mki k i ++ G.drop i).length := by rw [List.length_append, mki_len, List.length_drop]; omega
      obtain ⟨k', o', e', hk', c1⟩ := (OwI.is HOW.out).2.at hyl
      simp only [Option.some.injEq, Addr.mk.injEq, and_true] at e'
      obtain ⟨rfl, rfl⟩ := e'
      simp only [Nat.zero_add] at c1
      obtain ⟨x, hx⟩ : ∃ x, (mki k i ++ G.drop i)[i] = x := ⟨_, rfl⟩
      rw [hx] at c1
      have hnn := (OwI.is HOW.out).1
      have hfz := World.ownsRow.frozenAt (n := (mki k i ++ G.drop i).length) (by have h := HOW.out; rw [hnn] at h; exact h) i
      have hst := OwI.stored HOW.out i ((k + i : Nat) : Int)
      have hnew : (mki k i ++ G.drop i).set i ((k + i : Nat) : Int) = mki k (i + 1) ++ G.drop (i + 1) := by
        rw [List.set_append_right _ _ (by rw [mki_len]; omega), mki_len, Nat.sub_self, List.drop_eq_getElem_cons hil, List.set_cons_zero, mki_succ, List.append_assoc]
        rfl
      rw [hnew] at hst
      have HST := hid hst
      obtain ⟨q, hq⟩ : ∃ q : Nat, k + i = q := ⟨_, rfl⟩
      have HQ := hid hq
      have hqb : q ≤ 9100000 := by omega
      rw [hq] at HST ⊢
      clear hq hst hnew hx hnn hyl
      go_wp2
      go_roundw
      case rel => exact ⟨i + 1, by omega, by rw [show ((k + (i + 1) : Nat) : Int) = (q : Int) + 1 by have := HQ.out; omega], by go_num, HST.out, wst HG.out _ _⟩
      case measure => simp [intOf]; omega
    · have HN : Hid (i = n) := by show _ = _; omega
      have HD : Hid (G.drop i = []) := List.drop_of_length_le (by rw [HL.out]; omega)
      go_wp2
      go_ret
      refine ⟨by rw [HN.out]; rfl, ?_, HG.out⟩
      have h := HOW.out
      rw [HD.out, List.append_nil, HN.out] at h
      exact h
set_option maxHeartbeats 800000 in
set_option maxRecDepth 100000 in
theorem heldIS_any (B : Nat) (a : Option Addr) (n cap k : Nat) (w : World) (hown : OwI w B (.slice a n cap) (mki k n)) (hn : n ≤ 1048576) (hk : k ≤ 8000000) :
    Calls Try.prog 42 #[.slice a n cap, .int .i64 (k : Int)] w fun e w' => e = .returned (.int .i64 ((k + n : Nat) : Int)) ∧ w' = w := by
  have HO := hid hown
  clear hown
  go_enter Try.func42, Try.ntmps42
  go_wp2
  go_loop [1, 5] (fun kv iv => ∃ i : Nat, i ≤ n ∧ kv = .int .i64 ((k + i : Nat) : Int) ∧ iv = .int .i64 (i : Int)) (fun _ iv => n - (intOf iv).toNat)
  case atStart => exact ⟨0, Nat.zero_le _, by simp, rfl⟩
  case round =>
    obtain ⟨i, hi, rfl, rfl⟩ := hrel
    by_cases hlt : i < n
    · have hil : i < (mki k n).length := by rw [mki_len]; exact hlt
      obtain ⟨k', o', rfl, hk', c⟩ := (OwI.is HO.out).2.at hil
      rw [mki_at] at c
      obtain ⟨q, hq⟩ : ∃ q : Nat, k + i = q := ⟨_, rfl⟩
      have HQ := hid hq
      have hqb : q ≤ 9100000 := by omega
      rw [hq] at c ⊢
      have e1 : ((q : Int) != (q : Int)) = false := by simp
      clear hq
      go_wp2
      go_round
      case rel => exact ⟨i + 1, by omega, by rw [show ((k + (i + 1) : Nat) : Int) = (q : Int) + 1 by have := HQ.out; omega], by go_num⟩
      case measure => simp [intOf]; omega
    · have HN : Hid (i = n) := by show _ = _; omega
      go_wp2
      go_ret
      exact ⟨by rw [HN.out]; rfl, rfl⟩
end Go.Proofs.Ytocfggfccbnbhaa
namespace Go.Proofs.Ytocfggfccbnbhaa
open Go.RowKit Go.ChangeMaps
/-- Blocks of P may have turned; new ones may be there. -/
structure Chg (P : Nat → Prop) (W W' : World) : Prop where
  os : W'.os = W.os
  tape : W'.tape = W.tape
  output : W'.output = W.output
  size : W.heap.size ≤ W'.heap.size
  block : ∀ k, k < W.heap.size → ¬ P k → W'.heap[k]? = W.heap[k]?
theorem Chg.refl (P : Nat → Prop) (W : World) : Chg P W W := ⟨rfl, rfl, rfl, Nat.le_refl _, fun _ _ _ => rfl⟩
theorem Chg.trans {P : Nat → Prop} {A B C : World} (h : Chg P A B) (k : Chg P B C) : Chg P A C :=
  ⟨k.os.trans h.os, k.tape.trans h.tape, k.output.trans h.output, Nat.le_trans h.size k.size, fun i hi' hr => (k.block i (Nat.lt_of_lt_of_le hi' h.size) hr).trans (h.block i hi' hr)⟩
theorem Chg.of_below {P : Nat → Prop} {A B : World} (h : Below A.heap.size A B) : Chg P A B := ⟨h.os, h.tape, h.output, h.size, fun k hk _ => h.block k hk⟩
theorem Chg.of_grown {P : Nat → Prop} {A B : World} {r : Option Nat} (h : A.grownBy B r) (hr : ∀ j, r = some j → P j) : Chg P A B :=
  ⟨h.os, h.tape, h.output, h.size, fun k hk hl => h.block k hk (fun e => hl (hr k e.symm))⟩
theorem Chg.mono {P Q : Nat → Prop} {A B : World} (h : Chg P A B) (hq : ∀ j, P j → Q j) : Chg Q A B := ⟨h.os, h.tape, h.output, h.size, fun k hk hl => h.block k hk (fun e => hl (hq k e))⟩
theorem Chg.below {P : Nat → Prop} {lo : Nat} {A B : World} (h : Chg P A B) (hl : lo ≤ A.heap.size) (hp : ∀ j, P j → lo ≤ j) : Below lo A B := ⟨h.os, h.tape, h.output, h.size, fun k hk => h.block k (by omega) (fun e => by have := hp k e; omega)⟩
/-- A row in a block that stays. -/
theorem row_chg {P : Nat → Prop} {W W' : World} {B e size n : Nat} {v : Value} {xs : List Value} (h : W.ownsRow B e size v n xs) (hc : Chg P W W') (hp : ∀ j, v.ownBlock = some j → ¬ P j) : W'.ownsRow B e size v n xs := by
  refine ⟨h.1, h.2.imp id ?_⟩
  rintro ⟨g, cap, cur, h1, h2, h3, h4⟩
  have hv : v.ownBlock = some g := by rw [h1]; rfl
  exact ⟨g, cap, cur, h1, h2, (hc.block g (h.lt g hv).2 (hp g hv)).trans h3, h4⟩
/-- The mark of a mail from number k on. -/
def mz1 (k : Nat) (z : Z5) : Z5 := ((k : Int), ((k + 1 : Nat) : Int), z.2.2.1, mks (k + 2) z.2.2.2.1.length, mtx6 (k + 2 + z.2.2.2.1.length * 3))
def kz1 (k : Nat) (z : Z5) : Nat := k + 2 + z.2.2.2.1.length * 3 + 1
def mzs (k : Nat) : List Z5 → List Z5
  | [] => []
  | z :: Z => mz1 k z :: mzs (kz1 k z) Z
def kz (k : Nat) : List Z5 → Nat
  | [] => k
  | z :: Z => kz (kz1 k z) Z
theorem mzs_len (k : Nat) (Z : List Z5) : (mzs k Z).length = Z.length := by
  induction Z generalizing k with
  | nil => rfl
  | cons z Z ih => simp [mzs, ih]
theorem mzs_snoc (k : Nat) (Z : List Z5) (z : Z5) : mzs k (Z ++ [z]) = mzs k Z ++ [mz1 (kz k Z) z] := by
  induction Z generalizing k with
  | nil => rfl
  | cons y Z ih => simp [mzs, kz, ih]
theorem kz_snoc (k : Nat) (Z : List Z5) (z : Z5) : kz k (Z ++ [z]) = kz1 (kz k Z) z := by
  induction Z generalizing k with
  | nil => rfl
  | cons y Z ih => simp [kz, ih]
theorem kz_le (k : Nat) (Z : List Z5) : k ≤ kz k Z := by
  induction Z generalizing k with
  | nil => exact Nat.le_refl _
  | cons z Z ih =>
    have h := ih (kz1 k z)
    have e2 : kz1 k z = k + 2 + z.2.2.2.1.length * 3 + 1 := rfl
    show k ≤ kz (kz1 k z) Z
    omega
/-- How many marks mails take, by threes. -/
def fz : List M4 → Nat
  | [] => 0
  | m :: L => 1 + m.2.2.1.length + fz L
theorem kz_fz (k : Nat) (Z : List Z5) : kz k Z = k + 3 * fz (Z.map md) := by
  induction Z generalizing k with
  | nil => simp [kz, fz]
  | cons z Z ih =>
    have h := ih (kz1 k z)
    have e : fz ((z :: Z).map md) = 1 + z.2.2.2.1.length + fz (Z.map md) := rfl
    have e2 : kz1 k z = k + 2 + z.2.2.2.1.length * 3 + 1 := rfl
    rw [e]
    show kz (kz1 k z) Z = _
    omega
theorem kz_take (k : Nat) (Z : List Z5) (i : Nat) : kz k (Z.take i) ≤ kz k Z := by
  induction Z generalizing k i with
  | nil => simp [kz]
  | cons z Z ih =>
    cases i with
    | zero =>
      have h := kz_le (kz1 k z) Z
      have e2 : kz1 k z = k + 2 + z.2.2.2.1.length * 3 + 1 := rfl
      show k ≤ kz (kz1 k z) Z
      omega
    | succ i => simp only [List.take_succ_cons, kz]; exact ih _ _
/-- Three cells of a mail stored: the flags' stays. -/
theorem zc_set3 (Z : List Z5) (i : Nat) (z : Z5) (h : i < Z.length) (hf : z.2.2.1 = Z[i].2.2.1) :
    (((zc Z).set (i * 4) (.int .i64 z.1)).set (i * 4 + 1) (.int .i64 z.2.1)).set (i * 4 + 3) (.string z.2.2.2.2) = zc (Z.set i z) := by
  induction Z generalizing i with
  | nil => simp at h
  | cons y Z ih =>
    cases i with
    | zero =>
      simp only [List.getElem_cons_zero] at hf
      simp [zc, hf]
    | succ i =>
      have h' : i < Z.length := by simpa using h
      have := ih i h' (by simpa using hf)
      have e : (i + 1) * 4 = i * 4 + 1 + 1 + 1 + 1 := by omega
      rw [e]
      simpa [zc] using this
/-- A mail of an owned row marked: its numbers and its text in the row, its flags in their own. -/
theorem OwZ.marked {W W' : World} {B gr n cap : Nat} {P C : List Z5} {z z' : Z5} (h : OwZ W B (.slice (some ⟨gr, 0, none⟩) n cap) (P ++ z :: C)) (hrow : W'.ownsRow B 49 4 (.slice (some ⟨gr, 0, none⟩) n cap) (P ++ z' :: C).length (zc (P ++ z' :: C))) (hf : z'.2.2.1 = z.2.2.1) (ho : Ow W' B z'.2.2.1 z'.2.2.2.1)
    (hk : ∀ {x : Value} {l : List R3}, Ow W B x l → x.ownBlock ≠ some gr → Dj x z.2.2.1 → Ow W' B x l) : OwZ W' B (.slice (some ⟨gr, 0, none⟩) n cap) (P ++ z' :: C) := by
  have hap := List.pairwise_append.1 h.apart
  have hap2 := List.pairwise_cons.1 hap.2.1
  have hmem : ∀ y ∈ P ++ z' :: C, y = z' ∨ (y ∈ P ++ z :: C ∧ Dj y.2.2.1 z.2.2.1) := by
    intro y hy
    rcases List.mem_append.1 hy with hy | hy
    · exact .inr ⟨by simp [hy], hap.2.2 y hy z (by simp)⟩
    · rcases List.mem_cons.1 hy with hy | hy
      · exact .inl hy
      · exact .inr ⟨by simp [hy], (hap2.1 y hy).symm⟩
  refine ⟨hrow, fun y hy => ?_, fun y hy => ?_, ?_⟩
  · rcases hmem y hy with rfl | ⟨hy, hd⟩
    · exact ho
    · exact hk (h.each y hy) (far_of h hy) hd
  · rcases hmem y hy with rfl | ⟨hy, _⟩
    · rw [hf]; exact h.off z (by simp)
    · exact h.off y hy
  · rw [List.pairwise_append, List.pairwise_cons]
    refine ⟨hap.1, ⟨fun y hy => by rw [hf]; exact hap2.1 y hy, hap2.2⟩, fun x hx y hy => ?_⟩
    rcases List.mem_cons.1 hy with rfl | hy
    · rw [hf]; exact hap.2.2 x hx z (by simp)
    · exact hap.2.2 x hx y (by simp [hy])
theorem row_kept {W W' : World} {B e size n : Nat} {v : Value} {xs : List Value} {r : Option Nat} (h : W.ownsRow B e size v n xs) (hg : W.grownBy W' r) (hne : ∀ j, v.ownBlock = some j → r ≠ some j) : W'.ownsRow B e size v n xs :=
  World.ownsRow.kept h hg (by
    cases hv : v.ownBlock with
    | none => exact Or.inl rfl
    | some j => exact Or.inr (fun e => hne j hv e.symm))
/-- A mail's numbers stored, its flags marked, some blocks laid, its text stored. -/
theorem OwZ.three {W W1 W2 : World} {B g n c i : Nat} {P C : List Z5} {z z' : Z5} (h : OwZ W B (.slice (some ⟨g, 0, none⟩) n c) (P ++ z :: C)) (hp : P.length = i) (hf : z'.2.2.1 = z.2.2.1)
    (hg1 : ((W.setCell ⟨g, i * 4, none⟩ (.int .i64 z'.1)).setCell ⟨g, i * 4 + 1, none⟩ (.int .i64 z'.2.1)).grownBy W1 z.2.2.1.ownBlock) (ho : Ow W1 B z'.2.2.1 z'.2.2.2.1) (hb : Below W1.heap.size W1 W2) :
    (W2.cell? ⟨g, i * 4 + 3, none⟩ = some (.string z.2.2.2.2) ∧ W2.frozen? ⟨g, i * 4 + 3, none⟩ = false) ∧ OwZ (W2.setCell ⟨g, i * 4 + 3, none⟩ (.string z'.2.2.2.2)) B (.slice (some ⟨g, 0, none⟩) n c) (P ++ z' :: C) := by
  have hmem : z ∈ P ++ z :: C := List.mem_append.2 (.inr (List.mem_cons_self ..))
  have hoff := far_of h hmem
  have hil : i < (P ++ z :: C).length := by rw [List.length_append, hp, List.length_cons]; omega
  have hzi : (P ++ z :: C)[i] = z := by
    rw [List.getElem_append_right (by omega)]
    simp [hp]
  obtain rfl := h.ms.1
  have h1 := (World.ownsRow.stored h.row (i * 4) (.int .i64 z'.1)).1
  have h2 := (World.ownsRow.stored h1 (i * 4 + 1) (.int .i64 z'.2.1)).1
  have h3 := row_kept h2 hg1 (fun j hj e => hoff (by simp only [Value.ownBlock, Option.some.injEq] at hj; rw [hj]; exact e))
  have h4 := own_later h3 hb
  have h5 := (World.ownsRow.stored h4 (i * 4 + 3) (.string z'.2.2.2.2)).1
  rw [zc_set3 _ i z' hil (by rw [hzi]; exact hf)] at h5
  have hms : (P ++ z :: C).set i z' = P ++ z' :: C := by rw [← hp]; exact mid_set
  rw [hms] at h5
  have e3 := (zc_at (P ++ z :: C) i hil).2.2.2
  rw [hzi] at e3
  have hlen : (P ++ z' :: C).length = (P ++ z :: C).length := by simp
  refine ⟨⟨(h4.cellAt _ (by omega)).trans ?_, h4.frozenAt _⟩, OwZ.marked h (by rw [hlen]; exact h5) hf ?_ ?_⟩
  · rw [List.getElem?_set_ne (by omega), List.getElem?_set_ne (by omega)]; exact e3
  · exact World.ownsRow.kept (own_later ho hb) (wst (wre _ _) _ _) (Or.inr (by rw [hf]; exact hoff))
  · intro x l hx hxg hxd
    have k1 : Ow ((W.setCell ⟨g, i * 4, none⟩ (.int .i64 z'.1)).setCell ⟨g, i * 4 + 1, none⟩ (.int .i64 z'.2.1)) B x l := World.ownsRow.kept hx (wst (wst (wre _ _) _ _) _ _) (Or.inr hxg)
    exact World.ownsRow.kept (own_later (own_kept k1 hg1 (fun j hj => hxd j hj)) hb) (wst (wre _ _) _ _) (Or.inr hxg)
set_option maxHeartbeats 8000000 in
set_option maxRecDepth 100000 in
theorem markMS_any (P : Nat → Prop) (B : Nat) (a : Option Addr) (n cap k : Nat) (Z : List Z5) (w : World) (hown : OwZ w B (.slice a n cap) Z) (hl : Z.length = n) (hn : n ≤ 1048576) (hk : 0 < k) (hkz : kz k Z ≤ 4194304) (hsm : Sm (Z.map md)) (hv : ∀ j, Value.ownBlock (.slice a n cap) = some j → P j) (he : ∀ z ∈ Z, ∀ j, z.2.2.1.ownBlock = some j → P j) :
    Calls Try.prog 39 #[.slice a n cap, .int .i64 (k : Int)] w fun e w' => e = .returned (.int .i64 (kz k Z : Int)) ∧ OwZ w' B (.slice a n cap) (mzs k Z) ∧ Chg P w w' := by
  have HO := hid hown
  have HL := hid hl
  have HV := hid hv
  have HEE := hid he
  have HK := hid hk
  have HKZ := hid hkz
  have HSM := hid hsm
  clear hown hl hv he hk hkz hsm
  go_enter Try.func39, Try.ntmps39
  go_wp2
  go_loopw [1, 5] (fun kv iv wr => ∃ i : Nat, i ≤ n ∧ kv = .int .i64 ((kz k (Z.take i) : Nat) : Int) ∧ iv = .int .i64 (i : Int) ∧ OwZ wr B (.slice a n cap) (mzs k (Z.take i) ++ Z.drop i) ∧ Chg P w wr) (fun _ iv _ => n - (intOf iv).toNat)
  case atStart => exact ⟨0, Nat.zero_le _, by simp [kz], rfl, by simpa [mzs] using HO.out, Chg.refl _ _⟩
  case round =>
    obtain ⟨i, hin, rfl, rfl, hown, hc⟩ := hrel
    have HOW := hid hown
    have HC := hid hc
    clear hown hc
    by_cases hlt : i < n
    · have hiz : i < Z.length := by rw [HL.out]; exact hlt
      have hz := dropc hiz
      have hpl : (mzs k (Z.take i)).length = i := by rw [mzs_len, List.length_take]; omega
      have hown := HOW.out
      rw [hz] at hown
      rcases hown.row.2 with ⟨_, h2⟩ | ⟨gr, cap', cur, h1, hB, _⟩
      · exfalso
        rw [List.length_append, List.length_cons] at h2
        omega
      simp only [Value.slice.injEq] at h1
      obtain ⟨rfl, -, rfl⟩ := h1
      have hyl : i < (mzs k (Z.take i) ++ Z[i] :: Z.drop (i + 1)).length := by rw [List.length_append, hpl, List.length_cons]; omega
      obtain ⟨c, f⟩ := hown.spot i hyl
      have hyi : (mzs k (Z.take i) ++ Z[i] :: Z.drop (i + 1))[i] = Z[i] := by
        rw [List.getElem_append_right (by omega)]
        simp [hpl]
      rw [hyi] at c
      have hkq := kz_snoc k (Z.take i) Z[i]
      have hmq := mzs_snoc k (Z.take i) Z[i]
      rw [← List.take_succ_eq_append_getElem hiz] at hkq hmq
      have hlim := Nat.le_trans (kz_take k Z (i + 1)) HKZ.out
      have hge := kz_le k (Z.take i)
      have hset := zc_set3 (mzs k (Z.take i) ++ Z[i] :: Z.drop (i + 1)) i (mz1 (kz k (Z.take i)) Z[i]) hyl (by rw [hyi]; rfl)
      have hmid := mid_set (P := mzs k (Z.take i)) (x := Z[i]) (z := mz1 (kz k (Z.take i)) Z[i]) (C := Z.drop (i + 1))
      rw [hpl] at hmid
      rw [hmid] at hset
      have hmem : Z[i] ∈ mzs k (Z.take i) ++ Z[i] :: Z.drop (i + 1) := List.mem_append.2 (.inr (List.mem_cons_self ..))
      have heach := hown.each Z[i] hmem
      have hoff := far_of hown hmem
      have hbl := HEE.out Z[i] (List.getElem_mem hiz)
      have hmb := (HSM.out (md Z[i]) (List.mem_map_of_mem (List.getElem_mem hiz))).1
      obtain ⟨q, hq⟩ : ∃ q : Nat, kz k (Z.take i) = q := ⟨_, rfl⟩
      rw [hq] at hkq hmq hset hmid hge
      obtain ⟨x, hxe⟩ : ∃ x, Z[i] = x := ⟨_, rfl⟩
      rw [hxe] at c hkq hmq hset hmid heach hoff hbl hown hmb
      obtain ⟨g1, u1, f1, l1, t1⟩ := x
      obtain ⟨fa, fc, hf1, _⟩ := Ow.shape heach
      dsimp only at hf1
      subst hf1
      obtain ⟨m, hm⟩ : ∃ m, l1.length = m := ⟨_, rfl⟩
      simp only [mz1, kz1] at hset hkq hmq hmid
      dsimp only at c heach hoff hbl
      dsimp only [md] at hmb
      rw [hm] at c hkq heach hoff hbl hmb
      have hlq : q + 2 + m * 3 + 1 ≤ 4194304 := by rw [← hkq]; exact hlim
      have HM := hid hm
      have HOW2 := hid hown
      have HSET := hid hset
      have HKQ := hid hkq
      have HMQ := hid hmq
      have HEA := hid heach
      have HOF := hid hoff
      have HBL := hid hbl
      have HHI := hid (HV.out gr rfl)
      have HBG := hid hB
      have HPL := hid hpl
      have HK0 := HK.out
      rw [hq]
      clear hown hset hkq hmq hmid heach hoff hbl hB hyl hyi hz hm hxe hq hlim hpl hmem
      go_wp2_with fail
      rw [show ((q : Int) + 1 + 1) = ((q + 2 : Nat) : Int) by omega]
      obtain ⟨W2, hW2⟩ : ∃ W2, W2 = (wr.setCell ⟨gr, i * 4, none⟩ (Value.int IntKind.i64 q)).setCell ⟨gr, i * 4 + 1, none⟩ (Value.int IntKind.i64 (q + 1)) := ⟨_, rfl⟩
      rw [← hW2]
      have g2 : wr.grownBy W2 (some gr) := by rw [hW2]; exact wst (wst (wre _ _) _ _) _ _
      have HG2 := hid g2
      have HW2 := hid hW2
      clear hW2 g2
      refine (markRS_gen B fa m fc (q + 2) l1 W2 (World.ownsRow.kept HEA.out HG2.out (Or.inr HOF.out)) HM.out hmb (by omega)).mono ?_; rintro e w1 ⟨rfl, ho1, hg1⟩
      have HO1 := hid ho1
      have HG1 := hid hg1
      clear ho1 hg1
      obtain ⟨p, hp⟩ : ∃ p : Nat, q + 2 + m * 3 = p := ⟨_, rfl⟩
      rw [hp] at HKQ hlq ⊢
      have HP := hid hp
      have hp0 : 0 < p := by omega
      clear hp
      go_wp2_with fail
      refine (markText_any p w1 hp0 (by omega)).mono ?_; rintro e w2 ⟨rfl, hb2⟩
      have HTH := OwZ.three (W1 := w1) (W2 := w2) (z' := ((q : Int), ((q + 1 : Nat) : Int), Value.slice fa l1.length fc, mks (q + 2) l1.length, mtx6 (q + 2 + l1.length * 3))) HOW2.out HPL.out rfl (by dsimp only; rw [HM.out, show ((q + 1 : Nat) : Int) = (q : Int) + 1 by omega, ← HW2.out]; exact HG1.out) (by dsimp only; rw [HM.out]; exact HO1.out) hb2
      obtain ⟨⟨ck, fk⟩, hz⟩ := HTH
      dsimp only at ck hz
      rw [HM.out, HP.out] at hz
      have HZ := hid hz
      have HB2 := hid hb2
      clear hz hb2
      have HCH : Hid (Chg P wr w2) := Chg.trans (Chg.trans (Chg.of_grown HG2.out (fun j hj => by simp only [Option.some.injEq] at hj; subst hj; exact HHI.out)) (Chg.of_grown HG1.out (fun j hj => HBL.out j hj))) (Chg.of_below HB2.out)
      go_wp2
      go_roundw
      case rel =>
        refine ⟨i + 1, by omega, by rw [HKQ.out]; simp, by go_num, ?_, Chg.trans HC.out (Chg.trans HCH.out (Chg.of_grown (r := some gr) (wst (wre _ _) _ _) (fun j hj => by simp only [Option.some.injEq] at hj; subst hj; exact HHI.out)))⟩
        rw [HMQ.out, List.append_assoc, HM.out, HP.out]
        exact HZ.out
      case measure => simp [intOf]; omega
    · have HE1 : Hid (Z.take i = Z) := List.take_of_length_le (by rw [HL.out]; omega)
      have HE2 : Hid (Z.drop i = []) := List.drop_of_length_le (by rw [HL.out]; omega)
      go_wp2
      go_ret
      have h := HOW.out
      rw [HE1.out, HE2.out, List.append_nil] at h
      exact ⟨by rw [HE1.out]; rfl, h, HC.out⟩
theorem mzs_at (k : Nat) (Z : List Z5) (i : Nat) (h : i < Z.length) (h' : i < (mzs k Z).length) : (mzs k Z)[i] = mz1 (kz k (Z.take i)) Z[i] := by
  induction Z generalizing k i with
  | nil => simp at h
  | cons z Z ih =>
    cases i with
    | zero => rfl
    | succ i => exact ih (kz1 k z) i (by simpa using h) (by simpa [mzs] using h')
set_option maxHeartbeats 8000000 in
set_option maxRecDepth 100000 in
theorem heldMS_any (B : Nat) (a : Option Addr) (n cap k : Nat) (Z : List Z5) (w : World) (hown : OwZ w B (.slice a n cap) (mzs k Z)) (hl : Z.length = n) (hn : n ≤ 1048576) (hk : 0 < k) (hkz : kz k Z ≤ 4194304) (hsm : Sm (Z.map md)) :
    Calls Try.prog 41 #[.slice a n cap, .int .i64 (k : Int)] w fun e w' => e = .returned (.int .i64 (kz k Z : Int)) ∧ Below w.heap.size w w' := by
  have HO := hid hown
  have HL := hid hl
  have HK := hid hk
  have HKZ := hid hkz
  have HSM := hid hsm
  clear hown hl hk hkz hsm
  go_enter Try.func41, Try.ntmps41
  go_wp2
  go_loopw [1, 5] (fun kv iv wr => ∃ i : Nat, i ≤ n ∧ kv = .int .i64 ((kz k (Z.take i) : Nat) : Int) ∧ iv = .int .i64 (i : Int) ∧ Below w.heap.size w wr) (fun _ iv _ => n - (intOf iv).toNat)
  case atStart => exact ⟨0, Nat.zero_le _, by simp [kz], rfl, bre _⟩
  case round =>
    obtain ⟨i, hin, rfl, rfl, hb⟩ := hrel
    have HB := hid hb
    clear hb
    by_cases hlt : i < n
    · have hiz : i < Z.length := by rw [HL.out]; exact hlt
      have hown := HO.out.later HB.out
      have hyl : i < (mzs k Z).length := by rw [mzs_len]; exact hiz
      rcases hown.row.2 with ⟨_, h2⟩ | ⟨gr, cap', cur, h1, hB, hr⟩
      · exfalso
        omega
      simp only [Value.slice.injEq] at h1
      obtain ⟨rfl, -, rfl⟩ := h1
      clear hr
      obtain ⟨c, -⟩ := hown.spot i hyl
      have heach := hown.each _ (List.getElem_mem hyl)
      rw [mzs_at k Z i hiz hyl] at c heach
      have hkq := kz_snoc k (Z.take i) Z[i]
      rw [← List.take_succ_eq_append_getElem hiz] at hkq
      have hlim := Nat.le_trans (kz_take k Z (i + 1)) HKZ.out
      have hge := kz_le k (Z.take i)
      have hmb := (HSM.out (md Z[i]) (List.mem_map_of_mem (List.getElem_mem hiz))).1
      have hgr : gr < wr.heap.size := (hown.row.lt gr rfl).2
      obtain ⟨q, hq⟩ : ∃ q : Nat, kz k (Z.take i) = q := ⟨_, rfl⟩
      rw [hq] at hkq hge c heach
      obtain ⟨x, hxe⟩ : ∃ x, Z[i] = x := ⟨_, rfl⟩
      rw [hxe] at c hkq heach hmb
      obtain ⟨g1, u1, f1, l1, t1⟩ := x
      simp only [mz1, kz1] at c heach hkq
      obtain ⟨m, hm⟩ : ∃ m, l1.length = m := ⟨_, rfl⟩
      dsimp only [md] at hmb
      rw [hm] at c heach hkq hmb
      obtain ⟨fa, fc, hf1, -⟩ := Ow.shape heach
      rw [mks_len] at hf1
      subst hf1
      have hlq : q + 2 + m * 3 + 1 ≤ 4194304 := by rw [← hkq]; exact hlim
      obtain ⟨p, hp⟩ : ∃ p : Nat, q + 2 + m * 3 = p := ⟨_, rfl⟩
      rw [hp] at hkq hlq c
      have hqb : q + 3 ≤ 4194304 := by omega
      have HP := hid hp
      have HKQ := hid hkq
      have HEA := hid heach
      have HK0 := HK.out
      have hp0 : 0 < p := by omega
      obtain ⟨tx, htx⟩ : ∃ tx, mtx6 p = tx := ⟨_, rfl⟩
      rw [htx] at c
      have HTX := hid htx
      have e1 : ((q : Int) != (q : Int)) = false := by simp
      have e2 : (((q : Int) + 1) != ((q : Int) + 1)) = false := by simp
      have e3 : ¬ ((p : Int) < 0) := by omega
      have e4 : (!tx.toList == tx.toList) = false := by simp
      have hI : (0 : Int) ≤ (i : Int) ∧ (i : Int) < (n : Int) := by omega
      rw [show ((q + 1 : Nat) : Int) = (q : Int) + 1 by omega] at c
      have HSS : Hid (∀ W, Below wr.heap.size wr W → (W.cell? ⟨gr, i * 4, none⟩ = some (.int .i64 q) ∧ W.cell? ⟨gr, i * 4 + 1, none⟩ = some (.int .i64 (q + 1)) ∧ W.cell? ⟨gr, i * 4 + 2, none⟩ = some (.slice fa m fc) ∧ W.cell? ⟨gr, i * 4 + 3, none⟩ = some (.string tx))) := fun W h => C4.later c hgr h
      rw [hq]
      clear hown heach hkq hyl hm hxe hq hlim hp htx hgr hB
      go_wp2_with fail
      rw [show ((q : Int) + 1 + 1) = ((q + 2 : Nat) : Int) by omega]
      refine (heldRS_gen B fa m fc (q + 2) wr HEA.out hmb (by omega)).mono ?_; rintro e w1 ⟨rfl, hw1⟩
      subst hw1
      rw [HP.out]
      go_wp2_with fail
      go_region_held3 (fun W => W.cell? ⟨gr, i * 4, none⟩ = some (.int .i64 q) ∧ W.cell? ⟨gr, i * 4 + 1, none⟩ = some (.int .i64 (q + 1)) ∧ W.cell? ⟨gr, i * 4 + 2, none⟩ = some (.slice fa m fc) ∧ W.cell? ⟨gr, i * 4 + 3, none⟩ = some (.string tx))
        ((refine HSS.out _ ?_; repeat (first | exact bdr (bre _) | refine btr ?_ (by assumption))))
        ((go_at_call 71; refine (markText_any p _ hp0 (by omega)).mono ?_; rintro e w1 ⟨rfl, hb1⟩; rw [HTX.out]))
      have HB1 : Hid (Below w.heap.size w w1) := by show Below _ _ _; refine btr HB.out ?_; repeat (first | exact bdr (bre _) | refine btr ?_ (by assumption))
      go_wp2
      go_roundw
      case rel => exact ⟨i + 1, by omega, by rw [HKQ.out]; simp, by go_num, HB1.out⟩
      case measure => simp [intOf]; omega
    · have HE1 : Hid (Z.take i = Z) := List.take_of_length_le (by rw [HL.out]; omega)
      go_wp2
      go_ret
      exact ⟨by rw [HE1.out]; rfl, HB.out⟩
end Go.Proofs.Ytocfggfccbnbhaa
namespace Go.Proofs.Ytocfggfccbnbhaa
open Go.RowKit Go.ChangeMaps
/-- The lists of a box hold the marks. -/
def MkB (W : World) (B : Nat) (mv gv : Value) (L : List M4) (gn : Nat) : Prop :=
  ∃ Z, Z.map md = L ∧ OwZ W B mv (mzs 1 Z) ∧ OwI W B gv (mki (kz 1 Z) gn)
theorem MkB.later {W W' : World} {B gn : Nat} {mv gv : Value} {L : List M4} (h : MkB W B mv gv L gn) (hb : Below W.heap.size W W') : MkB W' B mv gv L gn := by
  obtain ⟨Z, h1, h2, h3⟩ := h
  exact ⟨Z, h1, h2.later hb, own_later h3 hb⟩
theorem mzs_own (k : Nat) (Z : List Z5) : ∀ z ∈ mzs k Z, ∃ y ∈ Z, z.2.2.1 = y.2.2.1 := by
  induction Z generalizing k with
  | nil => intro z hz; simp [mzs] at hz
  | cons y Z ih =>
    intro z hz
    simp only [mzs, List.mem_cons] at hz
    rcases hz with rfl | hz
    · exact ⟨y, by simp, rfl⟩
    · obtain ⟨x, hx, e⟩ := ih _ z hz
      exact ⟨x, by simp [hx], e⟩
theorem OwZ.chg {P : Nat → Prop} {W W' : World} {B : Nat} {v : Value} {Z : List Z5} (h : OwZ W B v Z) (hc : Chg P W W') (hv : ∀ j, v.ownBlock = some j → ¬ P j) (he : ∀ z ∈ Z, ∀ j, z.2.2.1.ownBlock = some j → ¬ P j) : OwZ W' B v Z :=
  h.kept hc.size (fun j hj => hc.block j (h.row.lt j hj).2 (hv j hj)) (fun z hz j hj => hc.block j ((h.each z hz).lt j hj).2 (he z hz j hj))
/-- The lists of a box that a call owns, in blocks below hi. -/
def OwH (W : World) (B hi : Nat) (mv gv : Value) (L : List M4) (G : List Int) : Prop :=
  ∃ Z, Z.map md = L ∧ OwZ W B mv Z ∧ OwI W B gv G ∧ Dj gv mv ∧ (∀ z ∈ Z, Dj gv z.2.2.1) ∧ (∀ j, mv.ownBlock = some j → j < hi) ∧ (∀ j, gv.ownBlock = some j → j < hi) ∧ ∀ z ∈ Z, ∀ j, z.2.2.1.ownBlock = some j → j < hi
theorem OwB.h {W : World} {B : Nat} {mv gv : Value} {L : List M4} {G : List Int} (h : OwB W B mv gv L G) : OwH W B W.heap.size mv gv L G := by
  obtain ⟨Z, h1, h2, h3, h4, h5⟩ := h
  exact ⟨Z, h1, h2, h3, h4, h5, fun j hj => (h2.row.lt j hj).2, fun j hj => (h3.lt j hj).2, fun z hz j hj => ((h2.each z hz).lt j hj).2⟩
theorem OwH.b {W : World} {B hi : Nat} {mv gv : Value} {L : List M4} {G : List Int} (h : OwH W B hi mv gv L G) : OwB W B mv gv L G := by
  obtain ⟨Z, h1, h2, h3, h4, h5, _⟩ := h
  exact ⟨Z, h1, h2, h3, h4, h5⟩
theorem OwH.later {W W' : World} {B hi : Nat} {mv gv : Value} {L : List M4} {G : List Int} (h : OwH W B hi mv gv L G) (hb : Below W.heap.size W W') : OwH W' B hi mv gv L G := by
  obtain ⟨Z, h1, h2, h3, h4⟩ := h
  exact ⟨Z, h1, h2.later hb, own_later h3 hb, h4⟩
theorem OwH.base {W : World} {B B' hi : Nat} {mv gv : Value} {L : List M4} {G : List Int} (h : OwH W B' hi mv gv L G) (hB : B ≤ B') : OwH W B hi mv gv L G := by
  obtain ⟨Z, h1, h2, h3, h4⟩ := h
  exact ⟨Z, h1, h2.base hB, own_base h3 hB, h4⟩
theorem OwH.chg {P : Nat → Prop} {W W' : World} {B hi : Nat} {mv gv : Value} {L : List M4} {G : List Int} (h : OwH W B hi mv gv L G) (hc : Chg P W W') (hp : ∀ j, B ≤ j → j < hi → ¬ P j) : OwH W' B hi mv gv L G := by
  obtain ⟨Z, h1, h2, h3, h4, h5, h6, h7, h8⟩ := h
  exact ⟨Z, h1, h2.chg hc (fun j hj => hp j (h2.row.lt j hj).1 (h6 j hj)) (fun z hz j hj => hp j ((h2.each z hz).lt j hj).1 (h8 z hz j hj)), row_chg h3 hc (fun j hj => hp j (h3.lt j hj).1 (h7 j hj)), h4, h5, h6, h7, h8⟩
theorem Bx.chg {P : Nat → Prop} {W W' : World} {k ty : Nat} {g : Int} {nm : ByteArray} {t b nx : Int} {ms gs : Value} (h : Bx W k ty g nm t b nx ms gs) (hc : Chg P W W') (hk : ¬ P k) : Bx W' k ty g nm t b nx ms gs := (hc.block k h.lt hk).trans h
set_option maxHeartbeats 800000 in
set_option maxRecDepth 100000 in
theorem markBox_any (B hi : Nat) (g : Int) (nm : ByteArray) (t b nx : Int) (ma : Option Addr) (mn mc : Nat) (ga : Option Addr) (gn gc : Nat) (L : List M4) (G : List Int) (w : World) (hown : OwH w B hi (.slice ma mn mc) (.slice ga gn gc) L G) (hl : L.length = mn) (hn : mn ≤ 1048576) (hsm : Sm L) (hgl : G.length = gn) (hgn : gn ≤ 1048576) (hfz : 1 + 3 * fz L ≤ 4194304) :
    Calls Try.prog 12 #[.agg #[.int .i64 g, .string nm, .int .i64 t, .int .i64 b, .int .i64 nx, .slice ma mn mc, .slice ga gn gc], .int .i64 1] w fun e w' => e = .returned (.int .i64 ((1 + 3 * fz L + gn : Nat) : Int)) ∧ MkB w' B (.slice ma mn mc) (.slice ga gn gc) L gn ∧ Chg (fun j => B ≤ j ∧ j < hi) w w' := by
  obtain ⟨Z, rfl, hz, hii, hd, hdz, hv1, hv2, hv3⟩ := hown
  have hlt : ∀ j, (Value.ownBlock (.slice ma mn mc) = some j ∨ ∃ z ∈ Z, z.2.2.1.ownBlock = some j) → j < w.heap.size := by
    rintro j (h | ⟨z, hzz, h⟩)
    · exact (hz.row.lt j h).2
    · exact ((hz.each z hzz).lt j h).2
  have HLT := hid hlt
  have HV2 := hid hv2
  obtain ⟨W0, hW0⟩ : ∃ W0, w.alloc (.cells #[.int .i64 g, .string nm, .int .i64 t, .int .i64 b, .int .i64 nx, .slice ma mn mc, .slice ga gn gc] 34) = W0 := ⟨_, rfl⟩
  have a0 : Bx W0 w.heap.size 34 g nm t b nx (.slice ma mn mc) (.slice ga gn gc) := by subst hW0; exact Bx.new w _ g nm t b nx _ _
  have b0 : Below w.heap.size w W0 := by subst hW0; exact bpush (bre _) _
  have c0 := a0.cells
  have HC := markMS_any (fun j => Value.ownBlock (.slice ma mn mc) = some j ∨ ∃ z ∈ Z, z.2.2.1.ownBlock = some j) B ma mn mc 1 Z W0 (hz.later b0) (by rw [← hl, List.length_map]) hn (by omega) (by rw [kz_fz]; exact hfz) hsm (fun j hj => .inl hj) (fun z hz j hj => .inr ⟨z, hz, hj⟩)
  have hbl : ∀ j, (Value.ownBlock (.slice ma mn mc) = some j ∨ ∃ z ∈ Z, z.2.2.1.ownBlock = some j) → B ≤ j ∧ j < hi := by
    rintro j (h | ⟨z, hzz, h⟩)
    · exact ⟨(hz.row.lt j h).1, hv1 j h⟩
    · exact ⟨((hz.each z hzz).lt j h).1, hv3 z hzz j h⟩
  have HBL := hid hbl
  have HCC := hid HC
  have HZ := hid hz
  have HI := hid hii
  have HD := hid hd
  have HDZ := hid hdz
  have A0 := hid a0
  have B0 := hid b0
  have HGL := hid hgl
  have HKZ := hid (kz_fz 1 Z)
  obtain ⟨q, hq⟩ : ∃ q, kz 1 Z = q := ⟨_, rfl⟩
  have hqb : q ≤ 4194304 := by rw [← hq, kz_fz]; exact hfz
  have HQ := hid hq
  clear hbl HC hz hii hd hdz a0 b0 hgl hsm hfz hl hlt hv1 hv2 hv3
  go_enter Try.func12, Try.ntmps12
  go_wp2_with fail
  clear hW0
  refine HCC.out.mono ?_; rintro e w1 ⟨rfl, ho1, hc1⟩
  rw [hq]
  clear hq
  have ho2 : OwI w1 B (.slice ga gn gc) G := row_chg (own_later HI.out B0.out) hc1 (fun j hj => by
    rintro (h | ⟨z, hzz, h⟩)
    · exact HD.out j hj h
    · exact HDZ.out z hzz j hj h)
  have x1 : Bx w1 w.heap.size 34 g nm t b nx (.slice ma mn mc) (.slice ga gn gc) := (hc1.block _ A0.out.lt (fun e => by have h1 := HLT.out _ e; omega)).trans A0.out
  have k1 := x1.cells
  have HC1 := hid hc1
  have HO1 := hid ho1
  have HO2 := hid ho2
  clear hc1 ho1 ho2 c0 x1
  go_wp2_with fail
  refine (markIS_any B ga gn gc q G w1 HO2.out HGL.out hgn (by omega)).mono ?_; rintro e w2 ⟨rfl, ho3, hg3⟩
  have HO3 := hid ho3
  have HG3 := hid hg3
  clear ho3 hg3
  have HF : Hid (OwZ w2 B (.slice ma mn mc) (mzs 1 Z)) := by
    show OwZ _ _ _ _
    refine HO1.out.chg (P := fun j => Value.ownBlock (.slice ga gn gc) = some j) (Chg.of_grown HG3.out (fun j hj => hj)) (fun j hj h => HD.out j h hj) (fun z hz j hj h => ?_)
    obtain ⟨y, hy, e⟩ := mzs_own 1 Z z hz
    rw [e] at hj
    exact HDZ.out y hy j h hj
  have HCH : Hid (Chg (fun j => B ≤ j ∧ j < hi) w w2) := by
    show Chg _ _ _
    refine Chg.trans (Chg.trans (Chg.of_below B0.out) (HC1.out.mono HBL.out)) (Chg.of_grown HG3.out (fun j hj => ⟨(HI.out.lt j hj).1, HV2.out j hj⟩))
  go_wp2
  go_ret
  exact ⟨by rw [← HKZ.out, HQ.out]; rfl, ⟨Z, rfl, HF.out, by rw [HQ.out]; exact HO3.out⟩, HCH.out⟩
set_option maxHeartbeats 800000 in
set_option maxRecDepth 100000 in
theorem heldBox_any (B : Nat) (g : Int) (nm : ByteArray) (t b nx : Int) (ma : Option Addr) (mn mc : Nat) (ga : Option Addr) (gn gc : Nat) (L : List M4) (w : World) (hmk : MkB w B (.slice ma mn mc) (.slice ga gn gc) L gn) (hl : L.length = mn) (hn : mn ≤ 1048576) (hsm : Sm L) (hgn : gn ≤ 1048576) (hfz : 1 + 3 * fz L ≤ 4194304) :
    Calls Try.prog 13 #[.agg #[.int .i64 g, .string nm, .int .i64 t, .int .i64 b, .int .i64 nx, .slice ma mn mc, .slice ga gn gc], .int .i64 1] w fun e w' => e = .returned (.int .i64 ((1 + 3 * fz L + gn : Nat) : Int)) ∧ Below w.heap.size w w' := by
  obtain ⟨Z, rfl, hz, hi⟩ := hmk
  obtain ⟨W0, hW0⟩ : ∃ W0, w.alloc (.cells #[.int .i64 g, .string nm, .int .i64 t, .int .i64 b, .int .i64 nx, .slice ma mn mc, .slice ga gn gc] 34) = W0 := ⟨_, rfl⟩
  have a0 : Bx W0 w.heap.size 34 g nm t b nx (.slice ma mn mc) (.slice ga gn gc) := by subst hW0; exact Bx.new w _ g nm t b nx _ _
  have b0 : Below w.heap.size w W0 := by subst hW0; exact bpush (bre _) _
  have c0 := a0.cells
  have HC := heldMS_any B ma mn mc 1 Z W0 (hz.later b0) (by rw [← hl, List.length_map]) hn (by omega) (by rw [kz_fz]; exact hfz) hsm
  have HCC := hid HC
  have HI := hid hi
  have A0 := hid a0
  have B0 := hid b0
  have HKZ := hid (kz_fz 1 Z)
  obtain ⟨q, hq⟩ : ∃ q, kz 1 Z = q := ⟨_, rfl⟩
  have hqb : q ≤ 4194304 := by rw [← hq, kz_fz]; exact hfz
  have HQ := hid hq
  have h1 : ¬ (q : Int) < 0 := by omega
  clear HC hz hi a0 b0 hsm hfz hl
  go_enter Try.func13, Try.ntmps13
  go_wp2_with fail
  clear hW0
  refine HCC.out.mono ?_; rintro e w1 ⟨rfl, hb1⟩
  rw [hq]
  clear hq
  have c0 := (A0.out.later hb1).cells
  have B1 := hid (btr B0.out hb1)
  clear hb1
  go_wp2_with fail
  refine (heldIS_any B ga gn gc q w1 (by rw [← HQ.out]; exact own_later HI.out B1.out) hgn (by omega)).mono ?_; rintro e w2 ⟨rfl, hw2⟩
  subst hw2
  have h2 : ¬ ((q + gn : Nat) : Int) < 0 := by omega
  have h3 : ¬ (q : Int) + (gn : Int) < 0 := by omega
  go_wp2
  go_ret
  exact ⟨by rw [← HKZ.out, HQ.out]; rfl, B1.out⟩
end Go.Proofs.Ytocfggfccbnbhaa
namespace Go.Proofs.Ytocfggfccbnbhaa
open Go.RowKit Go.ChangeMaps
/-- A box handed back, laid into a block of its own. -/
structure Ans (wn W : World) (k : Nat) (g : Int) (nm : ByteArray) (t b nx : Int) (mv gv : Value) (L : List M4) (G : List Int) : Prop where
  box : Bx W k 34 g nm t b nx mv gv
  le : wn.heap.size ≤ k
  own : ∃ B hi, OwH W B hi mv gv L G ∧ wn.heap.size ≤ B ∧ hi ≤ W.heap.size ∧ (k < B ∨ hi ≤ k)
  bel : Below wn.heap.size wn W
theorem ans_last {wn v : World} {B : Nat} {g : Int} {nm : ByteArray} {t b nx : Int} {mv gv : Value} {L : List M4} {G : List Int} (ho : OwB v B mv gv L G) (hB : wn.heap.size ≤ B) (hb : Below wn.heap.size wn v) :
    Ans wn (v.alloc (.cells #[.int .i64 g, .string nm, .int .i64 t, .int .i64 b, .int .i64 nx, mv, gv] 34)) v.heap.size g nm t b nx mv gv L G :=
  ⟨Bx.new v _ _ _ _ _ _ _ _, hb.size, ⟨B, v.heap.size, ho.h.later (bpush (bre _) _), hB, by simp, .inr (Nat.le_refl _)⟩, bpush hb _⟩
end Go.Proofs.Ytocfggfccbnbhaa
namespace Go.Proofs.Ytocfggfccbnbhaa
open Go.RowKit Go.ChangeMaps
end Go.Proofs.Ytocfggfccbnbhaa

namespace Go.Proofs.Ytocfggfccbnbhaa
open Go.RowKit
/-- Block k holds a reader. -/
def Dg (W : World) (k : Nat) (s : ByteArray) (b : Int) : Prop := W.heap[k]? = some (.cells #[.string s, .int .i64 b] 96 (0, 0))
theorem Dg.lt {W : World} {k : Nat} {s : ByteArray} {b : Int} (h : Dg W k s b) : k < W.heap.size := (Array.getElem?_eq_some_iff.1 h).1
theorem Dg.new (w : World) (s : ByteArray) (b : Int) : Dg (w.alloc (.cells #[.string s, .int .i64 b] 96)) w.heap.size s b := heap_alloc_new w _
theorem Dg.later {W W' : World} {k : Nat} {s : ByteArray} {b : Int} (h : Dg W k s b) (hb : Below W.heap.size W W') : Dg W' k s b := (hb.block k h.lt).trans h
theorem Dg.below {W W' : World} {B k : Nat} {s : ByteArray} {b : Int} (h : Dg W k s b) (hb : Below B W W') (hk : k < B) : Dg W' k s b := (hb.block k hk).trans h
theorem Dg.cells {W : World} {k : Nat} {s : ByteArray} {b : Int} (h : Dg W k s b) : W.cell? ⟨k, 0, none⟩ = some (.string s) ∧ W.cell? ⟨k, 1, none⟩ = some (.int .i64 b) :=
  ⟨cell_of_row W k 0 _ _ _ h, cell_of_row W k 1 _ _ _ h⟩
theorem Dg.loose {W : World} {k : Nat} {s : ByteArray} {b : Int} (h : Dg W k s b) : W.frozen? ⟨k, 0, none⟩ = false ∧ W.frozen? ⟨k, 1, none⟩ = false :=
  ⟨frozen_of_row W k 0 _ _ h, frozen_of_row W k 1 _ _ h⟩
theorem Dg.s1 {W : World} {k : Nat} {s : ByteArray} {b : Int} (h : Dg W k s b) (b' : Int) : Dg (W.setCell ⟨k, 1, none⟩ (.int .i64 b')) k s b' := heap_setCell_same W k 1 _ _ (.int .i64 b') h
theorem Dg.far {W : World} {k j i : Nat} {s : ByteArray} {b : Int} (h : Dg W k s b) (x : Value) (hk : k ≠ j) : Dg (W.setCell ⟨j, i, none⟩ x) k s b := heap_setCell_far x h hk
/-- What it panics with. -/
abbrev notHere : List PanicEntry := [{ v := .iface 117 (.agg #[]), recovered := false }]
theorem must_yes (w : World) : Calls Try.prog 69 #[.bool true] w fun e w' => e = .returned (.tuple #[]) ∧ w' = w := by
  go_enter Try.func69, Try.ntmps69
  go_wp2
  go_end0
  exact ⟨rfl, rfl⟩
theorem must_no (w : World) : Calls Try.prog 69 #[.bool false] w fun e w' => e = .panicked notHere ∧ w' = w := by
  go_enter Try.func69, Try.ntmps69
  go_wp2
  exact ⟨rfl, rfl, rfl⟩
/-- How a call ends that reads a number, a text, a register, by the reader at block k. -/
def Num1 (w : World) (k : Nat) (s : ByteArray) (b : Int) (e : Ending) (w' : World) : Prop :=
  (∃ n c, rd s b = some (n, c) ∧ e = .returned (.int .i64 n) ∧ Dg w' k s c ∧ w.grownBy w' (some k)) ∨ (rd s b = none ∧ e = .panicked notHere ∧ w.grownBy w' (some k))
def Txt1 (w : World) (k : Nat) (s : ByteArray) (b : Int) (e : Ending) (w' : World) : Prop :=
  (∃ t c, rsh s b = some (t, c) ∧ e = .returned (.string t) ∧ Dg w' k s c ∧ w.grownBy w' (some k)) ∨ (rsh s b = none ∧ e = .panicked notHere ∧ w.grownBy w' (some k))
theorem rdi_l (s : ByteArray) (b : Int) (hs : s.size ≤ 1048576) : ∃ (n c : Int) (ok : Bool), Hid ((ok = true ∧ rd s b = some (n, c)) ∨ (ok = false ∧ rd s b = none)) ∧ Hid (∀ w, Calls Try.prog 82 #[.string s, .int .i64 b] w fun e w' => e = .returned (.tuple #[.int .i64 n, .int .i64 c, .bool ok]) ∧ Below w.heap.size w w') := by
  have h := implRd s b (hs := hs)
  unfold rdT at h
  cases hr : rd s b with
  | none => rw [hr] at h; exact ⟨0, 0, false, Or.inr ⟨rfl, rfl⟩, h⟩
  | some p => rw [hr] at h; exact ⟨p.1, p.2, true, Or.inl ⟨rfl, rfl⟩, h⟩
theorem rshi_l (s : ByteArray) (b : Int) (hs : s.size ≤ 1048576) : ∃ (t : ByteArray) (c : Int) (ok : Bool), Hid ((ok = true ∧ rsh s b = some (t, c)) ∨ (ok = false ∧ rsh s b = none)) ∧ Hid (∀ w, Calls Try.prog 83 #[.string s, .int .i64 b] w fun e w' => e = .returned (.tuple #[.string t, .int .i64 c, .bool ok]) ∧ Below w.heap.size w w') := by
  have h := implRsh s b (hs := hs)
  unfold rshT at h
  cases hr : rsh s b with
  | none => rw [hr] at h; exact ⟨⟨#[]⟩, 0, false, Or.inr ⟨rfl, rfl⟩, h⟩
  | some p => rw [hr] at h; exact ⟨p.1, p.2, true, Or.inl ⟨rfl, rfl⟩, h⟩
set_option maxHeartbeats 800000 in
set_option maxRecDepth 100000 in
theorem numr_any (k : Nat) (s : ByteArray) (b : Int) (w : World) (hs : s.size ≤ 1048576) (hc : Dg w k s b) :
    Calls Try.prog 63 #[.pointer (some ⟨k, 0, none⟩)] w fun e w' => Num1 w k s b e w' := by
  obtain ⟨n, c, ok, hr, cr⟩ := rdi_l s b hs
  have HC := hid hc
  clear hc hs
  have HS : Hid (∀ W, Below w.heap.size w W → (W.cell? ⟨k, 0, none⟩ = some (.string s) ∧ W.cell? ⟨k, 1, none⟩ = some (.int .i64 b))) := fun W h => (HC.out.later h).cells
  go_enter Try.func63, Try.ntmps63
  go_wp2_with fail
  go_region_held3 (fun W => (W.cell? ⟨k, 0, none⟩ = some (.string s) ∧ W.cell? ⟨k, 1, none⟩ = some (.int .i64 b)))
    ((refine HS.out _ ?_; repeat (first | exact bdr (bre _) | refine btr ?_ (by assumption))))
    ((go_at_call 82; refine (cr.out _).mono ?_; rintro e w1 ⟨rfl, hb1⟩))
  have B1 : Hid (Below w.heap.size w w1) := by show Below _ _ _; repeat (first | exact bdr (bre _) | refine btr ?_ (by assumption))
  have K1 := hid (HC.out.later B1.out)
  have d := K1.out.cells
  have f := K1.out.loose
  clear hb1 HS
  cases ok
  · go_wp2_with fail
    refine (must_no _).mono ?_; rintro e w2 ⟨rfl, h2⟩
    subst h2
    go_wp2_with fail
    exact ⟨rfl, Or.inr ⟨(by rcases hr.out with ⟨h, _⟩ | ⟨_, h⟩; (cases h); exact h), rfl, grown_below B1.out _⟩⟩
  · go_wp2_with fail
    refine (must_yes _).mono ?_; rintro e w2 ⟨rfl, h2⟩
    subst h2
    go_wp2
    go_ret
    exact Or.inl ⟨n, c, (by rcases hr.out with ⟨_, h⟩ | ⟨h, _⟩; (exact h); cases h), rfl, K1.out.s1 c, wst (grown_below B1.out _) 1 _⟩
set_option maxHeartbeats 800000 in
set_option maxRecDepth 100000 in
theorem short_any (k : Nat) (s : ByteArray) (b : Int) (w : World) (hs : s.size ≤ 1048576) (hc : Dg w k s b) :
    Calls Try.prog 64 #[.pointer (some ⟨k, 0, none⟩)] w fun e w' => Txt1 w k s b e w' := by
  obtain ⟨t, c, ok, hr, cr⟩ := rshi_l s b hs
  have HC := hid hc
  clear hc hs
  have HS : Hid (∀ W, Below w.heap.size w W → (W.cell? ⟨k, 0, none⟩ = some (.string s) ∧ W.cell? ⟨k, 1, none⟩ = some (.int .i64 b))) := fun W h => (HC.out.later h).cells
  go_enter Try.func64, Try.ntmps64
  go_wp2_with fail
  go_region_held3 (fun W => (W.cell? ⟨k, 0, none⟩ = some (.string s) ∧ W.cell? ⟨k, 1, none⟩ = some (.int .i64 b)))
    ((refine HS.out _ ?_; repeat (first | exact bdr (bre _) | refine btr ?_ (by assumption))))
    ((go_at_call 83; refine (cr.out _).mono ?_; rintro e w1 ⟨rfl, hb1⟩))
  have B1 : Hid (Below w.heap.size w w1) := by show Below _ _ _; repeat (first | exact bdr (bre _) | refine btr ?_ (by assumption))
  have K1 := hid (HC.out.later B1.out)
  have d := K1.out.cells
  have f := K1.out.loose
  clear hb1 HS
  cases ok
  · go_wp2_with fail
    refine (must_no _).mono ?_; rintro e w2 ⟨rfl, h2⟩
    subst h2
    go_wp2_with fail
    exact ⟨rfl, Or.inr ⟨(by rcases hr.out with ⟨h, _⟩ | ⟨_, h⟩; (cases h); exact h), rfl, grown_below B1.out _⟩⟩
  · go_wp2_with fail
    refine (must_yes _).mono ?_; rintro e w2 ⟨rfl, h2⟩
    subst h2
    go_wp2
    go_ret
    exact Or.inl ⟨t, c, (by rcases hr.out with ⟨_, h⟩ | ⟨h, _⟩; (exact h); cases h), rfl, K1.out.s1 c, wst (grown_below B1.out _) 1 _⟩
end Go.Proofs.Ytocfggfccbnbhaa

namespace Go.Proofs.Ytocfggfccbnbhaa
open Go.RowKit
def rg3 (s : ByteArray) (b : Int) : Option (R3 × Int) := (rd s b).bind fun p => (rd s p.2).bind fun q => (rd s q.2).map fun r => ((p.1, q.1, r.1), r.2)
theorem rg3_some {s : ByteArray} {b x b1 y b2 z b3 : Int} (h1 : rd s b = some (x, b1)) (h2 : rd s b1 = some (y, b2)) (h3 : rd s b2 = some (z, b3)) : rg3 s b = some ((x, y, z), b3) := by
  unfold rg3; rw [h1]; simp only [Option.bind_some]; rw [h2]; simp only [Option.bind_some]; rw [h3]; rfl
theorem rg3_no1 {s : ByteArray} {b : Int} (h1 : rd s b = none) : rg3 s b = none := by unfold rg3; rw [h1]; rfl
theorem rg3_no2 {s : ByteArray} {b x b1 : Int} (h1 : rd s b = some (x, b1)) (h2 : rd s b1 = none) : rg3 s b = none := by
  unfold rg3; rw [h1]; simp only [Option.bind_some]; rw [h2]; rfl
theorem rg3_no3 {s : ByteArray} {b x b1 y b2 : Int} (h1 : rd s b = some (x, b1)) (h2 : rd s b1 = some (y, b2)) (h3 : rd s b2 = none) : rg3 s b = none := by
  unfold rg3; rw [h1]; simp only [Option.bind_some]; rw [h2]; simp only [Option.bind_some]; rw [h3]; rfl
def Reg1 (w : World) (k : Nat) (s : ByteArray) (b : Int) (e : Ending) (w' : World) : Prop :=
  (∃ x y z c, rg3 s b = some ((x, y, z), c) ∧ e = .returned (.agg #[.int .i64 x, .int .i64 y, .int .i64 z]) ∧ Dg w' k s c ∧ w.grownBy w' (some k)) ∨ (rg3 s b = none ∧ e = .panicked notHere ∧ w.grownBy w' (some k))
/-- A stamp that is read. -/
def rg2 (s : ByteArray) (b : Int) : Option ((Int × Int) × Int) := (rd s b).bind fun p => (rd s p.2).map fun q => ((p.1, q.1), q.2)
theorem rg2_some {s : ByteArray} {b x b1 y b2 : Int} (h1 : rd s b = some (x, b1)) (h2 : rd s b1 = some (y, b2)) : rg2 s b = some ((x, y), b2) := by
  unfold rg2; rw [h1]; simp only [Option.bind_some]; rw [h2]; rfl
theorem rg2_no1 {s : ByteArray} {b : Int} (h1 : rd s b = none) : rg2 s b = none := by unfold rg2; rw [h1]; rfl
theorem rg2_no2 {s : ByteArray} {b x b1 : Int} (h1 : rd s b = some (x, b1)) (h2 : rd s b1 = none) : rg2 s b = none := by
  unfold rg2; rw [h1]; simp only [Option.bind_some]; rw [h2]; rfl
theorem rg3_two {s : ByteArray} {b x b1 y z c : Int} (h1 : rd s b = some (x, b1)) (h2 : rg2 s b1 = some ((y, z), c)) : rg3 s b = some ((x, y, z), c) := by
  unfold rg2 at h2
  cases h3 : rd s b1 with
  | none => rw [h3] at h2; cases h2
  | some p =>
    rw [h3] at h2
    simp only [Option.bind_some] at h2
    cases h4 : rd s p.2 with
    | none => rw [h4] at h2; cases h2
    | some q =>
      rw [h4] at h2
      simp only [Option.map_some, Option.some.injEq, Prod.mk.injEq] at h2
      obtain ⟨⟨rfl, rfl⟩, rfl⟩ := h2
      exact rg3_some h1 h3 h4
theorem rg3_two_no {s : ByteArray} {b x b1 : Int} (h1 : rd s b = some (x, b1)) (h2 : rg2 s b1 = none) : rg3 s b = none := by
  cases h3 : rd s b1 with
  | none => exact rg3_no2 h1 h3
  | some p =>
    cases h4 : rd s p.2 with
    | none => exact rg3_no3 h1 h3 h4
    | some q => rw [rg2_some h3 h4] at h2; cases h2
def Stm1 (w : World) (k : Nat) (s : ByteArray) (b : Int) (e : Ending) (w' : World) : Prop :=
  (∃ x y c, rg2 s b = some ((x, y), c) ∧ e = .returned (.agg #[.int .i64 x, .int .i64 y]) ∧ Dg w' k s c ∧ w.grownBy w' (some k)) ∨ (rg2 s b = none ∧ e = .panicked notHere ∧ w.grownBy w' (some k))
theorem Sg.grown {W W' : World} {k ty : Nat} {t b : Int} {r : Option Nat} (h : Sg W k ty t b) (hg : W.grownBy W' r) (hk : some k ≠ r) : Sg W' k ty t b := (hg.block k h.lt hk).trans h
theorem Sg.free {W : World} {k ty : Nat} {t b : Int} (h : Sg W k ty t b) : W.frozen? ⟨k, 0, none⟩ = false ∧ W.frozen? ⟨k, 1, none⟩ = false :=
  ⟨frozen_of_row W k 0 _ _ h, frozen_of_row W k 1 _ _ h⟩
set_option maxHeartbeats 800000 in
set_option maxRecDepth 100000 in
theorem stmr_any (k : Nat) (s : ByteArray) (b : Int) (w : World) (hs : s.size ≤ 1048576) (hc : Dg w k s b) :
    Calls Try.prog 65 #[.pointer (some ⟨k, 0, none⟩)] w fun e w' => Stm1 w k s b e w' := by
  have HSZ := hid hs
  have LK : Hid (k < w.heap.size) := hc.lt
  have R0 := hid (Sg.new w 31 0 0)
  have C0 := hid (hc.later (bpush (bre w) (.cells #[.int .i64 0, .int .i64 0] 31)))
  clear hc hs
  go_enter Try.func65, Try.ntmps65
  go_wp2_with fail
  refine (numr_any k s b _ HSZ.out C0.out).mono ?_; rintro e w1 (⟨x, b1, hr, rfl, hd, hg⟩ | ⟨hr, rfl, hg⟩)
  case inr =>
    have H := hid hr
    have G := hid (grown_push hg)
    clear hr hg
    go_wp2_with fail
    exact ⟨rfl, Or.inr ⟨rg2_no1 H.out, rfl, G.out⟩⟩
  have H1 := hid hr
  have C1 := hid hd
  have l := LK.out
  have R1 := hid (R0.out.grown hg (by simp; omega))
  have G1 := hid (grown_push hg)
  clear hr hd hg l R0 C0
  go_wp2_with fail
  refine (numr_any k s b1 _ HSZ.out C1.out).mono ?_; rintro e w2 (⟨y, b2, hr, rfl, hd, hg⟩ | ⟨hr, rfl, hg⟩)
  case inr =>
    have H := hid hr
    have G := hid (wtr G1.out hg)
    clear hr hg
    go_wp2_with fail
    exact ⟨rfl, Or.inr ⟨rg2_no2 H1.out H.out, rfl, G.out⟩⟩
  have H2 := hid hr
  have C2 := hid hd
  have l := LK.out
  have R2 := hid (R1.out.grown hg (by simp; omega))
  have G2 := hid (wtr G1.out hg)
  have d := R2.out.cells
  have f := R2.out.free
  clear hr hd hg l R1 C1 G1
  go_wp2
  have l := LK.out
  have d3 := (R2.out.set' (t' := x) (b' := y)).cells
  refine bodyPost_ret (v := .agg #[.int .i64 x, .int .i64 y]) (by simp [results, Try.results65, go_sem, d3]) rfl (Or.inl ⟨x, y, b2, rg2_some H1.out H2.out, rfl, ?_, ?_⟩)
  · exact (C2.out.far _ (by omega)).far _ (by omega)
  · exact wst_new (wst_new G2.out (Nat.le_refl _) 0 _) (Nat.le_refl _) 1 _
set_option maxHeartbeats 800000 in
set_option maxRecDepth 100000 in
theorem regr_any (k : Nat) (s : ByteArray) (b : Int) (w : World) (hs : s.size ≤ 1048576) (hc : Dg w k s b) :
    Calls Try.prog 84 #[.pointer (some ⟨k, 0, none⟩)] w fun e w' => Reg1 w k s b e w' := by
  have HSZ := hid hs
  have LK : Hid (k < w.heap.size) := hc.lt
  have R0 := hid (Rg.new w 87 0 0 0)
  have C0 := hid (hc.later (bpush (bre w) (.cells #[.int .i64 0, .int .i64 0, .int .i64 0] 87)))
  clear hc hs
  go_enter Try.func84, Try.ntmps84
  go_wp2_with fail
  refine (numr_any k s b _ HSZ.out C0.out).mono ?_; rintro e w1 (⟨x, b1, hr, rfl, hd, hg⟩ | ⟨hr, rfl, hg⟩)
  case inr =>
    have H := hid hr
    have G := hid (grown_push hg)
    clear hr hg
    go_wp2_with fail
    exact ⟨rfl, Or.inr ⟨rg3_no1 H.out, rfl, G.out⟩⟩
  have H1 := hid hr
  have C1 := hid hd
  have l := LK.out
  have R1 := hid (R0.out.grown hg (by simp; omega))
  have G1 := hid (grown_push hg)
  clear hr hd hg l R0 C0
  go_wp2_with fail
  refine (stmr_any k s b1 _ HSZ.out C1.out).mono ?_; rintro e w2 (⟨y, z, b3, hr, rfl, hd, hg⟩ | ⟨hr, rfl, hg⟩)
  case inr =>
    have H := hid hr
    have G := hid (wtr G1.out hg)
    clear hr hg
    go_wp2_with fail
    exact ⟨rfl, Or.inr ⟨rg3_two_no H1.out H.out, rfl, G.out⟩⟩
  have H3 := hid hr
  have l := LK.out
  have N3 := hid (bpush (bre w2) (.cells #[.int .i64 y, .int .i64 z] 31))
  have C3 := hid (hd.later N3.out)
  have R3 := hid ((R1.out.grown hg (by simp; omega)).later N3.out)
  have S3 := hid (Sg.new w2 31 y z)
  have G3 := hid (wtr (wtr G1.out hg) (World.grownBy_alloc w2 (.cells #[.int .i64 y, .int .i64 z] 31) (some k)))
  have d := R3.out.cells
  have f := R3.out.loose
  have d2 := S3.out.cells
  clear hr hd hg l R1 C1 G1 N3
  go_wp2
  have l := LK.out
  have d3 := (R3.out.set' (v' := x) (t' := y) (b' := z)).cells
  refine bodyPost_ret (v := .agg #[.int .i64 x, .int .i64 y, .int .i64 z]) (by simp [results, Try.results84, go_sem, d3]) rfl (Or.inl ⟨x, y, z, b3, rg3_two H1.out H3.out, rfl, ?_, ?_⟩)
  · exact ((C3.out.far _ (by omega)).far _ (by omega)).far _ (by omega)
  · exact wst_new (wst_new (wst_new G3.out (Nat.le_refl _) 0 _) (Nat.le_refl _) 1 _) (Nat.le_refl _) 2 _
theorem regr_ok (k : Nat) (s : ByteArray) (b x y z c : Int) (w : World) (hs : s.size ≤ 1048576) (hc : Dg w k s b) (h : rg3 s b = some ((x, y, z), c)) :
    Calls Try.prog 84 #[.pointer (some ⟨k, 0, none⟩)] w fun e w' => e = .returned (.agg #[.int .i64 x, .int .i64 y, .int .i64 z]) ∧ Dg w' k s c ∧ w.grownBy w' (some k) := by
  refine (regr_any k s b w hs hc).mono ?_
  rintro e w1 (⟨x', y', z', c', hr, rfl, hd, hg⟩ | ⟨hr, _⟩)
  · rw [h] at hr
    simp only [Option.some.injEq, Prod.mk.injEq] at hr
    obtain ⟨⟨rfl, rfl, rfl⟩, rfl⟩ := hr
    exact ⟨rfl, hd, hg⟩
  · rw [h] at hr; cases hr
theorem regr_no (k : Nat) (s : ByteArray) (b : Int) (w : World) (hs : s.size ≤ 1048576) (hc : Dg w k s b) (h : rg3 s b = none) :
    Calls Try.prog 84 #[.pointer (some ⟨k, 0, none⟩)] w fun e w' => e = .panicked notHere ∧ w.grownBy w' (some k) := by
  refine (regr_any k s b w hs hc).mono ?_
  rintro e w1 (⟨x', y', z', c', hr, _⟩ | ⟨_, rfl, hg⟩)
  · rw [h] at hr; cases hr
  · exact ⟨rfl, hg⟩
end Go.Proofs.Ytocfggfccbnbhaa

