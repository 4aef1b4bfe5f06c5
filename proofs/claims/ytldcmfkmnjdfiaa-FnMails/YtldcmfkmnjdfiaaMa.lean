/- Pure, Var, Clone, Stamp, Regs, Put, Exact, Join, in one text. -/
import Derived.WalkKit
import Derived.Laws.IdiomStrings
import Derived.WalkSpells
import Derived.Test.YtldcmfkmnjdfiaaRows
import Derived.WalkLawsBesides
import Derived.Lib.Strings
import Derived.Lib.BufferWrite
import Derived.Lib.UnsafeStr
import Derived.Laws.MakeOwn
import Derived.Test.YtldcmfkmnjdfiaaProg
import Derived.Below
import Derived.BigQuiet
import Derived.Deep.QuietTactic
import Derived.Deep.RegionHeld3
import Derived.Deep.Cut
namespace Go.Proofs.Ytldcmfkmnjdfiaa
open Go.RowKit

theorem hide {p : Prop} (h : p) : Hid p := h
theorem unhide {p : Prop} (h : Hid p) : p := h

theorem ret_int {k : IntKind} {a b : Int} (h : a = b) : Ending.returned (.int k a) = .returned (.int k b) := by rw [h]

/-- A byte as a value. -/
def bv (b : UInt8) : Value := .int .u8 (b.toNat : Int)

/-- The bytes of a number, seven bits each, the lowest first; at most f + 1 of them. -/
def vbsF : Nat → Nat → List UInt8
  | 0, n => [UInt8.ofNat n]
  | f + 1, n => if 127 < n then UInt8.ofNat (n % 128 + 128) :: vbsF f (n / 128) else [UInt8.ofNat n]

theorem vbsF_any : ∀ (f g n : Nat), n ≤ f → n ≤ g → vbsF f n = vbsF g n
  | 0, 0, _, _, _ => rfl
  | 0, g + 1, n, h, _ => by simp only [vbsF]; rw [if_neg (by omega)]
  | f + 1, 0, n, _, h => by simp only [vbsF]; rw [if_neg (by omega)]
  | f + 1, g + 1, n, h1, h2 => by
    simp only [vbsF]
    by_cases h : 127 < n
    · rw [if_pos h, if_pos h, vbsF_any f g (n / 128) (by omega) (by omega)]
    · rw [if_neg h, if_neg h]

/-- The bytes of a number, seven bits each, the lowest first. -/
def vbs (n : Nat) : List UInt8 := vbsF n n

theorem vbs_big (n : Nat) (h : 127 < n) : vbs n = UInt8.ofNat (n % 128 + 128) :: vbs (n / 128) := by
  unfold vbs
  obtain ⟨k, rfl⟩ : ∃ k, n = k + 1 := ⟨n - 1, by omega⟩
  rw [vbsF, if_pos h, vbsF_any k ((k + 1) / 128) ((k + 1) / 128) (by omega) (Nat.le_refl _)]
theorem vbs_small (n : Nat) (h : ¬ 127 < n) : vbs n = [UInt8.ofNat n] := by
  unfold vbs
  cases n with
  | zero => rfl
  | succ k => rw [vbsF, if_neg h]
theorem vbs_len (n : Nat) : (vbs n).length ≤ n + 1 := by
  induction n using Nat.strongRecOn with
  | _ n ih =>
    by_cases h : 127 < n
    · rw [vbs_big n h]; have := ih (n / 128) (by omega); simp; omega
    · rw [vbs_small n h]; simp

/-- What a row of bytes that the call owns reads as. -/
theorem run_string_own {P : Program} (w : World) (src dst e : TypeId) (hs : P.underlying src = some (.slice e)) (he : P.underlying e = some (.int .u8)) (hd : P.underlying dst = some .string)
    {base n : Nat} {v : Value} (bs : List UInt8) (h : w.ownsRow base e 1 v n (bs.map bv)) :
    (convert src dst v).run P w = .ok (.string ⟨bs.toArray⟩) w := by
  have hl : bs.length = n := by simpa using h.1
  rcases h.2 with ⟨rfl, hn⟩ | ⟨g, cap, cur, rfl, _, hg, _, _, _, _⟩
  · have : bs = [] := List.eq_nil_of_length_eq_zero (by omega)
    subst this
    rw [run_convert_bytes_string w src dst e none 0 0 hs he hd]; rfl
  · subst hl
    refine run_convert_bytes_back w src dst e ⟨g, 0, none⟩ cap bs hs he hd (fun j hj => ?_)
    have := h.cells (g := g) rfl j (bv bs[j]) (by simp [hj])
    simpa [bv] using this

theorem u8_nat (k : Nat) (h : k < 256) : ((UInt8.ofNat k).toNat : Int) = (k : Int) := by
  simp [UInt8.toNat_ofNat']; omega

theorem bv_ofNat (k : Nat) (h : k < 256) : bv (UInt8.ofNat k) = .int .u8 (k : Int) := by
  simp [bv, UInt8.toNat_ofNat']; omega

/-- One byte appended to a row of bytes that the call owns: the byte lies in a block of its own, laid just ahead. -/
theorem wpList_append_byte {P : Program} (w : World) {ops : Array Oper} {rest : List Oper} {o : Oper} {a : Act} {Q : Exit → Act → World → Prop} (hgd : o.guard = none) (s x : Operand) (t : TypeId)
    (ho : o.op = .call { callee := .builtin .append, args := #[s, x], argTypes := #[t, t] })
    (base : Nat) (e : TypeId) (hinfo : (P.info? e).map (fun i => (i.zero, i.size, i.bytes)) = some (some (.int .u8 0), 1, 1)) (ht : P.underlying t = some (.slice e))
    (v : Value) (bs : List UInt8) (hs : a.eval s = v) (hown : w.ownsRow base e 1 v bs.length (bs.map bv)) (n : Int) (b : UInt8) (hb : n = (b.toNat : Int))
    (hx : a.eval x = .slice (some ⟨w.heap.size, 0, none⟩) 1 1) (hlen : bs.length ≤ 70368744177664) (hbase : base ≤ w.heap.size)
    (h : ∀ v' w', w'.ownsRow base e 1 v' (bs ++ [b]).length ((bs ++ [b]).map bv) → Below base w w' → wpList P ops Q rest (a.put o.dst v') w') :
    wpList P ops Q (o :: rest) a (w.alloc (.cells #[.int .u8 n] e)) := by
  obtain ⟨i0, hi, hz0, hz1, hz2⟩ := info_parts hinfo
  subst hb
  refine wpList_append_own _ hgd s x t ho base e i0 (.int .u8 0) 1 1 ht hi hz0 hz1 hz2 rfl (by decide) v _ _ hs (hown.alloc _) ⟨w.heap.size, 0, none⟩ 1 1 [bv b] hx rfl (cell_one_new _ _ _) (by intro u hu; simp at hu; subst hu; rfl) (by unfold maxLen; omega) (by omega) (by simp; omega) ?_
  intro v' w' hown' hg _
  refine h v' w' (by simpa using hown') (((Below.refl base w).alloc hbase _).grown hg (by simp; omega) (fun k hk => (hown.lt k hk).1))

/-- One byte appended within the capacity: the value stays at its row's head. -/
theorem wpList_append_byte_fits {P : Program} (w : World) {ops : Array Oper} {rest : List Oper} {o : Oper} {a : Act} {Q : Exit → Act → World → Prop} (hgd : o.guard = none) (s x : Operand) (t : TypeId)
    (ho : o.op = .call { callee := .builtin .append, args := #[s, x], argTypes := #[t, t] })
    (base : Nat) (e : TypeId) (hinfo : (P.info? e).map (fun i => (i.zero, i.size, i.bytes)) = some (some (.int .u8 0), 1, 1)) (ht : P.underlying t = some (.slice e))
    (g k cap : Nat) (bs : List UInt8) (hs : a.eval s = .slice (some ⟨g, 0, none⟩) k cap) (hown : w.ownsRow base e 1 (.slice (some ⟨g, 0, none⟩) k cap) k (bs.map bv)) (n : Int) (b : UInt8) (hb : n = (b.toNat : Int))
    (hx : a.eval x = .slice (some ⟨w.heap.size, 0, none⟩) 1 1) (hcap : k + 1 ≤ cap) (hbase : base ≤ w.heap.size)
    (h : ∀ w', w'.ownsRow base e 1 (.slice (some ⟨g, 0, none⟩) (k + 1) cap) (k + 1) ((bs ++ [b]).map bv) → Below base w w' → wpList P ops Q rest (a.put o.dst (.slice (some ⟨g, 0, none⟩) (k + 1) cap)) w') :
    wpList P ops Q (o :: rest) a (w.alloc (.cells #[.int .u8 n] e)) := by
  obtain ⟨i0, hi, hz0, hz1, hz2⟩ := info_parts hinfo
  subst hb
  refine wpList_append_fits _ hgd s x t ho base e i0 1 ht hi hz1 g k cap _ hs (hown.alloc _) ⟨w.heap.size, 0, none⟩ 1 1 [bv b] hx rfl (cell_one_new _ _ _) (by intro u hu; simp at hu; subst hu; rfl) hcap ?_
  intro w' hown' hg
  refine h w' (by simpa using hown') (((Below.refl base w).alloc hbase _).grown hg (by simp; omega) (fun k hk => (hown.lt k hk).1))

end Go.Proofs.Ytldcmfkmnjdfiaa

namespace Go.Proofs.Ytldcmfkmnjdfiaa
open Go.RowKit

theorem Try.info5 : (Try.prog.info? 5).map (fun i => (i.zero, i.size, i.bytes)) = some (some (.int .u8 0), 1, 1) := by kernel_rfl

theorem ret_str {a b : ByteArray} (h : a = b) : Ending.returned (.string a) = .returned (.string b) := by rw [h]

theorem ret_strok {a b : ByteArray} {t : Bool} (h : a = b) : Ending.returned (.tuple #[.string a, .bool t]) = .returned (.tuple #[.string b, .bool t]) := by rw [h]

set_option maxHeartbeats 400000 in
set_option maxRecDepth 100000 in
theorem l01Var_any (n : Nat) (w : World) (hn : n ≤ 1000000000000) :
    Calls Try.prog 58 #[.int .i64 n] w fun e w' => e = .returned (.string ⟨(vbs n).toArray⟩) ∧ Below w.heap.size w w' := by
  go_enter Try.func58, Try.ntmps58
  go_wp2
  go_loopw [0, 3] (fun nv v wr => ∃ (m : Nat) (bs : List UInt8), nv = .int .i64 m ∧ m ≤ n ∧ bs ++ vbs m = vbs n ∧ wr.ownsRow w.heap.size 5 1 v bs.length (bs.map bv) ∧ Below w.heap.size w wr)
    (fun nv _ _ => (intOf nv).toNat)
  case atStart => exact ⟨n, [], rfl, Nat.le_refl _, rfl, World.ownsRow_made w #[] 0 (Nat.le_refl _) (by decide) rfl, (Below.refl _ _).alloc (Nat.le_refl _) _⟩
  case round =>
    obtain ⟨m, bs, rfl, hm, hbs, hown, hnx⟩ := hrel
    have HB : Hid (bs ++ vbs m = vbs n) := hbs
    clear hbs
    have hsz := hnx.size
    have hlen : bs.length ≤ 1000000000001 := by have := congrArg List.length HB.out; have := vbs_len n; simp at *; omega
    by_cases hlt : 127 < m
    · go_wp2_with (at_builtin; (refine wpList_append_byte wr rfl (.tmp 7) (.tmp 12) 22 rfl w.heap.size 5 Try.info5 Try.underlying22 _ bs (by rfl) hown _ (UInt8.ofNat (m % 128 + 128)) ?c1 rfl (by omega) hsz ?_); rotate_right; intro v1 w1 hown1 hb1)
      case c1 => rw [u8_nat _ (by omega)]; omega
      go_roundw
      case rel => exact ⟨m / 128, bs ++ [UInt8.ofNat (m % 128 + 128)], by go_num, by omega, by rw [← HB.out, vbs_big m hlt]; simp, hown1, hnx.trans hb1⟩
      case measure => simp [intOf]; omega
    · go_wp2_with (first | (at_builtin; (refine wpList_append_byte wr rfl (.tmp 16) (.tmp 19) 22 rfl w.heap.size 5 Try.info5 Try.underlying22 _ bs (by rfl) hown _ (UInt8.ofNat m) ?c2 rfl (by omega) hsz ?_); rotate_right; intro v1 w1 hown1 hb1; have hcv := run_string_own (P := Try.prog) w1 22 9 5 Try.underlying22 Try.underlying5 Try.underlying9 _ hown1))
      case c2 => rw [u8_nat _ (by omega)]
      go_ret
      exact ⟨ret_str (by rw [← HB.out, vbs_small m hlt]), hnx.trans hb1⟩

set_option maxHeartbeats 400000 in
set_option maxRecDepth 100000 in
theorem implVar_any (n : Nat) (w : World) (hn : n ≤ 1000000000) :
    Calls Try.prog 50 #[.int .i64 n] w fun e w' => e = .returned (.tuple #[.string ⟨(vbs n).toArray⟩, .bool true]) ∧ Below w.heap.size w w' := by
  obtain ⟨i0, hi, hz0, hz1, hz2⟩ := info_parts Try.info5
  go_enter Try.func50, Try.ntmps50
  go_wp2_with (at_make; refine wpList_make_own w rfl _ _ 22 rfl w.heap.size 5 i0 (.int .u8 0) 1 Try.underlying22 hi hz0 hz1 .i64 .i64 5 5 (by rfl) (by rfl) rfl (by rw [hz2]; decide) (by decide) (Nat.le_refl _) ?_; intro w0 hown0 hg0)
  clear hi hz0 hz1 hz2 i0
  go_loopw [0, 4] (fun nv v wr => ∃ (m : Nat) (bs : List UInt8), nv = .int .i64 m ∧ m ≤ n ∧ bs ++ vbs m = vbs n ∧ wr.ownsRow w.heap.size 5 1 v bs.length (bs.map bv) ∧ Below w.heap.size w wr)
    (fun nv _ _ => (intOf nv).toNat)
  case atStart => exact ⟨n, [], rfl, Nat.le_refl _, rfl, hown0, (Below.refl _ _).grown hg0 (Nat.le_refl _) (by simp)⟩
  case round =>
    clear hown0 hg0
    obtain ⟨m, bs, rfl, hm, hbs, hown, hnx⟩ := hrel
    have HB : Hid (bs ++ vbs m = vbs n) := hbs
    clear hbs
    have hsz := hnx.size
    have hlen : bs.length ≤ 1000000000001 := by have := congrArg List.length HB.out; have := vbs_len n; simp at *; omega
    by_cases hlt : 127 < m
    · go_wp2_with (at_builtin; (refine wpList_append_byte wr rfl (.tmp 14) (.tmp 19) 22 rfl w.heap.size 5 Try.info5 Try.underlying22 _ bs (by rfl) hown _ (UInt8.ofNat (m % 128 + 128)) ?c1 rfl (by omega) hsz ?_); rotate_right; intro v1 w1 hown1 hb1)
      case c1 => rw [u8_nat _ (by omega)]; omega
      go_roundw
      case rel => exact ⟨m / 128, bs ++ [UInt8.ofNat (m % 128 + 128)], by go_num, by omega, by rw [← HB.out, vbs_big m hlt]; simp, hown1, hnx.trans hb1⟩
      case measure => simp [intOf]; omega
    · go_wp2_with (first | (at_builtin; (refine wpList_append_byte wr rfl (.tmp 23) (.tmp 26) 22 rfl w.heap.size 5 Try.info5 Try.underlying22 _ bs (by rfl) hown _ (UInt8.ofNat m) ?c2 rfl (by omega) hsz ?_); rotate_right; intro v1 w1 hown1 hb1; have hcv := run_string_own (P := Try.prog) w1 22 9 5 Try.underlying22 Try.underlying5 Try.underlying9 _ hown1))
      case c2 => rw [u8_nat _ (by omega)]
      go_ret2
      exact ⟨ret_strok (by rw [← HB.out, vbs_small m hlt]), hnx.trans hb1⟩

theorem implVar_no (n : Int) (w : World) (hn : n < 0 ∨ 1000000000 < n) :
    Calls Try.prog 50 #[.int .i64 n] w fun e w' => e = .returned (.tuple #[.string ⟨#[]⟩, .bool false]) ∧ w' = w := by
  rcases hn with hn | hn
  · go_enter Try.func50, Try.ntmps50
    go_wp2
    go_ret2
    exact ⟨rfl, rfl⟩
  · have h0 : ¬ n < 0 := by omega
    go_enter Try.func50, Try.ntmps50
    go_wp2
    go_ret2
    exact ⟨rfl, rfl⟩

theorem l01In_yes (x a b : Int) (w : World) (h1 : a ≤ x) (h2 : x ≤ b) :
    Calls Try.prog 34 #[.int .i64 x, .int .i64 a, .int .i64 b] w fun e w' => e = .returned (.bool true) ∧ w = w' := by
  go_enter Try.func34, Try.ntmps34
  go_wp2
  go_ret
  exact ⟨rfl, rfl⟩

theorem l01In_no (x a b : Int) (w : World) (h : x < a ∨ b < x) :
    Calls Try.prog 34 #[.int .i64 x, .int .i64 a, .int .i64 b] w fun e w' => e = .returned (.bool false) ∧ w = w' := by
  by_cases h1 : a ≤ x
  · have h2 : ¬ x ≤ b := by omega
    go_enter Try.func34, Try.ntmps34
    go_wp2
    go_ret
    exact ⟨rfl, rfl⟩
  · go_enter Try.func34, Try.ntmps34
    go_wp2
    go_ret
    exact ⟨rfl, rfl⟩

end Go.Proofs.Ytldcmfkmnjdfiaa

namespace Go.Proofs.Ytldcmfkmnjdfiaa
open Go.RowKit

set_option maxHeartbeats 1000000 in
set_option maxRecDepth 100000 in
theorem cloneLite_any (s : ByteArray) (w : World) (hlim : s.size ≤ 1048576) :
    Calls Try.prog 66 #[.string s] w fun e w' => e = .returned (.string s) ∧ Below w.heap.size w w' := by
  by_cases h0 : s.size = 0
  · obtain rfl : s = ⟨#[]⟩ := ByteArray.ext (Array.eq_empty_of_size_eq_zero h0)
    go_enter Try.func66, Try.ntmps66
    go_wp2
    go_ret
    exact ⟨rfl, Below.refl _ _⟩
  · obtain ⟨i0, hi, hz0, hz1, hz2⟩ := info_parts Try.info5
    have hinfo : (Try.prog.info? 5).map (·.size) = some 1 := by rw [hi]; simp [hz1]
    have hco : Try.prog.cellsOf 5 = 1 := by simp [Program.cellsOf, hi, hz1]
    obtain ⟨M, hM⟩ : ∃ M, M = madeCells (Value.int .u8 0).cells (((s.size : Nat) : Int).toNat * i0.size) := ⟨_, rfl⟩
    have hMs : M.size = s.size := by rw [hM, size_madeCells, hz1]; simp
    have hmk : ∀ W : World, (Instr.makeSlice 22 (.int .i64 (s.size : Int)) (.int .i64 (s.size : Int))).run Try.prog W = .ok (.slice (some ⟨W.heap.size, 0, none⟩) s.size s.size) (W.alloc (.cells M 5)) := fun W => by
      have h := run_make (P := Try.prog) W 22 5 i0 (.int .u8 0) Try.underlying22 hi hz0 .i64 .i64 (s.size : Int) (s.size : Int) (by omega) (by omega) (by rw [hz2]; omega) (by omega)
      rw [← hM] at h
      simpa using h
    clear hM
    have hcp := Lib.run_copy_row_string (P := Try.prog) (w.alloc (.cells M 5)) 22 9 3 5 w.heap.size 0 s.size s.size s M 5 Try.underlying22 hinfo (heap_alloc_new w _) (Nat.le_refl _) (by omega)
    obtain ⟨Y, hY⟩ : ∃ Y, Y = (M.toList.take 0 ++ Lib.byteCells s.data.toList ++ M.toList.drop (0 + s.size)).toArray := ⟨_, rfl⟩
    rw [← hY] at hcp
    have hYl : Y.toList = Lib.byteCells s.data.toList := by
      rw [hY, List.toList_toArray, List.take_zero, List.nil_append, List.drop_of_length_le (by rw [Array.length_toList]; omega), List.append_nil]
    have hYs : Y.size = s.size := by rw [← Array.length_toList, hYl, Lib.byteCells_length, ← Lib.size_eq]
    have hgY : ((w.alloc (.cells M 5)).setRow w.heap.size Y).heap[w.heap.size]? = some (.cells Y 5 (0, 0)) := setRow_heap _ _ M _ 5 (0, 0) (heap_alloc_new w _)
    have hne : s.data.toList ≠ [] := fun e => h0 (by rw [Lib.size_eq, e]; rfl)
    have hUS := Lib.run_unsafeString_row (P := Try.prog) ((w.alloc (.cells M 5)).setRow w.heap.size Y) 107 3 9 5 Try.underlying107 hco w.heap.size Y.size (by unfold World.shape?; rw [hgY]) s.data.toList hne (by rw [← Lib.size_eq]; omega) (by rw [← Lib.size_eq]; omega)
      (fun j x hx => Lib.cells_of_row hgY Y.size j _ (by rw [List.take_of_length_le (by rw [Array.length_toList]; exact Nat.le_refl _), hYl]; simp [Lib.byteCells, hx]))
    rw [← Lib.size_eq] at hUS
    clear hY
    go_enter Try.func66, Try.ntmps66
    go_wp2
    go_ret
    have hb1 : Below w.heap.size w (w.alloc (.cells M 5)) := (Below.refl _ w).alloc (Nat.le_refl _) _
    have hb2 : Below w.heap.size (w.alloc (.cells M 5)) ((w.alloc (.cells M 5)).setRow w.heap.size Y) := ⟨rfl, rfl, rfl, by simp, fun k hk => setRow_other _ _ _ _ (by omega)⟩
    exact ⟨rfl, Lib.below_freeze (hb1.trans hb2) (p := ⟨w.heap.size, 0, none⟩) (Nat.le_refl _) _⟩

theorem clone_any (s : ByteArray) (w : World) (hlim : s.size ≤ 1048576) :
    Calls Try.prog 41 #[.string s] w fun e w' => e = .returned (.string s) ∧ Below w.heap.size w w' := by
  go_enter Try.func41, Try.ntmps41
  go_wp2_with fail
  refine (cloneLite_any s _ hlim).mono ?_; rintro e w1 ⟨rfl, hb1⟩
  go_wp2
  go_ret
  exact ⟨rfl, hb1⟩
end Go.Proofs.Ytldcmfkmnjdfiaa

namespace Go.Proofs.Ytldcmfkmnjdfiaa
open Go.RowKit

/-- A stamp, and a register, as values. -/
abbrev stv (t b : Int) : Value := .agg #[.int .i64 t, .int .i64 b]
abbrev rgv (v t b : Int) : Value := .agg #[.int .i64 v, .int .i64 t, .int .i64 b]

/-- Which of two stamps is later. -/
def later (t b t' b' : Int) : Bool := if t = t' then decide (b' < b) else decide (t' < t)
def stOk (t b : Int) : Bool := decide (0 ≤ t ∧ t ≤ 100000 ∧ 0 ≤ b ∧ b ≤ 2)
def rgOk (v t b : Int) : Bool := stOk t b && decide (0 ≤ v ∧ v ≤ 1000000000)

theorem bpush {a w : World} (h : Below a.heap.size a w) (o : Obj) : Below a.heap.size a (w.alloc o) := h.alloc h.size o
theorem btr {a b c : World} (h : Below a.heap.size a b) (k : Below b.heap.size b c) : Below a.heap.size a c := h.trans (k.mono h.size)
theorem bre (a : World) : Below a.heap.size a a := Below.refl _ _
theorem bdr {a w : World} (h : Below a.heap.size a w) : Below a.heap.size a w.drew := h.drew
theorem bset {a w : World} (h : Below a.heap.size a w) {p : Addr} (hp : a.heap.size ≤ p.block) (u : Value) : Below a.heap.size a (w.setCell p u) := h.setCell hp u


theorem ret_bool {x y : Bool} (h : x = y) : Ending.returned (.bool x) = Ending.returned (.bool y) := by rw [h]

theorem laterThan_any (t b t' b' : Int) (w : World) :
    Calls Try.prog 88 #[.agg #[.int .i64 t, .int .i64 b], .agg #[.int .i64 t', .int .i64 b']] w fun e w' => e = .returned (.bool (later t b t' b')) ∧ w' = (w.alloc (.cells #[.int .i64 t, .int .i64 b] 47)).alloc (.cells #[.int .i64 t', .int .i64 b'] 47) := by
  by_cases h : t = t'
  · subst h
    go_enter Try.func88, Try.ntmps88
    go_wp2
    go_ret
    exact ⟨by simp [later], rfl⟩
  · go_enter Try.func88, Try.ntmps88
    go_wp2
    go_ret
    exact ⟨by simp [later, h], rfl⟩

theorem specLater_any (t b t' b' : Int) (w : World) :
    Calls Try.prog 81 #[.agg #[.int .i64 t, .int .i64 b], .agg #[.int .i64 t', .int .i64 b']] w fun e w' => e = .returned (.bool (later t b t' b')) ∧ w' = (w.alloc (.cells #[.int .i64 t, .int .i64 b] 47)).alloc (.cells #[.int .i64 t', .int .i64 b'] 47) := by
  by_cases h : t = t'
  · subst h
    go_enter Try.func81, Try.ntmps81
    go_wp2
    go_ret
    exact ⟨by simp [later], rfl⟩
  · go_enter Try.func81, Try.ntmps81
    go_wp2
    go_ret
    exact ⟨by simp [later, h], rfl⟩

theorem rightStamp_any (t b : Int) (w : World) :
    Calls Try.prog 87 #[.agg #[.int .i64 t, .int .i64 b]] w fun e w' => e = .returned (.bool (stOk t b)) ∧ w' = w.alloc (.cells #[.int .i64 t, .int .i64 b] 47) := by
  go_enter Try.func87, Try.ntmps87
  go_wp2
  all_goals go_ret
  all_goals (refine ⟨ret_bool ?_, rfl⟩)
  all_goals (first | (simp [stOk, *]; done) | (simp [stOk]; omega))

theorem in_any (x lo hi : Int) (w : World) :
    Calls Try.prog 34 #[.int .i64 x, .int .i64 lo, .int .i64 hi] w fun e w' => e = .returned (.bool (decide (lo ≤ x ∧ x ≤ hi))) ∧ w' = w := by
  by_cases h : lo ≤ x
  · go_enter Try.func34, Try.ntmps34
    go_wp2
    go_ret
    exact ⟨ret_bool (by simp [h]), rfl⟩
  · go_enter Try.func34, Try.ntmps34
    go_wp2
    go_ret
    exact ⟨ret_bool (by simp; omega), rfl⟩

theorem registerOf_any (v t b : Int) (w : World) :
    Calls Try.prog 78 #[.agg #[.int .i64 v, .int .i64 t, .int .i64 b]] w fun e w' => e = .returned (.agg #[.int .i64 t, .int .i64 b, .int .i64 v]) ∧ w' = (w.alloc (.cells #[.int .i64 v, .int .i64 t, .int .i64 b] 49)).alloc (.cells #[.int .i64 t, .int .i64 b, .int .i64 v] 103) := by
  go_enter Try.func78, Try.ntmps78
  go_wp2
  exact bodyPost_ret (v := .agg #[.int .i64 t, .int .i64 b, .int .i64 v]) (by simp [results, Try.results78, go_sem]) rfl ⟨rfl, rfl⟩

theorem eqStamp_any (t b t' b' : Int) (w : World) :
    Calls Try.prog 82 #[.agg #[.int .i64 t, .int .i64 b], .agg #[.int .i64 t', .int .i64 b']] w fun e w' => e = .returned (.bool (decide (t = t' ∧ b = b'))) ∧ w' = (w.alloc (.cells #[.int .i64 t, .int .i64 b] 47)).alloc (.cells #[.int .i64 t', .int .i64 b'] 47) := by
  by_cases h : t = t'
  · by_cases k : b = b'
    · subst h k
      go_enter Try.func82, Try.ntmps82
      go_wp2
      go_ret
      exact ⟨ret_bool (by simp), rfl⟩
    · subst h
      go_enter Try.func82, Try.ntmps82
      go_wp2
      go_ret
      exact ⟨ret_bool (by simp [k]), rfl⟩
  · go_enter Try.func82, Try.ntmps82
    go_wp2
    go_ret
    exact ⟨ret_bool (by simp [h]), rfl⟩

theorem right_any (v t b : Int) (w : World) :
    Calls Try.prog 79 #[.agg #[.int .i64 t, .int .i64 b, .int .i64 v]] w fun e w' => e = .returned (.bool (rgOk v t b)) ∧ w' = (w.alloc (.cells #[.int .i64 t, .int .i64 b, .int .i64 v] 103)).alloc (.cells #[.int .i64 t, .int .i64 b] 47) := by
  cases hs : stOk t b
  all_goals
    go_enter Try.func79, Try.ntmps79
    go_wp2_with (first | (go_at_call 87; refine (rightStamp_any t b _).mono ?_; rintro e w1 ⟨rfl, rfl⟩; rw [hs]) | fail)
    all_goals go_ret
    all_goals (refine ⟨ret_bool ?_, rfl⟩)
    all_goals (first | (simp [rgOk, *]; done) | (simp [rgOk, hs]; omega))

def cb (v t b v' t' b' : Int) : Bool := if t = t' ∧ b = b' then decide (v' < v) else later t b t' b'

theorem countsBefore_any (v t b v' t' b' : Int) (w : World) :
    Calls Try.prog 80 #[.agg #[.int .i64 t, .int .i64 b, .int .i64 v], .agg #[.int .i64 t', .int .i64 b', .int .i64 v']] w fun e w' => e = .returned (.bool (cb v t b v' t' b')) ∧ Below w.heap.size w w' := by
  by_cases h : t = t'
  · by_cases k : b = b'
    · subst h k
      go_enter Try.func80, Try.ntmps80
      go_wp2
      go_ret
      exact ⟨ret_bool (by simp [cb]), bpush (bpush (bre _) _) _⟩
    · subst h
      go_enter Try.func80, Try.ntmps80
      go_wp2_with (first | (go_at_call 88; refine (laterThan_any t b t b' _).mono ?_; rintro e w1 ⟨rfl, rfl⟩) | fail)
      go_ret
      exact ⟨ret_bool (by simp [cb, k]), bpush (bpush (bpush (bpush (bre _) _) _) _) _⟩
  · go_enter Try.func80, Try.ntmps80
    go_wp2_with (first | (go_at_call 88; refine (laterThan_any t b t' b' _).mono ?_; rintro e w1 ⟨rfl, rfl⟩) | fail)
    go_ret
    exact ⟨ret_bool (by simp [cb, h]), bpush (bpush (bpush (bpush (bre _) _) _) _) _⟩

theorem implRegOk_any (v t b : Int) (w : World) :
    Calls Try.prog 63 #[.agg #[.int .i64 v, .int .i64 t, .int .i64 b]] w fun e w' => e = .returned (.bool (rgOk v t b)) ∧ Below w.heap.size w w' := by
  go_enter Try.func63, Try.ntmps63
  go_wp2_with (first | (go_at_call 78; refine (registerOf_any v t b _).mono ?_; rintro e w1 ⟨rfl, rfl⟩) | (go_at_call 79; refine (right_any v t b _).mono ?_; rintro e w1 ⟨rfl, rfl⟩) | fail)
  go_ret
  exact ⟨rfl, bpush (bpush (bpush (bpush (bpush (bre _) _) _) _) _) _⟩

theorem in_letter (x lo hi : Int) : ∃ p : Bool, Hid (p = decide (lo ≤ x ∧ x ≤ hi)) ∧ Hid (∀ w, Calls Try.prog 34 #[.int .i64 x, .int .i64 lo, .int .i64 hi] w fun e w' => e = .returned (.bool p) ∧ w' = w) := ⟨_, rfl, in_any x lo hi⟩

theorem specStampOk_any (t b : Int) (w : World) :
    Calls Try.prog 77 #[.agg #[.int .i64 t, .int .i64 b]] w fun e w' => e = .returned (.bool (stOk t b)) ∧ w' = w.alloc (.cells #[.int .i64 t, .int .i64 b] 47) := by
  obtain ⟨p, hp, cp⟩ := in_letter t 0 100000
  obtain ⟨q, hq, cq⟩ := in_letter b 0 2
  have hs : Hid (stOk t b = (p && q)) := by
    show _ = _
    rw [hp.out, hq.out]; by_cases h : 0 ≤ t <;> by_cases k : t ≤ 100000 <;> simp [stOk, h, k]
  rw [hs.out]
  cases p
  · go_enter Try.func77, Try.ntmps77
    go_wp2_with fail
    refine (cp.out _).mono ?_; rintro e w1 ⟨rfl, rfl⟩
    go_wp2_with fail
    go_ret
    exact ⟨rfl, rfl⟩
  · go_enter Try.func77, Try.ntmps77
    go_wp2_with fail
    refine (cp.out _).mono ?_; rintro e w1 ⟨rfl, rfl⟩
    go_wp2_with fail
    refine (cq.out _).mono ?_; rintro e w1 ⟨rfl, rfl⟩
    go_wp2_with fail
    go_ret
    exact ⟨rfl, rfl⟩

theorem specStampOk_letter (t b : Int) : ∃ p : Bool, Hid (p = stOk t b) ∧ Hid (∀ w, Calls Try.prog 77 #[.agg #[.int .i64 t, .int .i64 b]] w fun e w' => e = .returned (.bool p) ∧ w' = w.alloc (.cells #[.int .i64 t, .int .i64 b] 47)) := ⟨_, rfl, specStampOk_any t b⟩

theorem specRegOk_any (v t b : Int) (w : World) :
    Calls Try.prog 62 #[.agg #[.int .i64 v, .int .i64 t, .int .i64 b]] w fun e w' => e = .returned (.bool (rgOk v t b)) ∧ w' = (w.alloc (.cells #[.int .i64 v, .int .i64 t, .int .i64 b] 49)).alloc (.cells #[.int .i64 t, .int .i64 b] 47) := by
  obtain ⟨p, hp, cp⟩ := specStampOk_letter t b
  obtain ⟨q, hq, cq⟩ := in_letter v 0 1000000000
  have hs : Hid (rgOk v t b = (p && q)) := by show _ = _; rw [hp.out, hq.out]; rfl
  rw [hs.out]
  cases p
  all_goals
    go_enter Try.func62, Try.ntmps62
    go_wp2_with (first | (go_at_call 77; refine (cp.out _).mono ?_; rintro e w1 ⟨rfl, rfl⟩) | (go_at_call 34; refine (cq.out _).mono ?_; rintro e w1 ⟨rfl, rfl⟩) | fail)
    go_ret
    exact ⟨rfl, rfl⟩

end Go.Proofs.Ytldcmfkmnjdfiaa

namespace Go.Proofs.Ytldcmfkmnjdfiaa
open Go.RowKit

theorem registerOf_b (v t b : Int) (w : World) :
    Calls Try.prog 78 #[.agg #[.int .i64 v, .int .i64 t, .int .i64 b]] w fun e w' => e = .returned (.agg #[.int .i64 t, .int .i64 b, .int .i64 v]) ∧ Below w.heap.size w w' :=
  (registerOf_any v t b w).mono fun _ _ h => ⟨h.1, h.2 ▸ bpush (bpush (bre _) _) _⟩

def jreg (v t b v' t' b' : Int) : Value := if cb v' t' b' v t b = true then rgv v' t' b' else rgv v t b

theorem cb_letter (v t b v' t' b' : Int) : ∃ p : Bool, Hid (p = cb v t b v' t' b') ∧ Hid (∀ w, Calls Try.prog 80 #[.agg #[.int .i64 t, .int .i64 b, .int .i64 v], .agg #[.int .i64 t', .int .i64 b', .int .i64 v']] w fun e w' => e = .returned (.bool p) ∧ Below w.heap.size w w') := ⟨_, rfl, countsBefore_any v t b v' t' b'⟩

/-- Block k holds a register; a stamp. -/
def Rg (W : World) (k ty : Nat) (v t b : Int) : Prop := W.heap[k]? = some (.cells #[.int .i64 v, .int .i64 t, .int .i64 b] ty (0, 0))
def Sg (W : World) (k ty : Nat) (t b : Int) : Prop := W.heap[k]? = some (.cells #[.int .i64 t, .int .i64 b] ty (0, 0))
theorem Rg.new (w : World) (ty : Nat) (v t b : Int) : Rg (w.alloc (.cells #[.int .i64 v, .int .i64 t, .int .i64 b] ty)) w.heap.size ty v t b := heap_alloc_new w _
theorem Rg.newd (w : World) (ty : Nat) (v t b : Int) : Rg (w.alloc (.cells #[.int .i64 v, .int .i64 t, .int .i64 b] ty)).drew w.heap.size ty v t b := heap_alloc_new w _
theorem Sg.new (w : World) (ty : Nat) (t b : Int) : Sg (w.alloc (.cells #[.int .i64 t, .int .i64 b] ty)) w.heap.size ty t b := heap_alloc_new w _
theorem Rg.later {W W' : World} {k ty : Nat} {v t b : Int} (h : Rg W k ty v t b) (hb : Below W.heap.size W W') : Rg W' k ty v t b := (hb.block k (Array.getElem?_eq_some_iff.1 h).1).trans h
theorem Sg.later {W W' : World} {k ty : Nat} {t b : Int} (h : Sg W k ty t b) (hb : Below W.heap.size W W') : Sg W' k ty t b := (hb.block k (Array.getElem?_eq_some_iff.1 h).1).trans h
theorem Rg.lt {W : World} {k ty : Nat} {v t b : Int} (h : Rg W k ty v t b) : k < W.heap.size := (Array.getElem?_eq_some_iff.1 h).1
theorem Sg.lt {W : World} {k ty : Nat} {t b : Int} (h : Sg W k ty t b) : k < W.heap.size := (Array.getElem?_eq_some_iff.1 h).1
theorem Rg.cells {W : World} {k ty : Nat} {v t b : Int} (h : Rg W k ty v t b) : W.cell? ⟨k, 0, none⟩ = some (.int .i64 v) ∧ W.cell? ⟨k, 1, none⟩ = some (.int .i64 t) ∧ W.cell? ⟨k, 2, none⟩ = some (.int .i64 b) :=
  ⟨cell_of_row W k 0 _ _ _ h, cell_of_row W k 1 _ _ _ h, cell_of_row W k 2 _ _ _ h⟩
theorem Sg.cells {W : World} {k ty : Nat} {t b : Int} (h : Sg W k ty t b) : W.cell? ⟨k, 0, none⟩ = some (.int .i64 t) ∧ W.cell? ⟨k, 1, none⟩ = some (.int .i64 b) :=
  ⟨cell_of_row W k 0 _ _ _ h, cell_of_row W k 1 _ _ _ h⟩
theorem Rg.loose {W : World} {k ty : Nat} {v t b : Int} (h : Rg W k ty v t b) : W.frozen? ⟨k, 0, none⟩ = false ∧ W.frozen? ⟨k, 1, none⟩ = false ∧ W.frozen? ⟨k, 2, none⟩ = false :=
  ⟨frozen_of_row W k 0 _ _ h, frozen_of_row W k 1 _ _ h, frozen_of_row W k 2 _ _ h⟩

/-- A register is stored whole. -/
def set3 (W : World) (k : Nat) (v t b : Int) : World := ((W.setCell ⟨k, 0, none⟩ (.int .i64 v)).setCell ⟨k, 1, none⟩ (.int .i64 t)).setCell ⟨k, 2, none⟩ (.int .i64 b)
def set2 (W : World) (k : Nat) (t b : Int) : World := (W.setCell ⟨k, 0, none⟩ (.int .i64 t)).setCell ⟨k, 1, none⟩ (.int .i64 b)
theorem Rg.set {W : World} {k ty : Nat} {v t b v' t' b' : Int} (h : Rg W k ty v t b) : Rg (set3 W k v' t' b') k ty v' t' b' := by
  have h1 := heap_setCell_same W k 0 _ _ (.int .i64 v') h
  have h2 := heap_setCell_same _ k 1 _ _ (.int .i64 t') h1
  have h3 := heap_setCell_same _ k 2 _ _ (.int .i64 b') h2
  exact h3
theorem Rg.set' {W : World} {k ty : Nat} {v t b v' t' b' : Int} (h : Rg W k ty v t b) : Rg (((W.setCell ⟨k, 0, none⟩ (.int .i64 v')).setCell ⟨k, 1, none⟩ (.int .i64 t')).setCell ⟨k, 2, none⟩ (.int .i64 b')) k ty v' t' b' := h.set
theorem Sg.set' {W : World} {k ty : Nat} {t b t' b' : Int} (h : Sg W k ty t b) : Sg ((W.setCell ⟨k, 0, none⟩ (.int .i64 t')).setCell ⟨k, 1, none⟩ (.int .i64 b')) k ty t' b' := by
  have h1 := heap_setCell_same W k 0 _ _ (.int .i64 t') h
  have h2 := heap_setCell_same _ k 1 _ _ (.int .i64 b') h1
  exact h2
theorem Sg.set {W : World} {k ty : Nat} {t b t' b' : Int} (h : Sg W k ty t b) : Sg (set2 W k t' b') k ty t' b' := by
  have h1 := heap_setCell_same W k 0 _ _ (.int .i64 t') h
  have h2 := heap_setCell_same _ k 1 _ _ (.int .i64 b') h1
  exact h2
theorem bset' {a w u : World} (h : Below a.heap.size a w) (hu : Below a.heap.size a u) (i : Nat) (x : Value) : Below a.heap.size a (w.setCell ⟨u.heap.size, i, none⟩ x) := bset h hu.size x
theorem bset3 {a w : World} (h : Below a.heap.size a w) {k : Nat} (hk : a.heap.size ≤ k) (v t b : Int) : Below a.heap.size a (set3 w k v t b) := bset (bset (bset h hk _) hk _) hk _
theorem bset2 {a w : World} (h : Below a.heap.size a w) {k : Nat} (hk : a.heap.size ≤ k) (t b : Int) : Below a.heap.size a (set2 w k t b) := bset (bset h hk _) hk _

theorem joinReg_any (v t b v' t' b' : Int) (w : World) :
    Calls Try.prog 65 #[.agg #[.int .i64 v, .int .i64 t, .int .i64 b], .agg #[.int .i64 v', .int .i64 t', .int .i64 b']] w fun e w' => e = .returned (jreg v t b v' t' b') ∧ Below w.heap.size w w' := by
  obtain ⟨p, hp, cp⟩ := cb_letter v' t' b' v t b
  have hs : Hid (jreg v t b v' t' b' = if p = true then rgv v' t' b' else rgv v t b) := by show _ = _; rw [hp.out]; rfl
  rw [hs.out]
  obtain ⟨W0, hW0⟩ : ∃ W0, ((w.alloc (.cells #[.int .i64 v, .int .i64 t, .int .i64 b] 49)).alloc (.cells #[.int .i64 v', .int .i64 t', .int .i64 b'] 49)).alloc (.cells #[.int .i64 0, .int .i64 0, .int .i64 0] 49) = W0 := ⟨_, rfl⟩
  have A0 : Hid (Rg W0 w.heap.size 49 v t b) := by subst hW0; exact (Rg.new w 49 v t b).later (bpush (bpush (bre _) _) _)
  have A1 : Hid (Rg W0 (w.heap.size + 1) 49 v' t' b') := by subst hW0; exact Rg.later (by simpa using Rg.new (w.alloc (.cells #[.int .i64 v, .int .i64 t, .int .i64 b] 49)) 49 v' t' b') (bpush (bre _) _)
  have A2 : Hid (Rg W0 (w.heap.size + 1 + 1) 49 0 0 0) := by subst hW0; show Rg _ _ _ _ _ _; simpa using Rg.new ((w.alloc (.cells #[.int .i64 v, .int .i64 t, .int .i64 b] 49)).alloc (.cells #[.int .i64 v', .int .i64 t', .int .i64 b'] 49)) 49 0 0 0
  have B0 : Hid (Below w.heap.size w W0) := by subst hW0; exact bpush (bpush (bpush (bre _) _) _) _
  go_enter Try.func65, Try.ntmps65
  go_wp2_with fail
  clear hW0
  have HS : Hid (∀ W, Below W0.heap.size W0 W → (W.cell? ⟨w.heap.size, 0, none⟩ = some (.int .i64 v) ∧ W.cell? ⟨w.heap.size, 1, none⟩ = some (.int .i64 t) ∧ W.cell? ⟨w.heap.size, 2, none⟩ = some (.int .i64 b)) ∧ (W.cell? ⟨w.heap.size + 1, 0, none⟩ = some (.int .i64 v') ∧ W.cell? ⟨w.heap.size + 1, 1, none⟩ = some (.int .i64 t') ∧ W.cell? ⟨w.heap.size + 1, 2, none⟩ = some (.int .i64 b'))) :=
    fun W h => ⟨(A0.out.later h).cells, (A1.out.later h).cells⟩
  go_region_held3 (fun W => (W.cell? ⟨w.heap.size, 0, none⟩ = some (.int .i64 v) ∧ W.cell? ⟨w.heap.size, 1, none⟩ = some (.int .i64 t) ∧ W.cell? ⟨w.heap.size, 2, none⟩ = some (.int .i64 b)) ∧ (W.cell? ⟨w.heap.size + 1, 0, none⟩ = some (.int .i64 v') ∧ W.cell? ⟨w.heap.size + 1, 1, none⟩ = some (.int .i64 t') ∧ W.cell? ⟨w.heap.size + 1, 2, none⟩ = some (.int .i64 b')))
    ((refine HS.out _ ?_; repeat (first | exact bdr (bre _) | refine btr ?_ (by assumption))))
    ((first
      | (go_at_call 80; refine (cp.out _).mono ?_; rintro e w1 ⟨rfl, hb1⟩)
      | (go_at_call 78; refine (registerOf_b _ _ _ _).mono ?_; rintro e w1 ⟨rfl, hb1⟩)))
  have B1 : Hid (Below W0.heap.size W0 w1) := by show Below _ _ _; repeat (first | exact bdr (bre _) | refine btr ?_ (by assumption))
  have d2 := (A2.out.later B1.out).cells
  have f2 := (A2.out.later B1.out).loose
  cases p
  · go_wp2
    have c3 := (A2.out.later B1.out).set (v' := v) (t' := t) (b' := b) |>.cells
    exact bodyPost_ret (v := rgv v t b) (by simp only [set3] at c3; simp [results, Try.results65, go_sem, c3]) rfl ⟨rfl, bset3 (btr B0.out B1.out) (by omega) v t b⟩
  · go_wp2
    have c3 := (A2.out.later B1.out).set (v' := v') (t' := t') (b' := b') |>.cells
    exact bodyPost_ret (v := rgv v' t' b') (by simp only [set3] at c3; simp [results, Try.results65, go_sem, c3]) rfl ⟨rfl, bset3 (btr B0.out B1.out) (by omega) v' t' b'⟩
end Go.Proofs.Ytldcmfkmnjdfiaa

namespace Go.Proofs.Ytldcmfkmnjdfiaa
open Go.RowKit

def preg (v t b n t' b' : Int) : Value := if (rgOk n t' b' && later t' b' t b) = true then rgv n t' b' else rgv v t b

theorem right_letter (v t b : Int) : ∃ p : Bool, Hid (p = rgOk v t b) ∧ Hid (∀ w, Calls Try.prog 79 #[.agg #[.int .i64 t, .int .i64 b, .int .i64 v]] w fun e w' => e = .returned (.bool p) ∧ w' = (w.alloc (.cells #[.int .i64 t, .int .i64 b, .int .i64 v] 103)).alloc (.cells #[.int .i64 t, .int .i64 b] 47)) := ⟨_, rfl, right_any v t b⟩
theorem laterThan_letter (t b t' b' : Int) : ∃ p : Bool, Hid (p = later t b t' b') ∧ Hid (∀ w, Calls Try.prog 88 #[.agg #[.int .i64 t, .int .i64 b], .agg #[.int .i64 t', .int .i64 b']] w fun e w' => e = .returned (.bool p) ∧ w' = (w.alloc (.cells #[.int .i64 t, .int .i64 b] 47)).alloc (.cells #[.int .i64 t', .int .i64 b'] 47)) := ⟨_, rfl, laterThan_any t b t' b'⟩
theorem specLater_letter (t b t' b' : Int) : ∃ p : Bool, Hid (p = later t b t' b') ∧ Hid (∀ w, Calls Try.prog 81 #[.agg #[.int .i64 t, .int .i64 b], .agg #[.int .i64 t', .int .i64 b']] w fun e w' => e = .returned (.bool p) ∧ w' = (w.alloc (.cells #[.int .i64 t, .int .i64 b] 47)).alloc (.cells #[.int .i64 t', .int .i64 b'] 47)) := ⟨_, rfl, specLater_any t b t' b'⟩
theorem specRegOk_letter (v t b : Int) : ∃ p : Bool, Hid (p = rgOk v t b) ∧ Hid (∀ w, Calls Try.prog 62 #[.agg #[.int .i64 v, .int .i64 t, .int .i64 b]] w fun e w' => e = .returned (.bool p) ∧ w' = (w.alloc (.cells #[.int .i64 v, .int .i64 t, .int .i64 b] 49)).alloc (.cells #[.int .i64 t, .int .i64 b] 47)) := ⟨_, rfl, specRegOk_any v t b⟩
theorem eqStamp_letter (t b t' b' : Int) : ∃ p : Bool, Hid (p = decide (t = t' ∧ b = b')) ∧ Hid (∀ w, Calls Try.prog 82 #[.agg #[.int .i64 t, .int .i64 b], .agg #[.int .i64 t', .int .i64 b']] w fun e w' => e = .returned (.bool p) ∧ w' = (w.alloc (.cells #[.int .i64 t, .int .i64 b] 47)).alloc (.cells #[.int .i64 t', .int .i64 b'] 47)) := ⟨_, rfl, eqStamp_any t b t' b'⟩

theorem eqReg_same (v t b : Int) (w : World) :
    Calls Try.prog 69 #[.agg #[.int .i64 v, .int .i64 t, .int .i64 b], .agg #[.int .i64 v, .int .i64 t, .int .i64 b]] w fun e w' => e = .returned (.bool true) ∧ Below w.heap.size w w' := by
  obtain ⟨p, hp, cp⟩ := eqStamp_letter t b t b
  have hp1 : p = true := by rw [hp.out]; simp
  subst hp1
  go_enter Try.func69, Try.ntmps69
  go_wp2_with fail
  refine (cp.out _).mono ?_; rintro e w1 ⟨rfl, rfl⟩
  go_wp2_with fail
  go_ret
  exact ⟨rfl, by repeat (first | exact bre _ | refine bpush ?_ _)⟩
end Go.Proofs.Ytldcmfkmnjdfiaa

namespace Go.Proofs.Ytldcmfkmnjdfiaa
open Go.RowKit

theorem regOk_b (v t b : Int) : ∃ p : Bool, Hid (∀ w, Calls Try.prog 62 #[.agg #[.int .i64 v, .int .i64 t, .int .i64 b]] w fun e w' => e = .returned (.bool p) ∧ Below w.heap.size w w') ∧ Hid (∀ w, Calls Try.prog 63 #[.agg #[.int .i64 v, .int .i64 t, .int .i64 b]] w fun e w' => e = .returned (.bool p) ∧ Below w.heap.size w w') :=
  ⟨rgOk v t b, fun w => (specRegOk_any v t b w).mono fun _ _ h => ⟨h.1, h.2 ▸ bpush (bpush (bre _) _) _⟩, implRegOk_any v t b⟩
theorem preg_or (v t b n t' b' : Int) : ∃ v1 t1 b1, preg v t b n t' b' = rgv v1 t1 b1 := by
  unfold preg; split
  · exact ⟨_, _, _, rfl⟩
  · exact ⟨_, _, _, rfl⟩
end Go.Proofs.Ytldcmfkmnjdfiaa

namespace Go.Proofs.Ytldcmfkmnjdfiaa
open Go.RowKit

theorem later_iff {t b t' b' : Int} : later t b t' b' = true ↔ (t' < t ∨ (t = t' ∧ b' < b)) := by
  unfold later; split <;> simp <;> omega
theorem cb_iff {v t b v' t' b' : Int} : cb v t b v' t' b' = true ↔ ((t = t' ∧ b = b' ∧ v' < v) ∨ t' < t ∨ (t = t' ∧ b' < b)) := by
  unfold cb; split
  · simp; omega
  · rw [later_iff]; omega
theorem jreg_first {v t b v' t' b' : Int} (h : later t b t' b' = true ∨ (t = t' ∧ b = b' ∧ v' ≤ v)) : jreg v t b v' t' b' = rgv v t b := by
  have : ¬ cb v' t' b' v t b = true := by rw [cb_iff]; rw [later_iff] at h; omega
  unfold jreg; rw [if_neg this]
theorem jreg_second {v t b v' t' b' : Int} (h : later t b t' b' = false) (k : ¬ (t = t' ∧ b = b' ∧ v' ≤ v)) : jreg v t b v' t' b' = rgv v' t' b' := by
  have h' : ¬ later t b t' b' = true := by simp [h]
  have : cb v' t' b' v t b = true := by rw [cb_iff]; rw [later_iff] at h'; omega
  unfold jreg; rw [if_pos this]

theorem specJoin_any (v t b v' t' b' : Int) (w : World) :
    Calls Try.prog 68 #[.agg #[.int .i64 v, .int .i64 t, .int .i64 b], .agg #[.int .i64 v', .int .i64 t', .int .i64 b']] w fun e w' => e = .returned (jreg v t b v' t' b') ∧ Below w.heap.size w w' := by
  obtain ⟨q, hq, cq⟩ := specLater_letter t b t' b'
  cases q
  · by_cases k : t = t' ∧ b = b'
    · obtain ⟨rfl, rfl⟩ := k
      by_cases kv : v' ≤ v
      · rw [jreg_first (Or.inr ⟨rfl, rfl, kv⟩)]
        go_enter Try.func68, Try.ntmps68
        go_wp2_with fail
        refine (cq.out _).mono ?_; rintro e w1 ⟨rfl, rfl⟩
        go_wp2_with fail
        exact bodyPost_ret (v := rgv v t b) (by simp [results, Try.results68, go_sem]) rfl ⟨rfl, by repeat (first | exact bre _ | refine bpush ?_ _)⟩
      · rw [jreg_second hq.out.symm (by omega)]
        go_enter Try.func68, Try.ntmps68
        go_wp2_with fail
        refine (cq.out _).mono ?_; rintro e w1 ⟨rfl, rfl⟩
        go_wp2_with fail
        exact bodyPost_ret (v := rgv v' t b) (by simp [results, Try.results68, go_sem]) rfl ⟨rfl, by repeat (first | exact bre _ | refine bpush ?_ _)⟩
    · rw [jreg_second hq.out.symm (by omega)]
      go_enter Try.func68, Try.ntmps68
      go_wp2_with fail
      refine (cq.out _).mono ?_; rintro e w1 ⟨rfl, rfl⟩
      go_wp2_with fail
      all_goals exact bodyPost_ret (v := rgv v' t' b') (by simp [results, Try.results68, go_sem]) rfl ⟨rfl, by repeat (first | exact bre _ | refine bpush ?_ _)⟩
  · rw [jreg_first (Or.inl hq.out.symm)]
    go_enter Try.func68, Try.ntmps68
    go_wp2_with fail
    refine (cq.out _).mono ?_; rintro e w1 ⟨rfl, rfl⟩
    go_wp2_with fail
    exact bodyPost_ret (v := rgv v t b) (by simp [results, Try.results68, go_sem]) rfl ⟨rfl, by repeat (first | exact bre _ | refine bpush ?_ _)⟩

theorem jreg_or (v t b v' t' b' : Int) : ∃ v1 t1 b1, jreg v t b v' t' b' = rgv v1 t1 b1 := by
  unfold jreg; split
  · exact ⟨_, _, _, rfl⟩
  · exact ⟨_, _, _, rfl⟩
theorem join_b (v t b v' t' b' : Int) : ∃ v1 t1 b1 : Int, Hid (∀ w, Calls Try.prog 68 #[.agg #[.int .i64 v, .int .i64 t, .int .i64 b], .agg #[.int .i64 v', .int .i64 t', .int .i64 b']] w fun e w' => e = .returned (.agg #[.int .i64 v1, .int .i64 t1, .int .i64 b1]) ∧ Below w.heap.size w w') ∧ Hid (∀ w, Calls Try.prog 65 #[.agg #[.int .i64 v, .int .i64 t, .int .i64 b], .agg #[.int .i64 v', .int .i64 t', .int .i64 b']] w fun e w' => e = .returned (.agg #[.int .i64 v1, .int .i64 t1, .int .i64 b1]) ∧ Below w.heap.size w w') := by
  obtain ⟨v1, t1, b1, h⟩ := jreg_or v t b v' t' b'
  exact ⟨v1, t1, b1, fun w => (specJoin_any v t b v' t' b' w).mono fun _ _ k => ⟨by rw [k.1, h], k.2⟩, fun w => (joinReg_any v t b v' t' b' w).mono fun _ _ k => ⟨by rw [k.1, h], k.2⟩⟩

end Go.Proofs.Ytldcmfkmnjdfiaa

