/- Ma, Tkk, Read, ReadA, ReadB, Short, RShort. -/
import Derived.Test.YtnbobidpmiieiaaDoorProg
import Derived.WalkKit
import Derived.Laws.IdiomStrings
import Derived.WalkSpells
import Derived.WalkLawsBesides
import Derived.Lib.Strings
import Derived.Lib.BufferWrite
import Derived.Lib.UnsafeStr
import Derived.Laws.MakeOwn
import Derived.Below
import Derived.BigQuiet
import Derived.Deep.QuietTactic
import Derived.Deep.RegionHeld3
import Derived.Deep.Cut
import Derived.Deep.RegionWith
import Derived.Laws.Bits128
import Derived.Laws.ShiftsVarLaws
import Derived.Lib.BufferMore
import Derived.Lib.ConvBytes
import Derived.Lib.LaidTab
import Derived.Defers
import Derived.Recover
import Derived.Lib.ItoaNum
namespace Go.Proofs.YtnbobidpmiieiaaDoor
open Go.RowKit
theorem hide {p : Prop} (h : p) : Hid p := h
theorem unhide {p : Prop} (h : Hid p) : p := h
theorem ret_int {k : IntKind} {a b : Int} (h : a = b) : Ending.returned (.int k a) = .returned (.int k b) := by rw [h]
/-- A byte as a value. -/
def bv (b : UInt8) : Value := .int .u8 (b.toNat : Int)
/-- The bytes of a number, seven bits each, the lowest first; at most f + 1 of them. -/
def vbsF : Nat → Nat → List UInt8
  | 0, n => [UInt8.ofNat n]
  | f + 1, n => if 127 < n then UInt8.ofNat (n % 128 + 128) :: vbsF f (n / 128) else [UInt8.ofNat n]
theorem vbsF_any : ∀ (f g n : Nat), n ≤ f → n ≤ g → vbsF f n = vbsF g n
  | 0, 0, _, _, _ => rfl
  | 0, g + 1, n, h, _ => by simp only [vbsF]; rw [if_neg (by omega)]
  | f + 1, 0, n, _, h => by simp only [vbsF]; rw [if_neg (by omega)]
  | f + 1, g + 1, n, h1, h2 => by
    simp only [vbsF]
    by_cases h : 127 < n
    · rw [if_pos h, if_pos h, vbsF_any f g (n / 128) (by omega) (by omega)]
    · rw [if_neg h, if_neg h]
/-- The bytes of a number, seven bits each, the lowest first. -/
def vbs (n : Nat) : List UInt8 := vbsF n n
theorem vbs_big (n : Nat) (h : 127 < n) : vbs n = UInt8.ofNat (n % 128 + 128) :: vbs (n / 128) := by
  unfold vbs
  obtain ⟨k, rfl⟩ : ∃ k, n = k + 1 := ⟨n - 1, by omega⟩
  rw [vbsF, if_pos h, vbsF_any k ((k + 1) / 128) ((k + 1) / 128) (by omega) (Nat.le_refl _)]
theorem vbs_small (n : Nat) (h : ¬ 127 < n) : vbs n = [UInt8.ofNat n] := by
  unfold vbs
  cases n with
  | zero => rfl
  | succ k => rw [vbsF, if_neg h]
theorem vbs_len (n : Nat) : (vbs n).length ≤ n + 1 := by
  induction n using Nat.strongRecOn with
  | _ n ih =>
    by_cases h : 127 < n
    · rw [vbs_big n h]; have := ih (n / 128) (by omega); simp; omega
    · rw [vbs_small n h]; simp
/-- What a row of bytes that the call owns reads as. -/
theorem run_string_own {P : Program} (w : World) (src dst e : TypeId) (hs : P.underlying src = some (.slice e)) (he : P.underlying e = some (.int .u8)) (hd : P.underlying dst = some .string)
    {base n : Nat} {v : Value} (bs : List UInt8) (h : w.ownsRow base e 1 v n (bs.map bv)) :
    (convert src dst v).run P w = .ok (.string ⟨bs.toArray⟩) w := by
  have hl : bs.length = n := by simpa using h.1
  rcases h.2 with ⟨rfl, hn⟩ | ⟨g, cap, cur, rfl, _, hg, _, _, _, _⟩
  · have : bs = [] := List.eq_nil_of_length_eq_zero (by omega)
    subst this
    rw [run_convert_bytes_string w src dst e none 0 0 hs he hd]; rfl
  · subst hl
    refine run_convert_bytes_back w src dst e ⟨g, 0, none⟩ cap bs hs he hd (fun j hj => ?_)
    have := h.cells (g := g) rfl j (bv bs[j]) (by simp [hj])
    simpa [bv] using this
theorem u8_nat (k : Nat) (h : k < 256) : ((UInt8.ofNat k).toNat : Int) = (k : Int) := by
  simp [UInt8.toNat_ofNat']; omega
/-- One byte appended to a row of bytes that the call owns: the byte lies in a block of its own, laid just ahead. -/
theorem wpList_append_byte {P : Program} (w : World) {ops : Array Oper} {rest : List Oper} {o : Oper} {a : Act} {Q : Exit → Act → World → Prop} (hgd : o.guard = none) (s x : Operand) (t : TypeId)
    (ho : o.op = .call { callee := .builtin .append, args := #[s, x], argTypes := #[t, t] })
    (base : Nat) (e : TypeId) (hinfo : (P.info? e).map (fun i => (i.zero, i.size, i.bytes)) = some (some (.int .u8 0), 1, 1)) (ht : P.underlying t = some (.slice e))
    (v : Value) (bs : List UInt8) (hs : a.eval s = v) (hown : w.ownsRow base e 1 v bs.length (bs.map bv)) (n : Int) (b : UInt8) (hb : n = (b.toNat : Int))
    (hx : a.eval x = .slice (some ⟨w.heap.size, 0, none⟩) 1 1) (hlen : bs.length ≤ 70368744177664) (hbase : base ≤ w.heap.size)
    (h : ∀ v' w', w'.ownsRow base e 1 v' (bs ++ [b]).length ((bs ++ [b]).map bv) → Below base w w' → wpList P ops Q rest (a.put o.dst v') w') :
    wpList P ops Q (o :: rest) a (w.alloc (.cells #[.int .u8 n] e)) := by
  obtain ⟨i0, hi, hz0, hz1, hz2⟩ := info_parts hinfo
  subst hb
  refine wpList_append_own _ hgd s x t ho base e i0 (.int .u8 0) 1 1 ht hi hz0 hz1 hz2 rfl (by decide) v _ _ hs (hown.alloc _) ⟨w.heap.size, 0, none⟩ 1 1 [bv b] hx rfl (cell_one_new _ _ _) (by intro u hu; simp at hu; subst hu; rfl) (by unfold maxLen; omega) (by omega) (by simp; omega) ?_
  intro v' w' hown' hg _
  refine h v' w' (by simpa using hown') (((Below.refl base w).alloc hbase _).grown hg (by simp; omega) (fun k hk => (hown.lt k hk).1))
end Go.Proofs.YtnbobidpmiieiaaDoor
namespace Go.Proofs.YtnbobidpmiieiaaDoor
open Go.RowKit
theorem Tryd.info5 : (Tryd.prog.info? 5).map (fun i => (i.zero, i.size, i.bytes)) = some (some (.int .u8 0), 1, 1) := by kernel_rfl
theorem ret_str {a b : ByteArray} (h : a = b) : Ending.returned (.string a) = .returned (.string b) := by rw [h]
theorem ret_strok {a b : ByteArray} {t : Bool} (h : a = b) : Ending.returned (.tuple #[.string a, .bool t]) = .returned (.tuple #[.string b, .bool t]) := by rw [h]
set_option maxHeartbeats 400000 in
set_option maxRecDepth 100000 in
theorem l01Var_any (n : Nat) (w : World) (hn : n ≤ 1000000000000) :
    Calls Tryd.prog 28 #[.int .i64 n] w fun e w' => e = .returned (.string ⟨(vbs n).toArray⟩) ∧ Below w.heap.size w w' := by
  go_enter Tryd.func28, Tryd.ntmps28
  go_wp2
  go_loopw [0, 3] (fun nv v wr => ∃ (m : Nat) (bs : List UInt8), nv = .int .i64 m ∧ m ≤ n ∧ bs ++ vbs m = vbs n ∧ wr.ownsRow w.heap.size 5 1 v bs.length (bs.map bv) ∧ Below w.heap.size w wr)
    (fun nv _ _ => (intOf nv).toNat)
  case atStart => exact ⟨n, [], rfl, Nat.le_refl _, rfl, World.ownsRow_made w #[] 0 (Nat.le_refl _) (by decide) rfl, (Below.refl _ _).alloc (Nat.le_refl _) _⟩
  case round =>
    obtain ⟨m, bs, rfl, hm, hbs, hown, hnx⟩ := hrel
    have HB : Hid (bs ++ vbs m = vbs n) := hbs
    clear hbs
    have hsz := hnx.size
    have hlen : bs.length ≤ 1000000000001 := by have := congrArg List.length HB.out; have := vbs_len n; simp at *; omega
    by_cases hlt : 127 < m
    · go_wp2_with (at_builtin; (refine wpList_append_byte wr rfl (.tmp 7) (.tmp 12) 22 rfl w.heap.size 5 Tryd.info5 Tryd.underlying22 _ bs (by rfl) hown _ (UInt8.ofNat (m % 128 + 128)) ?c1 rfl (by omega) hsz ?_); rotate_right; intro v1 w1 hown1 hb1)
      case c1 => rw [u8_nat _ (by omega)]; omega
      go_roundw
      case rel => exact ⟨m / 128, bs ++ [UInt8.ofNat (m % 128 + 128)], by go_num, by omega, by rw [← HB.out, vbs_big m hlt]; simp, hown1, hnx.trans hb1⟩
      case measure => simp [intOf]; omega
    · go_wp2_with (first | (at_builtin; (refine wpList_append_byte wr rfl (.tmp 16) (.tmp 19) 22 rfl w.heap.size 5 Tryd.info5 Tryd.underlying22 _ bs (by rfl) hown _ (UInt8.ofNat m) ?c2 rfl (by omega) hsz ?_); rotate_right; intro v1 w1 hown1 hb1; have hcv := run_string_own (P := Tryd.prog) w1 22 9 5 Tryd.underlying22 Tryd.underlying5 Tryd.underlying9 _ hown1))
      case c2 => rw [u8_nat _ (by omega)]
      go_ret
      exact ⟨ret_str (by rw [← HB.out, vbs_small m hlt]), hnx.trans hb1⟩
set_option maxHeartbeats 400000 in
set_option maxRecDepth 100000 in
theorem implVar_any (n : Nat) (w : World) (hn : n ≤ 1000000000) :
    Calls Tryd.prog 46 #[.int .i64 n] w fun e w' => e = .returned (.tuple #[.string ⟨(vbs n).toArray⟩, .bool true]) ∧ Below w.heap.size w w' := by
  obtain ⟨i0, hi, hz0, hz1, hz2⟩ := info_parts Tryd.info5
  go_enter Tryd.func46, Tryd.ntmps46
  go_wp2_with (at_make; refine wpList_make_own w rfl _ _ 22 rfl w.heap.size 5 i0 (.int .u8 0) 1 Tryd.underlying22 hi hz0 hz1 .i64 .i64 5 5 (by rfl) (by rfl) rfl (by rw [hz2]; decide) (by decide) (Nat.le_refl _) ?_; intro w0 hown0 hg0)
  clear hi hz0 hz1 hz2 i0
  go_loopw [0, 4] (fun nv v wr => ∃ (m : Nat) (bs : List UInt8), nv = .int .i64 m ∧ m ≤ n ∧ bs ++ vbs m = vbs n ∧ wr.ownsRow w.heap.size 5 1 v bs.length (bs.map bv) ∧ Below w.heap.size w wr)
    (fun nv _ _ => (intOf nv).toNat)
  case atStart => exact ⟨n, [], rfl, Nat.le_refl _, rfl, hown0, (Below.refl _ _).grown hg0 (Nat.le_refl _) (by simp)⟩
  case round =>
    clear hown0 hg0
    obtain ⟨m, bs, rfl, hm, hbs, hown, hnx⟩ := hrel
    have HB : Hid (bs ++ vbs m = vbs n) := hbs
    clear hbs
    have hsz := hnx.size
    have hlen : bs.length ≤ 1000000000001 := by have := congrArg List.length HB.out; have := vbs_len n; simp at *; omega
    by_cases hlt : 127 < m
    · go_wp2_with (at_builtin; (refine wpList_append_byte wr rfl (.tmp 14) (.tmp 19) 22 rfl w.heap.size 5 Tryd.info5 Tryd.underlying22 _ bs (by rfl) hown _ (UInt8.ofNat (m % 128 + 128)) ?c1 rfl (by omega) hsz ?_); rotate_right; intro v1 w1 hown1 hb1)
      case c1 => rw [u8_nat _ (by omega)]; omega
      go_roundw
      case rel => exact ⟨m / 128, bs ++ [UInt8.ofNat (m % 128 + 128)], by go_num, by omega, by rw [← HB.out, vbs_big m hlt]; simp, hown1, hnx.trans hb1⟩
      case measure => simp [intOf]; omega
    · go_wp2_with (first | (at_builtin; (refine wpList_append_byte wr rfl (.tmp 23) (.tmp 26) 22 rfl w.heap.size 5 Tryd.info5 Tryd.underlying22 _ bs (by rfl) hown _ (UInt8.ofNat m) ?c2 rfl (by omega) hsz ?_); rotate_right; intro v1 w1 hown1 hb1; have hcv := run_string_own (P := Tryd.prog) w1 22 9 5 Tryd.underlying22 Tryd.underlying5 Tryd.underlying9 _ hown1))
      case c2 => rw [u8_nat _ (by omega)]
      go_ret2
      exact ⟨ret_strok (by rw [← HB.out, vbs_small m hlt]), hnx.trans hb1⟩
theorem l01In_yes (x a b : Int) (w : World) (h1 : a ≤ x) (h2 : x ≤ b) :
    Calls Tryd.prog 26 #[.int .i64 x, .int .i64 a, .int .i64 b] w fun e w' => e = .returned (.bool true) ∧ w = w' := by
  go_enter Tryd.func26, Tryd.ntmps26
  go_wp2
  go_ret
  exact ⟨rfl, rfl⟩
theorem l01In_no (x a b : Int) (w : World) (h : x < a ∨ b < x) :
    Calls Tryd.prog 26 #[.int .i64 x, .int .i64 a, .int .i64 b] w fun e w' => e = .returned (.bool false) ∧ w = w' := by
  by_cases h1 : a ≤ x
  · have h2 : ¬ x ≤ b := by omega
    go_enter Tryd.func26, Tryd.ntmps26
    go_wp2
    go_ret
    exact ⟨rfl, rfl⟩
  · go_enter Tryd.func26, Tryd.ntmps26
    go_wp2
    go_ret
    exact ⟨rfl, rfl⟩
end Go.Proofs.YtnbobidpmiieiaaDoor
namespace Go.Proofs.YtnbobidpmiieiaaDoor
open Go.RowKit
set_option maxHeartbeats 1000000 in
set_option maxRecDepth 100000 in
theorem cloneLite_any (s : ByteArray) (w : World) (hlim : s.size ≤ 1048576) :
    Calls Tryd.prog 69 #[.string s] w fun e w' => e = .returned (.string s) ∧ Below w.heap.size w w' := by
  by_cases h0 : s.size = 0
  · obtain rfl : s = ⟨#[]⟩ := ByteArray.ext (Array.eq_empty_of_size_eq_zero h0)
    go_enter Tryd.func69, Tryd.ntmps69
    go_wp2
    go_ret
    exact ⟨rfl, Below.refl _ _⟩
  · obtain ⟨i0, hi, hz0, hz1, hz2⟩ := info_parts Tryd.info5
    have hinfo : (Tryd.prog.info? 5).map (·.size) = some 1 := by rw [hi]; simp [hz1]
    have hco : Tryd.prog.cellsOf 5 = 1 := by simp [Program.cellsOf, hi, hz1]
    obtain ⟨M, hM⟩ : ∃ M, M = madeCells (Value.int .u8 0).cells (((s.size : Nat) : Int).toNat * i0.size) := ⟨_, rfl⟩
    have hMs : M.size = s.size := by rw [hM, size_madeCells, hz1]; simp
    have hmk : ∀ W : World, (Instr.makeSlice 22 (.int .i64 (s.size : Int)) (.int .i64 (s.size : Int))).run Tryd.prog W = .ok (.slice (some ⟨W.heap.size, 0, none⟩) s.size s.size) (W.alloc (.cells M 5)) := fun W => by
      have h := run_make (P := Tryd.prog) W 22 5 i0 (.int .u8 0) Tryd.underlying22 hi hz0 .i64 .i64 (s.size : Int) (s.size : Int) (by omega) (by omega) (by rw [hz2]; omega) (by omega)
      rw [← hM] at h
      simpa using h
    clear hM
    have hcp := Lib.run_copy_row_string (P := Tryd.prog) (w.alloc (.cells M 5)) 22 9 3 5 w.heap.size 0 s.size s.size s M 5 Tryd.underlying22 hinfo (heap_alloc_new w _) (Nat.le_refl _) (by omega)
    obtain ⟨Y, hY⟩ : ∃ Y, Y = (M.toList.take 0 ++ Lib.byteCells s.data.toList ++ M.toList.drop (0 + s.size)).toArray := ⟨_, rfl⟩
    rw [← hY] at hcp
    have hYl : Y.toList = Lib.byteCells s.data.toList := by
      rw [hY, List.toList_toArray, List.take_zero, List.nil_append, List.drop_of_length_le (by rw [Array.length_toList]; omega), List.append_nil]
    have hYs : Y.size = s.size := by rw [← Array.length_toList, hYl, Lib.byteCells_length, ← Lib.size_eq]
    have hgY : ((w.alloc (.cells M 5)).setRow w.heap.size Y).heap[w.heap.size]? = some (.cells Y 5 (0, 0)) := setRow_heap _ _ M _ 5 (0, 0) (heap_alloc_new w _)
    have hne : s.data.toList ≠ [] := fun e => h0 (by rw [Lib.size_eq, e]; rfl)
    have hUS := Lib.run_unsafeString_row (P := Tryd.prog) ((w.alloc (.cells M 5)).setRow w.heap.size Y) 109 3 9 5 Tryd.underlying109 hco w.heap.size Y.size (by unfold World.shape?; rw [hgY]) s.data.toList hne (by rw [← Lib.size_eq]; omega) (by rw [← Lib.size_eq]; omega)
      (fun j x hx => Lib.cells_of_row hgY Y.size j _ (by rw [List.take_of_length_le (by rw [Array.length_toList]; exact Nat.le_refl _), hYl]; simp [Lib.byteCells, hx]))
    rw [← Lib.size_eq] at hUS
    clear hY
    go_enter Tryd.func69, Tryd.ntmps69
    go_wp2
    go_ret
    have hb1 : Below w.heap.size w (w.alloc (.cells M 5)) := (Below.refl _ w).alloc (Nat.le_refl _) _
    have hb2 : Below w.heap.size (w.alloc (.cells M 5)) ((w.alloc (.cells M 5)).setRow w.heap.size Y) := ⟨rfl, rfl, rfl, by simp, fun k hk => setRow_other _ _ _ _ (by omega)⟩
    exact ⟨rfl, Lib.below_freeze (hb1.trans hb2) (p := ⟨w.heap.size, 0, none⟩) (Nat.le_refl _) _⟩
theorem clone_any (s : ByteArray) (w : World) (hlim : s.size ≤ 1048576) :
    Calls Tryd.prog 51 #[.string s] w fun e w' => e = .returned (.string s) ∧ Below w.heap.size w w' := by
  go_enter Tryd.func51, Tryd.ntmps51
  go_wp2_with fail
  refine (cloneLite_any s _ hlim).mono ?_; rintro e w1 ⟨rfl, hb1⟩
  go_wp2
  go_ret
  exact ⟨rfl, hb1⟩
end Go.Proofs.YtnbobidpmiieiaaDoor
namespace Go.Proofs.YtnbobidpmiieiaaDoor
open Go.RowKit
/-- Which of two stamps is later. -/
def later (t b t' b' : Int) : Bool := if t = t' then decide (b' < b) else decide (t' < t)
theorem bpush {a w : World} (h : Below a.heap.size a w) (o : Obj) : Below a.heap.size a (w.alloc o) := h.alloc h.size o
theorem btr {a b c : World} (h : Below a.heap.size a b) (k : Below b.heap.size b c) : Below a.heap.size a c := h.trans (k.mono h.size)
theorem bre (a : World) : Below a.heap.size a a := Below.refl _ _
theorem bdr {a w : World} (h : Below a.heap.size a w) : Below a.heap.size a w.drew := h.drew
theorem bset {a w : World} (h : Below a.heap.size a w) {p : Addr} (hp : a.heap.size ≤ p.block) (u : Value) : Below a.heap.size a (w.setCell p u) := h.setCell hp u
theorem ret_bool {x y : Bool} (h : x = y) : Ending.returned (.bool x) = Ending.returned (.bool y) := by rw [h]
def cb (v t b v' t' b' : Int) : Bool := if t = t' ∧ b = b' then decide (v' < v) else later t b t' b'
end Go.Proofs.YtnbobidpmiieiaaDoor
namespace Go.Proofs.YtnbobidpmiieiaaDoor
open Go.RowKit
end Go.Proofs.YtnbobidpmiieiaaDoor
namespace Go.Proofs.YtnbobidpmiieiaaDoor
open Go.RowKit
end Go.Proofs.YtnbobidpmiieiaaDoor
namespace Go.Proofs.YtnbobidpmiieiaaDoor
open Go.RowKit
end Go.Proofs.YtnbobidpmiieiaaDoor
namespace Go.Proofs.YtnbobidpmiieiaaDoor
open Go.RowKit
end Go.Proofs.YtnbobidpmiieiaaDoor
namespace Go.Proofs.YtnbobidpmiieiaaDoor
open Go.RowKit Go.ChangeMaps
theorem bb {B : Nat} {w w1 : World} (h : Below B w w1 := by repeat (first | exact bre _ | refine bdr ?_ | refine btr ?_ (by assumption) | refine bpush ?_ _)) : Below B w w1 := h
theorem tp0 (a : Act) (v : Value) : a.put none v = a := rfl
theorem tp1 (a : Act) (t : Tmp) (v : Value) : a.put (some t) v = { a with tmps := a.tmps.setIfInBounds t v } := rfl
theorem tp2 {α : Type} (l : List α) (i : Nat) (x : α) : l.toArray.setIfInBounds i x = (l.set i x).toArray := List.setIfInBounds_toArray ..
theorem tp3 {α : Type} (a : α) (l : List α) (x : α) : (a :: l).set 0 x = x :: l := rfl
theorem tp4 {α : Type} (a : α) (l : List α) (i : Nat) (x : α) : (a :: l).set (i + 1) x = a :: l.set i x := rfl
section
variable {P : Program} {ops : Array Oper} {Q : Exit → Act → World → Prop} {md : Region.Mode} {S : World → Prop} {d : Option Tmp} {o : Op} {t : TypeId} {ps : String} {af : Array Edge} {gd : Option (Nat × Bool)} {v : Value} {fuel : Nat} {listed : Array Bool} {a a2 : Act} {w : World}
theorem tk (i : Nat) (h : wpAnyH P md ops Q S fuel (listed.setIfInBounds i true) a2 w)
    (hi : ops[i]? = some ⟨d, o, t, ps, af, gd⟩ := by (first | (simp only [List.getElem?_toArray, List.getElem?_cons_succ, List.getElem?_cons_zero]; rfl) | rfl)) (hs : Region.noSelect ops = true := by kernel_rfl) (hf : Region.free md ops listed i = true := by kernel_rfl) (hr : (Region.ready md ops listed).contains i = true := by kernel_rfl)
    (hw : Region.wanted ⟨d, o, t, ps, af, gd⟩ (yielded ops a.tmps) = true := by rfl) (hy : ∀ w, S w → (execOp a.eval ⟨d, o, t, ps, af, gd⟩).run P w = .ok (.value v) w := by (intro w hSw; (try dsimp only at hSw); go_simp; try with_reducible rfl)) (hS : S w := by assumption)
    (hQ : ∀ c a w, Q (.panic c) (a.put d v) w → Q (.panic c) a w := by exact fun _ _ _ h => h)
    (hp : a.put d v = a2 := by (first | (simp only [tp0, tp1, tp2, tp3, tp4]; done) | (simp only [tp0, tp1, tp2, tp3, tp4]; rfl) | rfl)) : wpAnyH P md ops Q S (fuel + 1) listed a w :=
  wpAnyH_take hi hs hf hr hQ (Or.inl ⟨hw, hy⟩) hS (by subst hp; exact h)
theorem tn (i : Nat) (h : wpAnyH P md ops Q S fuel (listed.setIfInBounds i true) a2 w)
    (hi : ops[i]? = some ⟨d, o, t, ps, af, gd⟩ := by (first | (simp only [List.getElem?_toArray, List.getElem?_cons_succ, List.getElem?_cons_zero]; rfl) | rfl)) (hs : Region.noSelect ops = true := by kernel_rfl) (hf : Region.free md ops listed i = true := by kernel_rfl) (hr : (Region.ready md ops listed).contains i = true := by kernel_rfl)
    (hw : Region.wanted ⟨d, o, t, ps, af, gd⟩ (yielded ops a.tmps) = false := by rfl) (hS : S w := by assumption)
    (hQ : ∀ c a w, Q (.panic c) (a.put d undef) w → Q (.panic c) a w := by exact fun _ _ _ h => h)
    (hp : a.put d undef = a2 := by (first | (simp only [tp0, tp1, tp2, tp3, tp4]; done) | (simp only [tp0, tp1, tp2, tp3, tp4]; rfl) | rfl)) : wpAnyH P md ops Q S (fuel + 1) listed a w :=
  wpAnyH_take hi hs hf hr hQ (Or.inr ⟨hw, rfl⟩) hS (by subst hp; exact h)
theorem rc {i : Nat} {rs : List Nat}
    (h : ∀ K' : Act → World → Prop, Shut (∀ a w, S w → (S w → wpAnyH P md ops Q S fuel (listed.setIfInBounds i true) a w) → K' a w) → if Region.wanted ⟨d, o, t, ps, af, gd⟩ (yielded ops a.tmps) = true then Oper.wp P ⟨d, o, t, ps, af, gd⟩ a w K' Q else K' (a.put d undef) w)
    (hs : AllReadyH P md ops Q S fuel listed a w rs) (hi : ops[i]? = some ⟨d, o, t, ps, af, gd⟩ := by (first | (simp only [List.getElem?_toArray, List.getElem?_cons_succ, List.getElem?_cons_zero]; rfl) | rfl)) : AllReadyH P md ops Q S fuel listed a w (i :: rs) := AllReadyH.cons hi h hs
theorem ry (i : Nat)
    (h : ∀ K' : Act → World → Prop, Shut (∀ a w, S w → (S w → wpAnyH P md ops Q S fuel (listed.setIfInBounds i true) a w) → K' a w) → if Region.wanted ⟨d, o, t, ps, af, gd⟩ (yielded ops a.tmps) = true then Oper.wp P ⟨d, o, t, ps, af, gd⟩ a w K' Q else K' (a.put d undef) w)
    (hr : Region.ready md ops listed = [i] := by kernel_rfl) (hi : ops[i]? = some ⟨d, o, t, ps, af, gd⟩ := by (first | (simp only [List.getElem?_toArray, List.getElem?_cons_succ, List.getElem?_cons_zero]; rfl) | rfl)) : wpAnyH P md ops Q S (fuel + 1) listed a w := wpAnyH_ready hr (by simp) (AllReadyH.cons hi h AllReadyH.nil)
theorem rl {i : Nat}
    (h : ∀ K' : Act → World → Prop, Shut (∀ a w, S w → (S w → wpAnyH P md ops Q S fuel (listed.setIfInBounds i true) a w) → K' a w) → if Region.wanted ⟨d, o, t, ps, af, gd⟩ (yielded ops a.tmps) = true then Oper.wp P ⟨d, o, t, ps, af, gd⟩ a w K' Q else K' (a.put d undef) w)
    (hi : ops[i]? = some ⟨d, o, t, ps, af, gd⟩ := by (first | (simp only [List.getElem?_toArray, List.getElem?_cons_succ, List.getElem?_cons_zero]; rfl) | rfl)) : AllReadyH P md ops Q S fuel listed a w [i] := AllReadyH.cons hi h AllReadyH.nil
end
end Go.Proofs.YtnbobidpmiieiaaDoor
namespace Go.Proofs.YtnbobidpmiieiaaDoor
open Go.RowKit
/-- What is read of the bytes l, k bytes having come ahead that make n; at most f bytes more. -/
def rv : Nat → List UInt8 → Nat → Nat → Option (Nat × Nat)
  | 0, _, _, _ => none
  | _ + 1, [], _, _ => none
  | f + 1, c :: l, k, n =>
    let m := n + c.toNat % 128 * 128 ^ k
    if c.toNat < 128 then (if 1000000000 < m ∨ (c.toNat = 0 ∧ 0 < k) then none else some (m, k + 1)) else rv f l (k + 1) m
theorem rv_end (f k n : Nat) : rv f [] k n = none := by cases f <;> rfl
theorem rv_more (f k n : Nat) (c : UInt8) (l : List UInt8) (h : ¬ c.toNat < 128) : rv (f + 1) (c :: l) k n = rv f l (k + 1) (n + c.toNat % 128 * 128 ^ k) := by
  simp [rv, h]
theorem rv_bad (f k n : Nat) (c : UInt8) (l : List UInt8) (h : c.toNat < 128) (h2 : 1000000000 < n + c.toNat % 128 * 128 ^ k ∨ (c.toNat = 0 ∧ 0 < k)) : rv (f + 1) (c :: l) k n = none := by
  simp only [rv]; rw [if_pos h, if_pos h2]
theorem rv_good (f k n : Nat) (c : UInt8) (l : List UInt8) (h : c.toNat < 128) (h2 : ¬ (1000000000 < n + c.toNat % 128 * 128 ^ k ∨ (c.toNat = 0 ∧ 0 < k))) : rv (f + 1) (c :: l) k n = some (n + c.toNat % 128 * 128 ^ k, k + 1) := by
  simp only [rv]; rw [if_pos h, if_neg h2]
/-- The number that a row of bytes makes, seven bits each. -/
def val : List UInt8 → Nat
  | [] => 0
  | c :: r => c.toNat % 128 + 128 * val r
theorem val_snoc (p : List UInt8) (c : UInt8) : val (p ++ [c]) = val p + c.toNat % 128 * 128 ^ p.length := by
  induction p with
  | nil => simp [val]
  | cons b p ih => simp only [List.cons_append, val, ih, List.length_cons, Nat.pow_succ]; rw [Nat.mul_add]; have : 128 * (c.toNat % 128 * 128 ^ p.length) = c.toNat % 128 * (128 ^ p.length * 128) := by rw [Nat.mul_comm 128, Nat.mul_assoc]
                   omega
theorem vbs_last (n : Nat) : (vbs n).getLast? = some 0 → n = 0 := by
  induction n using Nat.strongRecOn with
  | _ n ih =>
    by_cases h : 127 < n
    · rw [vbs_big n h]
      intro hl
      have hne : vbs (n / 128) ≠ [] := by
        by_cases h2 : 127 < n / 128
        · rw [vbs_big _ h2]; simp
        · rw [vbs_small _ h2]; simp
      have := ih (n / 128) (by omega) (by simpa [List.getLast?_cons, List.getLast?_eq_some_getLast hne] using hl)
      omega
    · rw [vbs_small n h]
      simp only [List.getLast?_singleton, Option.some.injEq]
      intro hl
      have := congrArg UInt8.toNat hl
      simp [UInt8.toNat_ofNat'] at this
      omega
theorem vbs_val (p : List UInt8) (c : UInt8) (hp : ∀ b ∈ p, ¬ b.toNat < 128) (hc : c.toNat < 128) (h0 : p = [] ∨ c.toNat ≠ 0) : vbs (val (p ++ [c])) = p ++ [c] := by
  induction p with
  | nil =>
    simp only [List.nil_append, val]
    rw [vbs_small _ (by omega)]
    simp
    apply UInt8.toNat_inj.1
    simp [UInt8.toNat_ofNat']; omega
  | cons b p ih =>
    have hc0 : c.toNat ≠ 0 := by simpa using h0
    have hb := hp b (by simp)
    have hv : vbs (val (p ++ [c])) = p ++ [c] := ih (fun x hx => hp x (by simp [hx])) (.inr hc0)
    have hpos : 0 < val (p ++ [c]) := by
      rw [val_snoc]
      have : 0 < c.toNat % 128 * 128 ^ p.length := Nat.mul_pos (by omega) (Nat.pow_pos (by decide))
      omega
    simp only [List.cons_append, val]
    have hbl : b.toNat < 256 := b.toNat_lt
    rw [vbs_big _ (by omega)]
    rw [show (b.toNat % 128 + 128 * val (p ++ [c])) / 128 = val (p ++ [c]) by omega, hv]
    rw [show (b.toNat % 128 + 128 * val (p ++ [c])) % 128 + 128 = b.toNat by omega]
    simp
theorem vbs_not (p : List UInt8) (c : UInt8) (hc : c.toNat = 0) (hp : p ≠ []) : vbs (val (p ++ [c])) ≠ p ++ [c] := by
  intro h
  have hc' : c = 0 := UInt8.toNat_inj.1 (by simpa using hc)
  have hz := vbs_last (val (p ++ [c])) (by rw [h]; simp [hc'])
  rw [hz, vbs_small 0 (by decide)] at h
  have := congrArg List.length h
  simp at this
  exact hp this
/-- How a call ends that has read r from the place a on. -/
def RvEnd (r : Option (Nat × Nat)) (a : Nat) (e : Ending) : Prop :=
  match r with
  | none => e = .returned (.tuple #[.int .i64 0, .int .i64 0, .bool false])
  | some (n, k) => e = .returned (.tuple #[.int .i64 n, .int .i64 (a + k : Nat), .bool true])
theorem RvEnd.no {r : Option (Nat × Nat)} {a : Nat} (h : r = none) : RvEnd r a (.returned (.tuple #[.int .i64 0, .int .i64 0, .bool false])) := by subst h; rfl
theorem RvEnd.yes {r : Option (Nat × Nat)} {a n k : Nat} {x y : Int} (h : r = some (n, k)) (hx : x = n) (hy : y = (a + k : Nat)) : RvEnd r a (.returned (.tuple #[.int .i64 x, .int .i64 y, .bool true])) := by subst h hx hy; rfl
theorem val_lt (p : List UInt8) : val p < 128 ^ p.length := by
  induction p with
  | nil => simp [val]
  | cons b p ih => simp only [val, List.length_cons, Nat.pow_succ]; omega
/-- k bytes that go on have been read from the place a on; they make n; what is left is read as the whole is. -/
def RvAt (s : ByteArray) (a k n : Nat) : Prop :=
  a + k ≤ s.size ∧ n = val ((s.data.toList.drop a).take k) ∧ (∀ b ∈ (s.data.toList.drop a).take k, ¬ b.toNat < 128) ∧ rv (5 - k) (s.data.toList.drop (a + k)) k n = rv 5 (s.data.toList.drop a) 0 0
theorem RvAt.start (s : ByteArray) (a : Nat) (h : a ≤ s.size) : RvAt s a 0 0 := ⟨h, rfl, by simp, rfl⟩
theorem len_list (s : ByteArray) : s.data.toList.length = s.size := Array.length_toList
theorem drop_here (s : ByteArray) (j : Nat) (h : j < s.size) : s.data.toList.drop j = s[j] :: s.data.toList.drop (j + 1) := by
  rw [List.drop_eq_getElem_cons (by rw [len_list]; exact h)]; rfl
theorem take_from (s : ByteArray) (a k : Nat) (h : a + k < s.size) : (s.data.toList.drop a).take (k + 1) = (s.data.toList.drop a).take k ++ [s[a + k]] := by
  rw [List.take_succ_eq_append_getElem (by rw [List.length_drop, len_list]; omega)]
  simp
  rfl
theorem RvAt.len {s : ByteArray} {a k n : Nat} (h : RvAt s a k n) : ((s.data.toList.drop a).take k).length = k := by
  rw [List.length_take, List.length_drop, len_list]; have := h.1; omega
theorem RvAt.lt {s : ByteArray} {a k n : Nat} (h : RvAt s a k n) : n < 128 ^ k := by
  have := val_lt ((s.data.toList.drop a).take k); rw [h.len, ← h.2.1] at this; exact this
theorem RvAt.val {s : ByteArray} {a k n m : Nat} (h : RvAt s a k n) (hj : a + k < s.size) (hm : n + s[a + k].toNat % 128 * 128 ^ k = m) : m = val ((s.data.toList.drop a).take k ++ [s[a + k]]) := by
  rw [val_snoc, h.len, ← h.2.1, hm]
theorem RvAt.next {s : ByteArray} {a k n m : Nat} (h : RvAt s a k n) (hk : k < 5) (hj : a + k < s.size) (hm : n + s[a + k].toNat % 128 * 128 ^ k = m) (hc : ¬ s[a + k].toNat < 128) : RvAt s a (k + 1) m := by
  refine ⟨hj, ?_, ?_, ?_⟩
  · rw [take_from s a k hj]; exact h.val hj hm
  · rw [take_from s a k hj]
    intro b hb
    rcases List.mem_append.1 hb with hb | hb
    · exact h.2.2.1 b hb
    · simp at hb; subst hb; exact hc
  · rw [← h.2.2.2, drop_here s (a + k) hj]
    obtain ⟨f, hf⟩ : ∃ f, 5 - k = f + 1 := ⟨4 - k, by omega⟩
    rw [hf, rv_more _ _ _ _ _ hc, hm, show 5 - (k + 1) = f by omega]; rfl
theorem RvAt.big {s : ByteArray} {a k n m : Nat} (h : RvAt s a k n) (hk : k < 5) (hj : a + k < s.size) (hm : n + s[a + k].toNat % 128 * 128 ^ k = m) (hc : s[a + k].toNat < 128) (hb : 1000000000 < m ∨ (s[a + k].toNat = 0 ∧ 0 < k)) : rv 5 (s.data.toList.drop a) 0 0 = none := by
  rw [← h.2.2.2, drop_here s (a + k) hj]
  obtain ⟨f, hf⟩ : ∃ f, 5 - k = f + 1 := ⟨4 - k, by omega⟩
  rw [hf, rv_bad _ _ _ _ _ hc (by rw [hm]; exact hb)]
theorem RvAt.good {s : ByteArray} {a k n m : Nat} (h : RvAt s a k n) (hk : k < 5) (hj : a + k < s.size) (hm : n + s[a + k].toNat % 128 * 128 ^ k = m) (hc : s[a + k].toNat < 128) (hb : ¬ (1000000000 < m ∨ (s[a + k].toNat = 0 ∧ 0 < k))) : rv 5 (s.data.toList.drop a) 0 0 = some (m, k + 1) := by
  rw [← h.2.2.2, drop_here s (a + k) hj]
  obtain ⟨f, hf⟩ : ∃ f, 5 - k = f + 1 := ⟨4 - k, by omega⟩
  rw [hf, rv_good _ _ _ _ _ hc (by rw [hm]; exact hb), hm]
theorem RvAt.out {s : ByteArray} {a k n : Nat} (h : RvAt s a k n) (hk : ¬ (k < 5 ∧ a + k < s.size)) : rv 5 (s.data.toList.drop a) 0 0 = none := by
  rw [← h.2.2.2]
  by_cases h5 : k < 5
  · rw [List.drop_eq_nil_of_le (by rw [len_list]; omega), rv_end]
  · rw [show 5 - k = 0 by omega]; rfl
theorem extract_here (s : ByteArray) (a k : Nat) (h : a + k < s.size) : (s.extract a (a + k + 1)).toList = (s.data.toList.drop a).take k ++ [s[a + k]] := by
  rw [ByteArray.toList_eq, ← take_from s a k h, ByteArray.data_extract]
  simp
  congr 1; omega
/-- The model's test: is what VarText writes of the number the very bytes that stand there? -/
theorem RvAt.test {s : ByteArray} {a k n m : Nat} (h : RvAt s a k n) (hj : a + k < s.size) (hm : n + s[a + k].toNat % 128 * 128 ^ k = m) (hc : s[a + k].toNat < 128) :
    (vbs m == (s.extract a (a + k + 1)).toList) = !decide (s[a + k].toNat = 0 ∧ 0 < k) := by
  rw [extract_here s a k hj, h.val hj hm]
  by_cases h0 : s[a + k].toNat = 0 ∧ 0 < k
  · have hne : (s.data.toList.drop a).take k ≠ [] := fun e => by have := h.len; rw [e] at this; simp at this; omega
    have := vbs_not _ _ h0.1 hne
    simp [h0, this]
  · have := vbs_val ((s.data.toList.drop a).take k) s[a + k] h.2.2.1 hc (by
      by_cases hz : s[a + k].toNat = 0
      · left; apply List.eq_nil_of_length_eq_zero; rw [h.len]; omega
      · right; exact hz)
    rw [this]
    simp only [beq_self_eq_true]
    simp [h0]
theorem RvAt.endNe {s : ByteArray} {a k n m : Nat} (h : RvAt s a k n) (hk : k < 5) (hj : a + k < s.size) (hm : n + s[a + k].toNat % 128 * 128 ^ k = m) (hc : s[a + k].toNat < 128)
    (ht : (!vbs m == (s.extract a (a + k + 1)).toList) = true) : rv 5 (s.data.toList.drop a) 0 0 = none := by
  rw [h.test hj hm hc] at ht
  exact h.big hk hj hm hc (.inr (by simpa using ht))
theorem RvAt.endEq {s : ByteArray} {a k n m : Nat} (h : RvAt s a k n) (hk : k < 5) (hj : a + k < s.size) (hm : n + s[a + k].toNat % 128 * 128 ^ k = m) (hc : s[a + k].toNat < 128) (hb : ¬ 1000000000 < m)
    (ht : (!vbs m == (s.extract a (a + k + 1)).toList) = false) : rv 5 (s.data.toList.drop a) 0 0 = some (m, k + 1) := by
  rw [h.test hj hm hc, Bool.not_not] at ht
  exact h.good hk hj hm hc (fun h => h.elim hb (of_decide_eq_false ht))
set_option maxHeartbeats 400000 in
set_option maxRecDepth 100000 in
theorem specRead_any (s : ByteArray) (a : Nat) (w : World) (hs : s.size ≤ 1048576) (ha : a ≤ s.size) :
    Calls Tryd.prog 58 #[.string s, .int .i64 a] w fun e w' => RvEnd (rv 5 (s.data.toList.drop a) 0 0) a e ∧ Below w.heap.size w w' := by
  go_enter Tryd.func58, Tryd.ntmps58
  go_wp2_with fail
  refine (l01In_yes _ _ _ _ (by omega) (by omega)).mono ?_; rintro e w' ⟨rfl, rfl⟩
  go_wp2_with fail
  go_loopw [7, 8, 9] (fun nv sv iv wr => ∃ (k n : Nat), k ≤ 5 ∧ nv = .int .i64 n ∧ sv = .int .i64 ((128 ^ k : Nat) : Int) ∧ iv = .int .i64 ((a + k : Nat) : Int) ∧ RvAt s a k n ∧ Below w.heap.size w wr) (fun _ _ iv _ => s.size - (intOf iv).toNat)
  case atStart => exact ⟨0, 0, by omega, rfl, rfl, rfl, RvAt.start s a ha, Below.refl _ _⟩
  case round =>
    obtain ⟨k, n, hk, rfl, rfl, rfl, hR, hb⟩ := hrel
    obtain ⟨j, hja⟩ : ∃ j, j = a + k := ⟨_, rfl⟩
    have hj := hR.1
    have hnb := hR.lt
    have HA : Hid (j = a + k) := hja
    have HR : Hid (RvAt s a k n) := hR
    rw [← hja] at hj ⊢
    clear hja hR
    have haj : a ≤ j := by have := HA.out; omega
    have hbsz := hb.size
    by_cases hlt : j < s.size
    · by_cases h5 : k < 5
      · have h5' : j < a + 5 := by have := HA.out; omega
        obtain ⟨c, hcx⟩ : ∃ c : Nat, s[j].toNat = c := ⟨_, rfl⟩
        have hcb : c < 256 := by rw [← hcx]; exact s[j].toNat_lt
        have hak : a + k < s.size := by have := HA.out; omega
        have HC : Hid (s[a + k].toNat = c) := by have e := HA.out; subst e; exact hcx
        have hI1 : (0 : Int) ≤ (j : Int) + 1 := by omega
        have hI2 : (j : Int) + 1 ≤ (s.size : Int) := by omega
        have hI4 : IntKind.i64.wrap ((j : Int) + 1) = (j : Int) + 1 := by rw [IntKind.wrap_i64]; omega
        have hI3 : (a : Int) ≤ (j : Int) + 1 := by omega
        obtain ⟨m, hm⟩ : ∃ m : Nat, n + c % 128 * 128 ^ k = m := ⟨_, rfl⟩
        have HM : Hid (n + s[a + k].toNat % 128 * 128 ^ k = m) := by show _ = _; rw [HC.out]; exact hm
        have HE : Hid ((s.extract a (a + k + 1)).toList = (s.extract a (j + 1)).toList) := by show _ = _; rw [HA.out]
        have hk' : k = 0 ∨ k = 1 ∨ k = 2 ∨ k = 3 ∨ k = 4 := by omega
        clear hk
        rcases hk' with rfl | rfl | rfl | rfl | rfl
        all_goals
          simp only [Nat.reducePow, Nat.mul_one] at hm hnb ⊢
          have hmi := congrArg (Nat.cast (R := Int)) hm
          simp only [Int.natCast_add, Int.natCast_mul, Int.natCast_emod, Int.cast_ofNat_Int] at hmi
          have hmb : m ≤ 68450000000 := by omega
          clear hm
          by_cases hc : c < 128
          · by_cases hbig : 1000000000 < m
            · first
                | (exfalso; omega)
                | (have hd : decide (1000000000 < (m : Int)) = true := by simp; omega
                   go_wp2_with fail
                   go_region
                   all_goals go_wp2
                   all_goals go_ret3
                   all_goals exact ⟨RvEnd.no (HR.out.big (by decide) hak HM.out (by rw [HC.out]; exact hc) (.inl hbig)), hb.drew⟩)
            · have hd : decide (1000000000 < (m : Int)) = false := by simp; omega
              go_wp2_with fail
              go_region_held3 (fun _ => True) (trivial) ((go_at_call 28; refine (l01Var_any m _ (by omega)).mono ?_; rintro e w1 ⟨rfl, hb1⟩))
              all_goals go_wp2
              · have ht : (!vbs m == (s.extract a (j + 1)).toList) = true := by assumption
                go_ret3
                exact ⟨RvEnd.no (HR.out.endNe (by decide) hak HM.out (by rw [HC.out]; exact hc) (by rw [HE.out]; exact ht)), hb.drew.trans (hb1.mono hbsz)⟩
              · have ht : (!vbs m == (s.extract a (j + 1)).toList) = false := by assumption
                go_ret3
                exact ⟨RvEnd.yes (HR.out.endEq (by decide) hak HM.out (by rw [HC.out]; exact hc) hbig (by rw [HE.out]; exact ht)) rfl (by have := HA.out; omega), hb.drew.trans (hb1.mono hbsz)⟩
          · go_wp2_with fail
            go_roundw
            case rel => exact ⟨_, m, by omega, rfl, rfl, by have := HA.out; go_num, HR.out.next (by decide) hak HM.out (by rw [HC.out]; exact hc), hb⟩
            case measure => simp [intOf]; omega
      · have h5' : ¬ j < a + 5 := by have := HA.out; omega
        go_wp2
        go_ret3
        exact ⟨RvEnd.no (HR.out.out (by omega)), hb⟩
    · go_wp2
      go_ret3
      exact ⟨RvEnd.no (HR.out.out (by have := HA.out; omega)), hb⟩
theorem specRead_no (s : ByteArray) (a : Int) (w : World) (_hs : s.size ≤ 1048576) (ha : a < 0 ∨ s.size < a) :
    Calls Tryd.prog 58 #[.string s, .int .i64 a] w fun e w' => e = .returned (.tuple #[.int .i64 0, .int .i64 0, .bool false]) ∧ w = w' := by
  go_enter Tryd.func58, Tryd.ntmps58
  go_wp2_with fail
  refine (l01In_no _ _ _ _ (by omega)).mono ?_; rintro e w' ⟨rfl, rfl⟩
  go_wp2
  go_ret3
  exact ⟨rfl, rfl⟩
set_option maxHeartbeats 1000000 in
set_option maxRecDepth 100000 in
theorem implRead_any (s : ByteArray) (a : Nat) (w : World) (hs : s.size ≤ 1048576) (ha : a ≤ s.size) :
    Calls Tryd.prog 72 #[.string s, .int .i64 a] w fun e w' => RvEnd (rv 5 (s.data.toList.drop a) 0 0) a e ∧ Below w.heap.size w w' := by
  go_enter Tryd.func72, Tryd.ntmps72
  go_wp2_with fail
  go_loopw [7, 8] (fun nv iv wr => ∃ (k n : Nat), k ≤ 5 ∧ nv = .int .i64 n ∧ iv = .int .i64 (k : Int) ∧ RvAt s a k n ∧ Below w.heap.size w wr) (fun _ iv _ => 5 - (intOf iv).toNat)
  case atStart => exact ⟨0, 0, by omega, rfl, rfl, RvAt.start s a ha, Below.refl _ _⟩
  case round =>
    obtain ⟨k, n, hk, rfl, rfl, hR, hb⟩ := hrel
    have hj := hR.1
    have hnb := hR.lt
    have HR : Hid (RvAt s a k n) := hR
    clear hR
    by_cases hlt : a + k < s.size
    · by_cases h5 : k < 5
      · obtain ⟨c, hcx⟩ : ∃ c : Nat, s[a + k].toNat = c := ⟨_, rfl⟩
        have hcb : c < 256 := by rw [← hcx]; exact s[a + k].toNat_lt
        have HC : Hid (s[a + k].toNat = c) := hcx
        obtain ⟨m, hm⟩ : ∃ m : Nat, n + c % 128 * 128 ^ k = m := ⟨_, rfl⟩
        have HM : Hid (n + s[a + k].toNat % 128 * 128 ^ k = m) := by show _ = _; rw [HC.out]; exact hm
        have hI : (0 : Int) ≤ (a : Int) + (k : Int) ∧ (a : Int) + (k : Int) < (s.size : Int) := by omega
        have hk' : k = 0 ∨ k = 1 ∨ k = 2 ∨ k = 3 ∨ k = 4 := by omega
        clear hk
        rcases hk' with rfl | rfl | rfl | rfl | rfl
        all_goals
          try simp only [Nat.add_zero] at hcx
          simp only [Int.cast_ofNat_Int, Int.add_zero] at hI
          simp only [Nat.reducePow, Nat.mul_one] at hm hnb
          have hmb : m ≤ 68450000000 := by omega
          have HM2 := hide hm
          clear hm
          by_cases hc : c < 128
          · go_wp2_with fail
            all_goals
              go_ret3
              have hm := unhide HM2
              first
                | exact ⟨RvEnd.no (HR.out.big (by decide) hlt HM.out (by rw [HC.out]; omega) (by rw [HC.out]; omega)), hb⟩
                | exact ⟨RvEnd.yes (HR.out.good (by decide) hlt HM.out (by rw [HC.out]; omega) (by rw [HC.out]; omega)) (by omega) (by omega), hb⟩
          · go_wp2_with fail
            go_roundw
            case rel =>
              refine ⟨_, m, ?h1, ?h2, ?h3, HR.out.next (by decide) hlt HM.out (by rw [HC.out]; exact hc), hb⟩
              case h1 => decide
              case h2 => have hm := unhide HM2; go_num
              case h3 => rfl
            case measure => simp [intOf]
      · go_wp2_with fail
        go_ret3
        exact ⟨RvEnd.no (HR.out.out (by omega)), hb⟩
    · by_cases h5 : k < 5
      all_goals
        go_wp2_with fail
        go_ret3
        exact ⟨RvEnd.no (HR.out.out (by omega)), hb⟩
theorem implRead_no (s : ByteArray) (a : Int) (w : World) (ha : a < 0 ∨ s.size < a) :
    Calls Tryd.prog 72 #[.string s, .int .i64 a] w fun e w' => e = .returned (.tuple #[.int .i64 0, .int .i64 0, .bool false]) ∧ w = w' := by
  rcases ha with ha | ha
  · go_enter Tryd.func72, Tryd.ntmps72
    go_wp2
    go_ret3
    exact ⟨rfl, rfl⟩
  · have h0 : ¬ a < 0 := by omega
    go_enter Tryd.func72, Tryd.ntmps72
    go_wp2
    go_ret3
    exact ⟨rfl, rfl⟩
theorem implShort_yes (s : ByteArray) (w : World) (hs : s.size ≤ 20000) :
    Calls Tryd.prog 23 #[.string s] w fun e w' => e = .returned (.tuple #[.string (⟨(vbs s.size).toArray⟩ ++ s), .bool true]) ∧ Below w.heap.size w w' := by
  have hl := vbs_len s.size
  go_enter Tryd.func23, Tryd.ntmps23
  go_wp2_with fail
  refine (implVar_any s.size _ (by omega)).mono ?_; rintro e w1 ⟨rfl, hb1⟩
  go_wp2
  go_ret2
  exact ⟨rfl, hb1⟩
theorem rv_some : ∀ (f : Nat) (l : List UInt8) (k n m d : Nat), rv f l k n = some (m, d) → m ≤ 1000000000 ∧ d ≤ k + l.length
  | 0, _, _, _, _, _, h => by simp [rv] at h
  | _ + 1, [], _, _, _, _, h => by simp [rv] at h
  | f + 1, c :: l, k, n, m, d, h => by
    by_cases hc : c.toNat < 128
    · by_cases h2 : 1000000000 < n + c.toNat % 128 * 128 ^ k ∨ (c.toNat = 0 ∧ 0 < k)
      · rw [rv_bad f k n c l hc h2] at h; simp at h
      · rw [rv_good f k n c l hc h2] at h
        simp only [Option.some.injEq, Prod.mk.injEq] at h
        obtain ⟨rfl, rfl⟩ := h
        simp only [List.length_cons]
        omega
    · rw [rv_more f k n c l hc] at h
      have := rv_some f l _ _ m d h
      simp only [List.length_cons]
      omega
/-- The place behind, and whether a text of n bytes lies there. -/
theorem rv_place {s : ByteArray} {k n d : Nat} (hk : k ≤ s.size) (h : rv 5 (s.data.toList.drop k) 0 0 = some (n, d)) : n ≤ 1000000000 ∧ k + d ≤ s.size := by
  have := rv_some _ _ _ _ _ _ h
  rw [List.length_drop, len_list] at this
  omega
theorem specRShort_no (s : ByteArray) (k : Int) (w : World) (hs : s.size ≤ 1048576)
    (h : (k < 0 ∨ s.size < k) ∨ (0 ≤ k ∧ k ≤ s.size ∧ rv 5 (s.data.toList.drop k.toNat) 0 0 = none)) :
    Calls Tryd.prog 59 #[.string s, .int .i64 k] w fun e w' => e = .returned (.tuple #[.string ⟨#[]⟩, .int .i64 0, .bool false]) ∧ Below w.heap.size w w' := by
  rcases h with h | ⟨h0, h1, h2⟩
  · go_enter Tryd.func59, Tryd.ntmps59
    go_wp2_with fail
    refine (specRead_no s k _ hs h).mono ?_; rintro e w1 ⟨rfl, rfl⟩
    go_wp2
    go_ret3
    exact ⟨rfl, Below.refl _ _⟩
  · obtain ⟨a, rfl⟩ : ∃ a : Nat, k = a := ⟨k.toNat, by omega⟩
    have HR : Hid (rv 5 (s.data.toList.drop a) 0 0 = none) := h2
    clear h2
    go_enter Tryd.func59, Tryd.ntmps59
    go_wp2_with fail
    refine (specRead_any s a _ hs (by omega)).mono ?_; rintro e w1 ⟨he, hb1⟩
    rw [HR.out] at he
    obtain rfl : e = .returned (.tuple #[.int .i64 0, .int .i64 0, .bool false]) := he
    go_wp2
    go_ret3
    exact ⟨rfl, hb1⟩
theorem implRShort_no (s : ByteArray) (k : Int) (w : World) (hs : s.size ≤ 1048576)
    (h : (k < 0 ∨ s.size < k) ∨ (0 ≤ k ∧ k ≤ s.size ∧ rv 5 (s.data.toList.drop k.toNat) 0 0 = none)) :
    Calls Tryd.prog 73 #[.string s, .int .i64 k] w fun e w' => e = .returned (.tuple #[.string ⟨#[]⟩, .int .i64 0, .bool false]) ∧ Below w.heap.size w w' := by
  rcases h with h | ⟨h0, h1, h2⟩
  · go_enter Tryd.func73, Tryd.ntmps73
    go_wp2_with fail
    refine (implRead_no s k _ h).mono ?_; rintro e w1 ⟨rfl, rfl⟩
    go_wp2
    go_ret3
    exact ⟨rfl, Below.refl _ _⟩
  · obtain ⟨a, rfl⟩ : ∃ a : Nat, k = a := ⟨k.toNat, by omega⟩
    have HR : Hid (rv 5 (s.data.toList.drop a) 0 0 = none) := h2
    clear h2
    go_enter Tryd.func73, Tryd.ntmps73
    go_wp2_with fail
    refine (implRead_any s a _ hs (by omega)).mono ?_; rintro e w1 ⟨he, hb1⟩
    rw [HR.out] at he
    obtain rfl : e = .returned (.tuple #[.int .i64 0, .int .i64 0, .bool false]) := he
    go_wp2
    go_ret3
    exact ⟨rfl, hb1⟩
theorem specRShort_bad (s : ByteArray) (a n d : Nat) (w : World) (hs : s.size ≤ 1048576) (ha : a ≤ s.size) (hr : rv 5 (s.data.toList.drop a) 0 0 = some (n, d)) (hbad : 20000 < n ∨ s.size < a + d + n) :
    Calls Tryd.prog 59 #[.string s, .int .i64 a] w fun e w' => e = .returned (.tuple #[.string ⟨#[]⟩, .int .i64 0, .bool false]) ∧ Below w.heap.size w w' := by
  have hp := rv_place ha hr
  have HR : Hid (rv 5 (s.data.toList.drop a) 0 0 = some (n, d)) := hr
  clear hr
  by_cases h2 : 20000 < n
  · clear hbad
    go_enter Tryd.func59, Tryd.ntmps59
    go_wp2_with fail
    refine (specRead_any s a _ hs ha).mono ?_; rintro e w1 ⟨he, hb1⟩
    rw [HR.out] at he
    obtain rfl : e = .returned (.tuple #[.int .i64 n, .int .i64 (a + d : Nat), .bool true]) := he
    go_wp2
    go_ret3
    exact ⟨rfl, hb1⟩
  · have h3 : s.size < a + d + n := by omega
    clear hbad
    go_enter Tryd.func59, Tryd.ntmps59
    go_wp2_with fail
    refine (specRead_any s a _ hs ha).mono ?_; rintro e w1 ⟨he, hb1⟩
    rw [HR.out] at he
    obtain rfl : e = .returned (.tuple #[.int .i64 n, .int .i64 (a + d : Nat), .bool true]) := he
    go_wp2
    go_ret3
    exact ⟨rfl, hb1⟩
theorem implRShort_bad (s : ByteArray) (a n d : Nat) (w : World) (hs : s.size ≤ 1048576) (ha : a ≤ s.size) (hr : rv 5 (s.data.toList.drop a) 0 0 = some (n, d)) (hbad : 20000 < n ∨ s.size < a + d + n) :
    Calls Tryd.prog 73 #[.string s, .int .i64 a] w fun e w' => e = .returned (.tuple #[.string ⟨#[]⟩, .int .i64 0, .bool false]) ∧ Below w.heap.size w w' := by
  have hp := rv_place ha hr
  have HR : Hid (rv 5 (s.data.toList.drop a) 0 0 = some (n, d)) := hr
  clear hr
  by_cases h2 : 20000 < n
  · clear hbad
    go_enter Tryd.func73, Tryd.ntmps73
    go_wp2_with fail
    refine (implRead_any s a _ hs ha).mono ?_; rintro e w1 ⟨he, hb1⟩
    rw [HR.out] at he
    obtain rfl : e = .returned (.tuple #[.int .i64 n, .int .i64 (a + d : Nat), .bool true]) := he
    go_wp2
    go_ret3
    exact ⟨rfl, hb1⟩
  · have h3 : s.size < a + d + n := by omega
    clear hbad
    go_enter Tryd.func73, Tryd.ntmps73
    go_wp2_with fail
    refine (implRead_any s a _ hs ha).mono ?_; rintro e w1 ⟨he, hb1⟩
    rw [HR.out] at he
    obtain rfl : e = .returned (.tuple #[.int .i64 n, .int .i64 (a + d : Nat), .bool true]) := he
    go_wp2
    go_ret3
    exact ⟨rfl, hb1⟩
theorem specRShort_yes (s : ByteArray) (a n d : Nat) (w : World) (hs : s.size ≤ 1048576) (ha : a ≤ s.size) (hr : rv 5 (s.data.toList.drop a) 0 0 = some (n, d)) (h2 : n ≤ 20000) (h3 : a + d + n ≤ s.size) :
    Calls Tryd.prog 59 #[.string s, .int .i64 a] w fun e w' => e = .returned (.tuple #[.string (s.extract (a + d) (a + d + n)), .int .i64 (a + d + n : Nat), .bool true]) ∧ Below w.heap.size w w' := by
  have HR : Hid (rv 5 (s.data.toList.drop a) 0 0 = some (n, d)) := hr
  clear hr
  go_enter Tryd.func59, Tryd.ntmps59
  go_wp2_with fail
  refine (specRead_any s a _ hs ha).mono ?_; rintro e w1 ⟨he, hb1⟩
  rw [HR.out] at he
  obtain rfl : e = .returned (.tuple #[.int .i64 n, .int .i64 (a + d : Nat), .bool true]) := he
  go_wp2
  go_ret3
  exact ⟨rfl, hb1⟩
theorem implRShort_yes (s : ByteArray) (a n d : Nat) (w : World) (hs : s.size ≤ 1048576) (ha : a ≤ s.size) (hr : rv 5 (s.data.toList.drop a) 0 0 = some (n, d)) (h2 : n ≤ 20000) (h3 : a + d + n ≤ s.size) :
    Calls Tryd.prog 73 #[.string s, .int .i64 a] w fun e w' => e = .returned (.tuple #[.string (s.extract (a + d) (a + d + n)), .int .i64 (a + d + n : Nat), .bool true]) ∧ Below w.heap.size w w' := by
  have HR : Hid (rv 5 (s.data.toList.drop a) 0 0 = some (n, d)) := hr
  have hsz : (s.extract (a + d) (a + d + n)).size ≤ 1048576 := by rw [ByteArray.size_extract]; omega
  clear hr
  go_enter Tryd.func73, Tryd.ntmps73
  go_wp2_with fail
  refine (implRead_any s a _ hs ha).mono ?_; rintro e w1 ⟨he, hb1⟩
  rw [HR.out] at he
  obtain rfl : e = .returned (.tuple #[.int .i64 n, .int .i64 (a + d : Nat), .bool true]) := he
  go_wp2_with fail
  refine (clone_any _ _ hsz).mono ?_; rintro e w2 ⟨rfl, hb2⟩
  go_wp2
  go_ret3
  exact ⟨rfl, hb1.trans (hb2.mono hb1.size)⟩
end Go.Proofs.YtnbobidpmiieiaaDoor
