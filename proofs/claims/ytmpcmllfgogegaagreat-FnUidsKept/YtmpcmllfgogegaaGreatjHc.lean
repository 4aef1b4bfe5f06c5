/- Hdl, Hwo, Hmx. -/
import Derived.Test.YtmpcmllfgogegaaGreatjHb
import Derived.Laws.CopyRow
namespace Go.Proofs.YtmpcmllfgogegaaGreat
open Go.RowKit Go.Shelf Go.ChangeMaps
set_option maxHeartbeats 800000 in
set_option maxRecDepth 100000 in
theorem index8w (lo hi : Nat) (ao : Option Addr) (n cap : Nat) (G : List Int) (x : Int) (w : World) (hl : G.length = n) (hn : n ≤ 4194304) (hr : Is lo hi w ao G) :
  Calls Tryz.prog 131 #[.slice ao n cap, .int .i64 x] w fun e w' => e = .returned (.int .i64 (idx x G 0)) ∧ w' = w := by
 have HR := hid hr
 have HL := hid hl
 clear hr hl
 go_enter Tryz.func131, Tryz.ntmps131
 go_wp2
 go_loopw [8] (fun iv wr => ∃ (i : Nat), i ≤ n ∧ iv = .int .i64 (i : Int) ∧ Hid (idx x G 0 = idx x (G.drop i) i) ∧ wr = w) (fun iv _ => n - (intOf iv).toNat)
 case atStart => exact ⟨0, Nat.zero_le _, rfl, rfl, rfl⟩
 case round =>
  obtain ⟨i, hi, rfl, HQ, hw⟩ := hrel
  subst hw
  by_cases hlt : i < n
  ·have hil : i < G.length := by rw [HL.out]; exact hlt
   obtain ⟨k, o, rfl, hk, c⟩ := HR.out.at hil
   obtain ⟨y, hy⟩ : ∃ y, G[i] = y := ⟨_, rfl⟩
   rw [hy] at c
   have hI : (0 : Int) ≤ (i : Int) ∧ (i : Int) < (n : Int) := by omega
   by_cases hxy : x = y
   ·have HE : Hid (idx x G 0 = i) := by show _ = _; rw [HQ.out, idx_here hil (by rw [hy, hxy])]
    subst hxy
    clear hy
    go_wp2
    go_ret
    exact ⟨by rw [HE.out]; rfl, rfl⟩
   ·have HE : Hid (idx x G 0 = idx x (G.drop (i + 1)) (i + 1)) := by show _ = _; rw [HQ.out, idx_on hil (by rw [hy]; exact fun e => hxy e.symm)]
    have hxy' : (x == y) = false := by simp [hxy]
    clear hy
    go_wp2
    go_roundw
    case rel => exact ⟨i + 1, by omega, by go_num, HE, by first | rfl | trivial⟩
    case measure => simp [intOf]; omega
  ·have HE : Hid (idx x G 0 = -1) := by show _ = _; rw [HQ.out, List.drop_of_length_le (by rw [HL.out]; omega)]; rfl
   go_wp2
   go_ret
   exact ⟨by rw [HE.out]; rfl, rfl⟩
theorem contains8w (lo hi : Nat) (ao : Option Addr) (n cap : Nat) (G : List Int) (x : Int) (w : World) (hl : G.length = n) (hn : n ≤ 4194304) (hr : Is lo hi w ao G) :
  Calls Tryz.prog 105 #[.slice ao n cap, .int .i64 x] w fun e w' => e = .returned (.bool (inl x G)) ∧ w' = w := by
 have HI := hid (idx_inl x G 0)
 have HC := hid (index8w lo hi ao n cap G x w hl hn hr)
 obtain ⟨q, hq⟩ : ∃ q, idx x G 0 = q := ⟨_, rfl⟩
 rw [hq] at HI HC
 clear hq
 go_enter Tryz.func105, Tryz.ntmps105
 go_wp2_with fail
 refine HC.out.mono ?_; rintro e w1 ⟨rfl, h1⟩
 subst h1
 go_wp2
 go_ret
 exact ⟨by rw [← HI.out]; rfl, rfl⟩
set_option maxRecDepth 100000 in
set_option maxHeartbeats 1600000 in
theorem wo8_any (gb kb lo hh : Nat) (ga : Option Addr) (gn gc : Nat) (J : List Int) (g u : Int) (fa : Option Addr) (fn fc : Nat) (t : ByteArray) (w : World) (hl : J.length = gn) (hn : gn ≤ 4194304) (his : Is lo hh w ga J) (hg : w.heap[gb]? = some (.cells #[.slice ga gn gc] 27)) (hk : Kd w kb 102 85 86) :
  Calls Tryz.prog 124 #[.agg #[.int .i64 g, .int .i64 u, .slice fa fn fc, .string t], .pointer (some ⟨gb, 0, none⟩), .pointer (some ⟨kb, 0, none⟩)] w fun e w' => e = .returned (.bool (inl g J)) ∧ Below w.heap.size w w' := by
 have eg : ∀ args w, (callFunc 85 args).run Tryz.prog w = .ok (.enter 85 args) w := enters_of Tryz.func85 (by kernel_rfl) rfl
 obtain ⟨W0, hW0⟩ : ∃ W0, w.alloc (.cells #[.int .i64 g, .int .i64 u, .slice fa fn fc, .string t] 37) = W0 := ⟨_, rfl⟩
 have a0 : Mg W0 w.heap.size 37 g u (.slice fa fn fc) t := by subst hW0; exact Mg.new _ _ _ _ _ _
 have b0 : Below w.heap.size w W0 := by subst hW0; exact bpush (bre _) _
 have g0 : W0.heap[gb]? = some (.cells #[.slice ga gn gc] 27) := (b0.block gb (Array.getElem?_eq_some_iff.1 hg).1).trans hg
 have HS : Hid (∀ W, Below W0.heap.size W0 W → (W.cell? ⟨kb, 0, none⟩ = some (.func (.func 85) #[] #[]) ∧ W.cell? ⟨gb, 0, none⟩ = some (.slice ga gn gc)) ∧ (W.cell? ⟨w.heap.size, 0, none⟩ = some (.int .i64 g) ∧ W.cell? ⟨w.heap.size, 1, none⟩ = some (.int .i64 u) ∧ W.cell? ⟨w.heap.size, 2, none⟩ = some (.slice fa fn fc) ∧ W.cell? ⟨w.heap.size, 3, none⟩ = some (.string t))) :=
  fun W h => ⟨⟨((hk.later b0).later h).cells.1, cell_of_rowb ((h.block gb (Array.getElem?_eq_some_iff.1 g0).1).trans g0)⟩, (a0.later h).cells⟩
 have HI := hid (his.later b0)
 have HB := hid b0
 have HL := hid hl
 obtain ⟨q, hq⟩ : ∃ q, inl g J = q := ⟨_, rfl⟩
 have HQ := hid hq
 rw [hq]
 clear hq hk a0 b0 g0 his hl hg
 go_enter Tryz.func124, Tryz.ntmps124
 go_wp2_with fail
 clear hW0
 go_region_held3 (fun W => (W.cell? ⟨kb, 0, none⟩ = some (.func (.func 85) #[] #[]) ∧ W.cell? ⟨gb, 0, none⟩ = some (.slice ga gn gc)) ∧ (W.cell? ⟨w.heap.size, 0, none⟩ = some (.int .i64 g) ∧ W.cell? ⟨w.heap.size, 1, none⟩ = some (.int .i64 u) ∧ W.cell? ⟨w.heap.size, 2, none⟩ = some (.slice fa fn fc) ∧ W.cell? ⟨w.heap.size, 3, none⟩ = some (.string t)))
  ((first | exact HS.out _ (bdr (bre _)) | exact HS.out _ (bpush (bdr (bre _)) _)))
  (first
    | (go_at_call 85; refine (nm9_any _ _ _ _ _).mono ?_; rintro e w1 ⟨rfl, h⟩; subst h)
    | (go_at_call 105; refine (contains8w lo hh ga gn gc J g _ HL.out hn (HI.out.later (bpush (bdr (bre _)) _))).mono ?_; rintro e w1 ⟨rfl, h⟩; subst h; rw [HQ.out]))
 go_wp2
 go_ret
 exact ⟨rfl, btr HB.out (bpush (bdr (bre _)) _)⟩
def ixp (J : List Int) : List Z5 → Nat → Int
 | [], _ => -1
 | z :: Z, i => if inl z.1 J = true then (i : Int) else ixp J Z (i + 1)
theorem ixp_here {J : List Int} {Z : List Z5} {i : Nat} (h : i < Z.length) (e : inl Z[i].1 J = true) : ixp J (Z.drop i) i = i := by
 rw [List.drop_eq_getElem_cons h, ixp, if_pos e]
theorem ixp_on {J : List Int} {Z : List Z5} {i : Nat} (h : i < Z.length) (e : inl Z[i].1 J = false) : ixp J (Z.drop i) i = ixp J (Z.drop (i + 1)) (i + 1) := by
 rw [List.drop_eq_getElem_cons h, ixp, e]; rfl
def kpz (J : List Int) (z : Z5) : Bool := !inl z.1 J
theorem ixp_cases (J : List Int) : ∀ (Z : List Z5) (i : Nat), (ixp J Z i = -1 ∧ Z.filter (kpz J) = Z) ∨ ∃ (k : Nat) (h : k < Z.length), ixp J Z i = ((i + k : Nat) : Int) ∧ inl Z[k].1 J = true ∧ (Z.take k).filter (kpz J) = Z.take k
 | [], _ => Or.inl ⟨rfl, rfl⟩
 | z :: Z, i => by
  by_cases h : inl z.1 J = true
  ·exact Or.inr ⟨0, by simp, by rw [ixp, if_pos h]; rfl, h, rfl⟩
  ·rcases ixp_cases J Z (i + 1) with ⟨h1, h2⟩ | ⟨k, h1, h2, h3, h4⟩
   ·refine Or.inl ⟨by rw [ixp, if_neg h, h1], ?_⟩
    rw [List.filter_cons_of_pos (by simp [kpz, h]), h2]
   ·refine Or.inr ⟨k + 1, by simp; omega, by rw [ixp, if_neg h, h2]; congr 1; omega, h3, ?_⟩
    rw [List.take_succ_cons, List.filter_cons_of_pos (by simp [kpz, h]), h4]
structure Wo (W : World) (gb kb lo hh : Nat) (ga : Option Addr) (gn gc : Nat) (J : List Int) : Prop where
 len : J.length = gn
 le : gn ≤ 4194304
 is : Is lo hh W ga J
 box : W.heap[gb]? = some (.cells #[.slice ga gn gc] 27)
 kind : Kd W kb 102 85 86
theorem Wo.later {W W' : World} {gb kb lo hh : Nat} {ga : Option Addr} {gn gc : Nat} {J : List Int} (h : Wo W gb kb lo hh ga gn gc J) (hb : Below W.heap.size W W') : Wo W' gb kb lo hh ga gn gc J :=
 ⟨h.len, h.le, h.is.later hb, (hb.block gb (Array.getElem?_eq_some_iff.1 h.box).1).trans h.box, h.kind.later hb⟩
theorem Wo.grown {W W' : World} {gb kb lo hh : Nat} {ga : Option Addr} {gn gc : Nat} {J : List Int} {r : Nat} (h : Wo W gb kb lo hh ga gn gc J) (hg : W.grownBy W' (some r)) (h1 : r < lo) (h2 : r ≠ gb) (h3 : r ≠ kb) : Wo W' gb kb lo hh ga gn gc J :=
 ⟨h.len, h.le, h.is.same (Nat.le_trans h.is.1 hg.size) (fun k hk hk' => hg.block k (Nat.lt_of_lt_of_le hk' h.is.1) (fun e => by cases e; omega)), (hg.block gb (Array.getElem?_eq_some_iff.1 h.box).1 (fun e => h2 (by cases e; rfl))).trans h.box, h.kind.grown hg (fun e => h3 (by cases e; rfl))⟩
theorem Wo.call {W : World} {gb kb lo hh : Nat} {ga : Option Addr} {gn gc : Nat} {J : List Int} (h : Wo W gb kb lo hh ga gn gc J) (g u : Int) (fa : Option Addr) (fn fc : Nat) (t : ByteArray) :
  Calls Tryz.prog 124 #[.agg #[.int .i64 g, .int .i64 u, .slice fa fn fc, .string t], .pointer (some ⟨gb, 0, none⟩), .pointer (some ⟨kb, 0, none⟩)] W fun e w' => e = .returned (.bool (inl g J)) ∧ Below W.heap.size W w' :=
 wo8_any gb kb lo hh ga gn gc J g u fa fn fc t W h.len h.le h.is h.box h.kind
set_option maxHeartbeats 800000 in
set_option maxRecDepth 100000 in
theorem ixf8_any (gb kb lo hh : Nat) (ga : Option Addr) (gn gc : Nat) (J : List Int) (l1 h1 : Nat) (a : Option Addr) (n c : Nat) (Z : List Z5) (w : World) (hl : Z.length = n) (hn : n ≤ 4194304) (hz : Zr l1 h1 w a Z) (hsl : ∀ z ∈ Z, ∃ a k c, z.2.2.1 = Value.slice a k c) (hwo : Wo w gb kb lo hh ga gn gc J) :
  Calls Tryz.prog 51 #[.slice a n c, .func (.func 124) #[] #[.pointer (some ⟨gb, 0, none⟩), .pointer (some ⟨kb, 0, none⟩)]] w fun e w' => e = .returned (.int .i64 (ixp J Z 0)) ∧ Below w.heap.size w w' := by
 have eg : ∀ args w, (callFunc 124 args).run Tryz.prog w = .ok (.enter 124 args) w := enters_of Tryz.func124 (by kernel_rfl) rfl
 have HR := hid hz
 have HL := hid hl
 have HSL := hid hsl
 have HWO := hid hwo
 clear hz hl hsl hwo
 go_enter Tryz.func51, Tryz.ntmps51
 go_wp2
 go_loopw [8] (fun iv wr => ∃ (i : Nat), i ≤ n ∧ iv = .int .i64 (i : Int) ∧ Hid (ixp J Z 0 = ixp J (Z.drop i) i) ∧ Below w.heap.size w wr) (fun iv _ => n - (intOf iv).toNat)
 case atStart => exact ⟨0, Nat.zero_le _, rfl, rfl, bre _⟩
 case round =>
  obtain ⟨i, hi, rfl, HQ, hb⟩ := hrel
  by_cases hlt : i < n
  ·have hil : i < Z.length := by rw [HL.out]; exact hlt
   obtain ⟨k, o, rfl, -, hk, c0, c1, c2, c3⟩ := (HR.out.later hb).2 i hil
   have hfs := HSL.out Z[i] (List.getElem_mem hil)
   obtain ⟨p, hp⟩ : ∃ p, Z[i] = p := ⟨_, rfl⟩
   rw [hp] at c0 c1 c2 c3 hfs
   obtain ⟨y, u, f, l, t⟩ := p
   obtain ⟨fa, fn, fc, hf⟩ := hfs
   dsimp only at c0 c1 c2 c3 hf
   subst hf
   have HP := hid hp
   have HB := hid hb
   have hI : (0 : Int) ≤ (i : Int) ∧ (i : Int) < (n : Int) := by omega
   clear hp hb
   go_wp2_with fail
   refine ((HWO.out.later HB.out).call y u fa fn fc t).mono ?_; rintro e w1 ⟨rfl, hb1⟩
   have HB1 := hid (btr HB.out hb1)
   clear hb1 c0 c1 c2 c3
   obtain ⟨q, hq⟩ : ∃ q, inl y J = q := ⟨_, rfl⟩
   rw [hq]
   cases q
   ·have HE : Hid (ixp J Z 0 = ixp J (Z.drop (i + 1)) (i + 1)) := by show _ = _; rw [HQ.out, ixp_on hil (by rw [HP.out]; exact hq)]
    clear hq
    go_wp2
    go_roundw
    case rel => exact ⟨i + 1, by omega, by go_num, HE, HB1.out⟩
    case measure => simp [intOf]; omega
   ·have HE : Hid (ixp J Z 0 = i) := by show _ = _; rw [HQ.out, ixp_here hil (by rw [HP.out]; exact hq)]
    clear hq
    go_wp2
    go_ret
    exact ⟨by rw [HE.out]; rfl, HB1.out⟩
  ·have HE : Hid (ixp J Z 0 = -1) := by show _ = _; rw [HQ.out, List.drop_of_length_le (by rw [HL.out]; omega)]; rfl
   go_wp2
   go_ret
   exact ⟨by rw [HE.out]; rfl, hb⟩
theorem zc_take8 (Z : List Z5) (i : Nat) : (zc Z).take (i * 4) = zc (Z.take i) := by
 induction Z generalizing i with
 | nil => simp [zc]
 | cons z Z ih =>
  cases i with
  | zero => simp [zc]
  | succ i =>
   rw [show (i + 1) * 4 = i * 4 + 1 + 1 + 1 + 1 by omega]
   simp only [zc, List.take_succ_cons, ih]
theorem Rw.zr {W : World} {B g n cap : Nat} {Z : List Z5} (h : Rw W B g n cap Z) : Zr B W.heap.size W (some ⟨g, 0, none⟩) Z := by
 refine ⟨Nat.le_refl _, fun i hi => ?_⟩
 obtain ⟨⟨c0, c1, c2, c3⟩, _⟩ := h.spot i hi
 refine ⟨g, 0, rfl, (h.lt g rfl).1, (h.lt g rfl).2, ?_, ?_, ?_, ?_⟩ <;> rw [Nat.zero_add] <;> assumption
theorem clear8 {W : World} {B g n cap i : Nat} {R : List Z5} (h : Rw W B g n cap R) (hi : i < n) :
  ∃ W', (∀ ty, (Builtin.clear_ #[26] ty #[.slice (some ⟨g, i * 4, none⟩) (n - i) (cap - i)]).run Tryz.prog W = .ok (.tuple #[]) W') ∧ Rw W' B g i cap (R.take i) ∧ W.grownBy W' (some g) ∧ i < cap := by
 rcases h.2 with ⟨e1, _⟩ | ⟨g', cap', cur, e1, e2, e3, e4, e5, e6, e7⟩
 ·simp at e1
 ·simp only [Value.slice.injEq, Option.some.injEq, Addr.mk.injEq, and_true, true_and] at e1
  obtain ⟨rfl, rfl⟩ := e1
  obtain ⟨m, hm⟩ : ∃ m, n - i = m + 1 := ⟨n - i - 1, by omega⟩
  obtain ⟨vs, hvs⟩ : ∃ vs, (Builtin.zeroCells (Value.agg #[.int .i64 0, .int .i64 0, .slice none 0 0, .string ⟨#[]⟩]).cells (m + 1)).toList = vs := ⟨_, rfl⟩
  have hvl : vs.length = (m + 1) * 4 := by rw [← hvs]; simp [Builtin.zeroCells, Value.cells]
  have hv1 : ∀ v ∈ vs, v.oneCell' = true := by
   intro v hv
   rw [← hvs] at hv
   simp only [Builtin.zeroCells, Value.cells, Array.toList_map, List.mem_map] at hv
   obtain ⟨k, _, rfl⟩ := hv
   have hk : k % 4 = 0 ∨ k % 4 = 1 ∨ k % 4 = 2 ∨ k % 4 = 3 := by omega
   rcases hk with hk | hk | hk | hk <;> simp [hk, Value.oneCell']
  have hst := run_storeCells_at (P := Tryz.prog) g (i * 4) 37 vs 0 cur W e3 (by rw [hvl]; omega) hv1
  rw [Nat.add_zero] at hst
  obtain ⟨C, hC⟩ : ∃ C, (cur.toList.take (i * 4) ++ vs ++ cur.toList.drop (i * 4 + vs.length)).toArray = C := ⟨_, rfl⟩
  rw [hC] at hst
  refine ⟨W.setRow g C, fun ty => ?_, ?_, ⟨by simp, by simp, by simp, by simp, fun k hk hne => setRow_other W g k C (fun e => hne (by rw [e]))⟩, by omega⟩
  ·rw [hm]
   simp only [Builtin.clear_]
   simp [run_underlying Tryz.underlying26, Tryz.zeroValue37, hvs, hst]
  ·have hRl : R.length = n := h.len
   have hle : i * 4 ≤ cur.size := by omega
   refine ⟨by rw [zc_len, List.length_take, hRl]; omega, .inr ⟨g, cap, _, rfl, e2, setRow_heap W g cur C 37 (0, 0) e3, by omega, e5, ?_, ?_⟩⟩
   ·rw [← hC]
    simp [hvl]
    omega
   ·rw [← hC, List.toList_toArray, List.append_assoc, List.take_append_of_le_length (by simp; omega), List.take_take, Nat.min_self]
    have h8 : (cur.toList.take (n * 4)).take (i * 4) = (zc R).take (i * 4) := by rw [e7]
    rw [List.take_take, Nat.min_eq_left (by omega)] at h8
    rw [h8, zc_take8]
set_option maxHeartbeats 1600000 in
set_option maxRecDepth 100000 in
theorem del8_row (gb kb lo hh : Nat) (ga : Option Addr) (gn gc : Nat) (J : List Int) (B g n cap : Nat) (Z : List Z5) (w : World) (hn : n ≤ 4194304) (hsl : ∀ z ∈ Z, ∃ a k c, z.2.2.1 = Value.slice a k c) (hrow : Rw w B g n cap Z) (hwo : Wo w gb kb lo hh ga gn gc J) (h1 : g < lo) (h2 : g ≠ gb) (h3 : g ≠ kb) :
  Calls Tryz.prog 123 #[.slice (some ⟨g, 0, none⟩) n cap, .func (.func 124) #[] #[.pointer (some ⟨gb, 0, none⟩), .pointer (some ⟨kb, 0, none⟩)]] w fun e w' => e = .returned (.slice (some ⟨g, 0, none⟩) (Z.filter (kpz J)).length cap) ∧ Rw w' B g (Z.filter (kpz J)).length cap (Z.filter (kpz J)) ∧ w.grownBy w' (some g) := by
 have eg : ∀ args w, (callFunc 124 args).run Tryz.prog w = .ok (.enter 124 args) w := enters_of Tryz.func124 (by kernel_rfl) rfl
 have hl : Z.length = n := hrow.len
 have HL := hid hl
 have HSL := hid hsl
 have HWO := hid hwo
 have HRW := hid hrow
 have HC := hid (ixf8_any gb kb lo hh ga gn gc J _ _ (some ⟨g, 0, none⟩) n cap Z w hl hn hrow.zr hsl hwo)
 have HCS := hid (ixp_cases J Z 0)
 clear hrow hl hsl hwo
 go_enter Tryz.func123, Tryz.ntmps123
 go_wp2_with fail
 refine HC.out.mono ?_; rintro e w1 ⟨rfl, p1⟩
 have G1 : Hid (w.grownBy w1 (some g)) := ⟨p1.os, p1.tape, p1.output, p1.size, fun k hk _ => p1.block k hk⟩
 have R1 := hid (own_later HRW.out p1)
 rcases HCS.out with ⟨k1, k2⟩ | ⟨k, hk, k1, k2, k3⟩
 ·rw [k1]
  have HF : Hid (Z.filter (kpz J) = Z) := k2
  clear k1 k2 p1
  go_wp2
  go_ret
  rw [HF.out, HL.out]
  exact ⟨rfl, R1.out, G1.out⟩
 ·rw [k1, Nat.zero_add]
  have HK2 : Hid (∀ h : k < Z.length, inl Z[k].1 J = true) := fun _ => k2
  have HK3 := hid k3
  have hkn : k < n := by rw [← HL.out]; exact hk
  have hne : ((k : Int) == -1) = false := by simp
  clear k1 k2 k3 p1 hk
  go_wp2
  clear hne
  go_loopw [5, 6] (fun iv jv wr => ∃ (i j : Nat) (R : List Z5), i < j ∧ j ≤ n ∧ iv = .int .i64 (i : Int) ∧ jv = .int .i64 (j : Int) ∧ Rw wr B g n cap R ∧ R.take i = (Z.take j).filter (kpz J) ∧ R.drop j = Z.drop j ∧ w.grownBy wr (some g)) (fun _ jv _ => n - (intOf jv).toNat)
  case atStart =>
   refine ⟨k, k + 1, Z, by omega, by omega, rfl, by go_num, R1.out, ?_, rfl, G1.out⟩
   rw [List.take_succ_eq_append_getElem (by rw [HL.out]; exact hkn), List.filter_append, HK3.out, List.filter_cons_of_neg (by simp [kpz, HK2.out (by rw [HL.out]; exact hkn)])]
   simp
  case round =>
   obtain ⟨i, j, R, hij, hj, rfl, rfl, hR, hT, hD, hG⟩ := hrel
   have HR := hid hR
   have HT := hid hT
   have HD := hid hD
   have HG := hid hG
   have hRl := hR.len
   have HRL := hid hRl
   clear hR hT hD hG hRl
   by_cases hlt : j < n
   ·have hjl : j < R.length := by rw [HRL.out]; exact hlt
    have hjz : j < Z.length := by rw [HL.out]; exact hlt
    have hil : i < R.length := by omega
    have hRj : R[j] = Z[j] := by
     have h1 := congrArg (fun l => l[0]?) HD.out
     simp only [List.getElem?_drop, Nat.add_zero] at h1
     rw [List.getElem?_eq_getElem hjl, List.getElem?_eq_getElem hjz] at h1
     exact Option.some.inj h1
    obtain ⟨⟨c0, c1, c2, c3⟩, -⟩ := HR.out.spot j hjl
    obtain ⟨-, f0, f1, f2, f3⟩ := HR.out.spot i hil
    have hfs := HSL.out Z[j] (List.getElem_mem hjz)
    rw [hRj] at c0 c1 c2 c3
    have hst := HR.out.set i (by rw [← HRL.out]; exact hil) Z[j]
    have hTn : (Z.take (j + 1)).filter (kpz J) = (Z.take j).filter (kpz J) ++ (if kpz J Z[j] = true then [Z[j]] else []) := by
     rw [List.take_succ_eq_append_getElem hjz, List.filter_append]
     cases hq : kpz J Z[j] with
     | true => simp [hq]
     | false => simp [hq]
    have hDn : ∀ z, (R.set i z).drop (j + 1) = Z.drop (j + 1) := fun z => by
     rw [List.drop_set_of_lt (by omega)]
     have h1 := congrArg (fun l => l.drop 1) HD.out
     simpa [List.drop_drop, Nat.add_comm] using h1
    have hDn0 : R.drop (j + 1) = Z.drop (j + 1) := by
     have h1 := congrArg (fun l => l.drop 1) HD.out
     simpa [List.drop_drop, Nat.add_comm] using h1
    have hTs : ∀ z, (R.set i z).take (i + 1) = R.take i ++ [z] := fun z => by
     rw [List.take_succ_eq_append_getElem (by simpa using hil), List.take_set_of_le (Nat.le_refl _)]
     simp
    obtain ⟨p, hp⟩ : ∃ p, Z[j] = p := ⟨_, rfl⟩
    rw [hp] at c0 c1 c2 c3 hfs hst hTn
    obtain ⟨y, u, f, l, t⟩ := p
    obtain ⟨fa, fn, fc, hf⟩ := hfs
    dsimp only at c0 c1 c2 c3 hf
    subst hf
    dsimp only at hst
    have HST := hid hst
    have HTN := hid hTn
    have HDN := hid hDn
    have HDN0 := hid hDn0
    have HTS := hid hTs
    have hI : (0 : Int) ≤ (j : Int) ∧ (j : Int) < (n : Int) := by omega
    have hI2 : (0 : Int) ≤ (i : Int) ∧ (i : Int) < (n : Int) := by omega
    obtain ⟨W2, hW2⟩ : ∃ W2, wr.alloc (.cells #[.int .i64 y, .int .i64 u, .slice fa fn fc, .string t] 37) = W2 := ⟨_, rfl⟩
    have a2 : Mg W2 wr.heap.size 37 y u (.slice fa fn fc) t := by subst hW2; exact Mg.new _ _ _ _ _ _
    have b2 : Below wr.heap.size wr W2 := by subst hW2; exact bpush (bre _) _
    have A2 := hid a2
    have B2 := hid b2
    have ca := a2.cells
    have HC2 := hid (((HWO.out.grown HG.out h1 h2 h3).later b2).call y u fa fn fc t)
    clear hp hst hTn hDn hDn0 hTs a2 b2
    go_wp2_with fail
    clear hW2 c0 c1 c2 c3 ca f0 f1 f2 f3
    refine HC2.out.mono ?_; rintro e w3 ⟨rfl, p3⟩
    have B3 := hid (btr B2.out p3)
    have R3 : Hid (Rw w3 B g n cap R) := own_later HR.out B3.out
    have G3 : Hid (w.grownBy w3 (some g)) := gbl HG.out B3.out
    have ca := (A2.out.later p3).cells
    obtain ⟨-, f0, f1, f2, f3⟩ := R3.out.spot i hil
    obtain ⟨⟨c0, c1, c2, c3⟩, -⟩ := R3.out.spot i hil
    obtain ⟨q, hq⟩ : ∃ q, inl y J = q := ⟨_, rfl⟩
    rw [hq]
    have HQ := hid hq
    clear hq p3
    cases q
    ·have HR5 := hid (R3.out.set i (by rw [← HRL.out]; exact hil) (y, u, .slice fa fn fc, l, t))
     dsimp only at HR5
     go_wp2
     go_roundw
     case rel =>
      refine ⟨i + 1, j + 1, R.set i (y, u, .slice fa fn fc, l, t), by omega, by omega, by go_num, by go_num, HR5.out, ?_, HDN.out _, wst (wst (wst (wst G3.out _ _) _ _) _ _) _ _⟩
      rw [HTS.out, HTN.out, if_pos (by simp [kpz, HQ.out]), HT.out]
     case measure => simp [intOf]; omega
    ·go_wp2
     go_roundw
     case rel =>
      refine ⟨i, j + 1, R, by omega, by omega, rfl, by go_num, R3.out, ?_, HDN0.out, G3.out⟩
      rw [HTN.out, if_neg (by simp [kpz, HQ.out]), List.append_nil, HT.out]
     case measure => simp [intOf]; omega
   ·have hjn : j = n := by omega
    subst hjn
    obtain ⟨W5, hcl, r5, g5, hic⟩ := clear8 HR.out hij
    have hci : ¬ cap = i := by omega
    have HF : Hid (R.take i = Z.filter (kpz J)) := by
     show _ = _
     rw [HT.out, List.take_of_length_le (by rw [HL.out]; exact Nat.le_refl _)]
    have HFL : Hid ((Z.filter (kpz J)).length = i) := by
     show _ = _
     rw [← HF.out, List.length_take, HRL.out]
     omega
    have R5 := hid r5
    have G5 : Hid (w.grownBy W5 (some g)) := ⟨g5.os.trans HG.out.os, g5.tape.trans HG.out.tape, g5.output.trans HG.out.output, Nat.le_trans HG.out.size g5.size, fun q hq hne => (g5.block q (Nat.lt_of_lt_of_le hq HG.out.size) hne).trans (HG.out.block q hq hne)⟩
    clear r5 g5
    go_wp2
    go_ret
    rw [HFL.out, ← HF.out]
    exact ⟨rfl, R5.out, G5.out⟩
set_option maxHeartbeats 1600000 in
set_option maxRecDepth 100000 in
theorem del8_nil (gb kb lo hh : Nat) (ga : Option Addr) (gn gc : Nat) (J : List Int) (w : World) (hwo : Wo w gb kb lo hh ga gn gc J) :
  Calls Tryz.prog 123 #[.slice none 0 0, .func (.func 124) #[] #[.pointer (some ⟨gb, 0, none⟩), .pointer (some ⟨kb, 0, none⟩)]] w fun e w' => e = .returned (.slice none 0 0) ∧ Below w.heap.size w w' := by
 have HC := hid (ixf8_any gb kb lo hh ga gn gc J 0 w.heap.size none 0 0 [] w rfl (by omega) ⟨Nat.le_refl _, fun i h => by simp at h⟩ (fun z hz => by cases hz) hwo)
 clear hwo
 go_enter Tryz.func123, Tryz.ntmps123
 go_wp2_with fail
 refine HC.out.mono ?_; rintro e w1 ⟨rfl, p1⟩
 have P1 := hid p1
 rw [show ixp J [] 0 = -1 from rfl]
 clear p1
 go_wp2
 go_ret
 exact ⟨rfl, P1.out⟩
theorem OwZ.less {W W' : World} {B g n c : Nat} {Z : List Z5} (h : OwZ W B (.slice (some ⟨g, 0, none⟩) n c) Z) (f : Z5 → Bool) (hg : W.grownBy W' (some g)) (hr : Rw W' B g (Z.filter f).length c (Z.filter f)) : OwZ W' B (.slice (some ⟨g, 0, none⟩) (Z.filter f).length c) (Z.filter f) := by
 refine ⟨hr, fun z hz => ?_, fun z hz => ?_, h.apart.sublist List.filter_sublist⟩
 ·have hm := (List.mem_filter.1 hz).1
  exact own_kept (h.each z hm) hg (fun j hj e => h.off z hm j (by cases e; rfl) hj)
 ·exact fun j hj => h.off z (List.mem_filter.1 hz).1 j hj
theorem del8_any (gb kb lo hh : Nat) (ga : Option Addr) (gn gc : Nat) (J : List Int) (B : Nat) (v : Value) (Z : List Z5) (w : World) (hn : Z.length ≤ 4194304) (ho : OwZ w B v Z) (hwo : Wo w gb kb lo hh ga gn gc J) (h1 : ∀ j, v.ownBlock = some j → j < lo ∧ j ≠ gb ∧ j ≠ kb) :
  Calls Tryz.prog 123 #[v, .func (.func 124) #[] #[.pointer (some ⟨gb, 0, none⟩), .pointer (some ⟨kb, 0, none⟩)]] w fun e w' => ∃ v', e = .returned v' ∧ OwZ w' B v' (Z.filter (kpz J)) ∧ w.grownBy w' v.ownBlock ∧ v'.ownBlock = v.ownBlock := by
 rcases ho.row.2 with ⟨e1, e2⟩ | ⟨g, cap, cur, e1, e2, e3, e4, e5, e6, e7⟩
 ·obtain rfl : Z = [] := List.eq_nil_of_length_eq_zero e2
  subst e1
  refine (del8_nil gb kb lo hh ga gn gc J w hwo).mono ?_
  rintro e w' ⟨rfl, hb⟩
  exact ⟨_, rfl, ho.later hb, ⟨hb.os, hb.tape, hb.output, hb.size, fun k hk _ => hb.block k hk⟩, rfl⟩
 ·subst e1
  obtain ⟨k1, k2, k3⟩ := h1 g rfl
  refine (del8_row gb kb lo hh ga gn gc J B g Z.length cap Z w hn ho.sl ho.row hwo k1 k2 k3).mono ?_
  rintro e w' ⟨rfl, r', g'⟩
  exact ⟨_, rfl, ho.less (kpz J) g' r', g', rfl⟩
set_option maxHeartbeats 1600000 in
set_option maxRecDepth 100000 in
theorem without9_any (lo hh : Nat) (ga : Option Addr) (gn gc : Nat) (J : List Int) (B : Nat) (v : Value) (Z : List Z5) (w : World) (hn : Z.length ≤ 4194304) (ho : OwZ w B v Z) (hl : J.length = gn) (hgn : gn ≤ 4194304) (his : Is lo hh w ga J) (h1 : ∀ j, v.ownBlock = some j → j < lo) :
  Calls Tryz.prog 88 #[.agg #[.func (.func 85) #[] #[], .func (.func 86) #[] #[]], v, .slice ga gn gc] w fun e w' => ∃ v', e = .returned v' ∧ OwZ w' B v' (Z.filter (kpz J)) ∧ w.grownBy w' v.ownBlock ∧ v'.ownBlock = v.ownBlock := by
 obtain ⟨W0, hW0⟩ : ∃ W0, (w.alloc (.cells #[.func (.func 85) #[] #[], .func (.func 86) #[] #[]] 102)).alloc (.cells #[.slice ga gn gc] 27) = W0 := ⟨_, rfl⟩
 have b0 : Below w.heap.size w W0 := by subst hW0; exact bpush (bpush (bre _) _) _
 have k0 : Kd W0 w.heap.size 102 85 86 := by
  subst hW0
  show _ = _
  rw [Below.heap_alloc _ _ _ (by simp)]
  exact heap_alloc_new w _
 have x0 : W0.heap[w.heap.size + 1]? = some (.cells #[.slice ga gn gc] 27) := by
  subst hW0
  have h := heap_alloc_new (w.alloc (.cells #[.func (.func 85) #[] #[], .func (.func 86) #[] #[]] 102)) (.cells #[.slice ga gn gc] 27)
  simpa using h
 have hwo : Wo W0 (w.heap.size + 1) w.heap.size lo hh ga gn gc J := ⟨hl, hgn, his.later b0, x0, k0⟩
 have HC := hid (del8_any (w.heap.size + 1) w.heap.size lo hh ga gn gc J B v Z W0 hn (ho.later b0) hwo (fun j hj => ⟨h1 j hj, by have := (ho.row.lt j hj).2; omega, by have := (ho.row.lt j hj).2; omega⟩))
 have B0 := hid b0
 obtain ⟨va, vc, hv⟩ := ho.shape
 subst hv
 clear b0 k0 x0 hwo ho hl hgn his h1
 go_enter Tryz.func88, Tryz.ntmps88
 go_wp2_with fail
 clear hW0
 refine HC.out.mono ?_; rintro e w1 ⟨v', rfl, o1, g1, e1⟩
 have O1 := hid o1
 have E1 := hid e1
 have G1 : Hid (w.grownBy w1 (Value.ownBlock (.slice va Z.length vc))) := ⟨g1.os.trans B0.out.os, g1.tape.trans B0.out.tape, g1.output.trans B0.out.output, Nat.le_trans B0.out.size g1.size, fun k hk hne => (g1.block k (Nat.lt_of_lt_of_le hk B0.out.size) hne).trans (B0.out.block k hk)⟩
 clear o1 g1 e1
 go_wp2
 go_ret
 exact ⟨v', rfl, O1.out, G1.out, E1.out⟩
def nst (A B : List M4) (na nb : Int) (s : List M4 × Int) (m : M4) : List M4 × Int :=
 if kep A B na nb m.1 = true then (s.1 ++ [m], s.2) else (s.1 ++ [stu m s.2], w64 (s.2 + 1))
theorem nfold_snoc (A B : List M4) (na nb : Int) (M : List M4) (s : List M4 × Int) (m : M4) : (M ++ [m]).foldl (nst A B na nb) s = nst A B na nb (M.foldl (nst A B na nb) s) m := by rw [List.foldl_append]; rfl
theorem nfold_gids (A B : List M4) (na nb : Int) : ∀ (M : List M4) (s : List M4 × Int), (M.foldl (nst A B na nb) s).1.map (·.1) = s.1.map (·.1) ++ M.map (·.1)
 | [], s => by simp
 | m :: M, s => by
  rw [List.foldl_cons, nfold_gids A B na nb M]
  unfold nst
  split <;> simp [stu]
theorem jms_nst (A B : List M4) (GA GB : List Int) (na nb : Int) : ∀ (gs : List Int) (s t : List M4 × Int), (∀ g ∈ gs, (gm A B g).1 = g) → s.2 = t.2 → (∀ m, m ∈ s.1 ↔ m ∈ t.1) →
  (gs.foldl (jst A B GA GB na nb) s).2 = (((gs.map (gm A B)).filter (fun m => !(inl m.1 GA || inl m.1 GB))).foldl (nst A B na nb) t).2 ∧ ∀ m, m ∈ (gs.foldl (jst A B GA GB na nb) s).1 ↔ m ∈ (((gs.map (gm A B)).filter (fun m => !(inl m.1 GA || inl m.1 GB))).foldl (nst A B na nb) t).1
 | [], s, t, _, h2, h3 => ⟨h2, h3⟩
 | g :: gs, s, t, h1, h2, h3 => by
  have hg := h1 g (by simp)
  have hr : ∀ x ∈ gs, (gm A B x).1 = x := fun x hx => h1 x (by simp [hx])
  rw [List.foldl_cons, List.map_cons]
  by_cases hgo : (inl g GA || inl g GB) = true
  ·rw [List.filter_cons_of_neg (by rw [hg, hgo]; simp)]
   have hs : jst A B GA GB na nb s g = s := by unfold jst; rw [if_pos hgo]
   rw [hs]
   exact jms_nst A B GA GB na nb gs s t hr h2 h3
  ·rw [List.filter_cons_of_pos (by rw [hg]; simpa using hgo), List.foldl_cons]
   refine jms_nst A B GA GB na nb gs _ _ hr ?_ ?_
   ·unfold jst nst
    rw [if_neg hgo, hg]
    by_cases hk : kep A B na nb g = true
    ·rw [if_pos hk, if_pos hk]; exact h2
    ·rw [if_neg hk, if_neg hk, h2]
   ·intro m
    unfold jst nst
    rw [if_neg hgo, hg]
    by_cases hk : kep A B na nb g = true
    ·rw [if_pos hk, if_pos hk]
     show m ∈ ptm _ _ ↔ m ∈ _ ++ _
     rw [ptm_mem, List.mem_append, h3]
     simp [or_comm]
    ·rw [if_neg hk, if_neg hk]
     show m ∈ ptm _ _ ↔ m ∈ _ ++ _
     rw [ptm_mem, List.mem_append, h3, h2]
     simp [or_comm]
theorem inl_asl (g : Int) (GA GB : List Int) : inl g (asl (GA ++ GB)) = (inl g GA || inl g GB) := by
 have h : inl g (asl (GA ++ GB)) = inl g (GA ++ GB) := in_cong (asl_mem _ g)
 rw [h]
 cases h1 : inl g GA <;> cases h2 : inl g GB
 ·show inl g (GA ++ GB) = false
  rw [in_false] at h1 h2 ⊢
  simp [h1, h2]
 all_goals
  simp only [Bool.or_true, Bool.true_or]
  rw [in_mem, List.mem_append]
  first
   | exact Or.inl ((in_mem _ _).1 h1)
   | exact Or.inr ((in_mem _ _).1 h2)
theorem jms_sorted {A B : List M4} {GA GB : List Int} {na nb : Int} {Y : List M4} (hp : ∀ m, m ∈ Y ↔ m ∈ (((asl (A.map (·.1) ++ B.map (·.1))).map (gm A B)).filter (fun m => !(inl m.1 GA || inl m.1 GB)) |>.foldl (nst A B na nb) ([], mx8 na nb)).1) (hy : Y.Pairwise ug) : Y = (jms A B GA GB na nb (asl (A.map (·.1) ++ B.map (·.1)))).1 := by
 have hgid : ∀ g ∈ asl (A.map (·.1) ++ B.map (·.1)), (gm A B g).1 = g := fun g hg => gm_gid (gids_have hg)
 have hj := jms_nst A B GA GB na nb (asl (A.map (·.1) ++ B.map (·.1))) ([], mx8 na nb) ([], mx8 na nb) hgid rfl (fun _ => Iff.rfl)
 refine strict_same ug_asym hy ?_ (fun m => ?_)
 ·exact (jms_ug A B GA GB na nb _ _ (asl_asc _) (fun g hg => gids_have hg) List.Pairwise.nil (fun y hy => by cases hy)).1
 ·rw [hp]
  exact (hj.2 m).symm
theorem ins8_nil (fv : Value) (w : World) : Calls Tryz.prog 148 #[.slice none 0 0, .int .i64 0, .int .i64 0, fv] w fun e w' => (∃ v, e = .returned v) ∧ w' = w := by
 go_enter Tryz.func148, Tryz.ntmps148
 go_wp2
 refine wp_loop_rounds 1 ?_
 rw [rounds_succ]
 go_wp2
 go_end0
 exact ⟨⟨_, rfl⟩, rfl⟩
theorem stable8_nil (fv : Value) (w : World) : Calls Tryz.prog 125 #[.slice none 0 0, .int .i64 0, fv] w fun e w' => (∃ v, e = .returned v) ∧ w' = w := by
 go_enter Tryz.func125, Tryz.ntmps125
 go_wp2
 refine wp_loop_rounds 1 ?_
 rw [rounds_succ]
 go_wp2_with fail
 refine (ins8_nil fv _).mono ?_; rintro e w1 ⟨⟨v, rfl⟩, h⟩
 subst h
 go_wp2
 refine wp_loop_rounds 1 ?_
 rw [rounds_succ]
 go_wp2
 go_end0
 exact ⟨⟨_, rfl⟩, rfl⟩
theorem sortM_nil (fv : Value) (w : World) : Calls Tryz.prog 90 #[.slice none 0 0, fv] w fun e w' => (∃ v, e = .returned v) ∧ w' = w := by
 go_enter Tryz.func90, Tryz.ntmps90
 go_wp2_with fail
 refine (stable8_nil fv _).mono ?_; rintro e w1 ⟨⟨v, rfl⟩, h⟩
 subst h
 go_wp2
 go_end0
 exact ⟨⟨_, rfl⟩, rfl⟩
theorem byUid8_any (g u : Int) (f : Value) (t : ByteArray) (g' u' : Int) (f' : Value) (t' : ByteArray) (w : World) :
  Calls Tryz.prog 91 #[.agg #[.int .i64 g, .int .i64 u, f, .string t], .agg #[.int .i64 g', .int .i64 u', f', .string t']] w fun e w' => e = .returned (.int .i64 (cpr u u')) ∧ Below w.heap.size w w' := by
 obtain ⟨W0, hW0⟩ : ∃ W0, ((w.alloc (.cells #[.int .i64 g, .int .i64 u, f, .string t] 37)).alloc (.cells #[.int .i64 g', .int .i64 u', f', .string t'] 37)) = W0 := ⟨_, rfl⟩
 obtain ⟨a0, a1, b0⟩ := two_mails w _ _ _ _ _ _ _ _ _ _ W0 hW0
 have c0 := a0.cells
 have c1 := a1.cells
 have B0 := hid b0
 clear a0 a1 b0
 go_enter Tryz.func91, Tryz.ntmps91
 go_wp2_with fail
 clear hW0
 refine (compare_any u u' _).mono ?_; rintro e w1 ⟨rfl, h⟩
 subst h
 obtain ⟨q, hq⟩ : ∃ q, cpr u u' = q := ⟨_, rfl⟩
 rw [hq]
 have HQ := hid hq
 clear hq
 go_wp2
 go_ret
 exact ⟨by rw [HQ.out]; rfl, B0.out⟩
theorem stb8_any (B : Nat) (v : Value) (Z : List Z5) (w : World) (hn : Z.length ≤ 4194304) (ho : OwZ w B v Z) (hz : Z.Pairwise (fun x y => x.1 < y.1)) :
  Calls Tryz.prog 90 #[v, .func (.func 91) #[] #[]] w fun e w' => (∃ u, e = .returned u) ∧ ∃ Z', Z'.Perm Z ∧ (Z'.map md).Pairwise ug ∧ OwZ w' B v Z' ∧ w.grownBy w' v.ownBlock := by
 rcases ho.row.2 with ⟨e1, e2⟩ | ⟨g, cap, cur, e1, e2, e3, e4, e5, e6, e7⟩
 ·obtain rfl : Z = [] := List.eq_nil_of_length_eq_zero e2
  subst e1
  refine (sortM_nil _ w).mono ?_
  rintro e w' ⟨hv, rfl⟩
  exact ⟨hv, [], List.Perm.refl _, List.Pairwise.nil, ho, ⟨rfl, rfl, rfl, Nat.le_refl _, fun _ _ _ => rfl⟩⟩
 ·subst e1
  have eg : ∀ args w, (callFunc 91 args).run Tryz.prog w = .ok (.enter 91 args) w := enters_of Tryz.func91 (by kernel_rfl) rfl
  refine (sortM_any (fun z => z.2.1) (fun x y => x.1 < y.1) 91 #[] eg B g Z.length cap Z w hn ho.sl ho.row (List.Pairwise.imp (R := fun x y : Z5 => x.1 < y.1) (S := fun x y => x.2.1 = y.2.1 → x.1 < y.1) (fun {a b} h _ => h) hz) (fun gA uA aA kA cA lA tA gB uB aB kB cB lB tB W _ => byUid8_any gA uA _ tA gB uB _ tB W)).mono ?_
  rintro e w' ⟨hv, Z', h1, h2, h3, h4⟩
  refine ⟨hv, Z', h1, List.pairwise_map.2 (h2.imp (fun {a b} h => h)), ?_, h4⟩
  have hl : Z'.length = Z.length := h1.length_eq
  refine ⟨by rw [hl]; exact h3, fun z hz => ?_, fun z hz => ho.off z (h1.mem_iff.1 hz), (h1.pairwise_iff (fun h => h.symm)).2 ho.apart⟩
  exact own_kept (ho.each z (h1.mem_iff.1 hz)) h4 (fun j hj e => ho.off z (h1.mem_iff.1 hz) j (by cases e; rfl) hj)
end Go.Proofs.YtmpcmllfgogegaaGreat
