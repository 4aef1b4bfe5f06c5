/- Tkz. -/
import Derived.Test.YtmpcmllfgogegaaGreatjMk
import Derived.Shelf.Spec.SlicesInsertGrow
import Derived.Shelf.Slices.SearchI
import Derived.Shelf.Slices.Empties
namespace Go.Proofs.YtmpcmllfgogegaaGreat
open Go.RowKit Go.ChangeMaps
def pin (x : Int) (G : List Int) : List Int := G.filter (fun y => decide (y < x)) ++ x :: G.filter (fun y => decide (x < y))
theorem asc_low {G : List Int} {a : Int} (h : asc a G = true) : ∀ y ∈ G, a < y := by
 induction G generalizing a with
 | nil => intro y hy; simp at hy
 | cons x G ih =>
  simp only [asc, Bool.and_eq_true, decide_eq_true_eq] at h
  intro y hy
  rcases List.mem_cons.1 hy with rfl | hy
  ·exact h.1.1
  ·have := ih h.2 y hy
   omega
theorem asc_pair {G : List Int} {a : Int} (h : asc a G = true) : G.Pairwise (· < ·) := by
 induction G generalizing a with
 | nil => exact List.Pairwise.nil
 | cons x G ih =>
  simp only [asc, Bool.and_eq_true, decide_eq_true_eq] at h
  exact List.pairwise_cons.2 ⟨fun y hy => asc_low h.2 y hy, ih h.2⟩
theorem inl_not {x : Int} {G : List Int} (h : inl x G = false) : ∀ y ∈ G, y ≠ x := by
 induction G with
 | nil => intro y hy; simp at hy
 | cons z G ih =>
  simp only [inl, Bool.or_eq_false_iff, decide_eq_false_iff_not] at h
  intro y hy
  rcases List.mem_cons.1 hy with rfl | hy
  ·exact h.1
  ·exact ih h.2 y hy
theorem pin_place {x : Int} {G : List Int} (hp : G.Pairwise (· < ·)) (hn : ∀ y ∈ G, y ≠ x) : pin x G = G.take (G.countP (· < x)) ++ x :: G.drop (G.countP (· < x)) := by
 unfold pin
 have key : ∀ {G : List Int}, G.Pairwise (· < ·) → (∀ y ∈ G, y ≠ x) → G.filter (fun y => decide (y < x)) = G.take (G.countP (· < x)) ∧ G.filter (fun y => decide (x < y)) = G.drop (G.countP (· < x)) := by
  intro G
  induction G with
  | nil => intros; exact ⟨rfl, rfl⟩
  | cons a G ih =>
   intro hp hn
   obtain ⟨h1, h2⟩ := List.pairwise_cons.1 hp
   obtain ⟨i1, i2⟩ := ih h2 (fun y hy => hn y (List.mem_cons_of_mem _ hy))
   by_cases hax : a < x
   ·have hxa : ¬ x < a := by omega
    rw [List.filter_cons_of_pos (by simpa using hax), List.filter_cons_of_neg (by simpa using hxa), List.countP_cons_of_pos (by simpa using hax), List.take_succ_cons, List.drop_succ_cons, i1, i2]
    exact ⟨rfl, rfl⟩
   ·have hxa : x < a := by have := hn a (List.mem_cons_self ..); omega
    have hall : ∀ y ∈ G, x < y := fun y hy => by have := h1 y hy; omega
    have hc : G.countP (· < x) = 0 := List.countP_eq_zero.2 (fun y hy => by have := hall y hy; simp; omega)
    rw [List.filter_cons_of_neg (by simpa using hax), List.filter_cons_of_pos (by simpa using hxa), List.countP_cons_of_neg (by simpa using hax), hc, i1, i2, hc]
    exact ⟨rfl, rfl⟩
 rw [(key hp hn).1, (key hp hn).2]
def tkOk (g : Int) (nm : ByteArray) (t b nx : Int) (L : List M4) (G : List Int) (gid : Int) : Bool :=
 bxOk g nm t b nx L G && (L.any (fun m => decide (m.1 = gid)) && decide (G.length < 40))
def tkL (p : Bool) (L : List M4) (gid : Int) : List M4 := if p = true then L.filter (fun m => decide (m.1 ≠ gid)) else L
def tkG (p : Bool) (G : List Int) (gid : Int) : List Int := if p = true then pin gid G else G
theorem tkL_no (L : List M4) (gid : Int) : tkL false L gid = L := by rw [tkL, if_neg (by decide)]
theorem tkG_no (G : List Int) (gid : Int) : tkG false G gid = G := by rw [tkG, if_neg (by decide)]
theorem tkL_split {A C : List M4} {m : M4} {gid : Int} (hm : m.1 = gid) (ha : ∀ x ∈ A, x.1 ≠ gid) (hc : ∀ x ∈ C, x.1 ≠ gid) : tkL true (A ++ m :: C) gid = A ++ C := by
 rw [tkL, if_pos rfl, List.filter_append, List.filter_cons_of_neg (by simpa using hm), List.filter_eq_self.2 (fun x hx => by simpa using ha x hx), List.filter_eq_self.2 (fun x hx => by simpa using hc x hx)]
theorem tk_sub (p : Bool) (L : List M4) (gid : Int) : (tkL p L gid).Sublist L := by
 unfold tkL
 split
 ·exact List.filter_sublist
 ·exact List.Sublist.refl _
theorem upr_sub {K L : List M4} (h : K.Sublist L) (hs : Upr L) : Upr K := List.Pairwise.sublist h hs
theorem cell_one_int (w : World) (n : Int) (e : Nat) : ∀ (j : Nat) (u : Value), ([Value.int .i64 n] : List Value)[j]? = some u → (w.alloc (.cells #[.int .i64 n] e)).cell? ((⟨w.heap.size, 0, none⟩ : Addr).add j) = some u := by
 intro j u hj
 match j, hj with
 | 0, hj =>
  simp only [List.getElem?_cons_zero, Option.some.injEq] at hj
  subst hj
  exact cell_of_row _ w.heap.size 0 _ _ _ (heap_alloc_new w _)
 | j + 1, hj => simp at hj
theorem wpList_append_int (w : World) {ops : Array Oper} {rest : List Oper} {o : Oper} {a : Act} {Q : Exit → Act → World → Prop} (hgd : o.guard = none) (s x : Operand)
  (ho : o.op = .call { callee := .builtin .append, args := #[s, x], argTypes := #[27, 27] })
  (base : Nat) (v : Value) (bs : List Int) (hs : a.eval s = v) (hown : OwI w base v bs) (n : Int)
  (hx : a.eval x = .slice (some ⟨w.heap.size, 0, none⟩) 1 1) (hlen : bs.length ≤ 2097154) (hbase : base ≤ w.heap.size)
  (h : ∀ v' w', OwI w' base v' (bs ++ [n]) → Below base w w' → wpList Tryz.prog ops Q rest (a.put o.dst v') w') :
  wpList Tryz.prog ops Q (o :: rest) a (w.alloc (.cells #[.int .i64 n] 3)) := by
 obtain ⟨i0, hi, hz0, hz1, hz2⟩ := info_parts3 info_int
 refine wpList_append_own _ hgd s x 27 ho base 3 i0 (.int .i64 0) 1 8 Tryz.underlying27 hi hz0 hz1 hz2 rfl (by decide) v _ _ hs (hown.alloc _) ⟨w.heap.size, 0, none⟩ 1 1 [.int .i64 n] hx rfl (cell_one_int _ _ _) (by intro u hu; simp at hu; subst hu; rfl) (by unfold maxLen; omega) (by omega) (by simp; omega) ?_
 intro v' w' hown' hg _
 refine h v' w' (by simpa [OwI] using hown') (((Below.refl base w).alloc hbase _).grown hg (by simp; omega) (fun k hk => (hown.lt k hk).1))
theorem filter_take {G : List Int} {i : Nat} (h : i < G.length) (f : Int → Bool) : (G.take (i + 1)).filter f = (G.take i).filter f ++ (if f G[i] = true then [G[i]] else []) := by
 rw [List.take_succ_eq_append_getElem h, List.filter_append]
 cases hf : f G[i] with
 | true => simp [hf]
 | false => simp [hf]
theorem gfl_len (G : List Int) (f : Int → Bool) (i : Nat) : ((G.take i).filter f).length ≤ G.length :=
 Nat.le_trans (List.length_filter_le _ _) (by rw [List.length_take]; omega)
set_option maxHeartbeats 1600000 in
set_option maxRecDepth 100000 in
theorem l06Put_any (lo hh : Nat) (ga : Option Addr) (gn gc : Nat) (G : List Int) (x : Int) (w : World) (hgl : G.length = gn) (hgn : gn ≤ 1048576) (hs : Is lo hh w ga G) :
  Calls Tryz.prog 61 #[.slice ga gn gc, .int .i64 x] w fun e w' => ∃ gv, e = .returned gv ∧ OwI w' w.heap.size gv (pin x G) ∧ Below w.heap.size w w' := by
 have HGL := hid hgl
 have HIS := hid hs
 clear hgl hs
 go_enter Tryz.func61, Tryz.ntmps61
 go_wp2
 go_loopw [5, 6] (fun ov iv wr => ∃ i : Nat, i ≤ gn ∧ iv = .int .i64 (i : Int) ∧ OwI wr w.heap.size ov ((G.take i).filter (fun y => decide (y < x))) ∧ Below w.heap.size w wr) (fun _ iv _ => gn - (intOf iv).toNat)
 case atStart => exact ⟨0, Nat.zero_le _, rfl, by simpa using ownI_empty w _ (Nat.le_refl _), bpush (bre _) _⟩
 case round =>
  obtain ⟨i, hi, rfl, hown, hb⟩ := hrel
  have HO := hid hown
  have HB := hid hb
  have HSZ := hid hb.size
  clear hown hb
  by_cases hlt : i < gn
  ·have hil : i < G.length := by rw [HGL.out]; exact hlt
   obtain ⟨k, o, rfl, hk, c⟩ := (HIS.out.later HB.out).at hil
   have hft := filter_take hil (fun y => decide (y < x))
   obtain ⟨y, hy⟩ : ∃ y, G[i] = y := ⟨_, rfl⟩
   rw [hy] at c hft
   have HL := hid (gfl_len G (fun y => decide (y < x)) i)
   clear hy
   have hI : (0 : Int) ≤ (i : Int) ∧ (i : Int) < (gn : Int) := by omega
   by_cases hyx : y < x
   ·rw [if_pos (by simpa using hyx)] at hft
    have HFT := hid hft
    clear hft
    go_wp2_with (at_builtin; refine wpList_append_int wr rfl (.tmp 21) (.tmp 26) rfl w.heap.size _ _ (by rfl) HO.out y rfl (by have h1 := HL.out; have h2 := HGL.out; omega) HSZ.out ?_; intro v4 w4 hown4 hb4; have HO4 := hid hown4; have HB4 := hid hb4; clear hown4 hb4)
    go_roundw
    case rel => exact ⟨i + 1, by omega, by go_num, by rw [HFT.out]; exact HO4.out, HB.out.trans HB4.out⟩
    case measure => simp [intOf]; omega
   ·rw [if_neg (by simpa using hyx), List.append_nil] at hft
    have HFT := hid hft
    clear hft
    go_wp2
    go_roundw
    case rel => exact ⟨i + 1, by omega, by go_num, by rw [HFT.out]; exact HO.out, HB.out⟩
    case measure => simp [intOf]; omega
  ·have HE : Hid (G.take i = G) := List.take_of_length_le (by rw [HGL.out]; omega)
   have HL := hid (gfl_len G (fun y => decide (y < x)) i)
   go_wp2_with (at_builtin; refine wpList_append_int wr rfl (.tmp 28) (.tmp 30) rfl w.heap.size _ _ (by rfl) HO.out x rfl (by have h1 := HL.out; have h2 := HGL.out; omega) HSZ.out ?_; intro v4 w4 hown4 hb4; have HO4 := hid hown4; have HB4 := hid hb4; clear hown4 hb4)
   have HB5 := hid (HB.out.trans HB4.out)
   have HO5 : Hid (OwI w4 w.heap.size v4 (G.filter (fun y => decide (y < x)) ++ [x])) := by
    have h := HO4.out
    rw [HE.out] at h
    exact h
   have hln : (G.filter (fun y => decide (y < x))).length ≤ G.length := List.length_filter_le _ _
   have HLN := hid hln
   clear hln HO HB HSZ HO4 HB4 HE HL
   go_loopw [5, 7] (fun ov iv wr => ∃ i : Nat, i ≤ gn ∧ iv = .int .i64 (i : Int) ∧ OwI wr w.heap.size ov (G.filter (fun y => decide (y < x)) ++ x :: (G.take i).filter (fun y => decide (x < y))) ∧ Below w.heap.size w wr) (fun _ iv _ => gn - (intOf iv).toNat)
   case atStart => exact ⟨0, Nat.zero_le _, rfl, by simpa using HO5.out, HB5.out⟩
   case round =>
    obtain ⟨i, hi, rfl, hown, hb⟩ := hrel
    have HO := hid hown
    have HB := hid hb
    have HSZ := hid hb.size
    clear hown hb
    by_cases hlt : i < gn
    ·have hil : i < G.length := by rw [HGL.out]; exact hlt
     obtain ⟨k, o, rfl, hk, c⟩ := (HIS.out.later HB.out).at hil
     have hft := filter_take hil (fun y => decide (x < y))
     obtain ⟨y, hy⟩ : ∃ y, G[i] = y := ⟨_, rfl⟩
     rw [hy] at c hft
     have HL := hid (gfl_len G (fun y => decide (x < y)) i)
     clear hy
     have hI : (0 : Int) ≤ (i : Int) ∧ (i : Int) < (gn : Int) := by omega
     by_cases hyx : x < y
     ·rw [if_pos (by simpa using hyx)] at hft
      have HFT := hid hft
      clear hft
      go_wp2_with (at_builtin; refine wpList_append_int wr rfl (.tmp 44) (.tmp 49) rfl w.heap.size _ _ (by rfl) HO.out y rfl (by have h1 := HL.out; have h2 := HGL.out; have h3 := HLN.out; rw [List.length_append, List.length_cons]; omega) HSZ.out ?_; intro v4 w4 hown4 hb4; have HO4 := hid hown4; have HB4 := hid hb4; clear hown4 hb4)
      go_roundw
      case rel => exact ⟨i + 1, by omega, by go_num, by rw [HFT.out]; have h := HO4.out; rw [List.append_assoc, List.cons_append] at h; exact h, HB.out.trans HB4.out⟩
      case measure => simp [intOf]; omega
     ·rw [if_neg (by simpa using hyx), List.append_nil] at hft
      have HFT := hid hft
      clear hft
      go_wp2
      go_roundw
      case rel => exact ⟨i + 1, by omega, by go_num, by rw [HFT.out]; exact HO.out, HB.out⟩
      case measure => simp [intOf]; omega
    ·have HE : Hid (G.take i = G) := List.take_of_length_le (by rw [HGL.out]; omega)
     go_wp2
     go_ret
     exact ⟨_, rfl, by have h := HO.out; rw [HE.out] at h; exact h, HB.out⟩
end Go.Proofs.YtmpcmllfgogegaaGreat
namespace Go.Proofs.YtmpcmllfgogegaaGreat
open Go.RowKit Go.ChangeMaps
theorem step_append_rows {ops : Array Oper} {o : Oper} {a : Act} {w : World} {K : Act → World → Prop} {Q : Exit → Act → World → Prop} {E : Prop}
  (hg : o.guard = none) (s x : Operand) (hop : o.op = Op.call { callee := Callee.builtin Builtin.append, args := #[s, x], argTypes := #[26, 26] })
  (B : Nat) (v : Value) (n : Nat) (xs : List Value) (hs : a.eval s = v) (hown : w.ownsRow B 37 4 v n xs)
  (ad : Addr) (k c : Nat) (ys : List Value) (hx : a.eval x = .slice (some ad) k c) (hyl : ys.length = k * 4) (hsrc : ∀ j u, ys[j]? = some u → w.cell? (ad.add j) = some u) (h1 : ∀ u ∈ ys, u.oneCell' = true) (hlen : n + k ≤ 1048576) (hB : B ≤ w.heap.size)
  (hK : ∀ v' w', w'.ownsRow B 37 4 v' (n + k) (xs ++ ys) → w.grownBy w' v.ownBlock → (v'.ownBlock = v.ownBlock ∨ v'.ownBlock = some w.heap.size) → K (a.put o.dst v') w') :
  if Region.wanted o (yielded ops a.tmps) = true then Oper.wp Tryz.prog o a w K Q else E := by
 have hw : Region.wanted o (yielded ops a.tmps) = true := by simp [Region.wanted, hg]
 rw [if_pos hw]
 obtain ⟨i0, hi, hz0, hz1, hz2⟩ := info_parts3 info_ml
 obtain ⟨v', w', hr, h2, h3, h4, h5⟩ := run_append_own_at (P := Tryz.prog) w B 26 o.type 37 i0 _ 4 56 Tryz.underlying26 hi hz0 hz1 hz2 rfl (by decide) v n xs hown ad k c ys hyl hsrc h1 (by unfold maxLen; omega) (by omega) hB
 unfold Oper.wp execOp
 simp only [hop, resolve, invoke, builtin, Sem.run_bind, Sem.run_pure, Result.andThen_ok, List.map_toArray, List.map_cons, List.map_nil, hs, hx, hr]
 exact hK v' w' h2 h3 h5
theorem row_shape {W : World} {B e size n : Nat} {v : Value} {xs : List Value} (h : W.ownsRow B e size v n xs) : ∃ a c, v = .slice a n c := by
 rcases h.2 with ⟨h1, h2⟩ | ⟨g, cap, cur, h1, _⟩
 ·exact ⟨none, 0, by rw [h1, h2]⟩
 ·exact ⟨_, _, h1⟩
theorem OwZ.cell {W : World} {B g n c : Nat} {Z : List Z5} (h : OwZ W B (.slice (some ⟨g, 0, none⟩) n c) Z) (j : Nat) (hj : j < Z.length * 4) : W.cell? ⟨g, j, none⟩ = (zc Z)[j]? := by
 obtain rfl := h.ms.1
 exact h.row.cellAt j hj
theorem zc_take (Z : List Z5) (i : Nat) : zc (Z.take i) = (zc Z).take (i * 4) := by
 induction Z generalizing i with
 | nil => simp [zc]
 | cons z Z ih =>
  cases i with
  | zero => simp [zc]
  | succ i => rw [show (i + 1) * 4 = i * 4 + 1 + 1 + 1 + 1 by omega]; simp [zc, ih]
theorem zc_drop (Z : List Z5) (i : Nat) : zc (Z.drop i) = (zc Z).drop (i * 4) := by
 induction Z generalizing i with
 | nil => simp [zc]
 | cons z Z ih =>
  cases i with
  | zero => simp [zc]
  | succ i => rw [show (i + 1) * 4 = i * 4 + 1 + 1 + 1 + 1 by omega]; simp [zc, ih]
theorem row_front {W : World} {B g n c : Nat} {Z : List Z5} (h : OwZ W B (.slice (some ⟨g, 0, none⟩) n c) Z) (i : Nat) : ∀ j u, (zc (Z.take i))[j]? = some u → W.cell? ((⟨g, 0, none⟩ : Addr).add j) = some u := by
 intro j u hu
 rw [zc_take, List.getElem?_take] at hu
 by_cases hj : j < i * 4
 ·rw [if_pos hj] at hu
  have hl : j < Z.length * 4 := by rw [← zc_len]; exact (List.getElem?_eq_some_iff.1 hu).1
  rw [addr_add, Nat.zero_add, h.cell j hl]
  exact hu
 ·rw [if_neg hj] at hu
  cases hu
theorem row_back {W : World} {B g n c : Nat} {Z : List Z5} (h : OwZ W B (.slice (some ⟨g, 0, none⟩) n c) Z) (i : Nat) : ∀ j u, (zc (Z.drop i))[j]? = some u → W.cell? ((⟨g, i * 4, none⟩ : Addr).add j) = some u := by
 intro j u hu
 rw [zc_drop, List.getElem?_drop] at hu
 have hl : i * 4 + j < Z.length * 4 := by rw [← zc_len]; exact (List.getElem?_eq_some_iff.1 hu).1
 rw [addr_add, h.cell _ hl]
 exact hu
theorem mid_cut (A : List M4) (m : M4) (C : List M4) : (A ++ m :: C).take A.length ++ (A ++ m :: C).drop (A.length + 1) = A ++ C := by
 rw [List.take_left, show A ++ m :: C = (A ++ [m]) ++ C by simp, show A.length + 1 = (A ++ [m]).length by simp, List.drop_left]
theorem OwZ.moved {W W' : World} {B : Nat} {v v' : Value} {Z X : List Z5} (h : OwZ W B v Z) (hx : X.Sublist Z) (hrow : W'.ownsRow B 37 4 v' X.length (zc X)) (hk : ∀ z ∈ Z, ∀ j, z.2.2.1.ownBlock = some j → W'.heap[j]? = W.heap[j]? ∧ v'.ownBlock ≠ some j) : OwZ W' B v' X :=
 ⟨hrow, fun z hz => ow_same (h.each z (hx.subset hz)) (fun j hj => (hk z (hx.subset hz) j hj).1), fun z hz j hj hj' => (hk z (hx.subset hz) j hj').2 hj, List.Pairwise.sublist hx h.apart⟩
def pat (i : Nat) (x : Int) (G : List Int) : List Int := G.take i ++ x :: G.drop i
end Go.Proofs.YtmpcmllfgogegaaGreat
namespace Go.Proofs.YtmpcmllfgogegaaGreat
open Go.RowKit Go.ChangeMaps
end Go.Proofs.YtmpcmllfgogegaaGreat
