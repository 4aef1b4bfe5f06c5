/- Jgp, Jga, Jgb, Jpa, Jmp. -/

import Derived.Test.YtmpcmllfgogegaaGreatjKp
namespace Go.Proofs.YtmpcmllfgogegaaGreat
open Go.RowKit Go.ChangeMaps
theorem in_mem (x : Int) (G : List Int) : inl x G = true ↔ x ∈ G := by
 induction G with
 | nil => simp [inl]
 | cons y G ih => simp only [inl, Bool.or_eq_true, decide_eq_true_eq, ih, List.mem_cons]; exact ⟨fun h => h.imp Eq.symm id, fun h => h.imp Eq.symm id⟩
theorem in_false (x : Int) (G : List Int) : inl x G = false ↔ ¬ x ∈ G := by rw [← in_mem, Bool.not_eq_true]
theorem in_cong {x : Int} {G H : List Int} (h : x ∈ G ↔ x ∈ H) : inl x G = inl x H := by
 cases e : inl x H with
 | true => exact (in_mem x G).2 (h.2 ((in_mem x H).1 e))
 | false => exact (in_false x G).2 (fun hg => (in_false x H).1 e (h.1 hg))
theorem pn_mem (x y : Int) (G : List Int) : y ∈ pin x G ↔ y = x ∨ y ∈ G := by
 simp only [pin, List.mem_append, List.mem_cons, List.mem_filter, decide_eq_true_eq]
 constructor
 ·rintro (h | h | h)
  ·exact .inr h.1
  ·exact .inl h
  ·exact .inr h.1
 ·rintro (h | h)
  ·exact .inr (.inl h)
  ·rcases Int.lt_trichotomy y x with h1 | h1 | h1
   ·exact .inl ⟨h, h1⟩
   ·exact .inr (.inl h1)
   ·exact .inr (.inr ⟨h, h1⟩)
theorem pn_len (x : Int) (G : List Int) : (pin x G).length ≤ G.length + 1 := by
 induction G with
 | nil => simp [pin]
 | cons y G ih =>
  simp only [pin, List.length_append, List.length_cons, List.filter_cons] at ih ⊢
  by_cases h : y < x
  ·have h2 : ¬ x < y := by omega
   simp only [h, h2, decide_true, decide_false, if_true, if_false, List.length_cons, Bool.false_eq_true]; omega
  ·simp only [h, decide_false, if_false, Bool.false_eq_true]
   by_cases h2 : x < y
   ·simp only [h2, decide_true, if_true, List.length_cons]; omega
   ·simp only [h2, decide_false, if_false, Bool.false_eq_true]; omega
theorem pn_asc {x : Int} {G : List Int} (h : G.Pairwise (· < ·)) : (pin x G).Pairwise (· < ·) := by
 unfold pin
 rw [List.pairwise_append, List.pairwise_cons]
 refine ⟨h.sublist List.filter_sublist, ⟨fun y hy => ?_, h.sublist List.filter_sublist⟩, fun y hy z hz => ?_⟩
 ·simpa using (List.mem_filter.1 hy).2
 ·have h1 : y < x := by simpa using (List.mem_filter.1 hy).2
  rcases List.mem_cons.1 hz with rfl | hz
  ·exact h1
  ·have h2 : x < z := by simpa using (List.mem_filter.1 hz).2
   omega
def ins1 (o : List Int) (x : Int) : List Int := if inl x o = true then o else pin x o
theorem ins1_mem (o : List Int) (x y : Int) : y ∈ ins1 o x ↔ y = x ∨ y ∈ o := by
 unfold ins1
 split
 ·rename_i h
  exact ⟨.inr, fun h' => h'.elim (fun e => e ▸ (in_mem x o).1 h) id⟩
 ·exact pn_mem x y o
theorem ins1_len (o : List Int) (x : Int) : (ins1 o x).length ≤ o.length + 1 := by
 unfold ins1
 split
 ·omega
 ·exact pn_len x o
theorem ins1_asc {o : List Int} (x : Int) (h : o.Pairwise (· < ·)) : (ins1 o x).Pairwise (· < ·) := by
 unfold ins1
 split
 ·exact h
 ·exact pn_asc h
def asl (a : List Int) : List Int := a.foldl ins1 []
theorem asl_snoc (a : List Int) (x : Int) : asl (a ++ [x]) = ins1 (asl a) x := by simp [asl, List.foldl_append]
theorem foldi_mem (a o : List Int) (y : Int) : y ∈ a.foldl ins1 o ↔ y ∈ a ∨ y ∈ o := by
 induction a generalizing o with
 | nil => simp
 | cons x a ih =>
  rw [List.foldl_cons, ih, ins1_mem, List.mem_cons]
  constructor
  ·rintro (h | h | h)
   ·exact .inl (.inr h)
   ·exact .inl (.inl h)
   ·exact .inr h
  ·rintro ((h | h) | h)
   ·exact .inr (.inl h)
   ·exact .inl h
   ·exact .inr (.inr h)
theorem asl_mem (a : List Int) (y : Int) : y ∈ asl a ↔ y ∈ a := by rw [asl, foldi_mem]; simp
theorem foldi_asc (a o : List Int) (h : o.Pairwise (· < ·)) : (a.foldl ins1 o).Pairwise (· < ·) := by
 induction a generalizing o with
 | nil => exact h
 | cons x a ih => exact ih _ (ins1_asc x h)
theorem asl_asc (a : List Int) : (asl a).Pairwise (· < ·) := foldi_asc a [] List.Pairwise.nil
theorem foldi_len (a o : List Int) : (a.foldl ins1 o).length ≤ o.length + a.length := by
 induction a generalizing o with
 | nil => simp
 | cons x a ih => rw [List.foldl_cons]; have h := ih (ins1 o x); have h2 := ins1_len o x; rw [List.length_cons]; omega
theorem asl_len (a : List Int) : (asl a).length ≤ a.length := by have := foldi_len a []; simpa [asl] using this
theorem asc_same {a b : List Int} (ha : a.Pairwise (· < ·)) (hb : b.Pairwise (· < ·)) (h : ∀ y, y ∈ a ↔ y ∈ b) : a = b := by
 induction a generalizing b with
 | nil =>
  cases b with
  | nil => rfl
  | cons y b => exact absurd ((h y).2 (by simp)) (by simp)
 | cons x a ih =>
  cases b with
  | nil => exact absurd ((h x).1 (by simp)) (by simp)
  | cons y b =>
   have hx := List.pairwise_cons.1 ha
   have hy := List.pairwise_cons.1 hb
   have e : x = y := by
    rcases List.mem_cons.1 ((h x).1 (by simp)) with e | e
    ·exact e
    ·rcases List.mem_cons.1 ((h y).2 (by simp)) with e' | e'
     ·exact e'.symm
     ·have h1 := hx.1 y e'; have h2 := hy.1 x e; omega
   subst e
   rw [ih hx.2 hy.2 (fun z => ?_)]
   constructor
   ·intro hz
    rcases List.mem_cons.1 ((h z).1 (List.mem_cons_of_mem _ hz)) with e | e
    ·have := hx.1 z hz; omega
    ·exact e
   ·intro hz
    rcases List.mem_cons.1 ((h z).2 (List.mem_cons_of_mem _ hz)) with e | e
    ·have := hy.1 z hz; omega
    ·exact e
theorem asl_same {a b : List Int} (h : ∀ y, y ∈ a ↔ y ∈ b) : asl a = asl b :=
 asc_same (asl_asc a) (asl_asc b) (fun y => by rw [asl_mem, asl_mem]; exact h y)
theorem wpList_append_intw (w : World) {ops : Array Oper} {rest : List Oper} {o : Oper} {a : Act} {Q : Exit → Act → World → Prop} (hgd : o.guard = none) (s x : Operand)
  (ho : o.op = .call { callee := .builtin .append, args := #[s, x], argTypes := #[27, 27] })
  (base : Nat) (v : Value) (bs : List Int) (hs : a.eval s = v) (hown : OwI w base v bs) (n : Int)
  (hx : a.eval x = .slice (some ⟨w.heap.size, 0, none⟩) 1 1) (hlen : bs.length ≤ 9000000) (hbase : base ≤ w.heap.size)
  (h : ∀ v' w', OwI w' base v' (bs ++ [n]) → Below base w w' → wpList Tryz.prog ops Q rest (a.put o.dst v') w') :
  wpList Tryz.prog ops Q (o :: rest) a (w.alloc (.cells #[.int .i64 n] 3)) := by
 obtain ⟨i0, hi, hz0, hz1, hz2⟩ := info_parts3 info_int
 refine wpList_append_own _ hgd s x 27 ho base 3 i0 (.int .i64 0) 1 8 Tryz.underlying27 hi hz0 hz1 hz2 rfl (by decide) v _ _ hs (hown.alloc _) ⟨w.heap.size, 0, none⟩ 1 1 [.int .i64 n] hx rfl (cell_one_int _ _ _) (by intro u hu; simp at hu; subst hu; rfl) (by unfold maxLen; omega) (by omega) (by simp; omega) ?_
 intro v' w' hown' hg _
 refine h v' w' (by simpa [OwI] using hown') (((Below.refl base w).alloc hbase _).grown hg (by simp; omega) (fun k hk => (hown.lt k hk).1))
set_option maxHeartbeats 800000 in
set_option maxRecDepth 100000 in
theorem l06In_wide (lo hi : Nat) (ao : Option Addr) (n cap : Nat) (G : List Int) (x : Int) (w : World) (hl : G.length = n) (hn : n ≤ 4194304) (hr : Is lo hi w ao G) :
  Calls Tryz.prog 60 #[.slice ao n cap, .int .i64 x] w fun e w' => e = .returned (.bool (inl x G)) ∧ w' = w := by
 have HR := hid hr
 have HL := hid hl
 have HI := hid (idx_inl x G 0)
 clear hr hl
 go_enter Tryz.func60, Tryz.ntmps60
 go_wp2
 go_loopw [5] (fun iv wr => ∃ (i : Nat), i ≤ n ∧ iv = .int .i64 (i : Int) ∧ Hid (idx x G 0 = idx x (G.drop i) i) ∧ wr = w) (fun iv _ => n - (intOf iv).toNat)
 case atStart => exact ⟨0, Nat.zero_le _, rfl, rfl, rfl⟩
 case round =>
  obtain ⟨i, hi, rfl, HQ, hw⟩ := hrel
  subst hw
  by_cases hlt : i < n
  ·have hil : i < G.length := by rw [HL.out]; exact hlt
   obtain ⟨k, o, rfl, hk, c⟩ := HR.out.at hil
   obtain ⟨y, hy⟩ : ∃ y, G[i] = y := ⟨_, rfl⟩
   rw [hy] at c
   have hI : (0 : Int) ≤ (i : Int) ∧ (i : Int) < (n : Int) := by omega
   by_cases hxy : y = x
   ·have HE : Hid (inl x G = true) := by show _ = _; rw [← HI.out, HQ.out, idx_here hil (by rw [hy, hxy])]; simp
    subst hxy
    clear hy
    go_wp2
    go_ret
    exact ⟨by rw [HE.out]; rfl, rfl⟩
   ·have HE : Hid (idx x G 0 = idx x (G.drop (i + 1)) (i + 1)) := by show _ = _; rw [HQ.out, idx_on hil (by rw [hy]; exact hxy)]
    have hxy' : (y == x) = false := by simp [hxy]
    clear hy
    go_wp2
    go_roundw
    case rel => exact ⟨i + 1, by omega, by go_num, HE, by first | rfl | trivial⟩
    case measure => simp [intOf]; omega
  ·have HE : Hid (inl x G = false) := by show _ = _; rw [← HI.out, HQ.out, List.drop_of_length_le (by rw [HL.out]; omega)]; rfl
   go_wp2
   go_ret
   exact ⟨by rw [HE.out]; rfl, rfl⟩
set_option maxHeartbeats 1600000 in
set_option maxRecDepth 100000 in
theorem l06Put_wide (lo hh : Nat) (ga : Option Addr) (gn gc : Nat) (G : List Int) (x : Int) (w : World) (hgl : G.length = gn) (hgn : gn ≤ 4194304) (hs : Is lo hh w ga G) :
  Calls Tryz.prog 61 #[.slice ga gn gc, .int .i64 x] w fun e w' => ∃ gv, e = .returned gv ∧ OwI w' w.heap.size gv (pin x G) ∧ Below w.heap.size w w' := by
 have HGL := hid hgl
 have HIS := hid hs
 clear hgl hs
 go_enter Tryz.func61, Tryz.ntmps61
 go_wp2
 go_loopw [5, 6] (fun ov iv wr => ∃ i : Nat, i ≤ gn ∧ iv = .int .i64 (i : Int) ∧ OwI wr w.heap.size ov ((G.take i).filter (fun y => decide (y < x))) ∧ Below w.heap.size w wr) (fun _ iv _ => gn - (intOf iv).toNat)
 case atStart => exact ⟨0, Nat.zero_le _, rfl, by simpa using ownI_empty w _ (Nat.le_refl _), bpush (bre _) _⟩
 case round =>
  obtain ⟨i, hi, rfl, hown, hb⟩ := hrel
  have HO := hid hown
  have HB := hid hb
  have HSZ := hid hb.size
  clear hown hb
  by_cases hlt : i < gn
  ·have hil : i < G.length := by rw [HGL.out]; exact hlt
   obtain ⟨k, o, rfl, hk, c⟩ := (HIS.out.later HB.out).at hil
   have hft := filter_take hil (fun y => decide (y < x))
   obtain ⟨y, hy⟩ : ∃ y, G[i] = y := ⟨_, rfl⟩
   rw [hy] at c hft
   have HL := hid (gfl_len G (fun y => decide (y < x)) i)
   clear hy
   have hI : (0 : Int) ≤ (i : Int) ∧ (i : Int) < (gn : Int) := by omega
   by_cases hyx : y < x
   ·rw [if_pos (by simpa using hyx)] at hft
    have HFT := hid hft
    clear hft
    go_wp2_with (at_builtin; refine wpList_append_intw wr rfl (.tmp 21) (.tmp 26) rfl w.heap.size _ _ (by rfl) HO.out y rfl (by have h1 := HL.out; have h2 := HGL.out; omega) HSZ.out ?_; intro v4 w4 hown4 hb4; have HO4 := hid hown4; have HB4 := hid hb4; clear hown4 hb4)
    go_roundw
    case rel => exact ⟨i + 1, by omega, by go_num, by rw [HFT.out]; exact HO4.out, HB.out.trans HB4.out⟩
    case measure => simp [intOf]; omega
   ·rw [if_neg (by simpa using hyx), List.append_nil] at hft
    have HFT := hid hft
    clear hft
    go_wp2
    go_roundw
    case rel => exact ⟨i + 1, by omega, by go_num, by rw [HFT.out]; exact HO.out, HB.out⟩
    case measure => simp [intOf]; omega
  ·have HE : Hid (G.take i = G) := List.take_of_length_le (by rw [HGL.out]; omega)
   have HL := hid (gfl_len G (fun y => decide (y < x)) i)
   go_wp2_with (at_builtin; refine wpList_append_intw wr rfl (.tmp 28) (.tmp 30) rfl w.heap.size _ _ (by rfl) HO.out x rfl (by have h1 := HL.out; have h2 := HGL.out; omega) HSZ.out ?_; intro v4 w4 hown4 hb4; have HO4 := hid hown4; have HB4 := hid hb4; clear hown4 hb4)
   have HB5 := hid (HB.out.trans HB4.out)
   have HO5 : Hid (OwI w4 w.heap.size v4 (G.filter (fun y => decide (y < x)) ++ [x])) := by
    have h := HO4.out
    rw [HE.out] at h
    exact h
   have hln : (G.filter (fun y => decide (y < x))).length ≤ G.length := List.length_filter_le _ _
   have HLN := hid hln
   clear hln HO HB HSZ HO4 HB4 HE HL
   go_loopw [5, 7] (fun ov iv wr => ∃ i : Nat, i ≤ gn ∧ iv = .int .i64 (i : Int) ∧ OwI wr w.heap.size ov (G.filter (fun y => decide (y < x)) ++ x :: (G.take i).filter (fun y => decide (x < y))) ∧ Below w.heap.size w wr) (fun _ iv _ => gn - (intOf iv).toNat)
   case atStart => exact ⟨0, Nat.zero_le _, rfl, by simpa using HO5.out, HB5.out⟩
   case round =>
    obtain ⟨i, hi, rfl, hown, hb⟩ := hrel
    have HO := hid hown
    have HB := hid hb
    have HSZ := hid hb.size
    clear hown hb
    by_cases hlt : i < gn
    ·have hil : i < G.length := by rw [HGL.out]; exact hlt
     obtain ⟨k, o, rfl, hk, c⟩ := (HIS.out.later HB.out).at hil
     have hft := filter_take hil (fun y => decide (x < y))
     obtain ⟨y, hy⟩ : ∃ y, G[i] = y := ⟨_, rfl⟩
     rw [hy] at c hft
     have HL := hid (gfl_len G (fun y => decide (x < y)) i)
     clear hy
     have hI : (0 : Int) ≤ (i : Int) ∧ (i : Int) < (gn : Int) := by omega
     by_cases hyx : x < y
     ·rw [if_pos (by simpa using hyx)] at hft
      have HFT := hid hft
      clear hft
      go_wp2_with (at_builtin; refine wpList_append_intw wr rfl (.tmp 44) (.tmp 49) rfl w.heap.size _ _ (by rfl) HO.out y rfl (by have h1 := HL.out; have h2 := HGL.out; have h3 := HLN.out; rw [List.length_append, List.length_cons]; omega) HSZ.out ?_; intro v4 w4 hown4 hb4; have HO4 := hid hown4; have HB4 := hid hb4; clear hown4 hb4)
      go_roundw
      case rel => exact ⟨i + 1, by omega, by go_num, by rw [HFT.out]; have h := HO4.out; rw [List.append_assoc, List.cons_append] at h; exact h, HB.out.trans HB4.out⟩
      case measure => simp [intOf]; omega
     ·rw [if_neg (by simpa using hyx), List.append_nil] at hft
      have HFT := hid hft
      clear hft
      go_wp2
      go_roundw
      case rel => exact ⟨i + 1, by omega, by go_num, by rw [HFT.out]; exact HO.out, HB.out⟩
      case measure => simp [intOf]; omega
    ·have HE : Hid (G.take i = G) := List.take_of_length_le (by rw [HGL.out]; omega)
     go_wp2
     go_ret
     exact ⟨_, rfl, by have h := HO.out; rw [HE.out] at h; exact h, HB.out⟩
set_option maxHeartbeats 1600000 in
set_option maxRecDepth 100000 in
theorem specJoinGone_any (l1 h1 l2 h2 : Nat) (ga : Option Addr) (gn gc : Nat) (G : List Int) (ga' : Option Addr) (gn' gc' : Nat) (G' : List Int) (w : World) (hgl : G.length = gn) (hgn : gn ≤ 1048576) (hs : Is l1 h1 w ga G) (hgl' : G'.length = gn') (hgn' : gn' ≤ 1048576) (hs' : Is l2 h2 w ga' G') :
  Calls Tryz.prog 27 #[.slice ga gn gc, .slice ga' gn' gc'] w fun e w' => ∃ gv, e = .returned gv ∧ OwI w' w.heap.size gv (asl (G ++ G')) ∧ Below w.heap.size w w' := by
 have HGL := hid hgl
 have HIS := hid hs
 have HGL' := hid hgl'
 have HIS' := hid hs'
 clear hgl hs hgl' hs'
 go_enter Tryz.func27, Tryz.ntmps27
 go_wp2
 go_loopw [5, 6] (fun ov iv wr => ∃ i : Nat, i ≤ gn ∧ iv = .int .i64 (i : Int) ∧ OwI wr w.heap.size ov (asl (G.take i)) ∧ Below w.heap.size w wr) (fun _ iv _ => gn - (intOf iv).toNat)
 case atStart => exact ⟨0, Nat.zero_le _, rfl, by simpa [asl] using ownI_empty w _ (Nat.le_refl _), bpush (bre _) _⟩
 case round =>
  obtain ⟨i, hi, rfl, hown, hb⟩ := hrel
  have HO := hid hown
  have HB := hid hb
  clear hown hb
  by_cases hlt : i < gn
  ·have hil : i < G.length := by rw [HGL.out]; exact hlt
   obtain ⟨k, o, rfl, hk, c⟩ := (HIS.out.later HB.out).at hil
   have hsn : asl (G.take (i + 1)) = ins1 (asl (G.take i)) G[i] := by rw [List.take_succ_eq_append_getElem hil, asl_snoc]
   obtain ⟨y, hy⟩ : ∃ y, G[i] = y := ⟨_, rfl⟩
   rw [hy] at c hsn
   have hlen : (asl (G.take i)).length ≤ 4194304 := by have h1 := asl_len (G.take i); rw [List.length_take] at h1; omega
   obtain ⟨Q, hQ⟩ : ∃ Q, asl (G.take i) = Q := ⟨_, rfl⟩
   rw [hQ] at HO hsn hlen
   obtain ⟨a, cc, rfl, _⟩ := OwI.shape HO.out
   have HI := hid (OwI.is HO.out).2
   have HLN := hid hlen
   have HSN := hid hsn
   have hI : (0 : Int) ≤ (i : Int) ∧ (i : Int) < (gn : Int) := by omega
   clear hy hQ hsn hlen
   go_wp2_with fail
   refine (l06In_wide _ _ a Q.length cc Q y wr rfl HLN.out HI.out).mono ?_; rintro e w1 ⟨rfl, hw⟩
   subst hw
   by_cases hin : inl y Q = true
   ·rw [hin]
    have HE : Hid (asl (G.take (i + 1)) = Q) := by show _ = _; rw [HSN.out, ins1, if_pos hin]
    clear hin
    go_wp2
    go_roundw
    case rel => exact ⟨i + 1, by omega, by go_num, by rw [HE.out]; exact HO.out, HB.out⟩
    case measure => simp [intOf]; omega
   ·have HE : Hid (asl (G.take (i + 1)) = pin y Q) := by show _ = _; rw [HSN.out, ins1, if_neg hin]
    have hin' : inl y Q = false := by simpa using hin
    rw [hin']
    clear hin hin'
    go_wp2_with fail
    refine (l06Put_wide _ _ a Q.length cc Q y _ rfl HLN.out HI.out).mono ?_; rintro e w2 ⟨gv, rfl, ho, hb2⟩
    have HO2 := hid (own_base ho HB.out.size)
    have HB2 := hid (btr HB.out hb2)
    clear ho hb2
    go_wp2
    go_roundw
    case rel => exact ⟨i + 1, by omega, by go_num, by rw [HE.out]; exact HO2.out, HB2.out⟩
    case measure => simp [intOf]; omega
  ·have HE : Hid (G.take i = G) := List.take_of_length_le (by rw [HGL.out]; omega)
   have HO5 := hid HO.out
   rw [HE.out] at HO5
   clear HO HE
   go_wp2
   go_loopw [5, 7] (fun ov iv wr => ∃ i : Nat, i ≤ gn' ∧ iv = .int .i64 (i : Int) ∧ OwI wr w.heap.size ov (asl (G ++ G'.take i)) ∧ Below w.heap.size w wr) (fun _ iv _ => gn' - (intOf iv).toNat)
   case atStart => exact ⟨0, Nat.zero_le _, rfl, by simpa using HO5.out, HB.out⟩
   case round =>
    obtain ⟨i, hi, rfl, hown, hb⟩ := hrel
    have HO := hid hown
    have HB := hid hb
    clear hown hb
    by_cases hlt : i < gn'
    ·have hil : i < G'.length := by rw [HGL'.out]; exact hlt
     obtain ⟨k, o, rfl, hk, c⟩ := (HIS'.out.later HB.out).at hil
     have hsn : asl (G ++ G'.take (i + 1)) = ins1 (asl (G ++ G'.take i)) G'[i] := by rw [List.take_succ_eq_append_getElem hil, ← List.append_assoc, asl_snoc]
     obtain ⟨y, hy⟩ : ∃ y, G'[i] = y := ⟨_, rfl⟩
     rw [hy] at c hsn
     have hlen : (asl (G ++ G'.take i)).length ≤ 4194304 := by have h1 := asl_len (G ++ G'.take i); have h2 := HGL.out; rw [List.length_append, List.length_take] at h1; omega
     obtain ⟨Q, hQ⟩ : ∃ Q, asl (G ++ G'.take i) = Q := ⟨_, rfl⟩
     rw [hQ] at HO hsn hlen
     obtain ⟨a, cc, rfl, _⟩ := OwI.shape HO.out
     have HI := hid (OwI.is HO.out).2
     have HLN := hid hlen
     have HSN := hid hsn
     have hI : (0 : Int) ≤ (i : Int) ∧ (i : Int) < (gn' : Int) := by omega
     clear hy hQ hsn hlen
     go_wp2_with fail
     refine (l06In_wide _ _ a Q.length cc Q y wr rfl HLN.out HI.out).mono ?_; rintro e w1 ⟨rfl, hw⟩
     subst hw
     by_cases hin : inl y Q = true
     ·rw [hin]
      have HE : Hid (asl (G ++ G'.take (i + 1)) = Q) := by show _ = _; rw [HSN.out, ins1, if_pos hin]
      clear hin
      go_wp2
      go_roundw
      case rel => exact ⟨i + 1, by omega, by go_num, by rw [HE.out]; exact HO.out, HB.out⟩
      case measure => simp [intOf]; omega
     ·have HE : Hid (asl (G ++ G'.take (i + 1)) = pin y Q) := by show _ = _; rw [HSN.out, ins1, if_neg hin]
      have hin' : inl y Q = false := by simpa using hin
      rw [hin']
      clear hin hin'
      go_wp2_with fail
      refine (l06Put_wide _ _ a Q.length cc Q y _ rfl HLN.out HI.out).mono ?_; rintro e w2 ⟨gv, rfl, ho, hb2⟩
      have HO2 := hid (own_base ho HB.out.size)
      have HB2 := hid (btr HB.out hb2)
      clear ho hb2
      go_wp2
      go_roundw
      case rel => exact ⟨i + 1, by omega, by go_num, by rw [HE.out]; exact HO2.out, HB2.out⟩
      case measure => simp [intOf]; omega
    ·have HE : Hid (G'.take i = G') := List.take_of_length_le (by rw [HGL'.out]; omega)
     have HO5 := hid HO.out
     rw [HE.out] at HO5
     clear HO HE
     go_wp2
     go_ret
     exact ⟨_, rfl, HO5.out, HB.out⟩
set_option maxHeartbeats 1600000 in
set_option maxRecDepth 100000 in
theorem specGids_any (l1 h1 l2 h2 : Nat) (g : Int) (nm : ByteArray) (t b nx : Int) (ma : Option Addr) (mn mc : Nat) (gv : Value) (L : List M4) (g' : Int) (nm' : ByteArray) (t' b' nx' : Int) (ma' : Option Addr) (mn' mc' : Nat) (gv' : Value) (L' : List M4) (w : World) (hl : L.length = mn) (hn : mn ≤ 1048576) (hm : Ms l1 h1 w ma L) (hl' : L'.length = mn') (hn' : mn' ≤ 1048576) (hm' : Ms l2 h2 w ma' L') :
  Calls Tryz.prog 95 #[.agg #[.int .i64 g, .string nm, .int .i64 t, .int .i64 b, .int .i64 nx, .slice ma mn mc, gv], .agg #[.int .i64 g', .string nm', .int .i64 t', .int .i64 b', .int .i64 nx', .slice ma' mn' mc', gv']] w fun e w' => ∃ gv, e = .returned gv ∧ OwI w' w.heap.size gv (asl (L.map (·.1) ++ L'.map (·.1))) ∧ Below w.heap.size w w' := by
 obtain ⟨W0, hW0⟩ : ∃ W0, (w.alloc (.cells #[.int .i64 g, .string nm, .int .i64 t, .int .i64 b, .int .i64 nx, .slice ma mn mc, gv] 29)).alloc (.cells #[.int .i64 g', .string nm', .int .i64 t', .int .i64 b', .int .i64 nx', .slice ma' mn' mc', gv'] 29) = W0 := ⟨_, rfl⟩
 have a0 : Bx W0 w.heap.size 29 g nm t b nx (.slice ma mn mc) gv := by subst hW0; exact (Bx.new w _ g nm t b nx _ _).later (bpush (bre _) _)
 have a1 : Bx W0 (w.heap.size + 1) 29 g' nm' t' b' nx' (.slice ma' mn' mc') gv' := by
  subst hW0
  have h := Bx.new (w.alloc (.cells #[.int .i64 g, .string nm, .int .i64 t, .int .i64 b, .int .i64 nx, .slice ma mn mc, gv] 29)) 29 g' nm' t' b' nx' (.slice ma' mn' mc') gv'
  rwa [show (w.alloc (.cells #[.int .i64 g, .string nm, .int .i64 t, .int .i64 b, .int .i64 nx, .slice ma mn mc, gv] 29)).heap.size = w.heap.size + 1 by simp] at h
 have b0 : Below w.heap.size w W0 := by subst hW0; exact bpush (bpush (bre _) _) _
 have A0 := hid a0
 have D0 := hid a1
 have B0 := hid b0
 have HR := hid (hm.later b0)
 have HR' := hid (hm'.later b0)
 have HL := hid hl
 have HL' := hid hl'
 have HSZ := hid b0.size
 clear a0 a1 b0 hm hm' hl hl'
 go_enter Tryz.func95, Tryz.ntmps95
 go_wp2
 clear hW0
 go_loopw [5, 6] (fun ov iv wr => ∃ i : Nat, i ≤ mn ∧ iv = .int .i64 (i : Int) ∧ OwI wr w.heap.size ov (asl ((L.map (·.1)).take i)) ∧ Below W0.heap.size W0 wr) (fun _ iv _ => mn - (intOf iv).toNat)
 case atStart => exact ⟨0, Nat.zero_le _, rfl, by simpa [asl] using ownI_empty W0 w.heap.size HSZ.out, bpush (bre _) _⟩
 case round =>
  obtain ⟨i, hi, rfl, hown, hb⟩ := hrel
  have HO := hid hown
  have HB := hid hb
  clear hown hb
  by_cases hlt : i < mn
  ·have hil : i < L.length := by rw [HL.out]; exact hlt
   obtain ⟨k, o, fa, fc, rfl, hk, ⟨c, -, -, -⟩, -⟩ := (HR.out.later HB.out).at hil
   have c9 := (A0.out.later HB.out).cells
   have hsn : asl ((L.map (·.1)).take (i + 1)) = ins1 (asl ((L.map (·.1)).take i)) L[i].1 := by rw [List.take_succ_eq_append_getElem (by rw [List.length_map]; exact hil), asl_snoc, List.getElem_map]
   obtain ⟨y, hy⟩ : ∃ y, L[i].1 = y := ⟨_, rfl⟩
   rw [hy] at c hsn
   have hlen : (asl ((L.map (·.1)).take i)).length ≤ 4194304 := by have h1 := asl_len ((L.map (·.1)).take i); rw [List.length_take] at h1; omega
   obtain ⟨Q, hQ⟩ : ∃ Q, asl ((L.map (·.1)).take i) = Q := ⟨_, rfl⟩
   rw [hQ] at HO hsn hlen
   obtain ⟨a, cc, rfl, _⟩ := OwI.shape HO.out
   have HI := hid (OwI.is HO.out).2
   have HLN := hid hlen
   have HSN := hid hsn
   have hI : (0 : Int) ≤ (i : Int) ∧ (i : Int) < (mn : Int) := by omega
   clear hy hQ hsn hlen
   go_wp2_with fail
   refine (l06In_wide _ _ a Q.length cc Q y wr rfl HLN.out HI.out).mono ?_; rintro e w1 ⟨rfl, hw⟩
   subst hw
   by_cases hin : inl y Q = true
   ·rw [hin]
    have HE : Hid (asl ((L.map (·.1)).take (i + 1)) = Q) := by show _ = _; rw [HSN.out, ins1, if_pos hin]
    clear hin
    go_wp2
    go_roundw
    case rel => exact ⟨i + 1, by omega, by go_num, by rw [HE.out]; exact HO.out, HB.out⟩
    case measure => simp [intOf]; omega
   ·have HE : Hid (asl ((L.map (·.1)).take (i + 1)) = pin y Q) := by show _ = _; rw [HSN.out, ins1, if_neg hin]
    have hin' : inl y Q = false := by simpa using hin
    rw [hin']
    clear hin hin'
    go_wp2_with fail
    refine (l06Put_wide _ _ a Q.length cc Q y _ rfl HLN.out HI.out).mono ?_; rintro e w2 ⟨gv, rfl, ho, hb2⟩
    have HO2 := hid (own_base ho (Nat.le_trans HSZ.out HB.out.size))
    have HB2 := hid (btr HB.out hb2)
    clear ho hb2
    go_wp2
    go_roundw
    case rel => exact ⟨i + 1, by omega, by go_num, by rw [HE.out]; exact HO2.out, HB2.out⟩
    case measure => simp [intOf]; omega
  ·have c9 := (A0.out.later HB.out).cells
   have HE : Hid ((L.map (·.1)).take i = L.map (·.1)) := List.take_of_length_le (by rw [List.length_map, HL.out]; omega)
   have HO5 := hid HO.out
   rw [HE.out] at HO5
   clear HO HE
   go_wp2
   clear c9
   go_loopw [5, 7] (fun ov iv wr => ∃ i : Nat, i ≤ mn' ∧ iv = .int .i64 (i : Int) ∧ OwI wr w.heap.size ov (asl (L.map (·.1) ++ (L'.map (·.1)).take i)) ∧ Below W0.heap.size W0 wr) (fun _ iv _ => mn' - (intOf iv).toNat)
   case atStart => exact ⟨0, Nat.zero_le _, rfl, by simpa using HO5.out, HB.out⟩
   case round =>
    obtain ⟨i, hi, rfl, hown, hb⟩ := hrel
    have HO := hid hown
    have HB := hid hb
    clear hown hb
    by_cases hlt : i < mn'
    ·have hil : i < L'.length := by rw [HL'.out]; exact hlt
     obtain ⟨k, o, fa, fc, rfl, hk, ⟨c, -, -, -⟩, -⟩ := (HR'.out.later HB.out).at hil
     have c9 := (D0.out.later HB.out).cells
     have hsn : asl (L.map (·.1) ++ (L'.map (·.1)).take (i + 1)) = ins1 (asl (L.map (·.1) ++ (L'.map (·.1)).take i)) L'[i].1 := by rw [List.take_succ_eq_append_getElem (by rw [List.length_map]; exact hil), ← List.append_assoc, asl_snoc, List.getElem_map]
     obtain ⟨y, hy⟩ : ∃ y, L'[i].1 = y := ⟨_, rfl⟩
     rw [hy] at c hsn
     have hlen : (asl (L.map (·.1) ++ (L'.map (·.1)).take i)).length ≤ 4194304 := by have h1 := asl_len (L.map (·.1) ++ (L'.map (·.1)).take i); have h2 := HL.out; rw [List.length_append, List.length_take, List.length_map] at h1; omega
     obtain ⟨Q, hQ⟩ : ∃ Q, asl (L.map (·.1) ++ (L'.map (·.1)).take i) = Q := ⟨_, rfl⟩
     rw [hQ] at HO hsn hlen
     obtain ⟨a, cc, rfl, _⟩ := OwI.shape HO.out
     have HI := hid (OwI.is HO.out).2
     have HLN := hid hlen
     have HSN := hid hsn
     have hI : (0 : Int) ≤ (i : Int) ∧ (i : Int) < (mn' : Int) := by omega
     clear hy hQ hsn hlen
     go_wp2_with fail
     refine (l06In_wide _ _ a Q.length cc Q y wr rfl HLN.out HI.out).mono ?_; rintro e w1 ⟨rfl, hw⟩
     subst hw
     by_cases hin : inl y Q = true
     ·rw [hin]
      have HE : Hid (asl (L.map (·.1) ++ (L'.map (·.1)).take (i + 1)) = Q) := by show _ = _; rw [HSN.out, ins1, if_pos hin]
      clear hin
      go_wp2
      go_roundw
      case rel => exact ⟨i + 1, by omega, by go_num, by rw [HE.out]; exact HO.out, HB.out⟩
      case measure => simp [intOf]; omega
     ·have HE : Hid (asl (L.map (·.1) ++ (L'.map (·.1)).take (i + 1)) = pin y Q) := by show _ = _; rw [HSN.out, ins1, if_neg hin]
      have hin' : inl y Q = false := by simpa using hin
      rw [hin']
      clear hin hin'
      go_wp2_with fail
      refine (l06Put_wide _ _ a Q.length cc Q y _ rfl HLN.out HI.out).mono ?_; rintro e w2 ⟨gv, rfl, ho, hb2⟩
      have HO2 := hid (own_base ho (Nat.le_trans HSZ.out HB.out.size))
      have HB2 := hid (btr HB.out hb2)
      clear ho hb2
      go_wp2
      go_roundw
      case rel => exact ⟨i + 1, by omega, by go_num, by rw [HE.out]; exact HO2.out, HB2.out⟩
      case measure => simp [intOf]; omega
    ·have c9 := (D0.out.later HB.out).cells
     have HE : Hid ((L'.map (·.1)).take i = L'.map (·.1)) := List.take_of_length_le (by rw [List.length_map, HL'.out]; omega)
     have HO5 := hid HO.out
     rw [HE.out] at HO5
     clear HO HE
     go_wp2
     go_ret
     exact ⟨_, rfl, HO5.out, btr B0.out HB.out⟩
def mx8 (x y : Int) : Int := if y < x then x else y
theorem specNext_any (g : Int) (nm : ByteArray) (t b nx : Int) (mv gv : Value) (g' : Int) (nm' : ByteArray) (t' b' nx' : Int) (mv' gv' : Value) (w : World) :
  Calls Tryz.prog 94 #[.agg #[.int .i64 g, .string nm, .int .i64 t, .int .i64 b, .int .i64 nx, mv, gv], .agg #[.int .i64 g', .string nm', .int .i64 t', .int .i64 b', .int .i64 nx', mv', gv']] w fun e w' => e = .returned (.int .i64 (mx8 nx nx')) ∧ Below w.heap.size w w' := by
 obtain ⟨W0, hW0⟩ : ∃ W0, (w.alloc (.cells #[.int .i64 g, .string nm, .int .i64 t, .int .i64 b, .int .i64 nx, mv, gv] 29)).alloc (.cells #[.int .i64 g', .string nm', .int .i64 t', .int .i64 b', .int .i64 nx', mv', gv'] 29) = W0 := ⟨_, rfl⟩
 have a0 : Bx W0 w.heap.size 29 g nm t b nx mv gv := by subst hW0; exact (Bx.new w _ g nm t b nx _ _).later (bpush (bre _) _)
 have a1 : Bx W0 (w.heap.size + 1) 29 g' nm' t' b' nx' mv' gv' := by
  subst hW0
  have h := Bx.new (w.alloc (.cells #[.int .i64 g, .string nm, .int .i64 t, .int .i64 b, .int .i64 nx, mv, gv] 29)) 29 g' nm' t' b' nx' mv' gv'
  rwa [show (w.alloc (.cells #[.int .i64 g, .string nm, .int .i64 t, .int .i64 b, .int .i64 nx, mv, gv] 29)).heap.size = w.heap.size + 1 by simp] at h
 have b0 : Below w.heap.size w W0 := by subst hW0; exact bpush (bpush (bre _) _) _
 have c0 := a0.cells
 have c1 := a1.cells
 have B0 := hid b0
 clear a0 a1 b0
 by_cases h : nx' < nx
 ·have HE : Hid (mx8 nx nx' = nx) := by show _ = _; rw [mx8, if_pos h]
  go_enter Tryz.func94, Tryz.ntmps94
  go_wp2
  go_ret
  exact ⟨by rw [HE.out]; rfl, B0.out⟩
 ·have HE : Hid (mx8 nx nx' = nx') := by show _ = _; rw [mx8, if_neg h]
  go_enter Tryz.func94, Tryz.ntmps94
  go_wp2
  go_ret
  exact ⟨by rw [HE.out]; rfl, B0.out⟩
theorem OwZ.at {W : World} {B n c : Nat} {va : Option Addr} {Z : List Z5} (h : OwZ W B (.slice va n c) Z) {i : Nat} (hi : i < Z.length) : ∃ k, va = some ⟨k, 0, none⟩ ∧ k < W.heap.size ∧
  (W.cell? ⟨k, i * 4, none⟩ = some (.int .i64 Z[i].1) ∧ W.cell? ⟨k, i * 4 + 1, none⟩ = some (.int .i64 Z[i].2.1) ∧ W.cell? ⟨k, i * 4 + 2, none⟩ = some Z[i].2.2.1 ∧ W.cell? ⟨k, i * 4 + 3, none⟩ = some (.string Z[i].2.2.2.2)) := by
 rcases h.row.2 with ⟨h1, h2⟩ | ⟨g, cap, cur, h1, h2, h3, h4, h5, h6, h7⟩
 ·omega
 ·simp only [Value.slice.injEq] at h1
  obtain ⟨rfl, rfl, rfl⟩ := h1
  exact ⟨g, rfl, (Array.getElem?_eq_some_iff.1 h3).1, (h.spot i hi).1⟩
theorem pair_take {α : Type} {R : α → α → Prop} {Z : List α} (h : Z.Pairwise R) {i : Nat} (hi : i < Z.length) : ∀ y ∈ Z.take i, R y Z[i] := by
 intro y hy
 obtain ⟨j, hj, rfl⟩ := List.mem_iff_getElem.1 hy
 rw [List.length_take] at hj
 rw [List.getElem_take]
 exact (List.pairwise_iff_getElem.1 h) j i (by omega) hi (by omega)
theorem dj_other {Z : List Z5} (h : Z.Pairwise fun x y => Dj x.2.2.1 y.2.2.1) {i : Nat} (hi : i < Z.length) {y : Z5} (hy : y ∈ Z) (hu : y.2.1 ≠ Z[i].2.1) : Dj y.2.2.1 Z[i].2.2.1 := by
 obtain ⟨j, hj, rfl⟩ := List.mem_iff_getElem.1 hy
 rcases Nat.lt_trichotomy j i with e | e | e
 ·exact (List.pairwise_iff_getElem.1 h) j i hj hi e
 ·subst e; exact absurd rfl hu
 ·exact ((List.pairwise_iff_getElem.1 h) i j hi hj e).symm
def ptu (z : Z5) (Z : List Z5) : List Z5 := Z.filter (fun y => decide (y.2.1 ≤ z.2.1)) ++ z :: Z.filter (fun y => decide (z.2.1 < y.2.1))
theorem filtz_take {Z : List Z5} {i : Nat} (h : i < Z.length) (f : Z5 → Bool) : (Z.take (i + 1)).filter f = (Z.take i).filter f ++ (if f Z[i] = true then [Z[i]] else []) := by
 rw [List.take_succ_eq_append_getElem h, List.filter_append]
 cases hf : f Z[i] with
 | true => simp [hf]
 | false => simp [hf]
theorem filtz_len (Z : List Z5) (f : Z5 → Bool) (i : Nat) : ((Z.take i).filter f).length ≤ Z.length :=
 Nat.le_trans (List.length_filter_le _ _) (by rw [List.length_take]; omega)
theorem ptu_cnt (Z : List Z5) (u : Int) (i : Nat) : (Z.filter (fun y => decide (y.2.1 ≤ u))).length + ((Z.take i).filter (fun y => decide (u < y.2.1))).length ≤ Z.length := by
 have h1 : ((Z.take i).filter (fun y => decide (u < y.2.1))).length ≤ (Z.filter (fun y => decide (u < y.2.1))).length := ((List.take_sublist i Z).filter _).length_le
 have h2 : (Z.filter (fun y => decide (y.2.1 ≤ u))).length + (Z.filter (fun y => decide (u < y.2.1))).length = Z.length := by
  clear h1
  induction Z with
  | nil => rfl
  | cons y Z ih =>
   simp only [List.filter_cons, List.length_cons]
   by_cases h : y.2.1 ≤ u
   ·have h' : ¬ u < y.2.1 := by omega
    simp only [h, h', decide_true, decide_false, if_true, Bool.false_eq_true, if_false, List.length_cons]; omega
   ·have h' : u < y.2.1 := by omega
    simp only [h, h', decide_true, decide_false, if_true, Bool.false_eq_true, if_false, List.length_cons]; omega
 omega
theorem ptu_cnt1 (z : Z5) (Z : List Z5) (u : Int) (i : Nat) (hn : (Z.length : Int) ≤ 1048575) : (Z.filter (fun y => decide (y.2.1 ≤ u)) ++ z :: (Z.take i).filter (fun y => decide (u < y.2.1))).length ≤ 1048576 := by
 have h1 := ptu_cnt Z u i
 rw [List.length_append, List.length_cons]; omega
theorem ptu_len (z : Z5) (Z : List Z5) : (ptu z Z).length ≤ Z.length + 1 := by
 have := ptu_cnt Z z.2.1 Z.length
 rw [List.take_length] at this
 unfold ptu
 rw [List.length_append, List.length_cons]
 omega
set_option maxHeartbeats 4000000 in
set_option maxRecDepth 100000 in
theorem l08Put_any (B : Nat) (va : Option Addr) (n c : Nat) (Z : List Z5) (g u : Int) (fa : Option Addr) (fn fc : Nat) (fl : List R3) (tx : ByteArray) (w : World) (hB : B ≤ w.heap.size) (hown : OwZ w B (.slice va n c) Z) (hn : Z.length ≤ 1048575) (hfl : Ow w B (.slice fa fn fc) fl) (hd : ∀ y ∈ Z, Dj y.2.2.1 (.slice fa fn fc)) :
  Calls Tryz.prog 97 #[.slice va n c, .agg #[.int .i64 g, .int .i64 u, .slice fa fn fc, .string tx]] w fun e w' => ∃ v, e = .returned v ∧ OwZ w' B v (ptu (g, u, .slice fa fn fc, fl, tx) Z) ∧ (∀ j, v.ownBlock = some j → w.heap.size ≤ j) ∧ Below w.heap.size w w' := by
 obtain ⟨W0, hW0⟩ : ∃ W0, w.alloc (.cells #[.int .i64 g, .int .i64 u, .slice fa fn fc, .string tx] 37) = W0 := ⟨_, rfl⟩
 have a0 : Mg W0 w.heap.size 37 g u (.slice fa fn fc) tx := by subst hW0; exact Mg.new w _ g u _ tx
 have b0 : Below w.heap.size w W0 := by subst hW0; exact bpush (bre _) _
 have A0 := hid a0
 have B0 := hid b0
 have HOW := hid hown
 have HFL := hid hfl
 have HD := hid hd
 have HN := hid hn
 have HBB : Hid (B ≤ w.heap.size ∧ w.heap.size ≤ W0.heap.size) := ⟨hB, b0.size⟩
 obtain rfl := hown.ms.1
 have hn' : (Z.length : Int) ≤ 1048575 := by omega
 clear a0 b0 hown hfl hd hn hB
 go_enter Tryz.func97, Tryz.ntmps97
 go_wp2
 clear hW0
 go_loopw [5, 6] (fun ov iv wr => ∃ i : Nat, i ≤ Z.length ∧ iv = .int .i64 (i : Int) ∧ OwZ wr B ov ((Z.take i).filter (fun y => decide (y.2.1 ≤ u))) ∧ (∀ j, ov.ownBlock = some j → W0.heap.size ≤ j) ∧ Below W0.heap.size W0 wr) (fun _ iv _ => Z.length - (intOf iv).toNat)
 case atStart => exact ⟨0, Nat.zero_le _, rfl, by simpa using ownZ_empty W0 B (by have := HBB.out; omega), (fun j hj => by simp [Value.ownBlock] at hj; have := HBB.out; omega), bpush (bre _) _⟩
 case round =>
  obtain ⟨i, hi, rfl, ho, hf, hb⟩ := hrel
  have HO := hid ho
  have HF := hid hf
  have HB := hid hb
  have HSZ : Hid (B ≤ wr.heap.size) := by show _ ≤ _; have := HBB.out; have := hb.size; omega
  clear ho hf hb
  by_cases hlt : i < Z.length
  ·have hown1 := (HOW.out.later B0.out).later HB.out
   obtain ⟨k, rfl, hk, cc⟩ := hown1.at hlt
   have hft := filtz_take hlt (fun y => decide (y.2.1 ≤ u))
   have hzm : Z[i] ∈ Z := List.getElem_mem hlt
   have hze := hown1.each Z[i] hzm
   have hpt := pair_take hown1.apart hlt
   have hzl := ((HOW.out.each Z[i] hzm).lt)
   obtain ⟨z, hz⟩ : ∃ z, Z[i] = z := ⟨_, rfl⟩
   rw [hz] at cc hft hze hpt hzl
   obtain ⟨gA, uA, fA, lA, tA⟩ := z
   obtain ⟨aA, cA, hsh, _⟩ := Ow.shape hze
   dsimp only at cc hsh hft hze hpt hzl
   subst hsh
   have m0 := (A0.out.later HB.out).cells
   have HL := hid (filtz_len Z (fun y => decide (y.2.1 ≤ u)) i)
   have HZE := hid hze
   have HPT := hid hpt
   have HZL := hid hzl
   have hI : (0 : Int) ≤ (i : Int) ∧ (i : Int) < (Z.length : Int) := by omega
   clear hown1 hz hzm hze hpt hzl
   by_cases hle : uA ≤ u
   ·rw [if_pos (by simpa using hle)] at hft
    have HFT := hid hft
    clear hft
    go_wp2_with fail
    go_region
    go_wp2_with (at_builtin; refine wpList_append_ml (w := wr.drew) rfl (.tmp 23) (.tmp 28) rfl B _ _ (by rfl) (gA, uA, .slice aA lA.length cA, lA, tA) (HO.out.later (bdr (bre _))) (own_later HZE.out (bdr (bre _))) (fun j h1 h2 => by have := HF.out j h1; have := (HZL.out j h2).2; have := HBB.out; omega) (fun y hy => HPT.out y (List.mem_filter.1 hy).1) rfl (by have h1 := HL.out; have h2 := hn'; omega) HSZ.out ?_; intro v4 w4 hown4 _ hg4 hf4; have HO4 := hid hown4; have HF4 : Hid (∀ j, v4.ownBlock = some j → W0.heap.size ≤ j) := fun j hj => (hf4 j hj).elim (HF.out j) (fun h => Nat.le_trans HB.out.size h); have HB4 : Hid (Below W0.heap.size W0 w4) := ((bdr HB.out).alloc HB.out.size _).grown hg4 (by have h9 := HB.out.size; simp; omega) (fun k hk => HF.out k hk); clear hown4 hg4 hf4)
    go_roundw
    case rel => exact ⟨i + 1, by omega, by go_num, by rw [HFT.out]; exact HO4.out, HF4.out, HB4.out⟩
    case measure => simp [intOf]; omega
   ·rw [if_neg (by simpa using hle), List.append_nil] at hft
    have HFT := hid hft
    have hle' : (uA ≤ u) = False := by simp only [hle]
    clear hft
    go_wp2_with fail
    go_region
    go_wp2
    go_roundw
    case rel => exact ⟨i + 1, by omega, by go_num, by rw [HFT.out]; exact HO.out.later (bdr (bre _)), HF.out, bdr HB.out⟩
    case measure => simp [intOf]; omega
  ·have HE : Hid (Z.take i = Z) := List.take_of_length_le (by omega)
   have HO1 := hid HO.out
   rw [HE.out] at HO1
   have m0 := (A0.out.later HB.out).cells
   have HL : Hid ((Z.filter (fun y => decide (y.2.1 ≤ u))).length ≤ Z.length) := List.length_filter_le _ _
   have HZF := hid (own_later (own_later HFL.out B0.out) HB.out)
   clear HO HE
   have HO := HO1
   clear HO1
   go_wp2_with (at_builtin; refine wpList_append_ml (w := wr) rfl (.tmp 30) (.tmp 32) rfl B _ _ (by rfl) (g, u, .slice fa fn fc, fl, tx) (HO.out) (HZF.out) (fun j h1 h2 => by have := HF.out j h1; have := (HFL.out.lt j h2).2; have := HBB.out; omega) (fun y hy => HD.out y (List.mem_filter.1 hy).1) rfl (by have h1 := HL.out; have h2 := hn'; omega) HSZ.out ?_; intro v4 w4 hown4 _ hg4 hf4; have HO4 := hid hown4; have HF4 : Hid (∀ j, v4.ownBlock = some j → W0.heap.size ≤ j) := fun j hj => (hf4 j hj).elim (HF.out j) (fun h => Nat.le_trans HB.out.size h); have HB4 : Hid (Below W0.heap.size W0 w4) := (HB.out.alloc HB.out.size _).grown hg4 (by have h9 := HB.out.size; simp; omega) (fun k hk => HF.out k hk); clear hown4 hg4 hf4)
   clear HO HF HB HSZ m0 HZF
   go_loopw [5, 7] (fun ov iv wr => ∃ i : Nat, i ≤ Z.length ∧ iv = .int .i64 (i : Int) ∧ OwZ wr B ov (Z.filter (fun y => decide (y.2.1 ≤ u)) ++ (g, u, .slice fa fn fc, fl, tx) :: (Z.take i).filter (fun y => decide (u < y.2.1))) ∧ (∀ j, ov.ownBlock = some j → W0.heap.size ≤ j) ∧ Below W0.heap.size W0 wr) (fun _ iv _ => Z.length - (intOf iv).toNat)
   case atStart => exact ⟨0, Nat.zero_le _, rfl, by simpa using HO4.out, HF4.out, HB4.out⟩
   case round =>
    obtain ⟨i, hi, rfl, ho, hf, hb⟩ := hrel
    have HO := hid ho
    have HF := hid hf
    have HB := hid hb
    have HSZ : Hid (B ≤ wr.heap.size) := by show _ ≤ _; have := HBB.out; have := hb.size; omega
    clear ho hf hb HO4 HF4 HB4
    by_cases hlt : i < Z.length
    ·have hown1 := (HOW.out.later B0.out).later HB.out
     obtain ⟨k, rfl, hk, cc⟩ := hown1.at hlt
     have hft := filtz_take hlt (fun y => decide (u < y.2.1))
     have hzm : Z[i] ∈ Z := List.getElem_mem hlt
     have hze := hown1.each Z[i] hzm
     have hpt := pair_take hown1.apart hlt
     have hot : ∀ y ∈ Z, y.2.1 ≠ Z[i].2.1 → Dj y.2.2.1 Z[i].2.2.1 := fun y hy => dj_other hown1.apart hlt hy
     have hdz := HD.out Z[i] hzm
     have hzl := ((HOW.out.each Z[i] hzm).lt)
     obtain ⟨z, hz⟩ : ∃ z, Z[i] = z := ⟨_, rfl⟩
     rw [hz] at cc hft hze hpt hzl hdz hot
     obtain ⟨gA, uA, fA, lA, tA⟩ := z
     obtain ⟨aA, cA, hsh, _⟩ := Ow.shape hze
     dsimp only at cc hsh hft hze hpt hzl hdz hot
     subst hsh
     have m0 := (A0.out.later HB.out).cells
     have HLN := hid (ptu_cnt1 (g, u, .slice fa fn fc, fl, tx) Z u i hn')
     have HZE := hid hze
     have HPT := hid hpt
     have HZL := hid hzl
     have HDZ := hid hdz
     have HOT := hid hot
     have hI : (0 : Int) ≤ (i : Int) ∧ (i : Int) < (Z.length : Int) := by omega
     clear hown1 hz hzm hze hpt hzl hdz hot
     by_cases hle : u < uA
     ·rw [if_pos (by simpa using hle)] at hft
      have HFT := hid hft
      have HDD : Hid (∀ y ∈ Z.filter (fun y => decide (y.2.1 ≤ u)) ++ (g, u, .slice fa fn fc, fl, tx) :: (Z.take i).filter (fun y => decide (u < y.2.1)), Dj y.2.2.1 (.slice aA lA.length cA)) := fun y hy => by
       rcases List.mem_append.1 hy with hy | hy
       ·have h := List.mem_filter.1 hy
        have h2 : y.2.1 ≤ u := by simpa using h.2
        exact HOT.out y h.1 (by omega)
       ·rcases List.mem_cons.1 hy with e | hy
        ·subst e; exact HDZ.out.symm
        ·exact HPT.out y (List.mem_filter.1 hy).1
      clear hft
      go_wp2_with fail
      go_region
      go_wp2_with (at_builtin; refine wpList_append_ml (w := wr.drew) rfl (.tmp 48) (.tmp 53) rfl B _ _ (by rfl) (gA, uA, .slice aA lA.length cA, lA, tA) (HO.out.later (bdr (bre _))) (own_later HZE.out (bdr (bre _))) (fun j h1 h2 => by have := HF.out j h1; have := (HZL.out j h2).2; have := HBB.out; omega) (HDD.out) rfl (by exact HLN.out) HSZ.out ?_; intro v4 w4 hown4 _ hg4 hf4; have HO4 := hid hown4; have HF4 : Hid (∀ j, v4.ownBlock = some j → W0.heap.size ≤ j) := fun j hj => (hf4 j hj).elim (HF.out j) (fun h => Nat.le_trans HB.out.size h); have HB4 : Hid (Below W0.heap.size W0 w4) := ((bdr HB.out).alloc HB.out.size _).grown hg4 (by have h9 := HB.out.size; simp; omega) (fun k hk => HF.out k hk); clear hown4 hg4 hf4)
      go_roundw
      case rel => exact ⟨i + 1, by omega, by go_num, by rw [HFT.out]; have h := HO4.out; rw [List.append_assoc, List.cons_append] at h; exact h, HF4.out, HB4.out⟩
      case measure => simp [intOf]; omega
     ·rw [if_neg (by simpa using hle), List.append_nil] at hft
      have HFT := hid hft
      have hle' : (u < uA) = False := by simp only [hle]
      clear hft
      go_wp2_with fail
      go_region
      go_wp2
      go_roundw
      case rel => exact ⟨i + 1, by omega, by go_num, by rw [HFT.out]; exact HO.out.later (bdr (bre _)), HF.out, bdr HB.out⟩
      case measure => simp [intOf]; omega
    ·have HE : Hid (Z.take i = Z) := List.take_of_length_le (by omega)
     have HO1 := hid HO.out
     rw [HE.out] at HO1
     clear HO HE
     go_wp2
     go_ret
     exact ⟨_, rfl, HO1.out, fun j hj => Nat.le_trans HBB.out.2 (HF.out j hj), btr B0.out HB.out⟩
abbrev w64 (x : Int) : Int := wrap64 x
def gm (A B : List M4) (g : Int) : M4 :=
 match fnd g A, fnd g B with
 | some x, some y => (x.1, jmu x.1 x.2.1 y.1 y.2.1, jml x.1 x.2.2.1 y.1 y.2.2.1, jmt x.1 x.2.2.2 y.1 y.2.2.2)
 | some x, none => x
 | none, some y => y
 | none, none => (0, 0, [], ⟨#[]⟩)
def kep (A B : List M4) (na nb g : Int) : Bool := (!hol g A || kpu A B nb g) && (!hol g B || kpu B A na g)
def ptm (m : M4) (L : List M4) : List M4 := L.filter (fun y => decide (y.2.1 ≤ m.2.1)) ++ m :: L.filter (fun y => decide (m.2.1 < y.2.1))
def stu (m : M4) (u : Int) : M4 := (m.1, u, m.2.2)
def jst (A B : List M4) (GA GB : List Int) (na nb : Int) (s : List M4 × Int) (g : Int) : List M4 × Int :=
 if (inl g GA || inl g GB) = true then s else if kep A B na nb g = true then (ptm (gm A B g) s.1, s.2) else (ptm (stu (gm A B g) s.2) s.1, w64 (s.2 + 1))
def jms (A B : List M4) (GA GB : List Int) (na nb : Int) (gs : List Int) : List M4 × Int := gs.foldl (jst A B GA GB na nb) ([], mx8 na nb)
theorem jms_snoc (A B : List M4) (GA GB : List Int) (na nb : Int) (gs : List Int) (g : Int) : jms A B GA GB na nb (gs ++ [g]) = jst A B GA GB na nb (jms A B GA GB na nb gs) g := by simp [jms, List.foldl_append]
theorem ptu_md (z : Z5) (Z : List Z5) : (ptu z Z).map md = ptm (md z) (Z.map md) := by
 unfold ptu ptm
 rw [List.map_append, List.map_cons, List.filter_map, List.filter_map]
 rfl
theorem fnd_all {lo hi : Nat} {W : World} {ma : Option Addr} {L : List M4} (x : Int) (h : Ms lo hi W ma L) :
  (fnd x L = none ∧ mat x L 0 = -1) ∨ ∃ (j k o : Nat) (u : Int) (fl : List R3) (tx : ByteArray) (fa : Option Addr) (fc : Nat), ma = some ⟨k, o, none⟩ ∧ j < L.length ∧ fnd x L = some (x, u, fl, tx) ∧ mat x L 0 = (j : Int) ∧ k < W.heap.size ∧
   (W.cell? ⟨k, o + j * 4, none⟩ = some (.int .i64 x) ∧ W.cell? ⟨k, o + j * 4 + 1, none⟩ = some (.int .i64 u) ∧ W.cell? ⟨k, o + j * 4 + 2, none⟩ = some (.slice fa fl.length fc) ∧ W.cell? ⟨k, o + j * 4 + 3, none⟩ = some (.string tx)) ∧ Rs W fa fl ∧ (fa = none → fc = 0) ∧ (x, u, fl, tx) ∈ L := by
 rcases mat_fnd x L 0 with h0 | ⟨j, h1, h2, h3⟩
 ·exact Or.inl h0
 ·obtain ⟨k, o, fa, fc, e, hk, cc, hr, h0⟩ := h.at h1
  have hx : L[j].1 = x := by
   have key : ∀ (l : List M4) (m : M4), fnd x l = some m → m.1 = x := by
    intro l
    induction l with
    | nil => intro m hm; simp [fnd] at hm
    | cons y l ih =>
     intro m hm
     rw [fnd] at hm
     by_cases e : y.1 = x
     ·rw [if_pos e] at hm; obtain rfl := Option.some.inj hm; exact e
     ·rw [if_neg e] at hm; exact ih m hm
   exact key L _ h2
  have hm : L[j] ∈ L := List.getElem_mem h1
  obtain ⟨z, hz⟩ : ∃ z, L[j] = z := ⟨_, rfl⟩
  rw [hz] at cc hr h2 hx hm
  obtain ⟨y, u, fl, tx⟩ := z
  dsimp only at cc hr hx
  subst hx
  exact Or.inr ⟨j, k, o, u, fl, tx, fa, fc, e, h1, h2, by rw [h3]; congr 1; omega, hk, cc, hr, h0, hm⟩
end Go.Proofs.YtmpcmllfgogegaaGreat
