/- Qk, Ql, Qp, Qr, Qs, Qt, Qm0, Qu, Qv. -/
import Derived.Test.YtmalpgbdemcmdaaDoorR2
namespace Go.Proofs.YtmalpgbdemcmdaaDoor
open Go.RowKit
abbrev T2 := Int × ByteArray
def tc : List T2 → List Value
  | [] => []
  | p :: l => .int .i64 p.1 :: .string p.2 :: tc l
theorem tc_app (l m : List T2) : tc (l ++ m) = tc l ++ tc m := by
  induction l with
  | nil => rfl
  | cons p l ih => simp only [List.cons_append, tc, ih]
theorem tc_one (l : List T2) : ∀ u ∈ tc l, u.oneCell' = true := by
  induction l with
  | nil => intro u hu; cases hu
  | cons p l ih =>
    intro u hu
    simp only [tc, List.mem_cons] at hu
    rcases hu with rfl | rfl | hu
    · rfl
    · rfl
    · exact ih u hu
/-- A list of tokens that a call owns. -/
def OwK (w : World) (B : Nat) (v : Value) (l : List T2) : Prop := w.ownsRow B 28 2 v l.length (tc l)
theorem info_tk : (Tryd.prog.info? 28).map (fun i => (i.zero, i.size, i.bytes)) = some (some (.agg #[.int .i64 0, .string ⟨#[]⟩]), 2, 24) := by kernel_rfl
theorem cells_new2 (w : World) (p : T2) (e : Nat) : ∀ j u, (tc [p])[j]? = some u → (w.alloc (.cells #[.int .i64 p.1, .string p.2] e)).cell? ((⟨w.heap.size, 0, none⟩ : Addr).add j) = some u := by
  intro j u hu
  have h := heap_alloc_new w (.cells #[.int .i64 p.1, .string p.2] e)
  have hadd : (⟨w.heap.size, 0, none⟩ : Addr).add j = ⟨w.heap.size, j, none⟩ := by unfold Addr.add; split <;> simp_all
  rw [hadd, cell_of_row _ _ _ _ _ _ h]
  simpa [tc] using hu
/-- One token appended to a row of tokens that the call owns: it lies in a block of its own, laid just ahead. -/
theorem wpList_append_tk (w : World) {ops : Array Oper} {rest : List Oper} {o : Oper} {a : Act} {Q : Exit → Act → World → Prop} (hgd : o.guard = none) (s x : Operand)
    (ho : o.op = .call { callee := .builtin .append, args := #[s, x], argTypes := #[24, 24] })
    (base : Nat) (v : Value) (l : List T2) (hs : a.eval s = v) (hown : OwK w base v l) (p : Int) (q : ByteArray)
    (hx : a.eval x = .slice (some ⟨w.heap.size, 0, none⟩) 1 1) (hlen : l.length ≤ 1048576) (hbase : base ≤ w.heap.size)
    (h : ∀ v' w', OwK w' base v' (l ++ [(p, q)]) → (w.alloc (.cells #[.int .i64 p, .string q] 28)).grownBy w' v.ownBlock → wpList Tryd.prog ops Q rest (a.put o.dst v') w') :
    wpList Tryd.prog ops Q (o :: rest) a (w.alloc (.cells #[.int .i64 p, .string q] 28)) := by
  obtain ⟨i0, hi, hz0, hz1, hz2⟩ := info_parts3 info_tk
  refine wpList_append_own _ hgd s x 24 ho base 28 i0 _ 2 24 Tryd.underlying24 hi hz0 hz1 hz2 rfl (by decide) v _ _ hs (hown.alloc _) ⟨w.heap.size, 0, none⟩ 1 1 (tc [(p, q)]) hx rfl (cells_new2 w (p, q) 28) (tc_one _) (by unfold maxLen; omega) (by omega) (by simp; omega) ?_
  intro v' w' hown' hg _
  have h1 : OwK w' base v' (l ++ [(p, q)]) := by unfold OwK; rw [tc_app]; simpa using hown'
  exact h v' w' h1 hg
theorem ownK_empty (W : World) (B : Nat) (hB : B ≤ W.heap.size) : OwK (W.alloc (.cells #[] 28)) B (.slice (some ⟨W.heap.size, 0, none⟩) 0 0) [] :=
  World.ownsRow_lit (base := B) (e := 28) (size := 2) W #[] 0 hB (by unfold maxLen; omega) rfl
/-- Tokens with one blank between, up to 13 and 10. -/
def tks (s : ByteArray) : Nat → Nat → List T2 → Option (Option (List T2 × Nat))
  | 0, _, _ => some none
  | f + 1, a, l =>
    match tkn s a with
    | none => none
    | some none => some none
    | some (some (x, n)) =>
      if 8 < (l ++ [x]).length then some none
      else match s.data.toList[n]? with
        | none => none
        | some b =>
          if b.toNat = 13 then
            (match s.data.toList[n + 1]? with
            | none => none
            | some y => if y.toNat = 10 then some (some (l ++ [x], n + 2)) else some none)
          else if b.toNat = 32 then tks s f (n + 1) (l ++ [x]) else some none
/-- What is said first: the tokens, what is behind, and the code. -/
def rtk (s : ByteArray) : List T2 × ByteArray × Int :=
  match tks s 9 0 [] with
  | none => if s.size ≤ 200 then ([], s, 1) else ([], eln s (s.size + 1) 0, 2)
  | some none => ([], eln s (s.size + 1) 0, 2)
  | some (some (l, n)) => if 200 < n then ([], eln s (s.size + 1) 0, 2) else (l, s.extract n s.size, 0)
/-- How reading tokens ends. -/
def Rk13 (s : ByteArray) (w : World) (e : Ending) (w' : World) : Prop := ∃ v l t c, e = .returned (.tuple #[v, .string t, .int .i64 c]) ∧ rtk s = (l, t, c) ∧ OwK w' w.heap.size v l ∧ Below w.heap.size w w'
theorem ownK_none {W : World} {g B : Nat} (h : W.heap[g]? = some (.cells #[] 28)) (hB : B ≤ g) : OwK W B (.slice (some ⟨g, 0, none⟩) 0 0) [] := ⟨by simp [tc], .inr ⟨g, 0, #[], rfl, hB, h, Nat.zero_le _, by unfold maxLen; omega, rfl, rfl⟩⟩
theorem bdn13 {B : Nat} {w W : World} (h : Below B w W) (n : Nat) : Below B w (W.drewN n) := ⟨h.os, h.tape, h.output, h.size, h.block⟩
theorem OwK.shape {W : World} {B : Nat} {v : Value} {l : List T2} (h : OwK W B v l) : ∃ a c, v = .slice a l.length c := by
  rcases h.2 with ⟨h1, h2⟩ | ⟨g, cap, cur, h1, _⟩
  · exact ⟨none, 0, by rw [h1, h2]⟩
  · exact ⟨_, cap, h1⟩
theorem OwK.kept {W W' : World} {B k : Nat} {v : Value} {l : List T2} (h : OwK W B v l) (hg : W.grownBy W' (some k)) (hk : k < B) : OwK W' B v l :=
  World.ownsRow.kept h hg (Or.inr (fun e => by have := (World.ownsRow.lt h k e).1; omega))
theorem OwK.down {W : World} {B B' : Nat} {v : Value} {l : List T2} (h : OwK W B v l) (hB : B' ≤ B) : OwK W B' v l := own_base h hB
/-- What stands while tokens are read: the reader, the list that is handed back when there are none. -/
structure Rd13 (w W : World) (s : ByteArray) (a : Nat) (mo ba : Bool) : Prop where
  cur : Qg W (w.heap.size + 1) s a mo ba
  nil : W.heap[w.heap.size]? = some (.cells #[] 28)
  bel : Below w.heap.size w W
section
variable {w W W' : World} {s : ByteArray} {a : Nat} {mo ba : Bool}
theorem Rd13.step {a' : Nat} {mo' ba' : Bool} (h : Rd13 w W s a mo ba) (hg : W.grownBy W' (some (w.heap.size + 1))) (hq : Qg W' (w.heap.size + 1) s a' mo' ba') : Rd13 w W' s a' mo' ba' :=
  ⟨hq, (hg.block _ (Array.getElem?_eq_some_iff.1 h.nil).1 (fun e => by simp only [Option.some.injEq] at e; omega)).trans h.nil, h.bel.trans (below_grownR hg (fun j hj => by simp only [Option.some.injEq] at hj; omega) h.bel.size)⟩
theorem Rd13.more (h : Rd13 w W s a mo ba) (hb : Below W.heap.size W W') : Rd13 w W' s a mo ba := ⟨h.cur.later hb, (hb.block _ (Array.getElem?_eq_some_iff.1 h.nil).1).trans h.nil, btr h.bel hb⟩
theorem Rd13.app {v : Value} {B : Nat} (h : Rd13 w W s a mo ba) (hg : W.grownBy W' v.ownBlock) (hv : ∀ j, v.ownBlock = some j → B ≤ j) (hB : w.heap.size + 1 < B) : Rd13 w W' s a mo ba :=
  ⟨(hg.block _ h.cur.lt (fun e => by have := hv _ e.symm; omega)).trans h.cur, (hg.block _ (Array.getElem?_eq_some_iff.1 h.nil).1 (fun e => by have := hv _ e.symm; omega)).trans h.nil, h.bel.trans (below_grownR hg (fun j hj => by have := hv j hj; omega) h.bel.size)⟩
end
theorem rtk_none {s : ByteArray} (h : tks s 9 0 [] = none) : rtk s = if s.size ≤ 200 then ([], s, 1) else ([], eln s (s.size + 1) 0, 2) := by rw [rtk, h]
theorem rtk_bad {s : ByteArray} (h : tks s 9 0 [] = some none) : rtk s = ([], eln s (s.size + 1) 0, 2) := by rw [rtk, h]
theorem rtk_ok {s : ByteArray} {l : List T2} {n : Nat} (h : tks s 9 0 [] = some (some (l, n))) : rtk s = if 200 < n then ([], eln s (s.size + 1) 0, 2) else (l, s.extract n s.size, 0) := by rw [rtk, h]
theorem qd_ge {s : ByteArray} : ∀ (f a : Nat) (acc : List UInt8) (t : ByteArray) (n : Nat), qd s f a acc = some (some (t, n)) → a ≤ n
  | 0, _, _, _, _, h => by rw [qd] at h; cases h
  | f + 1, a, acc, t, n, h => by
    rw [qd] at h
    split at h
    · cases h
    · split at h
      · simp only [Option.some.injEq, Prod.mk.injEq] at h; omega
      · split at h
        · split at h
          · cases h
          · split at h
            · split at h
              · cases h
              · have := qd_ge f _ _ _ _ h; omega
            · cases h
        · split at h
          · cases h
          · split at h
            · cases h
            · have := qd_ge f _ _ _ _ h; omega
theorem ltd_ge {s : ByteArray} : ∀ (f a n g m d b : Nat), ltd s f a n g = some (some (m, d, b)) → a ≤ b
  | 0, _, _, _, _, _, _, h => by rw [ltd] at h; cases h
  | f + 1, a, n, g, m, d, b, h => by
    rw [ltd] at h
    split at h
    · cases h
    · split at h
      · simp only [Option.some.injEq, Prod.mk.injEq] at h; omega
      · split at h
        · cases h
        · have := ltd_ge f _ _ _ _ _ _ h; omega
theorem aen_ge {s : ByteArray} : ∀ (f a n : Nat), aen s f a = some n → a ≤ n
  | 0, _, _, h => by rw [aen] at h; cases h
  | f + 1, a, n, h => by
    rw [aen] at h
    split at h
    · cases h
    · split at h
      · have := aen_ge f _ _ h; omega
      · simp only [Option.some.injEq] at h; omega
theorem lte_ge {s : ByteArray} {n a m : Nat} {t : ByteArray} (h : lte s n a = some (some (t, m))) : a ≤ m := by
  rw [lte] at h
  split at h
  · cases h
  · split at h
    · split at h
      · cases h
      · split at h
        · split at h
          · cases h
          · simp only [Option.some.injEq, Prod.mk.injEq] at h; omega
        · cases h
    · cases h
theorem lrd_ge {s : ByteArray} {a m : Nat} {t : ByteArray} (h : lrd s a = some (some (t, m))) : a ≤ m := by
  rw [lrd] at h
  split at h
  · cases h
  · cases h
  · rename_i n g b hb
    have h1 := ltd_ge _ _ _ _ _ _ _ hb
    split at h
    · cases h
    · have h2 := lte_ge h
      omega
theorem ard_ge {s : ByteArray} {a m : Nat} {t : ByteArray} (h : ard s a = some (some (t, m))) : a ≤ m := by
  rw [ard] at h
  split at h
  · cases h
  · rename_i n hn
    have h1 := aen_ge _ _ _ hn
    split at h
    · simp only [Option.some.injEq, Prod.mk.injEq] at h; omega
    · cases h
theorem tkm_some {kd kd' : Int} {r : Option (Option (ByteArray × Nat))} {t : ByteArray} {n : Nat} (h : tkm kd r = some (some ((kd', t), n))) : r = some (some (t, n)) := by
  rcases r with _ | _ | ⟨t', n'⟩
  · cases h
  · cases h
  · simp only [tkm, Option.some.injEq, Prod.mk.injEq] at h
    rw [h.1.2, h.2]
theorem tkn_ge {s : ByteArray} {a n : Nat} {kd : Int} {t : ByteArray} (h : tkn s a = some (some ((kd, t), n))) : a ≤ n := by
  rw [tkn] at h
  split at h
  · cases h
  · split at h
    · have := qd_ge _ _ _ _ _ (tkm_some h); omega
    · split at h
      · exact lrd_ge (tkm_some h)
      · exact ard_ge (tkm_some h)
set_option maxHeartbeats 6400000 in
set_option maxRecDepth 100000 in
theorem specReadTokens_any (s : ByteArray) (w : World) (hs : s.size ≤ 1048576) :
    Calls Tryd.prog 12 #[.string s] w fun e w' => Rk13 s w e w' := by
  obtain ⟨R, hR⟩ : ∃ R, tks s 9 0 [] = R := ⟨_, rfl⟩
  have HR := hid hR
  clear hR
  obtain ⟨W0, hW0⟩ : ∃ W0, ((w.alloc (.cells #[] 28)).alloc (.cells #[.string s, .int .i64 0, .bool false, .bool false] 58)).alloc (.cells #[] 28) = W0 := ⟨_, rfl⟩
  have RD0 : Hid (Rd13 w W0 s 0 false false) := by
    subst hW0
    refine ⟨?_, ?_, bpush (bpush (bpush (bre _) _) _) _⟩
    · have h := heap_alloc_new (w.alloc (.cells #[] 28)) (.cells #[.string s, .int .i64 0, .bool false, .bool false] 58)
      rw [show (w.alloc (.cells #[] 28)).heap.size = w.heap.size + 1 by simp] at h
      exact (Below.heap_alloc _ _ _ (by simp)).trans h
    · exact (Below.heap_alloc _ _ _ (by simp; omega)).trans ((Below.heap_alloc _ _ _ (by simp)).trans (heap_alloc_new w _))
  have OW0 : Hid (OwK W0 (w.heap.size + 2) (.slice (some ⟨w.heap.size + 2, 0, none⟩) 0 0) []) := by
    subst hW0
    have h := ownK_empty ((w.alloc (.cells #[] 28)).alloc (.cells #[.string s, .int .i64 0, .bool false, .bool false] 58)) (w.heap.size + 2) (by simp)
    rw [show ((w.alloc (.cells #[] 28)).alloc (.cells #[.string s, .int .i64 0, .bool false, .bool false] 58)).heap.size = w.heap.size + 2 by simp] at h
    exact h
  go_enter Tryd.func12, Tryd.ntmps12
  go_wp2
  clear hW0
  go_loopw [7] (fun ov wr => ∃ (a : Nat) (l : List T2), OwK wr (w.heap.size + 2) ov l ∧ Rd13 w wr s a false false ∧ l.length ≤ 8 ∧ a ≤ s.size ∧ Hid (tks s (9 - l.length) a l = R)) (fun _ wr => s.size + 1 - qat (w.heap.size + 1) wr)
  case atStart => exact ⟨0, [], OW0.out, RD0.out, by simp, by omega, HR.out⟩
  case round =>
    obtain ⟨a, l, ho, hr, hl8, hal, HD⟩ := hrel
    have HO := hid ho
    have HRD := hid hr
    have HAT := hid hr.cur.qat
    clear ho hr
    go_wp2_with fail
    refine (token_any (w.heap.size + 1) s a wr hs hal HRD.out.cur).mono ?_
    intro e w1 hr
    obtain ⟨hg, hr⟩ := hr
    have HG := hid hg
    have HO1 := hid (HO.out.kept hg (by omega))
    clear hg
    obtain ⟨fu, hfu⟩ : ∃ fu, 9 - l.length = fu + 1 := ⟨8 - l.length, by omega⟩
    rw [hfu] at HD
    have HFU := hid hfu
    clear hfu
    rcases hr with ⟨h3, ⟨kd, t, rfl⟩, a3, hq⟩ | ⟨h3, ⟨kd, t, rfl⟩, a3, hq⟩ | ⟨kd, t, n, h3, rfl, hn, hq⟩
    · have RD2 : Hid (Rd13 w (w1.alloc (.cells #[.int .i64 kd, .string t] 28)) s a3 true false) := (HRD.out.step HG.out hq).more (bpush (bre _) _)
      clear hq
      have HX : Hid (R = none) := by show _ = _; rw [← HD.out, tks, h3]
      have d := RD2.out.cur.cells
      by_cases hsm : s.size ≤ 200
      · have HY : Hid (rtk s = ([], s, 1)) := by show _ = _; rw [rtk_none (HR.out.trans HX.out), if_pos hsm]
        go_wp2
        go_ret3
        exact ⟨_, _, _, _, rfl, HY.out, ownK_none RD2.out.nil (Nat.le_refl _), RD2.out.bel⟩
      · have HY : Hid (rtk s = ([], eln s (s.size + 1) 0, 2)) := by show _ = _; rw [rtk_none (HR.out.trans HX.out), if_neg hsm]
        go_wp2_with fail
        refine (end13_any s _ hs).mono ?_; rintro e w9 ⟨rfl, h9⟩
        subst h9
        go_wp2
        go_ret3
        exact ⟨_, _, _, _, rfl, HY.out, ownK_none RD2.out.nil (Nat.le_refl _), RD2.out.bel⟩
    · have RD2 : Hid (Rd13 w (w1.alloc (.cells #[.int .i64 kd, .string t] 28)) s a3 false true) := (HRD.out.step HG.out hq).more (bpush (bre _) _)
      clear hq
      have HX : Hid (R = some none) := by show _ = _; rw [← HD.out, tks, h3]
      have d := RD2.out.cur.cells
      have HY : Hid (rtk s = ([], eln s (s.size + 1) 0, 2)) := rtk_bad (HR.out.trans HX.out)
      go_wp2_with fail
      refine (end13_any s _ hs).mono ?_; rintro e w9 ⟨rfl, h9⟩
      subst h9
      go_wp2
      go_ret3
      exact ⟨_, _, _, _, rfl, HY.out, ownK_none RD2.out.nil (Nat.le_refl _), RD2.out.bel⟩
    · have RD2 : Hid (Rd13 w (w1.alloc (.cells #[.int .i64 kd, .string t] 28)) s n false false) := (HRD.out.step HG.out hq).more (bpush (bre _) _)
      have HO2 : Hid (OwK (w1.alloc (.cells #[.int .i64 kd, .string t] 28)) (w.heap.size + 2) u7 l) := World.ownsRow.alloc HO1.out _
      have HKN : Hid (Tok (w1.alloc (.cells #[.int .i64 kd, .string t] 28)) w1.heap.size 28 kd t) := Tok.new _ _ _ _
      have HU : Hid (R = if 8 < (l ++ [(kd, t)]).length then some none else (match s.data.toList[n]? with | none => none | some b => if b.toNat = 13 then (match s.data.toList[n + 1]? with | none => none | some y => if y.toNat = 10 then some (some (l ++ [(kd, t)], n + 2)) else some none) else if b.toNat = 32 then tks s fu (n + 1) (l ++ [(kd, t)]) else some none)) := by
        show _ = _
        rw [← HD.out, tks, h3]
      have HLT : Hid (a ≤ n) := tkn_ge h3
      clear hq h3
      go_upto_region 5 with fail
      obtain ⟨W2, hW2⟩ : ∃ W2, w1.alloc (.cells #[.int .i64 kd, .string t] 28) = W2 := ⟨_, rfl⟩
      rw [hW2] at RD2 HO2 HKN ⊢
      clear hW2
      have d := RD2.out.cur.cells
      have ck := HKN.out.cells
      obtain ⟨L2, hL2⟩ : ∃ L2, l ++ [(kd, t)] = L2 := ⟨_, rfl⟩
      obtain ⟨N, hN⟩ : ∃ N, L2.length = N := ⟨_, rfl⟩
      have hNl : N = l.length + 1 := by rw [← hN, ← hL2]; simp
      rw [hL2, hN] at HU
      have HL2 := hid hL2
      have HN := hid hN
      have HNL := hid hNl
      have hNb : N ≤ 9 := by omega
      have HLN : Hid (l.length ≤ 1048576) := by show _ ≤ _; omega
      have HSZ : Hid (w.heap.size + 2 ≤ W2.heap.size) := by have := RD2.out.cur.lt; show _ ≤ _; omega
      have RD3 : Hid (Rd13 w (W2.alloc (.cells #[.int .i64 kd, .string t] 28)) s n false false) := RD2.out.more (bpush (bre _) _)
      have HB7 : Hid (∀ j, Value.ownBlock u7 = some j → w.heap.size + 2 ≤ j) := fun j hj => (World.ownsRow.lt HO2.out j hj).1
      clear hL2 hN hNl
      by_cases hbig : 8 < N
      · have HX0 : Hid (R = some none) := by show _ = _; rw [HU.out, if_pos hbig]
        clear HU
        go_wp2_with (at_builtin; refine wpList_append_tk W2 rfl (.tmp 28) (.tmp 30) rfl (w.heap.size + 2) _ _ (by rfl) HO2.out _ _ rfl HLN.out HSZ.out ?_; rotate_right; intro v4 w4 ho4 hg4; have RD4 := hid (RD3.out.app hg4 HB7.out (by omega)); (obtain ⟨a4, c4, hv4⟩ := OwK.shape ho4); (rw [HL2.out, HN.out] at hv4); subst hv4; clear ho4 hg4 d; have d := RD4.out.cur.cells; have f := RD4.out.cur.loose)
        have RD5 : Hid (Rd13 w (w4.setCell ⟨w.heap.size + 1, 3, none⟩ (.bool true)) s n false true) := RD4.out.step (wst (wre _ _) _ _) (RD4.out.cur.s3 true)
        have HY : Hid (rtk s = ([], eln s (s.size + 1) 0, 2)) := rtk_bad (HR.out.trans HX0.out)
        refine (end13_any s _ hs).mono ?_; rintro e w9 ⟨rfl, h9⟩
        subst h9
        go_wp2
        go_ret3
        exact ⟨_, _, _, _, rfl, HY.out, ownK_none RD5.out.nil (Nat.le_refl _), RD5.out.bel⟩
      · have HU2 : Hid (R = (match s.data.toList[n]? with | none => none | some b => if b.toNat = 13 then (match s.data.toList[n + 1]? with | none => none | some y => if y.toNat = 10 then some (some (L2, n + 2)) else some none) else if b.toNat = 32 then tks s fu (n + 1) L2 else some none)) := by show _ = _; rw [HU.out, if_neg hbig]
        clear HU
        go_wp2_with (at_builtin; refine wpList_append_tk W2 rfl (.tmp 28) (.tmp 30) rfl (w.heap.size + 2) _ _ (by rfl) HO2.out _ _ rfl HLN.out HSZ.out ?_; rotate_right; intro v4 w4 ho4 hg4; have RD4 := hid (RD3.out.app hg4 HB7.out (by omega)); (obtain ⟨a4, c4, hv4⟩ := OwK.shape ho4); (rw [HL2.out, HN.out] at hv4); subst hv4; (rw [HL2.out] at ho4); have HO4 := hid ho4; clear ho4 hg4 d; have d := RD4.out.cur.cells; have f := RD4.out.cur.loose)
        refine (next_any (w.heap.size + 1) s n w4 (by omega) RD4.out.cur).mono ?_
        intro e w5 hn5
        obtain ⟨c, ok, rfl, hcb, hq, hg, hw⟩ := hn5
        have HO5 := hid (HO4.out.kept hg (by omega))
        have RD5 := hid (RD4.out.step hg hq)
        clear hq hg d f
        have d := RD5.out.cur.cells
        have f := RD5.out.cur.loose
        cases ok with
        | false =>
          have hle : s.size ≤ n := by rcases hw with ⟨h, _⟩ | ⟨_, h⟩; (cases h); exact h
          clear hw d
          have HX : Hid (R = none) := by show _ = _; rw [HU2.out, at_none hle]
          have d := RD5.out.cur.cells
          by_cases hsm : s.size ≤ 200
          · have HY : Hid (rtk s = ([], s, 1)) := by show _ = _; rw [rtk_none (HR.out.trans HX.out), if_pos hsm]
            go_wp2
            go_ret3
            exact ⟨_, _, _, _, rfl, HY.out, ownK_none RD5.out.nil (Nat.le_refl _), RD5.out.bel⟩
          · have HY : Hid (rtk s = ([], eln s (s.size + 1) 0, 2)) := by show _ = _; rw [rtk_none (HR.out.trans HX.out), if_neg hsm]
            go_wp2_with fail
            refine (end13_any s _ hs).mono ?_; rintro e w9 ⟨rfl, h9⟩
            subst h9
            go_wp2
            go_ret3
            exact ⟨_, _, _, _, rfl, HY.out, ownK_none RD5.out.nil (Nat.le_refl _), RD5.out.bel⟩
        | true =>
          have hlt : ∃ h : n < s.size, s[n].toNat = c := by rcases hw with ⟨_, h⟩ | ⟨h, _⟩; (exact h); cases h
          clear hw
          obtain ⟨hlt, hcx⟩ := hlt
          have HU3 : Hid (R = if c = 13 then (match s.data.toList[n + 1]? with | none => none | some y => if y.toNat = 10 then some (some (L2, n + 2)) else some none) else if c = 32 then tks s fu (n + 1) L2 else some none) := by
            show _ = _
            rw [HU2.out, at_get hlt]
            simp only [hcx]
          clear HU2
          by_cases h13 : c = 13
          · subst h13
            have HU4 : Hid (R = (match s.data.toList[n + 1]? with | none => none | some y => if y.toNat = 10 then some (some (L2, n + 2)) else some none)) := by show _ = _; rw [HU3.out, if_pos rfl]
            have RD6 : Hid (Rd13 w (w5.setCell ⟨w.heap.size + 1, 1, none⟩ (.int .i64 ((n : Int) + 1))) s (n + 1) false false) := RD5.out.step (wst (wre _ _) _ _) (RD5.out.cur.s1 (n + 1))
            have HO6 : Hid (OwK (w5.setCell ⟨w.heap.size + 1, 1, none⟩ (.int .i64 ((n : Int) + 1))) (w.heap.size + 2) (.slice a4 N c4) L2) := HO5.out.kept (wst (wre _ _) _ _) (by omega)
            clear HU3
            go_wp2_with fail
            obtain ⟨W6, hW6⟩ : ∃ W6, w5.setCell ⟨w.heap.size + 1, 1, none⟩ (.int .i64 ((n : Int) + 1)) = W6 := ⟨_, rfl⟩
            rw [hW6] at RD6 HO6 ⊢
            clear hW6 d f
            refine (must_any (w.heap.size + 1) s (n + 1) 10 W6 (by omega) RD6.out.cur).mono ?_
            intro e w7 hm
            obtain ⟨a7, mo, ba, rfl, hq, hg, hw⟩ := hm
            have RD7 := hid (RD6.out.step hg hq)
            have HO7 := hid (HO6.out.kept hg (by omega))
            clear hq hg
            rcases hw with ⟨⟨hl, hx⟩, rfl, rfl, rfl⟩ | ⟨⟨hl, hx⟩, rfl, rfl, rfl⟩ | ⟨hl, rfl, rfl, rfl⟩
            · have HX : Hid (R = some (some (L2, n + 2))) := by
                show _ = _
                rw [HU4.out, at_get hl]
                simp only [hx, if_true]
              clear HU4 hx
              obtain ⟨m, hm⟩ : ∃ m : Nat, n + 1 + 1 = m := ⟨_, rfl⟩
              have hms : m ≤ s.size := by omega
              rw [show n + 2 = n + 1 + 1 from rfl, hm] at HX
              rw [hm] at RD7
              clear hm
              have d := RD7.out.cur.cells
              by_cases hfar : 200 < m
              · have HY : Hid (rtk s = ([], eln s (s.size + 1) 0, 2)) := by show _ = _; rw [rtk_ok (HR.out.trans HX.out), if_pos hfar]
                go_wp2_with fail
                refine (end13_any s _ hs).mono ?_; rintro e w9 ⟨rfl, h9⟩
                subst h9
                go_wp2
                go_ret3
                exact ⟨_, _, _, _, rfl, HY.out, ownK_none RD7.out.nil (Nat.le_refl _), RD7.out.bel⟩
              · have HY : Hid (rtk s = (L2, s.extract m s.size, 0)) := by show _ = _; rw [rtk_ok (HR.out.trans HX.out), if_neg hfar]
                have hI : (0 : Int) ≤ (m : Int) ∧ (m : Int) ≤ (s.size : Int) := by omega
                go_wp2
                go_quiet (fail)
                go_wp2
                go_ret3
                exact ⟨_, _, _, _, rfl, HY.out, HO7.out.down (by omega), bdn13 RD7.out.bel _⟩
            · clear HO7
              have HX : Hid (R = some none) := by show _ = _; rw [HU4.out, at_get hl]; simp only [hx, if_false]
              have d := RD7.out.cur.cells
              have HY : Hid (rtk s = ([], eln s (s.size + 1) 0, 2)) := rtk_bad (HR.out.trans HX.out)
              go_wp2_with fail
              refine (end13_any s _ hs).mono ?_; rintro e w9 ⟨rfl, h9⟩
              subst h9
              go_wp2
              go_ret3
              exact ⟨_, _, _, _, rfl, HY.out, ownK_none RD7.out.nil (Nat.le_refl _), RD7.out.bel⟩
            · clear HO7
              have HX : Hid (R = none) := by show _ = _; rw [HU4.out, at_none hl]
              have d := RD7.out.cur.cells
              by_cases hsm : s.size ≤ 200
              · have HY : Hid (rtk s = ([], s, 1)) := by show _ = _; rw [rtk_none (HR.out.trans HX.out), if_pos hsm]
                go_wp2
                go_ret3
                exact ⟨_, _, _, _, rfl, HY.out, ownK_none RD7.out.nil (Nat.le_refl _), RD7.out.bel⟩
              · have HY : Hid (rtk s = ([], eln s (s.size + 1) 0, 2)) := by show _ = _; rw [rtk_none (HR.out.trans HX.out), if_neg hsm]
                go_wp2_with fail
                refine (end13_any s _ hs).mono ?_; rintro e w9 ⟨rfl, h9⟩
                subst h9
                go_wp2
                go_ret3
                exact ⟨_, _, _, _, rfl, HY.out, ownK_none RD7.out.nil (Nat.le_refl _), RD7.out.bel⟩
          · have i13 : ((c : Int) == 13) = false := by rw [beq_eq_false_iff_ne]; omega
            have HU4 : Hid (R = if c = 32 then tks s fu (n + 1) L2 else some none) := by show _ = _; rw [HU3.out, if_neg h13]
            clear HU3 h13 d f
            go_wp2_with fail
            refine (must_any (w.heap.size + 1) s n 32 w5 (by omega) RD5.out.cur).mono ?_
            intro e w7 hm
            obtain ⟨a7, mo, ba, rfl, hq, hg, hw⟩ := hm
            have RD7 := hid (RD5.out.step hg hq)
            have HO7 := hid (HO5.out.kept hg (by omega))
            clear hq hg
            rcases hw with ⟨⟨hl, hx⟩, rfl, rfl, rfl⟩ | ⟨⟨hl, hx⟩, rfl, rfl, rfl⟩ | ⟨hl, rfl, rfl, rfl⟩
            · have HX : Hid (tks s (9 - L2.length) (n + 1) L2 = R) := by
                show _ = _
                rw [HU4.out, if_pos (by rw [← hcx]; exact hx), show 9 - L2.length = fu by have h1 := HFU.out; have h2 := HNL.out; have h3 := HN.out; omega]
              clear HU4 hx
              have d := RD7.out.cur.cells
              go_wp2
              go_roundw
              case rel => exact ⟨n + 1, L2, HO7.out, RD7.out, by rw [HN.out]; omega, by omega, HX.out⟩
              case measure =>
                rw [RD7.out.cur.qat, HAT.out]
                have := HLT.out
                omega
            · clear HO7
              have HX : Hid (R = some none) := by show _ = _; rw [HU4.out, if_neg (by rw [← hcx]; exact hx)]
              have d := RD7.out.cur.cells
              have HY : Hid (rtk s = ([], eln s (s.size + 1) 0, 2)) := rtk_bad (HR.out.trans HX.out)
              go_wp2_with fail
              refine (end13_any s _ hs).mono ?_; rintro e w9 ⟨rfl, h9⟩
              subst h9
              go_wp2
              go_ret3
              exact ⟨_, _, _, _, rfl, HY.out, ownK_none RD7.out.nil (Nat.le_refl _), RD7.out.bel⟩
            · omega
/-- One of a row of texts that lies in another block: it is as each of them is. -/
theorem pickP_any (P : ByteArray → Prop) (cb g k : Nat) (zs : List ByteArray) (ao : Option Addr) (n cap : Nat) (w : World) (hn : n ≤ 1048576) (hcur : Cur w cb ao n cap) (hcode : Code w cb ao n) (hk : zs.length = k) (hk0 : 0 < k) (hk2 : k ≤ 1000) (hg : g ≠ cb) (hz : ∀ y ∈ zs, P y)
    (hcell : ∀ i (h : i < zs.length), w.cell? ⟨g, i, none⟩ = some (.string zs[i])) :
    Calls Tryd.prog 31 #[.pointer (some ⟨cb, 0, none⟩), .slice (some ⟨g, 0, none⟩) k k] w fun e w' => ∃ x : ByteArray, Hid (P x) ∧ e = .returned (.string x) ∧ Cur w' cb ao n cap ∧ w.grownBy w' (some cb) := by
  have HC := hide hcur
  have HO := hide hcode
  have HK := hide hk
  have HZ := hide hz
  have HCELL := hide hcell
  clear hcur hcode hk hcell hz
  go_enter Tryd.func31, Tryd.ntmps31
  go_wp2_with fail
  refine (below4 cb ao n cap _ hn (unhide HC) (unhide HO) k (by omega) (by omega)).mono ?_; rintro e w1 ⟨x, hx, rfl, hc1, hb1⟩
  have hxl : x < zs.length := by rw [unhide HK]; omega
  obtain ⟨y, hy⟩ : ∃ y, zs[x] = y := ⟨_, rfl⟩
  have hc : w1.cell? ⟨g, x, none⟩ = some (.string y) := hb1.cell (by rw [← hy]; exact unhide HCELL x hxl) (by simp; omega)
  have HY : Hid (P y) := by show P y; rw [← hy]; exact unhide HZ _ (List.getElem_mem _)
  have HC1 := hide hc1
  have hI : (0 : Int) ≤ (x : Int) ∧ (x : Int) < (k : Int) := by omega
  clear hc1 hy
  go_wp2
  go_ret
  exact ⟨y, HY, rfl, unhide HC1, hb1⟩
theorem rowT (w : World) (e : Nat) (zs : List ByteArray) (cs : Array Value) (hcs : cs = (zs.map Value.string).toArray) : ∀ i (h : i < zs.length), (w.alloc (.cells cs e)).cell? ⟨w.heap.size, i, none⟩ = some (.string zs[i]) := by
  intro i hi
  subst hcs
  rw [cell_of_row _ _ i _ _ _ (heap_alloc_new w _)]
  simp [hi]
/-- A token that is read back from its text. -/
def okt (p : T2) : Prop := (p.1 = 1 ∧ atk p.2 = true) ∨ (p.1 = 2 ∧ p.2.size ≤ 60)
theorem Tok.grown {W W' : World} {k ty : Nat} {kd : Int} {t : ByteArray} {r : Option Nat} (h : Tok W k ty kd t) (hg : W.grownBy W' r) (hk : some k ≠ r) : Tok W' k ty kd t := (hg.block k h.lt hk).trans h
theorem long13 (m : Nat) (x : UInt8) (z : Int) (hz : z = (x.toNat : Int)) (w : World) (hm : m ≤ 1000000) : Calls Tryd.prog 32 #[.int .i64 (m : Int), .int .u8 z] w fun e w' => ∃ t : ByteArray, Hid (t.size = m) ∧ e = .returned (.string t) ∧ Below w.heap.size w w' := by
  subst hz
  refine (long_any m x w hm).mono ?_
  rintro e w' ⟨bs, hb, rfl, h⟩
  exact ⟨⟨bs.toArray⟩, by show bs.toArray.size = m; simpa using hb, rfl, h⟩
set_option maxHeartbeats 1600000 in
set_option maxRecDepth 100000 in
theorem l13Token_any (cb : Nat) (ao : Option Addr) (n cap : Nat) (w : World) (hn : n ≤ 1048576) (hcur : Cur w cb ao n cap) (hcode : Code w cb ao n) :
    Calls Tryd.prog 23 #[.pointer (some ⟨cb, 0, none⟩)] w fun e w' => ∃ kd t, e = .returned (.agg #[.int .i64 kd, .string t]) ∧ Hid (okt (kd, t)) ∧ Cur w' cb ao n cap ∧ w.grownBy w' (some cb) := by
  have hlt := hcur.lt
  have HT := hid hlt
  have T0 := hid (Tok.new w 28 0 ⟨#[]⟩)
  have C0 := hid (hcur.alloc (.cells #[.int .i64 0, .string ⟨#[]⟩] 28))
  have G0 := hid (World.grownBy_alloc w (.cells #[.int .i64 0, .string ⟨#[]⟩] 28) (some cb))
  have O0 := hid hcode
  clear hcur hcode hlt
  go_enter Tryd.func23, Tryd.ntmps23
  go_wp2_with fail
  refine (once_any cb ao n cap _ hn C0.out (O0.out.later G0.out) 2 (by decide) (by decide)).mono ?_; rintro e w1 ⟨t, rfl, hc, hg⟩
  have C1 := hid hc
  have G1 := hid (wtr G0.out hg)
  have T1 := hid (T0.out.grown hg (by have := HT.out; simp; omega))
  clear hc hg C0 G0 T0
  cases t
  · go_wp2_with fail
    refine (long13 60 97 97 rfl _ (by decide)).mono ?_; rintro e w2 ⟨z, hz, rfl, hb⟩
    have C2 := hid (C1.out.later hb (C1.out.lt))
    have G2 := hid (wtr G1.out (grown_below hb (some cb)))
    have T2 := hid (T1.out.later hb)
    clear hb C1 G1 T1
    go_wp2_with fail
    refine (pickP_any (fun y => y.size ≤ 60) cb w2.heap.size 8 [⟨#[]⟩, ⟨#[97, 110, 110]⟩, ⟨#[97, 32, 98]⟩, ⟨#[113, 34, 113]⟩, ⟨#[98, 92, 115]⟩, ⟨#[108, 105, 110, 101, 13, 10, 101, 110, 100]⟩, ⟨#[0, 255]⟩, z] ao n cap _ hn (C2.out.alloc _) (O0.out.later (wtr G2.out (World.grownBy_alloc _ _ _))) rfl (by decide) (by decide) (by have := C2.out.lt; omega) ?_ (rowT w2 9 _ _ rfl)).mono ?_
    · intro y hy
      simp only [List.mem_cons, List.not_mem_nil, or_false] at hy
      rcases hy with rfl | rfl | rfl | rfl | rfl | rfl | rfl | rfl
      all_goals first | (rw [hz.out]; decide) | decide
    rintro e w3 ⟨x, hx, rfl, hc, hg⟩
    have HX := hid hx
    have C3 := hid hc
    have hg2 := wtr (World.grownBy_alloc w2 _ _) hg
    have G3 := hid (wtr G2.out hg2)
    have T3 := hid (T2.out.grown hg2 (by have := HT.out; simp; omega))
    have c := T3.out.cells
    have f := T3.out.loose
    clear hx hc hg hg2 hz
    go_wp2
    have d := (T3.out.put 2 x).cells
    refine bodyPost_ret (v := .agg #[.int .i64 2, .string x]) (by simp [results, Tryd.results23, go_sem, d]) rfl ⟨2, x, rfl, .inr ⟨rfl, HX.out.out⟩, (C3.out.set (by have := HT.out; omega)).set (by have := HT.out; omega), wst_new (wst_new G3.out (Nat.le_refl _) _ _) (Nat.le_refl _) _ _⟩
  · go_wp2_with fail
    refine (pickP_any (fun y => atk y = true) cb w1.heap.size 6 [⟨#[97, 49]⟩, ⟨#[76, 79, 71, 73, 78]⟩, ⟨#[78, 79, 79, 80]⟩, ⟨#[120]⟩, ⟨#[49, 58, 51, 44, 42]⟩, ⟨#[33, 126]⟩] ao n cap _ hn (C1.out.alloc _) (O0.out.later (wtr G1.out (World.grownBy_alloc _ _ _))) rfl (by decide) (by decide) (by have := C1.out.lt; omega) ?_ (rowT w1 9 _ _ rfl)).mono ?_
    · intro y hy
      simp only [List.mem_cons, List.not_mem_nil, or_false] at hy
      rcases hy with rfl | rfl | rfl | rfl | rfl | rfl
      all_goals rfl
    rintro e w3 ⟨x, hx, rfl, hc, hg⟩
    have HX := hid hx
    have C3 := hid hc
    have hg2 := wtr (World.grownBy_alloc w1 _ _) hg
    have G3 := hid (wtr G1.out hg2)
    have T3 := hid (T1.out.grown hg2 (by have := HT.out; simp; omega))
    have c := T3.out.cells
    have f := T3.out.loose
    clear hx hc hg hg2
    go_wp2
    have d := (T3.out.put 1 x).cells
    refine bodyPost_ret (v := .agg #[.int .i64 1, .string x]) (by simp [results, Tryd.results23, go_sem, d]) rfl ⟨1, x, rfl, .inl ⟨rfl, HX.out.out⟩, (C3.out.set (by have := HT.out; omega)).set (by have := HT.out; omega), wst_new (wst_new G3.out (Nat.le_refl _) _ _) (Nat.le_refl _) _ _⟩
def allP (P : ByteArray → Prop) : List ByteArray → Prop
  | [] => True
  | y :: r => P y ∧ allP P r
theorem allP_in {P : ByteArray → Prop} : ∀ {l : List ByteArray}, allP P l → ∀ y ∈ l, P y
  | _ :: _, h, y, hy => by
    rcases List.mem_cons.1 hy with rfl | hy
    · exact h.1
    · exact allP_in h.2 y hy
def strs (cs : Array Value) : List ByteArray := cs.toList.map fun v => match v with | .string s => s | _ => ⟨#[]⟩
theorem pickC_any (P : ByteArray → Prop) (cb k : Nat) (cs : Array Value) (ao : Option Addr) (n cap : Nat) (w : World) (hn : n ≤ 1048576) (hcur : Cur w cb ao n cap) (hcode : Code w cb ao n) (hcs : cs = ((strs cs).map Value.string).toArray) (hk : (strs cs).length = k) (hk0 : 0 < k) (hk2 : k ≤ 1000) (hz : allP P (strs cs)) :
    Calls Tryd.prog 31 #[.pointer (some ⟨cb, 0, none⟩), .slice (some ⟨w.heap.size, 0, none⟩) k k] (w.alloc (.cells cs 9)) fun e w' => ∃ x : ByteArray, Hid (P x) ∧ e = .returned (.string x) ∧ Cur w' cb ao n cap ∧ w.grownBy w' (some cb) := by
  refine (pickP_any P cb w.heap.size k (strs cs) ao n cap _ hn (hcur.alloc _) (hcode.later (World.grownBy_alloc _ _ _)) hk hk0 hk2 (by have := hcur.lt; omega) (allP_in hz) (rowT w 9 _ _ hcs)).mono ?_
  rintro e w' ⟨x, h1, h2, h3, h4⟩
  exact ⟨x, h1, h2, h3, wtr (World.grownBy_alloc w _ _) h4⟩
abbrev S61 (y : ByteArray) : Prop := y.size ≤ 61
set_option maxHeartbeats 800000 in
set_option maxRecDepth 100000 in
theorem drawAtom_any (ao : Option Addr) (n cap : Nat) (w : World) (hn : n ≤ 1048576) (hcode : Code w w.heap.size ao n) :
    Calls Tryd.prog 16 #[.slice ao n cap] w fun e w' => ∃ x : ByteArray, Hid (S61 x) ∧ e = .returned (.string x) ∧ Below w.heap.size w w' := by
  have HO := hid hcode
  clear hcode
  go_enter Tryd.func16, Tryd.ntmps16
  go_wp2_with fail
  refine (new_any ao n cap _ hn HO.out).mono ?_; rintro e w1 ⟨rfl, hc1, ho1, hb1⟩
  have C1 := hid hc1
  have O1 := hid ho1
  have B1 := hid hb1
  clear hc1 ho1 hb1
  go_wp2_with fail
  refine (long13 40 97 97 rfl _ (by decide)).mono ?_; rintro e w2 ⟨z, hz, rfl, hb⟩
  have C2 := hid (C1.out.later hb C1.out.lt)
  have O2 := hid (O1.out.later (grown_below hb _))
  have B2 := hid (btr B1.out hb)
  clear hb C1 O1 B1
  go_wp2_with fail
  refine (long13 41 97 97 rfl _ (by decide)).mono ?_; rintro e w3 ⟨z2, hz2, rfl, hb⟩
  have C3 := hid (C2.out.later hb C2.out.lt)
  have O3 := hid (O2.out.later (grown_below hb _))
  have B3 := hid (btr B2.out hb)
  clear hb C2 O2 B2
  go_wp2_with fail
  refine (pickC_any S61 w.heap.size 10 _ ao n cap w3 hn C3.out O3.out (by rfl) (by rfl) (by decide) (by decide) (by exact ⟨by decide, by decide, by decide, by decide, by decide, by decide, by decide, (by show _ ≤ _; rw [hz.out]; decide), (by show _ ≤ _; rw [hz2.out]; decide), by decide, trivial⟩)).mono ?_
  rintro e w4 ⟨x, hx, rfl, _, hg⟩
  have B4 := hid (B3.out.trans (only_below hg (Nat.le_refl _) B3.out.size))
  clear hg hz hz2 C3 O3 B3
  go_wp2
  go_ret
  exact ⟨x, hx, rfl, B4.out⟩
set_option maxHeartbeats 800000 in
set_option maxRecDepth 100000 in
theorem drawQuote_any (ao : Option Addr) (n cap : Nat) (w : World) (hn : n ≤ 1048576) (hcode : Code w w.heap.size ao n) :
    Calls Tryd.prog 13 #[.slice ao n cap] w fun e w' => ∃ x : ByteArray, Hid (S61 x) ∧ e = .returned (.string x) ∧ Below w.heap.size w w' := by
  have HO := hid hcode
  clear hcode
  go_enter Tryd.func13, Tryd.ntmps13
  go_wp2_with fail
  refine (new_any ao n cap _ hn HO.out).mono ?_; rintro e w1 ⟨rfl, hc1, ho1, hb1⟩
  have C1 := hid hc1
  have O1 := hid ho1
  have B1 := hid hb1
  clear hc1 ho1 hb1
  go_wp2_with fail
  refine (long13 60 34 34 rfl _ (by decide)).mono ?_; rintro e w2 ⟨z, hz, rfl, hb⟩
  have C2 := hid (C1.out.later hb C1.out.lt)
  have O2 := hid (O1.out.later (grown_below hb _))
  have B2 := hid (btr B1.out hb)
  clear hb C1 O1 B1
  go_wp2_with fail
  refine (long13 61 97 97 rfl _ (by decide)).mono ?_; rintro e w3 ⟨z2, hz2, rfl, hb⟩
  have C3 := hid (C2.out.later hb C2.out.lt)
  have O3 := hid (O2.out.later (grown_below hb _))
  have B3 := hid (btr B2.out hb)
  clear hb C2 O2 B2
  go_wp2_with fail
  refine (pickC_any S61 w.heap.size 8 _ ao n cap w3 hn C3.out O3.out (by rfl) (by rfl) (by decide) (by decide) (by exact ⟨by decide, by decide, by decide, by decide, by decide, by decide, (by show _ ≤ _; rw [hz.out]; decide), (by show _ ≤ _; rw [hz2.out]; decide), trivial⟩)).mono ?_
  rintro e w4 ⟨x, hx, rfl, _, hg⟩
  have B4 := hid (B3.out.trans (only_below hg (Nat.le_refl _) B3.out.size))
  clear hg hz hz2 C3 O3 B3
  go_wp2
  go_ret
  exact ⟨x, hx, rfl, B4.out⟩
set_option maxHeartbeats 800000 in
set_option maxRecDepth 100000 in
theorem drawTokenText_any (ao : Option Addr) (n cap : Nat) (w : World) (hn : n ≤ 1048576) (hcode : Code w w.heap.size ao n) :
    Calls Tryd.prog 17 #[.slice ao n cap] w fun e w' => ∃ kd t, e = .returned (.agg #[.int .i64 kd, .string t]) ∧ Hid (okt (kd, t)) ∧ Below w.heap.size w w' := by
  obtain ⟨W0, hW0⟩ : ∃ W0, w.alloc (.cells #[.int .i64 0, .string ⟨#[]⟩] 28) = W0 := ⟨_, rfl⟩
  have b0 : Below w.heap.size w W0 := by subst hW0; exact bpush (bre _) _
  have t0 : Tok W0 w.heap.size 28 0 ⟨#[]⟩ := by subst hW0; exact Tok.new w _ _ _
  have o0 : Code W0 W0.heap.size ao n := by
    intro h
    obtain ⟨b, off, h1, h2, h3⟩ := hcode h
    have hs := b0.size
    refine ⟨b, off, h1, by omega, fun j hj => ?_⟩
    obtain ⟨x, hx, hc⟩ := h3 j hj
    exact ⟨x, hx, (b0.cell (p := ⟨b, off + j, none⟩) h2).trans hc⟩
  have b0s := b0.size
  have HO1 := hid o0
  have HLT := hid t0.lt
  have T0 := hid t0
  have B0 := hid b0
  have HW := hid hW0
  clear hcode b0 t0 o0 hW0
  go_enter Tryd.func17, Tryd.ntmps17
  go_wp2_with fail
  rw [HW.out]
  clear HW
  refine (new_any ao n cap _ hn HO1.out).mono ?_; rintro e w1 ⟨rfl, hc1, ho1, hb1⟩
  have C1 := hid hc1
  have O1 := hid ho1
  have B1 := hid (btr B0.out hb1)
  have T1 := hid (T0.out.later hb1)
  clear hc1 ho1 hb1 T0
  go_wp2_with fail
  refine (l13Token_any _ ao n cap _ hn C1.out O1.out).mono ?_; rintro e w2 ⟨kd, t, rfl, hk, hc, hg⟩
  have T2 := hid (T1.out.grown hg (by have := HLT.out; simp; omega))
  have B2 := hid (B1.out.trans (only_below hg b0s B1.out.size))
  have c := T2.out.cells
  have f := T2.out.loose
  clear hc hg C1 O1 B1 T1
  go_wp2
  have d := (T2.out.put kd t).cells
  refine bodyPost_ret (v := .agg #[.int .i64 kd, .string t]) (by simp [results, Tryd.results17, go_sem, d]) rfl ⟨kd, t, rfl, hk, bsk (bsk B2.out (Nat.le_refl _) 0 _) (Nat.le_refl _) 1 _⟩
theorem wrap13_small (x : Int) (h1 : -9223372036854775808 ≤ x) (h2 : x ≤ 9223372036854775807) : IntKind.i64.wrap x = x := by rw [IntKind.wrap_i64]; omega
theorem text13_any (cb : Nat) (ao : Option Addr) (n cap : Nat) (w : World) (hn : n ≤ 1048576) (hcur : Cur w cb ao n cap) (hcode : Code w cb ao n) :
    Calls Tryd.prog 49 #[.pointer (some ⟨cb, 0, none⟩), .int .i64 1] w fun e w' => ∃ x : ByteArray, x.size = 1 ∧ e = .returned (.string x) ∧ Cur w' cb ao n cap ∧ w.grownBy w' (some cb) := by
  refine (text_any cb ao n cap 1 w hn hcur hcode (by decide)).mono ?_
  rintro e w1 ⟨bs, hb, rfl, hc, hg⟩
  exact ⟨_, by show bs.toArray.size = 1; simp [hb], rfl, hc, hg⟩
theorem ttx_size {kd : Int} {t : ByteArray} (h : okt (kd, t)) : (ttx kd t).size ≤ 125 := by
  unfold ttx
  rcases h with ⟨h1, h2⟩ | ⟨h1, h2⟩
  · have h1' : kd = 1 := h1
    rw [if_pos h1']
    have h3 : atk t = true := h2
    unfold atk at h3
    simp only [Bool.and_eq_true, decide_eq_true_eq] at h3
    omega
  · have h1' : kd = 2 := h1
    have h2' : t.size ≤ 60 := h2
    rw [if_neg (by omega)]
    split
    · show (34 :: (qto t.data.toList ++ [34])).toArray.size ≤ 125
      have := qto_len t.data.toList
      rw [dat_len] at this
      simp
      omega
    · have h4 := dg_len 1 t.size (by omega)
      rw [ByteArray.size_append, ByteArray.size_append, ByteArray.size_append]
      have e1 : (⟨(dg t.size).toArray⟩ : ByteArray).size = (dg t.size).length := by show (dg t.size).toArray.size = _; simp
      have e2 : (⟨#[123]⟩ : ByteArray).size = 1 := rfl
      have e3 : (⟨#[125, 13, 10]⟩ : ByteArray).size = 3 := rfl
      omega
theorem okt_size {kd : Int} {t : ByteArray} (h : okt (kd, t)) : t.size ≤ 60 := by
  rcases h with ⟨_, h2⟩ | ⟨_, h2⟩
  · have h3 : atk t = true := h2
    unfold atk at h3
    simp only [Bool.and_eq_true, decide_eq_true_eq] at h3
    omega
  · exact h2
theorem rowI4 (w : World) (a b c d : Int) (i : Nat) (h : i < [a, b, c, d].length) : (w.alloc (.cells #[.int .i64 a, .int .i64 b, .int .i64 c, .int .i64 d] 3)).cell? ⟨w.heap.size, i, none⟩ = some (.int .i64 [a, b, c, d][i]) := by
  have hi : i < 4 := h
  rw [cell_of_row _ _ _ _ _ _ (heap_alloc_new w _)]
  rcases (by omega : i = 0 ∨ i = 1 ∨ i = 2 ∨ i = 3) with rfl | rfl | rfl | rfl <;> rfl
theorem OwK.keep {W W' : World} {B cb : Nat} {v : Value} {l : List T2} (h : OwK W B v l) (hg : W.grownBy W' (some cb)) (hc : cb < B) : OwK W' B v l := World.ownsRow.kept h hg (by
  cases hv : Value.ownBlock v with
  | none => exact Or.inl rfl
  | some j => exact Or.inr (fun e => by
      have h1 := (World.ownsRow.lt h j hv).1
      have h2 : j = cb := Option.some.inj e
      omega))
set_option maxHeartbeats 3200000 in
set_option maxRecDepth 100000 in
theorem drawTokens_any (ao : Option Addr) (n cap : Nat) (w : World) (hn : n ≤ 1048576) (hcode : Code w w.heap.size ao n) :
    Calls Tryd.prog 6 #[.slice ao n cap] w fun e w' => ∃ v l, e = .returned v ∧ OwK w' w.heap.size v l ∧ l ≠ [] ∧ l.length ≤ 4 ∧ (∀ p ∈ l, okt p) ∧ Below w.heap.size w w' := by
  have HO := hid hcode
  clear hcode
  go_enter Tryd.func6, Tryd.ntmps6
  go_wp2_with fail
  refine (new_any ao n cap _ hn HO.out).mono ?_; rintro e w1 ⟨rfl, hc1, ho1, hb1⟩
  have C1 := hid hc1
  have O1 := hid ho1
  have B1 := hid hb1
  have HL0 := hid hc1.lt
  clear hc1 ho1 hb1
  have K0 := hid (ownK_empty w1 w1.heap.size (Nat.le_refl _))
  go_wp2
  go_loopw [4, 5] (fun ov iv wr => ∃ (i : Nat) (l : List T2), i ≤ 4 ∧ iv = .int .i64 (i : Int) ∧ Hid (l.length = i) ∧ OwK wr w1.heap.size ov l ∧ Hid (∀ p ∈ l, okt p) ∧ Cur wr w.heap.size ao n cap ∧ w1.grownBy wr (some w.heap.size)) (fun _ iv _ => 4 - (intOf iv).toNat)
  case atStart => exact ⟨0, [], Nat.zero_le _, rfl, rfl, K0.out, fun p hp => by simp at hp, C1.out.alloc _, World.grownBy_alloc _ _ _⟩
  case round =>
    obtain ⟨i, l, hi, rfl, HL, ho, HP, hc, hg⟩ := hrel
    have K1 := hid ho
    have G0 := hid hg
    have C0 := hid hc
    clear ho hc hg
    go_wp2_with fail
    refine (below4 w.heap.size ao n cap _ hn C0.out (O1.out.later G0.out) 4 (by decide) (by decide)).mono ?_; rintro e w2 ⟨x, hx, rfl, hc, hg⟩
    have K2 := hid (K1.out.keep hg HL0.out)
    have G2 := hid (only_trans G0.out hg)
    have C2 := hid hc
    clear hc hg K1 G0 C0
    by_cases hix : (i : Int) < 1 + (x : Int)
    · go_wp2_with fail
      refine (l13Token_any w.heap.size ao n cap _ hn C2.out (O1.out.later G2.out)).mono ?_; rintro e w3 ⟨kd, t, rfl, hk, hc, hg⟩
      have K3 := hid (K2.out.keep hg HL0.out)
      have G3 := hid (only_trans G2.out hg)
      have C3 := hid hc
      clear hc hg K2 G2 C2
      have HLN : Hid (l.length ≤ 1048576) := by show _ ≤ _; have := HL.out; omega
      have HS : Hid (w1.heap.size ≤ w3.heap.size) := hid G3.out.size
      go_wp2_with (at_builtin; refine wpList_append_tk w3 rfl (.tmp 16) (.tmp 19) rfl w1.heap.size _ _ (by rfl) K3.out _ _ rfl HLN.out HS.out ?_; intro v5 w5 ho5 hg5; have K5 := hid ho5; have B5 : Hid (Below w1.heap.size (w3.alloc (.cells #[.int .i64 kd, .string t] 28)) w5) := below_grownR hg5 (fun j hj => (World.ownsRow.lt K3.out j hj).1) (by have := HS.out; simp; omega); clear ho5 hg5)
      go_roundw
      case rel => exact ⟨i + 1, l ++ [(kd, t)], by omega, by go_num, (by show _ = _; rw [List.length_append, HL.out]; rfl), K5.out, (by intro z hz; rcases List.mem_append.1 hz with hz | hz; exact HP.out z hz; rw [List.mem_singleton.1 hz]; exact hk.out), (C3.out.alloc _).later B5.out HL0.out, only_add (wtr G3.out (World.grownBy_alloc _ _ _)) B5.out⟩
      case measure => simp [intOf]; omega
    · have HNE : Hid (l ≠ []) := by intro e; have := HL.out; rw [e] at this; simp at this; omega
      have HLE : Hid (l.length ≤ 4) := by show _ ≤ _; rw [HL.out]; exact hi
      go_wp2
      go_ret
      exact ⟨_, l, rfl, K2.out.down B1.out.size, HNE.out, HLE.out, HP.out, B1.out.trans (only_below G2.out (Nat.le_refl _) B1.out.size)⟩
theorem tc_at (l : List T2) (i : Nat) (h : i < l.length) : (tc l)[i * 2]? = some (.int .i64 l[i].1) ∧ (tc l)[i * 2 + 1]? = some (.string l[i].2) := by
  induction l generalizing i with
  | nil => simp at h
  | cons p l ih =>
    cases i with
    | zero => exact ⟨rfl, rfl⟩
    | succ i =>
      have h' : i < l.length := by simpa using h
      have := ih i h'
      have e : (i + 1) * 2 = i * 2 + 1 + 1 := by omega
      rw [e]
      simpa [tc] using this
section
variable {W W' : World} {B g n c : Nat} {l : List T2}
theorem OwK.len {a : Option Addr} (h : OwK W B (.slice a n c) l) : l.length = n := by
  obtain ⟨a', c', e⟩ := h.shape
  simp only [Value.slice.injEq] at e
  exact e.2.1.symm
theorem OwK.spot (h : OwK W B (.slice (some ⟨g, 0, none⟩) n c) l) (i : Nat) (hi : i < l.length) :
    (W.cell? ⟨g, i * 2, none⟩ = some (.int .i64 l[i].1) ∧ W.cell? ⟨g, i * 2 + 1, none⟩ = some (.string l[i].2)) ∧ W.frozen? ⟨g, i * 2, none⟩ = false ∧ W.frozen? ⟨g, i * 2 + 1, none⟩ = false := by
  obtain rfl := h.len
  exact ⟨⟨(World.ownsRow.cellAt h _ (by omega)).trans (tc_at l i hi).1, (World.ownsRow.cellAt h _ (by omega)).trans (tc_at l i hi).2⟩, World.ownsRow.frozenAt h _, World.ownsRow.frozenAt h _⟩
theorem OwK.some {a : Option Addr} (h : OwK W B (.slice a n c) l) (hn : 0 < n) : ∃ g, a = some ⟨g, 0, none⟩ := by
  rcases h.2 with ⟨h1, h2⟩ | ⟨g, cap, cur, h1, _⟩
  · have := h.len; omega
  · simp only [Value.slice.injEq] at h1
    exact ⟨g, h1.1⟩
end
theorem tks_len {s : ByteArray} : ∀ (f a : Nat) (l m : List T2) (n : Nat), tks s f a l = some (some (m, n)) → m.length ≤ 8
  | 0, _, _, _, _, h => by rw [tks] at h; cases h
  | f + 1, a, l, m, n, h => by
    rw [tks] at h
    split at h
    · cases h
    · cases h
    · split at h
      · cases h
      · split at h
        · cases h
        · split at h
          · split at h
            · cases h
            · split at h
              · simp only [Option.some.injEq, Prod.mk.injEq] at h
                rw [← h.1]
                omega
              · cases h
          · split at h
            · exact tks_len f _ _ _ _ h
            · cases h
theorem rtk_len {s : ByteArray} {l : List T2} {t : ByteArray} {c : Int} (h : rtk s = (l, t, c)) : l.length ≤ 8 := by
  rw [rtk] at h
  split at h
  · split at h <;> (simp only [Prod.mk.injEq] at h; rw [← h.1]; simp)
  · simp only [Prod.mk.injEq] at h; rw [← h.1]; simp
  · rename_i m n hm
    split at h
    · simp only [Prod.mk.injEq] at h; rw [← h.1]; simp
    · simp only [Prod.mk.injEq] at h; rw [← h.1]; exact tks_len _ _ _ _ _ hm
abbrev b13 (s : ByteArray) : List UInt8 := s.data.toList
theorem b13_inj {s t : ByteArray} (h : b13 s = b13 t) : s = t := ba_ext13 h
/-- These bytes stand at that place, and nothing behind them. -/
def St (s : ByteArray) (a : Nat) (L : List UInt8) : Prop := (b13 s).drop a = L
theorem St.get {s : ByteArray} {a : Nat} {x : UInt8} {L : List UInt8} (h : St s a (x :: L)) : s.data.toList[a]? = some x := by
  have h1 := congrArg (fun l => l[0]?) (show (b13 s).drop a = x :: L from h)
  simpa [List.getElem?_drop] using h1
theorem St.none {s : ByteArray} {a : Nat} (h : St s a []) : s.data.toList[a]? = none := by
  have h1 := congrArg (fun l => l[0]?) (show (b13 s).drop a = [] from h)
  simpa [List.getElem?_drop] using h1
theorem St.tail {s : ByteArray} {a : Nat} {x : UInt8} {L : List UInt8} (h : St s a (x :: L)) : St s (a + 1) L := by
  have h1 := congrArg (List.drop 1) (show (b13 s).drop a = x :: L from h)
  simpa [St, List.drop_drop] using h1
theorem St.behind {s : ByteArray} : ∀ (T : List UInt8) {a : Nat} {L : List UInt8}, St s a (T ++ L) → St s (a + T.length) L
  | [], _, _, h => h
  | x :: T, a, L, h => by
    have h1 := St.behind T (St.tail (by simpa using h))
    rw [List.length_cons, show a + (T.length + 1) = a + 1 + T.length by omega]
    exact h1
theorem St.cut {s : ByteArray} {a : Nat} {T L : List UInt8} (h : St s a (T ++ L)) : b13 (s.extract a (a + T.length)) = T := by
  have h1 := congrArg (List.take T.length) (show (b13 s).drop a = T ++ L from h)
  rw [List.take_left] at h1
  show (s.extract a (a + T.length)).data.toList = T
  rw [ByteArray.data_extract, Array.toList_extract, List.extract_eq_take_drop]
  rw [show a + T.length - a = T.length by omega]
  exact h1
theorem aen_here {s : ByteArray} {c : UInt8} {R : List UInt8} (hc : ato c = false) : ∀ (T : List UInt8) (f a : Nat), T.all ato = true → T.length < f → St s a (T ++ c :: R) → aen s f a = some (a + T.length)
  | [], f + 1, a, _, _, h => by
    rw [aen, St.get h]
    simp [hc]
  | x :: T, f + 1, a, ht, hf, h => by
    simp only [List.all_cons, Bool.and_eq_true] at ht
    have h1 := aen_here hc T f (a + 1) ht.2 (by simp at hf; omega) (St.tail (by simpa using h))
    rw [aen, St.get (L := T ++ c :: R) (by simpa using h)]
    simp only [ht.1, if_true]
    rw [h1, List.length_cons]
    congr 1
    omega
theorem aen_end {s : ByteArray} : ∀ (T : List UInt8) (f a : Nat), T.all ato = true → St s a T → aen s f a = none
  | _, 0, _, _, _ => rfl
  | [], f + 1, a, _, h => by rw [aen, St.none h]
  | x :: T, f + 1, a, ht, h => by
    simp only [List.all_cons, Bool.and_eq_true] at ht
    rw [aen, St.get h]
    simp only [ht.1, if_true]
    exact aen_end T f (a + 1) ht.2 (St.tail h)
theorem St.le {s : ByteArray} {a : Nat} {L : List UInt8} (h : St s a L) (hL : 0 < L.length) : a + L.length = s.size := by
  have h1 := congrArg List.length (show (b13 s).drop a = L from h)
  rw [List.length_drop, dat_len] at h1
  omega
theorem atk_in {t : ByteArray} (h : atk t = true) : (b13 t).all ato = true ∧ 1 ≤ (b13 t).length ∧ (b13 t).length ≤ 40 := by
  unfold atk at h
  simp only [Bool.and_eq_true, decide_eq_true_eq] at h
  rw [dat_len]
  exact ⟨h.1, by omega, by omega⟩
theorem ato_not {x : UInt8} (h : ato x = true) : x.toNat ≠ 34 ∧ x.toNat ≠ 123 := by
  unfold ato at h
  simp only [Bool.and_eq_true, decide_eq_true_eq, Bool.not_eq_true', beq_eq_false_iff_ne, ne_eq] at h
  omega
theorem tkn_atom {s t : ByteArray} {a : Nat} {c : UInt8} {R : List UInt8} (hk : atk t = true) (hc : ato c = false) (h : St s a (b13 t ++ c :: R)) : tkn s a = some (some ((1, t), a + (b13 t).length)) := by
  obtain ⟨h1, h2, h3⟩ := atk_in hk
  have hl := St.le h (by simp; omega)
  rw [List.length_append, List.length_cons] at hl
  have he : aen s (s.size + 1) a = some (a + (b13 t).length) := aen_here hc _ _ _ h1 (by omega) h
  have hx : s.extract a (a + (b13 t).length) = t := b13_inj (St.cut h)
  have hr : ard s a = some (some (t, a + (b13 t).length)) := by
    unfold ard
    rw [he]
    simp only [hx, hk, if_true]
  cases hb : b13 t with
  | nil => rw [hb] at h2; simp at h2
  | cons x T =>
    rw [hb] at h h1
    simp only [List.all_cons, Bool.and_eq_true] at h1
    obtain ⟨n1, n2⟩ := ato_not h1.1
    unfold tkn
    rw [St.get (L := T ++ c :: R) (by simpa using h)]
    simp only [if_neg n1, if_neg n2]
    rw [hr, hb]
    rfl
theorem tkn_atom_end {s t : ByteArray} {a m : Nat} (hk : atk t = true) (h : St s a ((b13 t).take m)) : tkn s a = none := by
  obtain ⟨h1, h2, h3⟩ := atk_in hk
  have h4 : ((b13 t).take m).all ato = true := by
    rw [List.all_eq_true] at h1 ⊢
    exact fun x hx => h1 x (List.mem_of_mem_take hx)
  have he := aen_end _ (s.size + 1) a h4 h
  have hr : ard s a = none := by unfold ard; rw [he]
  cases hb : (b13 t).take m with
  | nil => rw [hb] at h; unfold tkn; rw [St.none h]
  | cons x T =>
    rw [hb] at h h4
    simp only [List.all_cons, Bool.and_eq_true] at h4
    obtain ⟨n1, n2⟩ := ato_not h4.1
    unfold tkn
    rw [St.get h]
    simp only [if_neg n1, if_neg n2]
    rw [hr]
    rfl
theorem prt_in {x : UInt8} (h : prt x = true) : ¬ (x.toNat < 32 ∨ 126 < x.toNat) := by
  unfold prt at h
  simp only [Bool.and_eq_true, decide_eq_true_eq] at h
  omega
theorem qd_here {s : ByteArray} {e : UInt8} {R : List UInt8} (he : e.toNat = 34) : ∀ (T : List UInt8) (f a : Nat) (acc : List UInt8), T.all prt = true → T.length < f → acc.length + T.length ≤ 60 → St s a (qto T ++ e :: R) → qd s f a acc = some (some (⟨(acc ++ T).toArray⟩, a + (qto T).length + 1))
  | [], f + 1, a, acc, _, _, _, h => by
    rw [qd, St.get (L := R) (by simpa [qto] using h)]
    simp [he, qto]
  | x :: T, f + 1, a, acc, ht, hf, hl, h => by
    simp only [List.all_cons, Bool.and_eq_true] at ht
    simp only [List.length_cons] at hf hl
    by_cases hx : x.toNat = 34 ∨ x.toNat = 92
    · have hq : qto (x :: T) = 92 :: x :: qto T := by simp only [qto, if_pos hx, List.cons_append, List.nil_append]
      rw [hq] at h
      have g1 : s.data.toList[a]? = some 92 := St.get (L := x :: (qto T ++ e :: R)) h
      have h2 : St s (a + 1) (x :: (qto T ++ e :: R)) := St.tail (x := 92) h
      have g2 : s.data.toList[a + 1]? = some x := St.get h2
      have h3 := qd_here he T f (a + 2) (acc ++ [x]) ht.2 (by omega) (by simp; omega) (St.tail h2)
      rw [qd, g1]
      simp only [g2]
      rw [if_neg (by decide), if_pos (by decide), if_pos hx, if_neg (by omega), h3, hq]
      simp only [List.length_cons, List.append_assoc, List.cons_append, List.nil_append]
      congr 3
      omega
    · have hq : qto (x :: T) = x :: qto T := by simp only [qto, if_neg hx, List.cons_append, List.nil_append]
      rw [hq] at h
      have g1 : s.data.toList[a]? = some x := St.get (L := qto T ++ e :: R) h
      have h3 := qd_here he T f (a + 1) (acc ++ [x]) ht.2 (by omega) (by simp; omega) (St.tail (x := x) h)
      rw [qd, g1]
      simp only []
      rw [if_neg (by omega), if_neg (by omega), if_neg (prt_in ht.1), if_neg (by omega), h3, hq]
      simp only [List.length_cons, List.append_assoc, List.cons_append, List.nil_append]
      congr 3
      omega
theorem qd_end {s : ByteArray} : ∀ (T : List UInt8) (m f a : Nat) (acc : List UInt8), T.all prt = true → acc.length + T.length ≤ 60 → St s a ((qto T).take m) → qd s f a acc = none
  | _, _, 0, _, _, _, _, _ => rfl
  | [], m, f + 1, a, acc, _, _, h => by
    rw [qd, St.none (by simpa [qto] using h)]
  | x :: T, m, f + 1, a, acc, ht, hl, h => by
    simp only [List.all_cons, Bool.and_eq_true] at ht
    simp only [List.length_cons] at hl
    cases m with
    | zero => rw [qd, St.none (by simpa using h)]
    | succ m =>
      by_cases hx : x.toNat = 34 ∨ x.toNat = 92
      · have hq : qto (x :: T) = 92 :: x :: qto T := by simp only [qto, if_pos hx, List.cons_append, List.nil_append]
        rw [hq, List.take_succ_cons] at h
        have g1 : s.data.toList[a]? = some 92 := St.get h
        cases m with
        | zero =>
          have g2 : s.data.toList[a + 1]? = none := St.none (by simpa using St.tail h)
          rw [qd, g1]
          simp only [g2]
          rw [if_neg (by decide), if_pos (by decide)]
        | succ m =>
          rw [List.take_succ_cons] at h
          have h2 := St.tail h
          have g2 : s.data.toList[a + 1]? = some x := St.get h2
          have h3 := qd_end T m f (a + 2) (acc ++ [x]) ht.2 (by simp; omega) (St.tail h2)
          rw [qd, g1]
          simp only [g2]
          rw [if_neg (by decide), if_pos (by decide), if_pos hx, if_neg (by omega), h3]
      · have hq : qto (x :: T) = x :: qto T := by simp only [qto, if_neg hx, List.cons_append, List.nil_append]
        rw [hq, List.take_succ_cons] at h
        have g1 : s.data.toList[a]? = some x := St.get h
        have h3 := qd_end T m f (a + 1) (acc ++ [x]) ht.2 (by simp; omega) (St.tail h)
        rw [qd, g1]
        simp only []
        rw [if_neg (by omega), if_neg (by omega), if_neg (prt_in ht.1), if_neg (by omega), h3]
theorem qok_in {t : ByteArray} (h : qok t = true) : (b13 t).all prt = true ∧ (b13 t).length ≤ 60 := by
  unfold qok at h
  simp only [Bool.and_eq_true, decide_eq_true_eq] at h
  rw [dat_len]
  exact h
theorem b13_q (t : ByteArray) : b13 (qtx t) = 34 :: (qto (b13 t) ++ [34]) := rfl
theorem tkn_quoted {s t : ByteArray} {a : Nat} {R : List UInt8} (hk : qok t = true) (h : St s a (b13 (qtx t) ++ R)) : tkn s a = some (some ((2, t), a + (b13 (qtx t)).length)) := by
  obtain ⟨h1, h2⟩ := qok_in hk
  rw [b13_q] at h
  have h0 : St s a (34 :: (qto (b13 t) ++ 34 :: R)) := by simpa using h
  have hl := St.le h0 (by simp)
  have hle := qto_len (b13 t)
  have hge : (b13 t).length ≤ (qto (b13 t)).length := by
    clear h h0 hl hle h1 h2
    induction b13 t with
    | nil => exact Nat.le_refl _
    | cons c l ih => simp only [qto]; split <;> simp <;> omega
  rw [List.length_cons, List.length_append] at hl
  have h3 := qd_here (e := 34) (by decide) (b13 t) (s.size + 1) (a + 1) [] h1 (by omega) (by simpa using h2) (St.tail h0)
  unfold tkn
  rw [St.get h0]
  simp only []
  rw [if_pos (by decide), h3]
  show some (some ((2, (⟨(b13 t).toArray⟩ : ByteArray)), a + 1 + (qto (b13 t)).length + 1)) = _
  rw [b13_q, List.length_cons, List.length_append, List.length_singleton]
  congr 3
  omega
theorem tkn_quoted_end {s t : ByteArray} {a m : Nat} (hk : qok t = true) (hm : m < (b13 (qtx t)).length) (h : St s a ((b13 (qtx t)).take m)) : tkn s a = none := by
  obtain ⟨h1, h2⟩ := qok_in hk
  rw [b13_q] at h hm
  rw [List.length_cons, List.length_append, List.length_singleton] at hm
  cases m with
  | zero => unfold tkn; rw [St.none (by simpa using h)]
  | succ m =>
    rw [List.take_succ_cons, List.take_append_of_le_length (by omega)] at h
    have h3 := qd_end (b13 t) m (s.size + 1) (a + 1) [] h1 (by simpa using h2) (St.tail h)
    unfold tkn
    rw [St.get h]
    simp only []
    rw [if_pos (by decide), h3]
    rfl
end Go.Proofs.YtmalpgbdemcmdaaDoor
